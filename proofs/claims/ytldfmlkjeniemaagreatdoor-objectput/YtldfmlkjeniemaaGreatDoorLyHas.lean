/- package layout: has the plan the part? Typed by tools/gen06.py. -/
import Derived.Test.YtldfmlkjeniemaaGreatDoorLyMayOn
set_option linter.unusedVariables false
namespace Go.Proofs.YtldfmlkjeniemaaGreatDoor
open Go.RowKit Go.Ly Go.Sh Go.Sort
theorem ext_ix0 (p : Value) (w : World) : (Instr.index 151 (.agg (extArr p)) (.int .i64 0)).run Tryz.prog w = .ok (.func (.func 102) #[p] #[]) w := by kernel_rfl
theorem ext_ix1 (p : Value) (w : World) : (Instr.index 151 (.agg (extArr p)) (.int .i64 1)).run Tryz.prog w = .ok (.func (.func 103) #[p] #[]) w := by kernel_rfl
theorem ext_ix2 (p : Value) (w : World) : (Instr.index 151 (.agg (extArr p)) (.int .i64 2)).run Tryz.prog w = .ok (.func (.func 103) #[p] #[]) w := by kernel_rfl
theorem ext_ix3 (p : Value) (w : World) : (Instr.index 151 (.agg (extArr p)) (.int .i64 3)).run Tryz.prog w = .ok (.func (.func 103) #[p] #[]) w := by kernel_rfl
theorem ext_ix4 (p : Value) (w : World) : (Instr.index 151 (.agg (extArr p)) (.int .i64 4)).run Tryz.prog w = .ok (.func (.func 104) #[p] #[]) w := by kernel_rfl
theorem ext_ix5 (p : Value) (w : World) : (Instr.index 151 (.agg (extArr p)) (.int .i64 5)).run Tryz.prog w = .ok (.func (.func 104) #[p] #[]) w := by kernel_rfl
theorem ext_ix6 (p : Value) (w : World) : (Instr.index 151 (.agg (extArr p)) (.int .i64 6)).run Tryz.prog w = .ok (.func (.func 105) #[p] #[]) w := by kernel_rfl
set_option maxRecDepth 100000 in
set_option maxHeartbeats 8000000 in
theorem has_1 (t s x y : Int) (a : Option Addr) (n c : Nat) (b1 b2 : Bool) (w : World) (t0 : 1 ≤ t) (t1 : t ≤ 8) (s0 : 32 ≤ s) (s1 : s ≤ 4096) (h1 : Hid ((decide (0 ≤ x) && decide (x ≤ 0)) = b1)) (h2 : Hid ((decide (0 ≤ y) && decide (y ≤ 0)) = b2)) :
    Calls Tryz.prog 99 #[planV t s a n c, partV 1 x y] w fun e w' => e = .returned (.bool (b1 && b2)) ∧ Below w.heap.size w w' := by
  go_enter Tryz.func99, Tryz.ntmps99
  go_wp2_with fail
  have k0 := below2' w (.cells #[.int .i64 t, .int .i64 s, .slice a n c] 132) (.cells #[.int .i64 1, .int .i64 x, .int .i64 y] 102)
  have Rp : ((w.alloc (.cells #[.int .i64 t, .int .i64 s, .slice a n c] 132)).alloc (.cells #[.int .i64 1, .int .i64 x, .int .i64 y] 102)).heap[w.heap.size]? = _ := row2a (Below.refl _ _)
  have Rx : ((w.alloc (.cells #[.int .i64 t, .int .i64 s, .slice a n c] 132)).alloc (.cells #[.int .i64 1, .int .i64 x, .int .i64 y] 102)).heap[w.heap.size + 1]? = _ := last2 w _ _
  have B0 := hid k0
  clear k0
  generalize (w.alloc (.cells #[.int .i64 t, .int .i64 s, .slice a n c] 132)).alloc (.cells #[.int .i64 1, .int .i64 x, .int .i64 y] 102) = W at *
  have HRp := hid Rp
  have HRx := hid Rx
  have p0 := cell_regrown (at_row Rp 0 rfl)
  have p1 := cell_regrown (at_row Rp 1 rfl)
  have p2 := cell_regrown (at_row Rp 2 rfl)
  have x0 := cell_regrown (at_row Rx 0 rfl)
  clear Rp Rx
  have cE : ∀ d os, Calls Tryz.prog 89 #[planV t s a n c] (grow (redrawn W d) os) fun e w'' => e = .returned (.agg (extArr (planV t s a n c))) ∧ ∃ p : Regrown, w'' = grow (redrawn W p.d) p.os := fun d os => Calls.regrown_of (extents_any t s a n c _)
  have cF : ∀ d os, Calls Tryz.prog 103 #[planV t s a n c] (grow (redrawn W d) os) fun e w'' => e = .returned (.tuple #[.int .i64 1, .int .i64 1]) ∧ ∃ p : Regrown, w'' = grow (redrawn W p.d) p.os := fun d os => Calls.regrown_of (plOne_any t s a n c _)
  have hix := ext_ix1 (planV t s a n c)
  refine wp_region_quiet_below (by kernel_rfl) (by kernel_rfl) ?_
  repeat (go_big_quiet_step ((first | (go_at_call 89; exact cE _ _) | (go_at_call 103; exact cF _ _))))
  refine wpQuiet_nil ?_
  intro _ hw'
  obtain ⟨⟨dq, osq⟩, hw''⟩ := hw'
  subst hw''
  have kb := below_regrown W dq osq
  have Rp := row_below HRp.out kb
  have Rx := row_below HRx.out kb
  have B1 := hid (B0.out.trans (kb.mono B0.out.size))
  clear HRp HRx B0 kb p0 p1 p2 x0 cE cF hix
  generalize grow (redrawn W dq) osq = w1 at *
  have HRx := hid Rx
  clear Rp Rx
  go_wp2_with (go_at_call 74; refine (lwithin_at 0 0 _).mono ?_)
  rintro e w2 ⟨ga, gb, rfl, W2, b2'⟩
  have Rx := row_below HRx.out b2'
  have B2 := hid (B1.out.trans (b2'.mono B1.out.size))
  clear HRx B1 b2'
  have HRx := hid Rx
  clear Rx
  go_wp2_with (go_at_call 74; refine (lwithin_at 0 0 _).mono ?_)
  rintro e w3 ⟨gc, gd, rfl, W3, b3⟩
  have Rx := row_below HRx.out b3
  have W2' := W2.below b3
  have B3 := hid (B2.out.trans (b3.mono B2.out.size))
  clear HRx B2 b3 W2
  have HRx := hid Rx
  have x1 := at_row Rx 1 rfl
  have x2 := at_row Rx 2 rfl
  clear Rx
  go_wp2_with (go_at_call 88; refine (lwin_new 0 0 x ga gb b1 w3 W2' h1).mono ?_)
  rintro e w4 ⟨rfl, b4⟩
  have Rx := row_below HRx.out b4
  have W3' := W3.below b4
  have B4 := hid (B3.out.trans (b4.mono B3.out.size))
  clear HRx B3 b4 W3 W2' x1 x2 h1
  have x1 := at_row Rx 1 rfl
  have x2 := at_row Rx 2 rfl
  clear Rx
  cases b1
  · go_wp2
    go_ret
    exact ⟨rfl, B4.out⟩
  · go_wp2_with (go_at_call 88; refine (lwin_new 0 0 y gc gd b2 w4 W3' h2).mono ?_; rintro e w5 ⟨rfl, b5⟩)
    go_ret
    exact ⟨ret_bool (Bool.true_and b2).symm, B4.out.trans (b5.mono B4.out.size)⟩
set_option maxRecDepth 100000 in
set_option maxHeartbeats 8000000 in
theorem has_2 (t s x y : Int) (a : Option Addr) (n c : Nat) (b1 b2 : Bool) (w : World) (t0 : 1 ≤ t) (t1 : t ≤ 8) (s0 : 32 ≤ s) (s1 : s ≤ 4096) (h1 : Hid ((decide (0 ≤ x) && decide (x ≤ 0)) = b1)) (h2 : Hid ((decide (0 ≤ y) && decide (y ≤ 0)) = b2)) :
    Calls Tryz.prog 99 #[planV t s a n c, partV 2 x y] w fun e w' => e = .returned (.bool (b1 && b2)) ∧ Below w.heap.size w w' := by
  go_enter Tryz.func99, Tryz.ntmps99
  go_wp2_with fail
  have k0 := below2' w (.cells #[.int .i64 t, .int .i64 s, .slice a n c] 132) (.cells #[.int .i64 2, .int .i64 x, .int .i64 y] 102)
  have Rp : ((w.alloc (.cells #[.int .i64 t, .int .i64 s, .slice a n c] 132)).alloc (.cells #[.int .i64 2, .int .i64 x, .int .i64 y] 102)).heap[w.heap.size]? = _ := row2a (Below.refl _ _)
  have Rx : ((w.alloc (.cells #[.int .i64 t, .int .i64 s, .slice a n c] 132)).alloc (.cells #[.int .i64 2, .int .i64 x, .int .i64 y] 102)).heap[w.heap.size + 1]? = _ := last2 w _ _
  have B0 := hid k0
  clear k0
  generalize (w.alloc (.cells #[.int .i64 t, .int .i64 s, .slice a n c] 132)).alloc (.cells #[.int .i64 2, .int .i64 x, .int .i64 y] 102) = W at *
  have HRp := hid Rp
  have HRx := hid Rx
  have p0 := cell_regrown (at_row Rp 0 rfl)
  have p1 := cell_regrown (at_row Rp 1 rfl)
  have p2 := cell_regrown (at_row Rp 2 rfl)
  have x0 := cell_regrown (at_row Rx 0 rfl)
  clear Rp Rx
  have cE : ∀ d os, Calls Tryz.prog 89 #[planV t s a n c] (grow (redrawn W d) os) fun e w'' => e = .returned (.agg (extArr (planV t s a n c))) ∧ ∃ p : Regrown, w'' = grow (redrawn W p.d) p.os := fun d os => Calls.regrown_of (extents_any t s a n c _)
  have cF : ∀ d os, Calls Tryz.prog 103 #[planV t s a n c] (grow (redrawn W d) os) fun e w'' => e = .returned (.tuple #[.int .i64 1, .int .i64 1]) ∧ ∃ p : Regrown, w'' = grow (redrawn W p.d) p.os := fun d os => Calls.regrown_of (plOne_any t s a n c _)
  have hix := ext_ix2 (planV t s a n c)
  refine wp_region_quiet_below (by kernel_rfl) (by kernel_rfl) ?_
  repeat (go_big_quiet_step ((first | (go_at_call 89; exact cE _ _) | (go_at_call 103; exact cF _ _))))
  refine wpQuiet_nil ?_
  intro _ hw'
  obtain ⟨⟨dq, osq⟩, hw''⟩ := hw'
  subst hw''
  have kb := below_regrown W dq osq
  have Rp := row_below HRp.out kb
  have Rx := row_below HRx.out kb
  have B1 := hid (B0.out.trans (kb.mono B0.out.size))
  clear HRp HRx B0 kb p0 p1 p2 x0 cE cF hix
  generalize grow (redrawn W dq) osq = w1 at *
  have HRx := hid Rx
  clear Rp Rx
  go_wp2_with (go_at_call 74; refine (lwithin_at 0 0 _).mono ?_)
  rintro e w2 ⟨ga, gb, rfl, W2, b2'⟩
  have Rx := row_below HRx.out b2'
  have B2 := hid (B1.out.trans (b2'.mono B1.out.size))
  clear HRx B1 b2'
  have HRx := hid Rx
  clear Rx
  go_wp2_with (go_at_call 74; refine (lwithin_at 0 0 _).mono ?_)
  rintro e w3 ⟨gc, gd, rfl, W3, b3⟩
  have Rx := row_below HRx.out b3
  have W2' := W2.below b3
  have B3 := hid (B2.out.trans (b3.mono B2.out.size))
  clear HRx B2 b3 W2
  have HRx := hid Rx
  have x1 := at_row Rx 1 rfl
  have x2 := at_row Rx 2 rfl
  clear Rx
  go_wp2_with (go_at_call 88; refine (lwin_new 0 0 x ga gb b1 w3 W2' h1).mono ?_)
  rintro e w4 ⟨rfl, b4⟩
  have Rx := row_below HRx.out b4
  have W3' := W3.below b4
  have B4 := hid (B3.out.trans (b4.mono B3.out.size))
  clear HRx B3 b4 W3 W2' x1 x2 h1
  have x1 := at_row Rx 1 rfl
  have x2 := at_row Rx 2 rfl
  clear Rx
  cases b1
  · go_wp2
    go_ret
    exact ⟨rfl, B4.out⟩
  · go_wp2_with (go_at_call 88; refine (lwin_new 0 0 y gc gd b2 w4 W3' h2).mono ?_; rintro e w5 ⟨rfl, b5⟩)
    go_ret
    exact ⟨ret_bool (Bool.true_and b2).symm, B4.out.trans (b5.mono B4.out.size)⟩
set_option maxRecDepth 100000 in
set_option maxHeartbeats 8000000 in
theorem has_3 (t s x y : Int) (a : Option Addr) (n c : Nat) (b1 b2 : Bool) (w : World) (t0 : 1 ≤ t) (t1 : t ≤ 8) (s0 : 32 ≤ s) (s1 : s ≤ 4096) (h1 : Hid ((decide (0 ≤ x) && decide (x ≤ 0)) = b1)) (h2 : Hid ((decide (0 ≤ y) && decide (y ≤ 0)) = b2)) :
    Calls Tryz.prog 99 #[planV t s a n c, partV 3 x y] w fun e w' => e = .returned (.bool (b1 && b2)) ∧ Below w.heap.size w w' := by
  go_enter Tryz.func99, Tryz.ntmps99
  go_wp2_with fail
  have k0 := below2' w (.cells #[.int .i64 t, .int .i64 s, .slice a n c] 132) (.cells #[.int .i64 3, .int .i64 x, .int .i64 y] 102)
  have Rp : ((w.alloc (.cells #[.int .i64 t, .int .i64 s, .slice a n c] 132)).alloc (.cells #[.int .i64 3, .int .i64 x, .int .i64 y] 102)).heap[w.heap.size]? = _ := row2a (Below.refl _ _)
  have Rx : ((w.alloc (.cells #[.int .i64 t, .int .i64 s, .slice a n c] 132)).alloc (.cells #[.int .i64 3, .int .i64 x, .int .i64 y] 102)).heap[w.heap.size + 1]? = _ := last2 w _ _
  have B0 := hid k0
  clear k0
  generalize (w.alloc (.cells #[.int .i64 t, .int .i64 s, .slice a n c] 132)).alloc (.cells #[.int .i64 3, .int .i64 x, .int .i64 y] 102) = W at *
  have HRp := hid Rp
  have HRx := hid Rx
  have p0 := cell_regrown (at_row Rp 0 rfl)
  have p1 := cell_regrown (at_row Rp 1 rfl)
  have p2 := cell_regrown (at_row Rp 2 rfl)
  have x0 := cell_regrown (at_row Rx 0 rfl)
  clear Rp Rx
  have cE : ∀ d os, Calls Tryz.prog 89 #[planV t s a n c] (grow (redrawn W d) os) fun e w'' => e = .returned (.agg (extArr (planV t s a n c))) ∧ ∃ p : Regrown, w'' = grow (redrawn W p.d) p.os := fun d os => Calls.regrown_of (extents_any t s a n c _)
  have cF : ∀ d os, Calls Tryz.prog 103 #[planV t s a n c] (grow (redrawn W d) os) fun e w'' => e = .returned (.tuple #[.int .i64 1, .int .i64 1]) ∧ ∃ p : Regrown, w'' = grow (redrawn W p.d) p.os := fun d os => Calls.regrown_of (plOne_any t s a n c _)
  have hix := ext_ix3 (planV t s a n c)
  refine wp_region_quiet_below (by kernel_rfl) (by kernel_rfl) ?_
  repeat (go_big_quiet_step ((first | (go_at_call 89; exact cE _ _) | (go_at_call 103; exact cF _ _))))
  refine wpQuiet_nil ?_
  intro _ hw'
  obtain ⟨⟨dq, osq⟩, hw''⟩ := hw'
  subst hw''
  have kb := below_regrown W dq osq
  have Rp := row_below HRp.out kb
  have Rx := row_below HRx.out kb
  have B1 := hid (B0.out.trans (kb.mono B0.out.size))
  clear HRp HRx B0 kb p0 p1 p2 x0 cE cF hix
  generalize grow (redrawn W dq) osq = w1 at *
  have HRx := hid Rx
  clear Rp Rx
  go_wp2_with (go_at_call 74; refine (lwithin_at 0 0 _).mono ?_)
  rintro e w2 ⟨ga, gb, rfl, W2, b2'⟩
  have Rx := row_below HRx.out b2'
  have B2 := hid (B1.out.trans (b2'.mono B1.out.size))
  clear HRx B1 b2'
  have HRx := hid Rx
  clear Rx
  go_wp2_with (go_at_call 74; refine (lwithin_at 0 0 _).mono ?_)
  rintro e w3 ⟨gc, gd, rfl, W3, b3⟩
  have Rx := row_below HRx.out b3
  have W2' := W2.below b3
  have B3 := hid (B2.out.trans (b3.mono B2.out.size))
  clear HRx B2 b3 W2
  have HRx := hid Rx
  have x1 := at_row Rx 1 rfl
  have x2 := at_row Rx 2 rfl
  clear Rx
  go_wp2_with (go_at_call 88; refine (lwin_new 0 0 x ga gb b1 w3 W2' h1).mono ?_)
  rintro e w4 ⟨rfl, b4⟩
  have Rx := row_below HRx.out b4
  have W3' := W3.below b4
  have B4 := hid (B3.out.trans (b4.mono B3.out.size))
  clear HRx B3 b4 W3 W2' x1 x2 h1
  have x1 := at_row Rx 1 rfl
  have x2 := at_row Rx 2 rfl
  clear Rx
  cases b1
  · go_wp2
    go_ret
    exact ⟨rfl, B4.out⟩
  · go_wp2_with (go_at_call 88; refine (lwin_new 0 0 y gc gd b2 w4 W3' h2).mono ?_; rintro e w5 ⟨rfl, b5⟩)
    go_ret
    exact ⟨ret_bool (Bool.true_and b2).symm, B4.out.trans (b5.mono B4.out.size)⟩
set_option maxRecDepth 100000 in
set_option maxHeartbeats 8000000 in
theorem has_4 (t s x y : Int) (a : Option Addr) (n c : Nat) (b1 b2 : Bool) (w : World) (t0 : 1 ≤ t) (t1 : t ≤ 8) (s0 : 32 ≤ s) (s1 : s ≤ 4096) (h1 : Hid ((decide (0 ≤ x) && decide (x ≤ (t - 1))) = b1)) (h2 : Hid ((decide (0 ≤ y) && decide (y ≤ 0)) = b2)) :
    Calls Tryz.prog 99 #[planV t s a n c, partV 4 x y] w fun e w' => e = .returned (.bool (b1 && b2)) ∧ Below w.heap.size w w' := by
  go_enter Tryz.func99, Tryz.ntmps99
  go_wp2_with fail
  have k0 := below2' w (.cells #[.int .i64 t, .int .i64 s, .slice a n c] 132) (.cells #[.int .i64 4, .int .i64 x, .int .i64 y] 102)
  have Rp : ((w.alloc (.cells #[.int .i64 t, .int .i64 s, .slice a n c] 132)).alloc (.cells #[.int .i64 4, .int .i64 x, .int .i64 y] 102)).heap[w.heap.size]? = _ := row2a (Below.refl _ _)
  have Rx : ((w.alloc (.cells #[.int .i64 t, .int .i64 s, .slice a n c] 132)).alloc (.cells #[.int .i64 4, .int .i64 x, .int .i64 y] 102)).heap[w.heap.size + 1]? = _ := last2 w _ _
  have B0 := hid k0
  clear k0
  generalize (w.alloc (.cells #[.int .i64 t, .int .i64 s, .slice a n c] 132)).alloc (.cells #[.int .i64 4, .int .i64 x, .int .i64 y] 102) = W at *
  have HRp := hid Rp
  have HRx := hid Rx
  have p0 := cell_regrown (at_row Rp 0 rfl)
  have p1 := cell_regrown (at_row Rp 1 rfl)
  have p2 := cell_regrown (at_row Rp 2 rfl)
  have x0 := cell_regrown (at_row Rx 0 rfl)
  clear Rp Rx
  have cE : ∀ d os, Calls Tryz.prog 89 #[planV t s a n c] (grow (redrawn W d) os) fun e w'' => e = .returned (.agg (extArr (planV t s a n c))) ∧ ∃ p : Regrown, w'' = grow (redrawn W p.d) p.os := fun d os => Calls.regrown_of (extents_any t s a n c _)
  have cF : ∀ d os, Calls Tryz.prog 104 #[planV t s a n c] (grow (redrawn W d) os) fun e w'' => e = .returned (.tuple #[.int .i64 t, .int .i64 1]) ∧ ∃ p : Regrown, w'' = grow (redrawn W p.d) p.os := fun d os => Calls.regrown_of (plThread_any t s a n c _)
  have hix := ext_ix4 (planV t s a n c)
  refine wp_region_quiet_below (by kernel_rfl) (by kernel_rfl) ?_
  repeat (go_big_quiet_step ((first | (go_at_call 89; exact cE _ _) | (go_at_call 104; exact cF _ _))))
  refine wpQuiet_nil ?_
  intro _ hw'
  obtain ⟨⟨dq, osq⟩, hw''⟩ := hw'
  subst hw''
  have kb := below_regrown W dq osq
  have Rp := row_below HRp.out kb
  have Rx := row_below HRx.out kb
  have B1 := hid (B0.out.trans (kb.mono B0.out.size))
  clear HRp HRx B0 kb p0 p1 p2 x0 cE cF hix
  generalize grow (redrawn W dq) osq = w1 at *
  have HRx := hid Rx
  clear Rp Rx
  go_wp2_with (go_at_call 74; refine (lwithin_at 0 (t - 1) _).mono ?_)
  rintro e w2 ⟨ga, gb, rfl, W2, b2'⟩
  have Rx := row_below HRx.out b2'
  have B2 := hid (B1.out.trans (b2'.mono B1.out.size))
  clear HRx B1 b2'
  have HRx := hid Rx
  clear Rx
  go_wp2_with (go_at_call 74; refine (lwithin_at 0 0 _).mono ?_)
  rintro e w3 ⟨gc, gd, rfl, W3, b3⟩
  have Rx := row_below HRx.out b3
  have W2' := W2.below b3
  have B3 := hid (B2.out.trans (b3.mono B2.out.size))
  clear HRx B2 b3 W2
  have HRx := hid Rx
  have x1 := at_row Rx 1 rfl
  have x2 := at_row Rx 2 rfl
  clear Rx
  go_wp2_with (go_at_call 88; refine (lwin_new 0 (t - 1) x ga gb b1 w3 W2' h1).mono ?_)
  rintro e w4 ⟨rfl, b4⟩
  have Rx := row_below HRx.out b4
  have W3' := W3.below b4
  have B4 := hid (B3.out.trans (b4.mono B3.out.size))
  clear HRx B3 b4 W3 W2' x1 x2 h1
  have x1 := at_row Rx 1 rfl
  have x2 := at_row Rx 2 rfl
  clear Rx
  cases b1
  · go_wp2
    go_ret
    exact ⟨rfl, B4.out⟩
  · go_wp2_with (go_at_call 88; refine (lwin_new 0 0 y gc gd b2 w4 W3' h2).mono ?_; rintro e w5 ⟨rfl, b5⟩)
    go_ret
    exact ⟨ret_bool (Bool.true_and b2).symm, B4.out.trans (b5.mono B4.out.size)⟩
set_option maxRecDepth 100000 in
set_option maxHeartbeats 8000000 in
theorem has_5 (t s x y : Int) (a : Option Addr) (n c : Nat) (b1 b2 : Bool) (w : World) (t0 : 1 ≤ t) (t1 : t ≤ 8) (s0 : 32 ≤ s) (s1 : s ≤ 4096) (h1 : Hid ((decide (0 ≤ x) && decide (x ≤ (t - 1))) = b1)) (h2 : Hid ((decide (0 ≤ y) && decide (y ≤ 0)) = b2)) :
    Calls Tryz.prog 99 #[planV t s a n c, partV 5 x y] w fun e w' => e = .returned (.bool (b1 && b2)) ∧ Below w.heap.size w w' := by
  go_enter Tryz.func99, Tryz.ntmps99
  go_wp2_with fail
  have k0 := below2' w (.cells #[.int .i64 t, .int .i64 s, .slice a n c] 132) (.cells #[.int .i64 5, .int .i64 x, .int .i64 y] 102)
  have Rp : ((w.alloc (.cells #[.int .i64 t, .int .i64 s, .slice a n c] 132)).alloc (.cells #[.int .i64 5, .int .i64 x, .int .i64 y] 102)).heap[w.heap.size]? = _ := row2a (Below.refl _ _)
  have Rx : ((w.alloc (.cells #[.int .i64 t, .int .i64 s, .slice a n c] 132)).alloc (.cells #[.int .i64 5, .int .i64 x, .int .i64 y] 102)).heap[w.heap.size + 1]? = _ := last2 w _ _
  have B0 := hid k0
  clear k0
  generalize (w.alloc (.cells #[.int .i64 t, .int .i64 s, .slice a n c] 132)).alloc (.cells #[.int .i64 5, .int .i64 x, .int .i64 y] 102) = W at *
  have HRp := hid Rp
  have HRx := hid Rx
  have p0 := cell_regrown (at_row Rp 0 rfl)
  have p1 := cell_regrown (at_row Rp 1 rfl)
  have p2 := cell_regrown (at_row Rp 2 rfl)
  have x0 := cell_regrown (at_row Rx 0 rfl)
  clear Rp Rx
  have cE : ∀ d os, Calls Tryz.prog 89 #[planV t s a n c] (grow (redrawn W d) os) fun e w'' => e = .returned (.agg (extArr (planV t s a n c))) ∧ ∃ p : Regrown, w'' = grow (redrawn W p.d) p.os := fun d os => Calls.regrown_of (extents_any t s a n c _)
  have cF : ∀ d os, Calls Tryz.prog 104 #[planV t s a n c] (grow (redrawn W d) os) fun e w'' => e = .returned (.tuple #[.int .i64 t, .int .i64 1]) ∧ ∃ p : Regrown, w'' = grow (redrawn W p.d) p.os := fun d os => Calls.regrown_of (plThread_any t s a n c _)
  have hix := ext_ix5 (planV t s a n c)
  refine wp_region_quiet_below (by kernel_rfl) (by kernel_rfl) ?_
  repeat (go_big_quiet_step ((first | (go_at_call 89; exact cE _ _) | (go_at_call 104; exact cF _ _))))
  refine wpQuiet_nil ?_
  intro _ hw'
  obtain ⟨⟨dq, osq⟩, hw''⟩ := hw'
  subst hw''
  have kb := below_regrown W dq osq
  have Rp := row_below HRp.out kb
  have Rx := row_below HRx.out kb
  have B1 := hid (B0.out.trans (kb.mono B0.out.size))
  clear HRp HRx B0 kb p0 p1 p2 x0 cE cF hix
  generalize grow (redrawn W dq) osq = w1 at *
  have HRx := hid Rx
  clear Rp Rx
  go_wp2_with (go_at_call 74; refine (lwithin_at 0 (t - 1) _).mono ?_)
  rintro e w2 ⟨ga, gb, rfl, W2, b2'⟩
  have Rx := row_below HRx.out b2'
  have B2 := hid (B1.out.trans (b2'.mono B1.out.size))
  clear HRx B1 b2'
  have HRx := hid Rx
  clear Rx
  go_wp2_with (go_at_call 74; refine (lwithin_at 0 0 _).mono ?_)
  rintro e w3 ⟨gc, gd, rfl, W3, b3⟩
  have Rx := row_below HRx.out b3
  have W2' := W2.below b3
  have B3 := hid (B2.out.trans (b3.mono B2.out.size))
  clear HRx B2 b3 W2
  have HRx := hid Rx
  have x1 := at_row Rx 1 rfl
  have x2 := at_row Rx 2 rfl
  clear Rx
  go_wp2_with (go_at_call 88; refine (lwin_new 0 (t - 1) x ga gb b1 w3 W2' h1).mono ?_)
  rintro e w4 ⟨rfl, b4⟩
  have Rx := row_below HRx.out b4
  have W3' := W3.below b4
  have B4 := hid (B3.out.trans (b4.mono B3.out.size))
  clear HRx B3 b4 W3 W2' x1 x2 h1
  have x1 := at_row Rx 1 rfl
  have x2 := at_row Rx 2 rfl
  clear Rx
  cases b1
  · go_wp2
    go_ret
    exact ⟨rfl, B4.out⟩
  · go_wp2_with (go_at_call 88; refine (lwin_new 0 0 y gc gd b2 w4 W3' h2).mono ?_; rintro e w5 ⟨rfl, b5⟩)
    go_ret
    exact ⟨ret_bool (Bool.true_and b2).symm, B4.out.trans (b5.mono B4.out.size)⟩
set_option maxRecDepth 100000 in
set_option maxHeartbeats 8000000 in
theorem has_6 (t s x y : Int) (a : Option Addr) (n c : Nat) (b1 b2 : Bool) (w : World) (t0 : 1 ≤ t) (t1 : t ≤ 8) (s0 : 32 ≤ s) (s1 : s ≤ 4096) (h1 : Hid ((decide (0 ≤ x) && decide (x ≤ 1)) = b1)) (h2 : Hid ((decide (0 ≤ y) && decide (y ≤ (s - 1))) = b2)) :
    Calls Tryz.prog 99 #[planV t s a n c, partV 6 x y] w fun e w' => e = .returned (.bool (b1 && b2)) ∧ Below w.heap.size w w' := by
  go_enter Tryz.func99, Tryz.ntmps99
  go_wp2_with fail
  have k0 := below2' w (.cells #[.int .i64 t, .int .i64 s, .slice a n c] 132) (.cells #[.int .i64 6, .int .i64 x, .int .i64 y] 102)
  have Rp : ((w.alloc (.cells #[.int .i64 t, .int .i64 s, .slice a n c] 132)).alloc (.cells #[.int .i64 6, .int .i64 x, .int .i64 y] 102)).heap[w.heap.size]? = _ := row2a (Below.refl _ _)
  have Rx : ((w.alloc (.cells #[.int .i64 t, .int .i64 s, .slice a n c] 132)).alloc (.cells #[.int .i64 6, .int .i64 x, .int .i64 y] 102)).heap[w.heap.size + 1]? = _ := last2 w _ _
  have B0 := hid k0
  clear k0
  generalize (w.alloc (.cells #[.int .i64 t, .int .i64 s, .slice a n c] 132)).alloc (.cells #[.int .i64 6, .int .i64 x, .int .i64 y] 102) = W at *
  have HRp := hid Rp
  have HRx := hid Rx
  have p0 := cell_regrown (at_row Rp 0 rfl)
  have p1 := cell_regrown (at_row Rp 1 rfl)
  have p2 := cell_regrown (at_row Rp 2 rfl)
  have x0 := cell_regrown (at_row Rx 0 rfl)
  clear Rp Rx
  have cE : ∀ d os, Calls Tryz.prog 89 #[planV t s a n c] (grow (redrawn W d) os) fun e w'' => e = .returned (.agg (extArr (planV t s a n c))) ∧ ∃ p : Regrown, w'' = grow (redrawn W p.d) p.os := fun d os => Calls.regrown_of (extents_any t s a n c _)
  have cF : ∀ d os, Calls Tryz.prog 105 #[planV t s a n c] (grow (redrawn W d) os) fun e w'' => e = .returned (.tuple #[.int .i64 2, .int .i64 s]) ∧ ∃ p : Regrown, w'' = grow (redrawn W p.d) p.os := fun d os => Calls.regrown_of (plSpace_any t s a n c _)
  have hix := ext_ix6 (planV t s a n c)
  refine wp_region_quiet_below (by kernel_rfl) (by kernel_rfl) ?_
  repeat (go_big_quiet_step ((first | (go_at_call 89; exact cE _ _) | (go_at_call 105; exact cF _ _))))
  refine wpQuiet_nil ?_
  intro _ hw'
  obtain ⟨⟨dq, osq⟩, hw''⟩ := hw'
  subst hw''
  have kb := below_regrown W dq osq
  have Rp := row_below HRp.out kb
  have Rx := row_below HRx.out kb
  have B1 := hid (B0.out.trans (kb.mono B0.out.size))
  clear HRp HRx B0 kb p0 p1 p2 x0 cE cF hix
  generalize grow (redrawn W dq) osq = w1 at *
  have HRx := hid Rx
  clear Rp Rx
  go_wp2_with (go_at_call 74; refine (lwithin_at 0 1 _).mono ?_)
  rintro e w2 ⟨ga, gb, rfl, W2, b2'⟩
  have Rx := row_below HRx.out b2'
  have B2 := hid (B1.out.trans (b2'.mono B1.out.size))
  clear HRx B1 b2'
  have HRx := hid Rx
  clear Rx
  go_wp2_with (go_at_call 74; refine (lwithin_at 0 (s - 1) _).mono ?_)
  rintro e w3 ⟨gc, gd, rfl, W3, b3⟩
  have Rx := row_below HRx.out b3
  have W2' := W2.below b3
  have B3 := hid (B2.out.trans (b3.mono B2.out.size))
  clear HRx B2 b3 W2
  have HRx := hid Rx
  have x1 := at_row Rx 1 rfl
  have x2 := at_row Rx 2 rfl
  clear Rx
  go_wp2_with (go_at_call 88; refine (lwin_new 0 1 x ga gb b1 w3 W2' h1).mono ?_)
  rintro e w4 ⟨rfl, b4⟩
  have Rx := row_below HRx.out b4
  have W3' := W3.below b4
  have B4 := hid (B3.out.trans (b4.mono B3.out.size))
  clear HRx B3 b4 W3 W2' x1 x2 h1
  have x1 := at_row Rx 1 rfl
  have x2 := at_row Rx 2 rfl
  clear Rx
  cases b1
  · go_wp2
    go_ret
    exact ⟨rfl, B4.out⟩
  · go_wp2_with (go_at_call 88; refine (lwin_new 0 (s - 1) y gc gd b2 w4 W3' h2).mono ?_; rintro e w5 ⟨rfl, b5⟩)
    go_ret
    exact ⟨ret_bool (Bool.true_and b2).symm, B4.out.trans (b5.mono B4.out.size)⟩
end Go.Proofs.YtldfmlkjeniemaaGreatDoor
