/- package layout: the word of a part that the plan has. Typed by tools/gen06.py. -/
import Derived.Test.YtldfmlkjeniemaaGreatDoorLyHas
set_option linter.unusedVariables false
namespace Go.Proofs.YtldfmlkjeniemaaGreatDoor
open Go.RowKit Go.Ly Go.Sh Go.Sort
set_option maxRecDepth 100000 in
set_option maxHeartbeats 8000000 in
theorem pat_1 (t s y : Int) (x : Int) (a : Option Addr) (n c : Nat) (w : World) (t0 : 1 ≤ t) (t1 : t ≤ 8) (s0 : 32 ≤ s) (s1 : s ≤ 4096) (x0 : 0 ≤ x) (x1 : x ≤ 0) (y0 : 0 ≤ y) (y1 : y ≤ 0) :
    Calls Tryz.prog 100 #[planV t s a n c, partV 1 x y] w fun e w' => e = .returned (.int .i64 (0 + x + y)) ∧ Below w.heap.size w w' := by
  go_enter Tryz.func100, Tryz.ntmps100
  go_wp2_with fail
  have k0 := below2' w (.cells #[.int .i64 t, .int .i64 s, .slice a n c] 132) (.cells #[.int .i64 1, .int .i64 x, .int .i64 y] 102)
  have Rp : ((w.alloc (.cells #[.int .i64 t, .int .i64 s, .slice a n c] 132)).alloc (.cells #[.int .i64 1, .int .i64 x, .int .i64 y] 102)).heap[w.heap.size]? = _ := row2a (Below.refl _ _)
  have Rx : ((w.alloc (.cells #[.int .i64 t, .int .i64 s, .slice a n c] 132)).alloc (.cells #[.int .i64 1, .int .i64 x, .int .i64 y] 102)).heap[w.heap.size + 1]? = _ := last2 w _ _
  have B0 := hid k0
  clear k0
  generalize (w.alloc (.cells #[.int .i64 t, .int .i64 s, .slice a n c] 132)).alloc (.cells #[.int .i64 1, .int .i64 x, .int .i64 y] 102) = W at *
  have HRp := hid Rp
  have HRx := hid Rx
  have p0 := cell_regrown (at_row Rp 0 rfl)
  have p1 := cell_regrown (at_row Rp 1 rfl)
  have p2 := cell_regrown (at_row Rp 2 rfl)
  have q0 := cell_regrown (at_row Rx 0 rfl)
  clear Rp Rx
  have cE : ∀ d os, Calls Tryz.prog 89 #[planV t s a n c] (grow (redrawn W d) os) fun e w'' => e = .returned (.agg (extArr (planV t s a n c))) ∧ ∃ p : Regrown, w'' = grow (redrawn W p.d) p.os := fun d os => Calls.regrown_of (extents_any t s a n c _)
  have cF : ∀ d os, Calls Tryz.prog 103 #[planV t s a n c] (grow (redrawn W d) os) fun e w'' => e = .returned (.tuple #[.int .i64 1, .int .i64 1]) ∧ ∃ p : Regrown, w'' = grow (redrawn W p.d) p.os := fun d os => Calls.regrown_of (plOne_any t s a n c _)
  have hix := ext_ix1 (planV t s a n c)
  refine wp_region_quiet_below (by kernel_rfl) (by kernel_rfl) ?_
  repeat (go_big_quiet_step ((first | (go_at_call 89; exact cE _ _) | (go_at_call 103; exact cF _ _))))
  refine wpQuiet_nil ?_
  intro _ hw'
  obtain ⟨⟨dq, osq⟩, hw''⟩ := hw'
  subst hw''
  have kb := below_regrown W dq osq
  have Rp := row_below HRp.out kb
  have Rx := row_below HRx.out kb
  have B1 := hid (B0.out.trans (kb.mono B0.out.size))
  clear HRp HRx B0 kb p0 p1 p2 q0 cE cF hix
  generalize grow (redrawn W dq) osq = w1 at *
  have p0 := cell_regrown (at_row Rp 0 rfl)
  have p1 := cell_regrown (at_row Rp 1 rfl)
  have p2 := cell_regrown (at_row Rp 2 rfl)
  have q0 := cell_regrown (at_row Rx 0 rfl)
  have q1 := cell_regrown (at_row Rx 1 rfl)
  have q2 := cell_regrown (at_row Rx 2 rfl)
  clear Rp Rx
  have cB : ∀ d os, Calls Tryz.prog 87 #[planV t s a n c, .int .i64 1] (grow (redrawn w1 d) os) fun e w'' => e = .returned (.int .i64 0) ∧ ∃ p : Regrown, w'' = grow (redrawn w1 p.d) p.os := fun d os => Calls.regrown_of (by
    have := base_at t s a n c 1 (grow (redrawn w1 d) os) t0 t1 s0 s1 (by omega)
    rwa [bs1] at this)
  go_wp2_with fail
  refine wp_region_quiet_below (by kernel_rfl) (by kernel_rfl) ?_
  repeat (go_big_quiet_step ((first | (go_at_call 87; exact cB _ _))))
  refine wpQuiet_nil ?_
  intro _ hw'
  obtain ⟨⟨dq2, osq2⟩, hw''⟩ := hw'
  subst hw''
  have kb := below_regrown w1 dq2 osq2
  have B2 := hid (B1.out.trans (kb.mono B1.out.size))
  clear B1 kb p0 p1 p2 q0 q1 q2 cB
  go_wp2
  go_ret
  exact ⟨ret_int (by omega), B2.out⟩
set_option maxRecDepth 100000 in
set_option maxHeartbeats 8000000 in
theorem pat_2 (t s y : Int) (x : Int) (a : Option Addr) (n c : Nat) (w : World) (t0 : 1 ≤ t) (t1 : t ≤ 8) (s0 : 32 ≤ s) (s1 : s ≤ 4096) (x0 : 0 ≤ x) (x1 : x ≤ 0) (y0 : 0 ≤ y) (y1 : y ≤ 0) :
    Calls Tryz.prog 100 #[planV t s a n c, partV 2 x y] w fun e w' => e = .returned (.int .i64 (1 + x + y)) ∧ Below w.heap.size w w' := by
  go_enter Tryz.func100, Tryz.ntmps100
  go_wp2_with fail
  have k0 := below2' w (.cells #[.int .i64 t, .int .i64 s, .slice a n c] 132) (.cells #[.int .i64 2, .int .i64 x, .int .i64 y] 102)
  have Rp : ((w.alloc (.cells #[.int .i64 t, .int .i64 s, .slice a n c] 132)).alloc (.cells #[.int .i64 2, .int .i64 x, .int .i64 y] 102)).heap[w.heap.size]? = _ := row2a (Below.refl _ _)
  have Rx : ((w.alloc (.cells #[.int .i64 t, .int .i64 s, .slice a n c] 132)).alloc (.cells #[.int .i64 2, .int .i64 x, .int .i64 y] 102)).heap[w.heap.size + 1]? = _ := last2 w _ _
  have B0 := hid k0
  clear k0
  generalize (w.alloc (.cells #[.int .i64 t, .int .i64 s, .slice a n c] 132)).alloc (.cells #[.int .i64 2, .int .i64 x, .int .i64 y] 102) = W at *
  have HRp := hid Rp
  have HRx := hid Rx
  have p0 := cell_regrown (at_row Rp 0 rfl)
  have p1 := cell_regrown (at_row Rp 1 rfl)
  have p2 := cell_regrown (at_row Rp 2 rfl)
  have q0 := cell_regrown (at_row Rx 0 rfl)
  clear Rp Rx
  have cE : ∀ d os, Calls Tryz.prog 89 #[planV t s a n c] (grow (redrawn W d) os) fun e w'' => e = .returned (.agg (extArr (planV t s a n c))) ∧ ∃ p : Regrown, w'' = grow (redrawn W p.d) p.os := fun d os => Calls.regrown_of (extents_any t s a n c _)
  have cF : ∀ d os, Calls Tryz.prog 103 #[planV t s a n c] (grow (redrawn W d) os) fun e w'' => e = .returned (.tuple #[.int .i64 1, .int .i64 1]) ∧ ∃ p : Regrown, w'' = grow (redrawn W p.d) p.os := fun d os => Calls.regrown_of (plOne_any t s a n c _)
  have hix := ext_ix2 (planV t s a n c)
  refine wp_region_quiet_below (by kernel_rfl) (by kernel_rfl) ?_
  repeat (go_big_quiet_step ((first | (go_at_call 89; exact cE _ _) | (go_at_call 103; exact cF _ _))))
  refine wpQuiet_nil ?_
  intro _ hw'
  obtain ⟨⟨dq, osq⟩, hw''⟩ := hw'
  subst hw''
  have kb := below_regrown W dq osq
  have Rp := row_below HRp.out kb
  have Rx := row_below HRx.out kb
  have B1 := hid (B0.out.trans (kb.mono B0.out.size))
  clear HRp HRx B0 kb p0 p1 p2 q0 cE cF hix
  generalize grow (redrawn W dq) osq = w1 at *
  have p0 := cell_regrown (at_row Rp 0 rfl)
  have p1 := cell_regrown (at_row Rp 1 rfl)
  have p2 := cell_regrown (at_row Rp 2 rfl)
  have q0 := cell_regrown (at_row Rx 0 rfl)
  have q1 := cell_regrown (at_row Rx 1 rfl)
  have q2 := cell_regrown (at_row Rx 2 rfl)
  clear Rp Rx
  have cB : ∀ d os, Calls Tryz.prog 87 #[planV t s a n c, .int .i64 2] (grow (redrawn w1 d) os) fun e w'' => e = .returned (.int .i64 1) ∧ ∃ p : Regrown, w'' = grow (redrawn w1 p.d) p.os := fun d os => Calls.regrown_of (by
    have := base_at t s a n c 2 (grow (redrawn w1 d) os) t0 t1 s0 s1 (by omega)
    rwa [bs2] at this)
  go_wp2_with fail
  refine wp_region_quiet_below (by kernel_rfl) (by kernel_rfl) ?_
  repeat (go_big_quiet_step ((first | (go_at_call 87; exact cB _ _))))
  refine wpQuiet_nil ?_
  intro _ hw'
  obtain ⟨⟨dq2, osq2⟩, hw''⟩ := hw'
  subst hw''
  have kb := below_regrown w1 dq2 osq2
  have B2 := hid (B1.out.trans (kb.mono B1.out.size))
  clear B1 kb p0 p1 p2 q0 q1 q2 cB
  go_wp2
  go_ret
  exact ⟨ret_int (by omega), B2.out⟩
set_option maxRecDepth 100000 in
set_option maxHeartbeats 8000000 in
theorem pat_3 (t s y : Int) (x : Int) (a : Option Addr) (n c : Nat) (w : World) (t0 : 1 ≤ t) (t1 : t ≤ 8) (s0 : 32 ≤ s) (s1 : s ≤ 4096) (x0 : 0 ≤ x) (x1 : x ≤ 0) (y0 : 0 ≤ y) (y1 : y ≤ 0) :
    Calls Tryz.prog 100 #[planV t s a n c, partV 3 x y] w fun e w' => e = .returned (.int .i64 (2 + x + y)) ∧ Below w.heap.size w w' := by
  go_enter Tryz.func100, Tryz.ntmps100
  go_wp2_with fail
  have k0 := below2' w (.cells #[.int .i64 t, .int .i64 s, .slice a n c] 132) (.cells #[.int .i64 3, .int .i64 x, .int .i64 y] 102)
  have Rp : ((w.alloc (.cells #[.int .i64 t, .int .i64 s, .slice a n c] 132)).alloc (.cells #[.int .i64 3, .int .i64 x, .int .i64 y] 102)).heap[w.heap.size]? = _ := row2a (Below.refl _ _)
  have Rx : ((w.alloc (.cells #[.int .i64 t, .int .i64 s, .slice a n c] 132)).alloc (.cells #[.int .i64 3, .int .i64 x, .int .i64 y] 102)).heap[w.heap.size + 1]? = _ := last2 w _ _
  have B0 := hid k0
  clear k0
  generalize (w.alloc (.cells #[.int .i64 t, .int .i64 s, .slice a n c] 132)).alloc (.cells #[.int .i64 3, .int .i64 x, .int .i64 y] 102) = W at *
  have HRp := hid Rp
  have HRx := hid Rx
  have p0 := cell_regrown (at_row Rp 0 rfl)
  have p1 := cell_regrown (at_row Rp 1 rfl)
  have p2 := cell_regrown (at_row Rp 2 rfl)
  have q0 := cell_regrown (at_row Rx 0 rfl)
  clear Rp Rx
  have cE : ∀ d os, Calls Tryz.prog 89 #[planV t s a n c] (grow (redrawn W d) os) fun e w'' => e = .returned (.agg (extArr (planV t s a n c))) ∧ ∃ p : Regrown, w'' = grow (redrawn W p.d) p.os := fun d os => Calls.regrown_of (extents_any t s a n c _)
  have cF : ∀ d os, Calls Tryz.prog 103 #[planV t s a n c] (grow (redrawn W d) os) fun e w'' => e = .returned (.tuple #[.int .i64 1, .int .i64 1]) ∧ ∃ p : Regrown, w'' = grow (redrawn W p.d) p.os := fun d os => Calls.regrown_of (plOne_any t s a n c _)
  have hix := ext_ix3 (planV t s a n c)
  refine wp_region_quiet_below (by kernel_rfl) (by kernel_rfl) ?_
  repeat (go_big_quiet_step ((first | (go_at_call 89; exact cE _ _) | (go_at_call 103; exact cF _ _))))
  refine wpQuiet_nil ?_
  intro _ hw'
  obtain ⟨⟨dq, osq⟩, hw''⟩ := hw'
  subst hw''
  have kb := below_regrown W dq osq
  have Rp := row_below HRp.out kb
  have Rx := row_below HRx.out kb
  have B1 := hid (B0.out.trans (kb.mono B0.out.size))
  clear HRp HRx B0 kb p0 p1 p2 q0 cE cF hix
  generalize grow (redrawn W dq) osq = w1 at *
  have p0 := cell_regrown (at_row Rp 0 rfl)
  have p1 := cell_regrown (at_row Rp 1 rfl)
  have p2 := cell_regrown (at_row Rp 2 rfl)
  have q0 := cell_regrown (at_row Rx 0 rfl)
  have q1 := cell_regrown (at_row Rx 1 rfl)
  have q2 := cell_regrown (at_row Rx 2 rfl)
  clear Rp Rx
  have cB : ∀ d os, Calls Tryz.prog 87 #[planV t s a n c, .int .i64 3] (grow (redrawn w1 d) os) fun e w'' => e = .returned (.int .i64 2) ∧ ∃ p : Regrown, w'' = grow (redrawn w1 p.d) p.os := fun d os => Calls.regrown_of (by
    have := base_at t s a n c 3 (grow (redrawn w1 d) os) t0 t1 s0 s1 (by omega)
    rwa [bs3] at this)
  go_wp2_with fail
  refine wp_region_quiet_below (by kernel_rfl) (by kernel_rfl) ?_
  repeat (go_big_quiet_step ((first | (go_at_call 87; exact cB _ _))))
  refine wpQuiet_nil ?_
  intro _ hw'
  obtain ⟨⟨dq2, osq2⟩, hw''⟩ := hw'
  subst hw''
  have kb := below_regrown w1 dq2 osq2
  have B2 := hid (B1.out.trans (kb.mono B1.out.size))
  clear B1 kb p0 p1 p2 q0 q1 q2 cB
  go_wp2
  go_ret
  exact ⟨ret_int (by omega), B2.out⟩
set_option maxRecDepth 100000 in
set_option maxHeartbeats 8000000 in
theorem pat_4 (t s y : Int) (x : Int) (a : Option Addr) (n c : Nat) (w : World) (t0 : 1 ≤ t) (t1 : t ≤ 8) (s0 : 32 ≤ s) (s1 : s ≤ 4096) (x0 : 0 ≤ x) (x1 : x ≤ (t - 1)) (y0 : 0 ≤ y) (y1 : y ≤ 0) :
    Calls Tryz.prog 100 #[planV t s a n c, partV 4 x y] w fun e w' => e = .returned (.int .i64 (3 + x + y)) ∧ Below w.heap.size w w' := by
  go_enter Tryz.func100, Tryz.ntmps100
  go_wp2_with fail
  have k0 := below2' w (.cells #[.int .i64 t, .int .i64 s, .slice a n c] 132) (.cells #[.int .i64 4, .int .i64 x, .int .i64 y] 102)
  have Rp : ((w.alloc (.cells #[.int .i64 t, .int .i64 s, .slice a n c] 132)).alloc (.cells #[.int .i64 4, .int .i64 x, .int .i64 y] 102)).heap[w.heap.size]? = _ := row2a (Below.refl _ _)
  have Rx : ((w.alloc (.cells #[.int .i64 t, .int .i64 s, .slice a n c] 132)).alloc (.cells #[.int .i64 4, .int .i64 x, .int .i64 y] 102)).heap[w.heap.size + 1]? = _ := last2 w _ _
  have B0 := hid k0
  clear k0
  generalize (w.alloc (.cells #[.int .i64 t, .int .i64 s, .slice a n c] 132)).alloc (.cells #[.int .i64 4, .int .i64 x, .int .i64 y] 102) = W at *
  have HRp := hid Rp
  have HRx := hid Rx
  have p0 := cell_regrown (at_row Rp 0 rfl)
  have p1 := cell_regrown (at_row Rp 1 rfl)
  have p2 := cell_regrown (at_row Rp 2 rfl)
  have q0 := cell_regrown (at_row Rx 0 rfl)
  clear Rp Rx
  have cE : ∀ d os, Calls Tryz.prog 89 #[planV t s a n c] (grow (redrawn W d) os) fun e w'' => e = .returned (.agg (extArr (planV t s a n c))) ∧ ∃ p : Regrown, w'' = grow (redrawn W p.d) p.os := fun d os => Calls.regrown_of (extents_any t s a n c _)
  have cF : ∀ d os, Calls Tryz.prog 104 #[planV t s a n c] (grow (redrawn W d) os) fun e w'' => e = .returned (.tuple #[.int .i64 t, .int .i64 1]) ∧ ∃ p : Regrown, w'' = grow (redrawn W p.d) p.os := fun d os => Calls.regrown_of (plThread_any t s a n c _)
  have hix := ext_ix4 (planV t s a n c)
  refine wp_region_quiet_below (by kernel_rfl) (by kernel_rfl) ?_
  repeat (go_big_quiet_step ((first | (go_at_call 89; exact cE _ _) | (go_at_call 104; exact cF _ _))))
  refine wpQuiet_nil ?_
  intro _ hw'
  obtain ⟨⟨dq, osq⟩, hw''⟩ := hw'
  subst hw''
  have kb := below_regrown W dq osq
  have Rp := row_below HRp.out kb
  have Rx := row_below HRx.out kb
  have B1 := hid (B0.out.trans (kb.mono B0.out.size))
  clear HRp HRx B0 kb p0 p1 p2 q0 cE cF hix
  generalize grow (redrawn W dq) osq = w1 at *
  have p0 := cell_regrown (at_row Rp 0 rfl)
  have p1 := cell_regrown (at_row Rp 1 rfl)
  have p2 := cell_regrown (at_row Rp 2 rfl)
  have q0 := cell_regrown (at_row Rx 0 rfl)
  have q1 := cell_regrown (at_row Rx 1 rfl)
  have q2 := cell_regrown (at_row Rx 2 rfl)
  clear Rp Rx
  have cB : ∀ d os, Calls Tryz.prog 87 #[planV t s a n c, .int .i64 4] (grow (redrawn w1 d) os) fun e w'' => e = .returned (.int .i64 3) ∧ ∃ p : Regrown, w'' = grow (redrawn w1 p.d) p.os := fun d os => Calls.regrown_of (by
    have := base_at t s a n c 4 (grow (redrawn w1 d) os) t0 t1 s0 s1 (by omega)
    rwa [bs4] at this)
  go_wp2_with fail
  refine wp_region_quiet_below (by kernel_rfl) (by kernel_rfl) ?_
  repeat (go_big_quiet_step ((first | (go_at_call 87; exact cB _ _))))
  refine wpQuiet_nil ?_
  intro _ hw'
  obtain ⟨⟨dq2, osq2⟩, hw''⟩ := hw'
  subst hw''
  have kb := below_regrown w1 dq2 osq2
  have B2 := hid (B1.out.trans (kb.mono B1.out.size))
  clear B1 kb p0 p1 p2 q0 q1 q2 cB
  go_wp2
  go_ret
  exact ⟨ret_int (by omega), B2.out⟩
set_option maxRecDepth 100000 in
set_option maxHeartbeats 8000000 in
theorem pat_5 (t s y : Int) (x : Int) (a : Option Addr) (n c : Nat) (w : World) (t0 : 1 ≤ t) (t1 : t ≤ 8) (s0 : 32 ≤ s) (s1 : s ≤ 4096) (x0 : 0 ≤ x) (x1 : x ≤ (t - 1)) (y0 : 0 ≤ y) (y1 : y ≤ 0) :
    Calls Tryz.prog 100 #[planV t s a n c, partV 5 x y] w fun e w' => e = .returned (.int .i64 ((3 + t) + x + y)) ∧ Below w.heap.size w w' := by
  go_enter Tryz.func100, Tryz.ntmps100
  go_wp2_with fail
  have k0 := below2' w (.cells #[.int .i64 t, .int .i64 s, .slice a n c] 132) (.cells #[.int .i64 5, .int .i64 x, .int .i64 y] 102)
  have Rp : ((w.alloc (.cells #[.int .i64 t, .int .i64 s, .slice a n c] 132)).alloc (.cells #[.int .i64 5, .int .i64 x, .int .i64 y] 102)).heap[w.heap.size]? = _ := row2a (Below.refl _ _)
  have Rx : ((w.alloc (.cells #[.int .i64 t, .int .i64 s, .slice a n c] 132)).alloc (.cells #[.int .i64 5, .int .i64 x, .int .i64 y] 102)).heap[w.heap.size + 1]? = _ := last2 w _ _
  have B0 := hid k0
  clear k0
  generalize (w.alloc (.cells #[.int .i64 t, .int .i64 s, .slice a n c] 132)).alloc (.cells #[.int .i64 5, .int .i64 x, .int .i64 y] 102) = W at *
  have HRp := hid Rp
  have HRx := hid Rx
  have p0 := cell_regrown (at_row Rp 0 rfl)
  have p1 := cell_regrown (at_row Rp 1 rfl)
  have p2 := cell_regrown (at_row Rp 2 rfl)
  have q0 := cell_regrown (at_row Rx 0 rfl)
  clear Rp Rx
  have cE : ∀ d os, Calls Tryz.prog 89 #[planV t s a n c] (grow (redrawn W d) os) fun e w'' => e = .returned (.agg (extArr (planV t s a n c))) ∧ ∃ p : Regrown, w'' = grow (redrawn W p.d) p.os := fun d os => Calls.regrown_of (extents_any t s a n c _)
  have cF : ∀ d os, Calls Tryz.prog 104 #[planV t s a n c] (grow (redrawn W d) os) fun e w'' => e = .returned (.tuple #[.int .i64 t, .int .i64 1]) ∧ ∃ p : Regrown, w'' = grow (redrawn W p.d) p.os := fun d os => Calls.regrown_of (plThread_any t s a n c _)
  have hix := ext_ix5 (planV t s a n c)
  refine wp_region_quiet_below (by kernel_rfl) (by kernel_rfl) ?_
  repeat (go_big_quiet_step ((first | (go_at_call 89; exact cE _ _) | (go_at_call 104; exact cF _ _))))
  refine wpQuiet_nil ?_
  intro _ hw'
  obtain ⟨⟨dq, osq⟩, hw''⟩ := hw'
  subst hw''
  have kb := below_regrown W dq osq
  have Rp := row_below HRp.out kb
  have Rx := row_below HRx.out kb
  have B1 := hid (B0.out.trans (kb.mono B0.out.size))
  clear HRp HRx B0 kb p0 p1 p2 q0 cE cF hix
  generalize grow (redrawn W dq) osq = w1 at *
  have p0 := cell_regrown (at_row Rp 0 rfl)
  have p1 := cell_regrown (at_row Rp 1 rfl)
  have p2 := cell_regrown (at_row Rp 2 rfl)
  have q0 := cell_regrown (at_row Rx 0 rfl)
  have q1 := cell_regrown (at_row Rx 1 rfl)
  have q2 := cell_regrown (at_row Rx 2 rfl)
  clear Rp Rx
  have cB : ∀ d os, Calls Tryz.prog 87 #[planV t s a n c, .int .i64 5] (grow (redrawn w1 d) os) fun e w'' => e = .returned (.int .i64 (3 + t)) ∧ ∃ p : Regrown, w'' = grow (redrawn w1 p.d) p.os := fun d os => Calls.regrown_of (by
    have := base_at t s a n c 5 (grow (redrawn w1 d) os) t0 t1 s0 s1 (by omega)
    rwa [bs5] at this)
  go_wp2_with fail
  refine wp_region_quiet_below (by kernel_rfl) (by kernel_rfl) ?_
  repeat (go_big_quiet_step ((first | (go_at_call 87; exact cB _ _))))
  refine wpQuiet_nil ?_
  intro _ hw'
  obtain ⟨⟨dq2, osq2⟩, hw''⟩ := hw'
  subst hw''
  have kb := below_regrown w1 dq2 osq2
  have B2 := hid (B1.out.trans (kb.mono B1.out.size))
  clear B1 kb p0 p1 p2 q0 q1 q2 cB
  go_wp2
  go_ret
  exact ⟨ret_int (by omega), B2.out⟩
set_option maxRecDepth 100000 in
set_option maxHeartbeats 8000000 in
theorem pat_6_0 (t s y : Int) (a : Option Addr) (n c : Nat) (w : World) (t0 : 1 ≤ t) (t1 : t ≤ 8) (s0 : 32 ≤ s) (s1 : s ≤ 4096) (y0 : 0 ≤ y) (y1 : y ≤ (s - 1)) :
    Calls Tryz.prog 100 #[planV t s a n c, partV 6 0 y] w fun e w' => e = .returned (.int .i64 ((3 + t + t) + y)) ∧ Below w.heap.size w w' := by
  go_enter Tryz.func100, Tryz.ntmps100
  go_wp2_with fail
  have k0 := below2' w (.cells #[.int .i64 t, .int .i64 s, .slice a n c] 132) (.cells #[.int .i64 6, .int .i64 0, .int .i64 y] 102)
  have Rp : ((w.alloc (.cells #[.int .i64 t, .int .i64 s, .slice a n c] 132)).alloc (.cells #[.int .i64 6, .int .i64 0, .int .i64 y] 102)).heap[w.heap.size]? = _ := row2a (Below.refl _ _)
  have Rx : ((w.alloc (.cells #[.int .i64 t, .int .i64 s, .slice a n c] 132)).alloc (.cells #[.int .i64 6, .int .i64 0, .int .i64 y] 102)).heap[w.heap.size + 1]? = _ := last2 w _ _
  have B0 := hid k0
  clear k0
  generalize (w.alloc (.cells #[.int .i64 t, .int .i64 s, .slice a n c] 132)).alloc (.cells #[.int .i64 6, .int .i64 0, .int .i64 y] 102) = W at *
  have HRp := hid Rp
  have HRx := hid Rx
  have p0 := cell_regrown (at_row Rp 0 rfl)
  have p1 := cell_regrown (at_row Rp 1 rfl)
  have p2 := cell_regrown (at_row Rp 2 rfl)
  have q0 := cell_regrown (at_row Rx 0 rfl)
  clear Rp Rx
  have cE : ∀ d os, Calls Tryz.prog 89 #[planV t s a n c] (grow (redrawn W d) os) fun e w'' => e = .returned (.agg (extArr (planV t s a n c))) ∧ ∃ p : Regrown, w'' = grow (redrawn W p.d) p.os := fun d os => Calls.regrown_of (extents_any t s a n c _)
  have cF : ∀ d os, Calls Tryz.prog 105 #[planV t s a n c] (grow (redrawn W d) os) fun e w'' => e = .returned (.tuple #[.int .i64 2, .int .i64 s]) ∧ ∃ p : Regrown, w'' = grow (redrawn W p.d) p.os := fun d os => Calls.regrown_of (plSpace_any t s a n c _)
  have hix := ext_ix6 (planV t s a n c)
  refine wp_region_quiet_below (by kernel_rfl) (by kernel_rfl) ?_
  repeat (go_big_quiet_step ((first | (go_at_call 89; exact cE _ _) | (go_at_call 105; exact cF _ _))))
  refine wpQuiet_nil ?_
  intro _ hw'
  obtain ⟨⟨dq, osq⟩, hw''⟩ := hw'
  subst hw''
  have kb := below_regrown W dq osq
  have Rp := row_below HRp.out kb
  have Rx := row_below HRx.out kb
  have B1 := hid (B0.out.trans (kb.mono B0.out.size))
  clear HRp HRx B0 kb p0 p1 p2 q0 cE cF hix
  generalize grow (redrawn W dq) osq = w1 at *
  have p0 := cell_regrown (at_row Rp 0 rfl)
  have p1 := cell_regrown (at_row Rp 1 rfl)
  have p2 := cell_regrown (at_row Rp 2 rfl)
  have q0 := cell_regrown (at_row Rx 0 rfl)
  have q1 := cell_regrown (at_row Rx 1 rfl)
  have q2 := cell_regrown (at_row Rx 2 rfl)
  clear Rp Rx
  have cB : ∀ d os, Calls Tryz.prog 87 #[planV t s a n c, .int .i64 6] (grow (redrawn w1 d) os) fun e w'' => e = .returned (.int .i64 (3 + t + t)) ∧ ∃ p : Regrown, w'' = grow (redrawn w1 p.d) p.os := fun d os => Calls.regrown_of (by
    have := base_at t s a n c 6 (grow (redrawn w1 d) os) t0 t1 s0 s1 (by omega)
    rwa [bs6] at this)
  go_wp2_with fail
  refine wp_region_quiet_below (by kernel_rfl) (by kernel_rfl) ?_
  repeat (go_big_quiet_step ((first | (go_at_call 87; exact cB _ _))))
  refine wpQuiet_nil ?_
  intro _ hw'
  obtain ⟨⟨dq2, osq2⟩, hw''⟩ := hw'
  subst hw''
  have kb := below_regrown w1 dq2 osq2
  have B2 := hid (B1.out.trans (kb.mono B1.out.size))
  clear B1 kb p0 p1 p2 q0 q1 q2 cB
  go_wp2
  go_ret
  exact ⟨ret_int (by omega), B2.out⟩
set_option maxRecDepth 100000 in
set_option maxHeartbeats 8000000 in
theorem pat_6_1 (t s y : Int) (a : Option Addr) (n c : Nat) (w : World) (t0 : 1 ≤ t) (t1 : t ≤ 8) (s0 : 32 ≤ s) (s1 : s ≤ 4096) (y0 : 0 ≤ y) (y1 : y ≤ (s - 1)) :
    Calls Tryz.prog 100 #[planV t s a n c, partV 6 1 y] w fun e w' => e = .returned (.int .i64 ((3 + t + t) + s + y)) ∧ Below w.heap.size w w' := by
  go_enter Tryz.func100, Tryz.ntmps100
  go_wp2_with fail
  have k0 := below2' w (.cells #[.int .i64 t, .int .i64 s, .slice a n c] 132) (.cells #[.int .i64 6, .int .i64 1, .int .i64 y] 102)
  have Rp : ((w.alloc (.cells #[.int .i64 t, .int .i64 s, .slice a n c] 132)).alloc (.cells #[.int .i64 6, .int .i64 1, .int .i64 y] 102)).heap[w.heap.size]? = _ := row2a (Below.refl _ _)
  have Rx : ((w.alloc (.cells #[.int .i64 t, .int .i64 s, .slice a n c] 132)).alloc (.cells #[.int .i64 6, .int .i64 1, .int .i64 y] 102)).heap[w.heap.size + 1]? = _ := last2 w _ _
  have B0 := hid k0
  clear k0
  generalize (w.alloc (.cells #[.int .i64 t, .int .i64 s, .slice a n c] 132)).alloc (.cells #[.int .i64 6, .int .i64 1, .int .i64 y] 102) = W at *
  have HRp := hid Rp
  have HRx := hid Rx
  have p0 := cell_regrown (at_row Rp 0 rfl)
  have p1 := cell_regrown (at_row Rp 1 rfl)
  have p2 := cell_regrown (at_row Rp 2 rfl)
  have q0 := cell_regrown (at_row Rx 0 rfl)
  clear Rp Rx
  have cE : ∀ d os, Calls Tryz.prog 89 #[planV t s a n c] (grow (redrawn W d) os) fun e w'' => e = .returned (.agg (extArr (planV t s a n c))) ∧ ∃ p : Regrown, w'' = grow (redrawn W p.d) p.os := fun d os => Calls.regrown_of (extents_any t s a n c _)
  have cF : ∀ d os, Calls Tryz.prog 105 #[planV t s a n c] (grow (redrawn W d) os) fun e w'' => e = .returned (.tuple #[.int .i64 2, .int .i64 s]) ∧ ∃ p : Regrown, w'' = grow (redrawn W p.d) p.os := fun d os => Calls.regrown_of (plSpace_any t s a n c _)
  have hix := ext_ix6 (planV t s a n c)
  refine wp_region_quiet_below (by kernel_rfl) (by kernel_rfl) ?_
  repeat (go_big_quiet_step ((first | (go_at_call 89; exact cE _ _) | (go_at_call 105; exact cF _ _))))
  refine wpQuiet_nil ?_
  intro _ hw'
  obtain ⟨⟨dq, osq⟩, hw''⟩ := hw'
  subst hw''
  have kb := below_regrown W dq osq
  have Rp := row_below HRp.out kb
  have Rx := row_below HRx.out kb
  have B1 := hid (B0.out.trans (kb.mono B0.out.size))
  clear HRp HRx B0 kb p0 p1 p2 q0 cE cF hix
  generalize grow (redrawn W dq) osq = w1 at *
  have p0 := cell_regrown (at_row Rp 0 rfl)
  have p1 := cell_regrown (at_row Rp 1 rfl)
  have p2 := cell_regrown (at_row Rp 2 rfl)
  have q0 := cell_regrown (at_row Rx 0 rfl)
  have q1 := cell_regrown (at_row Rx 1 rfl)
  have q2 := cell_regrown (at_row Rx 2 rfl)
  clear Rp Rx
  have cB : ∀ d os, Calls Tryz.prog 87 #[planV t s a n c, .int .i64 6] (grow (redrawn w1 d) os) fun e w'' => e = .returned (.int .i64 (3 + t + t)) ∧ ∃ p : Regrown, w'' = grow (redrawn w1 p.d) p.os := fun d os => Calls.regrown_of (by
    have := base_at t s a n c 6 (grow (redrawn w1 d) os) t0 t1 s0 s1 (by omega)
    rwa [bs6] at this)
  go_wp2_with fail
  refine wp_region_quiet_below (by kernel_rfl) (by kernel_rfl) ?_
  repeat (go_big_quiet_step ((first | (go_at_call 87; exact cB _ _))))
  refine wpQuiet_nil ?_
  intro _ hw'
  obtain ⟨⟨dq2, osq2⟩, hw''⟩ := hw'
  subst hw''
  have kb := below_regrown w1 dq2 osq2
  have B2 := hid (B1.out.trans (kb.mono B1.out.size))
  clear B1 kb p0 p1 p2 q0 q1 q2 cB
  go_wp2
  go_ret
  exact ⟨ret_int (by omega), B2.out⟩
end Go.Proofs.YtldfmlkjeniemaaGreatDoor
