/- The document's answers for layer 6: At. Typed by tools/gen06at.py. -/
import Derived.Test.YtjfegimgpkeleaaDoorLyRefB
set_option linter.unusedVariables false
namespace Go.Proofs.YtjfegimgpkeleaaDoor
open Go.RowKit Go.Ly Go.Sh Go.Sort
set_option maxRecDepth 100000 in
set_option maxHeartbeats 4000000 in
theorem rAt6_klo (t s k x y : Int) (a : Option Addr) (n c : Nat) (w : World) (h : k < 1) :
    Calls Tryd.prog 28 #[planV t s a n c, partV k x y] w fun e w' => e = .returned (.tuple #[.int .i64 0, .int .i64 2]) ∧ Below w.heap.size w w' := by
  go_enter Tryd.func28, Tryd.ntmps28
  go_wp2
  go_ret2
  exact ⟨rfl, below2' w _ _⟩
set_option maxRecDepth 100000 in
set_option maxHeartbeats 4000000 in
theorem rAt6_khi (t s k x y : Int) (a : Option Addr) (n c : Nat) (w : World) (h0 : 1 ≤ k) (h : 6 < k) :
    Calls Tryd.prog 28 #[planV t s a n c, partV k x y] w fun e w' => e = .returned (.tuple #[.int .i64 0, .int .i64 2]) ∧ Below w.heap.size w w' := by
  go_enter Tryd.func28, Tryd.ntmps28
  go_wp2
  go_ret2
  exact ⟨rfl, below2' w _ _⟩
set_option maxRecDepth 100000 in
set_option maxHeartbeats 4000000 in
theorem rAt6_num (t s k x y : Int) (a : Option Addr) (n c : Nat) (w : World) (h0 : 1 ≤ k) (h6 : k ≤ 6) (h : k < 4) (hx : (x != 0) = true) :
    Calls Tryd.prog 28 #[planV t s a n c, partV k x y] w fun e w' => e = .returned (.tuple #[.int .i64 0, .int .i64 2]) ∧ Below w.heap.size w w' := by
  go_enter Tryd.func28, Tryd.ntmps28
  go_wp2
  go_ret2
  exact ⟨rfl, below2' w _ _⟩
set_option maxRecDepth 100000 in
set_option maxHeartbeats 4000000 in
theorem rAt6_at3 (t s k x y : Int) (a : Option Addr) (n c : Nat) (w : World) (h0 : 1 ≤ k) (h6 : k ≤ 6) (h : k < 4) (h5 : k < 6) (hx : (x != 0) = false) (hy : (y != 0) = true) :
    Calls Tryd.prog 28 #[planV t s a n c, partV k x y] w fun e w' => e = .returned (.tuple #[.int .i64 0, .int .i64 2]) ∧ Below w.heap.size w w' := by
  go_enter Tryd.func28, Tryd.ntmps28
  go_wp2
  go_ret2
  exact ⟨rfl, below2' w _ _⟩
set_option maxRecDepth 100000 in
set_option maxHeartbeats 4000000 in
theorem rAt6_at5 (t s k x y : Int) (a : Option Addr) (n c : Nat) (w : World) (h0 : 1 ≤ k) (h6 : k ≤ 6) (h : 4 ≤ k) (h5 : k < 6) (hy : (y != 0) = true) :
    Calls Tryd.prog 28 #[planV t s a n c, partV k x y] w fun e w' => e = .returned (.tuple #[.int .i64 0, .int .i64 2]) ∧ Below w.heap.size w w' := by
  go_enter Tryd.func28, Tryd.ntmps28
  go_wp2
  go_ret2
  exact ⟨rfl, below2' w _ _⟩
set_option maxRecDepth 100000 in
set_option maxHeartbeats 4000000 in
theorem rAt6_neg4 (t s k x y : Int) (a : Option Addr) (n c : Nat) (w : World) (h : x < 0) :
    Calls Tryd.prog 28 #[planV t s a n c, partV 4 x 0] w fun e w' => e = .returned (.tuple #[.int .i64 0, .int .i64 4]) ∧ Below w.heap.size w w' := by
  go_enter Tryd.func28, Tryd.ntmps28
  go_wp2
  go_ret2
  exact ⟨rfl, below2' w _ _⟩
set_option maxRecDepth 100000 in
set_option maxHeartbeats 4000000 in
theorem rAt6_big4 (t s k x y : Int) (a : Option Addr) (n c : Nat) (w : World) (h0 : 0 ≤ x) (h : t ≤ x) :
    Calls Tryd.prog 28 #[planV t s a n c, partV 4 x 0] w fun e w' => e = .returned (.tuple #[.int .i64 0, .int .i64 4]) ∧ Below w.heap.size w w' := by
  go_enter Tryd.func28, Tryd.ntmps28
  go_wp2
  go_ret2
  exact ⟨rfl, below2' w _ _⟩
set_option maxRecDepth 100000 in
set_option maxHeartbeats 4000000 in
theorem rAt6_neg5 (t s k x y : Int) (a : Option Addr) (n c : Nat) (w : World) (h : x < 0) :
    Calls Tryd.prog 28 #[planV t s a n c, partV 5 x 0] w fun e w' => e = .returned (.tuple #[.int .i64 0, .int .i64 4]) ∧ Below w.heap.size w w' := by
  go_enter Tryd.func28, Tryd.ntmps28
  go_wp2
  go_ret2
  exact ⟨rfl, below2' w _ _⟩
set_option maxRecDepth 100000 in
set_option maxHeartbeats 4000000 in
theorem rAt6_big5 (t s k x y : Int) (a : Option Addr) (n c : Nat) (w : World) (h0 : 0 ≤ x) (h : t ≤ x) :
    Calls Tryd.prog 28 #[planV t s a n c, partV 5 x 0] w fun e w' => e = .returned (.tuple #[.int .i64 0, .int .i64 4]) ∧ Below w.heap.size w w' := by
  go_enter Tryd.func28, Tryd.ntmps28
  go_wp2
  go_ret2
  exact ⟨rfl, below2' w _ _⟩
set_option maxRecDepth 100000 in
set_option maxHeartbeats 4000000 in
theorem rAt6_neg6 (t s k x y : Int) (a : Option Addr) (n c : Nat) (w : World) (h : x < 0) :
    Calls Tryd.prog 28 #[planV t s a n c, partV 6 x y] w fun e w' => e = .returned (.tuple #[.int .i64 0, .int .i64 4]) ∧ Below w.heap.size w w' := by
  go_enter Tryd.func28, Tryd.ntmps28
  go_wp2
  go_ret2
  exact ⟨rfl, below2' w _ _⟩
set_option maxRecDepth 100000 in
set_option maxHeartbeats 4000000 in
theorem rAt6_big6 (t s k x y : Int) (a : Option Addr) (n c : Nat) (w : World) (h0 : 0 ≤ x) (h : 2 ≤ x) :
    Calls Tryd.prog 28 #[planV t s a n c, partV 6 x y] w fun e w' => e = .returned (.tuple #[.int .i64 0, .int .i64 4]) ∧ Below w.heap.size w w' := by
  go_enter Tryd.func28, Tryd.ntmps28
  go_wp2
  go_ret2
  exact ⟨rfl, below2' w _ _⟩
set_option maxRecDepth 100000 in
set_option maxHeartbeats 4000000 in
theorem rAt6_yneg6 (t s k x y : Int) (a : Option Addr) (n c : Nat) (w : World) (h0 : 0 ≤ x) (h : x < 2) (hy : y < 0) :
    Calls Tryd.prog 28 #[planV t s a n c, partV 6 x y] w fun e w' => e = .returned (.tuple #[.int .i64 0, .int .i64 4]) ∧ Below w.heap.size w w' := by
  go_enter Tryd.func28, Tryd.ntmps28
  go_wp2
  go_ret2
  exact ⟨rfl, below2' w _ _⟩
set_option maxRecDepth 100000 in
set_option maxHeartbeats 4000000 in
theorem rAt6_ybig6 (t s k x y : Int) (a : Option Addr) (n c : Nat) (w : World) (h0 : 0 ≤ x) (h : x < 2) (hy0 : 0 ≤ y) (hy : s ≤ y) :
    Calls Tryd.prog 28 #[planV t s a n c, partV 6 x y] w fun e w' => e = .returned (.tuple #[.int .i64 0, .int .i64 4]) ∧ Below w.heap.size w w' := by
  go_enter Tryd.func28, Tryd.ntmps28
  go_wp2
  go_ret2
  exact ⟨rfl, below2' w _ _⟩
set_option maxRecDepth 100000 in
set_option maxHeartbeats 4000000 in
theorem rAt6_yes1 (t s k x y : Int) (a : Option Addr) (n c : Nat) (w : World)  :
    Calls Tryd.prog 28 #[planV t s a n c, partV 1 0 0] w fun e w' => e = .returned (.tuple #[.int .i64 0, .int .i64 0]) ∧ Below w.heap.size w w' := by
  go_enter Tryd.func28, Tryd.ntmps28
  go_wp2
  go_ret2
  exact ⟨rfl, below2' w _ _⟩
set_option maxRecDepth 100000 in
set_option maxHeartbeats 4000000 in
theorem rAt6_yes2 (t s k x y : Int) (a : Option Addr) (n c : Nat) (w : World)  :
    Calls Tryd.prog 28 #[planV t s a n c, partV 2 0 0] w fun e w' => e = .returned (.tuple #[.int .i64 1, .int .i64 0]) ∧ Below w.heap.size w w' := by
  go_enter Tryd.func28, Tryd.ntmps28
  go_wp2
  go_ret2
  exact ⟨rfl, below2' w _ _⟩
set_option maxRecDepth 100000 in
set_option maxHeartbeats 4000000 in
theorem rAt6_yes3 (t s k x y : Int) (a : Option Addr) (n c : Nat) (w : World)  :
    Calls Tryd.prog 28 #[planV t s a n c, partV 3 0 0] w fun e w' => e = .returned (.tuple #[.int .i64 2, .int .i64 0]) ∧ Below w.heap.size w w' := by
  go_enter Tryd.func28, Tryd.ntmps28
  go_wp2
  go_ret2
  exact ⟨rfl, below2' w _ _⟩
set_option maxRecDepth 100000 in
set_option maxHeartbeats 4000000 in
theorem rAt6_yes4 (t s x : Int) (a : Option Addr) (n c : Nat) (w : World) (t1 : t ≤ 8) (h0 : 0 ≤ x) (h : x < t) :
    Calls Tryd.prog 28 #[planV t s a n c, partV 4 x 0] w fun e w' => e = .returned (.tuple #[.int .i64 (3 + x), .int .i64 0]) ∧ Below w.heap.size w w' := by
  have ca := fun W => rAck6 x W h0 (by omega)
  go_enter Tryd.func28, Tryd.ntmps28
  go_wp2_with (go_at_call 20; refine (ca _).mono ?_; rintro e w1 ⟨rfl, hw⟩; rw [hw]; clear hw)
  go_ret2
  exact ⟨rfl, below2' w _ _⟩
set_option maxRecDepth 100000 in
set_option maxHeartbeats 4000000 in
theorem rAt6_yes5 (t s x : Int) (a : Option Addr) (n c : Nat) (w : World) (t0 : 1 ≤ t) (t1 : t ≤ 8) (h0 : 0 ≤ x) (h : x < t) :
    Calls Tryd.prog 28 #[planV t s a n c, partV 5 x 0] w fun e w' => e = .returned (.tuple #[.int .i64 (3 + t + x), .int .i64 0]) ∧ Below w.heap.size w w' := by
  have ca := fun W => rList6 t s x a n c W t0 t1 h0 (by omega)
  go_enter Tryd.func28, Tryd.ntmps28
  go_wp2_with (go_at_call 21; refine (ca _).mono ?_; rintro e w1 ⟨rfl, b1⟩)
  go_ret2
  exact ⟨rfl, bel2 b1⟩
set_option maxRecDepth 100000 in
set_option maxHeartbeats 4000000 in
theorem rAt6_yes6_0 (t s y : Int) (a : Option Addr) (n c : Nat) (w : World) (t0 : 1 ≤ t) (t1 : t ≤ 8) (s0 : 32 ≤ s) (s1 : s ≤ 4096) (y0 : 0 ≤ y) (y1 : y < s) :
    Calls Tryd.prog 28 #[planV t s a n c, partV 6 0 y] w fun e w' => e = .returned (.tuple #[.int .i64 ((3 + t + t) + y), .int .i64 0]) ∧ Below w.heap.size w w' := by
  go_enter Tryd.func28, Tryd.ntmps28
  go_wp2_with fail
  have B0 := hid (below2' w (.cells #[.int .i64 t, .int .i64 s, .slice a n c] 24) (.cells #[.int .i64 6, .int .i64 0, .int .i64 y] 45))
  have Rp : ((w.alloc (.cells #[.int .i64 t, .int .i64 s, .slice a n c] 24)).alloc (.cells #[.int .i64 6, .int .i64 0, .int .i64 y] 45)).heap[w.heap.size]? = _ := row2a (Below.refl _ _)
  have Rx : ((w.alloc (.cells #[.int .i64 t, .int .i64 s, .slice a n c] 24)).alloc (.cells #[.int .i64 6, .int .i64 0, .int .i64 y] 45)).heap[w.heap.size + 1]? = _ := last2 w _ _
  generalize (w.alloc (.cells #[.int .i64 t, .int .i64 s, .slice a n c] 24)).alloc (.cells #[.int .i64 6, .int .i64 0, .int .i64 y] 45) = W at *
  have p0 := cell_regrown (at_row Rp 0 rfl)
  have p1 := cell_regrown (at_row Rp 1 rfl)
  have p2 := cell_regrown (at_row Rp 2 rfl)
  have q0 := cell_regrown (at_row Rx 0 rfl)
  have q1 := cell_regrown (at_row Rx 1 rfl)
  have q2 := cell_regrown (at_row Rx 2 rfl)
  clear Rp Rx
  have cB : ∀ d os, Calls Tryd.prog 22 #[planV t s a n c, .int .i64 0] (grow (redrawn W d) os) fun e w'' => e = .returned (.int .i64 (3 + t + t)) ∧ ∃ p : Regrown, w'' = grow (redrawn W p.d) p.os := fun d os => Calls.regrown_of (rBase6_0 t s a n c _ t0 t1 s0 s1)
  refine wp_region_quiet_below (by kernel_rfl) (by kernel_rfl) ?_
  repeat (go_big_quiet_step ((first | (go_at_call 22; exact cB _ _))))
  refine wpQuiet_nil ?_
  intro _ hw'
  obtain ⟨⟨dq, osq⟩, hw''⟩ := hw'
  subst hw''
  have kb := below_regrown W dq osq
  have B1 := hid (B0.out.trans (kb.mono B0.out.size))
  clear B0 kb p0 p1 p2 q0 q1 q2 cB
  go_wp2
  go_ret2
  exact ⟨by first | rfl | (congr 2; omega), B1.out⟩
set_option maxRecDepth 100000 in
set_option maxHeartbeats 4000000 in
theorem rAt6_yes6_1 (t s y : Int) (a : Option Addr) (n c : Nat) (w : World) (t0 : 1 ≤ t) (t1 : t ≤ 8) (s0 : 32 ≤ s) (s1 : s ≤ 4096) (y0 : 0 ≤ y) (y1 : y < s) :
    Calls Tryd.prog 28 #[planV t s a n c, partV 6 1 y] w fun e w' => e = .returned (.tuple #[.int .i64 ((3 + t + t + s) + y), .int .i64 0]) ∧ Below w.heap.size w w' := by
  go_enter Tryd.func28, Tryd.ntmps28
  go_wp2_with fail
  have B0 := hid (below2' w (.cells #[.int .i64 t, .int .i64 s, .slice a n c] 24) (.cells #[.int .i64 6, .int .i64 1, .int .i64 y] 45))
  have Rp : ((w.alloc (.cells #[.int .i64 t, .int .i64 s, .slice a n c] 24)).alloc (.cells #[.int .i64 6, .int .i64 1, .int .i64 y] 45)).heap[w.heap.size]? = _ := row2a (Below.refl _ _)
  have Rx : ((w.alloc (.cells #[.int .i64 t, .int .i64 s, .slice a n c] 24)).alloc (.cells #[.int .i64 6, .int .i64 1, .int .i64 y] 45)).heap[w.heap.size + 1]? = _ := last2 w _ _
  generalize (w.alloc (.cells #[.int .i64 t, .int .i64 s, .slice a n c] 24)).alloc (.cells #[.int .i64 6, .int .i64 1, .int .i64 y] 45) = W at *
  have p0 := cell_regrown (at_row Rp 0 rfl)
  have p1 := cell_regrown (at_row Rp 1 rfl)
  have p2 := cell_regrown (at_row Rp 2 rfl)
  have q0 := cell_regrown (at_row Rx 0 rfl)
  have q1 := cell_regrown (at_row Rx 1 rfl)
  have q2 := cell_regrown (at_row Rx 2 rfl)
  clear Rp Rx
  have cB : ∀ d os, Calls Tryd.prog 22 #[planV t s a n c, .int .i64 1] (grow (redrawn W d) os) fun e w'' => e = .returned (.int .i64 (3 + t + t + s)) ∧ ∃ p : Regrown, w'' = grow (redrawn W p.d) p.os := fun d os => Calls.regrown_of (rBase6_1 t s a n c _ t0 t1 s0 s1)
  refine wp_region_quiet_below (by kernel_rfl) (by kernel_rfl) ?_
  repeat (go_big_quiet_step ((first | (go_at_call 22; exact cB _ _))))
  refine wpQuiet_nil ?_
  intro _ hw'
  obtain ⟨⟨dq, osq⟩, hw''⟩ := hw'
  subst hw''
  have kb := below_regrown W dq osq
  have B1 := hid (B0.out.trans (kb.mono B0.out.size))
  clear B0 kb p0 p1 p2 q0 q1 q2 cB
  go_wp2
  go_ret2
  exact ⟨by first | rfl | (congr 2; omega), B1.out⟩
theorem bne_t {x : Int} (h : ¬ x = 0) : (x != 0) = true := by simpa using h
theorem bne_f {x : Int} (h : x = 0) : (x != 0) = false := by simpa using h
theorem mayP_no {k x y : Int} (h : mayP k x y = false) : k < 1 ∨ 6 < k ∨ (k < 4 ∧ ¬ x = 0) ∨ (k < 6 ∧ ¬ y = 0) := by
  by_cases h1 : k < 1
  · omega
  by_cases h2 : 6 < k
  · omega
  by_cases h3 : k < 4 ∧ ¬ x = 0
  · omega
  by_cases h4 : k < 6 ∧ ¬ y = 0
  · omega
  exfalso
  rw [Bool.eq_false_iff] at h
  apply h
  simp [mayP]
  omega
/-- What the document's At answers, of a plan that may be. -/
theorem rAt6_at (t s k x y v e' : Int) (a : Option Addr) (n c : Nat) (w : World) (t0 : 1 ≤ t) (t1 : t ≤ 8) (s0 : 32 ≤ s) (s1 : s ≤ 4096) (h : Hid (av t s k x y = (v, e'))) :
    Calls Tryd.prog 28 #[planV t s a n c, partV k x y] w fun e w' => e = .returned (.tuple #[.int .i64 v, .int .i64 e']) ∧ Below w.heap.size w w' := by
  have h := h.out
  have h' := h
  unfold av at h
  rcases Bool.eq_false_or_eq_true (mayP k x y) with hm | hm
  · rw [if_pos hm] at h
    rcases Bool.eq_false_or_eq_true (hasP t s k x y) with hh | hh
    · rw [if_pos hh] at h
      simp only [Prod.mk.injEq] at h
      obtain ⟨hv, rfl⟩ := h
      clear hv hh hm
      rcases av_yes h' rfl t0 s0 with ⟨rfl, rfl, rfl, rfl⟩ | ⟨rfl, rfl, rfl, rfl⟩ | ⟨rfl, rfl, rfl, rfl⟩ | ⟨rfl, h0, h1, rfl, rfl⟩ | ⟨rfl, h0, h1, rfl, rfl⟩ | ⟨rfl, rfl, h0, h1, rfl⟩ | ⟨rfl, rfl, h0, h1, rfl⟩
      · exact rAt6_yes1 t s 0 0 0 a n c w
      · exact rAt6_yes2 t s 0 0 0 a n c w
      · exact rAt6_yes3 t s 0 0 0 a n c w
      · exact rAt6_yes4 t s x a n c w t1 h0 h1
      · exact rAt6_yes5 t s x a n c w t0 t1 h0 h1
      · exact rAt6_yes6_0 t s y a n c w t0 t1 s0 s1 h0 h1
      · exact rAt6_yes6_1 t s y a n c w t0 t1 s0 s1 h0 h1
    · rw [if_neg (by simp [hh])] at h
      simp only [Prod.mk.injEq] at h
      obtain ⟨rfl, rfl⟩ := h
      have hk : k = 1 ∨ k = 2 ∨ k = 3 ∨ k = 4 ∨ k = 5 ∨ k = 6 := by
        simp only [mayP, Bool.and_eq_true, decide_eq_true_eq] at hm; omega
      simp only [mayP, Bool.and_eq_true, Bool.or_eq_true, decide_eq_true_eq] at hm
      rcases hk with rfl | rfl | rfl | rfl | rfl | rfl
      · exfalso; obtain ⟨⟨_, h1⟩, h2⟩ := hm; obtain rfl : x = 0 := by omega
        obtain rfl : y = 0 := by omega
        simp [hasP, prt, wrd] at hh
      · exfalso; obtain ⟨⟨_, h1⟩, h2⟩ := hm; obtain rfl : x = 0 := by omega
        obtain rfl : y = 0 := by omega
        simp [hasP, prt, wrd] at hh
      · exfalso; obtain ⟨⟨_, h1⟩, h2⟩ := hm; obtain rfl : x = 0 := by omega
        obtain rfl : y = 0 := by omega
        simp [hasP, prt, wrd] at hh
      · obtain rfl : y = 0 := by omega
        by_cases hx : x < 0
        · exact rAt6_neg4 t s 0 x 0 a n c w hx
        · exact rAt6_big4 t s 0 x 0 a n c w (by omega) (by
            rw [Bool.eq_false_iff] at hh
            by_cases hx2 : t ≤ x
            · exact hx2
            · exact absurd (by simp [hasP, prt, wrd]; omega) hh)
      · obtain rfl : y = 0 := by omega
        by_cases hx : x < 0
        · exact rAt6_neg5 t s 0 x 0 a n c w hx
        · exact rAt6_big5 t s 0 x 0 a n c w (by omega) (by
            rw [Bool.eq_false_iff] at hh
            by_cases hx2 : t ≤ x
            · exact hx2
            · exact absurd (by simp [hasP, prt, wrd]; omega) hh)
      · by_cases hx : x < 0
        · exact rAt6_neg6 t s 0 x y a n c w hx
        · by_cases hx2 : 2 ≤ x
          · exact rAt6_big6 t s 0 x y a n c w (by omega) hx2
          · by_cases hy : y < 0
            · exact rAt6_yneg6 t s 0 x y a n c w (by omega) (by omega) hy
            · exact rAt6_ybig6 t s 0 x y a n c w (by omega) (by omega) (by omega) (by
                rw [Bool.eq_false_iff] at hh
                by_cases hy2 : s ≤ y
                · exact hy2
                · exact absurd (by simp [hasP, prt, wrd]; omega) hh)
  · rw [if_neg (by simp [hm])] at h
    simp only [Prod.mk.injEq] at h
    obtain ⟨rfl, rfl⟩ := h
    by_cases h1 : k < 1
    · exact rAt6_klo t s k x y a n c w h1
    · by_cases h2 : 6 < k
      · exact rAt6_khi t s k x y a n c w (by omega) h2
      · by_cases h3 : k < 4
        · by_cases h4 : x = 0
          · exact rAt6_at3 t s k x y a n c w (by omega) (by omega) h3 (by omega) (bne_f h4) (bne_t (by have := mayP_no hm; omega))
          · exact rAt6_num t s k x y a n c w (by omega) (by omega) h3 (bne_t h4)
        · exact rAt6_at5 t s k x y a n c w (by omega) (by omega) (by omega) (by have := mayP_no hm; omega) (bne_t (by have := mayP_no hm; omega))
end Go.Proofs.YtjfegimgpkeleaaDoor
