/- The document's answers for layer 6: Right, Size, Ack, List, Base, Space, At. -/
import Derived.Test.YtjfegimgpkeleaaDoorLyFace
import Derived.Test.YtjfegimgpkeleaaDoorShRef
set_option linter.unusedVariables false
namespace Go.Proofs.YtjfegimgpkeleaaDoor
open Go.RowKit Go.Ly Go.Sh Go.Sort
set_option maxRecDepth 100000 in
set_option maxHeartbeats 4000000 in
theorem rgt6_no (t s : Int) (a : Option Addr) (n c : Nat) (w : World) (h : nums t s = false) :
    Calls Tryd.prog 12 #[planV t s a n c] w fun e w' => e = .returned (.bool false) ∧ Below w.heap.size w w' := by
  by_cases h1 : t < 1
  · go_enter Tryd.func12, Tryd.ntmps12
    go_wp2
    go_ret
    exact ⟨rfl, below_alloc0 w _⟩
  · have h1' : 1 ≤ t := by omega
    by_cases h2 : 8 < t
    · clear h1
      go_enter Tryd.func12, Tryd.ntmps12
      go_wp2
      go_ret
      exact ⟨rfl, below_alloc0 w _⟩
    · have h2' : t ≤ 8 := by omega
      by_cases h3 : s < 32
      · clear h1 h2
        go_enter Tryd.func12, Tryd.ntmps12
        go_wp2
        go_ret
        exact ⟨rfl, below_alloc0 w _⟩
      · have h3' : 32 ≤ s := by omega
        have h4' : 4096 < s := by
          simp [nums, h1', h2', h3'] at h; omega
        clear h1 h2 h3 h
        go_enter Tryd.func12, Tryd.ntmps12
        go_wp2
        go_ret
        exact ⟨rfl, below_alloc0 w _⟩
set_option maxRecDepth 100000 in
set_option maxHeartbeats 4000000 in
theorem rgt6_at (t s : Int) (a : Option Addr) (n c : Nat) (ss : List ByteArray) (w : World) (r : Bool) (hT : IsTab w (.slice a n c) ss) (hr : Hid (rgt t s ss = r)) :
    Calls Tryd.prog 12 #[planV t s a n c] w fun e w' => e = .returned (.bool r) ∧ Below w.heap.size w w' := by
  have hr := hr.out
  rcases Bool.eq_false_or_eq_true (nums t s) with hn | hn
  · obtain ⟨t0, t1, s0, s1⟩ := nums_yes hn
    rw [rgt, hn, Bool.true_and] at hr
    have cr := rRight_any _ ss _ (hT.below (Nat.le_refl _) (below_alloc0 w (.cells #[.int .i64 t, .int .i64 s, .slice a n c] 24)))
    rw [hr] at cr
    clear hr hn hT
    go_enter Tryd.func12, Tryd.ntmps12
    go_wp2_with (go_at_call 32; refine cr.mono ?_; rintro e w1 ⟨rfl, hw⟩; rw [hw]; clear hw)
    go_ret
    exact ⟨rfl, below_alloc0 w _⟩
  · rw [rgt, hn, Bool.false_and] at hr
    subst hr
    exact rgt6_no t s a n c w hn
theorem rSize6 (t s : Int) (a : Option Addr) (n c : Nat) (w : World) (t0 : 1 ≤ t) (t1 : t ≤ 8) (s0 : 32 ≤ s) (s1 : s ≤ 4096) :
    Calls Tryd.prog 16 #[planV t s a n c] w fun e w' => e = .returned (.int .i64 (3 + t + t + 2 * s)) ∧ Below w.heap.size w w' := by
  go_enter Tryd.func16, Tryd.ntmps16
  go_wp2
  go_ret
  exact ⟨ret_int (by omega), below_alloc0 w _⟩
theorem rAck6 (x : Int) (w : World) (x0 : 0 ≤ x) (x1 : x ≤ 100) :
    Calls Tryd.prog 20 #[.int .i64 x] w fun e w' => e = .returned (.int .i64 (3 + x)) ∧ w' = w := by
  go_enter Tryd.func20, Tryd.ntmps20
  go_wp2
  go_ret
  exact ⟨rfl, rfl⟩
theorem rList6 (t s x : Int) (a : Option Addr) (n c : Nat) (w : World) (t0 : 1 ≤ t) (t1 : t ≤ 8) (x0 : 0 ≤ x) (x1 : x ≤ 100) :
    Calls Tryd.prog 21 #[planV t s a n c, .int .i64 x] w fun e w' => e = .returned (.int .i64 (3 + t + x)) ∧ Below w.heap.size w w' := by
  go_enter Tryd.func21, Tryd.ntmps21
  go_wp2
  go_ret
  exact ⟨ret_int (by omega), below_alloc0 w _⟩
theorem rBase6_0 (t s : Int) (a : Option Addr) (n c : Nat) (w : World) (t0 : 1 ≤ t) (t1 : t ≤ 8) (s0 : 32 ≤ s) (s1 : s ≤ 4096) :
    Calls Tryd.prog 22 #[planV t s a n c, .int .i64 0] w fun e w' => e = .returned (.int .i64 (3 + t + t)) ∧ Below w.heap.size w w' := by
  go_enter Tryd.func22, Tryd.ntmps22
  go_wp2
  go_ret
  exact ⟨ret_int (by omega), below_alloc0 w _⟩
theorem rBase6_1 (t s : Int) (a : Option Addr) (n c : Nat) (w : World) (t0 : 1 ≤ t) (t1 : t ≤ 8) (s0 : 32 ≤ s) (s1 : s ≤ 4096) :
    Calls Tryd.prog 22 #[planV t s a n c, .int .i64 1] w fun e w' => e = .returned (.int .i64 (3 + t + t + s)) ∧ Below w.heap.size w w' := by
  go_enter Tryd.func22, Tryd.ntmps22
  go_wp2
  go_ret
  exact ⟨ret_int (by omega), below_alloc0 w _⟩
end Go.Proofs.YtjfegimgpkeleaaDoor
