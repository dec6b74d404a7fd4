/- The document's functions (lapidaryref04): Marked, Size, Name. -/
import Derived.Test.YtjjbdfabckdogaaDoorHdRef
namespace Go.Proofs.YtjjbdfabckdogaaDoor
open Go.RowKit Go.Hd Go.Sh
set_option maxHeartbeats 2000000 in
theorem rmarked_no (x m : Int) (w : World) (x0 : 0 ≤ x) (x1 : x ≤ 18446744073709551615) (h : isH x = false) : Calls Tryd.prog 16 #[.int .u64 x, .int .i64 m] w fun e w' => e = .returned (.tuple #[.int .u64 0, .int .i64 2]) ∧ Below w.heap.size w w' := by
  have c := fun W => rof_no x W x0 x1 h
  clear h x0 x1
  go_enter Tryd.func16, Tryd.ntmps16
  go_wp2_with (go_at_call 14; refine (c _).mono ?_)
  rintro e w1 ⟨rfl, b1⟩
  go_wp2
  go_ret2
  exact ⟨rfl, b1.alloc b1.size _⟩
set_option maxHeartbeats 2000000 in
theorem rmarked_lo (x m : Int) (w : World) (x0 : 0 ≤ x) (x1 : x ≤ 18446744073709551615) (h : isH x = true) (hm : m < 0) : Calls Tryd.prog 16 #[.int .u64 x, .int .i64 m] w fun e w' => e = .returned (.tuple #[.int .u64 0, .int .i64 2]) ∧ Below w.heap.size w w' := by
  have c := fun W => rof_yes x W x0 x1 h
  generalize x / 32 = s at *
  generalize x / 8 % 4 = t at *
  clear h x0 x1
  go_enter Tryd.func16, Tryd.ntmps16
  go_wp2_with (go_at_call 14; refine (c _).mono ?_)
  rintro e w1 ⟨rfl, b1⟩
  go_wp2
  go_ret2
  exact ⟨rfl, b1.alloc b1.size _⟩
set_option maxHeartbeats 2000000 in
theorem rmarked_hi (x m : Int) (w : World) (x0 : 0 ≤ x) (x1 : x ≤ 18446744073709551615) (h : isH x = true) (m0 : 0 ≤ m) (hm : 2 < m) : Calls Tryd.prog 16 #[.int .u64 x, .int .i64 m] w fun e w' => e = .returned (.tuple #[.int .u64 0, .int .i64 2]) ∧ Below w.heap.size w w' := by
  have c := fun W => rof_yes x W x0 x1 h
  generalize x / 32 = s at *
  generalize x / 8 % 4 = t at *
  clear h x0 x1
  go_enter Tryd.func16, Tryd.ntmps16
  go_wp2_with (go_at_call 14; refine (c _).mono ?_)
  rintro e w1 ⟨rfl, b1⟩
  go_wp2
  go_ret2
  exact ⟨rfl, b1.alloc b1.size _⟩
set_option maxHeartbeats 2000000 in
theorem rmarked_in (x m : Int) (w : World) (x0 : 0 ≤ x) (x1 : x ≤ 18446744073709551615) (h : isH x = true) (m0 : 0 ≤ m) (m1 : m ≤ 2) : Calls Tryd.prog 16 #[.int .u64 x, .int .i64 m] w fun e w' => e = .returned (.tuple #[.int .u64 (wd (x / 32) m), .int .i64 0]) ∧ Below w.heap.size w w' := by
  have c := fun W => rof_yes x W x0 x1 h
  obtain ⟨h1, _, _⟩ := isH_is h
  obtain ⟨s0, s1, _, _⟩ := ok_yes h1
  have cw := fun W => rword_at (x / 32) m W s0 (by omega) m0 m1
  clear h1 s0 s1
  generalize x / 32 = s at *
  generalize x / 8 % 4 = t at *
  clear h x0 x1
  go_enter Tryd.func16, Tryd.ntmps16
  go_wp2_with (go_at_call 14; refine (c _).mono ?_)
  rintro e w1 ⟨rfl, b1⟩
  go_wp2_with (go_at_call 27; refine (cw _).mono ?_)
  rintro e w2 ⟨rfl, hw⟩; rw [hw]; clear hw w2
  go_wp2
  go_ret2
  exact ⟨rfl, b1.alloc b1.size _⟩
theorem rmarked_at (x m a c : Int) (w : World) (x0 : 0 ≤ x) (x1 : x ≤ 18446744073709551615) (h : mkd x m = (a, c)) : Calls Tryd.prog 16 #[.int .u64 x, .int .i64 m] w fun e w' => e = .returned (.tuple #[.int .u64 a, .int .i64 c]) ∧ Below w.heap.size w w' := by
  by_cases hi : isH x = true
  · by_cases m0 : m < 0
    · rw [mkd_out (by simp [mk]; omega)] at h
      obtain ⟨rfl, rfl⟩ := Prod.mk.inj h
      exact rmarked_lo x m w x0 x1 hi m0
    · by_cases m1 : 2 < m
      · rw [mkd_out (by simp [mk]; omega)] at h
        obtain ⟨rfl, rfl⟩ := Prod.mk.inj h
        exact rmarked_hi x m w x0 x1 hi (by omega) m1
      · rw [mkd_in hi (by simp [mk]; omega)] at h
        obtain ⟨rfl, rfl⟩ := Prod.mk.inj h
        exact rmarked_in x m w x0 x1 hi (by omega) (by omega)
  · have hi' : isH x = false := by simpa using hi
    rw [mkd_no hi'] at h
    obtain ⟨rfl, rfl⟩ := Prod.mk.inj h
    exact rmarked_no x m w x0 x1 hi'
set_option maxHeartbeats 2000000 in
theorem rhSize_no (x : Int) (v : Value) (w : World) (x0 : 0 ≤ x) (x1 : x ≤ 18446744073709551615) (h : isH x = false) : Calls Tryd.prog 19 #[.int .u64 x, v] w fun e w' => e = .returned (.tuple #[.int .i64 0, .int .i64 2]) ∧ Below w.heap.size w w' := by
  have c := fun W => rof_no x W x0 x1 h
  clear h x0 x1
  go_enter Tryd.func19, Tryd.ntmps19
  go_wp2_with (go_at_call 14; refine (c _).mono ?_)
  rintro e w1 ⟨rfl, b1⟩
  go_wp2
  go_ret2
  exact ⟨rfl, b1.alloc b1.size _⟩
set_option maxHeartbeats 2000000 in
theorem rhSize_is (x : Int) (v : Value) (ss : List ByteArray) (w : World) (x0 : 0 ≤ x) (x1 : x ≤ 18446744073709551615) (h : isH x = true) (ht : IsTab w v ss) :
    Calls Tryd.prog 19 #[.int .u64 x, v] w fun e w' => e = .returned (.tuple #[.int .i64 (sz ss (x / 32)).1, .int .i64 (sz ss (x / 32)).2]) ∧ Below w.heap.size w w' := by
  have c := fun W => rof_yes x W x0 x1 h
  have HT := hid ht
  clear ht
  have cs := fun W hW => rSize_any v ss (x / 32) W hW
  generalize (sz ss (x / 32)).1 = A at *
  generalize (sz ss (x / 32)).2 = B at *
  generalize x / 32 = s at *
  generalize x / 8 % 4 = t at *
  clear h x0 x1
  go_enter Tryd.func19, Tryd.ntmps19
  go_wp2_with (go_at_call 14; refine (c _).mono ?_)
  rintro e w1 ⟨rfl, b1⟩
  go_wp2_with (go_at_call 29; refine (cs _ (HT.out.below (Nat.le_refl _) (b1.alloc b1.size _))).mono ?_)
  rintro e w2 ⟨rfl, hw⟩; rw [hw]; clear hw w2
  go_wp2
  go_ret2
  exact ⟨rfl, b1.alloc b1.size _⟩
theorem rhSize_at (x : Int) (v : Value) (ss : List ByteArray) (a b : Int) (w : World) (x0 : 0 ≤ x) (x1 : x ≤ 18446744073709551615) (ht : IsTab w v ss) (h : szH x ss = (a, b)) :
    Calls Tryd.prog 19 #[.int .u64 x, v] w fun e w' => e = .returned (.tuple #[.int .i64 a, .int .i64 b]) ∧ Below w.heap.size w w' := by
  by_cases hi : isH x = true
  · rw [szH, if_pos hi] at h
    have := rhSize_is x v ss w x0 x1 hi ht
    rwa [h] at this
  · rw [szH, if_neg hi] at h
    obtain ⟨rfl, rfl⟩ := Prod.mk.inj h
    exact rhSize_no x v w x0 x1 (by simpa using hi)
theorem rname_lo (p : Int) (w : World) (h : p < 0) :
    Calls Tryd.prog 23 #[.int .i64 p] w fun e w' => e = .returned (.string ⟨#[]⟩) ∧ Below w.heap.size w w' := by
  go_enter Tryd.func23, Tryd.ntmps23
  go_wp2
  go_ret
  exact ⟨rfl, Below.refl _ _⟩
theorem rname_hi (p : Int) (w : World) (h0 : 0 ≤ p) (h : 2 < p) :
    Calls Tryd.prog 23 #[.int .i64 p] w fun e w' => e = .returned (.string ⟨#[]⟩) ∧ Below w.heap.size w w' := by
  go_enter Tryd.func23, Tryd.ntmps23
  go_wp2
  go_ret
  exact ⟨rfl, Below.refl _ _⟩
theorem rname_out (p : Int) (w : World) (h : mk p = false) :
    Calls Tryd.prog 23 #[.int .i64 p] w fun e w' => e = .returned (.string ⟨#[]⟩) ∧ Below w.heap.size w w' := by
  by_cases h0 : p < 0
  · exact rname_lo p w h0
  · refine rname_hi p w (by omega) ?_
    have : ¬ (p ≤ 2) := by
      intro hm
      have : mk p = true := by simp [mk]; omega
      rw [h] at this; cases this
    omega
theorem rname_in (k : Nat) (T : ByteArray) (w : World) (hk : k < 3) (hT : nm k = T) :
    Calls Tryd.prog 23 #[.int .i64 (k : Int)] w fun e w' => e = .returned (.string T) ∧ Below w.heap.size w w' := by
  subst hT
  have hcs : k = 0 ∨ k = 1 ∨ k = 2 := by omega
  rcases hcs with rfl | rfl | rfl
  all_goals
    go_enter Tryd.func23, Tryd.ntmps23
    go_wp2
    go_ret
    exact ⟨rfl, below_alloc0 w _⟩
end Go.Proofs.YtjjbdfabckdogaaDoor
