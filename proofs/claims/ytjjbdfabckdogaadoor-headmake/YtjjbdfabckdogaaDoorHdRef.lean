/- The document's functions (lapidaryref04): Make, Word, Of, Marked, Size, Name. -/
import Derived.Test.YtjjbdfabckdogaaDoorHdText
import Derived.Test.YtjjbdfabckdogaaDoorShRef
namespace Go.Proofs.YtjjbdfabckdogaaDoor
open Go.RowKit Go.Hd Go.Sh
set_option maxHeartbeats 1000000 in
theorem rmake_yes (s m : Int) (w : World) (h : ok s m = true) : Calls Tryd.prog 10 #[.agg #[.int .i64 s, .int .i64 m]] w fun e w' => e = .returned (.tuple #[.int .u64 (wd s m), .int .i64 0]) ∧ Below w.heap.size w w' := by
  obtain ⟨s0, s1, m0, m1⟩ := ok_yes h
  have s1' : s ≤ 15 := by omega
  clear h
  have H : Hid (8 * (4 * s + m) + 6 = wd s m) := hid rfl
  go_enter Tryd.func10, Tryd.ntmps10
  go_wp2
  go_ret2
  exact ⟨by rw [← H.out]; rfl, below_alloc0 w _⟩
set_option maxHeartbeats 1000000 in
theorem rmake_no (s m : Int) (w : World) (h : ok s m = false) : Calls Tryd.prog 10 #[.agg #[.int .i64 s, .int .i64 m]] w fun e w' => e = .returned (.tuple #[.int .u64 0, .int .i64 2]) ∧ Below w.heap.size w w' := by
  by_cases h0 : s < 0
  · clear h
    go_enter Tryd.func10, Tryd.ntmps10
    go_wp2
    go_ret2
    exact ⟨rfl, below_alloc0 w _⟩
  · have h0' : 0 ≤ s := by omega
    clear h0
    by_cases h1 : 15 < s
    · clear h
      go_enter Tryd.func10, Tryd.ntmps10
      go_wp2
      go_ret2
      exact ⟨rfl, below_alloc0 w _⟩
    · have h1' : s ≤ 15 := by omega
      clear h1
      by_cases h2 : m < 0
      · clear h
        go_enter Tryd.func10, Tryd.ntmps10
        go_wp2
        go_ret2
        exact ⟨rfl, below_alloc0 w _⟩
      · have h2' : 0 ≤ m := by omega
        have h3 : 2 < m := by
          have e : ¬ (m ≤ 2) := by
            intro hm
            have : ok s m = true := by simp [ok, mk]; omega
            rw [h] at this; cases this
          omega
        clear h h2
        go_enter Tryd.func10, Tryd.ntmps10
        go_wp2
        go_ret2
        exact ⟨rfl, below_alloc0 w _⟩
theorem rword_at (s m : Int) (w : World) (s0 : 0 ≤ s) (s1 : s ≤ 15) (m0 : 0 ≤ m) (m1 : m ≤ 2) : Calls Tryd.prog 27 #[.int .i64 s, .int .i64 m] w fun e w' => e = .returned (.int .u64 (wd s m)) ∧ w' = w := by
  have H : Hid (8 * (4 * s + m) + 6 = wd s m) := hid rfl
  go_enter Tryd.func27, Tryd.ntmps27
  go_wp2
  go_ret
  exact ⟨ret_int H.out, rfl⟩
set_option maxHeartbeats 1000000 in
theorem rof_no_a (x : Int) (w : World) (x0 : 0 ≤ x) (x1 : x ≤ 18446744073709551615) (h : (x % 8 != 6) = true) : Calls Tryd.prog 14 #[.int .u64 x] w fun e w' => e = .returned (.tuple #[.agg #[.int .i64 0, .int .i64 0], .bool false]) ∧ Below w.heap.size w w' := by
  have n0 : 0 ≤ x / 8 := by omega
  have n1 : x / 8 ≤ 18446744073709551615 := by omega
  go_enter Tryd.func14, Tryd.ntmps14
  go_wp2
  exact bodyPost_ret (v := .tuple #[.agg #[.int .i64 0, .int .i64 0], .bool false]) (by simp [results, Tryd.results14, go_sem]) rfl ⟨rfl, below_alloc0 w _⟩
set_option maxHeartbeats 1000000 in
theorem rof_no_b (x : Int) (w : World) (x0 : 0 ≤ x) (x1 : x ≤ 18446744073709551615) (h : (x % 8 != 6) = false) (h2 : 64 ≤ x / 8) : Calls Tryd.prog 14 #[.int .u64 x] w fun e w' => e = .returned (.tuple #[.agg #[.int .i64 0, .int .i64 0], .bool false]) ∧ Below w.heap.size w w' := by
  have n0 : 0 ≤ x / 8 := by omega
  have n1 : x / 8 ≤ 18446744073709551615 := by omega
  go_enter Tryd.func14, Tryd.ntmps14
  go_wp2
  exact bodyPost_ret (v := .tuple #[.agg #[.int .i64 0, .int .i64 0], .bool false]) (by simp [results, Tryd.results14, go_sem]) rfl ⟨rfl, below_alloc0 w _⟩
set_option maxHeartbeats 1000000 in
theorem rof_no_c (x : Int) (w : World) (x0 : 0 ≤ x) (x1 : x ≤ 18446744073709551615) (h : (x % 8 != 6) = false) (h2 : x / 8 < 64) (h3 : (x / 8 % 4 == 3) = true) : Calls Tryd.prog 14 #[.int .u64 x] w fun e w' => e = .returned (.tuple #[.agg #[.int .i64 0, .int .i64 0], .bool false]) ∧ Below w.heap.size w w' := by
  have n0 : 0 ≤ x / 8 := by omega
  have n1 : x / 8 ≤ 18446744073709551615 := by omega
  go_enter Tryd.func14, Tryd.ntmps14
  go_wp2
  exact bodyPost_ret (v := .tuple #[.agg #[.int .i64 0, .int .i64 0], .bool false]) (by simp [results, Tryd.results14, go_sem]) rfl ⟨rfl, below_alloc0 w _⟩
set_option maxHeartbeats 1000000 in
theorem rof_in (x : Int) (w : World) (x0 : 0 ≤ x) (x1 : x ≤ 18446744073709551615) (h : (x % 8 != 6) = false) (h2 : x / 8 < 64) (h3 : (x / 8 % 4 == 3) = false) : Calls Tryd.prog 14 #[.int .u64 x] w fun e w' => e = .returned (.tuple #[.agg #[.int .i64 (x / 32), .int .i64 (x / 8 % 4)], .bool true]) ∧ Below w.heap.size w w' := by
  have e1 : x / 8 / 4 = x / 32 := by omega
  have n0 : 0 ≤ x / 8 := by omega
  have n9 : x / 8 ≤ 18446744073709551615 := by omega
  have n1 : 0 ≤ x / 8 % 4 := by omega
  have n2 : x / 8 % 4 ≤ 3 := by omega
  have k0 : 0 ≤ x / 8 / 4 := by omega
  have k1 : x / 8 / 4 ≤ 15 := by omega
  rw [← e1]
  clear e1
  go_enter Tryd.func14, Tryd.ntmps14
  go_wp2
  exact bodyPost_ret (v := .tuple #[.agg #[.int .i64 (x / 8 / 4), .int .i64 (x / 8 % 4)], .bool true]) (by simp [results, Tryd.results14, go_sem]) rfl ⟨rfl, below_alloc0 w _⟩
theorem rof_yes (x : Int) (w : World) (x0 : 0 ≤ x) (x1 : x ≤ 18446744073709551615) (h : isH x = true) : Calls Tryd.prog 14 #[.int .u64 x] w fun e w' => e = .returned (.tuple #[.agg #[.int .i64 (x / 32), .int .i64 (x / 8 % 4)], .bool true]) ∧ Below w.heap.size w w' := by
  obtain ⟨h1, h2, _⟩ := isH_is h
  obtain ⟨a, b, c, d⟩ := ok_yes h1
  exact rof_in x w x0 x1 (by rw [h2]; rfl) (by omega) (by rw [beq_eq_false_iff_ne]; omega)
theorem rof_no (x : Int) (w : World) (x0 : 0 ≤ x) (x1 : x ≤ 18446744073709551615) (h : isH x = false) : Calls Tryd.prog 14 #[.int .u64 x] w fun e w' => e = .returned (.tuple #[.agg #[.int .i64 0, .int .i64 0], .bool false]) ∧ Below w.heap.size w w' := by
  by_cases h2 : x % 8 = 6
  · by_cases h3 : 64 ≤ x / 8
    · exact rof_no_b x w x0 x1 (by rw [h2]; rfl) h3
    · refine rof_no_c x w x0 x1 (by rw [h2]; rfl) (by omega) ?_
      have : ¬ (x / 8 % 4 ≤ 2) := by
        intro hm
        have : isH x = true := by simp [isH, ok, mk, h2]; omega
        rw [h] at this; cases this
      simp; omega
  · exact rof_no_a x w x0 x1 (by simpa using h2)
theorem rof_at (x a b : Int) (t : Bool) (w : World) (x0 : 0 ≤ x) (x1 : x ≤ 18446744073709551615) (h : ofv x = (a, b, t)) : Calls Tryd.prog 14 #[.int .u64 x] w fun e w' => e = .returned (.tuple #[.agg #[.int .i64 a, .int .i64 b], .bool t]) ∧ Below w.heap.size w w' := by
  by_cases hi : isH x = true
  · rw [ofv, if_pos hi] at h
    simp only [Prod.mk.injEq] at h
    obtain ⟨rfl, rfl, rfl⟩ := h
    exact rof_yes x w x0 x1 hi
  · rw [ofv, if_neg hi] at h
    simp only [Prod.mk.injEq] at h
    obtain ⟨rfl, rfl, rfl⟩ := h
    exact rof_no x w x0 x1 (by simpa using hi)
end Go.Proofs.YtjjbdfabckdogaaDoor
