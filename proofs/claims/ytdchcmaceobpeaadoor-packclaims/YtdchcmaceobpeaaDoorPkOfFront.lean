/- Package pack's OfFront. -/
import Derived.Test.YtdchcmaceobpeaaDoorPkFront
namespace Go.Proofs.YtdchcmaceobpeaaDoor
open Go.RowKit
theorem ret_fe {a b c d a' b' c' d' e e' : Int} (h1 : a = a') (h2 : b = b') (h3 : c = c') (h4 : d = d') (h5 : e = e') : Ending.returned (.tuple #[.agg #[.int .i64 a, .int .i64 b, .int .i64 c, .int .i64 d], .int .i64 e]) = .returned (.tuple #[.agg #[.int .i64 a', .int .i64 b', .int .i64 c', .int .i64 d'], .int .i64 e']) := by rw [h1, h2, h3, h4, h5]
set_option maxHeartbeats 2000000 in
theorem ofFront_raw_yes (x : Int) (w : World) (x0 : 0 ≤ x) (x1 : x ≤ 18446744073709551615) (hk : Pk.frOk (x % 2) (x / 2 % 8192) (x / 2 / 8192 % 8192) (x / 2 / 8192 / 8192 % 9223372036854775808) = true) :
    Calls Tryd.prog 17 #[.int .u64 x] w fun e w' => e = .returned (.tuple #[.agg #[.int .i64 (x % 2), .int .i64 (x / 2 % 8192), .int .i64 (x / 2 / 8192 % 8192), .int .i64 (x / 2 / 8192 / 8192 % 9223372036854775808)], .int .i64 0]) ∧ Below w.heap.size w w' := by
  have m0 : 0 ≤ x / 2 := by omega
  have m1 : x / 2 ≤ 18446744073709551615 := by omega
  have n0 : 0 ≤ x / 2 / 8192 := by omega
  have n1 : x / 2 / 8192 ≤ 18446744073709551615 := by omega
  have p0 : 0 ≤ x / 2 / 8192 / 8192 := by omega
  have p1 : x / 2 / 8192 / 8192 ≤ 18446744073709551615 := by omega
  have HK := hid hk
  clear hk
  go_enter Tryd.func17, Tryd.ntmps17
  go_wp2_with (first | (go_at_call 31; refine (may_any (w.heap.size + 1 + 1) _ _ _ _ _ (frAt_row (row3c (Below.refl _ _)))).mono ?_) | go_in)
  rintro e w1 ⟨rfl, b1⟩
  rw [HK.out]
  obtain ⟨c0, c1, c2, c3⟩ := frAt_row (row3c b1)
  have d0 := at_row (row3a b1) 0 rfl
  have d1 := at_row (row3a b1) 1 rfl
  have d2 := at_row (row3a b1) 2 rfl
  have d3 := at_row (row3a b1) 3 rfl
  have k0 := fz_row (row3a b1) 0
  have k1 := fz_row (row3a b1) 1
  have k2 := fz_row (row3a b1) 2
  have k3 := fz_row (row3a b1) 3
  have bw := bel3 b1
  clear b1
  go_wp2
  refine bodyPost_ret (v := .tuple #[.agg #[.int .i64 (x % 2), .int .i64 (x / 2 % 8192), .int .i64 (x / 2 / 8192 % 8192), .int .i64 (x / 2 / 8192 / 8192 % 9223372036854775808)], .int .i64 0]) (by simp [results, Tryd.results17, go_sem, d0, d1, d2, d3]) rfl ⟨rfl, four_set bw (Nat.le_refl _) _ _ _ _⟩
set_option maxHeartbeats 2000000 in
theorem ofFront_raw_no (x : Int) (w : World) (x0 : 0 ≤ x) (x1 : x ≤ 18446744073709551615) (hk : Pk.frOk (x % 2) (x / 2 % 8192) (x / 2 / 8192 % 8192) (x / 2 / 8192 / 8192 % 9223372036854775808) = false) :
    Calls Tryd.prog 17 #[.int .u64 x] w fun e w' => e = .returned (.tuple #[.agg #[.int .i64 0, .int .i64 0, .int .i64 0, .int .i64 0], .int .i64 2]) ∧ Below w.heap.size w w' := by
  have m0 : 0 ≤ x / 2 := by omega
  have m1 : x / 2 ≤ 18446744073709551615 := by omega
  have n0 : 0 ≤ x / 2 / 8192 := by omega
  have n1 : x / 2 / 8192 ≤ 18446744073709551615 := by omega
  have p0 : 0 ≤ x / 2 / 8192 / 8192 := by omega
  have p1 : x / 2 / 8192 / 8192 ≤ 18446744073709551615 := by omega
  have HK := hid hk
  clear hk
  go_enter Tryd.func17, Tryd.ntmps17
  go_wp2_with (first | (go_at_call 31; refine (may_any (w.heap.size + 1 + 1) _ _ _ _ _ (frAt_row (row3c (Below.refl _ _)))).mono ?_) | go_in)
  rintro e w1 ⟨rfl, b1⟩
  rw [HK.out]
  have d0 := at_row (row3a b1) 0 rfl
  have d1 := at_row (row3a b1) 1 rfl
  have d2 := at_row (row3a b1) 2 rfl
  have d3 := at_row (row3a b1) 3 rfl
  have k0 := fz_row (row3a b1) 0
  have k1 := fz_row (row3a b1) 1
  have k2 := fz_row (row3a b1) 2
  have k3 := fz_row (row3a b1) 3
  have bw := bel3 b1
  clear b1
  go_wp2
  refine bodyPost_ret (v := .tuple #[.agg #[.int .i64 0, .int .i64 0, .int .i64 0, .int .i64 0], .int .i64 2]) (by simp [results, Tryd.results17, go_sem, d0, d1, d2, d3]) rfl ⟨rfl, four_set bw (Nat.le_refl _) _ _ _ _⟩
theorem ofFront_yes (x : Int) (w : World) (x0 : 0 ≤ x) (x1 : x ≤ 18446744073709551615) (hk : Pk.frOk (x % 2) (x / 2 % 8192) (x / 16384 % 8192) (x / 134217728) = true) :
    Calls Tryd.prog 17 #[.int .u64 x] w fun e w' => e = .returned (.tuple #[.agg #[.int .i64 (x % 2), .int .i64 (x / 2 % 8192), .int .i64 (x / 16384 % 8192), .int .i64 (x / 134217728)], .int .i64 0]) ∧ Below w.heap.size w w' := by
  have e1 : x / 2 / 8192 % 8192 = x / 16384 % 8192 := by omega
  have e2 : x / 2 / 8192 / 8192 % 9223372036854775808 = x / 134217728 := by omega
  have H := ofFront_raw_yes x w x0 x1 (by rw [e1, e2]; exact hk)
  rw [e1, e2] at H
  exact H
theorem ofFront_no (x : Int) (w : World) (x0 : 0 ≤ x) (x1 : x ≤ 18446744073709551615) (hk : Pk.frOk (x % 2) (x / 2 % 8192) (x / 16384 % 8192) (x / 134217728) = false) :
    Calls Tryd.prog 17 #[.int .u64 x] w fun e w' => e = .returned (.tuple #[.agg #[.int .i64 0, .int .i64 0, .int .i64 0, .int .i64 0], .int .i64 2]) ∧ Below w.heap.size w w' := by
  have e1 : x / 2 / 8192 % 8192 = x / 16384 % 8192 := by omega
  have e2 : x / 2 / 8192 / 8192 % 9223372036854775808 = x / 134217728 := by omega
  exact ofFront_raw_no x w x0 x1 (by rw [e1, e2]; exact hk)
end Go.Proofs.YtdchcmaceobpeaaDoor
