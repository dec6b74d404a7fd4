/- Package pack's Request and OfRequest. -/
import Derived.Test.YtdchcmaceobpeaaDoorPkMay
namespace Go.Proofs.YtdchcmaceobpeaaDoor
open Go.RowKit
set_option maxHeartbeats 1000000 in
theorem request_yes (x p : Int) (w : World) (h : Pk.rqOk x p = true) :
    Calls Tryd.prog 10 #[.agg #[.int .i64 x, .int .i64 p]] w fun e w' => e = .returned (.tuple #[.int .u64 (8 * x + p), .int .i64 0]) ∧ Below w.heap.size w w' := by
  obtain ⟨x0, x1, p0, p1⟩ := Pk.rqOk_yes h
  go_enter Tryd.func10, Tryd.ntmps10
  go_wp2_with (go_at_call 29; refine (isRequest_any x p _).mono ?_)
  rintro e w1 ⟨rfl, b1⟩
  have c0 := at_row (row1 b1) 0 rfl
  have c1 := at_row (row1 b1) 1 rfl
  have bw := bel1 b1
  clear b1
  go_wp2
  go_ret2
  exact ⟨rfl, bw⟩
set_option maxHeartbeats 1000000 in
theorem request_no (x p : Int) (w : World) (h : Pk.rqOk x p = false) :
    Calls Tryd.prog 10 #[.agg #[.int .i64 x, .int .i64 p]] w fun e w' => e = .returned (.tuple #[.int .u64 0, .int .i64 2]) ∧ Below w.heap.size w w' := by
  go_enter Tryd.func10, Tryd.ntmps10
  go_wp2_with (go_at_call 29; refine (isRequest_any x p _).mono ?_)
  rintro e w1 ⟨rfl, b1⟩
  have bw := bel1 b1
  clear b1
  go_wp2
  go_ret2
  exact ⟨rfl, bw⟩
set_option maxHeartbeats 1000000 in
theorem ofRequest_raw (x : Int) (w : World) (x0 : 0 ≤ x) (x1 : x ≤ 18446744073709551615) :
    Calls Tryd.prog 13 #[.int .u64 x] w fun e w' => e = .returned (if Pk.rqOk (x / 8 % 9223372036854775808) (x % 8) = true then .tuple #[.agg #[.int .i64 (x / 8 % 9223372036854775808), .int .i64 (x % 8)], .int .i64 0] else .tuple #[.agg #[.int .i64 0, .int .i64 0], .int .i64 2]) ∧ Below w.heap.size w w' := by
  by_cases hk : Pk.rqOk (x / 8 % 9223372036854775808) (x % 8) = true
  · rw [if_pos hk]
    have m0 : 0 ≤ x / 8 := by omega
    have m1 : x / 8 ≤ 18446744073709551615 := by omega
    have HK := hid hk
    clear hk
    go_enter Tryd.func13, Tryd.ntmps13
    go_wp2_with (first | (go_at_call 29; refine (isRequest_any _ _ _).mono ?_) | go_in)
    rintro e w1 ⟨rfl, b1⟩
    rw [HK.out]
    have c0 := at_row (row3c b1) 0 rfl
    have c1 := at_row (row3c b1) 1 rfl
    have d0 := at_row (row3a b1) 0 rfl
    have d1 := at_row (row3a b1) 1 rfl
    have f0 := fz_row (row3a b1) 0
    have f1 := fz_row (row3a b1) 1
    have bw := bel3 b1
    clear b1
    go_wp2
    refine bodyPost_ret (v := .tuple #[.agg #[.int .i64 (x / 8 % 9223372036854775808), .int .i64 (x % 8)], .int .i64 0]) (by simp [results, Tryd.results13, go_sem, d0, d1]) rfl ⟨rfl, two_set bw (Nat.le_refl _) _ _⟩
  · rw [if_neg hk]
    have m0 : 0 ≤ x / 8 := by omega
    have m1 : x / 8 ≤ 18446744073709551615 := by omega
    have HK : Hid (Pk.rqOk (x / 8 % 9223372036854775808) (x % 8) = false) := Bool.eq_false_iff.2 hk
    clear hk
    go_enter Tryd.func13, Tryd.ntmps13
    go_wp2_with (first | (go_at_call 29; refine (isRequest_any _ _ _).mono ?_) | go_in)
    rintro e w1 ⟨rfl, b1⟩
    rw [HK.out]
    have d0 := at_row (row3a b1) 0 rfl
    have d1 := at_row (row3a b1) 1 rfl
    have f0 := fz_row (row3a b1) 0
    have f1 := fz_row (row3a b1) 1
    have bw := bel3 b1
    clear b1
    go_wp2
    refine bodyPost_ret (v := .tuple #[.agg #[.int .i64 0, .int .i64 0], .int .i64 2]) (by simp [results, Tryd.results13, go_sem, d0, d1]) rfl ⟨rfl, two_set bw (Nat.le_refl _) _ _⟩
theorem ofRequest_yes (x : Int) (w : World) (x0 : 0 ≤ x) (x1 : x ≤ 18446744073709551615) (h : Pk.rqOk (x / 8) (x % 8) = true) :
    Calls Tryd.prog 13 #[.int .u64 x] w fun e w' => e = .returned (.tuple #[.agg #[.int .i64 (x / 8), .int .i64 (x % 8)], .int .i64 0]) ∧ Below w.heap.size w w' := by
  have e : x / 8 % 9223372036854775808 = x / 8 := by omega
  have H := ofRequest_raw x w x0 x1
  rw [e, if_pos h] at H
  exact H
theorem ofRequest_no (x : Int) (w : World) (x0 : 0 ≤ x) (x1 : x ≤ 18446744073709551615) (h : Pk.rqOk (x / 8) (x % 8) = false) :
    Calls Tryd.prog 13 #[.int .u64 x] w fun e w' => e = .returned (.tuple #[.agg #[.int .i64 0, .int .i64 0], .int .i64 2]) ∧ Below w.heap.size w w' := by
  have e : x / 8 % 9223372036854775808 = x / 8 := by omega
  have H := ofRequest_raw x w x0 x1
  rw [e, if_neg (by simp [h])] at H
  exact H
end Go.Proofs.YtdchcmaceobpeaaDoor
