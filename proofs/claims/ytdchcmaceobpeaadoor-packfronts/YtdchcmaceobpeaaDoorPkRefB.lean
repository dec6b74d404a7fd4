/- The document's functions of layer 2: frontiers of words; claims, turns, what is used; names. -/
import Derived.Test.YtdchcmaceobpeaaDoorPkRef
namespace Go.Proofs.YtdchcmaceobpeaaDoor
open Go.RowKit
theorem claim_below {w w2 : World} (h : Below w.heap.size w w2) (j : Nat) (t u v x y : Value) : Below w.heap.size w (((((w2.setCell ⟨w.heap.size, j, none⟩ t).setCell ⟨w.heap.size + 1, 0, none⟩ u).setCell ⟨w.heap.size + 1, 1, none⟩ v).setCell ⟨w.heap.size + 1, 2, none⟩ x).setCell ⟨w.heap.size + 1, 3, none⟩ y) :=
  four_set (h.setCell (Nat.le_refl _) _) (Nat.le_succ _) _ _ _ _
set_option maxHeartbeats 2000000 in
theorem rofFront_raw_yes (x : Int) (w : World) (x0 : 0 ≤ x) (x1 : x ≤ 18446744073709551615) (hx : x / 2 < 549755813888) (hk : Pk.frOk (x % 2) (x / 2 % 8192) (x / 2 / 8192 % 8192) (x / 2 / 67108864) = true) :
    Calls Tryd.prog 18 #[.int .u64 x] w fun e w' => e = .returned (.tuple #[.agg #[.int .i64 (x % 2), .int .i64 (x / 2 % 8192), .int .i64 (x / 2 / 8192 % 8192), .int .i64 (x / 2 / 67108864)], .int .i64 0]) ∧ Below w.heap.size w w' := by
  have m0 : 0 ≤ x / 2 := by omega
  have m1 : x / 2 ≤ 9223372036854775807 := by omega
  have q0 : 0 ≤ x / 2 / 67108864 := by omega
  have q1 : x / 2 / 67108864 ≤ 9223372036854775807 := by omega
  have q2 : 0 ≤ x / 2 / 8192 := by omega
  have q3 : x / 2 / 8192 ≤ 9223372036854775807 := by omega
  have HK := hid hk
  clear hk
  go_enter Tryd.func18, Tryd.ntmps18
  go_wp2_with (go_at_call 32; refine (right_any _ _ _ _ _).mono ?_)
  rintro e w1 ⟨rfl, b1⟩
  rw [HK.out]
  have c0 := at_row (row2b b1) 0 rfl
  have c1 := at_row (row2b b1) 1 rfl
  have c2 := at_row (row2b b1) 2 rfl
  have c3 := at_row (row2b b1) 3 rfl
  have d0 := at_row (row2a b1) 0 rfl
  have d1 := at_row (row2a b1) 1 rfl
  have d2 := at_row (row2a b1) 2 rfl
  have d3 := at_row (row2a b1) 3 rfl
  have k0 := fz_row (row2a b1) 0
  have k1 := fz_row (row2a b1) 1
  have k2 := fz_row (row2a b1) 2
  have k3 := fz_row (row2a b1) 3
  have bw := bel2 b1
  clear b1
  go_wp2
  refine bodyPost_ret (v := .tuple #[.agg #[.int .i64 (x % 2), .int .i64 (x / 2 % 8192), .int .i64 (x / 2 / 8192 % 8192), .int .i64 (x / 2 / 67108864)], .int .i64 0]) (by simp [results, Tryd.results18, go_sem, d0, d1, d2, d3]) rfl ⟨rfl, four_set bw (Nat.le_refl _) _ _ _ _⟩
set_option maxHeartbeats 2000000 in
theorem rofFront_raw_no (x : Int) (w : World) (x0 : 0 ≤ x) (x1 : x ≤ 18446744073709551615) (hx : x / 2 < 549755813888) (hk : Pk.frOk (x % 2) (x / 2 % 8192) (x / 2 / 8192 % 8192) (x / 2 / 67108864) = false) :
    Calls Tryd.prog 18 #[.int .u64 x] w fun e w' => e = .returned (.tuple #[.agg #[.int .i64 0, .int .i64 0, .int .i64 0, .int .i64 0], .int .i64 2]) ∧ Below w.heap.size w w' := by
  have m0 : 0 ≤ x / 2 := by omega
  have m1 : x / 2 ≤ 9223372036854775807 := by omega
  have q0 : 0 ≤ x / 2 / 67108864 := by omega
  have q1 : x / 2 / 67108864 ≤ 9223372036854775807 := by omega
  have q2 : 0 ≤ x / 2 / 8192 := by omega
  have q3 : x / 2 / 8192 ≤ 9223372036854775807 := by omega
  have HK := hid hk
  clear hk
  go_enter Tryd.func18, Tryd.ntmps18
  go_wp2_with (go_at_call 32; refine (right_any _ _ _ _ _).mono ?_)
  rintro e w1 ⟨rfl, b1⟩
  rw [HK.out]
  have d0 := at_row (row2a b1) 0 rfl
  have d1 := at_row (row2a b1) 1 rfl
  have d2 := at_row (row2a b1) 2 rfl
  have d3 := at_row (row2a b1) 3 rfl
  have k0 := fz_row (row2a b1) 0
  have k1 := fz_row (row2a b1) 1
  have k2 := fz_row (row2a b1) 2
  have k3 := fz_row (row2a b1) 3
  have bw := bel2 b1
  clear b1
  go_wp2
  refine bodyPost_ret (v := .tuple #[.agg #[.int .i64 0, .int .i64 0, .int .i64 0, .int .i64 0], .int .i64 2]) (by simp [results, Tryd.results18, go_sem, d0, d1, d2, d3]) rfl ⟨rfl, four_set bw (Nat.le_refl _) _ _ _ _⟩
set_option maxHeartbeats 1000000 in
theorem rofFront_big (x : Int) (w : World) (x0 : 0 ≤ x) (x1 : x ≤ 18446744073709551615) (hx : 549755813888 ≤ x / 2) :
    Calls Tryd.prog 18 #[.int .u64 x] w fun e w' => e = .returned (.tuple #[.agg #[.int .i64 0, .int .i64 0, .int .i64 0, .int .i64 0], .int .i64 2]) ∧ Below w.heap.size w w' := by
  go_enter Tryd.func18, Tryd.ntmps18
  go_wp2
  refine bodyPost_ret (v := .tuple #[.agg #[.int .i64 0, .int .i64 0, .int .i64 0, .int .i64 0], .int .i64 2]) (by simp [results, Tryd.results18, go_sem]) rfl ⟨rfl, below_alloc0 w _⟩
theorem rofFront_yes (x : Int) (w : World) (x0 : 0 ≤ x) (x1 : x ≤ 18446744073709551615) (hk : Pk.frOk (x % 2) (x / 2 % 8192) (x / 16384 % 8192) (x / 134217728) = true) :
    Calls Tryd.prog 18 #[.int .u64 x] w fun e w' => e = .returned (.tuple #[.agg #[.int .i64 (x % 2), .int .i64 (x / 2 % 8192), .int .i64 (x / 16384 % 8192), .int .i64 (x / 134217728)], .int .i64 0]) ∧ Below w.heap.size w w' := by
  have e1 : x / 2 / 8192 % 8192 = x / 16384 % 8192 := by omega
  have e2 : x / 2 / 67108864 = x / 134217728 := by omega
  have hb := Pk.frOk_yes hk
  have H := rofFront_raw_yes x w x0 x1 (by omega) (by rw [e1, e2]; exact hk)
  rw [e1, e2] at H
  exact H
theorem rofFront_no (x : Int) (w : World) (x0 : 0 ≤ x) (x1 : x ≤ 18446744073709551615) (hk : Pk.frOk (x % 2) (x / 2 % 8192) (x / 16384 % 8192) (x / 134217728) = false) :
    Calls Tryd.prog 18 #[.int .u64 x] w fun e w' => e = .returned (.tuple #[.agg #[.int .i64 0, .int .i64 0, .int .i64 0, .int .i64 0], .int .i64 2]) ∧ Below w.heap.size w w' := by
  have e1 : x / 2 / 8192 % 8192 = x / 16384 % 8192 := by omega
  have e2 : x / 2 / 67108864 = x / 134217728 := by omega
  by_cases hx : x / 2 < 549755813888
  · exact rofFront_raw_no x w x0 x1 hx (by rw [e1, e2]; exact hk)
  · exact rofFront_big x w x0 x1 (by omega)
set_option maxHeartbeats 1000000 in
theorem rused_yes (s l h o n : Int) (w : World) (hk : Pk.frOk s l h o = true) (hn : h ≤ n ∧ n ≤ 4096) :
    Calls Tryd.prog 22 #[.agg #[.int .i64 s, .int .i64 l, .int .i64 h, .int .i64 o], .int .i64 n] w fun e w' => e = .returned (.tuple #[.int .i64 (l + n - h + o), .int .i64 0]) ∧ Below w.heap.size w w' := by
  obtain ⟨hs, l0, l1, h0, h1, o0, o1, hlo⟩ := Pk.frOk_yes hk
  have s0 : 0 ≤ s := by omega
  have s1 : s ≤ 1 := by omega
  clear hs
  obtain ⟨n0, n1⟩ := hn
  go_enter Tryd.func22, Tryd.ntmps22
  go_wp2_with (go_at_call 32; refine (right_any _ _ _ _ _).mono ?_)
  rintro e w1 ⟨rfl, b1⟩
  have c0 := at_row (row1 b1) 0 rfl
  have c1 := at_row (row1 b1) 1 rfl
  have c2 := at_row (row1 b1) 2 rfl
  have c3 := at_row (row1 b1) 3 rfl
  have bw := bel1 b1
  clear b1
  go_wp2
  go_ret2
  exact ⟨rfl, bw⟩
set_option maxHeartbeats 1000000 in
theorem rused_lo (s l h o n : Int) (w : World) (hk : Pk.frOk s l h o = true) (hn : n < h) :
    Calls Tryd.prog 22 #[.agg #[.int .i64 s, .int .i64 l, .int .i64 h, .int .i64 o], .int .i64 n] w fun e w' => e = .returned (.tuple #[.int .i64 0, .int .i64 2]) ∧ Below w.heap.size w w' := by
  go_enter Tryd.func22, Tryd.ntmps22
  go_wp2_with (go_at_call 32; refine (right_any _ _ _ _ _).mono ?_)
  rintro e w1 ⟨rfl, b1⟩
  have c0 := at_row (row1 b1) 0 rfl
  have c1 := at_row (row1 b1) 1 rfl
  have c2 := at_row (row1 b1) 2 rfl
  have c3 := at_row (row1 b1) 3 rfl
  have bw := bel1 b1
  clear b1
  go_wp2
  go_ret2
  exact ⟨rfl, bw⟩
set_option maxHeartbeats 1000000 in
theorem rused_hi (s l h o n : Int) (w : World) (hk : Pk.frOk s l h o = true) (hm : h ≤ n) (hn : 4096 < n) :
    Calls Tryd.prog 22 #[.agg #[.int .i64 s, .int .i64 l, .int .i64 h, .int .i64 o], .int .i64 n] w fun e w' => e = .returned (.tuple #[.int .i64 0, .int .i64 2]) ∧ Below w.heap.size w w' := by
  go_enter Tryd.func22, Tryd.ntmps22
  go_wp2_with (go_at_call 32; refine (right_any _ _ _ _ _).mono ?_)
  rintro e w1 ⟨rfl, b1⟩
  have c0 := at_row (row1 b1) 0 rfl
  have c1 := at_row (row1 b1) 1 rfl
  have c2 := at_row (row1 b1) 2 rfl
  have c3 := at_row (row1 b1) 3 rfl
  have bw := bel1 b1
  clear b1
  go_wp2
  go_ret2
  exact ⟨rfl, bw⟩
set_option maxHeartbeats 1000000 in
theorem rused_no (s l h o n : Int) (w : World) (hk : Pk.frOk s l h o = false) :
    Calls Tryd.prog 22 #[.agg #[.int .i64 s, .int .i64 l, .int .i64 h, .int .i64 o], .int .i64 n] w fun e w' => e = .returned (.tuple #[.int .i64 0, .int .i64 2]) ∧ Below w.heap.size w w' := by
  go_enter Tryd.func22, Tryd.ntmps22
  go_wp2_with (go_at_call 32; refine (right_any _ _ _ _ _).mono ?_)
  rintro e w1 ⟨rfl, b1⟩
  have bw := bel1 b1
  clear b1
  go_wp2
  go_ret2
  exact ⟨rfl, bw⟩
set_option maxHeartbeats 1000000 in
theorem rfits_in (s l h o n : Int) (w : World) (hk : Pk.frOk s l h o = true) (n0 : 1 ≤ n) (n1 : n ≤ 4096) :
    Calls Tryd.prog 24 #[.agg #[.int .i64 s, .int .i64 l, .int .i64 h, .int .i64 o], .int .i64 n] w fun e w' => e = .returned (.bool (decide (l + o + n ≤ h))) ∧ Below w.heap.size w w' := by
  obtain ⟨hs, l0, l1, h0, h1, o0, o1, hlo⟩ := Pk.frOk_yes hk
  have s0 : 0 ≤ s := by omega
  have s1 : s ≤ 1 := by omega
  clear hs
  go_enter Tryd.func24, Tryd.ntmps24
  go_wp2_with (go_at_call 32; refine (right_any _ _ _ _ _).mono ?_)
  rintro e w1 ⟨rfl, b1⟩
  have c0 := at_row (row1 b1) 0 rfl
  have c1 := at_row (row1 b1) 1 rfl
  have c2 := at_row (row1 b1) 2 rfl
  have c3 := at_row (row1 b1) 3 rfl
  have bw := bel1 b1
  clear b1
  go_wp2
  go_ret
  exact ⟨rfl, bw⟩
set_option maxHeartbeats 1000000 in
theorem rfits_lo (s l h o n : Int) (w : World) (hk : Pk.frOk s l h o = true) (hn : n < 1) :
    Calls Tryd.prog 24 #[.agg #[.int .i64 s, .int .i64 l, .int .i64 h, .int .i64 o], .int .i64 n] w fun e w' => e = .returned (.bool false) ∧ Below w.heap.size w w' := by
  go_enter Tryd.func24, Tryd.ntmps24
  go_wp2_with (go_at_call 32; refine (right_any _ _ _ _ _).mono ?_)
  rintro e w1 ⟨rfl, b1⟩
  have bw := bel1 b1
  clear b1
  go_wp2
  go_ret
  exact ⟨rfl, bw⟩
set_option maxHeartbeats 1000000 in
theorem rfits_hi (s l h o n : Int) (w : World) (hk : Pk.frOk s l h o = true) (hm : 1 ≤ n) (hn : 4096 < n) :
    Calls Tryd.prog 24 #[.agg #[.int .i64 s, .int .i64 l, .int .i64 h, .int .i64 o], .int .i64 n] w fun e w' => e = .returned (.bool false) ∧ Below w.heap.size w w' := by
  go_enter Tryd.func24, Tryd.ntmps24
  go_wp2_with (go_at_call 32; refine (right_any _ _ _ _ _).mono ?_)
  rintro e w1 ⟨rfl, b1⟩
  have bw := bel1 b1
  clear b1
  go_wp2
  go_ret
  exact ⟨rfl, bw⟩
set_option maxHeartbeats 1000000 in
theorem rfits_no (s l h o n : Int) (w : World) (hk : Pk.frOk s l h o = false) :
    Calls Tryd.prog 24 #[.agg #[.int .i64 s, .int .i64 l, .int .i64 h, .int .i64 o], .int .i64 n] w fun e w' => e = .returned (.bool false) ∧ Below w.heap.size w w' := by
  go_enter Tryd.func24, Tryd.ntmps24
  go_wp2_with (go_at_call 32; refine (right_any _ _ _ _ _).mono ?_)
  rintro e w1 ⟨rfl, b1⟩
  have bw := bel1 b1
  clear b1
  go_wp2
  go_ret
  exact ⟨rfl, bw⟩
theorem rfits_yes (s l h o n : Int) (w : World) (hk : Pk.frOk s l h o = true) :
    Calls Tryd.prog 24 #[.agg #[.int .i64 s, .int .i64 l, .int .i64 h, .int .i64 o], .int .i64 n] w fun e w' => e = .returned (.bool (decide (1 ≤ n ∧ n ≤ h - l - o))) ∧ Below w.heap.size w w' := by
  have hb := Pk.frOk_yes hk
  by_cases h1 : n < 1
  · exact (rfits_lo s l h o n w hk h1).mono fun _ _ e => ⟨e.1.trans (ret_bool (decide_eq_false (by omega)).symm), e.2⟩
  · by_cases h2 : 4096 < n
    · exact (rfits_hi s l h o n w hk (by omega) h2).mono fun _ _ e => ⟨e.1.trans (ret_bool (decide_eq_false (by omega)).symm), e.2⟩
    · exact (rfits_in s l h o n w hk (by omega) (by omega)).mono fun _ _ e => ⟨e.1.trans (ret_bool (by rw [decide_eq_decide]; omega)), e.2⟩
set_option maxHeartbeats 1000000 in
theorem rturn_yes (s l h o n : Int) (w : World) (hk : Pk.frOk s l h o = true) (hn : o ≤ n ∧ n ≤ 4096) :
    Calls Tryd.prog 26 #[.agg #[.int .i64 s, .int .i64 l, .int .i64 h, .int .i64 o], .int .i64 n] w fun e w' => e = .returned (.tuple #[.agg #[.int .i64 (1 - s), .int .i64 o, .int .i64 n, .int .i64 0], .int .i64 0]) ∧ Below w.heap.size w w' := by
  obtain ⟨hs, l0, l1, h0, h1, o0, o1, hlo⟩ := Pk.frOk_yes hk
  have s0 : 0 ≤ s := by omega
  have s1 : s ≤ 1 := by omega
  clear hs
  obtain ⟨n0, n1⟩ := hn
  go_enter Tryd.func26, Tryd.ntmps26
  go_wp2_with (go_at_call 32; refine (right_any _ _ _ _ _).mono ?_)
  rintro e w1 ⟨rfl, b1⟩
  have c0 := at_row (row2a b1) 0 rfl
  have c1 := at_row (row2a b1) 1 rfl
  have c2 := at_row (row2a b1) 2 rfl
  have c3 := at_row (row2a b1) 3 rfl
  have d0 := at_row (row2b b1) 0 rfl
  have d1 := at_row (row2b b1) 1 rfl
  have d2 := at_row (row2b b1) 2 rfl
  have d3 := at_row (row2b b1) 3 rfl
  have k0 := fz_row (row2b b1) 0
  have k1 := fz_row (row2b b1) 1
  have k2 := fz_row (row2b b1) 2
  have k3 := fz_row (row2b b1) 3
  have bw := bel2 b1
  clear b1
  go_wp2
  refine bodyPost_ret (v := .tuple #[.agg #[.int .i64 (1 - s), .int .i64 o, .int .i64 n, .int .i64 0], .int .i64 0]) (by simp [results, Tryd.results26, go_sem, d0, d1, d2, d3]) rfl ⟨rfl, four_set bw (by omega) _ _ _ _⟩
set_option maxHeartbeats 1000000 in
theorem rturn_lo (s l h o n : Int) (w : World) (hk : Pk.frOk s l h o = true) (hn : n < o) :
    Calls Tryd.prog 26 #[.agg #[.int .i64 s, .int .i64 l, .int .i64 h, .int .i64 o], .int .i64 n] w fun e w' => e = .returned (.tuple #[.agg #[.int .i64 0, .int .i64 0, .int .i64 0, .int .i64 0], .int .i64 4]) ∧ Below w.heap.size w w' := by
  go_enter Tryd.func26, Tryd.ntmps26
  go_wp2_with (go_at_call 32; refine (right_any _ _ _ _ _).mono ?_)
  rintro e w1 ⟨rfl, b1⟩
  have c0 := at_row (row2a b1) 0 rfl
  have c1 := at_row (row2a b1) 1 rfl
  have c2 := at_row (row2a b1) 2 rfl
  have c3 := at_row (row2a b1) 3 rfl
  have d0 := at_row (row2b b1) 0 rfl
  have d1 := at_row (row2b b1) 1 rfl
  have d2 := at_row (row2b b1) 2 rfl
  have d3 := at_row (row2b b1) 3 rfl
  have k0 := fz_row (row2b b1) 0
  have k1 := fz_row (row2b b1) 1
  have k2 := fz_row (row2b b1) 2
  have k3 := fz_row (row2b b1) 3
  have bw := bel2 b1
  clear b1
  go_wp2
  refine bodyPost_ret (v := .tuple #[.agg #[.int .i64 0, .int .i64 0, .int .i64 0, .int .i64 0], .int .i64 4]) (by simp [results, Tryd.results26, go_sem, d0, d1, d2, d3]) rfl ⟨rfl, four_set bw (by omega) _ _ _ _⟩
set_option maxHeartbeats 1000000 in
theorem rturn_hi (s l h o n : Int) (w : World) (hk : Pk.frOk s l h o = true) (hm : o ≤ n) (hn : 4096 < n) :
    Calls Tryd.prog 26 #[.agg #[.int .i64 s, .int .i64 l, .int .i64 h, .int .i64 o], .int .i64 n] w fun e w' => e = .returned (.tuple #[.agg #[.int .i64 0, .int .i64 0, .int .i64 0, .int .i64 0], .int .i64 4]) ∧ Below w.heap.size w w' := by
  go_enter Tryd.func26, Tryd.ntmps26
  go_wp2_with (go_at_call 32; refine (right_any _ _ _ _ _).mono ?_)
  rintro e w1 ⟨rfl, b1⟩
  have c0 := at_row (row2a b1) 0 rfl
  have c1 := at_row (row2a b1) 1 rfl
  have c2 := at_row (row2a b1) 2 rfl
  have c3 := at_row (row2a b1) 3 rfl
  have d0 := at_row (row2b b1) 0 rfl
  have d1 := at_row (row2b b1) 1 rfl
  have d2 := at_row (row2b b1) 2 rfl
  have d3 := at_row (row2b b1) 3 rfl
  have k0 := fz_row (row2b b1) 0
  have k1 := fz_row (row2b b1) 1
  have k2 := fz_row (row2b b1) 2
  have k3 := fz_row (row2b b1) 3
  have bw := bel2 b1
  clear b1
  go_wp2
  refine bodyPost_ret (v := .tuple #[.agg #[.int .i64 0, .int .i64 0, .int .i64 0, .int .i64 0], .int .i64 4]) (by simp [results, Tryd.results26, go_sem, d0, d1, d2, d3]) rfl ⟨rfl, four_set bw (by omega) _ _ _ _⟩
set_option maxHeartbeats 1000000 in
theorem rturn_no (s l h o n : Int) (w : World) (hk : Pk.frOk s l h o = false) :
    Calls Tryd.prog 26 #[.agg #[.int .i64 s, .int .i64 l, .int .i64 h, .int .i64 o], .int .i64 n] w fun e w' => e = .returned (.tuple #[.agg #[.int .i64 0, .int .i64 0, .int .i64 0, .int .i64 0], .int .i64 2]) ∧ Below w.heap.size w w' := by
  go_enter Tryd.func26, Tryd.ntmps26
  go_wp2_with (go_at_call 32; refine (right_any _ _ _ _ _).mono ?_)
  rintro e w1 ⟨rfl, b1⟩
  have d0 := at_row (row2b b1) 0 rfl
  have d1 := at_row (row2b b1) 1 rfl
  have d2 := at_row (row2b b1) 2 rfl
  have d3 := at_row (row2b b1) 3 rfl
  have k0 := fz_row (row2b b1) 0
  have k1 := fz_row (row2b b1) 1
  have k2 := fz_row (row2b b1) 2
  have k3 := fz_row (row2b b1) 3
  have bw := bel2 b1
  clear b1
  go_wp2
  refine bodyPost_ret (v := .tuple #[.agg #[.int .i64 0, .int .i64 0, .int .i64 0, .int .i64 0], .int .i64 2]) (by simp [results, Tryd.results26, go_sem, d0, d1, d2, d3]) rfl ⟨rfl, four_set bw (by omega) _ _ _ _⟩
set_option maxHeartbeats 1000000 in
theorem rclaim_no (s l h o x n : Int) (w : World) (hk : Pk.frOk s l h o = false) :
    Calls Tryd.prog 20 #[.agg #[.int .i64 s, .int .i64 l, .int .i64 h, .int .i64 o], .int .i64 x, .int .i64 n] w fun e w' => e = .returned (.tuple #[.agg #[.int .i64 0, .int .i64 0, .int .i64 0, .int .i64 0], .int .i64 0, .int .i64 2]) ∧ Below w.heap.size w w' := by
  go_enter Tryd.func20, Tryd.ntmps20
  go_wp2_with (go_at_call 32; refine (right_any _ _ _ _ _).mono ?_)
  rintro e w1 ⟨rfl, b1⟩
  have d0 := at_row (row2b b1) 0 rfl
  have d1 := at_row (row2b b1) 1 rfl
  have d2 := at_row (row2b b1) 2 rfl
  have d3 := at_row (row2b b1) 3 rfl
  have k0 := fz_row (row2b b1) 0
  have k1 := fz_row (row2b b1) 1
  have k2 := fz_row (row2b b1) 2
  have k3 := fz_row (row2b b1) 3
  have bw := bel2 b1
  clear b1
  go_wp2
  refine bodyPost_ret (v := .tuple #[.agg #[.int .i64 0, .int .i64 0, .int .i64 0, .int .i64 0], .int .i64 0, .int .i64 2]) (by simp [results, Tryd.results20, go_sem, d0, d1, d2, d3]) rfl ⟨rfl, four_set bw (by omega) _ _ _ _⟩
set_option maxHeartbeats 1000000 in
theorem rclaim_space (s l h o x n : Int) (w : World) (hk : Pk.frOk s l h o = true) (hx0 : (x != 0) = true) (hx1 : (x != 1) = true) :
    Calls Tryd.prog 20 #[.agg #[.int .i64 s, .int .i64 l, .int .i64 h, .int .i64 o], .int .i64 x, .int .i64 n] w fun e w' => e = .returned (.tuple #[.agg #[.int .i64 0, .int .i64 0, .int .i64 0, .int .i64 0], .int .i64 0, .int .i64 2]) ∧ Below w.heap.size w w' := by
  go_enter Tryd.func20, Tryd.ntmps20
  go_wp2_with (go_at_call 32; refine (right_any _ _ _ _ _).mono ?_)
  rintro e w1 ⟨rfl, b1⟩
  have d0 := at_row (row2b b1) 0 rfl
  have d1 := at_row (row2b b1) 1 rfl
  have d2 := at_row (row2b b1) 2 rfl
  have d3 := at_row (row2b b1) 3 rfl
  have k0 := fz_row (row2b b1) 0
  have k1 := fz_row (row2b b1) 1
  have k2 := fz_row (row2b b1) 2
  have k3 := fz_row (row2b b1) 3
  have bw := bel2 b1
  clear b1
  go_wp2
  refine bodyPost_ret (v := .tuple #[.agg #[.int .i64 0, .int .i64 0, .int .i64 0, .int .i64 0], .int .i64 0, .int .i64 2]) (by simp [results, Tryd.results20, go_sem, d0, d1, d2, d3]) rfl ⟨rfl, four_set bw (by omega) _ _ _ _⟩
set_option maxHeartbeats 1000000 in
theorem rclaim_small_a (s l h o x n : Int) (w : World) (hk : Pk.frOk s l h o = true) (hx0 : (x != 0) = false) (hn : n < 1) :
    Calls Tryd.prog 20 #[.agg #[.int .i64 s, .int .i64 l, .int .i64 h, .int .i64 o], .int .i64 x, .int .i64 n] w fun e w' => e = .returned (.tuple #[.agg #[.int .i64 0, .int .i64 0, .int .i64 0, .int .i64 0], .int .i64 0, .int .i64 2]) ∧ Below w.heap.size w w' := by
  go_enter Tryd.func20, Tryd.ntmps20
  go_wp2_with (go_at_call 32; refine (right_any _ _ _ _ _).mono ?_)
  rintro e w1 ⟨rfl, b1⟩
  have d0 := at_row (row2b b1) 0 rfl
  have d1 := at_row (row2b b1) 1 rfl
  have d2 := at_row (row2b b1) 2 rfl
  have d3 := at_row (row2b b1) 3 rfl
  have k0 := fz_row (row2b b1) 0
  have k1 := fz_row (row2b b1) 1
  have k2 := fz_row (row2b b1) 2
  have k3 := fz_row (row2b b1) 3
  have bw := bel2 b1
  clear b1
  go_wp2
  refine bodyPost_ret (v := .tuple #[.agg #[.int .i64 0, .int .i64 0, .int .i64 0, .int .i64 0], .int .i64 0, .int .i64 2]) (by simp [results, Tryd.results20, go_sem, d0, d1, d2, d3]) rfl ⟨rfl, four_set bw (by omega) _ _ _ _⟩
set_option maxHeartbeats 1000000 in
theorem rclaim_range_a (s l h o x n : Int) (w : World) (hk : Pk.frOk s l h o = true) (hx0 : (x != 0) = false) (hn : 1 ≤ n) (hm : h - l - o < n) :
    Calls Tryd.prog 20 #[.agg #[.int .i64 s, .int .i64 l, .int .i64 h, .int .i64 o], .int .i64 x, .int .i64 n] w fun e w' => e = .returned (.tuple #[.agg #[.int .i64 0, .int .i64 0, .int .i64 0, .int .i64 0], .int .i64 0, .int .i64 4]) ∧ Below w.heap.size w w' := by
  have HF : Hid (decide (1 ≤ n ∧ n ≤ h - l - o) = false) := decide_eq_false (by omega)
  clear hm
  go_enter Tryd.func20, Tryd.ntmps20
  go_wp2_with (go_at_call 32; refine (right_any _ _ _ _ _).mono ?_)
  rintro e w1 ⟨rfl, b1⟩
  have F := hid (row2a b1)
  have R := hid (row2b b1)
  have bw := bel2 b1
  have hz := siz2 b1
  clear b1
  have c0 := at_row (F.out) 0 rfl
  have c1 := at_row (F.out) 1 rfl
  have c2 := at_row (F.out) 2 rfl
  have c3 := at_row (F.out) 3 rfl
  go_wp2_with (go_at_call 24; refine (rfits_yes s l h o n _ hk).mono ?_)
  rintro e w2 ⟨rfl, b2⟩
  have F2 := hid ((b2.block _ (by omega)).trans F.out)
  have R2 := hid ((b2.block _ (by omega)).trans R.out)
  have bw2 : Below w.heap.size w w2 := bw.trans (b2.mono (by omega))
  clear b2 F R bw hz c0 c1 c2 c3
  rw [HF.out]
  have d0 := at_row (R2.out) 0 rfl
  have d1 := at_row (R2.out) 1 rfl
  have d2 := at_row (R2.out) 2 rfl
  have d3 := at_row (R2.out) 3 rfl
  have k0 := fz_row (R2.out) 0
  have k1 := fz_row (R2.out) 1
  have k2 := fz_row (R2.out) 2
  have k3 := fz_row (R2.out) 3
  go_wp2
  refine bodyPost_ret (v := .tuple #[.agg #[.int .i64 0, .int .i64 0, .int .i64 0, .int .i64 0], .int .i64 0, .int .i64 4]) (by simp [results, Tryd.results20, go_sem, d0, d1, d2, d3]) rfl ⟨rfl, four_set bw2 (by omega) _ _ _ _⟩
set_option maxHeartbeats 2000000 in
theorem rclaim_in_a (s l h o x n : Int) (w : World) (hk : Pk.frOk s l h o = true) (hx0 : (x != 0) = false) (he : (x == s) = true) (hn : 1 ≤ n) (hm : n ≤ h - l - o) :
    Calls Tryd.prog 20 #[.agg #[.int .i64 s, .int .i64 l, .int .i64 h, .int .i64 o], .int .i64 x, .int .i64 n] w fun e w' => e = .returned (.tuple #[.agg #[.int .i64 s, .int .i64 (l + n), .int .i64 h, .int .i64 o], .int .i64 l, .int .i64 0]) ∧ Below w.heap.size w w' := by
  obtain ⟨hs, l0, l1, h0, h1, o0, o1, hlo⟩ := Pk.frOk_yes hk
  have s0 : 0 ≤ s := by omega
  have s1 : s ≤ 1 := by omega
  clear hs
  have HF : Hid (decide (1 ≤ n ∧ n ≤ h - l - o) = true) := decide_eq_true (by omega)
  have n1 : n ≤ 4096 := by omega
  clear hm
  go_enter Tryd.func20, Tryd.ntmps20
  go_wp2_with (go_at_call 32; refine (right_any _ _ _ _ _).mono ?_)
  rintro e w1 ⟨rfl, b1⟩
  have F := hid (row2a b1)
  have R := hid (row2b b1)
  have bw := bel2 b1
  have hz := siz2 b1
  clear b1
  have c0 := at_row (F.out) 0 rfl
  have c1 := at_row (F.out) 1 rfl
  have c2 := at_row (F.out) 2 rfl
  have c3 := at_row (F.out) 3 rfl
  go_wp2_with (go_at_call 24; refine (rfits_yes s l h o n _ hk).mono ?_)
  rintro e w2 ⟨rfl, b2⟩
  have F2 := hid ((b2.block _ (by omega)).trans F.out)
  have R2 := hid ((b2.block _ (by omega)).trans R.out)
  have bw2 : Below w.heap.size w w2 := bw.trans (b2.mono (by omega))
  clear b2 F R bw hz c0 c1 c2 c3
  rw [HF.out]
  have c0 := at_row (F2.out) 0 rfl
  have c1 := at_row (F2.out) 1 rfl
  have c2 := at_row (F2.out) 2 rfl
  have c3 := at_row (F2.out) 3 rfl
  have z1 := fz_row F2.out 1
  have d0 := at_row (R2.out) 0 rfl
  have d1 := at_row (R2.out) 1 rfl
  have d2 := at_row (R2.out) 2 rfl
  have d3 := at_row (R2.out) 3 rfl
  have k0 := fz_row (R2.out) 0
  have k1 := fz_row (R2.out) 1
  have k2 := fz_row (R2.out) 2
  have k3 := fz_row (R2.out) 3
  go_wp2
  refine bodyPost_ret (v := .tuple #[.agg #[.int .i64 s, .int .i64 (l + n), .int .i64 h, .int .i64 o], .int .i64 l, .int .i64 0]) (by simp [results, Tryd.results20, go_sem, d0, d1, d2, d3]) rfl ⟨rfl, claim_below bw2 _ _ _ _ _ _⟩
set_option maxHeartbeats 2000000 in
theorem rclaim_out_a (s l h o x n : Int) (w : World) (hk : Pk.frOk s l h o = true) (hx0 : (x != 0) = false) (he : (x == s) = false) (hn : 1 ≤ n) (hm : n ≤ h - l - o) :
    Calls Tryd.prog 20 #[.agg #[.int .i64 s, .int .i64 l, .int .i64 h, .int .i64 o], .int .i64 x, .int .i64 n] w fun e w' => e = .returned (.tuple #[.agg #[.int .i64 s, .int .i64 l, .int .i64 h, .int .i64 (o + n)], .int .i64 o, .int .i64 0]) ∧ Below w.heap.size w w' := by
  obtain ⟨hs, l0, l1, h0, h1, o0, o1, hlo⟩ := Pk.frOk_yes hk
  have s0 : 0 ≤ s := by omega
  have s1 : s ≤ 1 := by omega
  clear hs
  have HF : Hid (decide (1 ≤ n ∧ n ≤ h - l - o) = true) := decide_eq_true (by omega)
  have n1 : n ≤ 4096 := by omega
  clear hm
  go_enter Tryd.func20, Tryd.ntmps20
  go_wp2_with (go_at_call 32; refine (right_any _ _ _ _ _).mono ?_)
  rintro e w1 ⟨rfl, b1⟩
  have F := hid (row2a b1)
  have R := hid (row2b b1)
  have bw := bel2 b1
  have hz := siz2 b1
  clear b1
  have c0 := at_row (F.out) 0 rfl
  have c1 := at_row (F.out) 1 rfl
  have c2 := at_row (F.out) 2 rfl
  have c3 := at_row (F.out) 3 rfl
  go_wp2_with (go_at_call 24; refine (rfits_yes s l h o n _ hk).mono ?_)
  rintro e w2 ⟨rfl, b2⟩
  have F2 := hid ((b2.block _ (by omega)).trans F.out)
  have R2 := hid ((b2.block _ (by omega)).trans R.out)
  have bw2 : Below w.heap.size w w2 := bw.trans (b2.mono (by omega))
  clear b2 F R bw hz c0 c1 c2 c3
  rw [HF.out]
  have c0 := at_row (F2.out) 0 rfl
  have c1 := at_row (F2.out) 1 rfl
  have c2 := at_row (F2.out) 2 rfl
  have c3 := at_row (F2.out) 3 rfl
  have z3 := fz_row F2.out 3
  have d0 := at_row (R2.out) 0 rfl
  have d1 := at_row (R2.out) 1 rfl
  have d2 := at_row (R2.out) 2 rfl
  have d3 := at_row (R2.out) 3 rfl
  have k0 := fz_row (R2.out) 0
  have k1 := fz_row (R2.out) 1
  have k2 := fz_row (R2.out) 2
  have k3 := fz_row (R2.out) 3
  go_wp2
  refine bodyPost_ret (v := .tuple #[.agg #[.int .i64 s, .int .i64 l, .int .i64 h, .int .i64 (o + n)], .int .i64 o, .int .i64 0]) (by simp [results, Tryd.results20, go_sem, d0, d1, d2, d3]) rfl ⟨rfl, claim_below bw2 _ _ _ _ _ _⟩
set_option maxHeartbeats 1000000 in
theorem rclaim_small_b (s l h o x n : Int) (w : World) (hk : Pk.frOk s l h o = true) (hx0 : (x != 0) = true) (hx1 : (x != 1) = false) (hn : n < 1) :
    Calls Tryd.prog 20 #[.agg #[.int .i64 s, .int .i64 l, .int .i64 h, .int .i64 o], .int .i64 x, .int .i64 n] w fun e w' => e = .returned (.tuple #[.agg #[.int .i64 0, .int .i64 0, .int .i64 0, .int .i64 0], .int .i64 0, .int .i64 2]) ∧ Below w.heap.size w w' := by
  go_enter Tryd.func20, Tryd.ntmps20
  go_wp2_with (go_at_call 32; refine (right_any _ _ _ _ _).mono ?_)
  rintro e w1 ⟨rfl, b1⟩
  have d0 := at_row (row2b b1) 0 rfl
  have d1 := at_row (row2b b1) 1 rfl
  have d2 := at_row (row2b b1) 2 rfl
  have d3 := at_row (row2b b1) 3 rfl
  have k0 := fz_row (row2b b1) 0
  have k1 := fz_row (row2b b1) 1
  have k2 := fz_row (row2b b1) 2
  have k3 := fz_row (row2b b1) 3
  have bw := bel2 b1
  clear b1
  go_wp2
  refine bodyPost_ret (v := .tuple #[.agg #[.int .i64 0, .int .i64 0, .int .i64 0, .int .i64 0], .int .i64 0, .int .i64 2]) (by simp [results, Tryd.results20, go_sem, d0, d1, d2, d3]) rfl ⟨rfl, four_set bw (by omega) _ _ _ _⟩
set_option maxHeartbeats 1000000 in
theorem rclaim_range_b (s l h o x n : Int) (w : World) (hk : Pk.frOk s l h o = true) (hx0 : (x != 0) = true) (hx1 : (x != 1) = false) (hn : 1 ≤ n) (hm : h - l - o < n) :
    Calls Tryd.prog 20 #[.agg #[.int .i64 s, .int .i64 l, .int .i64 h, .int .i64 o], .int .i64 x, .int .i64 n] w fun e w' => e = .returned (.tuple #[.agg #[.int .i64 0, .int .i64 0, .int .i64 0, .int .i64 0], .int .i64 0, .int .i64 4]) ∧ Below w.heap.size w w' := by
  have HF : Hid (decide (1 ≤ n ∧ n ≤ h - l - o) = false) := decide_eq_false (by omega)
  clear hm
  go_enter Tryd.func20, Tryd.ntmps20
  go_wp2_with (go_at_call 32; refine (right_any _ _ _ _ _).mono ?_)
  rintro e w1 ⟨rfl, b1⟩
  have F := hid (row2a b1)
  have R := hid (row2b b1)
  have bw := bel2 b1
  have hz := siz2 b1
  clear b1
  have c0 := at_row (F.out) 0 rfl
  have c1 := at_row (F.out) 1 rfl
  have c2 := at_row (F.out) 2 rfl
  have c3 := at_row (F.out) 3 rfl
  go_wp2_with (go_at_call 24; refine (rfits_yes s l h o n _ hk).mono ?_)
  rintro e w2 ⟨rfl, b2⟩
  have F2 := hid ((b2.block _ (by omega)).trans F.out)
  have R2 := hid ((b2.block _ (by omega)).trans R.out)
  have bw2 : Below w.heap.size w w2 := bw.trans (b2.mono (by omega))
  clear b2 F R bw hz c0 c1 c2 c3
  rw [HF.out]
  have d0 := at_row (R2.out) 0 rfl
  have d1 := at_row (R2.out) 1 rfl
  have d2 := at_row (R2.out) 2 rfl
  have d3 := at_row (R2.out) 3 rfl
  have k0 := fz_row (R2.out) 0
  have k1 := fz_row (R2.out) 1
  have k2 := fz_row (R2.out) 2
  have k3 := fz_row (R2.out) 3
  go_wp2
  refine bodyPost_ret (v := .tuple #[.agg #[.int .i64 0, .int .i64 0, .int .i64 0, .int .i64 0], .int .i64 0, .int .i64 4]) (by simp [results, Tryd.results20, go_sem, d0, d1, d2, d3]) rfl ⟨rfl, four_set bw2 (by omega) _ _ _ _⟩
set_option maxHeartbeats 2000000 in
theorem rclaim_in_b (s l h o x n : Int) (w : World) (hk : Pk.frOk s l h o = true) (hx0 : (x != 0) = true) (hx1 : (x != 1) = false) (he : (x == s) = true) (hn : 1 ≤ n) (hm : n ≤ h - l - o) :
    Calls Tryd.prog 20 #[.agg #[.int .i64 s, .int .i64 l, .int .i64 h, .int .i64 o], .int .i64 x, .int .i64 n] w fun e w' => e = .returned (.tuple #[.agg #[.int .i64 s, .int .i64 (l + n), .int .i64 h, .int .i64 o], .int .i64 l, .int .i64 0]) ∧ Below w.heap.size w w' := by
  obtain ⟨hs, l0, l1, h0, h1, o0, o1, hlo⟩ := Pk.frOk_yes hk
  have s0 : 0 ≤ s := by omega
  have s1 : s ≤ 1 := by omega
  clear hs
  have HF : Hid (decide (1 ≤ n ∧ n ≤ h - l - o) = true) := decide_eq_true (by omega)
  have n1 : n ≤ 4096 := by omega
  clear hm
  go_enter Tryd.func20, Tryd.ntmps20
  go_wp2_with (go_at_call 32; refine (right_any _ _ _ _ _).mono ?_)
  rintro e w1 ⟨rfl, b1⟩
  have F := hid (row2a b1)
  have R := hid (row2b b1)
  have bw := bel2 b1
  have hz := siz2 b1
  clear b1
  have c0 := at_row (F.out) 0 rfl
  have c1 := at_row (F.out) 1 rfl
  have c2 := at_row (F.out) 2 rfl
  have c3 := at_row (F.out) 3 rfl
  go_wp2_with (go_at_call 24; refine (rfits_yes s l h o n _ hk).mono ?_)
  rintro e w2 ⟨rfl, b2⟩
  have F2 := hid ((b2.block _ (by omega)).trans F.out)
  have R2 := hid ((b2.block _ (by omega)).trans R.out)
  have bw2 : Below w.heap.size w w2 := bw.trans (b2.mono (by omega))
  clear b2 F R bw hz c0 c1 c2 c3
  rw [HF.out]
  have c0 := at_row (F2.out) 0 rfl
  have c1 := at_row (F2.out) 1 rfl
  have c2 := at_row (F2.out) 2 rfl
  have c3 := at_row (F2.out) 3 rfl
  have z1 := fz_row F2.out 1
  have d0 := at_row (R2.out) 0 rfl
  have d1 := at_row (R2.out) 1 rfl
  have d2 := at_row (R2.out) 2 rfl
  have d3 := at_row (R2.out) 3 rfl
  have k0 := fz_row (R2.out) 0
  have k1 := fz_row (R2.out) 1
  have k2 := fz_row (R2.out) 2
  have k3 := fz_row (R2.out) 3
  go_wp2
  refine bodyPost_ret (v := .tuple #[.agg #[.int .i64 s, .int .i64 (l + n), .int .i64 h, .int .i64 o], .int .i64 l, .int .i64 0]) (by simp [results, Tryd.results20, go_sem, d0, d1, d2, d3]) rfl ⟨rfl, claim_below bw2 _ _ _ _ _ _⟩
set_option maxHeartbeats 2000000 in
theorem rclaim_out_b (s l h o x n : Int) (w : World) (hk : Pk.frOk s l h o = true) (hx0 : (x != 0) = true) (hx1 : (x != 1) = false) (he : (x == s) = false) (hn : 1 ≤ n) (hm : n ≤ h - l - o) :
    Calls Tryd.prog 20 #[.agg #[.int .i64 s, .int .i64 l, .int .i64 h, .int .i64 o], .int .i64 x, .int .i64 n] w fun e w' => e = .returned (.tuple #[.agg #[.int .i64 s, .int .i64 l, .int .i64 h, .int .i64 (o + n)], .int .i64 o, .int .i64 0]) ∧ Below w.heap.size w w' := by
  obtain ⟨hs, l0, l1, h0, h1, o0, o1, hlo⟩ := Pk.frOk_yes hk
  have s0 : 0 ≤ s := by omega
  have s1 : s ≤ 1 := by omega
  clear hs
  have HF : Hid (decide (1 ≤ n ∧ n ≤ h - l - o) = true) := decide_eq_true (by omega)
  have n1 : n ≤ 4096 := by omega
  clear hm
  go_enter Tryd.func20, Tryd.ntmps20
  go_wp2_with (go_at_call 32; refine (right_any _ _ _ _ _).mono ?_)
  rintro e w1 ⟨rfl, b1⟩
  have F := hid (row2a b1)
  have R := hid (row2b b1)
  have bw := bel2 b1
  have hz := siz2 b1
  clear b1
  have c0 := at_row (F.out) 0 rfl
  have c1 := at_row (F.out) 1 rfl
  have c2 := at_row (F.out) 2 rfl
  have c3 := at_row (F.out) 3 rfl
  go_wp2_with (go_at_call 24; refine (rfits_yes s l h o n _ hk).mono ?_)
  rintro e w2 ⟨rfl, b2⟩
  have F2 := hid ((b2.block _ (by omega)).trans F.out)
  have R2 := hid ((b2.block _ (by omega)).trans R.out)
  have bw2 : Below w.heap.size w w2 := bw.trans (b2.mono (by omega))
  clear b2 F R bw hz c0 c1 c2 c3
  rw [HF.out]
  have c0 := at_row (F2.out) 0 rfl
  have c1 := at_row (F2.out) 1 rfl
  have c2 := at_row (F2.out) 2 rfl
  have c3 := at_row (F2.out) 3 rfl
  have z3 := fz_row F2.out 3
  have d0 := at_row (R2.out) 0 rfl
  have d1 := at_row (R2.out) 1 rfl
  have d2 := at_row (R2.out) 2 rfl
  have d3 := at_row (R2.out) 3 rfl
  have k0 := fz_row (R2.out) 0
  have k1 := fz_row (R2.out) 1
  have k2 := fz_row (R2.out) 2
  have k3 := fz_row (R2.out) 3
  go_wp2
  refine bodyPost_ret (v := .tuple #[.agg #[.int .i64 s, .int .i64 l, .int .i64 h, .int .i64 (o + n)], .int .i64 o, .int .i64 0]) (by simp [results, Tryd.results20, go_sem, d0, d1, d2, d3]) rfl ⟨rfl, claim_below bw2 _ _ _ _ _ _⟩
end Go.Proofs.YtdchcmaceobpeaaDoor
