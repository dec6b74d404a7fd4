/- The document's functions of layer 2: which frontiers may be; requests; frontiers as words. -/
import Derived.Test.YtldfmlkjeniemaaGreatDoorLyRefOn
namespace Go.Proofs.YtldfmlkjeniemaaGreatDoor
open Go.RowKit
set_option maxHeartbeats 1000000 in
theorem right_s (s l h o : Int) (w : World) (hs0 : (s != 0) = true) (hs1 : (s != 1) = true) :
    Calls Tryz.prog 67 #[.agg #[.int .i64 s, .int .i64 l, .int .i64 h, .int .i64 o]] w fun e w' => e = .returned (.bool false) ∧ Below w.heap.size w w' := by
  go_enter Tryz.func67, Tryz.ntmps67
  go_wp2
  go_ret
  exact ⟨rfl, below_alloc0 w _⟩
set_option maxHeartbeats 1000000 in
theorem right_llo_a (s l h o : Int) (w : World) (hs0 : (s != 0) = false) (hv : l < 0) :
    Calls Tryz.prog 67 #[.agg #[.int .i64 s, .int .i64 l, .int .i64 h, .int .i64 o]] w fun e w' => e = .returned (.bool false) ∧ Below w.heap.size w w' := by
  go_enter Tryz.func67, Tryz.ntmps67
  go_wp2
  go_ret
  exact ⟨rfl, below_alloc0 w _⟩
set_option maxHeartbeats 1000000 in
theorem right_lhi_a (s l h o : Int) (w : World) (hs0 : (s != 0) = false) (l0 : 0 ≤ l) (hv : 4096 < l) :
    Calls Tryz.prog 67 #[.agg #[.int .i64 s, .int .i64 l, .int .i64 h, .int .i64 o]] w fun e w' => e = .returned (.bool false) ∧ Below w.heap.size w w' := by
  go_enter Tryz.func67, Tryz.ntmps67
  go_wp2
  go_ret
  exact ⟨rfl, below_alloc0 w _⟩
set_option maxHeartbeats 1000000 in
theorem right_hlo_a (s l h o : Int) (w : World) (hs0 : (s != 0) = false) (l0 : 0 ≤ l) (l1 : l ≤ 4096) (hv : h < 0) :
    Calls Tryz.prog 67 #[.agg #[.int .i64 s, .int .i64 l, .int .i64 h, .int .i64 o]] w fun e w' => e = .returned (.bool false) ∧ Below w.heap.size w w' := by
  go_enter Tryz.func67, Tryz.ntmps67
  go_wp2
  go_ret
  exact ⟨rfl, below_alloc0 w _⟩
set_option maxHeartbeats 1000000 in
theorem right_hhi_a (s l h o : Int) (w : World) (hs0 : (s != 0) = false) (l0 : 0 ≤ l) (l1 : l ≤ 4096) (h0 : 0 ≤ h) (hv : 4096 < h) :
    Calls Tryz.prog 67 #[.agg #[.int .i64 s, .int .i64 l, .int .i64 h, .int .i64 o]] w fun e w' => e = .returned (.bool false) ∧ Below w.heap.size w w' := by
  go_enter Tryz.func67, Tryz.ntmps67
  go_wp2
  go_ret
  exact ⟨rfl, below_alloc0 w _⟩
set_option maxHeartbeats 1000000 in
theorem right_olo_a (s l h o : Int) (w : World) (hs0 : (s != 0) = false) (l0 : 0 ≤ l) (l1 : l ≤ 4096) (h0 : 0 ≤ h) (h1 : h ≤ 4096) (hv : o < 0) :
    Calls Tryz.prog 67 #[.agg #[.int .i64 s, .int .i64 l, .int .i64 h, .int .i64 o]] w fun e w' => e = .returned (.bool false) ∧ Below w.heap.size w w' := by
  go_enter Tryz.func67, Tryz.ntmps67
  go_wp2
  go_ret
  exact ⟨rfl, below_alloc0 w _⟩
set_option maxHeartbeats 1000000 in
theorem right_ohi_a (s l h o : Int) (w : World) (hs0 : (s != 0) = false) (l0 : 0 ≤ l) (l1 : l ≤ 4096) (h0 : 0 ≤ h) (h1 : h ≤ 4096) (o0 : 0 ≤ o) (hv : 4096 < o) :
    Calls Tryz.prog 67 #[.agg #[.int .i64 s, .int .i64 l, .int .i64 h, .int .i64 o]] w fun e w' => e = .returned (.bool false) ∧ Below w.heap.size w w' := by
  go_enter Tryz.func67, Tryz.ntmps67
  go_wp2
  go_ret
  exact ⟨rfl, below_alloc0 w _⟩
set_option maxHeartbeats 1000000 in
theorem right_in_a (s l h o : Int) (w : World) (hs0 : (s != 0) = false) (l0 : 0 ≤ l) (l1 : l ≤ 4096) (h0 : 0 ≤ h) (h1 : h ≤ 4096) (o0 : 0 ≤ o) (o1 : o ≤ 4096) :
    Calls Tryz.prog 67 #[.agg #[.int .i64 s, .int .i64 l, .int .i64 h, .int .i64 o]] w fun e w' => e = .returned (.bool (decide (l + o ≤ h))) ∧ Below w.heap.size w w' := by
  go_enter Tryz.func67, Tryz.ntmps67
  go_wp2
  go_ret
  exact ⟨rfl, below_alloc0 w _⟩
set_option maxHeartbeats 1000000 in
theorem right_llo_b (s l h o : Int) (w : World) (hs0 : (s != 0) = true) (hs1 : (s != 1) = false) (hv : l < 0) :
    Calls Tryz.prog 67 #[.agg #[.int .i64 s, .int .i64 l, .int .i64 h, .int .i64 o]] w fun e w' => e = .returned (.bool false) ∧ Below w.heap.size w w' := by
  go_enter Tryz.func67, Tryz.ntmps67
  go_wp2
  go_ret
  exact ⟨rfl, below_alloc0 w _⟩
set_option maxHeartbeats 1000000 in
theorem right_lhi_b (s l h o : Int) (w : World) (hs0 : (s != 0) = true) (hs1 : (s != 1) = false) (l0 : 0 ≤ l) (hv : 4096 < l) :
    Calls Tryz.prog 67 #[.agg #[.int .i64 s, .int .i64 l, .int .i64 h, .int .i64 o]] w fun e w' => e = .returned (.bool false) ∧ Below w.heap.size w w' := by
  go_enter Tryz.func67, Tryz.ntmps67
  go_wp2
  go_ret
  exact ⟨rfl, below_alloc0 w _⟩
set_option maxHeartbeats 1000000 in
theorem right_hlo_b (s l h o : Int) (w : World) (hs0 : (s != 0) = true) (hs1 : (s != 1) = false) (l0 : 0 ≤ l) (l1 : l ≤ 4096) (hv : h < 0) :
    Calls Tryz.prog 67 #[.agg #[.int .i64 s, .int .i64 l, .int .i64 h, .int .i64 o]] w fun e w' => e = .returned (.bool false) ∧ Below w.heap.size w w' := by
  go_enter Tryz.func67, Tryz.ntmps67
  go_wp2
  go_ret
  exact ⟨rfl, below_alloc0 w _⟩
set_option maxHeartbeats 1000000 in
theorem right_hhi_b (s l h o : Int) (w : World) (hs0 : (s != 0) = true) (hs1 : (s != 1) = false) (l0 : 0 ≤ l) (l1 : l ≤ 4096) (h0 : 0 ≤ h) (hv : 4096 < h) :
    Calls Tryz.prog 67 #[.agg #[.int .i64 s, .int .i64 l, .int .i64 h, .int .i64 o]] w fun e w' => e = .returned (.bool false) ∧ Below w.heap.size w w' := by
  go_enter Tryz.func67, Tryz.ntmps67
  go_wp2
  go_ret
  exact ⟨rfl, below_alloc0 w _⟩
set_option maxHeartbeats 1000000 in
theorem right_olo_b (s l h o : Int) (w : World) (hs0 : (s != 0) = true) (hs1 : (s != 1) = false) (l0 : 0 ≤ l) (l1 : l ≤ 4096) (h0 : 0 ≤ h) (h1 : h ≤ 4096) (hv : o < 0) :
    Calls Tryz.prog 67 #[.agg #[.int .i64 s, .int .i64 l, .int .i64 h, .int .i64 o]] w fun e w' => e = .returned (.bool false) ∧ Below w.heap.size w w' := by
  go_enter Tryz.func67, Tryz.ntmps67
  go_wp2
  go_ret
  exact ⟨rfl, below_alloc0 w _⟩
set_option maxHeartbeats 1000000 in
theorem right_ohi_b (s l h o : Int) (w : World) (hs0 : (s != 0) = true) (hs1 : (s != 1) = false) (l0 : 0 ≤ l) (l1 : l ≤ 4096) (h0 : 0 ≤ h) (h1 : h ≤ 4096) (o0 : 0 ≤ o) (hv : 4096 < o) :
    Calls Tryz.prog 67 #[.agg #[.int .i64 s, .int .i64 l, .int .i64 h, .int .i64 o]] w fun e w' => e = .returned (.bool false) ∧ Below w.heap.size w w' := by
  go_enter Tryz.func67, Tryz.ntmps67
  go_wp2
  go_ret
  exact ⟨rfl, below_alloc0 w _⟩
set_option maxHeartbeats 1000000 in
theorem right_in_b (s l h o : Int) (w : World) (hs0 : (s != 0) = true) (hs1 : (s != 1) = false) (l0 : 0 ≤ l) (l1 : l ≤ 4096) (h0 : 0 ≤ h) (h1 : h ≤ 4096) (o0 : 0 ≤ o) (o1 : o ≤ 4096) :
    Calls Tryz.prog 67 #[.agg #[.int .i64 s, .int .i64 l, .int .i64 h, .int .i64 o]] w fun e w' => e = .returned (.bool (decide (l + o ≤ h))) ∧ Below w.heap.size w w' := by
  go_enter Tryz.func67, Tryz.ntmps67
  go_wp2
  go_ret
  exact ⟨rfl, below_alloc0 w _⟩
theorem right_any (s l h o : Int) (w : World) :
    Calls Tryz.prog 67 #[.agg #[.int .i64 s, .int .i64 l, .int .i64 h, .int .i64 o]] w fun e w' => e = .returned (.bool (Pk.frOk s l h o)) ∧ Below w.heap.size w w' := by
  by_cases hs : s = 0
  · have e0 : (s != 0) = false := by simpa using hs
    by_cases hl : l < 0
    · exact (right_llo_a s l h o w e0 hl).mono fun _ _ e => ⟨e.1.trans (ret_bool (Pk.frOk_no (by omega)).symm), e.2⟩
    · by_cases hl1 : 4096 < l
      · exact (right_lhi_a s l h o w e0 (by omega) hl1).mono fun _ _ e => ⟨e.1.trans (ret_bool (Pk.frOk_no (by omega)).symm), e.2⟩
      · by_cases hh : h < 0
        · exact (right_hlo_a s l h o w e0 (by omega) (by omega) hh).mono fun _ _ e => ⟨e.1.trans (ret_bool (Pk.frOk_no (by omega)).symm), e.2⟩
        · by_cases hh1 : 4096 < h
          · exact (right_hhi_a s l h o w e0 (by omega) (by omega) (by omega) hh1).mono fun _ _ e => ⟨e.1.trans (ret_bool (Pk.frOk_no (by omega)).symm), e.2⟩
          · by_cases ho : o < 0
            · exact (right_olo_a s l h o w e0 (by omega) (by omega) (by omega) (by omega) ho).mono fun _ _ e => ⟨e.1.trans (ret_bool (Pk.frOk_no (by omega)).symm), e.2⟩
            · by_cases ho1 : 4096 < o
              · exact (right_ohi_a s l h o w e0 (by omega) (by omega) (by omega) (by omega) (by omega) ho1).mono fun _ _ e => ⟨e.1.trans (ret_bool (Pk.frOk_no (by omega)).symm), e.2⟩
              · refine (right_in_a s l h o w e0 (by omega) (by omega) (by omega) (by omega) (by omega) (by omega)).mono fun _ _ e => ⟨e.1.trans (ret_bool ?_), e.2⟩
                unfold Pk.frOk; rw [decide_eq_decide]; omega
  · have e0 : (s != 0) = true := by simpa using hs
    by_cases hs1 : s = 1
    · have e1 : (s != 1) = false := by simpa using hs1
      by_cases hl : l < 0
      · exact (right_llo_b s l h o w e0 e1 hl).mono fun _ _ e => ⟨e.1.trans (ret_bool (Pk.frOk_no (by omega)).symm), e.2⟩
      · by_cases hl1 : 4096 < l
        · exact (right_lhi_b s l h o w e0 e1 (by omega) hl1).mono fun _ _ e => ⟨e.1.trans (ret_bool (Pk.frOk_no (by omega)).symm), e.2⟩
        · by_cases hh : h < 0
          · exact (right_hlo_b s l h o w e0 e1 (by omega) (by omega) hh).mono fun _ _ e => ⟨e.1.trans (ret_bool (Pk.frOk_no (by omega)).symm), e.2⟩
          · by_cases hh1 : 4096 < h
            · exact (right_hhi_b s l h o w e0 e1 (by omega) (by omega) (by omega) hh1).mono fun _ _ e => ⟨e.1.trans (ret_bool (Pk.frOk_no (by omega)).symm), e.2⟩
            · by_cases ho : o < 0
              · exact (right_olo_b s l h o w e0 e1 (by omega) (by omega) (by omega) (by omega) ho).mono fun _ _ e => ⟨e.1.trans (ret_bool (Pk.frOk_no (by omega)).symm), e.2⟩
              · by_cases ho1 : 4096 < o
                · exact (right_ohi_b s l h o w e0 e1 (by omega) (by omega) (by omega) (by omega) (by omega) ho1).mono fun _ _ e => ⟨e.1.trans (ret_bool (Pk.frOk_no (by omega)).symm), e.2⟩
                · refine (right_in_b s l h o w e0 e1 (by omega) (by omega) (by omega) (by omega) (by omega) (by omega)).mono fun _ _ e => ⟨e.1.trans (ret_bool ?_), e.2⟩
                  unfold Pk.frOk; rw [decide_eq_decide]; omega
    · have e1 : (s != 1) = true := by simpa using hs1
      exact (right_s s l h o w e0 e1).mono fun _ _ e => ⟨e.1.trans (ret_bool (Pk.frOk_no (by omega)).symm), e.2⟩
set_option maxHeartbeats 1000000 in
theorem rfront_yes (s l h o : Int) (w : World) (hk : Pk.frOk s l h o = true) :
    Calls Tryz.prog 41 #[.agg #[.int .i64 s, .int .i64 l, .int .i64 h, .int .i64 o]] w fun e w' => e = .returned (.tuple #[.int .u64 (s + 2 * (l + 8192 * (h + 8192 * o))), .int .i64 0]) ∧ Below w.heap.size w w' := by
  obtain ⟨hs, l0, l1, h0, h1, o0, o1, hlo⟩ := Pk.frOk_yes hk
  have s0 : 0 ≤ s := by omega
  have s1 : s ≤ 1 := by omega
  clear hs
  go_enter Tryz.func41, Tryz.ntmps41
  go_wp2_with (go_at_call 67; refine (right_any _ _ _ _ _).mono ?_)
  rintro e w1 ⟨rfl, b1⟩
  have c0 := at_row (row1 b1) 0 rfl
  have c1 := at_row (row1 b1) 1 rfl
  have c2 := at_row (row1 b1) 2 rfl
  have c3 := at_row (row1 b1) 3 rfl
  have bw := bel1 b1
  clear b1
  go_wp2
  go_ret2
  exact ⟨rfl, bw⟩
set_option maxHeartbeats 1000000 in
theorem rfront_no (s l h o : Int) (w : World) (hk : Pk.frOk s l h o = false) :
    Calls Tryz.prog 41 #[.agg #[.int .i64 s, .int .i64 l, .int .i64 h, .int .i64 o]] w fun e w' => e = .returned (.tuple #[.int .u64 0, .int .i64 2]) ∧ Below w.heap.size w w' := by
  go_enter Tryz.func41, Tryz.ntmps41
  go_wp2_with (go_at_call 67; refine (right_any _ _ _ _ _).mono ?_)
  rintro e w1 ⟨rfl, b1⟩
  have bw := bel1 b1
  clear b1
  go_wp2
  go_ret2
  exact ⟨rfl, bw⟩
end Go.Proofs.YtldfmlkjeniemaaGreatDoor
