/- The document's functions of layer 2: which frontiers may be; requests; frontiers as words. -/
import Derived.Test.YtldfmlkjeniemaaGreatDoorShAllBOn
import Derived.Test.YtldfmlkjeniemaaGreatDoorLyRefOn
import Derived.Test.YtldfmlkjeniemaaGreatDoorArLeafOn
namespace Go.Proofs.YtldfmlkjeniemaaGreatDoor
open Go.RowKit
set_option maxHeartbeats 1000000 in
theorem right_s (s l h o : Int) (w : World) (hs0 : (s != 0) = true) (hs1 : (s != 1) = true) :
    Calls Tryz.prog 67 #[.agg #[.int .i64 s, .int .i64 l, .int .i64 h, .int .i64 o]] w fun e w' => e = .returned (.bool false) ∧ Below w.heap.size w w' := by
  go_enter Tryz.func67, Tryz.ntmps67
  go_wp2
  go_ret
  exact ⟨rfl, below_alloc0 w _⟩
set_option maxHeartbeats 1000000 in
theorem right_llo_a (s l h o : Int) (w : World) (hs0 : (s != 0) = false) (hv : l < 0) :
    Calls Tryz.prog 67 #[.agg #[.int .i64 s, .int .i64 l, .int .i64 h, .int .i64 o]] w fun e w' => e = .returned (.bool false) ∧ Below w.heap.size w w' := by
  go_enter Tryz.func67, Tryz.ntmps67
  go_wp2
  go_ret
  exact ⟨rfl, below_alloc0 w _⟩
set_option maxHeartbeats 1000000 in
theorem right_lhi_a (s l h o : Int) (w : World) (hs0 : (s != 0) = false) (l0 : 0 ≤ l) (hv : 4096 < l) :
    Calls Tryz.prog 67 #[.agg #[.int .i64 s, .int .i64 l, .int .i64 h, .int .i64 o]] w fun e w' => e = .returned (.bool false) ∧ Below w.heap.size w w' := by
  go_enter Tryz.func67, Tryz.ntmps67
  go_wp2
  go_ret
  exact ⟨rfl, below_alloc0 w _⟩
set_option maxHeartbeats 1000000 in
theorem right_hlo_a (s l h o : Int) (w : World) (hs0 : (s != 0) = false) (l0 : 0 ≤ l) (l1 : l ≤ 4096) (hv : h < 0) :
    Calls Tryz.prog 67 #[.agg #[.int .i64 s, .int .i64 l, .int .i64 h, .int .i64 o]] w fun e w' => e = .returned (.bool false) ∧ Below w.heap.size w w' := by
  go_enter Tryz.func67, Tryz.ntmps67
  go_wp2
  go_ret
  exact ⟨rfl, below_alloc0 w _⟩
set_option maxHeartbeats 1000000 in
theorem right_hhi_a (s l h o : Int) (w : World) (hs0 : (s != 0) = false) (l0 : 0 ≤ l) (l1 : l ≤ 4096) (h0 : 0 ≤ h) (hv : 4096 < h) :
    Calls Tryz.prog 67 #[.agg #[.int .i64 s, .int .i64 l, .int .i64 h, .int .i64 o]] w fun e w' => e = .returned (.bool false) ∧ Below w.heap.size w w' := by
  go_enter Tryz.func67, Tryz.ntmps67
  go_wp2
  go_ret
  exact ⟨rfl, below_alloc0 w _⟩
set_option maxHeartbeats 1000000 in
theorem right_olo_a (s l h o : Int) (w : World) (hs0 : (s != 0) = false) (l0 : 0 ≤ l) (l1 : l ≤ 4096) (h0 : 0 ≤ h) (h1 : h ≤ 4096) (hv : o < 0) :
    Calls Tryz.prog 67 #[.agg #[.int .i64 s, .int .i64 l, .int .i64 h, .int .i64 o]] w fun e w' => e = .returned (.bool false) ∧ Below w.heap.size w w' := by
  go_enter Tryz.func67, Tryz.ntmps67
  go_wp2
  go_ret
  exact ⟨rfl, below_alloc0 w _⟩
set_option maxHeartbeats 1000000 in
theorem right_ohi_a (s l h o : Int) (w : World) (hs0 : (s != 0) = false) (l0 : 0 ≤ l) (l1 : l ≤ 4096) (h0 : 0 ≤ h) (h1 : h ≤ 4096) (o0 : 0 ≤ o) (hv : 4096 < o) :
    Calls Tryz.prog 67 #[.agg #[.int .i64 s, .int .i64 l, .int .i64 h, .int .i64 o]] w fun e w' => e = .returned (.bool false) ∧ Below w.heap.size w w' := by
  go_enter Tryz.func67, Tryz.ntmps67
  go_wp2
  go_ret
  exact ⟨rfl, below_alloc0 w _⟩
set_option maxHeartbeats 1000000 in
theorem right_in_a (s l h o : Int) (w : World) (hs0 : (s != 0) = false) (l0 : 0 ≤ l) (l1 : l ≤ 4096) (h0 : 0 ≤ h) (h1 : h ≤ 4096) (o0 : 0 ≤ o) (o1 : o ≤ 4096) :
    Calls Tryz.prog 67 #[.agg #[.int .i64 s, .int .i64 l, .int .i64 h, .int .i64 o]] w fun e w' => e = .returned (.bool (decide (l + o ≤ h))) ∧ Below w.heap.size w w' := by
  go_enter Tryz.func67, Tryz.ntmps67
  go_wp2
  go_ret
  exact ⟨rfl, below_alloc0 w _⟩
set_option maxHeartbeats 1000000 in
theorem right_llo_b (s l h o : Int) (w : World) (hs0 : (s != 0) = true) (hs1 : (s != 1) = false) (hv : l < 0) :
    Calls Tryz.prog 67 #[.agg #[.int .i64 s, .int .i64 l, .int .i64 h, .int .i64 o]] w fun e w' => e = .returned (.bool false) ∧ Below w.heap.size w w' := by
  go_enter Tryz.func67, Tryz.ntmps67
  go_wp2
  go_ret
  exact ⟨rfl, below_alloc0 w _⟩
set_option maxHeartbeats 1000000 in
theorem right_lhi_b (s l h o : Int) (w : World) (hs0 : (s != 0) = true) (hs1 : (s != 1) = false) (l0 : 0 ≤ l) (hv : 4096 < l) :
    Calls Tryz.prog 67 #[.agg #[.int .i64 s, .int .i64 l, .int .i64 h, .int .i64 o]] w fun e w' => e = .returned (.bool false) ∧ Below w.heap.size w w' := by
  go_enter Tryz.func67, Tryz.ntmps67
  go_wp2
  go_ret
  exact ⟨rfl, below_alloc0 w _⟩
set_option maxHeartbeats 1000000 in
theorem right_hlo_b (s l h o : Int) (w : World) (hs0 : (s != 0) = true) (hs1 : (s != 1) = false) (l0 : 0 ≤ l) (l1 : l ≤ 4096) (hv : h < 0) :
    Calls Tryz.prog 67 #[.agg #[.int .i64 s, .int .i64 l, .int .i64 h, .int .i64 o]] w fun e w' => e = .returned (.bool false) ∧ Below w.heap.size w w' := by
  go_enter Tryz.func67, Tryz.ntmps67
  go_wp2
  go_ret
  exact ⟨rfl, below_alloc0 w _⟩
set_option maxHeartbeats 1000000 in
theorem right_hhi_b (s l h o : Int) (w : World) (hs0 : (s != 0) = true) (hs1 : (s != 1) = false) (l0 : 0 ≤ l) (l1 : l ≤ 4096) (h0 : 0 ≤ h) (hv : 4096 < h) :
    Calls Tryz.prog 67 #[.agg #[.int .i64 s, .int .i64 l, .int .i64 h, .int .i64 o]] w fun e w' => e = .returned (.bool false) ∧ Below w.heap.size w w' := by
  go_enter Tryz.func67, Tryz.ntmps67
  go_wp2
  go_ret
  exact ⟨rfl, below_alloc0 w _⟩
set_option maxHeartbeats 1000000 in
theorem right_olo_b (s l h o : Int) (w : World) (hs0 : (s != 0) = true) (hs1 : (s != 1) = false) (l0 : 0 ≤ l) (l1 : l ≤ 4096) (h0 : 0 ≤ h) (h1 : h ≤ 4096) (hv : o < 0) :
    Calls Tryz.prog 67 #[.agg #[.int .i64 s, .int .i64 l, .int .i64 h, .int .i64 o]] w fun e w' => e = .returned (.bool false) ∧ Below w.heap.size w w' := by
  go_enter Tryz.func67, Tryz.ntmps67
  go_wp2
  go_ret
  exact ⟨rfl, below_alloc0 w _⟩
set_option maxHeartbeats 1000000 in
theorem right_ohi_b (s l h o : Int) (w : World) (hs0 : (s != 0) = true) (hs1 : (s != 1) = false) (l0 : 0 ≤ l) (l1 : l ≤ 4096) (h0 : 0 ≤ h) (h1 : h ≤ 4096) (o0 : 0 ≤ o) (hv : 4096 < o) :
    Calls Tryz.prog 67 #[.agg #[.int .i64 s, .int .i64 l, .int .i64 h, .int .i64 o]] w fun e w' => e = .returned (.bool false) ∧ Below w.heap.size w w' := by
  go_enter Tryz.func67, Tryz.ntmps67
  go_wp2
  go_ret
  exact ⟨rfl, below_alloc0 w _⟩
set_option maxHeartbeats 1000000 in
theorem right_in_b (s l h o : Int) (w : World) (hs0 : (s != 0) = true) (hs1 : (s != 1) = false) (l0 : 0 ≤ l) (l1 : l ≤ 4096) (h0 : 0 ≤ h) (h1 : h ≤ 4096) (o0 : 0 ≤ o) (o1 : o ≤ 4096) :
    Calls Tryz.prog 67 #[.agg #[.int .i64 s, .int .i64 l, .int .i64 h, .int .i64 o]] w fun e w' => e = .returned (.bool (decide (l + o ≤ h))) ∧ Below w.heap.size w w' := by
  go_enter Tryz.func67, Tryz.ntmps67
  go_wp2
  go_ret
  exact ⟨rfl, below_alloc0 w _⟩
theorem right_any (s l h o : Int) (w : World) :
    Calls Tryz.prog 67 #[.agg #[.int .i64 s, .int .i64 l, .int .i64 h, .int .i64 o]] w fun e w' => e = .returned (.bool (Pk.frOk s l h o)) ∧ Below w.heap.size w w' := by
  by_cases hs : s = 0
  · have e0 : (s != 0) = false := by simpa using hs
    by_cases hl : l < 0
    · exact (right_llo_a s l h o w e0 hl).mono fun _ _ e => ⟨e.1.trans (ret_bool (Pk.frOk_no (by omega)).symm), e.2⟩
    · by_cases hl1 : 4096 < l
      · exact (right_lhi_a s l h o w e0 (by omega) hl1).mono fun _ _ e => ⟨e.1.trans (ret_bool (Pk.frOk_no (by omega)).symm), e.2⟩
      · by_cases hh : h < 0
        · exact (right_hlo_a s l h o w e0 (by omega) (by omega) hh).mono fun _ _ e => ⟨e.1.trans (ret_bool (Pk.frOk_no (by omega)).symm), e.2⟩
        · by_cases hh1 : 4096 < h
          · exact (right_hhi_a s l h o w e0 (by omega) (by omega) (by omega) hh1).mono fun _ _ e => ⟨e.1.trans (ret_bool (Pk.frOk_no (by omega)).symm), e.2⟩
          · by_cases ho : o < 0
            · exact (right_olo_a s l h o w e0 (by omega) (by omega) (by omega) (by omega) ho).mono fun _ _ e => ⟨e.1.trans (ret_bool (Pk.frOk_no (by omega)).symm), e.2⟩
            · by_cases ho1 : 4096 < o
              · exact (right_ohi_a s l h o w e0 (by omega) (by omega) (by omega) (by omega) (by omega) ho1).mono fun _ _ e => ⟨e.1.trans (ret_bool (Pk.frOk_no (by omega)).symm), e.2⟩
              · refine (right_in_a s l h o w e0 (by omega) (by omega) (by omega) (by omega) (by omega) (by omega)).mono fun _ _ e => ⟨e.1.trans (ret_bool ?_), e.2⟩
                unfold Pk.frOk; rw [decide_eq_decide]; omega
  · have e0 : (s != 0) = true := by simpa using hs
    by_cases hs1 : s = 1
    · have e1 : (s != 1) = false := by simpa using hs1
      by_cases hl : l < 0
      · exact (right_llo_b s l h o w e0 e1 hl).mono fun _ _ e => ⟨e.1.trans (ret_bool (Pk.frOk_no (by omega)).symm), e.2⟩
      · by_cases hl1 : 4096 < l
        · exact (right_lhi_b s l h o w e0 e1 (by omega) hl1).mono fun _ _ e => ⟨e.1.trans (ret_bool (Pk.frOk_no (by omega)).symm), e.2⟩
        · by_cases hh : h < 0
          · exact (right_hlo_b s l h o w e0 e1 (by omega) (by omega) hh).mono fun _ _ e => ⟨e.1.trans (ret_bool (Pk.frOk_no (by omega)).symm), e.2⟩
          · by_cases hh1 : 4096 < h
            · exact (right_hhi_b s l h o w e0 e1 (by omega) (by omega) (by omega) hh1).mono fun _ _ e => ⟨e.1.trans (ret_bool (Pk.frOk_no (by omega)).symm), e.2⟩
            · by_cases ho : o < 0
              · exact (right_olo_b s l h o w e0 e1 (by omega) (by omega) (by omega) (by omega) ho).mono fun _ _ e => ⟨e.1.trans (ret_bool (Pk.frOk_no (by omega)).symm), e.2⟩
              · by_cases ho1 : 4096 < o
                · exact (right_ohi_b s l h o w e0 e1 (by omega) (by omega) (by omega) (by omega) (by omega) ho1).mono fun _ _ e => ⟨e.1.trans (ret_bool (Pk.frOk_no (by omega)).symm), e.2⟩
                · refine (right_in_b s l h o w e0 e1 (by omega) (by omega) (by omega) (by omega) (by omega) (by omega)).mono fun _ _ e => ⟨e.1.trans (ret_bool ?_), e.2⟩
                  unfold Pk.frOk; rw [decide_eq_decide]; omega
    · have e1 : (s != 1) = true := by simpa using hs1
      exact (right_s s l h o w e0 e1).mono fun _ _ e => ⟨e.1.trans (ret_bool (Pk.frOk_no (by omega)).symm), e.2⟩
set_option maxHeartbeats 1000000 in
theorem rfront_yes (s l h o : Int) (w : World) (hk : Pk.frOk s l h o = true) :
    Calls Tryz.prog 41 #[.agg #[.int .i64 s, .int .i64 l, .int .i64 h, .int .i64 o]] w fun e w' => e = .returned (.tuple #[.int .u64 (s + 2 * (l + 8192 * (h + 8192 * o))), .int .i64 0]) ∧ Below w.heap.size w w' := by
  obtain ⟨hs, l0, l1, h0, h1, o0, o1, hlo⟩ := Pk.frOk_yes hk
  have s0 : 0 ≤ s := by omega
  have s1 : s ≤ 1 := by omega
  clear hs
  go_enter Tryz.func41, Tryz.ntmps41
  go_wp2_with (go_at_call 67; refine (right_any _ _ _ _ _).mono ?_)
  rintro e w1 ⟨rfl, b1⟩
  have c0 := at_row (row1 b1) 0 rfl
  have c1 := at_row (row1 b1) 1 rfl
  have c2 := at_row (row1 b1) 2 rfl
  have c3 := at_row (row1 b1) 3 rfl
  have bw := bel1 b1
  clear b1
  go_wp2
  go_ret2
  exact ⟨rfl, bw⟩
set_option maxHeartbeats 1000000 in
theorem rfront_no (s l h o : Int) (w : World) (hk : Pk.frOk s l h o = false) :
    Calls Tryz.prog 41 #[.agg #[.int .i64 s, .int .i64 l, .int .i64 h, .int .i64 o]] w fun e w' => e = .returned (.tuple #[.int .u64 0, .int .i64 2]) ∧ Below w.heap.size w w' := by
  go_enter Tryz.func41, Tryz.ntmps41
  go_wp2_with (go_at_call 67; refine (right_any _ _ _ _ _).mono ?_)
  rintro e w1 ⟨rfl, b1⟩
  have bw := bel1 b1
  clear b1
  go_wp2
  go_ret2
  exact ⟨rfl, bw⟩
end Go.Proofs.YtldfmlkjeniemaaGreatDoor
/- The document's functions of layer 2: frontiers of words; claims, turns, what is used; names. -/
namespace Go.Proofs.YtldfmlkjeniemaaGreatDoor
open Go.RowKit
theorem claim_below {w w2 : World} (h : Below w.heap.size w w2) (j : Nat) (t u v x y : Value) : Below w.heap.size w (((((w2.setCell ⟨w.heap.size, j, none⟩ t).setCell ⟨w.heap.size + 1, 0, none⟩ u).setCell ⟨w.heap.size + 1, 1, none⟩ v).setCell ⟨w.heap.size + 1, 2, none⟩ x).setCell ⟨w.heap.size + 1, 3, none⟩ y) :=
  four_set (h.setCell (Nat.le_refl _) _) (Nat.le_succ _) _ _ _ _
end Go.Proofs.YtldfmlkjeniemaaGreatDoor
/- Package pack and the document's functions of layer 2, by what they answer: each contract once for the code, once for the document. -/
namespace Go.Pk
/-- A request's word, and the error. -/
def rq (x p : Int) : Int × Int := if rqOk x p = true then (8 * x + p, 0) else (0, 2)
/-- A word's request, and the error. -/
def orq (x : Int) : Int × Int × Int := if rqOk (x / 8) (x % 8) = true then (x / 8, x % 8, 0) else (0, 0, 2)
/-- A frontier's word, and the error. -/
def fw (s l h o : Int) : Int × Int := if frOk s l h o = true then (s + 2 * (l + 8192 * (h + 8192 * o)), 0) else (0, 2)
/-- A word's frontier, and the error. -/
def ofw (x : Int) : Int × Int × Int × Int × Int := if frOk (x % 2) (x / 2 % 8192) (x / 16384 % 8192) (x / 134217728) = true then (x % 2, x / 2 % 8192, x / 16384 % 8192, x / 134217728, 0) else (0, 0, 0, 0, 2)
def us (s l h o n : Int) : Int × Int := if frOk s l h o = true ∧ h ≤ n ∧ n ≤ 4096 then (l + n - h + o, 0) else (0, 2)
def ft (s l h o n : Int) : Bool := frOk s l h o && decide (1 ≤ n ∧ n ≤ h - l - o)
def tn (s l h o n : Int) : Int × Int × Int × Int × Int := if frOk s l h o = true then (if o ≤ n ∧ n ≤ 4096 then (1 - s, o, n, 0, 0) else (0, 0, 0, 0, 4)) else (0, 0, 0, 0, 2)
def cl (s l h o x n : Int) : Int × Int × Int × Int × Int × Int :=
  if frOk s l h o = true ∧ (x = 0 ∨ x = 1) ∧ 1 ≤ n then (if n ≤ h - l - o then (if x = s then (s, l + n, h, o, l, 0) else (s, l, h, o + n, o, 0)) else (0, 0, 0, 0, 0, 4)) else (0, 0, 0, 0, 0, 2)
theorem bool_cases (b : Bool) : b = true ∨ b = false := by cases b <;> simp
end Go.Pk
namespace Go.Proofs.YtldfmlkjeniemaaGreatDoor
open Go.RowKit
theorem ret_qe {a b c a' b' c' : Int} (h : (a', b', c') = (a, b, c)) : Ending.returned (.tuple #[.agg #[.int .i64 a', .int .i64 b'], .int .i64 c']) = .returned (.tuple #[.agg #[.int .i64 a, .int .i64 b], .int .i64 c]) := by cases h; rfl
theorem ret_ue {a b a' b' : Int} (h : (a', b') = (a, b)) : Ending.returned (.tuple #[.int .u64 a', .int .i64 b']) = .returned (.tuple #[.int .u64 a, .int .i64 b]) := by cases h; rfl
theorem ret_ne {a b a' b' : Int} (h : (a', b') = (a, b)) : Ending.returned (.tuple #[.int .i64 a', .int .i64 b']) = .returned (.tuple #[.int .i64 a, .int .i64 b]) := by cases h; rfl
theorem ret_4e {a b c d e a' b' c' d' e' : Int} (h : (a', b', c', d', e') = (a, b, c, d, e)) : Ending.returned (.tuple #[.agg #[.int .i64 a', .int .i64 b', .int .i64 c', .int .i64 d'], .int .i64 e']) = .returned (.tuple #[.agg #[.int .i64 a, .int .i64 b, .int .i64 c, .int .i64 d], .int .i64 e]) := by cases h; rfl
theorem ret_5e {a b c d t e a' b' c' d' t' e' : Int} (h : (a', b', c', d', t', e') = (a, b, c, d, t, e)) : Ending.returned (.tuple #[.agg #[.int .i64 a', .int .i64 b', .int .i64 c', .int .i64 d'], .int .i64 t', .int .i64 e']) = .returned (.tuple #[.agg #[.int .i64 a, .int .i64 b, .int .i64 c, .int .i64 d], .int .i64 t, .int .i64 e]) := by cases h; rfl
theorem rfront_at (s l h o : Int) (a b : Int) (w : World) (H : Hid (Pk.fw s l h o = (a, b))) :
    Calls Tryz.prog 41 #[.agg #[.int .i64 s, .int .i64 l, .int .i64 h, .int .i64 o]] w fun e w' => e = .returned (.tuple #[.int .u64 a, .int .i64 b]) ∧ Below w.heap.size w w' := by
  have H := H.out
  unfold Pk.fw at H
  rcases Pk.bool_cases (Pk.frOk s l h o) with hk | hk
  · rw [if_pos hk] at H
    exact (rfront_yes s l h o w hk).mono fun _ _ e => ⟨e.1.trans (ret_ue H), e.2⟩
  · rw [if_neg (by simp [hk])] at H
    exact (rfront_no s l h o w hk).mono fun _ _ e => ⟨e.1.trans (ret_ue H), e.2⟩
end Go.Proofs.YtldfmlkjeniemaaGreatDoor
/- package layout: start, Start: the words of an arena at the start. -/
set_option linter.unusedVariables false
namespace Go.Proofs.YtldfmlkjeniemaaGreatDoor
open Go.RowKit Go.Ly Go.Sh
/-- The word at the start, by its number: F the frontier, B the first word of the first space. -/
def stf (F : Int) (B : Nat) (x : ByteArray) (i : Nat) : Int := if i = 1 then F else if B ≤ i then (fobj x).getD (i - B) 0 else 0
/-- A world in which an arena's words are laid: the plan's box, the words' row, the first object. -/
structure StW (w : World) (P G g : Nat) (O : Obj) (zs : List Int) (x : ByteArray) (W : World) : Prop where
  row : W.heap[G]? = some (.cells (wds zs) 39)
  pln : W.heap[P]? = some O
  obj : ∀ i, i < 2 + x.size → W.cell? ⟨g, i, none⟩ = some (.int .u64 ((fobj x).getD i 0))
  bel : Below w.heap.size w W
  neG : g ≠ G
  neP : P ≠ G
  leG : w.heap.size ≤ G
theorem StW.below {w W W' : World} {P G g : Nat} {O : Obj} {zs : List Int} {x : ByteArray} (h : StW w P G g O zs x W) (b : Below W.heap.size W W') : StW w P G g O zs x W' :=
  ⟨row_below h.row b, row_below h.pln b, fun i hi => (b.cell (p := ⟨g, i, none⟩) (block_lt_of_cell (h.obj i hi))).trans (h.obj i hi), h.bel.trans (b.mono h.bel.size), h.neG, h.neP, h.leG⟩
theorem StW.set {w W : World} {P G g : Nat} {O : Obj} {zs : List Int} {x : ByteArray} (h : StW w P G g O zs x W) (i : Nat) (v : Int) : StW w P G g O (zs.set i v) x (W.setCell ⟨G, i, none⟩ (.int .u64 v)) := by
  have e := setCell_eq_setRow W G i (wds zs) 39 (0, 0) (.int .u64 v) h.row
  rw [wds_set] at e
  refine ⟨?_, other_row h.neP h.pln, fun j hj => grown_cell (grown_setCell W G i _) h.neG (h.obj j hj), h.bel.setCell (p := ⟨G, i, none⟩) h.leG _, h.neG, h.neP, h.leG⟩
  rw [e]
  exact setRow_heap W G (wds zs) _ _ _ h.row
theorem StW.cell {w W : World} {P G g : Nat} {O : Obj} {zs : List Int} {x : ByteArray} (h : StW w P G g O zs x W) (i : Nat) (hi : i < zs.length) : W.cell? ⟨G, i, none⟩ = some (.int .u64 (wat zs i)) := at_row h.row i (wds_get zs i hi)
theorem wat_stf (N B : Nat) (F : Int) (x : ByteArray) (b5 : 5 ≤ B) (hN : B + (2 + x.size) ≤ N) (i : Nat) (hi : i < N) :
    wat ((((List.replicate N 0).set 0 0).set 1 F).take B ++ fobj x ++ (((List.replicate N 0).set 0 0).set 1 F).drop (B + (fobj x).length)) i = stf F B x i := by
  have hl := fobj_len x
  unfold wat stf
  rw [List.getD_eq_getElem?_getD]
  by_cases h1 : i < B
  · rw [List.append_assoc, List.getElem?_append_left (by simp; omega), List.getElem?_take_of_lt h1, List.getElem?_set]
    by_cases e1 : i = 1
    · subst e1; simp [hi]
    · rw [if_neg (by omega), if_neg e1, if_neg (by omega), List.getElem?_set]
      split
      · simp; split <;> rfl
      · simp [List.getElem?_replicate]; split <;> rfl
  · have hlen : ((((List.replicate N (0 : Int)).set 0 0).set 1 F).take B).length = B := by simp; omega
    rw [if_neg (by omega), if_pos (by omega)]
    rw [List.append_assoc, List.getElem?_append_right (by rw [hlen]; omega), hlen, List.getD_eq_getElem?_getD]
    by_cases h2 : i - B < (fobj x).length
    · rw [List.getElem?_append_left h2]
    · rw [List.getElem?_append_right (by omega), List.getElem?_drop, List.getElem?_eq_none (l := fobj x) (by omega), List.getElem?_set, if_neg (by omega), List.getElem?_set, if_neg (by omega), List.getElem?_replicate]
      split <;> rfl
theorem st_copy {w W : World} {P G g : Nat} {O : Obj} {zs : List Int} {x : ByteArray} (ty : TypeId) (B N cap : Nat) (h : StW w P G g O zs x W) (hl : zs.length = N) (hB : B + (2 + x.size) ≤ N) :
    (Builtin.copy_ #[25, 25] ty #[.slice (some ⟨G, B, none⟩) (N - B) (N - B), .slice (some ⟨g, 0, none⟩) (2 + x.size) cap]).run Tryz.prog W = .ok (goInt (2 + x.size)) (W.setRow G (wds (zs.take B ++ fobj x ++ zs.drop (B + (fobj x).length)))) := by
  have hfl := fobj_len x
  have := run_copy_row Tryz.prog W 25 25 ty 39 G B (N - B) (N - B) ⟨g, 0, none⟩ (2 + x.size) cap (wds zs) 39 (wds (fobj x)).toList Tryz.underlying25 (by kernel_rfl) h.row
    (by rw [show (wds (fobj x)).toList.length = 2 + x.size by simp [wds, hfl]]; exact (Nat.min_eq_left (by omega)).symm) (Ws.list (off := 0) (fun i hi => by rw [Nat.zero_add]; exact h.obj i (by omega))) (by simp [wds, hfl, hl]; omega) (wds_one _)
  rw [this]
  have e0 : ((wds zs).toList.take B ++ (wds (fobj x)).toList ++ (wds zs).toList.drop (B + (wds (fobj x)).toList.length)).toArray = wds (zs.take B ++ fobj x ++ zs.drop (B + (fobj x).length)) := by
    simp [wds]
  rw [e0]
  simp [wds, hfl]
end Go.Proofs.YtldfmlkjeniemaaGreatDoor
