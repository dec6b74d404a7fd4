/- Package pack and the document's functions of layer 2, by what they answer: each contract once for the code, once for the document. -/
import Derived.Test.YtdchcmaceobpeaaDoorPkRefB
namespace Go.Pk
/-- A request's word, and the error. -/
def rq (x p : Int) : Int × Int := if rqOk x p = true then (8 * x + p, 0) else (0, 2)
/-- A word's request, and the error. -/
def orq (x : Int) : Int × Int × Int := if rqOk (x / 8) (x % 8) = true then (x / 8, x % 8, 0) else (0, 0, 2)
/-- A frontier's word, and the error. -/
def fw (s l h o : Int) : Int × Int := if frOk s l h o = true then (s + 2 * (l + 8192 * (h + 8192 * o)), 0) else (0, 2)
/-- A word's frontier, and the error. -/
def ofw (x : Int) : Int × Int × Int × Int × Int := if frOk (x % 2) (x / 2 % 8192) (x / 16384 % 8192) (x / 134217728) = true then (x % 2, x / 2 % 8192, x / 16384 % 8192, x / 134217728, 0) else (0, 0, 0, 0, 2)
def us (s l h o n : Int) : Int × Int := if frOk s l h o = true ∧ h ≤ n ∧ n ≤ 4096 then (l + n - h + o, 0) else (0, 2)
def ft (s l h o n : Int) : Bool := frOk s l h o && decide (1 ≤ n ∧ n ≤ h - l - o)
def tn (s l h o n : Int) : Int × Int × Int × Int × Int := if frOk s l h o = true then (if o ≤ n ∧ n ≤ 4096 then (1 - s, o, n, 0, 0) else (0, 0, 0, 0, 4)) else (0, 0, 0, 0, 2)
def cl (s l h o x n : Int) : Int × Int × Int × Int × Int × Int :=
  if frOk s l h o = true ∧ (x = 0 ∨ x = 1) ∧ 1 ≤ n then (if n ≤ h - l - o then (if x = s then (s, l + n, h, o, l, 0) else (s, l, h, o + n, o, 0)) else (0, 0, 0, 0, 0, 4)) else (0, 0, 0, 0, 0, 2)
theorem bool_cases (b : Bool) : b = true ∨ b = false := by cases b <;> simp
end Go.Pk
namespace Go.Proofs.YtdchcmaceobpeaaDoor
open Go.RowKit
theorem ret_qe {a b c a' b' c' : Int} (h : (a', b', c') = (a, b, c)) : Ending.returned (.tuple #[.agg #[.int .i64 a', .int .i64 b'], .int .i64 c']) = .returned (.tuple #[.agg #[.int .i64 a, .int .i64 b], .int .i64 c]) := by cases h; rfl
theorem ret_ue {a b a' b' : Int} (h : (a', b') = (a, b)) : Ending.returned (.tuple #[.int .u64 a', .int .i64 b']) = .returned (.tuple #[.int .u64 a, .int .i64 b]) := by cases h; rfl
theorem ret_ne {a b a' b' : Int} (h : (a', b') = (a, b)) : Ending.returned (.tuple #[.int .i64 a', .int .i64 b']) = .returned (.tuple #[.int .i64 a, .int .i64 b]) := by cases h; rfl
theorem ret_4e {a b c d e a' b' c' d' e' : Int} (h : (a', b', c', d', e') = (a, b, c, d, e)) : Ending.returned (.tuple #[.agg #[.int .i64 a', .int .i64 b', .int .i64 c', .int .i64 d'], .int .i64 e']) = .returned (.tuple #[.agg #[.int .i64 a, .int .i64 b, .int .i64 c, .int .i64 d], .int .i64 e]) := by cases h; rfl
theorem ret_5e {a b c d t e a' b' c' d' t' e' : Int} (h : (a', b', c', d', t', e') = (a, b, c, d, t, e)) : Ending.returned (.tuple #[.agg #[.int .i64 a', .int .i64 b', .int .i64 c', .int .i64 d'], .int .i64 t', .int .i64 e']) = .returned (.tuple #[.agg #[.int .i64 a, .int .i64 b, .int .i64 c, .int .i64 d], .int .i64 t, .int .i64 e]) := by cases h; rfl
theorem request_at (x p : Int) (a b : Int) (w : World) (H : Hid (Pk.rq x p = (a, b))) :
    Calls Tryd.prog 10 #[.agg #[.int .i64 x, .int .i64 p]] w fun e w' => e = .returned (.tuple #[.int .u64 a, .int .i64 b]) ∧ Below w.heap.size w w' := by
  have H := H.out
  unfold Pk.rq at H
  rcases Pk.bool_cases (Pk.rqOk x p) with hk | hk
  · rw [if_pos hk] at H
    exact (request_yes x p w hk).mono fun _ _ e => ⟨e.1.trans (ret_ue H), e.2⟩
  · rw [if_neg (by simp [hk])] at H
    exact (request_no x p w hk).mono fun _ _ e => ⟨e.1.trans (ret_ue H), e.2⟩
theorem ofRequest_at (x : Int) (a b c : Int) (w : World) (x0 : 0 ≤ x) (x1 : x ≤ 18446744073709551615) (H : Hid (Pk.orq x = (a, b, c))) :
    Calls Tryd.prog 13 #[.int .u64 x] w fun e w' => e = .returned (.tuple #[.agg #[.int .i64 a, .int .i64 b], .int .i64 c]) ∧ Below w.heap.size w w' := by
  have H := H.out
  unfold Pk.orq at H
  rcases Pk.bool_cases (Pk.rqOk (x / 8) (x % 8)) with hk | hk
  · rw [if_pos hk] at H
    exact (ofRequest_yes x w x0 x1 hk).mono fun _ _ e => ⟨e.1.trans (ret_qe H), e.2⟩
  · rw [if_neg (by simp [hk])] at H
    exact (ofRequest_no x w x0 x1 hk).mono fun _ _ e => ⟨e.1.trans (ret_qe H), e.2⟩
theorem front_at (s l h o : Int) (a b : Int) (w : World) (H : Hid (Pk.fw s l h o = (a, b))) :
    Calls Tryd.prog 15 #[.agg #[.int .i64 s, .int .i64 l, .int .i64 h, .int .i64 o]] w fun e w' => e = .returned (.tuple #[.int .u64 a, .int .i64 b]) ∧ Below w.heap.size w w' := by
  have H := H.out
  unfold Pk.fw at H
  rcases Pk.bool_cases (Pk.frOk s l h o) with hk | hk
  · rw [if_pos hk] at H
    exact (front_yes s l h o w hk).mono fun _ _ e => ⟨e.1.trans (ret_ue H), e.2⟩
  · rw [if_neg (by simp [hk])] at H
    exact (front_no s l h o w hk).mono fun _ _ e => ⟨e.1.trans (ret_ue H), e.2⟩
theorem ofFront_at (x : Int) (a b c d r : Int) (w : World) (x0 : 0 ≤ x) (x1 : x ≤ 18446744073709551615) (H : Hid (Pk.ofw x = (a, b, c, d, r))) :
    Calls Tryd.prog 17 #[.int .u64 x] w fun e w' => e = .returned (.tuple #[.agg #[.int .i64 a, .int .i64 b, .int .i64 c, .int .i64 d], .int .i64 r]) ∧ Below w.heap.size w w' := by
  have H := H.out
  unfold Pk.ofw at H
  rcases Pk.bool_cases (Pk.frOk (x % 2) (x / 2 % 8192) (x / 16384 % 8192) (x / 134217728)) with hk | hk
  · rw [if_pos hk] at H
    exact (ofFront_yes x w x0 x1 hk).mono fun _ _ e => ⟨e.1.trans (ret_4e H), e.2⟩
  · rw [if_neg (by simp [hk])] at H
    exact (ofFront_no x w x0 x1 hk).mono fun _ _ e => ⟨e.1.trans (ret_4e H), e.2⟩
theorem used_at (s l h o n : Int) (a b : Int) (w : World) (H : Hid (Pk.us s l h o n = (a, b))) :
    Calls Tryd.prog 21 #[.agg #[.int .i64 s, .int .i64 l, .int .i64 h, .int .i64 o], .int .i64 n] w fun e w' => e = .returned (.tuple #[.int .i64 a, .int .i64 b]) ∧ Below w.heap.size w w' := by
  have H := H.out
  unfold Pk.us at H
  rcases Pk.bool_cases (Pk.frOk s l h o) with hk | hk
  · by_cases hn : h ≤ n ∧ n ≤ 4096
    · rw [if_pos ⟨hk, hn⟩] at H
      exact (used_yes s l h o n w hk hn).mono fun _ _ e => ⟨e.1.trans (ret_ne H), e.2⟩
    · rw [if_neg (fun h => hn h.2)] at H
      exact (used_size s l h o n w hk hn).mono fun _ _ e => ⟨e.1.trans (ret_ne H), e.2⟩
  · rw [if_neg (by simp [hk])] at H
    exact (used_no s l h o n w hk).mono fun _ _ e => ⟨e.1.trans (ret_ne H), e.2⟩
theorem fits_at (s l h o n : Int) (b : Bool) (w : World) (H : Hid (Pk.ft s l h o n = b)) :
    Calls Tryd.prog 23 #[.agg #[.int .i64 s, .int .i64 l, .int .i64 h, .int .i64 o], .int .i64 n] w fun e w' => e = .returned (.bool b) ∧ Below w.heap.size w w' := by
  have H := H.out
  unfold Pk.ft at H
  rcases Pk.bool_cases (Pk.frOk s l h o) with hk | hk
  · rw [hk, Bool.true_and] at H
    exact (fits_yes s l h o n w hk).mono fun _ _ e => ⟨e.1.trans (ret_bool H), e.2⟩
  · rw [hk, Bool.false_and] at H
    exact (fits_no s l h o n w hk).mono fun _ _ e => ⟨e.1.trans (ret_bool H), e.2⟩
theorem turn_to (s l h o n : Int) (a b c d r : Int) (w : World) (H : Hid (Pk.tn s l h o n = (a, b, c, d, r))) :
    Calls Tryd.prog 25 #[.agg #[.int .i64 s, .int .i64 l, .int .i64 h, .int .i64 o], .int .i64 n] w fun e w' => e = .returned (.tuple #[.agg #[.int .i64 a, .int .i64 b, .int .i64 c, .int .i64 d], .int .i64 r]) ∧ Below w.heap.size w w' := by
  have H := H.out
  unfold Pk.tn at H
  rcases Pk.bool_cases (Pk.frOk s l h o) with hk | hk
  · rw [if_pos hk] at H
    by_cases hn : o ≤ n ∧ n ≤ 4096
    · rw [if_pos hn] at H
      exact (turn_yes s l h o n w hk hn).mono fun _ _ e => ⟨e.1.trans (ret_4e H), e.2⟩
    · rw [if_neg hn] at H
      exact (turn_range s l h o n w hk hn).mono fun _ _ e => ⟨e.1.trans (ret_4e H), e.2⟩
  · rw [if_neg (by simp [hk])] at H
    exact (turn_no s l h o n w hk).mono fun _ _ e => ⟨e.1.trans (ret_4e H), e.2⟩
theorem claim_at (s l h o x n : Int) (a b c d t r : Int) (w : World) (H : Hid (Pk.cl s l h o x n = (a, b, c, d, t, r))) :
    Calls Tryd.prog 19 #[.agg #[.int .i64 s, .int .i64 l, .int .i64 h, .int .i64 o], .int .i64 x, .int .i64 n] w fun e w' => e = .returned (.tuple #[.agg #[.int .i64 a, .int .i64 b, .int .i64 c, .int .i64 d], .int .i64 t, .int .i64 r]) ∧ Below w.heap.size w w' := by
  have H := H.out
  unfold Pk.cl at H
  rcases Pk.bool_cases (Pk.frOk s l h o) with hk | hk
  · by_cases hx : x = 0 ∨ x = 1
    · by_cases hn : n < 1
      · rw [if_neg (by omega)] at H
        exact (claim_small s l h o x n w hk hx hn).mono fun _ _ e => ⟨e.1.trans (ret_5e H), e.2⟩
      · rw [if_pos ⟨hk, hx, by omega⟩] at H
        by_cases hm : n ≤ h - l - o
        · rw [if_pos hm] at H
          by_cases hs : x = s
          · rw [if_pos hs] at H
            exact (claim_in s l h o x n w hk hx (by simpa using hs) (by omega) hm).mono fun _ _ e => ⟨e.1.trans (ret_5e H), e.2⟩
          · rw [if_neg hs] at H
            exact (claim_out s l h o x n w hk hx (by simpa using hs) (by omega) hm).mono fun _ _ e => ⟨e.1.trans (ret_5e H), e.2⟩
        · rw [if_neg hm] at H
          exact (claim_range s l h o x n w hk hx (by omega) (by omega)).mono fun _ _ e => ⟨e.1.trans (ret_5e H), e.2⟩
    · rw [if_neg (by omega)] at H
      exact (claim_space s l h o x n w hk hx).mono fun _ _ e => ⟨e.1.trans (ret_5e H), e.2⟩
  · rw [if_neg (by simp [hk])] at H
    exact (claim_no s l h o x n w hk).mono fun _ _ e => ⟨e.1.trans (ret_5e H), e.2⟩
theorem rrequest_at (x p : Int) (a b : Int) (w : World) (H : Hid (Pk.rq x p = (a, b))) :
    Calls Tryd.prog 11 #[.agg #[.int .i64 x, .int .i64 p]] w fun e w' => e = .returned (.tuple #[.int .u64 a, .int .i64 b]) ∧ Below w.heap.size w w' := by
  have H := H.out
  unfold Pk.rq at H
  rcases Pk.bool_cases (Pk.rqOk x p) with hk | hk
  · rw [if_pos hk] at H
    exact (rrequest_yes x p w hk).mono fun _ _ e => ⟨e.1.trans (ret_ue H), e.2⟩
  · rw [if_neg (by simp [hk])] at H
    exact (rrequest_no x p w hk).mono fun _ _ e => ⟨e.1.trans (ret_ue H), e.2⟩
theorem rofRequest_at (x : Int) (a b c : Int) (w : World) (x0 : 0 ≤ x) (x1 : x ≤ 18446744073709551615) (H : Hid (Pk.orq x = (a, b, c))) :
    Calls Tryd.prog 14 #[.int .u64 x] w fun e w' => e = .returned (.tuple #[.agg #[.int .i64 a, .int .i64 b], .int .i64 c]) ∧ Below w.heap.size w w' := by
  have H := H.out
  unfold Pk.orq at H
  rcases Pk.bool_cases (Pk.rqOk (x / 8) (x % 8)) with hk | hk
  · rw [if_pos hk] at H
    exact (rofRequest_yes x w x0 x1 hk).mono fun _ _ e => ⟨e.1.trans (ret_qe H), e.2⟩
  · rw [if_neg (by simp [hk])] at H
    exact (rofRequest_no x w x0 x1 hk).mono fun _ _ e => ⟨e.1.trans (ret_qe H), e.2⟩
theorem rfront_at (s l h o : Int) (a b : Int) (w : World) (H : Hid (Pk.fw s l h o = (a, b))) :
    Calls Tryd.prog 16 #[.agg #[.int .i64 s, .int .i64 l, .int .i64 h, .int .i64 o]] w fun e w' => e = .returned (.tuple #[.int .u64 a, .int .i64 b]) ∧ Below w.heap.size w w' := by
  have H := H.out
  unfold Pk.fw at H
  rcases Pk.bool_cases (Pk.frOk s l h o) with hk | hk
  · rw [if_pos hk] at H
    exact (rfront_yes s l h o w hk).mono fun _ _ e => ⟨e.1.trans (ret_ue H), e.2⟩
  · rw [if_neg (by simp [hk])] at H
    exact (rfront_no s l h o w hk).mono fun _ _ e => ⟨e.1.trans (ret_ue H), e.2⟩
theorem rofFront_at (x : Int) (a b c d r : Int) (w : World) (x0 : 0 ≤ x) (x1 : x ≤ 18446744073709551615) (H : Hid (Pk.ofw x = (a, b, c, d, r))) :
    Calls Tryd.prog 18 #[.int .u64 x] w fun e w' => e = .returned (.tuple #[.agg #[.int .i64 a, .int .i64 b, .int .i64 c, .int .i64 d], .int .i64 r]) ∧ Below w.heap.size w w' := by
  have H := H.out
  unfold Pk.ofw at H
  rcases Pk.bool_cases (Pk.frOk (x % 2) (x / 2 % 8192) (x / 16384 % 8192) (x / 134217728)) with hk | hk
  · rw [if_pos hk] at H
    exact (rofFront_yes x w x0 x1 hk).mono fun _ _ e => ⟨e.1.trans (ret_4e H), e.2⟩
  · rw [if_neg (by simp [hk])] at H
    exact (rofFront_no x w x0 x1 hk).mono fun _ _ e => ⟨e.1.trans (ret_4e H), e.2⟩
theorem rused_at (s l h o n : Int) (a b : Int) (w : World) (H : Hid (Pk.us s l h o n = (a, b))) :
    Calls Tryd.prog 22 #[.agg #[.int .i64 s, .int .i64 l, .int .i64 h, .int .i64 o], .int .i64 n] w fun e w' => e = .returned (.tuple #[.int .i64 a, .int .i64 b]) ∧ Below w.heap.size w w' := by
  have H := H.out
  unfold Pk.us at H
  rcases Pk.bool_cases (Pk.frOk s l h o) with hk | hk
  · by_cases hn : h ≤ n ∧ n ≤ 4096
    · rw [if_pos ⟨hk, hn⟩] at H
      exact (rused_yes s l h o n w hk hn).mono fun _ _ e => ⟨e.1.trans (ret_ne H), e.2⟩
    · rw [if_neg (fun h => hn h.2)] at H
      by_cases h1 : n < h
      · exact (rused_lo s l h o n w hk h1).mono fun _ _ e => ⟨e.1.trans (ret_ne H), e.2⟩
      · exact (rused_hi s l h o n w hk (by omega) (by omega)).mono fun _ _ e => ⟨e.1.trans (ret_ne H), e.2⟩
  · rw [if_neg (by simp [hk])] at H
    exact (rused_no s l h o n w hk).mono fun _ _ e => ⟨e.1.trans (ret_ne H), e.2⟩
theorem rfits_at (s l h o n : Int) (b : Bool) (w : World) (H : Hid (Pk.ft s l h o n = b)) :
    Calls Tryd.prog 24 #[.agg #[.int .i64 s, .int .i64 l, .int .i64 h, .int .i64 o], .int .i64 n] w fun e w' => e = .returned (.bool b) ∧ Below w.heap.size w w' := by
  have H := H.out
  unfold Pk.ft at H
  rcases Pk.bool_cases (Pk.frOk s l h o) with hk | hk
  · rw [hk, Bool.true_and] at H
    exact (rfits_yes s l h o n w hk).mono fun _ _ e => ⟨e.1.trans (ret_bool H), e.2⟩
  · rw [hk, Bool.false_and] at H
    exact (rfits_no s l h o n w hk).mono fun _ _ e => ⟨e.1.trans (ret_bool H), e.2⟩
theorem rturn_to (s l h o n : Int) (a b c d r : Int) (w : World) (H : Hid (Pk.tn s l h o n = (a, b, c, d, r))) :
    Calls Tryd.prog 26 #[.agg #[.int .i64 s, .int .i64 l, .int .i64 h, .int .i64 o], .int .i64 n] w fun e w' => e = .returned (.tuple #[.agg #[.int .i64 a, .int .i64 b, .int .i64 c, .int .i64 d], .int .i64 r]) ∧ Below w.heap.size w w' := by
  have H := H.out
  unfold Pk.tn at H
  rcases Pk.bool_cases (Pk.frOk s l h o) with hk | hk
  · rw [if_pos hk] at H
    by_cases hn : o ≤ n ∧ n ≤ 4096
    · rw [if_pos hn] at H
      exact (rturn_yes s l h o n w hk hn).mono fun _ _ e => ⟨e.1.trans (ret_4e H), e.2⟩
    · rw [if_neg hn] at H
      by_cases h1 : n < o
      · exact (rturn_lo s l h o n w hk h1).mono fun _ _ e => ⟨e.1.trans (ret_4e H), e.2⟩
      · exact (rturn_hi s l h o n w hk (by omega) (by omega)).mono fun _ _ e => ⟨e.1.trans (ret_4e H), e.2⟩
  · rw [if_neg (by simp [hk])] at H
    exact (rturn_no s l h o n w hk).mono fun _ _ e => ⟨e.1.trans (ret_4e H), e.2⟩
theorem rclaim_at (s l h o x n : Int) (a b c d t r : Int) (w : World) (H : Hid (Pk.cl s l h o x n = (a, b, c, d, t, r))) :
    Calls Tryd.prog 20 #[.agg #[.int .i64 s, .int .i64 l, .int .i64 h, .int .i64 o], .int .i64 x, .int .i64 n] w fun e w' => e = .returned (.tuple #[.agg #[.int .i64 a, .int .i64 b, .int .i64 c, .int .i64 d], .int .i64 t, .int .i64 r]) ∧ Below w.heap.size w w' := by
  have H := H.out
  unfold Pk.cl at H
  rcases Pk.bool_cases (Pk.frOk s l h o) with hk | hk
  · by_cases hx : x = 0 ∨ x = 1
    · by_cases hn : n < 1
      · rw [if_neg (by omega)] at H
        rcases hx with hx | hx
        · exact (rclaim_small_a s l h o x n w hk (by simp [hx]) hn).mono fun _ _ e => ⟨e.1.trans (ret_5e H), e.2⟩
        · exact (rclaim_small_b s l h o x n w hk (by simp [hx]) (by simp [hx]) hn).mono fun _ _ e => ⟨e.1.trans (ret_5e H), e.2⟩
      · rw [if_pos ⟨hk, hx, by omega⟩] at H
        by_cases hm : n ≤ h - l - o
        · rw [if_pos hm] at H
          by_cases hs : x = s
          · rw [if_pos hs] at H
            rcases hx with hx | hx
            · exact (rclaim_in_a s l h o x n w hk (by simp [hx]) (by simpa using hs) (by omega) hm).mono fun _ _ e => ⟨e.1.trans (ret_5e H), e.2⟩
            · exact (rclaim_in_b s l h o x n w hk (by simp [hx]) (by simp [hx]) (by simpa using hs) (by omega) hm).mono fun _ _ e => ⟨e.1.trans (ret_5e H), e.2⟩
          · rw [if_neg hs] at H
            rcases hx with hx | hx
            · exact (rclaim_out_a s l h o x n w hk (by simp [hx]) (by simpa using hs) (by omega) hm).mono fun _ _ e => ⟨e.1.trans (ret_5e H), e.2⟩
            · exact (rclaim_out_b s l h o x n w hk (by simp [hx]) (by simp [hx]) (by simpa using hs) (by omega) hm).mono fun _ _ e => ⟨e.1.trans (ret_5e H), e.2⟩
        · rw [if_neg hm] at H
          rcases hx with hx | hx
          · exact (rclaim_range_a s l h o x n w hk (by simp [hx]) (by omega) (by omega)).mono fun _ _ e => ⟨e.1.trans (ret_5e H), e.2⟩
          · exact (rclaim_range_b s l h o x n w hk (by simp [hx]) (by simp [hx]) (by omega) (by omega)).mono fun _ _ e => ⟨e.1.trans (ret_5e H), e.2⟩
    · rw [if_neg (by omega)] at H
      exact (rclaim_space s l h o x n w hk (by simp; omega) (by simp; omega)).mono fun _ _ e => ⟨e.1.trans (ret_5e H), e.2⟩
  · rw [if_neg (by simp [hk])] at H
    exact (rclaim_no s l h o x n w hk).mono fun _ _ e => ⟨e.1.trans (ret_5e H), e.2⟩
end Go.Proofs.YtdchcmaceobpeaaDoor
