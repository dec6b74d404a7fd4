/- The document's way to read a number (lapidaryref01), beside the program's: plain functions of lists of bytes. -/
import Derived.Test.YtfnnckbdaedlbaaDoorWdOfOn
namespace Go.Wd
theorem val_lt (l : List UInt8) (h : dgs l = true) : val l < 10 ^ l.length := by
  have key : ∀ (l : List UInt8) (n : Nat), dgs l = true → l.foldl (fun n c => n * 10 + (c.toNat - 48)) n < (n + 1) * 10 ^ l.length := by
    intro l
    induction l with
    | nil => intro n _; simp
    | cons c r ih =>
      intro n h
      simp only [dgs, List.all_cons, Bool.and_eq_true, decide_eq_true_eq] at h
      have := ih (n * 10 + (c.toNat - 48)) (by simpa [dgs] using h.2)
      simp only [List.foldl_cons, List.length_cons]
      have h2 : n * 10 + (c.toNat - 48) + 1 ≤ (n + 1) * 10 := by omega
      calc _ < (n * 10 + (c.toNat - 48) + 1) * 10 ^ r.length := this
        _ ≤ ((n + 1) * 10) * 10 ^ r.length := Nat.mul_le_mul_right _ h2
        _ = (n + 1) * 10 ^ (r.length + 1) := by rw [Nat.pow_succ, Nat.mul_assoc, Nat.mul_comm 10]
  simpa [val] using key l 0 h
theorem fold_ge (l : List UInt8) : ∀ n : Nat, n * 10 ^ l.length ≤ l.foldl (fun n c => n * 10 + (c.toNat - 48)) n := by
  induction l with
  | nil => intro n; simp
  | cons c r ih =>
    intro n
    have := ih (n * 10 + (c.toNat - 48))
    simp only [List.foldl_cons, List.length_cons]
    refine Nat.le_trans ?_ this
    rw [Nat.pow_succ, Nat.mul_comm (10 ^ r.length) 10, ← Nat.mul_assoc]
    exact Nat.mul_le_mul_right _ (by omega)
theorem val_ge (c : UInt8) (l : List UInt8) (h : 49 ≤ c.toNat) : 10 ^ l.length ≤ val (c :: l) := by
  have := fold_ge l (0 * 10 + (c.toNat - 48))
  simp only [val, List.foldl_cons]
  refine Nat.le_trans ?_ this
  have : 1 * 10 ^ l.length ≤ (0 * 10 + (c.toNat - 48)) * 10 ^ l.length := Nat.mul_le_mul_right _ (by omega)
  simpa using this
/-- Is it refused as no number: nothing there, noughts ahead, no digits? -/
def nmBad (less : Bool) (d : List UInt8) : Bool := d.isEmpty || (d.head? == some 48 && (less || decide (1 < d.length))) || !dgs d
/-- The document's number of digits d, with '-' ahead or not: the number, the error's. -/
def nmD (less : Bool) (d : List UInt8) : Int × Int :=
  if nmBad less d = true then (0, 2) else if 18 < d.length then (0, 4) else (if less = true then -(val d : Int) else val d, 0)
def nm (l : List UInt8) : Int × Int := if l.head? = some 45 then nmD true l.tail else nmD false l
/-- The word of a told number, or the error. -/
def mkN (k : Int) (s : Bool) (p : Int × Int) : Int × Int := if p.2 ≠ 0 then (0, p.2) else (mkW k s p.1, mkE k s p.1)
theorem cap_eq (n : Nat) (h : (n : Int) ≤ 576460752303423489) : cap n = n := by unfold cap; rw [if_pos h]
theorem cap_big (n : Nat) (h : 576460752303423489 ≤ (n : Int)) : cap n = 576460752303423489 := by
  unfold cap; split <;> omega
theorem mk_cap2 (s : Bool) (n : Nat) : mkW 2 s (cap n) = mkW 2 s n ∧ mkE 2 s (cap n) = mkE 2 s n := by
  by_cases h : (n : Int) ≤ 576460752303423489
  · rw [cap_eq n h]; exact ⟨rfl, rfl⟩
  · rw [cap_big n (by omega)]
    have a := mk_range2 s 576460752303423489 (by omega)
    have b := mk_range2 s n (by omega)
    rw [a.1, a.2, b.1, b.2]; exact ⟨rfl, rfl⟩
theorem mk_cap3 (s : Bool) (n : Nat) : mkW 3 s (cap n) = mkW 3 s n ∧ mkE 3 s (cap n) = mkE 3 s n := by
  by_cases h : (n : Int) ≤ 576460752303423489
  · rw [cap_eq n h]; exact ⟨rfl, rfl⟩
  · rw [cap_big n (by omega)]
    have a := mk_range3 s 576460752303423489 (by omega)
    have b := mk_range3 s n (by omega)
    rw [a.1, a.2, b.1, b.2]; exact ⟨rfl, rfl⟩
theorem mk_cap3n (s : Bool) (n : Nat) : mkW 3 s (-(cap n)) = mkW 3 s (-(n : Int)) ∧ mkE 3 s (-(cap n)) = mkE 3 s (-(n : Int)) := by
  by_cases h : (n : Int) ≤ 576460752303423489
  · rw [cap_eq n h]; exact ⟨rfl, rfl⟩
  · rw [cap_big n (by omega)]
    have a := mk_range3 s (-576460752303423489) (by omega)
    have b := mk_range3 s (-(n : Int)) (by omega)
    rw [a.1, a.2, b.1, b.2]; exact ⟨rfl, rfl⟩
theorem nm_isNum (d : List UInt8) : nmBad false d = !isNum d := by
  unfold nmBad isNum
  cases d with
  | nil => rfl
  | cons c r =>
    by_cases hc : c = 48
    · subst hc
      cases r with
      | nil => rfl
      | cons a t => simp
    · have hcb : (c == 48) = false := by simpa using hc
      simp [hcb]
theorem nm_isNum_less (d : List UInt8) : nmBad true d = !(isNum d && !(d == [48])) := by
  unfold nmBad isNum
  cases d with
  | nil => rfl
  | cons c r =>
    by_cases hc : c = 48
    · subst hc
      cases r with
      | nil => rfl
      | cons a t => simp
    · have hcb : (c == 48) = false := by simpa using hc
      simp [hcb]
theorem big_val (d : List UInt8) (less : Bool) (h : nmBad less d = false) (hl : 18 < d.length) : 1000000000000000000 ≤ val d := by
  cases d with
  | nil => simp at hl
  | cons c r =>
    unfold nmBad at h
    simp only [Bool.or_eq_false_iff, Bool.and_eq_false_iff, List.isEmpty_cons, List.head?_cons, Bool.not_eq_false', decide_eq_false_iff_not] at h
    obtain ⟨⟨_, h2⟩, h3⟩ := h
    have hlen : 1 < (c :: r).length := by omega
    have hc : ¬ c = 48 := by
      rcases h2 with h2 | h2
      · intro e; subst e; simp at h2
      · exact absurd hlen h2.2
    simp only [dgs, List.all_cons, Bool.and_eq_true, decide_eq_true_eq] at h3
    have hc2 : ¬ c.toNat = 48 := fun e => hc (UInt8.toNat_inj.1 e)
    have := val_ge c r (by omega)
    refine Nat.le_trans ?_ this
    have : 18 ≤ r.length := by simp at hl; omega
    calc 1000000000000000000 = 10 ^ 18 := by decide
      _ ≤ 10 ^ r.length := Nat.pow_le_pow_right (by decide) this
/-- What the program reads behind '@', and what the document does. -/
theorem rd_ptr (s : Bool) (d : List UInt8) : (if isNum d = true then (mkW 2 s (dgV d), mkE 2 s (dgV d)) else (0, 2)) = mkN 2 s (nmD false d) := by
  unfold nmD mkN
  rw [nm_isNum]
  cases hn : isNum d
  · simp
  · simp only [if_true, Bool.not_true]
    rw [dgV_true hn, (mk_cap2 s _).1, (mk_cap2 s _).2]
    by_cases hl : 18 < d.length
    · have hb := big_val d false (by rw [nm_isNum, hn]; rfl) hl
      have := mk_range2 s (val d : Int) (by omega)
      simp [hl, this.1, this.2]
    · simp [hl]
theorem rd_num (s : Bool) (d : List UInt8) : (if isNum d = true then (mkW 3 s (dgV d), mkE 3 s (dgV d)) else (0, 2)) = mkN 3 s (nmD false d) := by
  unfold nmD mkN
  rw [nm_isNum]
  cases hn : isNum d
  · simp
  · simp only [if_true, Bool.not_true]
    rw [dgV_true hn, (mk_cap3 s _).1, (mk_cap3 s _).2]
    by_cases hl : 18 < d.length
    · have hb := big_val d false (by rw [nm_isNum, hn]; rfl) hl
      have := mk_range3 s (val d : Int) (by omega)
      simp [hl, this.1, this.2]
    · simp [hl]
theorem val_pos (d : List UInt8) (h : isNum d = true) (hz : (d == [48]) = false) : 0 < val d := by
  cases d with
  | nil => simp [isNum] at h
  | cons c r =>
    unfold isNum at h
    rw [hz] at h
    simp only [List.isEmpty_cons, Bool.not_false, Bool.true_and, List.head?_cons, Bool.or_false, Bool.and_eq_true, Bool.not_eq_true', dgs, List.all_cons, decide_eq_true_eq] at h
    have hc : ¬ c = 48 := by intro e; subst e; simp at h
    have hc2 : ¬ c.toNat = 48 := fun e => hc (UInt8.toNat_inj.1 e)
    have h3 := val_ge c r (by omega)
    have : 0 < 10 ^ r.length := Nat.pow_pos (by decide)
    omega
theorem rd_neg (s : Bool) (d : List UInt8) : (if isNum d = true ∧ dgV d ≠ 0 then (mkW 3 s (-(dgV d)), mkE 3 s (-(dgV d))) else (0, 2)) = mkN 3 s (nmD true d) := by
  unfold nmD mkN
  rw [nm_isNum_less]
  cases hn : isNum d
  · simp
  · cases hz : (d == [48])
    · have hp := val_pos d hn hz
      have hcp : cap (val d) ≠ 0 := by unfold cap; split <;> omega
      rw [dgV_true hn, if_pos ⟨rfl, hcp⟩, (mk_cap3n s _).1, (mk_cap3n s _).2]
      by_cases hl : 18 < d.length
      · have hb := big_val d true (by rw [nm_isNum_less, hn, hz]; rfl) hl
        have := mk_range3 s (-(val d : Int)) (by omega)
        simp [hl, this.1, this.2]
      · simp [hl]
    · have hd : d = [48] := eq_of_beq hz
      subst hd
      rw [if_neg (fun h => h.2 (by decide))]
      rfl
/-- The document's word of a text behind its seal's sign. -/
def rrB (s : Bool) (b : List UInt8) : Int × Int :=
  if (b == [110, 117, 108, 108]) = true then (mkW 1 s 0, mkE 1 s 0)
  else if (b == [101, 109, 112, 116, 121]) = true then (mkW 4 s 0, mkE 4 s 0)
  else if b.head? = some 64 then (if b.tail.head? = some 45 then (0, 2) else mkN 2 s (nm b.tail))
  else mkN 3 s (nm b)
theorem rr_eq (s : Bool) (b : List UInt8) : rdB s b = rrB s b := by
  unfold rdB rrB
  split
  · rfl
  · split
    · rfl
    · split
      · rw [rd_ptr]
        split
        · rename_i h
          unfold nmD mkN
          rw [nm_isNum]
          have : isNum b.tail = false := by
            cases hb : b.tail with
            | nil => rfl
            | cons c r =>
              rw [hb] at h
              simp at h
              subst h
              rfl
          rw [this]; rfl
        · rename_i h
          unfold nm
          rw [if_neg h]
      · unfold nm
        split
        · rw [rd_neg]
        · rw [rd_num]
end Go.Wd
