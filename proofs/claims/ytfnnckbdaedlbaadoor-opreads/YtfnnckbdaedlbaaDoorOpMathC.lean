/- package op, plain: the document's way to a text's number, its letters of numbers. -/
import Derived.Test.YtfnnckbdaedlbaaDoorOpMathB
namespace Go.Oq
open Go.Lib Go.Proofs.YtfnnckbdaedlbaaDoor Go.Sh
theorem can_nil (less : Bool) {d : ByteArray} (h : d.size = 0) : canB less d.toList = false := by
  have : d.toList = [] := List.eq_nil_of_length_eq_zero (by rw [Wd.toL_length]; exact h)
  rw [this]; rfl
theorem val_app (a b : List UInt8) : Wd.val a ≤ Wd.val (a ++ b) := by
  unfold Wd.val
  rw [List.foldl_append]
  exact fold_le
theorem can_long (less : Bool) {d : List UInt8} (h : 19 < d.length) : canB less d = false := by
  cases hc : canB less d with
  | false => rfl
  | true =>
    exfalso
    simp only [canB, Bool.and_eq_true, decide_eq_true_eq] at hc
    obtain ⟨⟨hn, _⟩, hv⟩ := hc
    cases d with
    | nil => simp at h
    | cons c r =>
      have hr : 19 ≤ r.length := by simp at h; omega
      have hc48 : ¬ c = 48 := by
        rintro rfl
        simp only [Wd.isNum, Bool.and_eq_true] at hn
        have := hn.2
        simp at this
        rw [this] at hr
        simp at hr
      have hd : 48 ≤ c.toNat := by
        simp only [Wd.isNum, Bool.and_eq_true, Wd.dgs, List.all_cons, decide_eq_true_eq] at hn
        exact hn.1.2.1.1
      have h49 : 49 ≤ c.toNat := by
        have : ¬ c.toNat = 48 := fun e => hc48 (UInt8.toNat_inj.1 e)
        omega
      have hg := Wd.val_ge c r h49
      have hp : 10 ^ 19 ≤ 10 ^ r.length := Nat.pow_le_pow_right (by decide) hr
      have e19 : 10 ^ 19 = 10000000000000000000 := by decide
      have : (Wd.val (c :: r) : Int) ≤ 9223372036854775808 := by cases less <;> simp at hv <;> omega
      omega
theorem can_head (less : Bool) {d : ByteArray} (h0 : 0 < d.size) (h : d[0].toNat = 48) (hl : less = true ∨ 1 < d.size) : canB less d.toList = false := by
  have e := Wd.head0 d h0
  rw [show d[0] = 48 from UInt8.toNat_inj.1 h] at e
  have hlen := Wd.toL_length d
  cases hd : d.toList with
  | nil => rw [hd] at e; simp at e
  | cons c r =>
    rw [hd] at e hlen
    simp only [List.head?_cons, Option.some.injEq] at e
    subst e
    cases hr : r with
    | nil =>
      rw [hr] at hlen
      simp at hlen
      rcases hl with rfl | hl
      · simp [canB]
      · omega
    | cons x y => simp [canB, Wd.isNum]
theorem can_bad (less : Bool) {d : ByteArray} {k : Nat} (h : k < d.size) (hc : ¬ (48 ≤ d[k].toNat ∧ d[k].toNat ≤ 57)) : canB less d.toList = false := by
  unfold canB
  rw [Wd.isNum_of_dgs_false (Wd.dgs_false d k h hc)]
  rfl
theorem can_over (less : Bool) {d : ByteArray} {k : Nat} (hv : (9223372036854775808 : Int) < Wd.val (d.toList.take k)) : canB less d.toList = false := by
  have h := val_app (d.toList.take k) (d.toList.drop k)
  rw [List.take_append_drop] at h
  simp only [canB, Bool.and_eq_false_iff, decide_eq_false_iff_not]
  right
  split <;> omega
theorem can_yes {d : ByteArray} (less : Bool) (h0 : 0 < d.size) (hz : less = true ∨ 1 < d.size → ¬ d[0].toNat = 48) (hd : Wd.dgs d.toList = true)
    (hv : (Wd.val d.toList : Int) ≤ if less then 9223372036854775808 else 9223372036854775807) : canB less d.toList = true := by
  by_cases h48 : d[0].toNat = 48
  · have hl : ¬ (less = true ∨ 1 < d.size) := fun h => hz h h48
    have e := Wd.head0 d h0
    rw [show d[0] = 48 from UInt8.toNat_inj.1 h48] at e
    have hlen := Wd.toL_length d
    have hless : less = false := by cases less <;> simp_all
    subst hless
    have : d.toList = [48] := by
      cases hdd : d.toList with
      | nil => rw [hdd] at e; simp at e
      | cons c r =>
        rw [hdd] at e hlen
        simp at e hlen
        subst e
        have : r = [] := List.eq_nil_of_length_eq_zero (by simp at hl; omega)
        rw [this]
    rw [this]; decide
  · have hn := Wd.isNum_of d h0 h48 hd
    have hne : (d.toList == [48]) = false := by
      rw [beq_eq_false_iff_ne]
      intro e
      have h2 := Wd.head0 d h0
      rw [e] at h2
      simp at h2
      exact h48 (by rw [← h2]; rfl)
    simp only [canB, hn, hne, Bool.and_false, Bool.not_false, Bool.and_true, Bool.true_and, decide_eq_true_eq]
    exact hv
/-- The value that is told of digits, and whether there is one. -/
def wnB (o : Option Int) : Bool := o.isSome
def wnV (o : Option Int) : Int := o.getD 0
theorem wn_none {l : List UInt8} (h : whl l = none) : wnB (whl l) = false ∧ wnV (whl l) = 0 := by rw [h]; exact ⟨rfl, rfl⟩
theorem wn_some {l : List UInt8} {v : Int} (h : whl l = some v) : wnB (whl l) = true ∧ wnV (whl l) = v := by rw [h]; exact ⟨rfl, rfl⟩
/-! ### The document's letters -/
/-- The letter of a number's place. -/
def lett : Nat → UInt8
  | 1 => 65 | 2 => 66 | 3 => 67 | 4 => 102 | 5 => 115 | 6 => 88 | _ => 89
/-- What a kind names, in letters. -/
def lets (K : Nat) : ByteArray := bs ((alln K).map lett)
theorem lets_size (K : Nat) : (lets K).size = (alln K).length := by
  show ((alln K).map lett).length = _
  rw [List.length_map]
theorem lets_get (K i : Nat) (h : i < (alln K).length) : (lets K)[i]'(by rw [lets_size]; exact h) = lett ((alln K)[i]) := by
  show ((alln K).map lett).toArray[i]'(by simpa using h) = _
  rw [List.getElem_toArray, List.getElem_map]
end Go.Oq
