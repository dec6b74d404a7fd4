/- package op, plain: kinds and what they name; operations as rows of numbers; numbers in texts; texts and reading. -/
import Derived.Test.YtlkhmfmocegekaaDoorWdRtOn
import Derived.Test.YtlkhmfmocegekaaDoorShSplit
import Derived.Lib.ParseIntBCases
import Derived.Lib.ItoaMem
namespace Go.Oq
open Go.Lib Go.Proofs.YtlkhmfmocegekaaDoor Go.Sh
/-! ### Numbers in texts -/
/-- A text is a number's, of 64 bits. -/
def isN (l : List UInt8) (v : Int) : Prop := itoa v = l ∧ -9223372036854775808 ≤ v ∧ v ≤ 9223372036854775807
/-- The number whose text it is. -/
def whl (l : List UInt8) : Option Int :=
  match parseIntB 64 l with
  | .ok v => if itoa v = l then some v else none
  | _ => none
theorem pow64 : (2 : Nat) ^ 64 - 1 = 18446744073709551615 := by decide
theorem pow63 : (2 : Nat) ^ (64 - 1) = 9223372036854775808 := by decide
theorem fold_le {acc : Nat} {l : List UInt8} : acc ≤ l.foldl (fun n c => n * 10 + (c.toNat - 48)) acc := by
  have h := Wd.fold_ge l acc
  have : 1 ≤ 10 ^ l.length := Nat.one_le_pow _ _ (by decide)
  exact Nat.le_trans (by have := Nat.mul_le_mul_left acc this; omega) h
theorem parse_fold : ∀ (l : List UInt8) (acc : Nat), Wd.dgs l = true → l.foldl (fun n c => n * 10 + (c.toNat - 48)) acc ≤ 18446744073709551615 →
    parseUintM 18446744073709551615 acc l = .ok (l.foldl (fun n c => n * 10 + (c.toNat - 48)) acc)
  | [], acc, _, _ => rfl
  | c :: r, acc, hd, hm => by
    simp only [Wd.dgs, List.all_cons, Bool.and_eq_true, decide_eq_true_eq] at hd
    rw [List.foldl_cons] at hm ⊢
    have h1 := fold_le (acc := acc * 10 + (c.toNat - 48)) (l := r)
    rw [parseUintM, if_pos hd.1, if_neg (by omega), if_neg (by omega)]
    exact parse_fold r _ (by simpa [Wd.dgs] using hd.2) hm
theorem parse_dec (u : Nat) (h : u ≤ 18446744073709551615) : parseUintB 64 (decDigits u) = .ok u := by
  obtain ⟨c, r, e, _⟩ := dec_head u
  have hv := dec_val u
  unfold Wd.val at hv
  unfold parseUintB
  rw [if_neg (by rw [e]; simp), pow64, parse_fold _ 0 (dec_dgs u) (by rw [hv]; exact h), hv]
theorem dec_first (u : Nat) : ∃ c r, decDigits u = c :: r ∧ c.toNat ≠ 43 ∧ c.toNat ≠ 45 := by
  obtain ⟨c, r, e, h1, _⟩ := dec_head u
  exact ⟨c, r, e, by omega, by omega⟩
theorem parse_itoa {v : Int} (h0 : -9223372036854775808 ≤ v) (h1 : v ≤ 9223372036854775807) : parseIntB 64 (itoa v) = .ok v := by
  unfold itoa
  by_cases hv : v < 0
  · rw [if_pos hv, parseIntB_minus, parse_dec _ (by omega), signedC, pow63, if_neg (by omega)]
    congr 1; omega
  · obtain ⟨c, r, e, a, b⟩ := dec_first v.toNat
    rw [if_neg hv, e, parseIntB_plain _ _ _ a b, ← e, parse_dec _ (by omega), signlessC, pow63, if_neg (by omega)]
    congr 1; omega
theorem parse_bd {l : List UInt8} {v : Int} (h : parseIntB 64 l = .ok v) : -9223372036854775808 ≤ v ∧ v ≤ 9223372036854775807 := by
  cases l with
  | nil => simp [parseIntB] at h
  | cons c r =>
    by_cases h43 : c.toNat = 43
    · obtain rfl : c = 43 := UInt8.toNat_inj.1 h43
      rw [parseIntB_plus, pow63] at h
      cases hp : parseUintB 64 r <;> rw [hp] at h <;> simp only [signlessC] at h <;> first | cases h | skip
      split at h <;> cases h
      omega
    · by_cases h45 : c.toNat = 45
      · obtain rfl : c = 45 := UInt8.toNat_inj.1 h45
        rw [parseIntB_minus, pow63] at h
        cases hp : parseUintB 64 r <;> rw [hp] at h <;> simp only [signedC] at h <;> first | cases h | skip
        split at h <;> cases h
        omega
      · rw [parseIntB_plain _ _ _ h43 h45, pow63] at h
        cases hp : parseUintB 64 (c :: r) <;> rw [hp] at h <;> simp only [signlessC] at h <;> first | cases h | skip
        split at h <;> cases h
        omega
theorem whl_of {l : List UInt8} {v : Int} (h : isN l v) : whl l = some v := by
  obtain ⟨rfl, h0, h1⟩ := h
  unfold whl
  rw [parse_itoa h0 h1]
  simp
theorem whl_some {l : List UInt8} {v : Int} (h : whl l = some v) : isN l v := by
  unfold whl at h
  split at h
  · next u hu =>
    split at h
    · next hi =>
      cases h
      exact ⟨hi, (parse_bd hu).1, (parse_bd hu).2⟩
    · cases h
  · cases h
theorem whl_none {l : List UInt8} (h : ∀ v, ¬ isN l v) : whl l = none := by
  cases hw : whl l with
  | none => rfl
  | some v => exact absurd (whl_some hw) (h v)
/-- Digits that a number's text has behind its sign. -/
def canB (less : Bool) (d : List UInt8) : Bool := Wd.isNum d && !(less && d == [48]) && decide ((Wd.val d : Int) ≤ if less then 9223372036854775808 else 9223372036854775807)
theorem dec_of_num : ∀ (n : Nat) (d : List UInt8), d.length = n → Wd.isNum d = true → decDigits (Wd.val d) = d := by
  intro n
  induction n with
  | zero =>
    intro d hl h
    rw [List.eq_nil_of_length_eq_zero hl] at h
    cases h
  | succ n ih =>
    intro d hl h
    rcases List.eq_nil_or_concat d with rfl | ⟨e, c, rfl⟩
    · cases h
    · rw [List.concat_eq_append] at *
      have hd : Wd.dgs (e ++ [c]) = true := by simp only [Wd.isNum, Bool.and_eq_true] at h; exact h.1.2
      rw [Wd.dgs_snoc] at hd
      simp only [Bool.and_eq_true, decide_eq_true_eq] at hd
      rw [Wd.val_snoc]
      have hc : UInt8.ofNat (48 + (c.toNat - 48)) = c := by
        apply UInt8.toNat_inj.1
        rw [UInt8.toNat_ofNat']; omega
      cases e with
      | nil =>
        have : Wd.val [] = 0 := rfl
        rw [this, decDigits_small _ (by omega), Nat.zero_mul, Nat.zero_add, hc]; rfl
      | cons a t =>
        have ha : ¬ a = 48 := by
          rintro rfl
          simp [Wd.isNum] at h
        have hi : Wd.isNum (a :: t) = true := by
          simp only [Wd.isNum, Bool.and_eq_true]
          refine ⟨⟨rfl, hd.1⟩, ?_⟩
          have : (some a == some (48 : UInt8)) = false := by simpa using ha
          simp [this]
        have hp := Wd.val_pos (a :: t) hi (by simp [ha])
        have hl' : (a :: t).length = n := by simp at hl ⊢; omega
        rw [decDigits_big _ (by omega)]
        rw [show (Wd.val (a :: t) * 10 + (c.toNat - 48)) / 10 = Wd.val (a :: t) by omega, show (Wd.val (a :: t) * 10 + (c.toNat - 48)) % 10 = c.toNat - 48 by omega, ih _ hl' hi, hc]
theorem itoa_nn (u : Nat) : itoa (u : Int) = decDigits u := by unfold itoa; rw [if_neg (by omega)]; simp
theorem whl_can {d : List UInt8} (h : canB false d = true) : whl d = some (Wd.val d : Int) := by
  simp only [canB, Bool.and_eq_true, decide_eq_true_eq] at h
  refine whl_of ⟨?_, by omega, by simpa using h.2⟩
  rw [itoa_nn, dec_of_num _ d rfl h.1.1]
theorem whl_can_less {d : List UInt8} (h : canB true d = true) : whl (45 :: d) = some (-(Wd.val d : Int)) := by
  simp only [canB, Bool.and_eq_true, decide_eq_true_eq, Bool.true_and, Bool.not_eq_true'] at h
  have hp := Wd.val_pos d h.1.1 h.1.2
  have h2 : (Wd.val d : Int) ≤ 9223372036854775808 := by simpa using h.2
  refine whl_of ⟨?_, by omega, by omega⟩
  unfold itoa
  rw [if_pos (by omega), show (-(Wd.val d : Int)).natAbs = Wd.val d by omega, dec_of_num _ d rfl h.1.1]
theorem whl_not {d : List UInt8} (h : canB false d = false) (h45 : ¬ d.head? = some 45) : whl d = none := by
  refine whl_none fun v hv => ?_
  obtain ⟨e, h0, h1⟩ := hv
  unfold itoa at e
  split at e
  · exact h45 (by rw [← e]; rfl)
  · rw [← e] at h
    simp [canB, dec_isNum, dec_val] at h
    omega
theorem whl_not_less {d : List UInt8} (h : canB true d = false) : whl (45 :: d) = none := by
  refine whl_none fun v hv => ?_
  obtain ⟨e, h0, h1⟩ := hv
  unfold itoa at e
  split at e
  · injection e with _ e
    rw [← e] at h
    have hne : ¬ decDigits v.natAbs = [48] := by
      intro e2
      have := dec_val v.natAbs
      rw [e2] at this
      have h3 : Wd.val [48] = 0 := rfl
      omega
    simp [canB, dec_isNum, dec_val, hne] at h
    omega
  · obtain ⟨c, r, e2, _, h45⟩ := dec_first v.toNat
    rw [e2] at e
    injection e with e _
    rw [e] at h45
    exact h45 rfl
theorem itoa_clear (v : Int) : ∀ c ∈ itoa v, c ≠ 32 := by
  have hd : ∀ u, ∀ c ∈ decDigits u, c ≠ 32 := by
    intro u c hc e
    subst e
    have := dec_dgs u
    simp only [Wd.dgs, List.all_eq_true] at this
    have := this 32 hc
    simp at this
  intro c hc
  unfold itoa at hc
  split at hc
  · rw [List.mem_cons] at hc
    rcases hc with rfl | hc
    · decide
    · exact hd _ c hc
  · exact hd _ c hc
/-! ### Kinds -/
/-- Where the numbers stand that a kind names: first these. -/
def nums : Nat → List Nat
  | 1 => [1, 5] | 2 => [1, 4, 2] | 3 => [1, 4, 2] | 4 => [1, 4, 2, 3] | 5 => [1, 4] | 6 => [1, 4] | 7 => [1, 4] | 8 => [1, 2] | 9 => [1, 2] | 10 => [1] | _ => []
/-- .. then these. -/
def scas : Nat → List Nat
  | 6 => [6] | 7 => [6, 7] | _ => []
def alln (K : Nat) : List Nat := nums K ++ scas K
/-- A kind's name. -/
def nam : Nat → ByteArray
  | 1 => ⟨#[97, 108, 108, 111, 99]⟩ | 2 => ⟨#[103, 101, 116]⟩ | 3 => ⟨#[112, 117, 116]⟩ | 4 => ⟨#[99, 97, 115]⟩ | 5 => ⟨#[103, 101, 116, 105]⟩ | 6 => ⟨#[112, 117, 116, 105]⟩
  | 7 => ⟨#[99, 97, 115, 105]⟩ | 8 => ⟨#[101, 113]⟩ | 9 => ⟨#[109, 111, 118, 101]⟩ | 10 => ⟨#[100, 114, 111, 112]⟩ | 11 => ⟨#[99, 111, 108, 108, 101, 99, 116]⟩ | _ => ⟨#[]⟩
/-- A kind's field: none, a pointer field, a scalar field. -/
def opn : Nat → Bool
  | 2 => true | 3 => true | 4 => true | 5 => true | 6 => true | 7 => true | _ => false
def fld : Nat → Int
  | 5 => 1 | 6 => 1 | 7 => 1 | _ => 0
theorem cases12 {K : Nat} (h : K < 12) : K = 0 ∨ K = 1 ∨ K = 2 ∨ K = 3 ∨ K = 4 ∨ K = 5 ∨ K = 6 ∨ K = 7 ∨ K = 8 ∨ K = 9 ∨ K = 10 ∨ K = 11 := by omega
theorem alln_lt (K : Nat) : ∀ j ∈ alln K, 1 ≤ j ∧ j < 8 := by
  unfold alln nums scas
  intro j hj
  split at hj <;> simp at hj <;> omega
theorem alln_nodup (K : Nat) : (alln K).Nodup := by
  unfold alln nums scas
  split <;> first | decide | (split <;> decide)
theorem alln_len (K : Nat) : (alln K).length ≤ 4 := by
  unfold alln nums scas
  split <;> first | decide | (split <;> decide)
theorem alln_zero {K : Nat} (h : 11 ≤ K) : alln K = [] := by
  unfold alln nums scas
  split <;> first | omega | (split <;> first | omega | rfl)
/-! ### Operations -/
def upd (f : Nat → Int) (j : Nat) (v : Int) : Nat → Int := fun i => if i = j then v else f i
theorem upd_same (f : Nat → Int) (j : Nat) (v : Int) : upd f j v j = v := if_pos rfl
theorem upd_other (f : Nat → Int) {j i : Nat} (v : Int) (h : i ≠ j) : upd f j v i = f i := if_neg h
/-- Nothing but the kind. -/
def bar (k : Int) : Nat → Int := fun i => if i = 0 then k else 0
/-- Some numbers of one operation laid into another. -/
def lay (f : Nat → Int) : List Nat → (Nat → Int) → (Nat → Int)
  | [], g => g
  | j :: js, g => lay f js (upd g j (f j))
theorem lay_append (f : Nat → Int) : ∀ (a b : List Nat) (g : Nat → Int), lay f (a ++ b) g = lay f b (lay f a g)
  | [], _, _ => rfl
  | _ :: a, b, _ => lay_append f a b _
theorem lay_snoc (f : Nat → Int) (a : List Nat) (j : Nat) (g : Nat → Int) : lay f (a ++ [j]) g = upd (lay f a g) j (f j) := by rw [lay_append]; rfl
theorem lay_at (f : Nat → Int) : ∀ (js : List Nat) (g : Nat → Int) (i : Nat), lay f js g i = if i ∈ js then f i else g i
  | [], g, i => by simp [lay]
  | j :: js, g, i => by
    rw [lay, lay_at f js]
    by_cases h : i ∈ js
    · simp [h]
    · by_cases hj : i = j
      · subst hj; simp [h, upd]
      · simp [h, hj, upd]
/-- What a kind names of an operation. -/
def only (f : Nat → Int) : Nat → Int := lay f (alln (f 0).toNat) (bar (f 0))
def kin (k : Int) : Bool := decide (1 ≤ k) && decide (k ≤ 11)
/-- Are two operations the same? -/
def sam (f g : Nat → Int) : Bool := f 0 == g 0 && f 1 == g 1 && f 2 == g 2 && f 3 == g 3 && f 4 == g 4 && f 5 == g 5 && f 6 == g 6 && f 7 == g 7
theorem sam_iff (f g : Nat → Int) : sam f g = true ↔ ∀ i, i < 8 → f i = g i := by
  simp only [sam, Bool.and_eq_true, beq_iff_eq]
  constructor
  · rintro ⟨⟨⟨⟨⟨⟨⟨a, b⟩, c⟩, d⟩, e⟩, x⟩, y⟩, z⟩ i hi
    have : i = 0 ∨ i = 1 ∨ i = 2 ∨ i = 3 ∨ i = 4 ∨ i = 5 ∨ i = 6 ∨ i = 7 := by omega
    rcases this with rfl | rfl | rfl | rfl | rfl | rfl | rfl | rfl <;> assumption
  · intro h
    exact ⟨⟨⟨⟨⟨⟨⟨h 0 (by omega), h 1 (by omega)⟩, h 2 (by omega)⟩, h 3 (by omega)⟩, h 4 (by omega)⟩, h 5 (by omega)⟩, h 6 (by omega)⟩, h 7 (by omega)⟩
/-- Its Kind is one, and what it does not name is 0. -/
def bare (f : Nat → Int) : Bool := kin (f 0) && sam (only f) f
/-! ### Texts -/
def dgB (v : Int) : ByteArray := bs (itoa v)
/-- An operation's words. -/
def wds (f : Nat → Int) : List ByteArray := nam (f 0).toNat :: (alln (f 0).toNat).map fun j => dgB (f j)
/-- An operation's text. -/
def txt (f : Nat → Int) : ByteArray := bs (jn ((wds f).map (·.data.toList)))
/-- The kind of a name: 0, if there is none. -/
def knd (n : ByteArray) : Nat :=
  if n = nam 1 then 1 else if n = nam 2 then 2 else if n = nam 3 then 3 else if n = nam 4 then 4 else if n = nam 5 then 5 else if n = nam 6 then 6
  else if n = nam 7 then 7 else if n = nam 8 then 8 else if n = nam 9 then 9 else if n = nam 10 then 10 else if n = nam 11 then 11 else 0
theorem knd_nam {K : Nat} (h1 : 1 ≤ K) (h2 : K ≤ 11) : knd (nam K) = K := by
  have : K = 1 ∨ K = 2 ∨ K = 3 ∨ K = 4 ∨ K = 5 ∨ K = 6 ∨ K = 7 ∨ K = 8 ∨ K = 9 ∨ K = 10 ∨ K = 11 := by omega
  rcases this with rfl | rfl | rfl | rfl | rfl | rfl | rfl | rfl | rfl | rfl | rfl <;> rfl
theorem nam_knd {n : ByteArray} (h : knd n ≠ 0) : nam (knd n) = n ∧ 1 ≤ knd n ∧ knd n ≤ 11 := by
  by_cases e1 : n = nam 1
  · subst e1; exact ⟨rfl, by decide, by decide⟩
  by_cases e2 : n = nam 2
  · subst e2; exact ⟨rfl, by decide, by decide⟩
  by_cases e3 : n = nam 3
  · subst e3; exact ⟨rfl, by decide, by decide⟩
  by_cases e4 : n = nam 4
  · subst e4; exact ⟨rfl, by decide, by decide⟩
  by_cases e5 : n = nam 5
  · subst e5; exact ⟨rfl, by decide, by decide⟩
  by_cases e6 : n = nam 6
  · subst e6; exact ⟨rfl, by decide, by decide⟩
  by_cases e7 : n = nam 7
  · subst e7; exact ⟨rfl, by decide, by decide⟩
  by_cases e8 : n = nam 8
  · subst e8; exact ⟨rfl, by decide, by decide⟩
  by_cases e9 : n = nam 9
  · subst e9; exact ⟨rfl, by decide, by decide⟩
  by_cases e10 : n = nam 10
  · subst e10; exact ⟨rfl, by decide, by decide⟩
  by_cases e11 : n = nam 11
  · subst e11; exact ⟨rfl, by decide, by decide⟩
  exact absurd (by simp [knd, e1, e2, e3, e4, e5, e6, e7, e8, e9, e10, e11]) h
/-- Words laid into an operation, as numbers; none, where one is no number. -/
def prs : List Nat → List ByteArray → (Nat → Int) → Option (Nat → Int)
  | [], _, g => some g
  | j :: js, ws, g => match whl (at' ws 0).data.toList with
    | some v => prs js ws.tail (upd g j v)
    | none => none
/-- The operation of words. -/
def rdW (ws : List ByteArray) : Option (Nat → Int) :=
  if knd (at' ws 0) = 0 then none
  else if ws.length ≠ 1 + (alln (knd (at' ws 0))).length then none
  else prs (alln (knd (at' ws 0))) ws.tail (bar (knd (at' ws 0)))
def rdS (s : ByteArray) : Option (Nat → Int) := rdW (spB s)
end Go.Oq
