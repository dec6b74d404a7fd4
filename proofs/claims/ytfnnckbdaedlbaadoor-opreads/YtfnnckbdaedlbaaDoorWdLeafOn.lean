/- The leaves of package word: contracts of bits' methods and of the functions of kinds. -/
import Derived.Test.YtfnnckbdaedlbaaDoorProg
import Derived.Test.YtfnnckbdaedlbaaDoorWdMath
import Derived.Test.YtfnnckbdaedlbaaDoorBsKit
import Derived.WalkKit
import Derived.WalkLawsBesides
import Derived.WalkSpells
import Derived.BigQuiet
import Derived.Outline
import Derived.Deep.WholeRow
import Derived.Laws.EntriesVeiled
namespace Go.Proofs.YtfnnckbdaedlbaaDoor
open Go.RowKit
end Go.Proofs.YtfnnckbdaedlbaaDoor
/- Package word's tell: which kind a word is of, and what it holds. -/
namespace Go.Proofs.YtfnnckbdaedlbaaDoor
open Go.RowKit
theorem below_setRow {B : Nat} {a w : World} (h : Below B a w) {g : Nat} (hg : B ≤ g) (cs : Array Value) : Below B a (w.setRow g cs) :=
  h.trans ⟨rfl, rfl, rfl, by simp, fun k hk => setRow_other w g k cs (by omega)⟩
/-- No kind ahead of number k lays the plain word p. -/
def NoneTill (x p : Int) (k : Int) : Prop :=
  (2 ≤ k → ¬ p = 0) ∧ (3 ≤ k → ¬ (p % 8 = 0 ∧ p / 8 ≤ 16777215)) ∧ (4 ≤ k → ¬ (p % 8 = 4 ∧ p / 8 ≤ 1152921504606846975)) ∧ (5 ≤ k → ¬ (p = 2 ∧ x = p))
theorem bad_of (x p : Int) (h0 : 0 ≤ p) (hp1 : p ≤ x) (hp2 : x ≤ p + 1) (hp3 : p % 2 < 1) (h : NoneTill x p 5) : Wd.Is x 0 0 := by
  obtain ⟨a, b, c, d⟩ := h
  have a := a (by omega)
  have b := b (by omega)
  have c := c (by omega)
  have d := d (by omega)
  exact .inr (.inr (.inr (.inr ⟨rfl, rfl, by omega, by omega, by omega⟩)))
end Go.Proofs.YtfnnckbdaedlbaaDoor
/- What chapter 1's functions answer, as plain functions of numbers. -/
namespace Go.Wd
/-- Of: the kind, the seal, the value (P1.1). -/
def ofK (x : Int) : Int := if x ≤ 1 then 1 else if x = 2 then 4 else if x % 8 ≤ 1 ∧ x / 8 ≤ 16777215 then 2 else if 4 ≤ x % 8 ∧ x % 8 ≤ 5 ∧ x / 8 ≤ 1152921504606846975 then 3 else 0
def ofS (x : Int) : Bool := decide (ofK x ≠ 0) && decide (x % 2 = 1)
def ofV (x : Int) : Int := if ofK x = 2 then x / 8 else if ofK x = 3 then x / 8 - 576460752303423488 else 0
/-- Make: the word, the error's number (P1.1). -/
def mkE (k : Int) (s : Bool) (v : Int) : Int :=
  if k < 1 ∨ 4 < k ∨ ((k = 1 ∨ k = 4) ∧ v ≠ 0) ∨ (k = 4 ∧ s = true) then 2
  else if k = 2 ∧ (v < 1 ∨ 16777215 < v) then 4
  else if k = 3 ∧ (v < -576460752303423488 ∨ 576460752303423487 < v) then 4 else 0
def mkW (k : Int) (s : Bool) (v : Int) : Int :=
  if mkE k s v ≠ 0 then 0
  else (if k = 2 then 8 * v else if k = 3 then 8 * v + 4611686018427387908 else if k = 4 then 2 else 0) + (if s = true then 1 else 0)
theorem is_fun {x : Int} {k : Nat} {v : Int} (h0 : 0 ≤ x) (h : Is x k v) : ofK x = k ∧ ofV x = v ∧ ofS x = (decide (k ≠ 0) && decide (x % 2 = 1)) := by
  have hk : ofK x = k := by
    unfold ofK
    rcases h with ⟨rfl, rfl, h⟩ | ⟨rfl, h⟩ | ⟨rfl, h⟩ | ⟨rfl, rfl, h⟩ | ⟨rfl, rfl, h1, h2, h3⟩
    · rw [if_pos h]; rfl
    · rw [if_neg (by omega), if_neg (by omega), if_pos (by omega)]; rfl
    · rw [if_neg (by omega), if_neg (by omega), if_neg (by omega), if_pos (by omega)]; rfl
    · rw [if_neg (by omega), if_pos (by omega)]; rfl
    · rw [if_neg (by omega), if_neg (by omega), if_neg h2, if_neg h3]; rfl
  refine ⟨hk, ?_, ?_⟩
  · unfold ofV
    rw [hk]
    rcases h with ⟨rfl, rfl, h⟩ | ⟨rfl, h⟩ | ⟨rfl, h⟩ | ⟨rfl, rfl, h⟩ | ⟨rfl, rfl, h1, h2, h3⟩
    · rfl
    · rw [if_pos (by decide)]; omega
    · rw [if_neg (by decide), if_pos (by decide)]; omega
    · rfl
    · rfl
  · unfold ofS
    rw [hk]
    congr 1
    simp only [decide_eq_decide]; omega
/-- Make of Of is the word (P1.4). -/
theorem mk_of {x : Int} {k : Nat} {v : Int} (h0 : 0 ≤ x) (h : Is x k v) (hk : k ≠ 0) (s : Bool) (hs : s = decide (x % 2 = 1)) : mkE k s v = 0 ∧ mkW k s v = x := by
  subst hs
  have he : mkE k (decide (x % 2 = 1)) v = 0 := by
    unfold mkE
    rcases h with ⟨rfl, rfl, h⟩ | ⟨rfl, h⟩ | ⟨rfl, h⟩ | ⟨rfl, rfl, h⟩ | ⟨rfl, rfl, h1, h2, h3⟩
    · rw [if_neg (by simp), if_neg (by simp), if_neg (by simp)]
    · rw [if_neg (by simp), if_neg (by omega), if_neg (by simp)]
    · rw [if_neg (by simp), if_neg (by simp), if_neg (by omega)]
    · subst h; decide
    · exact absurd rfl hk
  refine ⟨he, ?_⟩
  unfold mkW
  rw [he, if_neg (by simp)]
  rcases h with ⟨rfl, rfl, h⟩ | ⟨rfl, h⟩ | ⟨rfl, h⟩ | ⟨rfl, rfl, h⟩ | ⟨rfl, rfl, h1, h2, h3⟩
  · simp; split <;> omega
  · simp; split <;> omega
  · simp; split <;> omega
  · subst h; decide
  · exact absurd rfl hk
theorem mk_bad (s : Bool) (v : Int) : mkE 0 s v = 2 ∧ mkW 0 s v = 0 := by
  have : mkE 0 s v = 2 := by unfold mkE; rw [if_pos (by simp)]
  exact ⟨this, by unfold mkW; rw [this, if_pos (by simp)]⟩
theorem mk_arg (k : Int) (s : Bool) (v : Int) (h : k < 1 ∨ 4 < k ∨ ((k = 1 ∨ k = 4) ∧ v ≠ 0) ∨ (k = 4 ∧ s = true)) : mkE k s v = 2 ∧ mkW k s v = 0 := by
  have : mkE k s v = 2 := by unfold mkE; rw [if_pos h]
  exact ⟨this, by unfold mkW; rw [this, if_pos (by decide)]⟩
theorem mk_range2 (s : Bool) (v : Int) (h : v < 1 ∨ 16777215 < v) : mkE 2 s v = 4 ∧ mkW 2 s v = 0 := by
  have : mkE 2 s v = 4 := by unfold mkE; rw [if_neg (by omega), if_pos ⟨rfl, h⟩]
  exact ⟨this, by unfold mkW; rw [this, if_pos (by decide)]⟩
theorem mk_range3 (s : Bool) (v : Int) (h : v < -576460752303423488 ∨ 576460752303423487 < v) : mkE 3 s v = 4 ∧ mkW 3 s v = 0 := by
  have : mkE 3 s v = 4 := by unfold mkE; rw [if_neg (by omega), if_neg (by omega), if_pos ⟨rfl, h⟩]
  exact ⟨this, by unfold mkW; rw [this, if_pos (by decide)]⟩
theorem mk_null (s : Bool) : mkE 1 s 0 = 0 ∧ mkW 1 s 0 = if s = true then 1 else 0 := by cases s <;> decide
theorem mk_empty : mkE 4 false 0 = 0 ∧ mkW 4 false 0 = 2 := by decide
theorem mk_ptr (s : Bool) (v : Int) (h0 : 1 ≤ v) (h1 : v ≤ 16777215) : mkE 2 s v = 0 ∧ mkW 2 s v = 8 * v + if s = true then 1 else 0 := by
  have : mkE 2 s v = 0 := by unfold mkE; rw [if_neg (by omega), if_neg (by omega), if_neg (by omega)]
  exact ⟨this, by unfold mkW; rw [this, if_neg (by decide), if_pos rfl]⟩
theorem mk_scalar (s : Bool) (v : Int) (h0 : -576460752303423488 ≤ v) (h1 : v ≤ 576460752303423487) : mkE 3 s v = 0 ∧ mkW 3 s v = 8 * v + 4611686018427387908 + if s = true then 1 else 0 := by
  have : mkE 3 s v = 0 := by unfold mkE; rw [if_neg (by omega), if_neg (by omega), if_neg (by omega)]
  exact ⟨this, by unfold mkW; rw [this, if_neg (by decide), if_neg (by decide), if_pos rfl]⟩
end Go.Wd
