/- Plain mathematics of words of 64 bits (chapter 1): no program in it. -/
import Derived.Laws.BitsAllLaws
import Derived.RowKit
import Derived.WalkSmall
import Derived.Test.YtlkhmfmocegekaaDoorProg
import Derived.Test.YtlkhmfmocegekaaDoorBsKit
import Derived.WalkKit
import Derived.WalkLawsBesides
import Derived.WalkSpells
import Derived.BigQuiet
import Derived.Outline
import Derived.Deep.WholeRow
import Derived.Laws.EntriesVeiled
import Derived.Deep.RegionHeld3
import Derived.BigRegion
namespace Go.Wd
theorem andNot_one (b : Int) (h0 : 0 ≤ b) (h1 : b ≤ 18446744073709551615) : bits .andNot .u64 b 1 = b - b % 2 := by
  obtain ⟨n, rfl⟩ := Int.eq_ofNat_of_zero_le h0
  have h : n < 2 ^ 64 := by omega
  have e := u64_andNot_nat n 1 (by omega) (by omega)
  have e2 : n &&& (18446744073709551615 - 1) = n - n % 2 := by
    have hx : (n &&& 1) = n % 2 := Nat.and_one_is_mod n
    apply Nat.eq_of_testBit_eq
    intro i
    rw [Nat.testBit_and]
    have h2 : n - n % 2 = 2 * (n / 2) := by omega
    rw [h2]
    cases i with
    | zero => simp
    | succ i =>
      by_cases hi : i + 1 < 64
      · have : (18446744073709551615 - 1 : Nat) = 2 * (2 ^ 63 - 1) := by decide
        rw [this, Nat.testBit_succ, Nat.testBit_succ, Nat.testBit_succ]
        simp only [Nat.mul_div_cancel_left _ (show 0 < 2 by decide), Nat.testBit_two_pow_sub_one]
        simp [show i < 63 by omega]
      · have h3 : n.testBit (i + 1) = false := Nat.testBit_lt_two_pow (Nat.lt_of_lt_of_le h (Nat.pow_le_pow_right (by decide) (by omega)))
        have h4 : (2 * (n / 2)).testBit (i + 1) = false := Nat.testBit_lt_two_pow (Nat.lt_of_lt_of_le (show 2 * (n / 2) < 2 ^ 64 by omega) (Nat.pow_le_pow_right (by decide) (by omega)))
        rw [h3, h4]; rfl
  have e3 : ((1 : Nat) : Int) = 1 := rfl
  rw [e3] at e
  rw [e, e2]; omega
theorem or_one (b : Int) (h0 : 0 ≤ b) (h1 : b ≤ 18446744073709551615) : bits .or .u64 b 1 = b - b % 2 + 1 := by
  obtain ⟨n, rfl⟩ := Int.eq_ofNat_of_zero_le h0
  have e := u64_or_nat n 1 (by omega) (by omega)
  have e2 : n ||| 1 = n - n % 2 + 1 := by
    have h2 : n = 2 * (n / 2) + n % 2 := by omega
    have h3 : n % 2 = 0 ∨ n % 2 = 1 := by omega
    have key : (2 * (n / 2) ||| 1) = 2 * (n / 2) + 1 := by
      have := Nat.two_pow_add_eq_or_of_lt (i := 1) (b := 1) (by decide) (n / 2)
      simpa using this.symm
    rcases h3 with h3 | h3
    · have h4 : n = 2 * (n / 2) := by omega
      rw [h3]; rw [← h4] at key; simpa using key
    · have h4 : n = 2 * (n / 2) + 1 := by omega
      have : n ||| 1 = n := by
        rw [h4, ← key, Nat.or_assoc]; simp
      omega
  have e3 : ((1 : Nat) : Int) = 1 := rfl
  rw [e3] at e
  rw [e, e2]; omega
theorem or_four (m : Int) (h0 : 0 ≤ m) (h1 : m ≤ 2305843009213693951) : bits .or .u64 (m * 8) 4 = m * 8 + 4 := by
  obtain ⟨n, rfl⟩ := Int.eq_ofNat_of_zero_le h0
  have e := u64_or_nat (n * 8) 4 (by omega) (by omega)
  have e2 : n * 8 ||| 4 = n * 8 + 4 := by
    have := Nat.two_pow_add_eq_or_of_lt (i := 3) (b := 4) (by decide) n
    rw [show n * 8 = 2 ^ 3 * n by omega]
    exact this.symm
  have e3 : ((4 : Nat) : Int) = 4 := rfl
  have e4 : ((n * 8 : Nat) : Int) = (n : Int) * 8 := by omega
  rw [e3, e4] at e
  rw [e, e2]; omega
/-- A word that is none: chapter 1's 'bad'. -/
def Bad (x : Int) : Prop := ¬ x ≤ 2 ∧ ¬ (x % 8 ≤ 1 ∧ x / 8 ≤ 16777215) ∧ ¬ (4 ≤ x % 8 ∧ x % 8 ≤ 5 ∧ x / 8 ≤ 1152921504606846975)
/-- The word x is of kind k and holds v. -/
def Is (x : Int) (k : Nat) (v : Int) : Prop :=
  (k = 1 ∧ v = 0 ∧ x ≤ 1) ∨ (k = 2 ∧ 1 ≤ v ∧ v ≤ 16777215 ∧ 8 * v ≤ x ∧ x ≤ 8 * v + 1) ∨
  (k = 3 ∧ -576460752303423488 ≤ v ∧ v ≤ 576460752303423487 ∧ 8 * v + 4611686018427387908 ≤ x ∧ x ≤ 8 * v + 4611686018427387909) ∨
  (k = 4 ∧ v = 0 ∧ x = 2) ∨ (k = 0 ∧ v = 0 ∧ Bad x)
end Go.Wd
/- The leaves of package word: contracts of bits' methods and of the functions of kinds. -/
namespace Go.Proofs.YtlkhmfmocegekaaDoor
open Go.RowKit
end Go.Proofs.YtlkhmfmocegekaaDoor
/- Package word's tell: which kind a word is of, and what it holds. -/
namespace Go.Proofs.YtlkhmfmocegekaaDoor
open Go.RowKit
theorem below_setRow {B : Nat} {a w : World} (h : Below B a w) {g : Nat} (hg : B ≤ g) (cs : Array Value) : Below B a (w.setRow g cs) :=
  h.trans ⟨rfl, rfl, rfl, by simp, fun k hk => setRow_other w g k cs (by omega)⟩
/-- No kind ahead of number k lays the plain word p. -/
def NoneTill (x p : Int) (k : Int) : Prop :=
  (2 ≤ k → ¬ p = 0) ∧ (3 ≤ k → ¬ (p % 8 = 0 ∧ p / 8 ≤ 16777215)) ∧ (4 ≤ k → ¬ (p % 8 = 4 ∧ p / 8 ≤ 1152921504606846975)) ∧ (5 ≤ k → ¬ (p = 2 ∧ x = p))
theorem bad_of (x p : Int) (h0 : 0 ≤ p) (hp1 : p ≤ x) (hp2 : x ≤ p + 1) (hp3 : p % 2 < 1) (h : NoneTill x p 5) : Wd.Is x 0 0 := by
  obtain ⟨a, b, c, d⟩ := h
  have a := a (by omega)
  have b := b (by omega)
  have c := c (by omega)
  have d := d (by omega)
  exact .inr (.inr (.inr (.inr ⟨rfl, rfl, by omega, by omega, by omega⟩)))
end Go.Proofs.YtlkhmfmocegekaaDoor
/- What chapter 1's functions answer, as plain functions of numbers. -/
namespace Go.Wd
/-- Of: the kind, the seal, the value (P1.1). -/
def ofK (x : Int) : Int := if x ≤ 1 then 1 else if x = 2 then 4 else if x % 8 ≤ 1 ∧ x / 8 ≤ 16777215 then 2 else if 4 ≤ x % 8 ∧ x % 8 ≤ 5 ∧ x / 8 ≤ 1152921504606846975 then 3 else 0
def ofS (x : Int) : Bool := decide (ofK x ≠ 0) && decide (x % 2 = 1)
def ofV (x : Int) : Int := if ofK x = 2 then x / 8 else if ofK x = 3 then x / 8 - 576460752303423488 else 0
/-- Make: the word, the error's number (P1.1). -/
def mkE (k : Int) (s : Bool) (v : Int) : Int :=
  if k < 1 ∨ 4 < k ∨ ((k = 1 ∨ k = 4) ∧ v ≠ 0) ∨ (k = 4 ∧ s = true) then 2
  else if k = 2 ∧ (v < 1 ∨ 16777215 < v) then 4
  else if k = 3 ∧ (v < -576460752303423488 ∨ 576460752303423487 < v) then 4 else 0
def mkW (k : Int) (s : Bool) (v : Int) : Int :=
  if mkE k s v ≠ 0 then 0
  else (if k = 2 then 8 * v else if k = 3 then 8 * v + 4611686018427387908 else if k = 4 then 2 else 0) + (if s = true then 1 else 0)
theorem is_fun {x : Int} {k : Nat} {v : Int} (h0 : 0 ≤ x) (h : Is x k v) : ofK x = k ∧ ofV x = v ∧ ofS x = (decide (k ≠ 0) && decide (x % 2 = 1)) := by
  have hk : ofK x = k := by
    unfold ofK
    rcases h with ⟨rfl, rfl, h⟩ | ⟨rfl, h⟩ | ⟨rfl, h⟩ | ⟨rfl, rfl, h⟩ | ⟨rfl, rfl, h1, h2, h3⟩
    · rw [if_pos h]; rfl
    · rw [if_neg (by omega), if_neg (by omega), if_pos (by omega)]; rfl
    · rw [if_neg (by omega), if_neg (by omega), if_neg (by omega), if_pos (by omega)]; rfl
    · rw [if_neg (by omega), if_pos (by omega)]; rfl
    · rw [if_neg (by omega), if_neg (by omega), if_neg h2, if_neg h3]; rfl
  refine ⟨hk, ?_, ?_⟩
  · unfold ofV
    rw [hk]
    rcases h with ⟨rfl, rfl, h⟩ | ⟨rfl, h⟩ | ⟨rfl, h⟩ | ⟨rfl, rfl, h⟩ | ⟨rfl, rfl, h1, h2, h3⟩
    · rfl
    · rw [if_pos (by decide)]; omega
    · rw [if_neg (by decide), if_pos (by decide)]; omega
    · rfl
    · rfl
  · unfold ofS
    rw [hk]
    congr 1
    simp only [decide_eq_decide]; omega
/-- Make of Of is the word (P1.4). -/
theorem mk_of {x : Int} {k : Nat} {v : Int} (h0 : 0 ≤ x) (h : Is x k v) (hk : k ≠ 0) (s : Bool) (hs : s = decide (x % 2 = 1)) : mkE k s v = 0 ∧ mkW k s v = x := by
  subst hs
  have he : mkE k (decide (x % 2 = 1)) v = 0 := by
    unfold mkE
    rcases h with ⟨rfl, rfl, h⟩ | ⟨rfl, h⟩ | ⟨rfl, h⟩ | ⟨rfl, rfl, h⟩ | ⟨rfl, rfl, h1, h2, h3⟩
    · rw [if_neg (by simp), if_neg (by simp), if_neg (by simp)]
    · rw [if_neg (by simp), if_neg (by omega), if_neg (by simp)]
    · rw [if_neg (by simp), if_neg (by simp), if_neg (by omega)]
    · subst h; decide
    · exact absurd rfl hk
  refine ⟨he, ?_⟩
  unfold mkW
  rw [he, if_neg (by simp)]
  rcases h with ⟨rfl, rfl, h⟩ | ⟨rfl, h⟩ | ⟨rfl, h⟩ | ⟨rfl, rfl, h⟩ | ⟨rfl, rfl, h1, h2, h3⟩
  · simp; split <;> omega
  · simp; split <;> omega
  · simp; split <;> omega
  · subst h; decide
  · exact absurd rfl hk
theorem mk_bad (s : Bool) (v : Int) : mkE 0 s v = 2 ∧ mkW 0 s v = 0 := by
  have : mkE 0 s v = 2 := by unfold mkE; rw [if_pos (by simp)]
  exact ⟨this, by unfold mkW; rw [this, if_pos (by simp)]⟩
theorem mk_arg (k : Int) (s : Bool) (v : Int) (h : k < 1 ∨ 4 < k ∨ ((k = 1 ∨ k = 4) ∧ v ≠ 0) ∨ (k = 4 ∧ s = true)) : mkE k s v = 2 ∧ mkW k s v = 0 := by
  have : mkE k s v = 2 := by unfold mkE; rw [if_pos h]
  exact ⟨this, by unfold mkW; rw [this, if_pos (by decide)]⟩
theorem mk_range2 (s : Bool) (v : Int) (h : v < 1 ∨ 16777215 < v) : mkE 2 s v = 4 ∧ mkW 2 s v = 0 := by
  have : mkE 2 s v = 4 := by unfold mkE; rw [if_neg (by omega), if_pos ⟨rfl, h⟩]
  exact ⟨this, by unfold mkW; rw [this, if_pos (by decide)]⟩
theorem mk_range3 (s : Bool) (v : Int) (h : v < -576460752303423488 ∨ 576460752303423487 < v) : mkE 3 s v = 4 ∧ mkW 3 s v = 0 := by
  have : mkE 3 s v = 4 := by unfold mkE; rw [if_neg (by omega), if_neg (by omega), if_pos ⟨rfl, h⟩]
  exact ⟨this, by unfold mkW; rw [this, if_pos (by decide)]⟩
theorem mk_null (s : Bool) : mkE 1 s 0 = 0 ∧ mkW 1 s 0 = if s = true then 1 else 0 := by cases s <;> decide
theorem mk_empty : mkE 4 false 0 = 0 ∧ mkW 4 false 0 = 2 := by decide
theorem mk_ptr (s : Bool) (v : Int) (h0 : 1 ≤ v) (h1 : v ≤ 16777215) : mkE 2 s v = 0 ∧ mkW 2 s v = 8 * v + if s = true then 1 else 0 := by
  have : mkE 2 s v = 0 := by unfold mkE; rw [if_neg (by omega), if_neg (by omega), if_neg (by omega)]
  exact ⟨this, by unfold mkW; rw [this, if_neg (by decide), if_pos rfl]⟩
theorem mk_scalar (s : Bool) (v : Int) (h0 : -576460752303423488 ≤ v) (h1 : v ≤ 576460752303423487) : mkE 3 s v = 0 ∧ mkW 3 s v = 8 * v + 4611686018427387908 + if s = true then 1 else 0 := by
  have : mkE 3 s v = 0 := by unfold mkE; rw [if_neg (by omega), if_neg (by omega), if_neg (by omega)]
  exact ⟨this, by unfold mkW; rw [this, if_neg (by decide), if_neg (by decide), if_pos rfl]⟩
end Go.Wd
/- Package word's Of. -/
namespace Go.Proofs.YtlkhmfmocegekaaDoor
open Go.RowKit
theorem cell_new {w w1 : World} {cs : Array Value} {t : TypeId} (hb : Below (w.alloc (.cells cs t)).heap.size (w.alloc (.cells cs t)) w1) (j : Nat) (v : Value) (hv : cs[j]? = some v) : w1.cell? ⟨w.heap.size, j, none⟩ = some v :=
  (hb.cell (p := ⟨w.heap.size, j, none⟩) (by simp)).trans ((cell_of_row _ _ j _ _ _ (heap_alloc_last w _)).trans hv)
theorem frozen_new {w w1 : World} {cs : Array Value} {t : TypeId} (hb : Below (w.alloc (.cells cs t)).heap.size (w.alloc (.cells cs t)) w1) (j : Nat) : w1.frozen? ⟨w.heap.size, j, none⟩ = false :=
  (hb.frozen (p := ⟨w.heap.size, j, none⟩) (by simp)).trans (frozen_of_row _ _ j _ _ (heap_alloc_last w _))
theorem keep3 (w1 : World) (g : Nat) (v0 v1 v2 : Value) (cs : Array Value) (t : TypeId) (j : Nat) (v : Value) (hv : cs[j]? = some v) :
    ((((w1.setCell ⟨g, 0, none⟩ v0).setCell ⟨g, 1, none⟩ v1).setCell ⟨g, 2, none⟩ v2).alloc (.cells cs t)).drew.cell? ⟨w1.heap.size, j, none⟩ = some v := by
  have hs : (((w1.setCell ⟨g, 0, none⟩ v0).setCell ⟨g, 1, none⟩ v1).setCell ⟨g, 2, none⟩ v2).heap.size = w1.heap.size := by simp [World.setCell]
  have h := heap_alloc_last (((w1.setCell ⟨g, 0, none⟩ v0).setCell ⟨g, 1, none⟩ v1).setCell ⟨g, 2, none⟩ v2) (.cells cs t)
  rw [hs] at h
  exact (cell_of_row _ _ j cs t _ h).trans hv
theorem below3 {w w1 : World} (h : Below w.heap.size w w1) (v0 v1 v2 : Value) (o : Obj) (hz : w.heap.size < w1.heap.size) :
    Below w.heap.size w ((((w1.setCell ⟨w.heap.size, 0, none⟩ v0).setCell ⟨w.heap.size, 1, none⟩ v1).setCell ⟨w.heap.size, 2, none⟩ v2).alloc o).drew :=
  ((((h.setCell (Nat.le_refl _) _).setCell (Nat.le_refl _) _).setCell (Nat.le_refl _) _).alloc (by simp [World.setCell]; omega) _).drew
end Go.Proofs.YtlkhmfmocegekaaDoor
/- Package word's Make, and what stands on it alone: Pointer, Scalar, Empty. -/
namespace Go.Proofs.YtlkhmfmocegekaaDoor
open Go.RowKit
theorem ret_word {a a' c c' : Int} {b b' : Bool} (h : a = a') (h2 : b = b') (h3 : c = c') : Ending.returned (.agg #[.int .i64 a, .bool b, .int .i64 c]) = .returned (.agg #[.int .i64 a', .bool b', .int .i64 c']) := by rw [h, h2, h3]
end Go.Proofs.YtlkhmfmocegekaaDoor
