/- What chapter 1's functions answer, as plain functions of numbers. -/
import Derived.Test.YtldfmlkjeniemaaDoorHdTopOn
import Derived.Deep.RegionHeld3
import Derived.BigRegion
import Derived.Test.YtldfmlkjeniemaaDoorBsKitOn
namespace Go.Wd
/-- Of: the kind, the seal, the value (P1.1). -/
def ofK (x : Int) : Int := if x ≤ 1 then 1 else if x = 2 then 4 else if x % 8 ≤ 1 ∧ x / 8 ≤ 16777215 then 2 else if 4 ≤ x % 8 ∧ x % 8 ≤ 5 ∧ x / 8 ≤ 1152921504606846975 then 3 else 0
def ofS (x : Int) : Bool := decide (ofK x ≠ 0) && decide (x % 2 = 1)
def ofV (x : Int) : Int := if ofK x = 2 then x / 8 else if ofK x = 3 then x / 8 - 576460752303423488 else 0
/-- Make: the word, the error's number (P1.1). -/
def mkE (k : Int) (s : Bool) (v : Int) : Int :=
  if k < 1 ∨ 4 < k ∨ ((k = 1 ∨ k = 4) ∧ v ≠ 0) ∨ (k = 4 ∧ s = true) then 2
  else if k = 2 ∧ (v < 1 ∨ 16777215 < v) then 4
  else if k = 3 ∧ (v < -576460752303423488 ∨ 576460752303423487 < v) then 4 else 0
def mkW (k : Int) (s : Bool) (v : Int) : Int :=
  if mkE k s v ≠ 0 then 0
  else (if k = 2 then 8 * v else if k = 3 then 8 * v + 4611686018427387908 else if k = 4 then 2 else 0) + (if s = true then 1 else 0)
theorem is_fun {x : Int} {k : Nat} {v : Int} (h0 : 0 ≤ x) (h : Is x k v) : ofK x = k ∧ ofV x = v ∧ ofS x = (decide (k ≠ 0) && decide (x % 2 = 1)) := by
  have hk : ofK x = k := by
    unfold ofK
    rcases h with ⟨rfl, rfl, h⟩ | ⟨rfl, h⟩ | ⟨rfl, h⟩ | ⟨rfl, rfl, h⟩ | ⟨rfl, rfl, h1, h2, h3⟩
    · rw [if_pos h]; rfl
    · rw [if_neg (by omega), if_neg (by omega), if_pos (by omega)]; rfl
    · rw [if_neg (by omega), if_neg (by omega), if_neg (by omega), if_pos (by omega)]; rfl
    · rw [if_neg (by omega), if_pos (by omega)]; rfl
    · rw [if_neg (by omega), if_neg (by omega), if_neg h2, if_neg h3]; rfl
  refine ⟨hk, ?_, ?_⟩
  · unfold ofV
    rw [hk]
    rcases h with ⟨rfl, rfl, h⟩ | ⟨rfl, h⟩ | ⟨rfl, h⟩ | ⟨rfl, rfl, h⟩ | ⟨rfl, rfl, h1, h2, h3⟩
    · rfl
    · rw [if_pos (by decide)]; omega
    · rw [if_neg (by decide), if_pos (by decide)]; omega
    · rfl
    · rfl
  · unfold ofS
    rw [hk]
    congr 1
    simp only [decide_eq_decide]; omega
/-- Make of Of is the word (P1.4). -/
theorem mk_of {x : Int} {k : Nat} {v : Int} (h0 : 0 ≤ x) (h : Is x k v) (hk : k ≠ 0) (s : Bool) (hs : s = decide (x % 2 = 1)) : mkE k s v = 0 ∧ mkW k s v = x := by
  subst hs
  have he : mkE k (decide (x % 2 = 1)) v = 0 := by
    unfold mkE
    rcases h with ⟨rfl, rfl, h⟩ | ⟨rfl, h⟩ | ⟨rfl, h⟩ | ⟨rfl, rfl, h⟩ | ⟨rfl, rfl, h1, h2, h3⟩
    · rw [if_neg (by simp), if_neg (by simp), if_neg (by simp)]
    · rw [if_neg (by simp), if_neg (by omega), if_neg (by simp)]
    · rw [if_neg (by simp), if_neg (by simp), if_neg (by omega)]
    · subst h; decide
    · exact absurd rfl hk
  refine ⟨he, ?_⟩
  unfold mkW
  rw [he, if_neg (by simp)]
  rcases h with ⟨rfl, rfl, h⟩ | ⟨rfl, h⟩ | ⟨rfl, h⟩ | ⟨rfl, rfl, h⟩ | ⟨rfl, rfl, h1, h2, h3⟩
  · simp; split <;> omega
  · simp; split <;> omega
  · simp; split <;> omega
  · subst h; decide
  · exact absurd rfl hk
theorem mk_bad (s : Bool) (v : Int) : mkE 0 s v = 2 ∧ mkW 0 s v = 0 := by
  have : mkE 0 s v = 2 := by unfold mkE; rw [if_pos (by simp)]
  exact ⟨this, by unfold mkW; rw [this, if_pos (by simp)]⟩
theorem mk_arg (k : Int) (s : Bool) (v : Int) (h : k < 1 ∨ 4 < k ∨ ((k = 1 ∨ k = 4) ∧ v ≠ 0) ∨ (k = 4 ∧ s = true)) : mkE k s v = 2 ∧ mkW k s v = 0 := by
  have : mkE k s v = 2 := by unfold mkE; rw [if_pos h]
  exact ⟨this, by unfold mkW; rw [this, if_pos (by decide)]⟩
theorem mk_range2 (s : Bool) (v : Int) (h : v < 1 ∨ 16777215 < v) : mkE 2 s v = 4 ∧ mkW 2 s v = 0 := by
  have : mkE 2 s v = 4 := by unfold mkE; rw [if_neg (by omega), if_pos ⟨rfl, h⟩]
  exact ⟨this, by unfold mkW; rw [this, if_pos (by decide)]⟩
theorem mk_range3 (s : Bool) (v : Int) (h : v < -576460752303423488 ∨ 576460752303423487 < v) : mkE 3 s v = 4 ∧ mkW 3 s v = 0 := by
  have : mkE 3 s v = 4 := by unfold mkE; rw [if_neg (by omega), if_neg (by omega), if_pos ⟨rfl, h⟩]
  exact ⟨this, by unfold mkW; rw [this, if_pos (by decide)]⟩
theorem mk_null (s : Bool) : mkE 1 s 0 = 0 ∧ mkW 1 s 0 = if s = true then 1 else 0 := by cases s <;> decide
theorem mk_empty : mkE 4 false 0 = 0 ∧ mkW 4 false 0 = 2 := by decide
theorem mk_ptr (s : Bool) (v : Int) (h0 : 1 ≤ v) (h1 : v ≤ 16777215) : mkE 2 s v = 0 ∧ mkW 2 s v = 8 * v + if s = true then 1 else 0 := by
  have : mkE 2 s v = 0 := by unfold mkE; rw [if_neg (by omega), if_neg (by omega), if_neg (by omega)]
  exact ⟨this, by unfold mkW; rw [this, if_neg (by decide), if_pos rfl]⟩
theorem mk_scalar (s : Bool) (v : Int) (h0 : -576460752303423488 ≤ v) (h1 : v ≤ 576460752303423487) : mkE 3 s v = 0 ∧ mkW 3 s v = 8 * v + 4611686018427387908 + if s = true then 1 else 0 := by
  have : mkE 3 s v = 0 := by unfold mkE; rw [if_neg (by omega), if_neg (by omega), if_neg (by omega)]
  exact ⟨this, by unfold mkW; rw [this, if_neg (by decide), if_neg (by decide), if_pos rfl]⟩
end Go.Wd
/- Package word's Of. -/
namespace Go.Proofs.YtldfmlkjeniemaaDoor
open Go.RowKit
theorem cell_new {w w1 : World} {cs : Array Value} {t : TypeId} (hb : Below (w.alloc (.cells cs t)).heap.size (w.alloc (.cells cs t)) w1) (j : Nat) (v : Value) (hv : cs[j]? = some v) : w1.cell? ⟨w.heap.size, j, none⟩ = some v :=
  (hb.cell (p := ⟨w.heap.size, j, none⟩) (by simp)).trans ((cell_of_row _ _ j _ _ _ (heap_alloc_last w _)).trans hv)
theorem frozen_new {w w1 : World} {cs : Array Value} {t : TypeId} (hb : Below (w.alloc (.cells cs t)).heap.size (w.alloc (.cells cs t)) w1) (j : Nat) : w1.frozen? ⟨w.heap.size, j, none⟩ = false :=
  (hb.frozen (p := ⟨w.heap.size, j, none⟩) (by simp)).trans (frozen_of_row _ _ j _ _ (heap_alloc_last w _))
theorem keep3 (w1 : World) (g : Nat) (v0 v1 v2 : Value) (cs : Array Value) (t : TypeId) (j : Nat) (v : Value) (hv : cs[j]? = some v) :
    ((((w1.setCell ⟨g, 0, none⟩ v0).setCell ⟨g, 1, none⟩ v1).setCell ⟨g, 2, none⟩ v2).alloc (.cells cs t)).drew.cell? ⟨w1.heap.size, j, none⟩ = some v := by
  have hs : (((w1.setCell ⟨g, 0, none⟩ v0).setCell ⟨g, 1, none⟩ v1).setCell ⟨g, 2, none⟩ v2).heap.size = w1.heap.size := by simp [World.setCell]
  have h := heap_alloc_last (((w1.setCell ⟨g, 0, none⟩ v0).setCell ⟨g, 1, none⟩ v1).setCell ⟨g, 2, none⟩ v2) (.cells cs t)
  rw [hs] at h
  exact (cell_of_row _ _ j cs t _ h).trans hv
theorem below3 {w w1 : World} (h : Below w.heap.size w w1) (v0 v1 v2 : Value) (o : Obj) (hz : w.heap.size < w1.heap.size) :
    Below w.heap.size w ((((w1.setCell ⟨w.heap.size, 0, none⟩ v0).setCell ⟨w.heap.size, 1, none⟩ v1).setCell ⟨w.heap.size, 2, none⟩ v2).alloc o).drew :=
  ((((h.setCell (Nat.le_refl _) _).setCell (Nat.le_refl _) _).setCell (Nat.le_refl _) _).alloc (by simp [World.setCell]; omega) _).drew
end Go.Proofs.YtldfmlkjeniemaaDoor
/- Package word's Make, and what stands on it alone: Pointer, Scalar, Empty. -/
namespace Go.Proofs.YtldfmlkjeniemaaDoor
open Go.RowKit
theorem ret_word {a a' c c' : Int} {b b' : Bool} (h : a = a') (h2 : b = b') (h3 : c = c') : Ending.returned (.agg #[.int .i64 a, .bool b, .int .i64 c]) = .returned (.agg #[.int .i64 a', .bool b', .int .i64 c']) := by rw [h, h2, h3]
end Go.Proofs.YtldfmlkjeniemaaDoor
/- The plain mathematics of layer 6: plans, their parts, where they stand; no model in it. -/
namespace Go.Ly
open Go.Sh
/-- May there be so many threads, and so many words in a space? -/
def nums (t s : Int) : Bool := decide (1 ≤ t) && decide (t ≤ 8) && (decide (32 ≤ s) && decide (s ≤ 4096))
/-- May it be a plan? -/
def rgt (t s : Int) (ss : List ByteArray) : Bool := nums t s && right ss
/-- How many parts there are of a kind, and how many words each has. -/
def prt (t : Int) : Nat → Int
  | 0 => 0
  | 1 => 1
  | 2 => 1
  | 3 => 1
  | 4 => t
  | 5 => t
  | _ => 2
def wrd (s : Int) : Nat → Int
  | 0 => 0
  | 1 => 1
  | 2 => 1
  | 3 => 1
  | 4 => 1
  | 5 => 1
  | _ => s
/-- The first word of a kind. -/
def bs (t s : Int) : Nat → Int
  | 0 => 0
  | k + 1 => bs t s k + prt t k * wrd s k
theorem bs1 (t s : Int) : bs t s 1 = 0 := by simp [bs, prt]
theorem bs2 (t s : Int) : bs t s 2 = 1 := by simp [bs, prt, wrd]
theorem bs3 (t s : Int) : bs t s 3 = 2 := by simp [bs, prt, wrd]
theorem bs4 (t s : Int) : bs t s 4 = 3 := by simp [bs, prt, wrd]
theorem bs5 (t s : Int) : bs t s 5 = 3 + t := by simp [bs, prt, wrd]
theorem bs6 (t s : Int) : bs t s 6 = 3 + t + t := by simp [bs, prt, wrd]
theorem bs7 (t s : Int) : bs t s 7 = 3 + t + t + 2 * s := by
  show bs t s 6 + prt t 6 * wrd s 6 = _
  rw [bs6]; rfl
/-- May it be a part? -/
def mayP (k n a : Int) : Bool := decide (1 ≤ k) && decide (k ≤ 6) && (decide (4 ≤ k) || decide (n = 0)) && (decide (6 ≤ k) || decide (a = 0))
/-- Is the part there? -/
def hasP (t s k n a : Int) : Bool := decide (0 ≤ n) && decide (n ≤ prt t k.toNat - 1) && (decide (0 ≤ a) && decide (a ≤ wrd s k.toNat - 1))
/-- A part's word, and the error, of a plan that may be. -/
def av (t s k n a : Int) : Int × Int :=
  if mayP k n a = true then (if hasP t s k n a = true then (bs t s k.toNat + n * wrd s k.toNat + a, 0) else (0, 4)) else (0, 2)
/-- A word's kind. -/
def kn (t a : Int) : Nat := if a < 1 then 1 else if a < 2 then 2 else if a < 3 then 3 else if a < 3 + t then 4 else if a < 3 + t + t then 5 else 6
/-- Its part. -/
def pt (t s a : Int) : Int × Int × Int := ((kn t a : Int), (a - bs t s (kn t a)) / wrd s (kn t a), (a - bs t s (kn t a)) % wrd s (kn t a))
theorem kn_cases (t a : Int) : kn t a = 1 ∨ kn t a = 2 ∨ kn t a = 3 ∨ kn t a = 4 ∨ kn t a = 5 ∨ kn t a = 6 := by
  unfold kn; repeat (first | split | omega)
/-- By what the word is: its part, written out. -/
theorem pt_is {t s a : Int} (s1 : 32 ≤ s) (a0 : 0 ≤ a) (a1 : a < 3 + t + t + 2 * s) :
    (a = 0 ∧ pt t s a = (1, 0, 0)) ∨ (a = 1 ∧ pt t s a = (2, 0, 0)) ∨ (a = 2 ∧ pt t s a = (3, 0, 0)) ∨ (3 ≤ a ∧ a < 3 + t ∧ pt t s a = (4, a - 3, 0)) ∨
    (3 + t ≤ a ∧ a < 3 + t + t ∧ pt t s a = (5, a - 3 - t, 0)) ∨ (3 + t + t ≤ a ∧ a < 3 + t + t + s ∧ pt t s a = (6, 0, a - (3 + t + t))) ∨ (3 + t + t + s ≤ a ∧ pt t s a = (6, 1, a - (3 + t + t + s))) := by
  unfold pt kn
  by_cases h1 : a < 1
  · left; refine ⟨by omega, ?_⟩; rw [if_pos h1, bs1]; simp [wrd]; omega
  rw [if_neg h1]
  by_cases h2 : a < 2
  · right; left; refine ⟨by omega, ?_⟩; rw [if_pos h2, bs2]; simp [wrd]; omega
  rw [if_neg h2]
  by_cases h3 : a < 3
  · right; right; left; refine ⟨by omega, ?_⟩; rw [if_pos h3, bs3]; simp [wrd]; omega
  rw [if_neg h3]
  by_cases h4 : a < 3 + t
  · right; right; right; left; refine ⟨by omega, by omega, ?_⟩; rw [if_pos h4, bs4]; simp [wrd]
  rw [if_neg h4]
  by_cases h5 : a < 3 + t + t
  · right; right; right; right; left; refine ⟨by omega, by omega, ?_⟩; rw [if_pos h5, bs5]; simp [wrd]; omega
  rw [if_neg h5, bs6]
  by_cases h6 : a < 3 + t + t + s
  · right; right; right; right; right; left
    refine ⟨by omega, h6, ?_⟩
    have e1 : (a - (3 + t + t)) / s = 0 := Int.ediv_eq_zero_of_lt (by omega) (by omega)
    have e2 : (a - (3 + t + t)) % s = a - (3 + t + t) := Int.emod_eq_of_lt (by omega) (by omega)
    simp [wrd, e1, e2]
  · right; right; right; right; right; right
    refine ⟨by omega, ?_⟩
    have e0 : a - (3 + t + t) = (a - (3 + t + t + s)) + 1 * s := by omega
    have e1 : (a - (3 + t + t)) / s = 1 := by
      rw [e0, Int.add_mul_ediv_right _ _ (by omega), Int.ediv_eq_zero_of_lt (by omega) (by omega)]; rfl
    have e2 : (a - (3 + t + t)) % s = a - (3 + t + t + s) := by
      rw [e0, Int.add_mul_emod_self_right, Int.emod_eq_of_lt (by omega) (by omega)]
    simp [wrd, e1, e2]
/-- The part's own word. -/
theorem av_yes {t s k n a : Int} {v e : Int} (h : av t s k n a = (v, e)) (he : e = 0) (t1 : 1 ≤ t) (s1 : 32 ≤ s) :
    (k = 1 ∧ n = 0 ∧ a = 0 ∧ v = 0) ∨ (k = 2 ∧ n = 0 ∧ a = 0 ∧ v = 1) ∨ (k = 3 ∧ n = 0 ∧ a = 0 ∧ v = 2) ∨ (k = 4 ∧ 0 ≤ n ∧ n < t ∧ a = 0 ∧ v = 3 + n) ∨
    (k = 5 ∧ 0 ≤ n ∧ n < t ∧ a = 0 ∧ v = 3 + t + n) ∨ (k = 6 ∧ n = 0 ∧ 0 ≤ a ∧ a < s ∧ v = 3 + t + t + a) ∨ (k = 6 ∧ n = 1 ∧ 0 ≤ a ∧ a < s ∧ v = 3 + t + t + s + a) := by
  subst he
  unfold av at h
  by_cases hm : mayP k n a = true
  · rw [if_pos hm] at h
    by_cases hh : hasP t s k n a = true
    · rw [if_pos hh] at h
      simp only [Prod.mk.injEq, and_true] at h
      simp only [mayP, Bool.and_eq_true, Bool.or_eq_true, decide_eq_true_eq] at hm
      simp only [hasP, Bool.and_eq_true, decide_eq_true_eq] at hh
      have hk : k = 1 ∨ k = 2 ∨ k = 3 ∨ k = 4 ∨ k = 5 ∨ k = 6 := by omega
      rcases hk with rfl | rfl | rfl | rfl | rfl | rfl
      · have := bs1 t s; simp [wrd, prt, this] at h hh; omega
      · have := bs2 t s; simp [wrd, prt, this] at h hh; omega
      · have := bs3 t s; simp [wrd, prt, this] at h hh; omega
      · have := bs4 t s; simp [wrd, prt, this] at h hh; omega
      · have := bs5 t s; simp [wrd, prt, this] at h hh; omega
      · have := bs6 t s; simp [wrd, prt, this] at h hh
        have hn : n = 0 ∨ n = 1 := by omega
        rcases hn with rfl | rfl
        · simp at h; omega
        · simp at h; omega
    · rw [if_neg hh] at h; simp at h
  · rw [if_neg hm] at h; simp at h
/-- A part that may be and is there. -/
theorem av_in {t s k n a : Int} (hm : mayP k n a = true) (hh : hasP t s k n a = true) : av t s k n a = (bs t s k.toNat + n * wrd s k.toNat + a, 0) := by
  unfold av; rw [if_pos hm, if_pos hh]
/-- At of Part is the word's number. -/
theorem av_pt {t s a : Int} (s1 : 32 ≤ s) (a0 : 0 ≤ a) (a1 : a < 3 + t + t + 2 * s) {k n b : Int} (h : pt t s a = (k, n, b)) : av t s k n b = (a, 0) := by
  rcases pt_is s1 a0 a1 with ⟨e, f⟩ | ⟨e, f⟩ | ⟨e, f⟩ | ⟨e, e2, f⟩ | ⟨e, e2, f⟩ | ⟨e, e2, f⟩ | ⟨e, f⟩ <;> rw [f] at h <;> simp only [Prod.mk.injEq] at h <;> obtain ⟨rfl, rfl, rfl⟩ := h
  · rw [av_in (by decide) (by simp [hasP, prt, wrd])]; show (bs t s 1 + _, _) = _; rw [bs1]; simp [e]
  · rw [av_in (by decide) (by simp [hasP, prt, wrd])]; show (bs t s 2 + _ * _ + _, _) = _; rw [bs2]; simp [e]
  · rw [av_in (by decide) (by simp [hasP, prt, wrd])]; show (bs t s 3 + _ * _ + _, _) = _; rw [bs3]; simp [e]
  · rw [av_in (by simp [mayP]) (by simp [hasP, prt, wrd]; omega)]; show (bs t s 4 + (a - 3) * 1 + 0, (0 : Int)) = _; rw [bs4, Prod.mk.injEq]; exact ⟨by omega, rfl⟩
  · rw [av_in (by simp [mayP]) (by simp [hasP, prt, wrd]; omega)]; show (bs t s 5 + (a - 3 - t) * 1 + 0, (0 : Int)) = _; rw [bs5, Prod.mk.injEq]; exact ⟨by omega, rfl⟩
  · rw [av_in (by simp [mayP]) (by simp [hasP, prt, wrd]; omega)]; show (bs t s 6 + 0 * s + (a - (3 + t + t)), (0 : Int)) = _; rw [bs6, Prod.mk.injEq]; exact ⟨by omega, rfl⟩
  · rw [av_in (by simp [mayP]) (by simp [hasP, prt, wrd]; omega)]; show (bs t s 6 + 1 * s + (a - (3 + t + t + s)), (0 : Int)) = _; rw [bs6, Prod.mk.injEq]; exact ⟨by omega, rfl⟩
/-- No two parts are at one word. -/
theorem av_inj {t s k n a k' n' a' v v' e e' : Int} (t1 : 1 ≤ t) (s1 : 32 ≤ s) (h : av t s k n a = (v, e)) (h' : av t s k' n' a' = (v', e')) (he : e = 0) (he' : e' = 0) : v = v' ↔ (k = k' ∧ n = n' ∧ a = a') := by
  have h1 := av_yes h he t1 s1
  have h2 := av_yes h' he' t1 s1
  omega
theorem av_err (t s k n a v e : Int) (h : av t s k n a = (v, e)) : (e = 0 ∨ e = 2 ∨ e = 4) ∧ (e = 0 ∨ v = 0) := by
  unfold av at h
  split at h
  · split at h <;> simp at h <;> omega
  · simp at h; omega
theorem nums_yes {t s : Int} (h : nums t s = true) : 1 ≤ t ∧ t ≤ 8 ∧ 32 ≤ s ∧ s ≤ 4096 := by
  simp only [nums, Bool.and_eq_true, decide_eq_true_eq] at h
  omega
theorem rgt_yes {t s : Int} {ss : List ByteArray} (h : rgt t s ss = true) : 1 ≤ t ∧ t ≤ 8 ∧ 32 ≤ s ∧ s ≤ 4096 ∧ right ss = true := by
  simp only [rgt, Bool.and_eq_true] at h
  obtain ⟨a, b, c, d⟩ := nums_yes h.1
  exact ⟨a, b, c, d, h.2⟩
end Go.Ly
