/- The plain mathematics of layer 3: shapes, tables, their sizes, kinds and texts; no model in it. -/
import Derived.WalkKit
namespace Go.Sh
/-- p or s. -/
def okB (b : UInt8) : Bool := b == 112 || b == 115
/-- May it be a shape? -/
def one (s : ByteArray) : Bool := decide (s.size ≤ 8) && s.data.toList.all okB
def kb (b : UInt8) : Int := if b = 115 then 1 else 0
/-- May it be a table? -/
def right (l : List ByteArray) : Bool := decide (1 ≤ l.length) && decide (l.length ≤ 16) && l.all one
def at' (l : List ByteArray) (n : Nat) : ByteArray := l.getD n ByteArray.empty
def inR (n : Int) (k : Nat) : Bool := decide (0 ≤ n) && decide (n < k)
def sz (l : List ByteArray) (n : Int) : Int × Int :=
  if right l then (if inR n l.length then (2 + ((at' l n.toNat).size : Int), 0) else (0, 130)) else (0, 2)
/-- The kind of a field, or that there is none. -/
def fd (s : ByteArray) (f : Int) : Int × Int := if inR f s.size then (kb (s.data.toList.getD f.toNat 0), 0) else (0, 131)
def kd (l : List ByteArray) (n f : Int) : Int × Int :=
  if right l then (if inR n l.length then fd (at' l n.toNat) f else (0, 130)) else (0, 2)
def iz (l : List ByteArray) (n f k : Int) : Int :=
  if (kd l n f).2 = 0 then (if (kd l n f).1 = k then 0 else 132) else (kd l n f).2
def most (l : List ByteArray) : Int := l.foldl (fun m s => max m (2 + (s.size : Int))) 0
/-- How many fields All goes over. -/
def fields (s : ByteArray) : Nat := if one s then s.size else 0
/-- What the code's size tells. -/
def mostF (l : List ByteArray) : Int := l.foldl (fun m s => max m (2 + (fields s : Int))) 0
def fieldAt (s : ByteArray) (i : Nat) : Nat × Int := (i, kb (s.data.toList.getD i 0))
def upto {α : Type} (f : Nat → α) (k : Nat) : List α := (List.range k).map f
theorem upto_succ {α : Type} (f : Nat → α) (k : Nat) : upto f (k + 1) = upto f k ++ [f k] := by simp [upto, List.range_succ]
theorem upto_length {α : Type} (f : Nat → α) (k : Nat) : (upto f k).length = k := by simp [upto]

theorem one_all {s : ByteArray} (h : one s = true) (i : Nat) (hi : i < s.data.toList.length) : okB (s.data.toList[i]) = true := by
  simp only [one, Bool.and_eq_true, List.all_eq_true] at h
  exact h.2 _ (List.getElem_mem hi)
theorem one_size {s : ByteArray} (h : one s = true) : s.size ≤ 8 := by
  simp only [one, Bool.and_eq_true, decide_eq_true_eq] at h
  exact h.1
theorem fields_one {s : ByteArray} (h : one s = true) : fields s = s.size := by simp [fields, h]
theorem fields_le (s : ByteArray) : fields s ≤ 8 := by
  unfold fields
  split
  · next h => exact one_size h
  · omega
theorem right_all {l : List ByteArray} (h : right l = true) (i : Nat) (hi : i < l.length) : one (at' l i) = true := by
  simp only [right, Bool.and_eq_true, List.all_eq_true] at h
  refine h.2 _ ?_
  rw [at', List.getD_eq_getElem?_getD, List.getElem?_eq_getElem hi]
  exact List.getElem_mem hi
theorem right_len {l : List ByteArray} (h : right l = true) : 1 ≤ l.length ∧ l.length ≤ 16 := by
  simp only [right, Bool.and_eq_true, decide_eq_true_eq] at h
  exact ⟨h.1.1, h.1.2⟩
theorem foldl_congr' {α β : Type} (f g : β → α → β) : ∀ (l : List α) (b : β), (∀ x ∈ l, ∀ c, f c x = g c x) → l.foldl f b = l.foldl g b
  | [], _, _ => rfl
  | a :: r, b, h => by
    simp only [List.foldl_cons]
    rw [h a (by simp) b]
    exact foldl_congr' f g r _ (fun x hx c => h x (by simp [hx]) c)
theorem mostF_right {l : List ByteArray} (h : right l = true) : mostF l = most l := by
  refine foldl_congr' _ _ l 0 (fun x hx c => ?_)
  simp only [right, Bool.and_eq_true, List.all_eq_true] at h
  rw [fields_one (h.2 x hx)]
/-- Folds over the first k of a list. -/
theorem take_succ_at {l : List ByteArray} {k : Nat} (h : k < l.length) : l.take (k + 1) = l.take k ++ [at' l k] := by
  rw [at', List.getD_eq_getElem?_getD, List.getElem?_eq_getElem h, Option.getD_some, List.take_succ_eq_append_getElem h]
theorem mostF_take {l : List ByteArray} {k : Nat} (h : k < l.length) : mostF (l.take (k + 1)) = max (mostF (l.take k)) (2 + (fields (at' l k) : Int)) := by
  rw [take_succ_at h]; simp [mostF]
theorem most_take {l : List ByteArray} {k : Nat} (h : k < l.length) : most (l.take (k + 1)) = max (most (l.take k)) (2 + ((at' l k).size : Int)) := by
  rw [take_succ_at h]; simp [most]
theorem foldl_max_bd (f : ByteArray → Int) (B : Int) : ∀ (l : List ByteArray) (m : Int), 0 ≤ m → m ≤ B → (∀ s, f s ≤ B) → 0 ≤ l.foldl (fun m s => max m (f s)) m ∧ l.foldl (fun m s => max m (f s)) m ≤ B
  | [], _, h0, h1, _ => ⟨h0, h1⟩
  | a :: r, m, h0, h1, hf => by
    have := hf a
    exact foldl_max_bd f B r _ (by show 0 ≤ max m (f a); omega) (by show max m (f a) ≤ B; omega) hf
theorem mostF_bd (l : List ByteArray) : 0 ≤ mostF l ∧ mostF l ≤ 10 :=
  foldl_max_bd (fun s => 2 + (fields s : Int)) 10 l 0 (by omega) (by omega) (fun s => by have := fields_le s; omega)
theorem all_take_false {l : List ByteArray} {k : Nat} (h : k < l.length) (hn : one (at' l k) = false) : l.all one = false := by
  rw [List.all_eq_false]
  refine ⟨at' l k, ?_, by simp [hn]⟩
  rw [at', List.getD_eq_getElem?_getD, List.getElem?_eq_getElem h]
  exact List.getElem_mem h
theorem all_of_at {l : List ByteArray} (h : ∀ k, k < l.length → one (at' l k) = true) : l.all one = true := by
  rw [List.all_eq_true]
  intro x hx
  obtain ⟨i, hi, rfl⟩ := List.mem_iff_getElem.1 hx
  have := h i hi
  rwa [at', List.getD_eq_getElem?_getD, List.getElem?_eq_getElem hi] at this

/-! ### Texts -/
def piece (s : ByteArray) : List UInt8 := if s.size = 0 then [45] else s.data.toList
def text (l : List ByteArray) : List UInt8 := l.foldl (fun t s => t ++ ((if t.length = 0 then [] else [32]) ++ piece s)) []
theorem piece_ne (s : ByteArray) : 1 ≤ (piece s).length := by
  unfold piece
  split
  · simp
  · next h => rw [Array.length_toList]; show 1 ≤ s.size; omega
theorem text_len : ∀ (l : List ByteArray) (t : List UInt8), t.length + l.length ≤ (l.foldl (fun t s => t ++ ((if t.length = 0 then [] else [32]) ++ piece s)) t).length
  | [], _ => by simp
  | a :: r, t => by
    have := text_len r (t ++ ((if t.length = 0 then [] else [32]) ++ piece a))
    have h2 := piece_ne a
    simp only [List.foldl_cons, List.length_append, List.length_cons] at this ⊢
    omega
theorem text_take {l : List ByteArray} {k : Nat} (h : k < l.length) : text (l.take (k + 1)) = text (l.take k) ++ ((if k = 0 then [] else [32]) ++ piece (at' l k)) := by
  rw [take_succ_at h]
  simp only [text, List.foldl_append, List.foldl_cons, List.foldl_nil]
  have h1 := text_len (l.take k) []
  by_cases hk : k = 0
  · subst hk; simp
  · rw [List.length_take] at h1
    have : ¬ ((l.take k).foldl (fun t s => t ++ ((if t.length = 0 then [] else [32]) ++ piece s)) []).length = 0 := by
      simp only [List.length_nil] at h1; omega
    rw [if_neg this, if_neg hk]
theorem piece_le (s : ByteArray) : (piece s).length ≤ s.size + 1 := by
  unfold piece
  split
  · simp
  · rw [Array.length_toList]; show s.size ≤ s.size + 1; omega
end Go.Sh
/- The plain mathematics of layer 6: plans, their parts, where they stand; no model in it. -/
namespace Go.Ly
open Go.Sh
/-- May there be so many threads, and so many words in a space? -/
def nums (t s : Int) : Bool := decide (1 ≤ t) && decide (t ≤ 8) && (decide (32 ≤ s) && decide (s ≤ 4096))
/-- May it be a plan? -/
def rgt (t s : Int) (ss : List ByteArray) : Bool := nums t s && right ss
/-- How many parts there are of a kind, and how many words each has. -/
def prt (t : Int) : Nat → Int
  | 0 => 0
  | 1 => 1
  | 2 => 1
  | 3 => 1
  | 4 => t
  | 5 => t
  | _ => 2
def wrd (s : Int) : Nat → Int
  | 0 => 0
  | 1 => 1
  | 2 => 1
  | 3 => 1
  | 4 => 1
  | 5 => 1
  | _ => s
/-- The first word of a kind. -/
def bs (t s : Int) : Nat → Int
  | 0 => 0
  | k + 1 => bs t s k + prt t k * wrd s k
theorem bs1 (t s : Int) : bs t s 1 = 0 := by simp [bs, prt]
theorem bs2 (t s : Int) : bs t s 2 = 1 := by simp [bs, prt, wrd]
theorem bs3 (t s : Int) : bs t s 3 = 2 := by simp [bs, prt, wrd]
theorem bs4 (t s : Int) : bs t s 4 = 3 := by simp [bs, prt, wrd]
theorem bs5 (t s : Int) : bs t s 5 = 3 + t := by simp [bs, prt, wrd]
theorem bs6 (t s : Int) : bs t s 6 = 3 + t + t := by simp [bs, prt, wrd]
theorem bs7 (t s : Int) : bs t s 7 = 3 + t + t + 2 * s := by
  show bs t s 6 + prt t 6 * wrd s 6 = _
  rw [bs6]; rfl
/-- May it be a part? -/
def mayP (k n a : Int) : Bool := decide (1 ≤ k) && decide (k ≤ 6) && (decide (4 ≤ k) || decide (n = 0)) && (decide (6 ≤ k) || decide (a = 0))
/-- Is the part there? -/
def hasP (t s k n a : Int) : Bool := decide (0 ≤ n) && decide (n ≤ prt t k.toNat - 1) && (decide (0 ≤ a) && decide (a ≤ wrd s k.toNat - 1))
/-- A part's word, and the error, of a plan that may be. -/
def av (t s k n a : Int) : Int × Int :=
  if mayP k n a = true then (if hasP t s k n a = true then (bs t s k.toNat + n * wrd s k.toNat + a, 0) else (0, 4)) else (0, 2)
/-- A word's kind. -/
def kn (t a : Int) : Nat := if a < 1 then 1 else if a < 2 then 2 else if a < 3 then 3 else if a < 3 + t then 4 else if a < 3 + t + t then 5 else 6
/-- Its part. -/
def pt (t s a : Int) : Int × Int × Int := ((kn t a : Int), (a - bs t s (kn t a)) / wrd s (kn t a), (a - bs t s (kn t a)) % wrd s (kn t a))
theorem kn_cases (t a : Int) : kn t a = 1 ∨ kn t a = 2 ∨ kn t a = 3 ∨ kn t a = 4 ∨ kn t a = 5 ∨ kn t a = 6 := by
  unfold kn; repeat (first | split | omega)
/-- By what the word is: its part, written out. -/
theorem pt_is {t s a : Int} (s1 : 32 ≤ s) (a0 : 0 ≤ a) (a1 : a < 3 + t + t + 2 * s) :
    (a = 0 ∧ pt t s a = (1, 0, 0)) ∨ (a = 1 ∧ pt t s a = (2, 0, 0)) ∨ (a = 2 ∧ pt t s a = (3, 0, 0)) ∨ (3 ≤ a ∧ a < 3 + t ∧ pt t s a = (4, a - 3, 0)) ∨
    (3 + t ≤ a ∧ a < 3 + t + t ∧ pt t s a = (5, a - 3 - t, 0)) ∨ (3 + t + t ≤ a ∧ a < 3 + t + t + s ∧ pt t s a = (6, 0, a - (3 + t + t))) ∨ (3 + t + t + s ≤ a ∧ pt t s a = (6, 1, a - (3 + t + t + s))) := by
  unfold pt kn
  by_cases h1 : a < 1
  · left; refine ⟨by omega, ?_⟩; rw [if_pos h1, bs1]; simp [wrd]; omega
  rw [if_neg h1]
  by_cases h2 : a < 2
  · right; left; refine ⟨by omega, ?_⟩; rw [if_pos h2, bs2]; simp [wrd]; omega
  rw [if_neg h2]
  by_cases h3 : a < 3
  · right; right; left; refine ⟨by omega, ?_⟩; rw [if_pos h3, bs3]; simp [wrd]; omega
  rw [if_neg h3]
  by_cases h4 : a < 3 + t
  · right; right; right; left; refine ⟨by omega, by omega, ?_⟩; rw [if_pos h4, bs4]; simp [wrd]
  rw [if_neg h4]
  by_cases h5 : a < 3 + t + t
  · right; right; right; right; left; refine ⟨by omega, by omega, ?_⟩; rw [if_pos h5, bs5]; simp [wrd]; omega
  rw [if_neg h5, bs6]
  by_cases h6 : a < 3 + t + t + s
  · right; right; right; right; right; left
    refine ⟨by omega, h6, ?_⟩
    have e1 : (a - (3 + t + t)) / s = 0 := Int.ediv_eq_zero_of_lt (by omega) (by omega)
    have e2 : (a - (3 + t + t)) % s = a - (3 + t + t) := Int.emod_eq_of_lt (by omega) (by omega)
    simp [wrd, e1, e2]
  · right; right; right; right; right; right
    refine ⟨by omega, ?_⟩
    have e0 : a - (3 + t + t) = (a - (3 + t + t + s)) + 1 * s := by omega
    have e1 : (a - (3 + t + t)) / s = 1 := by
      rw [e0, Int.add_mul_ediv_right _ _ (by omega), Int.ediv_eq_zero_of_lt (by omega) (by omega)]; rfl
    have e2 : (a - (3 + t + t)) % s = a - (3 + t + t + s) := by
      rw [e0, Int.add_mul_emod_self_right, Int.emod_eq_of_lt (by omega) (by omega)]
    simp [wrd, e1, e2]
/-- The part's own word. -/
theorem av_yes {t s k n a : Int} {v e : Int} (h : av t s k n a = (v, e)) (he : e = 0) (t1 : 1 ≤ t) (s1 : 32 ≤ s) :
    (k = 1 ∧ n = 0 ∧ a = 0 ∧ v = 0) ∨ (k = 2 ∧ n = 0 ∧ a = 0 ∧ v = 1) ∨ (k = 3 ∧ n = 0 ∧ a = 0 ∧ v = 2) ∨ (k = 4 ∧ 0 ≤ n ∧ n < t ∧ a = 0 ∧ v = 3 + n) ∨
    (k = 5 ∧ 0 ≤ n ∧ n < t ∧ a = 0 ∧ v = 3 + t + n) ∨ (k = 6 ∧ n = 0 ∧ 0 ≤ a ∧ a < s ∧ v = 3 + t + t + a) ∨ (k = 6 ∧ n = 1 ∧ 0 ≤ a ∧ a < s ∧ v = 3 + t + t + s + a) := by
  subst he
  unfold av at h
  by_cases hm : mayP k n a = true
  · rw [if_pos hm] at h
    by_cases hh : hasP t s k n a = true
    · rw [if_pos hh] at h
      simp only [Prod.mk.injEq, and_true] at h
      simp only [mayP, Bool.and_eq_true, Bool.or_eq_true, decide_eq_true_eq] at hm
      simp only [hasP, Bool.and_eq_true, decide_eq_true_eq] at hh
      have hk : k = 1 ∨ k = 2 ∨ k = 3 ∨ k = 4 ∨ k = 5 ∨ k = 6 := by omega
      rcases hk with rfl | rfl | rfl | rfl | rfl | rfl
      · have := bs1 t s; simp [wrd, prt, this] at h hh; omega
      · have := bs2 t s; simp [wrd, prt, this] at h hh; omega
      · have := bs3 t s; simp [wrd, prt, this] at h hh; omega
      · have := bs4 t s; simp [wrd, prt, this] at h hh; omega
      · have := bs5 t s; simp [wrd, prt, this] at h hh; omega
      · have := bs6 t s; simp [wrd, prt, this] at h hh
        have hn : n = 0 ∨ n = 1 := by omega
        rcases hn with rfl | rfl
        · simp at h; omega
        · simp at h; omega
    · rw [if_neg hh] at h; simp at h
  · rw [if_neg hm] at h; simp at h
/-- A part that may be and is there. -/
theorem av_in {t s k n a : Int} (hm : mayP k n a = true) (hh : hasP t s k n a = true) : av t s k n a = (bs t s k.toNat + n * wrd s k.toNat + a, 0) := by
  unfold av; rw [if_pos hm, if_pos hh]
/-- At of Part is the word's number. -/
theorem av_pt {t s a : Int} (s1 : 32 ≤ s) (a0 : 0 ≤ a) (a1 : a < 3 + t + t + 2 * s) {k n b : Int} (h : pt t s a = (k, n, b)) : av t s k n b = (a, 0) := by
  rcases pt_is s1 a0 a1 with ⟨e, f⟩ | ⟨e, f⟩ | ⟨e, f⟩ | ⟨e, e2, f⟩ | ⟨e, e2, f⟩ | ⟨e, e2, f⟩ | ⟨e, f⟩ <;> rw [f] at h <;> simp only [Prod.mk.injEq] at h <;> obtain ⟨rfl, rfl, rfl⟩ := h
  · rw [av_in (by decide) (by simp [hasP, prt, wrd])]; show (bs t s 1 + _, _) = _; rw [bs1]; simp [e]
  · rw [av_in (by decide) (by simp [hasP, prt, wrd])]; show (bs t s 2 + _ * _ + _, _) = _; rw [bs2]; simp [e]
  · rw [av_in (by decide) (by simp [hasP, prt, wrd])]; show (bs t s 3 + _ * _ + _, _) = _; rw [bs3]; simp [e]
  · rw [av_in (by simp [mayP]) (by simp [hasP, prt, wrd]; omega)]; show (bs t s 4 + (a - 3) * 1 + 0, (0 : Int)) = _; rw [bs4, Prod.mk.injEq]; exact ⟨by omega, rfl⟩
  · rw [av_in (by simp [mayP]) (by simp [hasP, prt, wrd]; omega)]; show (bs t s 5 + (a - 3 - t) * 1 + 0, (0 : Int)) = _; rw [bs5, Prod.mk.injEq]; exact ⟨by omega, rfl⟩
  · rw [av_in (by simp [mayP]) (by simp [hasP, prt, wrd]; omega)]; show (bs t s 6 + 0 * s + (a - (3 + t + t)), (0 : Int)) = _; rw [bs6, Prod.mk.injEq]; exact ⟨by omega, rfl⟩
  · rw [av_in (by simp [mayP]) (by simp [hasP, prt, wrd]; omega)]; show (bs t s 6 + 1 * s + (a - (3 + t + t + s)), (0 : Int)) = _; rw [bs6, Prod.mk.injEq]; exact ⟨by omega, rfl⟩
/-- No two parts are at one word. -/
theorem av_inj {t s k n a k' n' a' v v' e e' : Int} (t1 : 1 ≤ t) (s1 : 32 ≤ s) (h : av t s k n a = (v, e)) (h' : av t s k' n' a' = (v', e')) (he : e = 0) (he' : e' = 0) : v = v' ↔ (k = k' ∧ n = n' ∧ a = a') := by
  have h1 := av_yes h he t1 s1
  have h2 := av_yes h' he' t1 s1
  omega
theorem av_err (t s k n a v e : Int) (h : av t s k n a = (v, e)) : (e = 0 ∨ e = 2 ∨ e = 4) ∧ (e = 0 ∨ v = 0) := by
  unfold av at h
  split at h
  · split at h <;> simp at h <;> omega
  · simp at h; omega
theorem nums_yes {t s : Int} (h : nums t s = true) : 1 ≤ t ∧ t ≤ 8 ∧ 32 ≤ s ∧ s ≤ 4096 := by
  simp only [nums, Bool.and_eq_true, decide_eq_true_eq] at h
  omega
theorem rgt_yes {t s : Int} {ss : List ByteArray} (h : rgt t s ss = true) : 1 ≤ t ∧ t ≤ 8 ∧ 32 ≤ s ∧ s ≤ 4096 ∧ right ss = true := by
  simp only [rgt, Bool.and_eq_true] at h
  obtain ⟨a, b, c, d⟩ := nums_yes h.1
  exact ⟨a, b, c, d, h.2⟩
end Go.Ly
