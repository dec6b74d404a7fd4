/- Read of Text is the word (P1.4), as plain mathematics. -/
import Derived.Test.YtlkhmfmocegekaaDoorWdReadOn
import Derived.WalkKit
namespace Go.Proofs.YtlkhmfmocegekaaDoor
theorem digit_nat (d : Nat) (h : d < 10) : (UInt8.ofNat (48 + d)).toNat = 48 + d := by
  rw [UInt8.toNat_ofNat']; omega
theorem dec_dgs : ∀ u : Nat, Wd.dgs (Lib.decDigits u) = true := by
  intro u
  induction u using Nat.strongRecOn with
  | _ u ih =>
    by_cases hu : u < 10
    · rw [decDigits_small u hu]
      simp only [Wd.dgs, List.all_cons, List.all_nil, digit_nat u hu]
      simp; omega
    · rw [decDigits_big u hu, Wd.dgs_snoc, ih (u / 10) (by omega), digit_nat (u % 10) (by omega)]
      simp; omega
theorem dec_val : ∀ u : Nat, Wd.val (Lib.decDigits u) = u := by
  intro u
  induction u using Nat.strongRecOn with
  | _ u ih =>
    by_cases hu : u < 10
    · rw [decDigits_small u hu]
      simp only [Wd.val, List.foldl_cons, List.foldl_nil, digit_nat u hu]
      omega
    · rw [decDigits_big u hu, Wd.val_snoc, ih (u / 10) (by omega), digit_nat (u % 10) (by omega)]
      omega
/-- The first digit: there is one, and it is a nought only of 0. -/
theorem dec_head : ∀ u : Nat, ∃ c r, Lib.decDigits u = c :: r ∧ 48 ≤ c.toNat ∧ c.toNat ≤ 57 ∧ (1 ≤ u → ¬ c = 48) := by
  intro u
  induction u using Nat.strongRecOn with
  | _ u ih =>
    by_cases hu : u < 10
    · refine ⟨_, [], decDigits_small u hu, ?_, ?_, fun h e => ?_⟩
      · rw [digit_nat u hu]; omega
      · rw [digit_nat u hu]; omega
      · have := congrArg UInt8.toNat e
        rw [digit_nat u hu] at this
        have h48 : (48 : UInt8).toNat = 48 := rfl
        omega
    · obtain ⟨c, r, e, h1, h2, h3⟩ := ih (u / 10) (by omega)
      exact ⟨c, r ++ [UInt8.ofNat (48 + u % 10)], by rw [decDigits_big u hu, e]; rfl, h1, h2, fun _ => h3 (by omega)⟩
theorem dec_isNum (u : Nat) : Wd.isNum (Lib.decDigits u) = true := by
  obtain ⟨c, r, e, h1, h2, h3⟩ := dec_head u
  have hd := dec_dgs u
  by_cases hu : 1 ≤ u
  · unfold Wd.isNum
    rw [hd, e]
    have hc : (c == 48) = false := by simpa using h3 hu
    simp [hc]
  · have : u = 0 := by omega
    subst this
    rw [decDigits_small 0 (by omega)]
    rfl
theorem dec_dgV (u : Nat) (h : (u : Int) ≤ 576460752303423489) : Wd.dgV (Lib.decDigits u) = u := by
  rw [Wd.dgV_true (dec_isNum u), dec_val, Wd.cap_eq u h]
/-- What stands ahead in digits is no letter and no sign. -/
theorem rdB_dec (s : Bool) (u : Nat) (h : (u : Int) ≤ 576460752303423489) : Wd.rdB s (Lib.decDigits u) = (Wd.mkW 3 s u, Wd.mkE 3 s u) := by
  have hn := dec_isNum u
  have hv := dec_dgV u h
  obtain ⟨c, r, e, h1, h2, _⟩ := dec_head u
  have n1 : ¬ c = 110 := by intro e; subst e; simp at h2
  have n2 : ¬ c = 101 := by intro e; subst e; simp at h2
  have n3 : ¬ c = 64 := by intro e; subst e; simp at h2
  have n4 : ¬ c = 45 := by intro e; subst e; simp at h1
  unfold Wd.rdB
  rw [hn, hv]
  rw [e]
  simp [n1, n2, n3, n4]
theorem rdB_neg (s : Bool) (u : Nat) (h0 : 1 ≤ u) (h : (u : Int) ≤ 576460752303423489) : Wd.rdB s (45 :: Lib.decDigits u) = (Wd.mkW 3 s (-(u : Int)), Wd.mkE 3 s (-(u : Int))) := by
  have hn := dec_isNum u
  have hv := dec_dgV u h
  unfold Wd.rdB
  simp [hn, hv]
  omega
theorem rdB_at (s : Bool) (u : Nat) (h : (u : Int) ≤ 576460752303423489) : Wd.rdB s (64 :: Lib.decDigits u) = (Wd.mkW 2 s u, Wd.mkE 2 s u) := by
  have hn := dec_isNum u
  have hv := dec_dgV u h
  unfold Wd.rdB
  simp [hn, hv]
theorem rdB_txB (s : Bool) {x : Int} {k : Nat} {v : Int} (h : Wd.Is x k v) (hk : k ≠ 0) : Wd.rdB s (txB k v) = (Wd.mkW k s v, Wd.mkE k s v) := by
  rcases h with ⟨rfl, rfl, h⟩ | ⟨rfl, h⟩ | ⟨rfl, h⟩ | ⟨rfl, rfl, h⟩ | ⟨rfl, rfl, h⟩
  · rfl
  · obtain ⟨u, rfl⟩ := Int.eq_ofNat_of_zero_le (show 0 ≤ v by omega)
    have e : txB 2 (u : Int) = 64 :: Lib.decDigits u := by
      show 64 :: Lib.itoa (u : Int) = _
      unfold Lib.itoa
      rw [if_neg (by omega)]
      rfl
    rw [e, rdB_at s u (by omega)]
    rfl
  · by_cases hv : v < 0
    · have e : txB 3 v = 45 :: Lib.decDigits v.natAbs := by
        show Lib.itoa v = _
        unfold Lib.itoa
        rw [if_pos hv]
      have hu : -((v.natAbs : Nat) : Int) = v := by omega
      rw [e, rdB_neg s v.natAbs (by omega) (by omega), hu]
      rfl
    · have e : txB 3 v = Lib.decDigits v.toNat := by
        show Lib.itoa v = _
        unfold Lib.itoa
        rw [if_neg hv]
      have hu : ((v.toNat : Nat) : Int) = v := by omega
      rw [e, rdB_dec s v.toNat (by omega), hu]
      rfl
  · rfl
  · exact absurd rfl hk
theorem txB_head {x : Int} {k : Nat} {v : Int} (h : Wd.Is x k v) : ¬ (txB k v).head? = some 33 := by
  rcases h with ⟨rfl, rfl, h⟩ | ⟨rfl, h⟩ | ⟨rfl, h⟩ | ⟨rfl, rfl, h⟩ | ⟨rfl, rfl, h⟩
  · decide
  · show ¬ (64 :: Lib.itoa v).head? = some 33
    simp
  · show ¬ (Lib.itoa v).head? = some 33
    unfold Lib.itoa
    split
    · simp
    · obtain ⟨c, r, e, h1, h2, _⟩ := dec_head v.toNat
      rw [e]
      intro hh
      simp at hh
      subst hh
      simp at h1
  · decide
  · decide
theorem rd_tx_good (x : Int) (h0 : 0 ≤ x) (hk : ¬ Wd.ofK x = 0) : Wd.rd (tx x) = (x, 0) := by
  obtain ⟨k, v, h⟩ := Wd.has_is x h0
  obtain ⟨e1, e2, e3⟩ := Wd.is_fun h0 h
  have hk0 : k ≠ 0 := by omega
  have hs : Wd.ofS x = decide (x % 2 = 1) := by rw [e3]; simp [hk0]
  have hm := Wd.mk_of h0 h hk0 (Wd.ofS x) hs
  have hr := rdB_txB (Wd.ofS x) h hk0
  rw [hm.1, hm.2] at hr
  have hh := txB_head h
  unfold tx txS Wd.rd
  rw [e1, e2]
  show (if (if Wd.ofS x = true then 33 :: txB k v else txB k v).head? = some 33 then _ else _) = _
  cases hsx : Wd.ofS x
  · rw [hsx] at hr
    rw [if_neg (by simpa using hh)]
    exact hr
  · rw [hsx] at hr
    rw [if_pos (by simp)]
    exact hr
theorem rd_tx_bad (x : Int) (h0 : 0 ≤ x) (hk : Wd.ofK x = 0) : Wd.rd (tx x) = (0, 2) := by
  obtain ⟨k, v, h⟩ := Wd.has_is x h0
  obtain ⟨e1, e2, e3⟩ := Wd.is_fun h0 h
  have hk0 : k = 0 := by omega
  subst hk0
  unfold tx
  rw [hk, e2, e3]
  rfl
end Go.Proofs.YtlkhmfmocegekaaDoor
/- The plain mathematics of layer 3: shapes, tables, their sizes, kinds and texts; no model in it. -/
namespace Go.Sh
/-- p or s. -/
def okB (b : UInt8) : Bool := b == 112 || b == 115
/-- May it be a shape? -/
def one (s : ByteArray) : Bool := decide (s.size ≤ 8) && s.data.toList.all okB
def kb (b : UInt8) : Int := if b = 115 then 1 else 0
/-- May it be a table? -/
def right (l : List ByteArray) : Bool := decide (1 ≤ l.length) && decide (l.length ≤ 16) && l.all one
def at' (l : List ByteArray) (n : Nat) : ByteArray := l.getD n ByteArray.empty
def inR (n : Int) (k : Nat) : Bool := decide (0 ≤ n) && decide (n < k)
def sz (l : List ByteArray) (n : Int) : Int × Int :=
  if right l then (if inR n l.length then (2 + ((at' l n.toNat).size : Int), 0) else (0, 130)) else (0, 2)
/-- The kind of a field, or that there is none. -/
def fd (s : ByteArray) (f : Int) : Int × Int := if inR f s.size then (kb (s.data.toList.getD f.toNat 0), 0) else (0, 131)
def kd (l : List ByteArray) (n f : Int) : Int × Int :=
  if right l then (if inR n l.length then fd (at' l n.toNat) f else (0, 130)) else (0, 2)
def iz (l : List ByteArray) (n f k : Int) : Int :=
  if (kd l n f).2 = 0 then (if (kd l n f).1 = k then 0 else 132) else (kd l n f).2
def most (l : List ByteArray) : Int := l.foldl (fun m s => max m (2 + (s.size : Int))) 0
/-- How many fields All goes over. -/
def fields (s : ByteArray) : Nat := if one s then s.size else 0
/-- What the code's size tells. -/
def mostF (l : List ByteArray) : Int := l.foldl (fun m s => max m (2 + (fields s : Int))) 0
def fieldAt (s : ByteArray) (i : Nat) : Nat × Int := (i, kb (s.data.toList.getD i 0))
def upto {α : Type} (f : Nat → α) (k : Nat) : List α := (List.range k).map f
theorem upto_succ {α : Type} (f : Nat → α) (k : Nat) : upto f (k + 1) = upto f k ++ [f k] := by simp [upto, List.range_succ]
theorem upto_length {α : Type} (f : Nat → α) (k : Nat) : (upto f k).length = k := by simp [upto]

theorem one_all {s : ByteArray} (h : one s = true) (i : Nat) (hi : i < s.data.toList.length) : okB (s.data.toList[i]) = true := by
  simp only [one, Bool.and_eq_true, List.all_eq_true] at h
  exact h.2 _ (List.getElem_mem hi)
theorem one_size {s : ByteArray} (h : one s = true) : s.size ≤ 8 := by
  simp only [one, Bool.and_eq_true, decide_eq_true_eq] at h
  exact h.1
theorem fields_one {s : ByteArray} (h : one s = true) : fields s = s.size := by simp [fields, h]
theorem fields_le (s : ByteArray) : fields s ≤ 8 := by
  unfold fields
  split
  · next h => exact one_size h
  · omega
theorem right_all {l : List ByteArray} (h : right l = true) (i : Nat) (hi : i < l.length) : one (at' l i) = true := by
  simp only [right, Bool.and_eq_true, List.all_eq_true] at h
  refine h.2 _ ?_
  rw [at', List.getD_eq_getElem?_getD, List.getElem?_eq_getElem hi]
  exact List.getElem_mem hi
theorem right_len {l : List ByteArray} (h : right l = true) : 1 ≤ l.length ∧ l.length ≤ 16 := by
  simp only [right, Bool.and_eq_true, decide_eq_true_eq] at h
  exact ⟨h.1.1, h.1.2⟩
theorem foldl_congr' {α β : Type} (f g : β → α → β) : ∀ (l : List α) (b : β), (∀ x ∈ l, ∀ c, f c x = g c x) → l.foldl f b = l.foldl g b
  | [], _, _ => rfl
  | a :: r, b, h => by
    simp only [List.foldl_cons]
    rw [h a (by simp) b]
    exact foldl_congr' f g r _ (fun x hx c => h x (by simp [hx]) c)
theorem mostF_right {l : List ByteArray} (h : right l = true) : mostF l = most l := by
  refine foldl_congr' _ _ l 0 (fun x hx c => ?_)
  simp only [right, Bool.and_eq_true, List.all_eq_true] at h
  rw [fields_one (h.2 x hx)]
/-- Folds over the first k of a list. -/
theorem take_succ_at {l : List ByteArray} {k : Nat} (h : k < l.length) : l.take (k + 1) = l.take k ++ [at' l k] := by
  rw [at', List.getD_eq_getElem?_getD, List.getElem?_eq_getElem h, Option.getD_some, List.take_succ_eq_append_getElem h]
theorem mostF_take {l : List ByteArray} {k : Nat} (h : k < l.length) : mostF (l.take (k + 1)) = max (mostF (l.take k)) (2 + (fields (at' l k) : Int)) := by
  rw [take_succ_at h]; simp [mostF]
theorem most_take {l : List ByteArray} {k : Nat} (h : k < l.length) : most (l.take (k + 1)) = max (most (l.take k)) (2 + ((at' l k).size : Int)) := by
  rw [take_succ_at h]; simp [most]
theorem foldl_max_bd (f : ByteArray → Int) (B : Int) : ∀ (l : List ByteArray) (m : Int), 0 ≤ m → m ≤ B → (∀ s, f s ≤ B) → 0 ≤ l.foldl (fun m s => max m (f s)) m ∧ l.foldl (fun m s => max m (f s)) m ≤ B
  | [], _, h0, h1, _ => ⟨h0, h1⟩
  | a :: r, m, h0, h1, hf => by
    have := hf a
    exact foldl_max_bd f B r _ (by show 0 ≤ max m (f a); omega) (by show max m (f a) ≤ B; omega) hf
theorem mostF_bd (l : List ByteArray) : 0 ≤ mostF l ∧ mostF l ≤ 10 :=
  foldl_max_bd (fun s => 2 + (fields s : Int)) 10 l 0 (by omega) (by omega) (fun s => by have := fields_le s; omega)
theorem all_take_false {l : List ByteArray} {k : Nat} (h : k < l.length) (hn : one (at' l k) = false) : l.all one = false := by
  rw [List.all_eq_false]
  refine ⟨at' l k, ?_, by simp [hn]⟩
  rw [at', List.getD_eq_getElem?_getD, List.getElem?_eq_getElem h]
  exact List.getElem_mem h
theorem all_of_at {l : List ByteArray} (h : ∀ k, k < l.length → one (at' l k) = true) : l.all one = true := by
  rw [List.all_eq_true]
  intro x hx
  obtain ⟨i, hi, rfl⟩ := List.mem_iff_getElem.1 hx
  have := h i hi
  rwa [at', List.getD_eq_getElem?_getD, List.getElem?_eq_getElem hi] at this

/-! ### Texts -/
def piece (s : ByteArray) : List UInt8 := if s.size = 0 then [45] else s.data.toList
def text (l : List ByteArray) : List UInt8 := l.foldl (fun t s => t ++ ((if t.length = 0 then [] else [32]) ++ piece s)) []
theorem piece_ne (s : ByteArray) : 1 ≤ (piece s).length := by
  unfold piece
  split
  · simp
  · next h => rw [Array.length_toList]; show 1 ≤ s.size; omega
theorem text_len : ∀ (l : List ByteArray) (t : List UInt8), t.length + l.length ≤ (l.foldl (fun t s => t ++ ((if t.length = 0 then [] else [32]) ++ piece s)) t).length
  | [], _ => by simp
  | a :: r, t => by
    have := text_len r (t ++ ((if t.length = 0 then [] else [32]) ++ piece a))
    have h2 := piece_ne a
    simp only [List.foldl_cons, List.length_append, List.length_cons] at this ⊢
    omega
theorem text_take {l : List ByteArray} {k : Nat} (h : k < l.length) : text (l.take (k + 1)) = text (l.take k) ++ ((if k = 0 then [] else [32]) ++ piece (at' l k)) := by
  rw [take_succ_at h]
  simp only [text, List.foldl_append, List.foldl_cons, List.foldl_nil]
  have h1 := text_len (l.take k) []
  by_cases hk : k = 0
  · subst hk; simp
  · rw [List.length_take] at h1
    have : ¬ ((l.take k).foldl (fun t s => t ++ ((if t.length = 0 then [] else [32]) ++ piece s)) []).length = 0 := by
      simp only [List.length_nil] at h1; omega
    rw [if_neg this, if_neg hk]
theorem piece_le (s : ByteArray) : (piece s).length ≤ s.size + 1 := by
  unfold piece
  split
  · simp
  · rw [Array.length_toList]; show s.size ≤ s.size + 1; omega
end Go.Sh
