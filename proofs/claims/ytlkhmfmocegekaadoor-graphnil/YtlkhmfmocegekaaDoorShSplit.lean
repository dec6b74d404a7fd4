/- Texts of tables: cut at the blanks, put together again; no model in it. -/
import Derived.Test.YtlkhmfmocegekaaDoorWdRtOn
import Derived.Lib.SplitLaws
namespace Go.Sh
/-- All parts of a text between its blanks. -/
def sp : List UInt8 → List (List UInt8)
  | [] => [[]]
  | c :: r => if c = 32 then [] :: sp r else match sp r with
    | [] => [[c]]
    | h :: t => (c :: h) :: t
def jn : List (List UInt8) → List UInt8
  | [] => []
  | [a] => a
  | a :: b :: r => a ++ 32 :: jn (b :: r)
theorem sp_ne : ∀ s, sp s ≠ []
  | [] => by simp [sp]
  | c :: r => by
    unfold sp
    split
    · simp
    · split <;> simp
theorem sp_cons_ne {c : UInt8} {r : List UInt8} (h : c ≠ 32) : ∃ x t, sp r = x :: t ∧ sp (c :: r) = (c :: x) :: t := by
  cases hs : sp r with
  | nil => exact absurd hs (sp_ne r)
  | cons x t => exact ⟨x, t, rfl, by rw [sp, if_neg h, hs]⟩
theorem jn_sp : ∀ s, jn (sp s) = s
  | [] => rfl
  | c :: r => by
    by_cases h : c = 32
    · subst h
      rw [sp, if_pos rfl]
      cases hs : sp r with
      | nil => exact absurd hs (sp_ne r)
      | cons x t =>
        rw [jn, ← hs, jn_sp r]
        rfl
    · obtain ⟨x, t, h1, h2⟩ := sp_cons_ne (r := r) h
      have := jn_sp r
      rw [h1] at this
      rw [h2]
      cases t with
      | nil => simp only [jn] at this ⊢; rw [this]
      | cons y t => simp only [jn, List.cons_append] at this ⊢; rw [this]
theorem sp_clear : ∀ {a : List UInt8}, (∀ c ∈ a, c ≠ 32) → sp a = [a]
  | [], _ => rfl
  | c :: a, h => by
    rw [sp, if_neg (h c (by simp)), sp_clear (a := a) (fun x hx => h x (by simp [hx]))]
theorem sp_append : ∀ {a : List UInt8} (r : List UInt8), (∀ c ∈ a, c ≠ 32) → sp (a ++ 32 :: r) = a :: sp r
  | [], r, _ => by simp [sp]
  | c :: a, r, h => by
    rw [List.cons_append, sp, if_neg (h c (by simp)), sp_append (a := a) r (fun x hx => h x (by simp [hx]))]
theorem sp_jn : ∀ {ps : List (List UInt8)}, ps ≠ [] → (∀ p ∈ ps, ∀ c ∈ p, c ≠ 32) → sp (jn ps) = ps
  | [], h, _ => absurd rfl h
  | [a], _, h => by rw [jn, sp_clear (h a (by simp))]
  | a :: b :: r, _, h => by
    rw [jn, sp_append _ (h a (by simp)), sp_jn (ps := b :: r) (by simp) (fun p hp => h p (by simp at hp ⊢; right; exact hp))]
theorem sp_length : ∀ s : List UInt8, (sp s).length = s.count 32 + 1
  | [] => rfl
  | c :: r => by
    by_cases h : c = 32
    · subst h
      rw [sp, if_pos rfl, List.length_cons, sp_length r]
      simp
    · obtain ⟨x, t, h1, h2⟩ := sp_cons_ne (r := r) h
      have := sp_length r
      rw [h1, List.length_cons] at this
      rw [h2, List.length_cons, this, List.count_cons_of_ne (by simpa using h)]
/-- The first blank. -/
theorem index_blank : ∀ s : List UInt8, (Lib.index s [32] = -1 ∧ ∀ c ∈ s, c ≠ 32) ∨ ∃ a r, s = a ++ 32 :: r ∧ (∀ c ∈ a, c ≠ 32) ∧ Lib.index s [32] = (a.length : Int)
  | [] => .inl ⟨rfl, by simp⟩
  | c :: s => by
    by_cases h : c = 32
    · subst h
      right
      exact ⟨[], s, rfl, by simp, by simp [Lib.index, List.isPrefixOf]⟩
    · have hp : List.isPrefixOf [32] (c :: s) = false := by
        have : ((32 : UInt8) == c) = false := by simpa using fun e => h e.symm
        simp [List.isPrefixOf, this]
      rcases index_blank s with ⟨h1, h2⟩ | ⟨a, r, rfl, h2, h3⟩
      · left
        refine ⟨by simp [Lib.index, hp, h1], fun x hx => ?_⟩
        simp at hx
        rcases hx with rfl | hx
        · exact h
        · exact h2 x hx
      · right
        refine ⟨c :: a, r, rfl, fun x hx => ?_, ?_⟩
        · simp at hx
          rcases hx with rfl | hx
          · exact h
          · exact h2 x hx
        · rw [Lib.index, hp]
          have : ¬ (Lib.index (a ++ 32 :: r) [32] == -1) = true := by rw [h3]; simp
          rw [if_neg (by simp), if_neg this, h3]
          simp
theorem splitK_all : ∀ (k : Nat) (s : List UInt8), s.count 32 ≤ k → Lib.splitK [32] 0 k s = sp s
  | 0, s, h => by
    have : ∀ c ∈ s, c ≠ 32 := by
      intro c hc e
      subst e
      have := List.count_pos_iff.2 hc
      omega
    rw [sp_clear this]; rfl
  | k + 1, s, h => by
    unfold Lib.splitK
    rcases index_blank s with ⟨h1, h2⟩ | ⟨a, r, rfl, h2, h3⟩
    · rw [if_pos (by rw [h1]; rfl), sp_clear h2]
    · have : ¬ (Lib.index (a ++ 32 :: r) [32] == -1) = true := by rw [h3]; simp
      rw [if_neg this, h3, sp_append r h2]
      have hc : (a ++ 32 :: r).count 32 = r.count 32 + 1 := by
        rw [List.count_append, List.count_cons_self, List.count_eq_zero.2 (fun hm => h2 32 hm rfl)]
        omega
      have e1 : (a ++ 32 :: r).take ((a.length : Int).toNat + 0) = a := by simp
      have e2 : (a ++ 32 :: r).drop ((a.length : Int).toNat + [(32 : UInt8)].length) = r := by simp
      rw [e1, e2, splitK_all k r (by omega)]
theorem splitK_more : ∀ (k : Nat) (s : List UInt8), k < s.count 32 → (Lib.splitK [32] 0 k s).length = k + 1
  | 0, _, _ => rfl
  | k + 1, s, h => by
    unfold Lib.splitK
    rcases index_blank s with ⟨h1, h2⟩ | ⟨a, r, rfl, h2, h3⟩
    · exfalso
      have := List.count_eq_zero.2 (fun hm => h2 32 hm rfl)
      omega
    · have : ¬ (Lib.index (a ++ 32 :: r) [32] == -1) = true := by rw [h3]; simp
      rw [if_neg this, h3]
      have hc : (a ++ 32 :: r).count 32 = r.count 32 + 1 := by
        rw [List.count_append, List.count_cons_self, List.count_eq_zero.2 (fun hm => h2 32 hm rfl)]
        omega
      have e2 : (a ++ 32 :: r).drop ((a.length : Int).toNat + [(32 : UInt8)].length) = r := by simp
      rw [e2, List.length_cons, splitK_more k r (by omega)]
def bs (l : List UInt8) : ByteArray := ⟨l.toArray⟩
theorem bs_data (l : List UInt8) : (bs l).data.toList = l := rfl
theorem bs_of (s : ByteArray) : bs s.data.toList = s := rfl
def spB (s : ByteArray) : List ByteArray := (sp s.data.toList).map bs
/-- What SplitN hands back, at 17. -/
def parts (s : ByteArray) : List ByteArray := Lib.splitB ⟨#[32]⟩ 0 (min 17 (s.size + 1) - 1) s
theorem parts_data (s : ByteArray) : (parts s).map (·.data.toList) = Lib.splitK [32] 0 (min 17 (s.size + 1) - 1) s.data.toList := Lib.splitB_data _ _ _ _
theorem count_le_size (s : ByteArray) : s.data.toList.count 32 ≤ s.size := by
  have := List.count_le_length (a := (32 : UInt8)) (l := s.data.toList)
  rwa [Array.length_toList] at this
theorem parts_few {s : ByteArray} (h : (parts s).length ≤ 16) : parts s = spB s := by
  have hd := parts_data s
  have hc := count_le_size s
  by_cases hk : s.data.toList.count 32 ≤ min 17 (s.size + 1) - 1
  · rw [splitK_all _ _ hk] at hd
    rw [spB, ← hd, List.map_map]
    exact (List.map_id'' (fun x => rfl) _).symm
  · exfalso
    have := splitK_more (min 17 (s.size + 1) - 1) s.data.toList (by omega)
    rw [← hd, List.length_map] at this
    omega
theorem parts_many {s : ByteArray} (h : 16 < (parts s).length) : 16 < (spB s).length := by
  have hd := parts_data s
  rw [spB, List.length_map, sp_length]
  by_cases hk : s.data.toList.count 32 ≤ min 17 (s.size + 1) - 1
  · rw [splitK_all _ _ hk] at hd
    have := congrArg List.length hd
    rw [List.length_map, sp_length] at this
    omega
  · have := splitK_more (min 17 (s.size + 1) - 1) s.data.toList (by omega)
    have h2 := congrArg List.length hd
    rw [List.length_map] at h2
    omega
/-- May it stand in a table's text? And for which shape? -/
def okT (p : ByteArray) : Bool := (p.data.toList == [45]) || (decide (1 ≤ p.size) && one p)
def vT (p : ByteArray) : ByteArray := if p.data.toList = [45] then ByteArray.empty else p
def rdOk (s : ByteArray) : Bool := decide ((spB s).length ≤ 16) && (spB s).all okT
def rdV (s : ByteArray) : List ByteArray := (spB s).map vT
def rdT (s : ByteArray) : List ByteArray := if rdOk s then rdV s else []
theorem okT_size {p : ByteArray} (h : okT p = true) : p.size ≤ 8 := by
  simp only [okT, Bool.or_eq_true, beq_iff_eq, Bool.and_eq_true] at h
  rcases h with h | h
  · have := congrArg List.length h
    rw [Array.length_toList] at this
    have : p.size = 1 := this
    omega
  · exact one_size h.2
theorem okT_one {p : ByteArray} (h : okT p = true) : one (vT p) = true := by
  simp only [okT, Bool.or_eq_true, beq_iff_eq, Bool.and_eq_true] at h
  unfold vT
  split
  · rfl
  · rcases h with h | h
    · contradiction
    · exact h.2
theorem okT_piece {p : ByteArray} (h : okT p = true) : piece (vT p) = p.data.toList := by
  simp only [okT, Bool.or_eq_true, beq_iff_eq, Bool.and_eq_true, decide_eq_true_eq] at h
  unfold vT
  split
  · next h2 => rw [h2]; rfl
  · rcases h with h | h
    · contradiction
    · unfold piece
      rw [if_neg (by omega)]
theorem okT_iff (p : ByteArray) : okT p = (decide (1 ≤ p.size) && one (vT p)) := by
  by_cases h : p.data.toList = [45]
  · have : p.size = 1 := by
      have := congrArg List.length h
      rwa [Array.length_toList] at this
    have e1 : okT p = true := by simp [okT, h]
    rw [e1, okT_one e1]
    simp [this]
  · simp [okT, vT, h]
theorem rdV_right {s : ByteArray} (h : rdOk s = true) : right (rdV s) = true := by
  simp only [rdOk, Bool.and_eq_true, decide_eq_true_eq, List.all_eq_true] at h
  simp only [right, rdV, Bool.and_eq_true, decide_eq_true_eq, List.all_eq_true, List.length_map]
  refine ⟨⟨?_, h.1⟩, ?_⟩
  · rw [spB, List.length_map, sp_length]; omega
  · intro x hx
    obtain ⟨p, hp, rfl⟩ := List.mem_map.1 hx
    exact okT_one (h.2 p hp)
/-! ### text is jn of the pieces -/
theorem text_go : ∀ (l : List ByteArray) (t : List UInt8), t.length ≠ 0 → l.foldl (fun t s => t ++ ((if t.length = 0 then [] else [32]) ++ piece s)) t = jn (t :: l.map piece)
  | [], t, _ => rfl
  | a :: r, t, h => by
    rw [List.foldl_cons, text_go r _ (by rw [List.length_append]; omega), if_neg h]
    cases hr : r.map piece with
    | nil => simp [jn, hr]
    | cons b q => simp [jn, hr]
theorem text_jn (l : List ByteArray) : text l = jn (l.map piece) := by
  cases l with
  | nil => rfl
  | cons a r =>
    have := piece_ne a
    rw [text, List.foldl_cons, text_go r _ (by rw [List.length_append, List.length_append]; omega)]
    simp
theorem map_piece {ps : List ByteArray} (h : ∀ p ∈ ps, okT p = true) : (ps.map vT).map piece = ps.map (·.data.toList) := by
  rw [List.map_map]
  apply List.map_congr_left
  intro p hp
  exact okT_piece (h p hp)
theorem text_rd {s : ByteArray} (h : rdOk s = true) : text (rdV s) = s.data.toList := by
  simp only [rdOk, Bool.and_eq_true, List.all_eq_true] at h
  rw [text_jn, rdV, map_piece h.2, spB, List.map_map]
  have : (sp s.data.toList).map ((fun x : ByteArray => x.data.toList) ∘ bs) = sp s.data.toList := List.map_id'' (fun x => rfl) _
  rw [this, jn_sp]
theorem piece_clear {s : ByteArray} (h : one s = true) : ∀ c ∈ piece s, c ≠ 32 := by
  intro c hc e
  subst e
  unfold piece at hc
  split at hc
  · simp at hc
  · simp only [one, Bool.and_eq_true, List.all_eq_true] at h
    have := h.2 _ hc
    simp [okB] at this
theorem piece_okT {s : ByteArray} (h : one s = true) : okT (bs (piece s)) = true ∧ vT (bs (piece s)) = s := by
  unfold piece
  split
  · next h0 =>
    refine ⟨rfl, ?_⟩
    have : s = ByteArray.empty := by
      apply ByteArray.ext
      exact Array.eq_empty_of_size_eq_zero h0
    rw [this]; rfl
  · next h0 =>
    have hs : bs s.data.toList = s := rfl
    rw [hs]
    have h45 : ¬ s.data.toList = [45] := by
      intro e
      simp only [one, Bool.and_eq_true, List.all_eq_true] at h
      have := h.2 45 (by rw [e]; simp)
      simp [okB] at this
    refine ⟨?_, ?_⟩
    · simp only [okT, Bool.or_eq_true, Bool.and_eq_true, decide_eq_true_eq]
      right
      exact ⟨by omega, h⟩
    · simp [vT, h45]
/-- Read of Text is the table. -/
theorem rd_text {l : List ByteArray} (h : right l = true) : rdOk ⟨(text l).toArray⟩ = true ∧ rdV ⟨(text l).toArray⟩ = l := by
  have hl := right_len h
  have hall : ∀ s ∈ l, one s = true := by
    simp only [right, Bool.and_eq_true, List.all_eq_true] at h
    exact h.2
  have hsp : spB ⟨(text l).toArray⟩ = l.map (fun s => bs (piece s)) := by
    rw [spB]
    show (sp (text l)).map bs = _
    rw [text_jn, sp_jn, List.map_map]
    · rfl
    · intro e
      have := congrArg List.length e
      simp at this
      subst this
      simp at hl
    · intro p hp
      obtain ⟨s, hs, rfl⟩ := List.mem_map.1 hp
      exact piece_clear (hall s hs)
  refine ⟨?_, ?_⟩
  · rw [rdOk, hsp]
    simp only [Bool.and_eq_true, decide_eq_true_eq, List.length_map, List.all_eq_true]
    refine ⟨hl.2, fun x hx => ?_⟩
    obtain ⟨s, hs, rfl⟩ := List.mem_map.1 hx
    exact (piece_okT (hall s hs)).1
  · rw [rdV, hsp, List.map_map]
    have : ∀ s ∈ l, (vT ∘ fun s => bs (piece s)) s = id s := fun s hs => (piece_okT (hall s hs)).2
    rw [List.map_congr_left this]
    simp
theorem jn_len : ∀ (ps : List (List UInt8)), (∀ p ∈ ps, p.length ≤ 8) → (jn ps).length ≤ 9 * ps.length
  | [], _ => by simp [jn]
  | [a], h => by
    have := h a (by simp)
    simp [jn]; omega
  | a :: b :: r, h => by
    have h1 := h a (by simp)
    have h2 := jn_len (b :: r) (fun p hp => h p (by simp at hp ⊢; right; exact hp))
    simp only [jn, List.length_append, List.length_cons] at h2 ⊢
    omega
/-- A text that is a table's is short. -/
theorem rdOk_short {s : ByteArray} (h : rdOk s = true) : s.size ≤ 144 := by
  simp only [rdOk, Bool.and_eq_true, decide_eq_true_eq, List.all_eq_true] at h
  have hj := jn_sp s.data.toList
  have h2 := jn_len (sp s.data.toList) (fun p hp => by
    have := okT_size (h.2 (bs p) (List.mem_map.2 ⟨p, hp, rfl⟩))
    exact this)
  rw [hj, Array.length_toList] at h2
  have h3 := h.1
  rw [spB, List.length_map] at h3
  have : s.size = s.data.size := rfl
  omega
theorem sp_le : ∀ (s p : List UInt8), p ∈ sp s → p.length ≤ s.length
  | [], p, h => by simp [sp] at h; subst h; simp
  | c :: r, p, h => by
    by_cases hc : c = 32
    · subst hc
      rw [sp, if_pos rfl] at h
      simp only [List.mem_cons] at h
      rcases h with rfl | h
      · simp
      · have := sp_le r p h
        simp; omega
    · obtain ⟨x, t, h1, h2⟩ := sp_cons_ne (r := r) hc
      rw [h2] at h
      simp only [List.mem_cons] at h
      rcases h with rfl | h
      · have := sp_le r x (by rw [h1]; simp)
        simp; omega
      · have := sp_le r p (by rw [h1]; simp [h])
        simp; omega
theorem spB_size (s p : ByteArray) (h : p ∈ spB s) : p.size ≤ s.size := by
  obtain ⟨l, hl, rfl⟩ := List.mem_map.1 h
  have := sp_le _ _ hl
  rwa [Array.length_toList] at this
/-- While the text is gone over: the parts that are done, what lies behind them, and no blank since the last one. -/
def RI (L : List UInt8) (b i : Nat) (dn : List (List UInt8)) : Prop := b ≤ i ∧ i ≤ L.length ∧ sp L = dn ++ sp (L.drop b) ∧ ∀ c ∈ (L.drop b).take (i - b), c ≠ 32
theorem RI_start (L : List UInt8) : RI L 0 0 [] := ⟨Nat.le_refl _, Nat.zero_le _, rfl, by simp⟩
theorem cut_at {L : List UInt8} {b i : Nat} (hb : b ≤ i) (hi : i < L.length) : L.drop b = (L.drop b).take (i - b) ++ L[i] :: L.drop (i + 1) := by
  conv => lhs; rw [← List.take_append_drop (i - b) (L.drop b)]
  rw [List.drop_drop, show b + (i - b) = i by omega, List.drop_eq_getElem_cons hi]
theorem RI_step {L : List UInt8} {b i : Nat} {dn : List (List UInt8)} (h : RI L b i dn) (hi : i < L.length) (hc : L[i] ≠ 32) : RI L b (i + 1) dn := by
  obtain ⟨h1, h2, h3, h4⟩ := h
  refine ⟨by omega, by omega, h3, fun c hm => ?_⟩
  have e : (L.drop b).take (i + 1 - b) = (L.drop b).take (i - b) ++ [L[i]] := by
    rw [show i + 1 - b = (i - b) + 1 by omega, List.take_succ_eq_append_getElem (by rw [List.length_drop]; omega)]
    simp [show b + (i - b) = i by omega]
  rw [e] at hm
  simp only [List.mem_append, List.mem_singleton] at hm
  rcases hm with hm | rfl
  · exact h4 c hm
  · exact hc
theorem RI_blank {L : List UInt8} {b i : Nat} {dn : List (List UInt8)} (h : RI L b i dn) (hi : i < L.length) (hc : L[i] = 32) : RI L (i + 1) (i + 1) (dn ++ [(L.drop b).take (i - b)]) := by
  obtain ⟨h1, h2, h3, h4⟩ := h
  refine ⟨Nat.le_refl _, by omega, ?_, by simp⟩
  rw [h3, List.append_assoc, List.singleton_append]
  congr 1
  have e := cut_at h1 hi
  rw [hc] at e
  conv => lhs; rw [e]
  exact sp_append _ h4
theorem RI_end {L : List UInt8} {b : Nat} {dn : List (List UInt8)} (h : RI L b L.length dn) : sp L = dn ++ [(L.drop b).take (L.length - b)] := by
  obtain ⟨h1, h2, h3, h4⟩ := h
  have e : (L.drop b).take (L.length - b) = L.drop b := List.take_of_length_le (by rw [List.length_drop]; exact Nat.le_refl _)
  rw [e] at h4 ⊢
  rw [h3, sp_clear h4]
theorem all_map' {α β : Type} (f : α → β) (p : β → Bool) (l : List α) : (l.map f).all p = l.all (fun x => p (f x)) := by
  rw [List.all_map]; rfl
theorem rdOk_right {s : ByteArray} (h : ∀ p ∈ spB s, 1 ≤ p.size) : rdOk s = right (rdV s) := by
  have e : (spB s).all okT = (spB s).all (fun p => one (vT p)) := by
    rw [Bool.eq_iff_iff, List.all_eq_true, List.all_eq_true]
    constructor
    · intro h2 p hp
      have := h2 p hp
      rw [okT_iff, Bool.and_eq_true] at this
      exact this.2
    · intro h2 p hp
      rw [okT_iff, Bool.and_eq_true]
      exact ⟨by simpa using h p hp, h2 p hp⟩
  have hl : 1 ≤ (spB s).length := by rw [spB, List.length_map, sp_length]; omega
  rw [rdOk, right, rdV, all_map', List.length_map, e]
  simp [hl]
theorem rdOk_empty {s p : ByteArray} (hp : p ∈ spB s) (h : p.size = 0) : rdOk s = false := by
  simp only [rdOk, Bool.and_eq_false_iff]
  right
  rw [List.all_eq_false]
  refine ⟨p, hp, ?_⟩
  rw [okT_iff]
  simp [h]
theorem at_mem {l : List ByteArray} {k : Nat} (h : k < l.length) : at' l k ∈ l := by
  rw [at', List.getD_eq_getElem?_getD, List.getElem?_eq_getElem h]
  exact List.getElem_mem h
end Go.Sh
