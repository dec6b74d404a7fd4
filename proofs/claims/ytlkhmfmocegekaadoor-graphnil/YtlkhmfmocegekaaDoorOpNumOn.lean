/- package op: a number read of a word. -/
import Derived.Test.YtlkhmfmocegekaaDoorOpLeafOn
import Derived.Test.YtlkhmfmocegekaaDoorShelf
import Derived.LaidEql
import Derived.ChangeBears2
import Derived.Test.YtlkhmfmocegekaaDoorShAll
import Derived.Test.YtlkhmfmocegekaaDoorShTop
import Derived.Test.YtlkhmfmocegekaaDoorOpMathBOn
import Derived.Test.YtlkhmfmocegekaaDoorOpFace
import Derived.Laws.OwnMore
import Derived.Test.YtlkhmfmocegekaaDoorShSizeOn
import Derived.RangeFuncBox
import Derived.Maps.AppendAt
namespace Go.Proofs.YtlkhmfmocegekaaDoor
open Go.RowKit Go.Oq
theorem whl_parse {l : List UInt8} {v : Int} (h : Lib.parseIntB 64 l = .ok v) (hi : Lib.itoa v = l) : whl l = some v := by simp [whl, h, hi]
theorem whl_parse_no {l : List UInt8} {v : Int} (h : Lib.parseIntB 64 l = .ok v) (hi : ¬ Lib.itoa v = l) : whl l = none := by simp [whl, h, hi]
/-- A number was written at one place of a block, beside new memory. -/
def Wrote (w : World) (g j : Nat) (v : Int) (w' : World) : Prop := ∃ w1, Below w.heap.size w w1 ∧ Below w.heap.size (w1.setCell ⟨g, j, none⟩ (.int .i64 v)) w'
theorem Wrote.other {w w' : World} {g j : Nat} {v : Int} (h : Wrote w g j v w') {k : Nat} (hk : k < w.heap.size) (hne : k ≠ g) : w'.heap[k]? = w.heap[k]? := by
  obtain ⟨w1, b1, b2⟩ := h
  rw [b2.block k hk, heap_setCell_other _ _ _ _ hne, b1.block k hk]
theorem Wrote.size {w w' : World} {g j : Nat} {v : Int} (h : Wrote w g j v w') : w.heap.size ≤ w'.heap.size := by
  obtain ⟨w1, b1, b2⟩ := h
  have h1 := b1.size
  have h2 := b2.size
  have h3 : (w1.setCell ⟨g, j, none⟩ (.int .i64 v)).heap.size = w1.heap.size := by simp [World.setCell]
  omega
theorem Wrote.below {w w' A : World} {g j B : Nat} {v : Int} (h : Wrote w g j v w') (hA : Below B A w) (hB : B ≤ w.heap.size) (hg : B ≤ g) : Below B A w' := by
  obtain ⟨w1, b1, b2⟩ := h
  exact ((hA.trans (b1.mono hB)).setCell (p := ⟨g, j, none⟩) hg _).trans (b2.mono hB)
theorem tab_set {w : World} (hT : Tab w) {g j : Nat} {z : Int} (hc : w.cell? ⟨g, j, none⟩ = some (.int .i64 z)) (v : Value) : Tab (w.setCell ⟨g, j, none⟩ v) := by
  obtain ⟨gt, hg, _⟩ := tab_lt hT
  have hT2 := hT
  unfold Tab Lib.TabIs at hT2 ⊢
  by_cases hne : g = gt
  · exfalso
    subst hne
    simp only [World.var?, hg, Option.bind_some] at hT2
    simp only [World.cell?] at hc
    cases hh : w.heap[g]? with
    | none => rw [hh] at hc; simp at hc
    | some o =>
      rw [hh] at hT2 hc
      cases o with
      | cells cs t fr =>
        simp only [Option.some.injEq] at hT2
        subst hT2
        simp at hc
      | _ => simp at hT2
  · rw [var?_setCell_other hg hne]
    exact hT2
theorem wrote_mk {w w1 w2 : World} {g j : Nat} {v : Int} (b1 : Below w.heap.size w w1) (b2 : Below (w1.setCell ⟨g, j, none⟩ (.int .i64 v)).heap.size (w1.setCell ⟨g, j, none⟩ (.int .i64 v)) w2) : Wrote w g j v w2 := by
  refine ⟨w1, b1, b2.mono ?_⟩
  have h1 := b1.size
  have h3 : (w1.setCell ⟨g, j, none⟩ (.int .i64 v)).heap.size = w1.heap.size := by simp [World.setCell]
  omega
theorem whl_bad {s : ByteArray} {v : Int} (h : Lib.parseIntB 64 s.data.toList = .ok v) (hw : whl s.data.toList = none) : ((dgB v).toList == s.toList) = false := by
  rw [str_beq, decide_eq_false_iff_not]
  intro e
  rw [whl_parse h (by rw [← e]; rfl)] at hw
  cases hw
end Go.Proofs.YtlkhmfmocegekaaDoor
/- package op: strings.Cut at a blank; words: the iterator over a text's words. -/
namespace Go.Oq
open Go.Sh Go.Lib
/-- The text ahead of the first blank, that behind it, and whether there is one. -/
def ctW (s : ByteArray) : ByteArray := ⟨(Lib.cut s.data.toList [32]).1.toArray⟩
def ctR (s : ByteArray) : ByteArray := ⟨(Lib.cut s.data.toList [32]).2.1.toArray⟩
def ctM (s : ByteArray) : Bool := (Lib.cut s.data.toList [32]).2.2
theorem ct_sp (s : ByteArray) : spB s = ctW s :: (if ctM s then spB (ctR s) else []) := by
  have key : ∀ L : List UInt8, sp L = (Lib.cut L [32]).1 :: (if (Lib.cut L [32]).2.2 then sp (Lib.cut L [32]).2.1 else []) := by
    intro L
    rcases index_blank L with ⟨h1, h2⟩ | ⟨a, r, rfl, h2, h3⟩
    · unfold Lib.cut
      rw [h1, if_neg (by omega), sp_clear h2]
      rfl
    · unfold Lib.cut
      rw [h3, if_pos (by omega)]
      have e1 : (a ++ 32 :: r).take ((a.length : Int).toNat) = a := by simp
      have e2 : (a ++ 32 :: r).drop ((a.length : Int).toNat + [(32 : UInt8)].length) = r := by simp
      show sp (a ++ 32 :: r) = (a ++ 32 :: r).take _ :: (if true = true then sp ((a ++ 32 :: r).drop _) else [])
      rw [e1, e2, if_pos rfl]
      exact sp_append r h2
  unfold spB
  rw [key s.data.toList, List.map_cons]
  unfold ctW ctR ctM
  congr 1
  split <;> rfl
theorem ct_size (s : ByteArray) (h : ctM s = true) : (ctR s).size < s.size := by
  have key : ∀ L : List UInt8, (Lib.cut L [32]).2.2 = true → (Lib.cut L [32]).2.1.length < L.length := by
    intro L hm
    rcases index_blank L with ⟨h1, h2⟩ | ⟨a, r, rfl, h2, h3⟩
    · unfold Lib.cut at hm
      rw [h1, if_neg (by omega)] at hm
      cases hm
    · unfold Lib.cut
      rw [h3, if_pos (by omega)]
      have e2 : (a ++ 32 :: r).drop ((a.length : Int).toNat + [(32 : UInt8)].length) = r := by simp
      show ((a ++ 32 :: r).drop _).length < _
      rw [e2]
      simp; omega
  have := key s.data.toList h
  rwa [Array.length_toList] at this
theorem ctR_le (s : ByteArray) : (ctR s).size ≤ s.size := by
  cases h : ctM s with
  | true => have := ct_size s h; omega
  | false =>
    have key : ∀ L : List UInt8, (Lib.cut L [32]).2.2 = false → (Lib.cut L [32]).2.1 = [] := by
      intro L hm
      unfold Lib.cut at hm ⊢
      split at hm
      · cases hm
      · next h0 => rw [if_neg h0]
    have := key s.data.toList h
    have h2 : (ctR s).size = (Lib.cut s.data.toList [32]).2.1.length := rfl
    rw [h2, this]
    simp
end Go.Oq
namespace Go.Proofs.YtlkhmfmocegekaaDoor
open Go.RowKit Go.Oq Go.Sh Go.Shelf
abbrev encW (x : ByteArray) : Array Value := #[.string x]
/-- What is left to go over. -/
def mzW (r b : Value) : Nat := match b with
  | .bool true => (match r with | .string x => x.size + 1 | _ => 0)
  | _ => 0
theorem spB_ne (s : ByteArray) : spB s ≠ [] := by rw [ct_sp]; simp
attribute [local go_sem] Oper.semAt_some
end Go.Proofs.YtlkhmfmocegekaaDoor
/- strings.Builder at this program: copyCheck (its other way is barred by the translation: no run of ours comes there), WriteString; textOf, Text. -/
namespace Go.Proofs.YtlkhmfmocegekaaDoor
open Go.RowKit Go.Sh
theorem u8_info : (Tryd.prog.info? 5).map (fun i => (i.zero, i.size, i.bytes)) = some (some (.int .u8 0), 1, 1) := by kernel_rfl
end Go.Proofs.YtlkhmfmocegekaaDoor
/- strings.Join of two to five texts, one blank between. -/
set_option linter.unusedVariables false
namespace Go.Oq
open Go.Sh
/-- The texts up to one, one blank between. -/
def jq (xs : List ByteArray) : Nat → List UInt8
  | 0 => (at' xs 0).data.toList
  | k + 1 => jq xs k ++ [32] ++ (at' xs (k + 1)).data.toList
theorem bsize' (x : ByteArray) : x.data.toList.length = x.size := by rw [Array.length_toList]; rfl
theorem jq_le (xs : List ByteArray) (h : ∀ i, (at' xs i).size ≤ 1000) : ∀ k, (jq xs k).length ≤ 1000 + 1001 * k
  | 0 => by rw [jq, bsize']; have := h 0; omega
  | k + 1 => by
    have := jq_le xs h k
    have h2 := h (k + 1)
    rw [jq, List.length_append, List.length_append, bsize']
    simp only [List.length_cons, List.length_nil]
    omega
theorem jn_snoc : ∀ (l : List (List UInt8)) (x : List UInt8), l ≠ [] → jn (l ++ [x]) = jn l ++ [32] ++ x
  | [], _, h => absurd rfl h
  | [a], x, _ => by simp [jn]
  | a :: b :: r, x, _ => by
    have := jn_snoc (b :: r) x (by simp)
    simp only [List.cons_append, jn] at this ⊢
    rw [this]
    simp
theorem jq_jn (xs : List ByteArray) : ∀ k, k < xs.length → jq xs k = jn ((xs.take (k + 1)).map (·.data.toList))
  | 0, h => by
    cases xs with
    | nil => simp at h
    | cons a r => simp [jq, jn, at']
  | k + 1, h => by
    rw [jq, jq_jn xs k (by omega), List.take_succ_eq_append_getElem (i := k + 1) h, List.map_append, List.map_cons, List.map_nil, jn_snoc _ _ (by
      intro e
      have := congrArg List.length e
      rw [List.length_map, List.length_take, List.length_nil] at this
      omega)]
    congr 2
    rw [at', List.getD_eq_getElem?_getD, List.getElem?_eq_getElem h]; rfl
theorem jq_all (xs : List ByteArray) (h : 0 < xs.length) : jq xs (xs.length - 1) = jn (xs.map (·.data.toList)) := by
  rw [jq_jn xs _ (by omega), List.take_of_length_le (by omega)]
end Go.Oq
namespace Go.Proofs.YtlkhmfmocegekaaDoor
open Go.RowKit Go.Oq Go.Sh
end Go.Proofs.YtlkhmfmocegekaaDoor
/- package op: Text. Typed by tools/gen08text.py. -/
set_option linter.unusedVariables false
namespace Go.Proofs.YtlkhmfmocegekaaDoor
open Go.RowKit Go.Oq Go.Sh
theorem qcell_new1 (w : World) (v : Value) (t : TypeId) : ∀ j u, [v][j]? = some u → (w.alloc (.cells #[v] t)).cell? ((⟨w.heap.size, 0, none⟩ : Addr).add j) = some u := by
  intro j u hu
  obtain ⟨rfl, rfl⟩ : j = 0 ∧ v = u := by
    cases j with
    | zero => simpa using hu
    | succ n => simp at hu
  exact cell_last w _ _ 0 _ rfl
/-- The texts up to one, as values. -/
def qstrs (xs : List ByteArray) (k : Nat) : List Value := (List.range k).map fun i => .string (at' xs i)
theorem qstrs_succ (xs : List ByteArray) (k : Nat) : qstrs xs (k + 1) = qstrs xs k ++ [.string (at' xs k)] := by simp [qstrs, List.range_succ]
theorem qstrs_get (xs : List ByteArray) (k i : Nat) (h : i < k) : (qstrs xs k)[i]? = some (.string (at' xs i)) := by simp [qstrs, h]
theorem qown_split {w : World} {B : Nat} {v : Value} {k : Nat} {vs : List Value} (h : w.ownsRow B 9 1 v (k + 1) vs) : ∃ g cap, v = .slice (some ⟨g, 0, none⟩) (k + 1) cap ∧ k + 1 ≤ cap ∧ B ≤ g ∧ ∃ cur, w.heap[g]? = some (.cells cur 9) := by
  rcases h.2 with ⟨_, h0⟩ | ⟨g, cap, cur, e, hB, hg, hc, _⟩
  · omega
  · exact ⟨g, cap, e, hc, hB, cur, hg⟩
theorem qstr_info : (Tryd.prog.info? 9).map (fun i => (i.zero, i.size, i.bytes)) = some (some (.string ⟨#[]⟩), 1, 16) := by kernel_rfl
theorem o_size (f : Nat → Int) : (Tryd.prog.info? 151).map (·.size) = some (row f).size := by kernel_rfl
theorem wds_len (f : Nat → Int) : (wds f).length = 1 + (alln (f 0).toNat).length := by simp [wds]; omega
theorem wds_head (f : Nat → Int) : at' (wds f) 0 = nam (f 0).toNat := rfl
theorem wds_num (f : Nat → Int) {K k : Nat} (hK : (f 0).toNat = K) (h : k < (nums K).length) : at' (wds f) (k + 1) = dgB (f ((nums K).getD k 0)) := by
  rw [wds, hK]
  show ((alln K).map fun j => dgB (f j)).getD k ByteArray.empty = _
  rw [List.getD_eq_getElem?_getD, List.getElem?_map, alln, List.getElem?_append_left h, List.getD_eq_getElem?_getD, List.getElem?_eq_getElem h]
  rfl
theorem wds_sca (f : Nat → Int) {K k : Nat} (hK : (f 0).toNat = K) (h : k < (scas K).length) : at' (wds f) ((nums K).length + k + 1) = dgB (f ((scas K).getD k 0)) := by
  rw [wds, hK]
  show ((alln K).map fun j => dgB (f j)).getD ((nums K).length + k) ByteArray.empty = _
  rw [List.getD_eq_getElem?_getD, List.getElem?_map, alln, List.getElem?_append_right (by omega), Nat.add_sub_cancel_left, List.getD_eq_getElem?_getD, List.getElem?_eq_getElem h]
  rfl
theorem wds_size {f : Nat → Int} (hr : rng f) : ∀ i, (at' (wds f) i).size ≤ 1000 := by
  intro i
  have he : (ByteArray.empty).size = 0 := rfl
  rw [at', List.getD_eq_getElem?_getD]
  cases h : (wds f)[i]? with
  | none => show (ByteArray.empty).size ≤ 1000; omega
  | some x =>
    have hm := List.mem_of_getElem? h
    rw [wds, List.mem_cons, List.mem_map] at hm
    show x.size ≤ 1000
    rcases hm with rfl | ⟨j, hj, rfl⟩
    · have := nam_size (f 0).toNat
      omega
    · have := hr j (alln_lt _ j hj).2
      have := dgB_size this.1 this.2
      omega
theorem setRow_last2 (w : World) (A : Obj) (old cs : Array Value) (t : TypeId) : ((w.alloc A).alloc (.cells old t)).setRow (w.heap.size + 1) cs = (w.alloc A).alloc (.cells cs t) := by
  rw [← size_alloc w A]
  exact World.setRow_alloc_new _ _ _ _
theorem halloc2 (w : World) (A B : Obj) : ((w.alloc A).alloc B).heap[w.heap.size]? = some A := row2a (Below.refl _ _)
theorem halloc2b (w : World) (A B : Obj) : ((w.alloc A).alloc B).heap[w.heap.size + 1]? = some B := row2b (Below.refl _ _)
end Go.Proofs.YtlkhmfmocegekaaDoor
/- package op: firstWords. -/
namespace Go.Proofs.YtlkhmfmocegekaaDoor
open Go.RowKit Go.Oq Go.Sh Go.Shelf
attribute [local go_sem] Oper.semAt_some
theorem oown_kept {A B : World} {row : Option Nat} {base k : Nat} {e : TypeId} {size : Nat} {v : Value} {vs : List Value} (hr : A.ownsRow base e size v k vs) (hg : A.grownBy B row) (hrow : ∀ r, row = some r → ∃ o : Obj, A.heap[r]? = some o ∧ o.isCells = false) : B.ownsRow base e size v k vs := by
  refine hr.kept hg ?_
  rcases hr.2 with ⟨rfl, _⟩ | ⟨g, cap, cur, rfl, _, hgb, _⟩
  · exact .inl rfl
  · refine .inr fun e' => ?_
    obtain ⟨o, ho, hc⟩ := hrow g (by simpa [Value.ownBlock] using e'.symm)
    rw [hgb] at ho; cases ho; cases hc
theorem own_slice {w : World} {B : Nat} {t : TypeId} {v : Value} {k : Nat} {vs : List Value} (h : w.ownsRow B t 1 v k vs) : ∃ a n c, v = .slice a n c := by
  rcases h.2 with ⟨rfl, _⟩ | ⟨g, cap, cur, rfl, _⟩
  · exact ⟨_, _, _, rfl⟩
  · exact ⟨_, _, _, rfl⟩
end Go.Proofs.YtlkhmfmocegekaaDoor
/- package op: Read, where a text's first word is no kind's name, or there are too few words, or too many. -/
namespace Go.Oq
open Go.Sh
theorem take6_len (s : ByteArray) : ((spB s).take 6).length = min 6 (spB s).length := List.length_take
theorem spB_pos (s : ByteArray) : 0 < (spB s).length := by rw [ct_sp]; simp
end Go.Oq
namespace Go.Proofs.YtlkhmfmocegekaaDoor
open Go.RowKit Go.Oq Go.Sh Go.Shelf
abbrev zro : Nat → Int := fun _ => 0
theorem spB_at (s : ByteArray) (hs : s.size ≤ 100000) (i : Nat) : (at' (spB s) i).size ≤ 100000 := by
  by_cases hi : i < (spB s).length
  · have := spB_size s _ (at_mem hi)
    omega
  · have : at' (spB s) i = ByteArray.empty := by
      rw [at', List.getD_eq_getElem?_getD, List.getElem?_eq_none (by omega)]; rfl
    rw [this]
    have : (ByteArray.empty).size = 0 := rfl
    omega
/-- What Read has behind its first statements. -/
structure RdS (w : World) (k : Int) (W : World) : Prop where
  bel : Below w.heap.size w W
  out : W.heap[w.heap.size]? = some (.cells (row zro) 28)
  op : W.heap[w.heap.size + 1]? = some (.cells (row (bar k)) 151)
  knd : W.heap[w.heap.size + 1 + 1]? = some (.cells kz 128)
theorem rds_set {w w2 : World} (k : Int) (b : Below w.heap.size w w2) (h0 : w2.heap[w.heap.size]? = some (.cells (row zro) 28)) (h1 : w2.heap[w.heap.size + 1]? = some (.cells (row zro) 151))
    (h2 : w2.heap[w.heap.size + 1 + 1]? = some (.cells kz 128)) : RdS w k (w2.setCell ⟨w.heap.size + 1, 0, none⟩ (.int .i64 k)) := by
  refine ⟨b.setCell (p := ⟨w.heap.size + 1, 0, none⟩) (by show w.heap.size ≤ w.heap.size + 1; omega) _, (heap_setCell_other _ _ _ _ (by show w.heap.size ≠ w.heap.size + 1; omega)).trans h0, ?_, (heap_setCell_other _ _ _ _ (by show w.heap.size + 1 + 1 ≠ w.heap.size + 1; omega)).trans h2⟩
  have := row_set h1 (j := 0) (by omega) k
  rw [this]
  congr 3
theorem RdS.below {w W W' : World} {k : Int} (h : RdS w k W) (b : Below W.heap.size W W') : RdS w k W' := by
  exact ⟨h.bel.trans (b.mono h.bel.size), (b.block _ (Array.getElem?_eq_some_iff.1 h.out).1).trans h.out, (b.block _ (Array.getElem?_eq_some_iff.1 h.op).1).trans h.op, (b.block _ (Array.getElem?_eq_some_iff.1 h.knd).1).trans h.knd⟩
end Go.Proofs.YtlkhmfmocegekaaDoor
