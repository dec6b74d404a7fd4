/- The document's functions of layer 2: frontiers of words; claims, turns, what is used; names. -/
import Derived.Test.YtldfmlkjeniemaaDoorPkRef
import Derived.Test.YtldfmlkjeniemaaDoorBsKitOn
import Derived.Maps.AppendAt
namespace Go.Proofs.YtldfmlkjeniemaaDoor
open Go.RowKit
theorem claim_below {w w2 : World} (h : Below w.heap.size w w2) (j : Nat) (t u v x y : Value) : Below w.heap.size w (((((w2.setCell ⟨w.heap.size, j, none⟩ t).setCell ⟨w.heap.size + 1, 0, none⟩ u).setCell ⟨w.heap.size + 1, 1, none⟩ v).setCell ⟨w.heap.size + 1, 2, none⟩ x).setCell ⟨w.heap.size + 1, 3, none⟩ y) :=
  four_set (h.setCell (Nat.le_refl _) _) (Nat.le_succ _) _ _ _ _
end Go.Proofs.YtldfmlkjeniemaaDoor
/- Package pack and the document's functions of layer 2, by what they answer: each contract once for the code, once for the document. -/
namespace Go.Pk
/-- A request's word, and the error. -/
def rq (x p : Int) : Int × Int := if rqOk x p = true then (8 * x + p, 0) else (0, 2)
/-- A word's request, and the error. -/
def orq (x : Int) : Int × Int × Int := if rqOk (x / 8) (x % 8) = true then (x / 8, x % 8, 0) else (0, 0, 2)
/-- A frontier's word, and the error. -/
def fw (s l h o : Int) : Int × Int := if frOk s l h o = true then (s + 2 * (l + 8192 * (h + 8192 * o)), 0) else (0, 2)
/-- A word's frontier, and the error. -/
def ofw (x : Int) : Int × Int × Int × Int × Int := if frOk (x % 2) (x / 2 % 8192) (x / 16384 % 8192) (x / 134217728) = true then (x % 2, x / 2 % 8192, x / 16384 % 8192, x / 134217728, 0) else (0, 0, 0, 0, 2)
def us (s l h o n : Int) : Int × Int := if frOk s l h o = true ∧ h ≤ n ∧ n ≤ 4096 then (l + n - h + o, 0) else (0, 2)
def ft (s l h o n : Int) : Bool := frOk s l h o && decide (1 ≤ n ∧ n ≤ h - l - o)
def tn (s l h o n : Int) : Int × Int × Int × Int × Int := if frOk s l h o = true then (if o ≤ n ∧ n ≤ 4096 then (1 - s, o, n, 0, 0) else (0, 0, 0, 0, 4)) else (0, 0, 0, 0, 2)
def cl (s l h o x n : Int) : Int × Int × Int × Int × Int × Int :=
  if frOk s l h o = true ∧ (x = 0 ∨ x = 1) ∧ 1 ≤ n then (if n ≤ h - l - o then (if x = s then (s, l + n, h, o, l, 0) else (s, l, h, o + n, o, 0)) else (0, 0, 0, 0, 0, 4)) else (0, 0, 0, 0, 0, 2)
theorem bool_cases (b : Bool) : b = true ∨ b = false := by cases b <;> simp
end Go.Pk
namespace Go.Proofs.YtldfmlkjeniemaaDoor
open Go.RowKit
theorem ret_qe {a b c a' b' c' : Int} (h : (a', b', c') = (a, b, c)) : Ending.returned (.tuple #[.agg #[.int .i64 a', .int .i64 b'], .int .i64 c']) = .returned (.tuple #[.agg #[.int .i64 a, .int .i64 b], .int .i64 c]) := by cases h; rfl
theorem ret_ue {a b a' b' : Int} (h : (a', b') = (a, b)) : Ending.returned (.tuple #[.int .u64 a', .int .i64 b']) = .returned (.tuple #[.int .u64 a, .int .i64 b]) := by cases h; rfl
theorem ret_ne {a b a' b' : Int} (h : (a', b') = (a, b)) : Ending.returned (.tuple #[.int .i64 a', .int .i64 b']) = .returned (.tuple #[.int .i64 a, .int .i64 b]) := by cases h; rfl
theorem ret_4e {a b c d e a' b' c' d' e' : Int} (h : (a', b', c', d', e') = (a, b, c, d, e)) : Ending.returned (.tuple #[.agg #[.int .i64 a', .int .i64 b', .int .i64 c', .int .i64 d'], .int .i64 e']) = .returned (.tuple #[.agg #[.int .i64 a, .int .i64 b, .int .i64 c, .int .i64 d], .int .i64 e]) := by cases h; rfl
theorem ret_5e {a b c d t e a' b' c' d' t' e' : Int} (h : (a', b', c', d', t', e') = (a, b, c, d, t, e)) : Ending.returned (.tuple #[.agg #[.int .i64 a', .int .i64 b', .int .i64 c', .int .i64 d'], .int .i64 t', .int .i64 e']) = .returned (.tuple #[.agg #[.int .i64 a, .int .i64 b, .int .i64 c, .int .i64 d], .int .i64 t, .int .i64 e]) := by cases h; rfl
theorem rfront_at (s l h o : Int) (a b : Int) (w : World) (H : Hid (Pk.fw s l h o = (a, b))) :
    Calls Tryd.prog 38 #[.agg #[.int .i64 s, .int .i64 l, .int .i64 h, .int .i64 o]] w fun e w' => e = .returned (.tuple #[.int .u64 a, .int .i64 b]) ∧ Below w.heap.size w w' := by
  have H := H.out
  unfold Pk.fw at H
  rcases Pk.bool_cases (Pk.frOk s l h o) with hk | hk
  · rw [if_pos hk] at H
    exact (rfront_yes s l h o w hk).mono fun _ _ e => ⟨e.1.trans (ret_ue H), e.2⟩
  · rw [if_neg (by simp [hk])] at H
    exact (rfront_no s l h o w hk).mono fun _ _ e => ⟨e.1.trans (ret_ue H), e.2⟩
end Go.Proofs.YtldfmlkjeniemaaDoor
/- An arena in memory: its face, its words; what is written into it; what else is kept. -/
namespace Go.Proofs.YtldfmlkjeniemaaDoor
open Go.RowKit
/-- The word of that number. -/
def wat (xs : List Int) (i : Nat) : Int := xs.getD i 0
/-- The cells of so many words. -/
def wds (xs : List Int) : Array Value := (xs.map (Value.int .u64)).toArray
theorem wds_size (xs : List Int) : (wds xs).size = xs.length := by simp [wds]
theorem wds_get (xs : List Int) (i : Nat) (h : i < xs.length) : (wds xs)[i]? = some (.int .u64 (wat xs i)) := by
  simp [wds, wat, List.getD, h]
theorem wds_set (xs : List Int) (i : Nat) (v : Int) : (wds xs).setIfInBounds i (.int .u64 v) = wds (xs.set i v) := by
  simp [wds, List.map_set]
theorem ajump_ret {l : Nat} {J : Act → World → Prop} {Q : Exit → Act → World → Prop} {a : Act} {w : World} : Exit.jump l J Q .ret a w = Q .ret a w := rfl
/-- A word's bounds. -/
def InW (xs : List Int) : Prop := ∀ x ∈ xs, 0 ≤ x ∧ x ≤ 18446744073709551615
theorem InW.get {xs : List Int} (h : InW xs) (i : Nat) : 0 ≤ wat xs i ∧ wat xs i ≤ 18446744073709551615 := by
  by_cases hi : i < xs.length
  · have := h xs[i] (List.getElem_mem hi)
    simpa [wat, List.getD, hi] using this
  · simp [wat, List.getD, Nat.le_of_not_lt hi]
theorem InW.set {xs : List Int} (h : InW xs) (i : Nat) {v : Int} (h0 : 0 ≤ v) (h1 : v ≤ 18446744073709551615) : InW (xs.set i v) := by
  intro x hx
  rcases List.mem_or_eq_of_mem_set hx with h' | rfl
  · exact h x h'
  · exact ⟨h0, h1⟩
theorem InW.zeros (n : Nat) : InW (List.replicate n 0) := by
  intro x hx
  obtain rfl := List.eq_of_mem_replicate hx
  omega
/-- An arena: its face at block A, which leads to its words at block B. -/
structure IsAr (W : World) (A B : Nat) (xs : List Int) : Prop where
  face : W.heap[A]? = some (.cells #[.slice (some ⟨B, 0, none⟩) xs.length xs.length] 58)
  row : W.heap[B]? = some (.cells (wds xs) 50)
  ne : A ≠ B
  bnd : InW xs
  pos : 1 ≤ xs.length
  le : xs.length ≤ 16384
theorem IsAr.ltA {W : World} {A B : Nat} {xs : List Int} (h : IsAr W A B xs) : A < W.heap.size := (Array.getElem?_eq_some_iff.1 h.face).1
theorem IsAr.ltB {W : World} {A B : Nat} {xs : List Int} (h : IsAr W A B xs) : B < W.heap.size := (Array.getElem?_eq_some_iff.1 h.row).1
theorem IsAr.grown {W W' : World} {A B : Nat} {xs : List Int} {row : Option Nat} (h : IsAr W A B xs) (hg : W.grownBy W' row) (ha : some A ≠ row) (hb : some B ≠ row) : IsAr W' A B xs :=
  ⟨(hg.block A h.ltA ha).trans h.face, (hg.block B h.ltB hb).trans h.row, h.ne, h.bnd, h.pos, h.le⟩
theorem IsAr.below {W W' : World} {A B : Nat} {xs : List Int} (h : IsAr W A B xs) (b : Below W.heap.size W W') : IsAr W' A B xs :=
  ⟨(b.block A h.ltA).trans h.face, (b.block B h.ltB).trans h.row, h.ne, h.bnd, h.pos, h.le⟩
theorem IsAr.alloc {W : World} {A B : Nat} {xs : List Int} (h : IsAr W A B xs) (O : Obj) : IsAr (W.alloc O) A B xs := h.below (below_alloc0 W O)
theorem IsAr.fcell {W : World} {A B : Nat} {xs : List Int} (h : IsAr W A B xs) : W.cell? ⟨A, 0, none⟩ = some (.slice (some ⟨B, 0, none⟩) xs.length xs.length) := at_row h.face 0 rfl
theorem IsAr.cell {W : World} {A B : Nat} {xs : List Int} (h : IsAr W A B xs) (i : Nat) (hi : i < xs.length) : W.cell? ⟨B, i, none⟩ = some (.int .u64 (wat xs i)) := at_row h.row i (wds_get xs i hi)
theorem IsAr.set {W : World} {A B : Nat} {xs : List Int} (h : IsAr W A B xs) (i : Nat) {v : Int} (h0 : 0 ≤ v) (h1 : v ≤ 18446744073709551615) : IsAr (W.setCell ⟨B, i, none⟩ (.int .u64 v)) A B (xs.set i v) := by
  have e := setCell_eq_setRow W B i (wds xs) 50 (0, 0) (.int .u64 v) h.row
  rw [wds_set] at e
  refine ⟨?_, ?_, h.ne, h.bnd.set i h0 h1, by rw [List.length_set]; exact h.pos, by rw [List.length_set]; exact h.le⟩
  · rw [List.length_set, e, setRow_other W B A _ h.ne]
    exact h.face
  · rw [e]
    exact setRow_heap W B (wds xs) _ _ _ h.row
/-- What a call that writes into the block B alone keeps. -/
theorem grown_setCell (W : World) (B i : Nat) (v : Value) : W.grownBy (W.setCell ⟨B, i, none⟩ v) (some B) := by
  refine ⟨rfl, rfl, rfl, by simp, fun k hk hne => ?_⟩
  have : k ≠ B := fun e => hne (by rw [e])
  simp [World.setCell, Array.getElem?_modify, Ne.symm this]
theorem grown_trans {a b c : World} {row : Option Nat} (h : a.grownBy b row) (k : b.grownBy c row) : a.grownBy c row :=
  ⟨k.os.trans h.os, k.tape.trans h.tape, k.output.trans h.output, Nat.le_trans h.size k.size, fun i hi hne => (k.block i (Nat.lt_of_lt_of_le hi h.size) hne).trans (h.block i hi hne)⟩
theorem grown_below {W W' : World} (h : Below W.heap.size W W') (row : Option Nat) : W.grownBy W' row :=
  ⟨h.os, h.tape, h.output, h.size, fun k hk _ => h.block k hk⟩
/-- .. below all that came in nothing is changed, where B was made since. -/
theorem below_grown {N : Nat} {w W W' : World} {B : Nat} (h : Below N w W) (hN : N ≤ W.heap.size) (g : W.grownBy W' (some B)) (hB : N ≤ B) : Below N w W' :=
  ⟨g.os.trans h.os, g.tape.trans h.tape, g.output.trans h.output, Nat.le_trans h.size g.size, fun k hk => (g.block k (Nat.lt_of_lt_of_le hk hN) (fun e => by cases e; omega)).trans (h.block k hk)⟩
theorem grown_cell {W W' : World} {B : Nat} (g : W.grownBy W' (some B)) {p : Addr} {v : Value} (hp : p.block ≠ B) (h : W.cell? p = some v) : W'.cell? p = some v :=
  g.cell h (fun e => hp (by cases e; rfl))
theorem bel_two (w : World) (A B : Obj) : Below w.heap.size w ((w.alloc A).alloc B) := ((Below.refl _ w).alloc (Nat.le_refl _) _).alloc (by simp) _
theorem bel_three (w : World) (A B C : Obj) : Below w.heap.size w (((w.alloc A).alloc B).alloc C) := (((Below.refl _ w).alloc (Nat.le_refl _) _).alloc (by simp) _).alloc (by simp; omega) _
theorem bdrewN {N : Nat} {a w : World} (h : Below N a w) (n : Nat) : Below N a (w.drewN n) := ⟨h.os, h.tape, h.output, h.size, h.block⟩
/-- A pointer to an arena, or none: which words it leads to. -/
def Faces (W : World) (p s : Value) : Prop := (p = .pointer none ∧ s = .slice none 0 0) ∨ ∃ A, p = .pointer (some ⟨A, 0, none⟩) ∧ W.cell? ⟨A, 0, none⟩ = some s
theorem IsAr.faces {W : World} {A B : Nat} {xs : List Int} (h : IsAr W A B xs) : Faces W (.pointer (some ⟨A, 0, none⟩)) (.slice (some ⟨B, 0, none⟩) xs.length xs.length) := .inr ⟨A, rfl, h.fcell⟩
theorem Faces.below {W W' : World} {p s : Value} (h : Faces W p s) (b : Below W.heap.size W W') : Faces W' p s := by
  rcases h with h | ⟨A, e, hc⟩
  · exact .inl h
  · exact .inr ⟨A, e, (b.cell (p := ⟨A, 0, none⟩) (block_lt_of_cell hc)).trans hc⟩
/-- Words that a slice leads to. -/
def Ws (W : World) (b off : Nat) (xs : List Int) : Prop := ∀ i, i < xs.length → W.cell? ⟨b, off + i, none⟩ = some (.int .u64 (wat xs i))
theorem Ws.below {W W' : World} {b off : Nat} {xs : List Int} (h : Ws W b off xs) (k : Below W.heap.size W W') : Ws W' b off xs := fun i hi =>
  (k.cell (p := ⟨b, off + i, none⟩) (block_lt_of_cell (h i hi))).trans (h i hi)
theorem Ws.grown {W W' : World} {b off B : Nat} {xs : List Int} (h : Ws W b off xs) (g : W.grownBy W' (some B)) (hb : b ≠ B) : Ws W' b off xs := fun i hi =>
  grown_cell g hb (h i hi)
theorem IsAr.ws {W : World} {A B : Nat} {xs : List Int} (h : IsAr W A B xs) : Ws W B 0 xs := fun i hi => by
  rw [Nat.zero_add]; exact h.cell i hi
theorem Ws.list {W : World} {b off : Nat} {xs : List Int} (h : Ws W b off xs) : ∀ j v, (wds xs).toList[j]? = some v → W.cell? ((⟨b, off, none⟩ : Addr).add j) = some v := by
  intro j v hv
  have hadd : (⟨b, off, none⟩ : Addr).add j = ⟨b, off + j, none⟩ := by unfold Addr.add; split <;> simp_all
  rw [hadd]
  have hj : j < xs.length := by
    have := (List.getElem?_eq_some_iff.1 hv).1
    simpa [wds] using this
  rw [h j hj, ← wds_get xs j hj]
  simpa using hv
theorem wds_one (xs : List Int) : ∀ v ∈ (wds xs).toList, v.oneCell' = true := by
  intro v hv
  simp [wds] at hv
  obtain ⟨x, _, rfl⟩ := hv
  rfl
end Go.Proofs.YtldfmlkjeniemaaDoor
