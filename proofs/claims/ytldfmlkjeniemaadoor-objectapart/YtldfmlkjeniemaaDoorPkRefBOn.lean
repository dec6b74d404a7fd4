/- The document's functions of layer 2: frontiers of words; claims, turns, what is used; names. -/
import Derived.Test.YtldfmlkjeniemaaDoorLyRefOn
import Derived.Test.YtldfmlkjeniemaaDoorObMathOn
import Derived.Maps.AppendAt
import Derived.Laws.IdiomCopy
import Derived.Laws.MakeOwn
namespace Go.Proofs.YtldfmlkjeniemaaDoor
open Go.RowKit
theorem claim_below {w w2 : World} (h : Below w.heap.size w w2) (j : Nat) (t u v x y : Value) : Below w.heap.size w (((((w2.setCell ⟨w.heap.size, j, none⟩ t).setCell ⟨w.heap.size + 1, 0, none⟩ u).setCell ⟨w.heap.size + 1, 1, none⟩ v).setCell ⟨w.heap.size + 1, 2, none⟩ x).setCell ⟨w.heap.size + 1, 3, none⟩ y) :=
  four_set (h.setCell (Nat.le_refl _) _) (Nat.le_succ _) _ _ _ _
end Go.Proofs.YtldfmlkjeniemaaDoor
/- Package pack and the document's functions of layer 2, by what they answer: each contract once for the code, once for the document. -/
namespace Go.Pk
/-- A request's word, and the error. -/
def rq (x p : Int) : Int × Int := if rqOk x p = true then (8 * x + p, 0) else (0, 2)
/-- A word's request, and the error. -/
def orq (x : Int) : Int × Int × Int := if rqOk (x / 8) (x % 8) = true then (x / 8, x % 8, 0) else (0, 0, 2)
/-- A frontier's word, and the error. -/
def fw (s l h o : Int) : Int × Int := if frOk s l h o = true then (s + 2 * (l + 8192 * (h + 8192 * o)), 0) else (0, 2)
/-- A word's frontier, and the error. -/
def ofw (x : Int) : Int × Int × Int × Int × Int := if frOk (x % 2) (x / 2 % 8192) (x / 16384 % 8192) (x / 134217728) = true then (x % 2, x / 2 % 8192, x / 16384 % 8192, x / 134217728, 0) else (0, 0, 0, 0, 2)
def us (s l h o n : Int) : Int × Int := if frOk s l h o = true ∧ h ≤ n ∧ n ≤ 4096 then (l + n - h + o, 0) else (0, 2)
def ft (s l h o n : Int) : Bool := frOk s l h o && decide (1 ≤ n ∧ n ≤ h - l - o)
def tn (s l h o n : Int) : Int × Int × Int × Int × Int := if frOk s l h o = true then (if o ≤ n ∧ n ≤ 4096 then (1 - s, o, n, 0, 0) else (0, 0, 0, 0, 4)) else (0, 0, 0, 0, 2)
def cl (s l h o x n : Int) : Int × Int × Int × Int × Int × Int :=
  if frOk s l h o = true ∧ (x = 0 ∨ x = 1) ∧ 1 ≤ n then (if n ≤ h - l - o then (if x = s then (s, l + n, h, o, l, 0) else (s, l, h, o + n, o, 0)) else (0, 0, 0, 0, 0, 4)) else (0, 0, 0, 0, 0, 2)
theorem bool_cases (b : Bool) : b = true ∨ b = false := by cases b <;> simp
end Go.Pk
namespace Go.Proofs.YtldfmlkjeniemaaDoor
open Go.RowKit
theorem ret_qe {a b c a' b' c' : Int} (h : (a', b', c') = (a, b, c)) : Ending.returned (.tuple #[.agg #[.int .i64 a', .int .i64 b'], .int .i64 c']) = .returned (.tuple #[.agg #[.int .i64 a, .int .i64 b], .int .i64 c]) := by cases h; rfl
theorem ret_ue {a b a' b' : Int} (h : (a', b') = (a, b)) : Ending.returned (.tuple #[.int .u64 a', .int .i64 b']) = .returned (.tuple #[.int .u64 a, .int .i64 b]) := by cases h; rfl
theorem ret_ne {a b a' b' : Int} (h : (a', b') = (a, b)) : Ending.returned (.tuple #[.int .i64 a', .int .i64 b']) = .returned (.tuple #[.int .i64 a, .int .i64 b]) := by cases h; rfl
theorem ret_4e {a b c d e a' b' c' d' e' : Int} (h : (a', b', c', d', e') = (a, b, c, d, e)) : Ending.returned (.tuple #[.agg #[.int .i64 a', .int .i64 b', .int .i64 c', .int .i64 d'], .int .i64 e']) = .returned (.tuple #[.agg #[.int .i64 a, .int .i64 b, .int .i64 c, .int .i64 d], .int .i64 e]) := by cases h; rfl
theorem ret_5e {a b c d t e a' b' c' d' t' e' : Int} (h : (a', b', c', d', t', e') = (a, b, c, d, t, e)) : Ending.returned (.tuple #[.agg #[.int .i64 a', .int .i64 b', .int .i64 c', .int .i64 d'], .int .i64 t', .int .i64 e']) = .returned (.tuple #[.agg #[.int .i64 a, .int .i64 b, .int .i64 c, .int .i64 d], .int .i64 t, .int .i64 e]) := by cases h; rfl
theorem rfront_at (s l h o : Int) (a b : Int) (w : World) (H : Hid (Pk.fw s l h o = (a, b))) :
    Calls Tryd.prog 38 #[.agg #[.int .i64 s, .int .i64 l, .int .i64 h, .int .i64 o]] w fun e w' => e = .returned (.tuple #[.int .u64 a, .int .i64 b]) ∧ Below w.heap.size w w' := by
  have H := H.out
  unfold Pk.fw at H
  rcases Pk.bool_cases (Pk.frOk s l h o) with hk | hk
  · rw [if_pos hk] at H
    exact (rfront_yes s l h o w hk).mono fun _ _ e => ⟨e.1.trans (ret_ue H), e.2⟩
  · rw [if_neg (by simp [hk])] at H
    exact (rfront_no s l h o w hk).mono fun _ _ e => ⟨e.1.trans (ret_ue H), e.2⟩
end Go.Proofs.YtldfmlkjeniemaaDoor
/- An arena in memory: its face, its words; what is written into it; what else is kept. -/
namespace Go.Proofs.YtldfmlkjeniemaaDoor
open Go.RowKit
/-- The word of that number. -/
def wat (xs : List Int) (i : Nat) : Int := xs.getD i 0
/-- The cells of so many words. -/
def wds (xs : List Int) : Array Value := (xs.map (Value.int .u64)).toArray
theorem wds_size (xs : List Int) : (wds xs).size = xs.length := by simp [wds]
theorem wds_get (xs : List Int) (i : Nat) (h : i < xs.length) : (wds xs)[i]? = some (.int .u64 (wat xs i)) := by
  simp [wds, wat, List.getD, h]
theorem wds_set (xs : List Int) (i : Nat) (v : Int) : (wds xs).setIfInBounds i (.int .u64 v) = wds (xs.set i v) := by
  simp [wds, List.map_set]
theorem ajump_ret {l : Nat} {J : Act → World → Prop} {Q : Exit → Act → World → Prop} {a : Act} {w : World} : Exit.jump l J Q .ret a w = Q .ret a w := rfl
/-- A word's bounds. -/
def InW (xs : List Int) : Prop := ∀ x ∈ xs, 0 ≤ x ∧ x ≤ 18446744073709551615
theorem InW.get {xs : List Int} (h : InW xs) (i : Nat) : 0 ≤ wat xs i ∧ wat xs i ≤ 18446744073709551615 := by
  by_cases hi : i < xs.length
  · have := h xs[i] (List.getElem_mem hi)
    simpa [wat, List.getD, hi] using this
  · simp [wat, List.getD, Nat.le_of_not_lt hi]
theorem InW.set {xs : List Int} (h : InW xs) (i : Nat) {v : Int} (h0 : 0 ≤ v) (h1 : v ≤ 18446744073709551615) : InW (xs.set i v) := by
  intro x hx
  rcases List.mem_or_eq_of_mem_set hx with h' | rfl
  · exact h x h'
  · exact ⟨h0, h1⟩
theorem InW.zeros (n : Nat) : InW (List.replicate n 0) := by
  intro x hx
  obtain rfl := List.eq_of_mem_replicate hx
  omega
/-- An arena: its face at block A, which leads to its words at block B. -/
structure IsAr (W : World) (A B : Nat) (xs : List Int) : Prop where
  face : W.heap[A]? = some (.cells #[.slice (some ⟨B, 0, none⟩) xs.length xs.length] 58)
  row : W.heap[B]? = some (.cells (wds xs) 50)
  ne : A ≠ B
  bnd : InW xs
  pos : 1 ≤ xs.length
  le : xs.length ≤ 16384
theorem IsAr.ltA {W : World} {A B : Nat} {xs : List Int} (h : IsAr W A B xs) : A < W.heap.size := (Array.getElem?_eq_some_iff.1 h.face).1
theorem IsAr.ltB {W : World} {A B : Nat} {xs : List Int} (h : IsAr W A B xs) : B < W.heap.size := (Array.getElem?_eq_some_iff.1 h.row).1
theorem IsAr.grown {W W' : World} {A B : Nat} {xs : List Int} {row : Option Nat} (h : IsAr W A B xs) (hg : W.grownBy W' row) (ha : some A ≠ row) (hb : some B ≠ row) : IsAr W' A B xs :=
  ⟨(hg.block A h.ltA ha).trans h.face, (hg.block B h.ltB hb).trans h.row, h.ne, h.bnd, h.pos, h.le⟩
theorem IsAr.below {W W' : World} {A B : Nat} {xs : List Int} (h : IsAr W A B xs) (b : Below W.heap.size W W') : IsAr W' A B xs :=
  ⟨(b.block A h.ltA).trans h.face, (b.block B h.ltB).trans h.row, h.ne, h.bnd, h.pos, h.le⟩
theorem IsAr.alloc {W : World} {A B : Nat} {xs : List Int} (h : IsAr W A B xs) (O : Obj) : IsAr (W.alloc O) A B xs := h.below (below_alloc0 W O)
theorem IsAr.fcell {W : World} {A B : Nat} {xs : List Int} (h : IsAr W A B xs) : W.cell? ⟨A, 0, none⟩ = some (.slice (some ⟨B, 0, none⟩) xs.length xs.length) := at_row h.face 0 rfl
theorem IsAr.cell {W : World} {A B : Nat} {xs : List Int} (h : IsAr W A B xs) (i : Nat) (hi : i < xs.length) : W.cell? ⟨B, i, none⟩ = some (.int .u64 (wat xs i)) := at_row h.row i (wds_get xs i hi)
theorem IsAr.set {W : World} {A B : Nat} {xs : List Int} (h : IsAr W A B xs) (i : Nat) {v : Int} (h0 : 0 ≤ v) (h1 : v ≤ 18446744073709551615) : IsAr (W.setCell ⟨B, i, none⟩ (.int .u64 v)) A B (xs.set i v) := by
  have e := setCell_eq_setRow W B i (wds xs) 50 (0, 0) (.int .u64 v) h.row
  rw [wds_set] at e
  refine ⟨?_, ?_, h.ne, h.bnd.set i h0 h1, by rw [List.length_set]; exact h.pos, by rw [List.length_set]; exact h.le⟩
  · rw [List.length_set, e, setRow_other W B A _ h.ne]
    exact h.face
  · rw [e]
    exact setRow_heap W B (wds xs) _ _ _ h.row
/-- What a call that writes into the block B alone keeps. -/
theorem grown_setCell (W : World) (B i : Nat) (v : Value) : W.grownBy (W.setCell ⟨B, i, none⟩ v) (some B) := by
  refine ⟨rfl, rfl, rfl, by simp, fun k hk hne => ?_⟩
  have : k ≠ B := fun e => hne (by rw [e])
  simp [World.setCell, Array.getElem?_modify, Ne.symm this]
theorem grown_trans {a b c : World} {row : Option Nat} (h : a.grownBy b row) (k : b.grownBy c row) : a.grownBy c row :=
  ⟨k.os.trans h.os, k.tape.trans h.tape, k.output.trans h.output, Nat.le_trans h.size k.size, fun i hi hne => (k.block i (Nat.lt_of_lt_of_le hi h.size) hne).trans (h.block i hi hne)⟩
theorem grown_below {W W' : World} (h : Below W.heap.size W W') (row : Option Nat) : W.grownBy W' row :=
  ⟨h.os, h.tape, h.output, h.size, fun k hk _ => h.block k hk⟩
/-- .. below all that came in nothing is changed, where B was made since. -/
theorem below_grown {N : Nat} {w W W' : World} {B : Nat} (h : Below N w W) (hN : N ≤ W.heap.size) (g : W.grownBy W' (some B)) (hB : N ≤ B) : Below N w W' :=
  ⟨g.os.trans h.os, g.tape.trans h.tape, g.output.trans h.output, Nat.le_trans h.size g.size, fun k hk => (g.block k (Nat.lt_of_lt_of_le hk hN) (fun e => by cases e; omega)).trans (h.block k hk)⟩
theorem grown_cell {W W' : World} {B : Nat} (g : W.grownBy W' (some B)) {p : Addr} {v : Value} (hp : p.block ≠ B) (h : W.cell? p = some v) : W'.cell? p = some v :=
  g.cell h (fun e => hp (by cases e; rfl))
theorem bel_two (w : World) (A B : Obj) : Below w.heap.size w ((w.alloc A).alloc B) := ((Below.refl _ w).alloc (Nat.le_refl _) _).alloc (by simp) _
theorem bel_three (w : World) (A B C : Obj) : Below w.heap.size w (((w.alloc A).alloc B).alloc C) := (((Below.refl _ w).alloc (Nat.le_refl _) _).alloc (by simp) _).alloc (by simp; omega) _
theorem bdrewN {N : Nat} {a w : World} (h : Below N a w) (n : Nat) : Below N a (w.drewN n) := ⟨h.os, h.tape, h.output, h.size, h.block⟩
/-- A pointer to an arena, or none: which words it leads to. -/
def Faces (W : World) (p s : Value) : Prop := (p = .pointer none ∧ s = .slice none 0 0) ∨ ∃ A, p = .pointer (some ⟨A, 0, none⟩) ∧ W.cell? ⟨A, 0, none⟩ = some s
theorem IsAr.faces {W : World} {A B : Nat} {xs : List Int} (h : IsAr W A B xs) : Faces W (.pointer (some ⟨A, 0, none⟩)) (.slice (some ⟨B, 0, none⟩) xs.length xs.length) := .inr ⟨A, rfl, h.fcell⟩
theorem Faces.below {W W' : World} {p s : Value} (h : Faces W p s) (b : Below W.heap.size W W') : Faces W' p s := by
  rcases h with h | ⟨A, e, hc⟩
  · exact .inl h
  · exact .inr ⟨A, e, (b.cell (p := ⟨A, 0, none⟩) (block_lt_of_cell hc)).trans hc⟩
/-- Words that a slice leads to. -/
def Ws (W : World) (b off : Nat) (xs : List Int) : Prop := ∀ i, i < xs.length → W.cell? ⟨b, off + i, none⟩ = some (.int .u64 (wat xs i))
theorem Ws.below {W W' : World} {b off : Nat} {xs : List Int} (h : Ws W b off xs) (k : Below W.heap.size W W') : Ws W' b off xs := fun i hi =>
  (k.cell (p := ⟨b, off + i, none⟩) (block_lt_of_cell (h i hi))).trans (h i hi)
theorem Ws.grown {W W' : World} {b off B : Nat} {xs : List Int} (h : Ws W b off xs) (g : W.grownBy W' (some B)) (hb : b ≠ B) : Ws W' b off xs := fun i hi =>
  grown_cell g hb (h i hi)
theorem IsAr.ws {W : World} {A B : Nat} {xs : List Int} (h : IsAr W A B xs) : Ws W B 0 xs := fun i hi => by
  rw [Nat.zero_add]; exact h.cell i hi
theorem Ws.list {W : World} {b off : Nat} {xs : List Int} (h : Ws W b off xs) : ∀ j v, (wds xs).toList[j]? = some v → W.cell? ((⟨b, off, none⟩ : Addr).add j) = some v := by
  intro j v hv
  have hadd : (⟨b, off, none⟩ : Addr).add j = ⟨b, off + j, none⟩ := by unfold Addr.add; split <;> simp_all
  rw [hadd]
  have hj : j < xs.length := by
    have := (List.getElem?_eq_some_iff.1 hv).1
    simpa [wds] using this
  rw [h j hj, ← wds_get xs j hj]
  simpa using hv
theorem wds_one (xs : List Int) : ∀ v ∈ (wds xs).toList, v.oneCell' = true := by
  intro v hv
  simp [wds] at hv
  obtain ⟨x, _, rfl⟩ := hv
  rfl
end Go.Proofs.YtldfmlkjeniemaaDoor
/- package arena: list, Len, All, has, New, Of. -/
namespace Go.Proofs.YtldfmlkjeniemaaDoor
open Go.RowKit
theorem list_at (p s : Value) (w : World) (h : Faces w p s) : Calls Tryd.prog 63 #[p] w fun e w' => e = .returned s ∧ w' = w := by
  rcases h with ⟨rfl, rfl⟩ | ⟨A, rfl, hc⟩
  · go_enter Tryd.func63, Tryd.ntmps63
    go_wp2
    go_ret
    exact ⟨rfl, rfl⟩
  · go_enter Tryd.func63, Tryd.ntmps63
    go_wp2
    go_ret
    exact ⟨rfl, rfl⟩
theorem Len_at (p : Value) (a : Option Addr) (n c : Nat) (w : World) (h : Faces w p (.slice a n c)) : Calls Tryd.prog 43 #[p] w fun e w' => e = .returned (.int .i64 n) ∧ w' = w := by
  have cl := list_at p _ w h
  go_enter Tryd.func43, Tryd.ntmps43
  go_wp2_with (go_at_call 63; refine cl.mono ?_; rintro e w' ⟨rfl, hw⟩; rw [hw]; clear hw)
  go_ret
  exact ⟨rfl, rfl⟩
theorem wHas_any (a : Option Addr) (n c : Nat) (at_ : Int) (w : World) : Calls Tryd.prog 77 #[.slice a n c, .int .i64 at_] w fun e w' => e = .returned (.bool (decide (0 ≤ at_) && decide (at_ < n))) ∧ w' = w := by
  by_cases h : 0 ≤ at_
  · go_enter Tryd.func77, Tryd.ntmps77
    go_wp2
    go_ret
    exact ⟨ret_bool (by simp [h]), rfl⟩
  · have h' : at_ < 0 := by omega
    clear h
    go_enter Tryd.func77, Tryd.ntmps77
    go_wp2
    go_ret
    exact ⟨ret_bool (by simp; omega), rfl⟩
theorem New_no (n : Int) (w : World) (h : n < 1 ∨ 16384 < n) : Calls Tryd.prog 20 #[.int .i64 n] w fun e w' => e = .returned (.tuple #[.pointer none, .int .i64 2]) ∧ w' = w := by
  rcases h with h | h
  · go_enter Tryd.func20, Tryd.ntmps20
    go_wp2
    go_ret2
    exact ⟨rfl, rfl⟩
  · have h1 : 1 ≤ n := by omega
    go_enter Tryd.func20, Tryd.ntmps20
    go_wp2
    go_ret2
    exact ⟨rfl, rfl⟩
/-- The world behind New, and behind Of: an arena with these words. -/
def made (w : World) (xs : List Int) : World :=
  (w.alloc (.cells (wds xs) 50)).alloc (.cells #[.slice (some ⟨w.heap.size, 0, none⟩) xs.length xs.length] 58)
theorem made_size (w : World) (xs : List Int) : (made w xs).heap.size = w.heap.size + 2 := by simp [made]
theorem made_below (w : World) (xs : List Int) : Below w.heap.size w (made w xs) := ((Below.refl _ w).alloc (Nat.le_refl _) _).alloc (by simp) _
theorem made_ar (w : World) (xs : List Int) (hb : InW xs) (h1 : 1 ≤ xs.length) (h2 : xs.length ≤ 16384) : IsAr (made w xs) (w.heap.size + 1) w.heap.size xs := by
  refine ⟨?_, ?_, by omega, hb, h1, h2⟩
  · have := heap_alloc_last (w.alloc (.cells (wds xs) 50)) (.cells #[.slice (some ⟨w.heap.size, 0, none⟩) xs.length xs.length] 58)
    rwa [size_alloc] at this
  · exact (Below.heap_alloc _ _ _ (by simp)).trans (heap_alloc_last w _)
theorem made_zeros (n : Nat) : madeCells #[.int .u64 0] n = wds (List.replicate n 0) := by
  apply Array.ext
  · simp [madeCells, wds]
  · intro i h1 h2
    simp [madeCells, wds, Nat.mod_one]
theorem make_words (t : TypeId) (ht : Tryd.prog.underlying t = some (.slice 50)) (n : Nat) (h : n ≤ 20000) (u : World) : (Instr.makeSlice t (.int .i64 n) (.int .i64 n)).run Tryd.prog u = .ok (.slice (some ⟨u.heap.size, 0, none⟩) n n) (u.alloc (.cells (wds (List.replicate n 0)) 50)) := by
  have := run_makeSlice (P := Tryd.prog) u t 50 Tryd.t50 (.int .u64 0) ht (by kernel_rfl) (by kernel_rfl) .i64 .i64 n n (by omega) (Int.le_refl _) (by show (n : Int).toNat * 1 ≤ _; omega) (by show ((8 : Nat) : Int) * n ≤ _; omega) (by omega)
  rw [this]
  have e : (n : Int).toNat * Tryd.t50.size = n := by show (n : Int).toNat * 1 = n; omega
  rw [e, Int.toNat_natCast]
  show _ = Result.ok _ (u.alloc (.cells (wds (List.replicate n 0)) _))
  rw [← made_zeros]
  rfl
theorem New_yes (n : Nat) (w : World) (h1 : 1 ≤ n) (h2 : n ≤ 16384) : Calls Tryd.prog 20 #[.int .i64 n] w fun e w' => e = .returned (.tuple #[.pointer (some ⟨w.heap.size + 1, 0, none⟩), .int .i64 0]) ∧ w' = made w (List.replicate n 0) := by
  have h1' : 1 ≤ (n : Int) := by omega
  have h2' : (n : Int) ≤ 16384 := by omega
  have hmk := make_words 56 Tryd.underlying56 n (by omega)
  generalize hz : wds (List.replicate n 0) = zs at hmk
  have HZ := hid hz
  clear hz
  go_enter Tryd.func20, Tryd.ntmps20
  go_wp2
  go_ret2
  refine ⟨by simp, ?_⟩
  rw [made, HZ.out, List.length_replicate]
theorem setRow_alloc_old (w : World) (O : Obj) (g : Nat) (c : Array Value) (h : g < w.heap.size) : (w.alloc O).setRow g c = (w.setRow g c).alloc O := by
  cases w with
  | mk heap tape drawn os output =>
    simp only [World.setRow, World.alloc]
    congr 1
    apply Array.ext
    · simp
    · intro k h1 h2
      simp only [Array.getElem_modify, Array.getElem_push, Array.size_modify]
      simp only [Array.size_modify, Array.size_push] at h1
      by_cases hk : k < heap.size
      · simp [hk]
      · have : g ≠ k := by simp at h; omega
        simp [hk, this]
theorem ar_copy (w : World) (ty : TypeId) (xs zs : List Int) (b off c : Nat) (hx : Ws w b off xs) (hl : zs.length = xs.length) (u : World) (hu : u = made w zs) :
    (Builtin.copy_ #[56, 25] ty #[.slice (some ⟨w.heap.size, 0, none⟩) zs.length zs.length, .slice (some ⟨b, off, none⟩) xs.length c]).run Tryd.prog u = .ok (goInt xs.length) (made w xs) := by
  subst hu
  have hr : (made w zs).heap[w.heap.size]? = some (.cells (wds zs) 50) := (Below.heap_alloc _ _ _ (by simp)).trans (heap_alloc_last w _)
  have := run_copy_row Tryd.prog (made w zs) 56 25 ty 50 w.heap.size 0 zs.length zs.length ⟨b, off, none⟩ xs.length c (wds zs) 50 (wds xs).toList Tryd.underlying56 (by kernel_rfl) hr
    (by simp [wds, hl]) (hx.below (made_below w zs)).list (by simp [wds, hl]) (wds_one xs)
  rw [this]
  have e0 : ((wds zs).toList.take 0 ++ (wds xs).toList ++ (wds zs).toList.drop (0 + (wds xs).toList.length)).toArray = wds xs := by
    simp [wds, hl]
  have e1 : (made w zs).setRow w.heap.size (wds xs) = made w xs := by
    rw [made, setRow_alloc_old _ _ _ _ (by simp), World.setRow_alloc_new, hl]
    rfl
  rw [e0, e1]
  simp [wds]
theorem Of_no (a : Option Addr) (n c : Nat) (w : World) (h : n = 0 ∨ 16384 < n) : Calls Tryd.prog 8 #[.slice a n c] w fun e w' => e = .returned (.tuple #[.pointer none, .int .i64 2]) ∧ w' = w := by
  have cn := New_no n w (by omega)
  go_enter Tryd.func8, Tryd.ntmps8
  go_wp2_with (go_at_call 20; refine cn.mono ?_; rintro e w' ⟨rfl, hw⟩; rw [hw]; clear hw)
  go_ret2
  exact ⟨rfl, rfl⟩
theorem Of_yes (b off c : Nat) (xs : List Int) (w : World) (hx : Ws w b off xs) (h1 : 1 ≤ xs.length) (h2 : xs.length ≤ 16384) : Calls Tryd.prog 8 #[.slice (some ⟨b, off, none⟩) xs.length c] w fun e w' => e = .returned (.tuple #[.pointer (some ⟨w.heap.size + 1, 0, none⟩), .int .i64 0]) ∧ w' = made w xs := by
  have cn := New_yes xs.length w h1 h2
  have hl : (List.replicate xs.length (0 : Int)).length = xs.length := by simp
  have hf := (made_ar w (List.replicate xs.length 0) (InW.zeros _) (by simpa using h1) (by simpa using h2)).fcell
  rw [hl] at hf
  have hcp := fun ty => ar_copy w ty xs (List.replicate xs.length 0) b off c hx hl
  rw [hl] at hcp
  generalize hu : made w (List.replicate xs.length 0) = u at cn hf hcp
  have hcp := fun ty => hcp ty u rfl
  clear hu
  go_enter Tryd.func8, Tryd.ntmps8
  go_wp2_with (go_at_call 20; refine cn.mono ?_; rintro e w' ⟨rfl, hw⟩; rw [hw]; clear hw)
  go_ret2
  exact ⟨rfl, rfl⟩
end Go.Proofs.YtldfmlkjeniemaaDoor
