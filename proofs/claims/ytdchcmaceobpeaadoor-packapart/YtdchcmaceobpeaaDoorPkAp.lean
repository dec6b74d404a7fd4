/- For the law PackApart: what stands behind a claim, and how the parts go on. -/
import Derived.Test.YtdchcmaceobpeaaDoorPkWorks
namespace Go.Proofs.YtdchcmaceobpeaaDoor
open Go.RowKit Go.Sort
/-- The claims that came in: two cells each. -/
def Claims2 (w : World) (b off len : Nat) (xs ns : List Int) : Prop :=
  ∀ i, i < len → b < w.heap.size ∧ w.cell? ⟨b, off + i * 2, none⟩ = some (.int .i64 (xs.getD i 0)) ∧ w.cell? ⟨b, off + i * 2 + 1, none⟩ = some (.int .i64 (ns.getD i 0))
abbrev ApS (w : World) (X bb : Nat) (at0 at1 : Nat) (s l h o x n : Int) : World → Prop := fun w' => w'.cell? ⟨X, 0, none⟩ = some (.int .i64 s) ∧ w'.cell? ⟨X, 1, none⟩ = some (.int .i64 l) ∧ w'.cell? ⟨X, 2, none⟩ = some (.int .i64 h) ∧ w'.cell? ⟨X, 3, none⟩ = some (.int .i64 o) ∧ w'.cell? ⟨bb, at0, none⟩ = some (.int .i64 x) ∧ w'.cell? ⟨bb, at1, none⟩ = some (.int .i64 n) ∧ Below w.heap.size w w'
theorem apS_call {w w1 w2 : World} {X bb at0 at1 : Nat} {s l h o x n : Int} (hf : ApS w X bb at0 at1 s l h o x n w1) (hb : Below w1.heap.size w1 w2) : ApS w X bb at0 at1 s l h o x n w2 := by
  obtain ⟨h0, h1, h2, h3, h4, h5, h6⟩ := hf
  have hg : X < w1.heap.size := block_lt_of_cell h0
  have hg2 : bb < w1.heap.size := block_lt_of_cell h4
  exact ⟨(hb.cell (p := ⟨X, 0, none⟩) hg).trans h0, (hb.cell (p := ⟨X, 1, none⟩) hg).trans h1, (hb.cell (p := ⟨X, 2, none⟩) hg).trans h2, (hb.cell (p := ⟨X, 3, none⟩) hg).trans h3, (hb.cell (p := ⟨bb, at0, none⟩) hg2).trans h4, (hb.cell (p := ⟨bb, at1, none⟩) hg2).trans h5, h6.trans (hb.mono h6.size)⟩
theorem apS_alloc {w w1 : World} {X bb at0 at1 : Nat} {s l h o x n : Int} (hf : ApS w X bb at0 at1 s l h o x n w1) (ob : Obj) : ApS w X bb at0 at1 s l h o x n (w1.alloc ob) := apS_call hf (below_alloc0 w1 ob)
theorem apS_drew {w w0 : World} {X bb at0 at1 : Nat} {s l h o x n : Int} (hf : ApS w0 X bb at0 at1 s l h o x n w) : ApS w0 X bb at0 at1 s l h o x n w.drew :=
  ⟨hf.1, hf.2.1, hf.2.2.1, hf.2.2.2.1, hf.2.2.2.2.1, hf.2.2.2.2.2.1, hf.2.2.2.2.2.2.drew⟩
theorem far_cell {w : World} {g j X k : Nat} {v u : Value} (h : w.cell? ⟨X, k, none⟩ = some u) (hx : X < g) : (w.setCell ⟨g, j, none⟩ v).cell? ⟨X, k, none⟩ = some u := by
  rw [World.cell?_setCell_far _ _ _ _ (by show g ≠ X; omega)]; exact h
theorem apS_set {w w1 : World} {X bb at0 at1 g j : Nat} {s l h o x n : Int} {v : Value} (hf : ApS w X bb at0 at1 s l h o x n w1) (hX : X < g) (hb : bb < g) (hw : w.heap.size ≤ g) : ApS w X bb at0 at1 s l h o x n (w1.setCell ⟨g, j, none⟩ v) :=
  ⟨far_cell hf.1 hX, far_cell hf.2.1 hX, far_cell hf.2.2.1 hX, far_cell hf.2.2.2.1 hX, far_cell hf.2.2.2.2.1 hb, far_cell hf.2.2.2.2.2.1 hb, hf.2.2.2.2.2.2.setCell hw _⟩
theorem apS_four {w w1 : World} {X bb at0 at1 g : Nat} {s l h o x n : Int} {u v y z : Value} (hf : ApS w X bb at0 at1 s l h o x n w1) (hX : X < g) (hb : bb < g) (hw : w.heap.size ≤ g) : ApS w X bb at0 at1 s l h o x n ((((w1.setCell ⟨g, 0, none⟩ u).setCell ⟨g, 1, none⟩ v).setCell ⟨g, 2, none⟩ y).setCell ⟨g, 3, none⟩ z) :=
  apS_set (apS_set (apS_set (apS_set hf hX hb hw) hX hb hw) hX hb hw) hX hb hw
/-- A frontier's row. -/
abbrev FrRow (w : World) (g : Nat) (s l h o : Int) : Prop := w.heap[g]? = some (.cells #[.int .i64 s, .int .i64 l, .int .i64 h, .int .i64 o] 40)
/-- The row of beginnings. -/
abbrev NxRow (w : World) (g : Nat) (a b : Int) : Prop := w.heap[g]? = some (.cells #[.int .i64 a, .int .i64 b] 61)
/-- Behind a round's claim: the frontier at X, the beginnings at M, the claim's frontier at g. -/
def Aft (w wr W : World) (X M g bb at0 at1 : Nat) (s l h o p q x n a b c d : Int) : Prop :=
  ApS w X bb at0 at1 s l h o x n W ∧ FrRow W X s l h o ∧ NxRow W M p q ∧ FrRow W g a b c d ∧ X < M ∧ M < g ∧ wr.heap.size ≤ W.heap.size ∧ g < W.heap.size
theorem frRow_lt {w : World} {g : Nat} {A : Obj} (h : w.heap[g]? = some A) : g < w.heap.size := by
  by_cases hg : g < w.heap.size
  · exact hg
  · rw [Array.getElem?_eq_none (by omega)] at h; cases h
theorem aft_a {w wr w3 : World} {X M bb at0 at1 : Nat} {s l h o p q x n a b c d : Int} (hS : ApS w X bb at0 at1 s l h o x n wr) (hX : FrRow wr X s l h o) (hM : NxRow wr M p q) (hXM : X < M) (b3 : Below wr.drew.heap.size wr.drew w3) :
    Aft w wr (w3.alloc (.cells #[.int .i64 a, .int .i64 b, .int .i64 c, .int .i64 d] 40)) X M w3.heap.size bb at0 at1 s l h o p q x n a b c d := by
  have hm : M < wr.drew.heap.size := frRow_lt hM
  have hx : X < wr.drew.heap.size := frRow_lt hX
  have sz : wr.heap.size ≤ w3.heap.size := b3.size
  have szd : wr.drew.heap.size = wr.heap.size := rfl
  refine ⟨apS_alloc (apS_call (apS_drew hS) b3) _, (Below.heap_alloc w3 _ _ (by omega)).trans ((b3.block _ hx).trans hX), (Below.heap_alloc w3 _ _ (by omega)).trans ((b3.block _ hm).trans hM), heap_alloc_last w3 _, hXM, by omega, by simp; omega, by simp⟩
theorem four_row {w : World} {g : Nat} {v0 v1 v2 v3 : Value} {t : TypeId} (r : w.heap[g]? = some (.cells #[v0, v1, v2, v3] t)) (a b c d : Value) : ((((w.setCell ⟨g, 0, none⟩ a).setCell ⟨g, 1, none⟩ b).setCell ⟨g, 2, none⟩ c).setCell ⟨g, 3, none⟩ d).heap[g]? = some (.cells #[a, b, c, d] t) := by
  have r1 := heap_setCell_same w g 0 _ t a r
  have r2 := heap_setCell_same _ g 1 _ t b r1
  have r3 := heap_setCell_same _ g 2 _ t c r2
  have r4 := heap_setCell_same _ g 3 _ t d r3
  exact r4
theorem four_far {w : World} {g k : Nat} (hk : k ≠ g) (a b c d : Value) : ((((w.setCell ⟨g, 0, none⟩ a).setCell ⟨g, 1, none⟩ b).setCell ⟨g, 2, none⟩ c).setCell ⟨g, 3, none⟩ d).heap[k]? = w.heap[k]? := by
  rw [heap_setCell_other _ _ _ _ hk, heap_setCell_other _ _ _ _ hk, heap_setCell_other _ _ _ _ hk, heap_setCell_other _ _ _ _ hk]
theorem aft_b {w wr w3 : World} {X M bb at0 at1 : Nat} {s l h o p q x n a b c d : Int} {v0 v1 v2 v3 : Value} (hS : ApS w X bb at0 at1 s l h o x n wr) (hX : FrRow wr X s l h o) (hM : NxRow wr M p q) (hXM : X < M)
    (b3 : Below ((wr.alloc (.cells #[v0, v1, v2, v3] 40)).drew).heap.size ((wr.alloc (.cells #[v0, v1, v2, v3] 40)).drew) w3) :
    Aft w wr ((((w3.setCell ⟨wr.heap.size, 0, none⟩ (.int .i64 a)).setCell ⟨wr.heap.size, 1, none⟩ (.int .i64 b)).setCell ⟨wr.heap.size, 2, none⟩ (.int .i64 c)).setCell ⟨wr.heap.size, 3, none⟩ (.int .i64 d)) X M wr.heap.size bb at0 at1 s l h o p q x n a b c d := by
  have hm : M < wr.heap.size := frRow_lt hM
  have hx : X < wr.heap.size := frRow_lt hX
  have hb : bb < wr.heap.size := block_lt_of_cell hS.2.2.2.2.1
  have hw : w.heap.size ≤ wr.heap.size := hS.2.2.2.2.2.2.size
  have szd : ((wr.alloc (.cells #[v0, v1, v2, v3] 40)).drew).heap.size = wr.heap.size + 1 := size_alloc wr _
  have sz : wr.heap.size + 1 ≤ w3.heap.size := by have := b3.size; omega
  have rY : w3.heap[wr.heap.size]? = some (.cells #[v0, v1, v2, v3] 40) := (b3.block _ (by omega)).trans (heap_alloc_last wr _)
  have rX := (b3.block X (by omega)).trans ((show _ from Below.heap_alloc wr (.cells #[v0, v1, v2, v3] 40) X hx).trans hX)
  have rM := (b3.block M (by omega)).trans ((show _ from Below.heap_alloc wr (.cells #[v0, v1, v2, v3] 40) M hm).trans hM)
  refine ⟨apS_four (apS_call (apS_drew (apS_alloc hS _)) b3) hx hb hw, (four_far (by omega) _ _ _ _).trans rX, (four_far (by omega) _ _ _ _).trans rM, four_row rY _ _ _ _, hXM, hm, by simp [World.setCell]; omega, by simp [World.setCell]; omega⟩
/-- What a round carries. -/
def ApR (w : World) (M : Nat) (s h l o : Int) (wr : World) : Prop :=
  FrRow wr w.heap.size s l h o ∧ (if s = 0 then NxRow wr M l o else NxRow wr M o l) ∧ Below w.heap.size w wr ∧ w.heap.size < M ∧ M < wr.heap.size
theorem apR_same {w wr W : World} {M g bb at0 at1 : Nat} {s l h o p q x n a b c d : Int} (hr : ApR w M s h l o wr) (hp : (if s = 0 then NxRow wr M l o else NxRow wr M o l) → (p, q) = (if s = 0 then (l, o) else (o, l))) (ha : Aft w wr W w.heap.size M g bb at0 at1 s l h o p q x n a b c d) : ApR w M s h l o W := by
  obtain ⟨h1, h2, h3, h4, h5, h6, h7, h8⟩ := ha
  have hpq := hp hr.2.1
  refine ⟨h2, ?_, h1.2.2.2.2.2.2, hr.2.2.2.1, by omega⟩
  by_cases hs : s = 0
  · rw [if_pos hs] at hpq ⊢; cases hpq; exact h3
  · rw [if_neg hs] at hpq ⊢; cases hpq; exact h3
theorem nx_set0 {w : World} {g : Nat} {a b : Int} (r : NxRow w g a b) (v : Int) : NxRow (w.setCell ⟨g, 0, none⟩ (.int .i64 v)) g v b := heap_setCell_same w g 0 _ _ _ r
theorem nx_set1 {w : World} {g : Nat} {a b : Int} (r : NxRow w g a b) (v : Int) : NxRow (w.setCell ⟨g, 1, none⟩ (.int .i64 v)) g a v := heap_setCell_same w g 1 _ _ _ r
/-- Behind a claim that went well: the beginnings are set, the frontier is the claim's. -/
theorem apR_next0 {w wr W : World} {M g bb at0 at1 j : Nat} {s l h o p q x n l2 o2 p2 q2 v : Int} (ha : Aft w wr W w.heap.size M g bb at0 at1 s l h o p q x n s l2 h o2)
    (hj : ∀ W', NxRow W' M p q → NxRow (W'.setCell ⟨M, j, none⟩ (.int .i64 v)) M p2 q2) (hp : (p2, q2) = (if s = 0 then (l2, o2) else (o2, l2))) :
    ApR w M s h l2 o2 (((((W.setCell ⟨M, j, none⟩ (.int .i64 v)).setCell ⟨w.heap.size, 0, none⟩ (.int .i64 s)).setCell ⟨w.heap.size, 1, none⟩ (.int .i64 l2)).setCell ⟨w.heap.size, 2, none⟩ (.int .i64 h)).setCell ⟨w.heap.size, 3, none⟩ (.int .i64 o2)) := by
  obtain ⟨h1, h2, h3, h4, h5, h6, h7, h8⟩ := ha
  have rX : (W.setCell ⟨M, j, none⟩ (.int .i64 v)).heap[w.heap.size]? = _ := (heap_setCell_other W ⟨M, j, none⟩ _ _ (by show w.heap.size ≠ M; omega)).trans h2
  have rM : NxRow (W.setCell ⟨M, j, none⟩ (.int .i64 v)) M p2 q2 := hj W h3
  refine ⟨four_row rX _ _ _ _, ?_, (four_set (h1.2.2.2.2.2.2.setCell (by show w.heap.size ≤ M; omega) _) (Nat.le_refl _) _ _ _ _), h5, ?_⟩
  · by_cases hs : s = 0
    · rw [if_pos hs] at hp ⊢; cases hp; exact (four_far (by omega) _ _ _ _).trans rM
    · rw [if_neg hs] at hp ⊢; cases hp; exact (four_far (by omega) _ _ _ _).trans rM
  · show M < (World.setCell _ _ _).heap.size
    simp [World.setCell]
    omega
theorem apR_drew {w wr : World} {M : Nat} {s h l o : Int} (hr : ApR w M s h l o wr) : ApR w M s h l o wr.drew :=
  ⟨hr.1, hr.2.1, hr.2.2.1.drew, hr.2.2.2.1, hr.2.2.2.2⟩
theorem apR_next {w wr W : World} {M g bb at0 at1 j : Nat} {s l h o p q x n l2 o2 p2 q2 v : Int} (ha : Aft w wr W w.heap.size M g bb at0 at1 s l h o p q x n s l2 h o2)
    (hj : ∀ W', NxRow W' M p q → NxRow (W'.setCell ⟨M, j, none⟩ (.int .i64 v)) M p2 q2) (hp : (p2, q2) = (if s = 0 then (l2, o2) else (o2, l2))) :
    ApR w M s h l2 o2 (((((W.setCell ⟨M, j, none⟩ (.int .i64 v)).setCell ⟨w.heap.size, 0, none⟩ (.int .i64 s)).setCell ⟨w.heap.size, 1, none⟩ (.int .i64 l2)).setCell ⟨w.heap.size, 2, none⟩ (.int .i64 h)).setCell ⟨w.heap.size, 3, none⟩ (.int .i64 o2)).drew :=
  apR_drew (apR_next0 ha hj hp)
theorem cl_in {s l h o x n : Int} (hk : Pk.frOk s l h o = true) (hx : x = s) (hn : 1 ≤ n) (hm : n ≤ h - l - o) : Pk.cl s l h o x n = (s, l + n, h, o, l, 0) := by
  have hb := Pk.frOk_yes hk
  unfold Pk.cl
  rw [if_pos ⟨hk, by omega, hn⟩, if_pos hm, if_pos hx]
theorem cl_out {s l h o x n : Int} (hk : Pk.frOk s l h o = true) (hs : x = 0 ∨ x = 1) (hx : ¬ x = s) (hn : 1 ≤ n) (hm : n ≤ h - l - o) : Pk.cl s l h o x n = (s, l, h, o + n, o, 0) := by
  unfold Pk.cl
  rw [if_pos ⟨hk, hs, hn⟩, if_pos hm, if_neg hx]
theorem cl_err {s l h o x n : Int} (hx : ¬ ((x = 0 ∨ x = 1) ∧ 1 ≤ n ∧ n ≤ h - l - o)) : ∃ r, Pk.cl s l h o x n = (0, 0, 0, 0, 0, r) ∧ (r != 0) = true := by
  unfold Pk.cl
  by_cases h1 : Pk.frOk s l h o = true ∧ (x = 0 ∨ x = 1) ∧ 1 ≤ n
  · rw [if_pos h1, if_neg (fun h2 => hx ⟨h1.2.1, h1.2.2, h2⟩)]
    exact ⟨4, rfl, rfl⟩
  · rw [if_neg h1]
    exact ⟨2, rfl, rfl⟩
theorem bcell {W w1 : World} (hb : Below W.heap.size W w1) : (∀ b o, b < W.heap.size → w1.cell? ⟨b, o, none⟩ = W.cell? ⟨b, o, none⟩) ∧ (∀ b o, b < W.heap.size → w1.frozen? ⟨b, o, none⟩ = W.frozen? ⟨b, o, none⟩) :=
  ⟨fun b o h => hb.cell (p := ⟨b, o, none⟩) h, fun b o h => hb.frozen (p := ⟨b, o, none⟩) h⟩
theorem us_of {s l h o : Int} (hk : Pk.frOk s l h o = true) : Pk.us s l h o 4096 = (l + 4096 - h + o, 0) := by
  have hb := Pk.frOk_yes hk
  unfold Pk.us
  rw [if_pos ⟨hk, by omega, by omega⟩]
end Go.Proofs.YtdchcmaceobpeaaDoor
