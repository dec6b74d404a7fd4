/- What every walk wants: boxes that a call made ahead of another call; endings; one label; slices of words. -/
import Derived.Test.YtlkhmfmocegekaaDoorProg
import Derived.WalkKit
import Derived.WalkLawsBesides
import Derived.WalkSpells
import Derived.BigQuiet
import Derived.Outline
import Derived.Deep.WholeRow
import Derived.Laws.EntriesVeiled
import Derived.Deep.RegionHeld3
import Derived.BigRegion
import Derived.Lib.QuietBelow
namespace Go.Proofs.YtlkhmfmocegekaaDoor
open Go.RowKit
theorem hid {p : Prop} (h : p) : Hid p := h
theorem ret_int {k : IntKind} {a b : Int} (h : a = b) : Ending.returned (.int k a) = .returned (.int k b) := by rw [h]
theorem ret_bool {a b : Bool} (h : a = b) : Ending.returned (.bool a) = .returned (.bool b) := by rw [h]
theorem ret_str {a b : ByteArray} (h : a = b) : Ending.returned (.string a) = .returned (.string b) := by rw [h]
theorem cell_last (w : World) (cs : Array Value) (t : TypeId) (j : Nat) (v : Value) (h : cs[j]? = some v) : (w.alloc (.cells cs t)).cell? ⟨w.heap.size, j, none⟩ = some v :=
  (cell_of_row _ _ j _ _ _ (heap_alloc_last w _)).trans h
theorem below_alloc0 (w : World) (o : Obj) : Below w.heap.size w (w.alloc o) := (Below.refl _ _).alloc (Nat.le_refl _) _
theorem ret_ie {a b c d : Int} (h : a = b) (h2 : c = d) : Ending.returned (.tuple #[.int .u64 a, .int .i64 c]) = .returned (.tuple #[.int .u64 b, .int .i64 d]) := by rw [h, h2]
theorem size_alloc (w : World) (A : Obj) : (w.alloc A).heap.size = w.heap.size + 1 := by simp
theorem row1 {w w1 : World} {A : Obj} (b : Below (w.alloc A).heap.size (w.alloc A) w1) : w1.heap[w.heap.size]? = some A :=
  (b.block _ (by simp)).trans (heap_alloc_last w A)
theorem row2a {w w1 : World} {A B : Obj} (b : Below ((w.alloc A).alloc B).heap.size ((w.alloc A).alloc B) w1) : w1.heap[w.heap.size]? = some A :=
  (b.block _ (by simp; omega)).trans ((Below.heap_alloc (w.alloc A) B _ (by simp)).trans (heap_alloc_last w A))
theorem row2b {w w1 : World} {A B : Obj} (b : Below ((w.alloc A).alloc B).heap.size ((w.alloc A).alloc B) w1) : w1.heap[w.heap.size + 1]? = some B := by
  have := row1 b
  rwa [size_alloc] at this
theorem row3a {w w1 : World} {A B C : Obj} (b : Below (((w.alloc A).alloc B).alloc C).heap.size (((w.alloc A).alloc B).alloc C) w1) : w1.heap[w.heap.size]? = some A :=
  (b.block _ (by simp; omega)).trans ((Below.heap_alloc _ C _ (by simp; omega)).trans ((Below.heap_alloc _ B _ (by simp)).trans (heap_alloc_last w A)))
theorem row3b {w w1 : World} {A B C : Obj} (b : Below (((w.alloc A).alloc B).alloc C).heap.size (((w.alloc A).alloc B).alloc C) w1) : w1.heap[w.heap.size + 1]? = some B := by
  have := row2a b
  rwa [size_alloc] at this
theorem row3c {w w1 : World} {A B C : Obj} (b : Below (((w.alloc A).alloc B).alloc C).heap.size (((w.alloc A).alloc B).alloc C) w1) : w1.heap[w.heap.size + 1 + 1]? = some C := by
  have := row2b b
  rwa [size_alloc] at this
theorem at_row {w : World} {g : Nat} {cs : Array Value} {t : TypeId} (h : w.heap[g]? = some (.cells cs t)) (j : Nat) {v : Value} (hv : cs[j]? = some v) : w.cell? ⟨g, j, none⟩ = some v :=
  (cell_of_row _ _ j _ _ _ h).trans hv
theorem fz_row {w : World} {g : Nat} {cs : Array Value} {t : TypeId} (h : w.heap[g]? = some (.cells cs t)) (j : Nat) : w.frozen? ⟨g, j, none⟩ = false :=
  frozen_of_row _ _ j _ _ h
theorem bel1 {w w1 : World} {A : Obj} (b : Below (w.alloc A).heap.size (w.alloc A) w1) : Below w.heap.size w w1 :=
  (below_alloc0 w A).trans (b.mono (by simp))
theorem bel2 {w w1 : World} {A B : Obj} (b : Below ((w.alloc A).alloc B).heap.size ((w.alloc A).alloc B) w1) : Below w.heap.size w w1 :=
  ((below_alloc0 w A).alloc (by simp) B).trans (b.mono (by simp; omega))
theorem bel3 {w w1 : World} {A B C : Obj} (b : Below (((w.alloc A).alloc B).alloc C).heap.size (((w.alloc A).alloc B).alloc C) w1) : Below w.heap.size w w1 :=
  (((below_alloc0 w A).alloc (by simp) B).alloc (by simp; omega) C).trans (b.mono (by simp; omega))
theorem siz1 {w w1 : World} {A : Obj} (b : Below (w.alloc A).heap.size (w.alloc A) w1) : w.heap.size < w1.heap.size := by
  have := b.size; simp at this; omega
theorem siz2 {w w1 : World} {A B : Obj} (b : Below ((w.alloc A).alloc B).heap.size ((w.alloc A).alloc B) w1) : w.heap.size + 1 < w1.heap.size := by
  have := b.size; simp at this; omega
theorem siz3 {w w1 : World} {A B C : Obj} (b : Below (((w.alloc A).alloc B).alloc C).heap.size (((w.alloc A).alloc B).alloc C) w1) : w.heap.size + 1 + 1 < w1.heap.size := by
  have := b.size; simp at this; omega
theorem two_set {B : Nat} {w w1 : World} (h : Below B w w1) {g : Nat} (hg : B ≤ g) (u v : Value) : Below B w ((w1.setCell ⟨g, 0, none⟩ u).setCell ⟨g, 1, none⟩ v) :=
  (h.setCell hg _).setCell hg _
theorem ret_ii {a b c d : Int} (h : a = b) (h2 : c = d) : Ending.returned (.tuple #[.int .i64 a, .int .i64 c]) = .returned (.tuple #[.int .i64 b, .int .i64 d]) := by rw [h, h2]
theorem four_set {B : Nat} {w w1 : World} (h : Below B w w1) {g : Nat} (hg : B ≤ g) (u v x y : Value) : Below B w ((((w1.setCell ⟨g, 0, none⟩ u).setCell ⟨g, 1, none⟩ v).setCell ⟨g, 2, none⟩ x).setCell ⟨g, 3, none⟩ y) :=
  (((h.setCell hg _).setCell hg _).setCell hg _).setCell hg _
theorem fz_alloc {w : World} {g j : Nat} (h : w.frozen? ⟨g, j, none⟩ = false) (hz : g < w.heap.size) (O : Obj) : (w.alloc O).frozen? ⟨g, j, none⟩ = false :=
  ((below_alloc0 w O).frozen (p := ⟨g, j, none⟩) hz).trans h
/-- A scope out of which the run jumps to one label, once. -/
theorem wp_scope_once {P : Program} {Q : Exit → Act → World → Prop} {a : Act} {w : World} {c rest : Code} (l : Nat) (hf : findLabel c l = some rest)
    (first : c.wp P (Exit.jump l (fun a w => rest.wp P (Exit.noGoto Q) a w) Q) a w) : (Code.scope c).wp P Q a w :=
  wp_scope_jumps l (fun a w => rest.wp P (Exit.noGoto Q) a w) (fun _ _ => 0) hf first (fun a w hJ => Code.wp_mono (fun e a' w' h => by
    cases e <;> first | exact h | exact (h : False).elim) hJ)
/-- A slice of words that came in: nil, or so many cells that each hold a word. -/
def IsRow (w : World) (a : Option Addr) (len cap : Nat) (zs : List Int) : Prop :=
  (a = none ∧ len = 0 ∧ cap = 0 ∧ zs = []) ∨
  ∃ x, a = some x ∧ len ≤ cap ∧ cap ≤ maxLen ∧ zs.length = cap ∧ (∀ i, i < zs.length → w.cell? (x.add i) = some (.int .u64 (zs.getD i 0))) ∧ ∀ n ∈ zs, (Lit.int .u64 n).wf = true
/-- The cells of a slice of words that came in. -/
def Cells (w : World) (b off len : Nat) (zs : List Int) : Prop :=
  ∀ i, i < len → b < w.heap.size ∧ w.cell? ⟨b, off + i, none⟩ = some (.int .u64 (zs.getD i 0)) ∧ 0 ≤ zs.getD i 0 ∧ zs.getD i 0 ≤ 18446744073709551615
theorem IsRow.cells {w : World} {x : Addr} {len cap : Nat} {zs : List Int} (h0 : 0 < len) (hl : len ≤ cap) (hz : zs.length = cap)
    (hcell : ∀ i, i < zs.length → w.cell? (x.add i) = some (.int .u64 (zs.getD i 0))) (hw : ∀ n ∈ zs, (Lit.int .u64 n).wf = true) : ∃ b off, x = ⟨b, off, none⟩ ∧ Cells w b off len zs := by
  obtain ⟨b, off, spot⟩ := x
  have hc := hcell 0 (by omega)
  have hspot : spot = none := by simpa [Addr.add] using World.cell?_spot hc
  subst hspot
  refine ⟨b, off, rfl, fun i hi => ?_⟩
  have hi' : i < zs.length := by omega
  have hci : w.cell? ⟨b, off + i, none⟩ = some (.int .u64 (zs.getD i 0)) := by
    have := hcell i hi'
    have ha : (⟨b, off, none⟩ : Addr).add i = ⟨b, off + i, none⟩ := by unfold Addr.add; split <;> simp_all
    rwa [ha] at this
  have hm : zs.getD i 0 ∈ zs := by rw [List.getD_eq_getElem?_getD, List.getElem?_eq_getElem hi']; exact List.getElem_mem hi'
  have hwf := hw _ hm
  have hbd : 0 ≤ zs.getD i 0 ∧ zs.getD i 0 ≤ 18446744073709551615 := by
    simp [Lit.wf, IntKind.min, IntKind.max, IntKind.signed, IntKind.bits] at hwf
    simp
    omega
  exact ⟨block_lt_of_cell hci, hci, hbd.1, hbd.2⟩
end Go.Proofs.YtlkhmfmocegekaaDoor
