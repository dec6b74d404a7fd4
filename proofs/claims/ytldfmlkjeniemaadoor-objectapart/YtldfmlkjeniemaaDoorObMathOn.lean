/- The plain mathematics of layer 7: what a walk comes to and what it tells; no model in it. -/
import Derived.Test.YtldfmlkjeniemaaDoorShMathOn
import Derived.Test.YtldfmlkjeniemaaDoorProg
import Derived.WalkKit
import Derived.WalkLawsBesides
import Derived.WalkSpells
import Derived.BigQuiet
import Derived.Outline
import Derived.Deep.WholeRow
import Derived.Laws.EntriesVeiled
import Derived.Deep.RegionHeld3
import Derived.BigRegion
import Derived.Lib.QuietBelow
namespace Go.Ob
/-- The words that a walk comes to, one behind the other: f tells how many words the object has that stands at a word, or 0. -/
def vis (f : Int → Int) (a : Int) : Nat → Int
  | 0 => a
  | k + 1 => vis f a k + max (f (vis f a k)) 1
/-- The objects among the first so many of them. -/
def tol (f : Int → Int) (a : Int) : Nat → List Int
  | 0 => []
  | k + 1 => tol f a k ++ (if 0 < f (vis f a k) then [vis f a k] else [])
theorem vis_succ (f : Int → Int) (a : Int) (k : Nat) : vis f a (k + 1) = vis f a k + max (f (vis f a k)) 1 := rfl
theorem tol_hit {f : Int → Int} {a : Int} {k : Nat} (h : 0 < f (vis f a k)) : tol f a (k + 1) = tol f a k ++ [vis f a k] := by
  show tol f a k ++ (if 0 < f (vis f a k) then [vis f a k] else []) = _
  rw [if_pos h]
theorem tol_miss {f : Int → Int} {a : Int} {k : Nat} (h : ¬ 0 < f (vis f a k)) : tol f a (k + 1) = tol f a k := by
  show tol f a k ++ (if 0 < f (vis f a k) then [vis f a k] else []) = _
  rw [if_neg h, List.append_nil]
theorem vis_add (f : Int → Int) (a : Int) (j : Nat) : ∀ k, vis f (vis f a j) k = vis f a (j + k)
  | 0 => rfl
  | k + 1 => by
    rw [vis_succ, vis_add f a j k]
    rfl
theorem tol_add (f : Int → Int) (a : Int) (j : Nat) : ∀ k, tol f a (j + k) = tol f a j ++ tol f (vis f a j) k
  | 0 => by simp [tol]
  | k + 1 => by
    show tol f a (j + k) ++ (if 0 < f (vis f a (j + k)) then [vis f a (j + k)] else []) = tol f a j ++ (tol f (vis f a j) k ++ (if 0 < f (vis f (vis f a j) k) then [vis f (vis f a j) k] else []))
    rw [tol_add f a j k, vis_add, List.append_assoc]
theorem vis_lt (f : Int → Int) (a : Int) (k : Nat) : vis f a k + 1 ≤ vis f a (k + 1) := by
  rw [vis_succ]; omega
theorem vis_ge (f : Int → Int) (a : Int) : ∀ k : Nat, a + (k : Int) ≤ vis f a k
  | 0 => by simp [vis]
  | k + 1 => by
    have := vis_ge f a k
    have := vis_lt f a k
    omega
theorem vis_mono (f : Int → Int) (a : Int) (j : Nat) : ∀ k, vis f a j ≤ vis f a (j + k)
  | 0 => Int.le_refl _
  | k + 1 => by
    have := vis_mono f a j k
    have := vis_lt f a (j + k)
    rw [show j + (k + 1) = j + k + 1 by omega]
    omega
theorem tol_le (f : Int → Int) (a : Int) : ∀ k, (tol f a k).length ≤ k
  | 0 => by simp [tol]
  | k + 1 => by
    have := tol_le f a k
    by_cases h : 0 < f (vis f a k)
    · rw [tol_hit h]; simp; omega
    · rw [tol_miss h]; omega
theorem tol_mono (f : Int → Int) (a : Int) (j k : Nat) : (tol f a j).length ≤ (tol f a (j + k)).length := by
  rw [tol_add]; simp
/-- A walk up to U ends at the first word that is not below U. -/
def Ends (f : Int → Int) (a U : Int) (K : Nat) : Prop := U ≤ vis f a K ∧ ∀ j, j < K → vis f a j < U
theorem Ends.uniq {f : Int → Int} {a U : Int} {K L : Nat} (h : Ends f a U K) (k : Ends f a U L) : K = L := by
  by_cases h1 : K < L
  · have := k.2 K h1; have := h.1; omega
  · by_cases h2 : L < K
    · have := h.2 L h2; have := k.1; omega
    · omega
theorem Ends.le {f : Int → Int} {a U : Int} {K : Nat} (h : Ends f a U K) (ha : a ≤ U) : a + (K : Int) ≤ U := by
  cases K with
  | zero => simpa using ha
  | succ k =>
    have := h.2 k (by omega)
    have := vis_ge f a k
    omega
theorem Ends.part {f : Int → Int} {a U : Int} {K j : Nat} (h : Ends f a U K) (hj : j ≤ K) : Ends f (vis f a j) U (K - j) := by
  refine ⟨?_, fun i hi => ?_⟩
  · rw [vis_add, show j + (K - j) = K by omega]; exact h.1
  · rw [vis_add]; exact h.2 _ (by omega)
/-- Which word an object is at that is told. -/
theorem tol_get (f : Int → Int) (a : Int) : ∀ (K i : Nat), i < (tol f a K).length → ∃ j, j < K ∧ (tol f a j).length = i ∧ (tol f a K).getD i 0 = vis f a j ∧ 0 < f (vis f a j)
  | 0, i, h => by simp [tol] at h
  | K + 1, i, h => by
    by_cases hk : 0 < f (vis f a K)
    · rw [tol_hit hk] at h ⊢
      by_cases hi : i < (tol f a K).length
      · obtain ⟨j, h1, h2, h3, h4⟩ := tol_get f a K i hi
        refine ⟨j, by omega, h2, ?_, h4⟩
        rw [← h3, List.getD_eq_getElem?_getD, List.getD_eq_getElem?_getD, List.getElem?_append_left hi]
      · have e : i = (tol f a K).length := by simp at h; omega
        refine ⟨K, by omega, e.symm, ?_, hk⟩
        rw [List.getD_eq_getElem?_getD, e]; simp
    · rw [tol_miss hk] at h ⊢
      obtain ⟨j, h1, h2, h3, h4⟩ := tol_get f a K i h
      exact ⟨j, by omega, h2, h3, h4⟩
/-- What stands behind the object that is told as number i is what is told behind it. -/
theorem tol_behind {f : Int → Int} {a : Int} {K j : Nat} (hj : j < K) (hf : 0 < f (vis f a j)) :
    (tol f a K).length = (tol f a j).length + 1 + (tol f (vis f a (j + 1)) (K - (j + 1))).length ∧
    ∀ i, (tol f a K).getD ((tol f a j).length + 1 + i) 0 = (tol f (vis f a (j + 1)) (K - (j + 1))).getD i 0 := by
  have e : tol f a K = tol f a (j + 1) ++ tol f (vis f a (j + 1)) (K - (j + 1)) := by
    rw [← tol_add, show j + 1 + (K - (j + 1)) = K by omega]
  rw [e, tol_hit hf]
  refine ⟨by simp; omega, fun i => ?_⟩
  rw [List.getD_eq_getElem?_getD, List.getD_eq_getElem?_getD, List.getElem?_append_right (by simp)]
  simp
theorem vis_hit {f : Int → Int} {a : Int} {j : Nat} (h : 0 < f (vis f a j)) : vis f a (j + 1) = vis f a j + f (vis f a j) := by
  rw [vis_succ]; omega
/-- Objects that are told one behind the other: the second one begins where the first one has ended, or behind. -/
theorem tol_next {f : Int → Int} {a : Int} {i j : Nat} (hl : (tol f a i).length < (tol f a j).length) : i < j := by
  by_cases h : i < j
  · exact h
  · have := tol_mono f a j (i - j)
    rw [show j + (i - j) = i by omega] at this
    omega
end Go.Ob
/- The plain mathematics of a walk that is parted behind one of its objects. -/
namespace Go.Ob
/-- Where the object ends that is told as number k - 1; at the beginning, where the walk begins. -/
def enA (f : Int → Int) (a : Int) (zs : List Int) : Nat → Int
  | 0 => a
  | k + 1 => zs.getD k 0 + f (zs.getD k 0)
theorem enA_succ (f : Int → Int) (a : Int) (zs : List Int) (k : Nat) : enA f a zs (k + 1) = zs.getD k 0 + f (zs.getD k 0) := rfl
theorem vis_ge0 (f : Int → Int) (a : Int) (j : Nat) : a ≤ vis f a j := by have := vis_ge f a j; omega
theorem apart_at {f : Int → Int} {a U : Int} {K : Nat} (hK : Ends f a U K) (hf : ∀ p, f p = 0 ∨ (2 ≤ f p ∧ f p ≤ U - p)) (k : Nat) (hk : k < (tol f a K).length) :
    2 ≤ f ((tol f a K).getD k 0) ∧ enA f a (tol f a K) k ≤ (tol f a K).getD k 0 ∧ enA f a (tol f a K) (k + 1) ≤ U ∧ a ≤ (tol f a K).getD k 0 ∧
    ∃ L, Ends f (enA f a (tol f a K) (k + 1)) U L ∧ (tol f a K).length = k + 1 + (tol f (enA f a (tol f a K) (k + 1)) L).length ∧ (tol f a K).getD (k + 1) 0 = (tol f (enA f a (tol f a K) (k + 1)) L).getD 0 0 := by
  obtain ⟨j, hj, hl, hg, hp⟩ := tol_get f a K k hk
  have h2 := hf (vis f a j)
  have e1 : enA f a (tol f a K) (k + 1) = vis f a (j + 1) := by rw [enA_succ, hg, vis_hit hp]
  obtain ⟨b1, b2⟩ := tol_behind hj hp
  have b3 := b2 0
  rw [hl] at b1 b3
  rw [hg, e1]
  refine ⟨by omega, ?_, by rw [vis_hit hp]; omega, vis_ge0 f a j, K - (j + 1), hK.part (by omega), b1, b3⟩
  cases k with
  | zero => exact vis_ge0 f a j
  | succ k =>
    obtain ⟨i, hi, hl2, hg2, hp2⟩ := tol_get f a K k (by omega)
    rw [enA_succ, hg2, ← vis_hit hp2]
    have hij : i < j := tol_next (f := f) (a := a) (by omega)
    have := vis_mono f a (i + 1) (j - (i + 1))
    rw [show i + 1 + (j - (i + 1)) = j by omega] at this
    exact this
end Go.Ob
/- What every walk wants: boxes that a call made ahead of another call; endings; one label; slices of words. -/
namespace Go.Proofs.YtldfmlkjeniemaaDoor
open Go.RowKit
theorem hid {p : Prop} (h : p) : Hid p := h
theorem ret_int {k : IntKind} {a b : Int} (h : a = b) : Ending.returned (.int k a) = .returned (.int k b) := by rw [h]
theorem ret_bool {a b : Bool} (h : a = b) : Ending.returned (.bool a) = .returned (.bool b) := by rw [h]
theorem ret_str {a b : ByteArray} (h : a = b) : Ending.returned (.string a) = .returned (.string b) := by rw [h]
theorem cell_last (w : World) (cs : Array Value) (t : TypeId) (j : Nat) (v : Value) (h : cs[j]? = some v) : (w.alloc (.cells cs t)).cell? ⟨w.heap.size, j, none⟩ = some v :=
  (cell_of_row _ _ j _ _ _ (heap_alloc_last w _)).trans h
theorem below_alloc0 (w : World) (o : Obj) : Below w.heap.size w (w.alloc o) := (Below.refl _ _).alloc (Nat.le_refl _) _
theorem ret_ie {a b c d : Int} (h : a = b) (h2 : c = d) : Ending.returned (.tuple #[.int .u64 a, .int .i64 c]) = .returned (.tuple #[.int .u64 b, .int .i64 d]) := by rw [h, h2]
theorem size_alloc (w : World) (A : Obj) : (w.alloc A).heap.size = w.heap.size + 1 := by simp
theorem row1 {w w1 : World} {A : Obj} (b : Below (w.alloc A).heap.size (w.alloc A) w1) : w1.heap[w.heap.size]? = some A :=
  (b.block _ (by simp)).trans (heap_alloc_last w A)
theorem row2a {w w1 : World} {A B : Obj} (b : Below ((w.alloc A).alloc B).heap.size ((w.alloc A).alloc B) w1) : w1.heap[w.heap.size]? = some A :=
  (b.block _ (by simp; omega)).trans ((Below.heap_alloc (w.alloc A) B _ (by simp)).trans (heap_alloc_last w A))
theorem row2b {w w1 : World} {A B : Obj} (b : Below ((w.alloc A).alloc B).heap.size ((w.alloc A).alloc B) w1) : w1.heap[w.heap.size + 1]? = some B := by
  have := row1 b
  rwa [size_alloc] at this
theorem row3a {w w1 : World} {A B C : Obj} (b : Below (((w.alloc A).alloc B).alloc C).heap.size (((w.alloc A).alloc B).alloc C) w1) : w1.heap[w.heap.size]? = some A :=
  (b.block _ (by simp; omega)).trans ((Below.heap_alloc _ C _ (by simp; omega)).trans ((Below.heap_alloc _ B _ (by simp)).trans (heap_alloc_last w A)))
theorem row3b {w w1 : World} {A B C : Obj} (b : Below (((w.alloc A).alloc B).alloc C).heap.size (((w.alloc A).alloc B).alloc C) w1) : w1.heap[w.heap.size + 1]? = some B := by
  have := row2a b
  rwa [size_alloc] at this
theorem row3c {w w1 : World} {A B C : Obj} (b : Below (((w.alloc A).alloc B).alloc C).heap.size (((w.alloc A).alloc B).alloc C) w1) : w1.heap[w.heap.size + 1 + 1]? = some C := by
  have := row2b b
  rwa [size_alloc] at this
theorem at_row {w : World} {g : Nat} {cs : Array Value} {t : TypeId} (h : w.heap[g]? = some (.cells cs t)) (j : Nat) {v : Value} (hv : cs[j]? = some v) : w.cell? ⟨g, j, none⟩ = some v :=
  (cell_of_row _ _ j _ _ _ h).trans hv
theorem fz_row {w : World} {g : Nat} {cs : Array Value} {t : TypeId} (h : w.heap[g]? = some (.cells cs t)) (j : Nat) : w.frozen? ⟨g, j, none⟩ = false :=
  frozen_of_row _ _ j _ _ h
theorem bel1 {w w1 : World} {A : Obj} (b : Below (w.alloc A).heap.size (w.alloc A) w1) : Below w.heap.size w w1 :=
  (below_alloc0 w A).trans (b.mono (by simp))
theorem bel2 {w w1 : World} {A B : Obj} (b : Below ((w.alloc A).alloc B).heap.size ((w.alloc A).alloc B) w1) : Below w.heap.size w w1 :=
  ((below_alloc0 w A).alloc (by simp) B).trans (b.mono (by simp; omega))
theorem bel3 {w w1 : World} {A B C : Obj} (b : Below (((w.alloc A).alloc B).alloc C).heap.size (((w.alloc A).alloc B).alloc C) w1) : Below w.heap.size w w1 :=
  (((below_alloc0 w A).alloc (by simp) B).alloc (by simp; omega) C).trans (b.mono (by simp; omega))
theorem siz1 {w w1 : World} {A : Obj} (b : Below (w.alloc A).heap.size (w.alloc A) w1) : w.heap.size < w1.heap.size := by
  have := b.size; simp at this; omega
theorem siz2 {w w1 : World} {A B : Obj} (b : Below ((w.alloc A).alloc B).heap.size ((w.alloc A).alloc B) w1) : w.heap.size + 1 < w1.heap.size := by
  have := b.size; simp at this; omega
theorem siz3 {w w1 : World} {A B C : Obj} (b : Below (((w.alloc A).alloc B).alloc C).heap.size (((w.alloc A).alloc B).alloc C) w1) : w.heap.size + 1 + 1 < w1.heap.size := by
  have := b.size; simp at this; omega
theorem two_set {B : Nat} {w w1 : World} (h : Below B w w1) {g : Nat} (hg : B ≤ g) (u v : Value) : Below B w ((w1.setCell ⟨g, 0, none⟩ u).setCell ⟨g, 1, none⟩ v) :=
  (h.setCell hg _).setCell hg _
theorem ret_ii {a b c d : Int} (h : a = b) (h2 : c = d) : Ending.returned (.tuple #[.int .i64 a, .int .i64 c]) = .returned (.tuple #[.int .i64 b, .int .i64 d]) := by rw [h, h2]
theorem four_set {B : Nat} {w w1 : World} (h : Below B w w1) {g : Nat} (hg : B ≤ g) (u v x y : Value) : Below B w ((((w1.setCell ⟨g, 0, none⟩ u).setCell ⟨g, 1, none⟩ v).setCell ⟨g, 2, none⟩ x).setCell ⟨g, 3, none⟩ y) :=
  (((h.setCell hg _).setCell hg _).setCell hg _).setCell hg _
theorem fz_alloc {w : World} {g j : Nat} (h : w.frozen? ⟨g, j, none⟩ = false) (hz : g < w.heap.size) (O : Obj) : (w.alloc O).frozen? ⟨g, j, none⟩ = false :=
  ((below_alloc0 w O).frozen (p := ⟨g, j, none⟩) hz).trans h
/-- A scope out of which the run jumps to one label, once. -/
theorem wp_scope_once {P : Program} {Q : Exit → Act → World → Prop} {a : Act} {w : World} {c rest : Code} (l : Nat) (hf : findLabel c l = some rest)
    (first : c.wp P (Exit.jump l (fun a w => rest.wp P (Exit.noGoto Q) a w) Q) a w) : (Code.scope c).wp P Q a w :=
  wp_scope_jumps l (fun a w => rest.wp P (Exit.noGoto Q) a w) (fun _ _ => 0) hf first (fun a w hJ => Code.wp_mono (fun e a' w' h => by
    cases e <;> first | exact h | exact (h : False).elim) hJ)
/-- A slice of words that came in: nil, or so many cells that each hold a word. -/
def IsRow (w : World) (a : Option Addr) (len cap : Nat) (zs : List Int) : Prop :=
  (a = none ∧ len = 0 ∧ cap = 0 ∧ zs = []) ∨
  ∃ x, a = some x ∧ len ≤ cap ∧ cap ≤ maxLen ∧ zs.length = cap ∧ (∀ i, i < zs.length → w.cell? (x.add i) = some (.int .u64 (zs.getD i 0))) ∧ ∀ n ∈ zs, (Lit.int .u64 n).wf = true
/-- The cells of a slice of words that came in. -/
def Cells (w : World) (b off len : Nat) (zs : List Int) : Prop :=
  ∀ i, i < len → b < w.heap.size ∧ w.cell? ⟨b, off + i, none⟩ = some (.int .u64 (zs.getD i 0)) ∧ 0 ≤ zs.getD i 0 ∧ zs.getD i 0 ≤ 18446744073709551615
theorem IsRow.cells {w : World} {x : Addr} {len cap : Nat} {zs : List Int} (h0 : 0 < len) (hl : len ≤ cap) (hz : zs.length = cap)
    (hcell : ∀ i, i < zs.length → w.cell? (x.add i) = some (.int .u64 (zs.getD i 0))) (hw : ∀ n ∈ zs, (Lit.int .u64 n).wf = true) : ∃ b off, x = ⟨b, off, none⟩ ∧ Cells w b off len zs := by
  obtain ⟨b, off, spot⟩ := x
  have hc := hcell 0 (by omega)
  have hspot : spot = none := by simpa [Addr.add] using World.cell?_spot hc
  subst hspot
  refine ⟨b, off, rfl, fun i hi => ?_⟩
  have hi' : i < zs.length := by omega
  have hci : w.cell? ⟨b, off + i, none⟩ = some (.int .u64 (zs.getD i 0)) := by
    have := hcell i hi'
    have ha : (⟨b, off, none⟩ : Addr).add i = ⟨b, off + i, none⟩ := by unfold Addr.add; split <;> simp_all
    rwa [ha] at this
  have hm : zs.getD i 0 ∈ zs := by rw [List.getD_eq_getElem?_getD, List.getElem?_eq_getElem hi']; exact List.getElem_mem hi'
  have hwf := hw _ hm
  have hbd : 0 ≤ zs.getD i 0 ∧ zs.getD i 0 ≤ 18446744073709551615 := by
    simp [Lit.wf, IntKind.min, IntKind.max, IntKind.signed, IntKind.bits] at hwf
    simp
    omega
  exact ⟨block_lt_of_cell hci, hci, hbd.1, hbd.2⟩
end Go.Proofs.YtldfmlkjeniemaaDoor
