/- What every walk wants: boxes that a call made ahead of another call; endings; one label; slices of words. -/
import Derived.Test.YtldfmlkjeniemaaGreatDoorProg
import Derived.WalkKit
import Derived.WalkLawsBesides
import Derived.WalkSpells
import Derived.BigQuiet
import Derived.Outline
import Derived.Deep.WholeRow
import Derived.Laws.EntriesVeiled
import Derived.Deep.RegionHeld3
import Derived.BigRegion
import Derived.Lib.QuietBelow
import Derived.Defers
import Derived.Recover
namespace Go.Proofs.YtldfmlkjeniemaaGreatDoor
open Go.RowKit
theorem hid {p : Prop} (h : p) : Hid p := h
theorem ret_int {k : IntKind} {a b : Int} (h : a = b) : Ending.returned (.int k a) = .returned (.int k b) := by rw [h]
theorem ret_bool {a b : Bool} (h : a = b) : Ending.returned (.bool a) = .returned (.bool b) := by rw [h]
theorem ret_str {a b : ByteArray} (h : a = b) : Ending.returned (.string a) = .returned (.string b) := by rw [h]
theorem cell_last (w : World) (cs : Array Value) (t : TypeId) (j : Nat) (v : Value) (h : cs[j]? = some v) : (w.alloc (.cells cs t)).cell? ⟨w.heap.size, j, none⟩ = some v :=
  (cell_of_row _ _ j _ _ _ (heap_alloc_last w _)).trans h
theorem below_alloc0 (w : World) (o : Obj) : Below w.heap.size w (w.alloc o) := (Below.refl _ _).alloc (Nat.le_refl _) _
theorem ret_ie {a b c d : Int} (h : a = b) (h2 : c = d) : Ending.returned (.tuple #[.int .u64 a, .int .i64 c]) = .returned (.tuple #[.int .u64 b, .int .i64 d]) := by rw [h, h2]
theorem size_alloc (w : World) (A : Obj) : (w.alloc A).heap.size = w.heap.size + 1 := by simp
theorem row1 {w w1 : World} {A : Obj} (b : Below (w.alloc A).heap.size (w.alloc A) w1) : w1.heap[w.heap.size]? = some A :=
  (b.block _ (by simp)).trans (heap_alloc_last w A)
theorem row2a {w w1 : World} {A B : Obj} (b : Below ((w.alloc A).alloc B).heap.size ((w.alloc A).alloc B) w1) : w1.heap[w.heap.size]? = some A :=
  (b.block _ (by simp; omega)).trans ((Below.heap_alloc (w.alloc A) B _ (by simp)).trans (heap_alloc_last w A))
theorem row2b {w w1 : World} {A B : Obj} (b : Below ((w.alloc A).alloc B).heap.size ((w.alloc A).alloc B) w1) : w1.heap[w.heap.size + 1]? = some B := by
  have := row1 b
  rwa [size_alloc] at this
theorem row3a {w w1 : World} {A B C : Obj} (b : Below (((w.alloc A).alloc B).alloc C).heap.size (((w.alloc A).alloc B).alloc C) w1) : w1.heap[w.heap.size]? = some A :=
  (b.block _ (by simp; omega)).trans ((Below.heap_alloc _ C _ (by simp; omega)).trans ((Below.heap_alloc _ B _ (by simp)).trans (heap_alloc_last w A)))
theorem row3b {w w1 : World} {A B C : Obj} (b : Below (((w.alloc A).alloc B).alloc C).heap.size (((w.alloc A).alloc B).alloc C) w1) : w1.heap[w.heap.size + 1]? = some B := by
  have := row2a b
  rwa [size_alloc] at this
theorem row3c {w w1 : World} {A B C : Obj} (b : Below (((w.alloc A).alloc B).alloc C).heap.size (((w.alloc A).alloc B).alloc C) w1) : w1.heap[w.heap.size + 1 + 1]? = some C := by
  have := row2b b
  rwa [size_alloc] at this
theorem at_row {w : World} {g : Nat} {cs : Array Value} {t : TypeId} (h : w.heap[g]? = some (.cells cs t)) (j : Nat) {v : Value} (hv : cs[j]? = some v) : w.cell? ⟨g, j, none⟩ = some v :=
  (cell_of_row _ _ j _ _ _ h).trans hv
theorem fz_row {w : World} {g : Nat} {cs : Array Value} {t : TypeId} (h : w.heap[g]? = some (.cells cs t)) (j : Nat) : w.frozen? ⟨g, j, none⟩ = false :=
  frozen_of_row _ _ j _ _ h
theorem bel1 {w w1 : World} {A : Obj} (b : Below (w.alloc A).heap.size (w.alloc A) w1) : Below w.heap.size w w1 :=
  (below_alloc0 w A).trans (b.mono (by simp))
theorem bel2 {w w1 : World} {A B : Obj} (b : Below ((w.alloc A).alloc B).heap.size ((w.alloc A).alloc B) w1) : Below w.heap.size w w1 :=
  ((below_alloc0 w A).alloc (by simp) B).trans (b.mono (by simp; omega))
theorem bel3 {w w1 : World} {A B C : Obj} (b : Below (((w.alloc A).alloc B).alloc C).heap.size (((w.alloc A).alloc B).alloc C) w1) : Below w.heap.size w w1 :=
  (((below_alloc0 w A).alloc (by simp) B).alloc (by simp; omega) C).trans (b.mono (by simp; omega))
theorem siz1 {w w1 : World} {A : Obj} (b : Below (w.alloc A).heap.size (w.alloc A) w1) : w.heap.size < w1.heap.size := by
  have := b.size; simp at this; omega
theorem siz2 {w w1 : World} {A B : Obj} (b : Below ((w.alloc A).alloc B).heap.size ((w.alloc A).alloc B) w1) : w.heap.size + 1 < w1.heap.size := by
  have := b.size; simp at this; omega
theorem siz3 {w w1 : World} {A B C : Obj} (b : Below (((w.alloc A).alloc B).alloc C).heap.size (((w.alloc A).alloc B).alloc C) w1) : w.heap.size + 1 + 1 < w1.heap.size := by
  have := b.size; simp at this; omega
theorem two_set {B : Nat} {w w1 : World} (h : Below B w w1) {g : Nat} (hg : B ≤ g) (u v : Value) : Below B w ((w1.setCell ⟨g, 0, none⟩ u).setCell ⟨g, 1, none⟩ v) :=
  (h.setCell hg _).setCell hg _
theorem ret_ii {a b c d : Int} (h : a = b) (h2 : c = d) : Ending.returned (.tuple #[.int .i64 a, .int .i64 c]) = .returned (.tuple #[.int .i64 b, .int .i64 d]) := by rw [h, h2]
theorem four_set {B : Nat} {w w1 : World} (h : Below B w w1) {g : Nat} (hg : B ≤ g) (u v x y : Value) : Below B w ((((w1.setCell ⟨g, 0, none⟩ u).setCell ⟨g, 1, none⟩ v).setCell ⟨g, 2, none⟩ x).setCell ⟨g, 3, none⟩ y) :=
  (((h.setCell hg _).setCell hg _).setCell hg _).setCell hg _
theorem fz_alloc {w : World} {g j : Nat} (h : w.frozen? ⟨g, j, none⟩ = false) (hz : g < w.heap.size) (O : Obj) : (w.alloc O).frozen? ⟨g, j, none⟩ = false :=
  ((below_alloc0 w O).frozen (p := ⟨g, j, none⟩) hz).trans h
/-- A scope out of which the run jumps to one label, once. -/
theorem wp_scope_once {P : Program} {Q : Exit → Act → World → Prop} {a : Act} {w : World} {c rest : Code} (l : Nat) (hf : findLabel c l = some rest)
    (first : c.wp P (Exit.jump l (fun a w => rest.wp P (Exit.noGoto Q) a w) Q) a w) : (Code.scope c).wp P Q a w :=
  wp_scope_jumps l (fun a w => rest.wp P (Exit.noGoto Q) a w) (fun _ _ => 0) hf first (fun a w hJ => Code.wp_mono (fun e a' w' h => by
    cases e <;> first | exact h | exact (h : False).elim) hJ)
/-- A slice of words that came in: nil, or so many cells that each hold a word. -/
def IsRow (w : World) (a : Option Addr) (len cap : Nat) (zs : List Int) : Prop :=
  (a = none ∧ len = 0 ∧ cap = 0 ∧ zs = []) ∨
  ∃ x, a = some x ∧ len ≤ cap ∧ cap ≤ maxLen ∧ zs.length = cap ∧ (∀ i, i < zs.length → w.cell? (x.add i) = some (.int .u64 (zs.getD i 0))) ∧ ∀ n ∈ zs, (Lit.int .u64 n).wf = true
/-- The cells of a slice of words that came in. -/
def Cells (w : World) (b off len : Nat) (zs : List Int) : Prop :=
  ∀ i, i < len → b < w.heap.size ∧ w.cell? ⟨b, off + i, none⟩ = some (.int .u64 (zs.getD i 0)) ∧ 0 ≤ zs.getD i 0 ∧ zs.getD i 0 ≤ 18446744073709551615
theorem IsRow.cells {w : World} {x : Addr} {len cap : Nat} {zs : List Int} (h0 : 0 < len) (hl : len ≤ cap) (hz : zs.length = cap)
    (hcell : ∀ i, i < zs.length → w.cell? (x.add i) = some (.int .u64 (zs.getD i 0))) (hw : ∀ n ∈ zs, (Lit.int .u64 n).wf = true) : ∃ b off, x = ⟨b, off, none⟩ ∧ Cells w b off len zs := by
  obtain ⟨b, off, spot⟩ := x
  have hc := hcell 0 (by omega)
  have hspot : spot = none := by simpa [Addr.add] using World.cell?_spot hc
  subst hspot
  refine ⟨b, off, rfl, fun i hi => ?_⟩
  have hi' : i < zs.length := by omega
  have hci : w.cell? ⟨b, off + i, none⟩ = some (.int .u64 (zs.getD i 0)) := by
    have := hcell i hi'
    have ha : (⟨b, off, none⟩ : Addr).add i = ⟨b, off + i, none⟩ := by unfold Addr.add; split <;> simp_all
    rwa [ha] at this
  have hm : zs.getD i 0 ∈ zs := by rw [List.getD_eq_getElem?_getD, List.getElem?_eq_getElem hi']; exact List.getElem_mem hi'
  have hwf := hw _ hm
  have hbd : 0 ≤ zs.getD i 0 ∧ zs.getD i 0 ≤ 18446744073709551615 := by
    simp [Lit.wf, IntKind.min, IntKind.max, IntKind.signed, IntKind.bits] at hwf
    simp
    omega
  exact ⟨block_lt_of_cell hci, hci, hbd.1, hbd.2⟩
end Go.Proofs.YtldfmlkjeniemaaGreatDoor
/- package object: giveUp, told, caught: a call that gives up, and the error that it is told as. -/
namespace Go.Proofs.YtldfmlkjeniemaaGreatDoor
open Go.RowKit
/-- What a call gives up with. -/
abbrev refuV (k : Int) : Value := .iface 129 (.agg #[.int .i64 k])
abbrev upE (k : Int) : Ending := .panicked [{ v := refuV k, recovered := false }]
theorem giveUp_any (k : Int) (w : World) : Calls Tryz.prog 51 #[.int .i64 k] w fun e w' => e = upE k ∧ w' = w := by
  go_enter Tryz.func51, Tryz.ntmps51
  go_wp2
  exact ⟨rfl, rfl, rfl⟩
theorem assert_refu (k : Int) (w : World) : (Instr.typeAssert (refuV k) 20 129 true).run Tryz.prog w = .ok (.tuple #[.agg #[.int .i64 k], .bool true]) w := by
  simp [Instr.typeAssert, run_underlying Tryz.underlying129]
set_option maxRecDepth 100000 in
theorem otold_any (k : Int) (w : World) : Calls Tryz.prog 49 #[refuV k] w fun e w' => e = .returned (.int .i64 k) ∧ Below w.heap.size w w' := by
  have ha := assert_refu k
  have hnot : ∀ (x : Bool) (w : World), (Op.unary .not (.bool x)).run Tryz.prog w = .ok (.bool (!x)) w := fun _ _ => rfl
  go_enter Tryz.func49, Tryz.ntmps49
  go_wp2
  go_ret
  exact ⟨rfl, below_alloc0 _ _⟩
abbrev errO (k : Int) : Obj := .cells #[.int .i64 k] 31
/-- The deferred closure of a call that returns: it does nothing. -/
theorem catch_idle (p : Addr) (w : World) :
    CallsD Tryz.prog 48 #[.pointer (some p)] .returning w fun e u' w' => e = .returned (.tuple #[]) ∧ u' = .returning ∧ w' = w := by
  refine callsD_of_wpS Tryz.func48 rfl fun c₀ cs hu => ?_
  apply wpS_seq
  apply wpS_region
  simp [wpOpsS, go_sem, recoverD, hu, Tryz.ntmps48, Exit.thenS]
  refine wpS_of_wp ?_
  go_wp2
  cases c₀
  simp_all [bodyPostS, results, Tryz.results48]
/-- .. of one that gives up: the error is laid. -/
theorem catch_up (g : Nat) (k : Int) (w : World) (hr : w.heap[g]? = some (errO 0)) :
    CallsD Tryz.prog 48 #[.pointer (some ⟨g, 0, none⟩)] (.panicking [{ v := refuV k, recovered := false }]) w fun e u' w' => e = .returned (.tuple #[]) ∧ u' = .panicking [{ v := refuV k, recovered := true }] ∧ ∃ w1, Below w.heap.size w w1 ∧ w' = w1.setCell ⟨g, 0, none⟩ (.int .i64 k) := by
  have ct := otold_any k w
  refine callsD_of_wpS Tryz.func48 rfl fun c₀ cs hu => ?_
  apply wpS_seq
  apply wpS_region
  simp [wpOpsS, go_sem, recoverD, hu, Tryz.ntmps48, Exit.thenS]
  refine wpS_of_wp ?_
  go_wp2_with (go_at_call 49; refine ct.mono ?_)
  rintro e w1 ⟨rfl, b1⟩
  have hr1 := (b1.block g (Array.getElem?_eq_some_iff.1 hr).1).trans hr
  have h0 := at_row hr1 0 rfl
  have hf := fz_row hr1 0
  have HB := hid b1
  clear b1 hr1 hr ct
  go_wp2
  refine ⟨rfl, _, rfl, .tuple #[], results_none rfl _ _ _, rfl, rfl, w1, HB.out, rfl⟩
set_option maxRecDepth 100000 in
/-- A call that returns: no error. What it leaves, and the error's own variable behind it. -/
theorem caught_ok (fn : Nat) (cap : Array Value) (w : World) (Q : World → Prop) (hcf : ∀ w, (callFunc fn cap).run Tryz.prog w = .ok (.enter fn cap) w) (hc : Calls Tryz.prog fn cap (w.alloc (errO 0)) fun e w' => e = .returned (.tuple #[]) ∧ w'.heap[w.heap.size]? = some (errO 0) ∧ Q w') :
    Calls Tryz.prog 22 #[.func (.func fn) #[] cap] w fun e w' => e = .returned (.int .i64 0) ∧ ∃ w1, Q w1 ∧ w1.heap[w.heap.size]? = some (errO 0) ∧ w' = w1.setCell ⟨w.heap.size, 0, none⟩ (.int .i64 0) := by
  have hmf : ∀ (fn : Fn) (first cap : Array Value) (w : World), (Instr.makeFunc fn first cap).run Tryz.prog w = .ok (.func fn first cap) w := fun _ _ _ _ => rfl
  go_enter_defers Tryz.func22, Tryz.ntmps22
  go_wp2_with (refine hc.mono ?_)
  rintro e w1 ⟨rfl, hr, hq⟩
  have h0 := at_row hr 0 rfl
  have hf := fz_row hr 0
  have HQ := hid hq
  have HR := hid hr
  clear hr hq hc hcf
  go_wp2
  refine leaves_cons (f := 48) (args := #[.pointer (some ⟨w.heap.size, 0, none⟩)]) (by simp) (by simp [go_sem]) ?_
  refine (catch_idle ⟨w.heap.size, 0, none⟩ _).mono ?_
  rintro e u' w'' ⟨rfl, rfl, rfl⟩
  have hs : (w1.setCell ⟨w.heap.size, 0, none⟩ (.int .i64 0)).cell? ⟨w.heap.size, 0, none⟩ = some (.int .i64 0) := World.cell?_setCell_same' _ _ _ (by rw [h0]; rfl)
  simp [Leaves, settle, results, Tryz.results22, go_sem, hs]
  exact ⟨w1, HQ.out, HR.out, rfl⟩
set_option maxRecDepth 100000 in
/-- A call that gives up: the error that it gives up with. -/
theorem caught_up (fn : Nat) (cap : Array Value) (k : Int) (w : World) (Q : World → Prop) (hcf : ∀ w, (callFunc fn cap).run Tryz.prog w = .ok (.enter fn cap) w) (hc : Calls Tryz.prog fn cap (w.alloc (errO 0)) fun e w' => e = upE k ∧ w'.heap[w.heap.size]? = some (errO 0) ∧ Q w') :
    Calls Tryz.prog 22 #[.func (.func fn) #[] cap] w fun e w' => e = .returned (.int .i64 k) ∧ ∃ w1 w2, Q w1 ∧ w1.heap[w.heap.size]? = some (errO 0) ∧ Below w1.heap.size w1 w2 ∧ w' = w2.setCell ⟨w.heap.size, 0, none⟩ (.int .i64 k) := by
  have hmf : ∀ (fn : Fn) (first cap : Array Value) (w : World), (Instr.makeFunc fn first cap).run Tryz.prog w = .ok (.func fn first cap) w := fun _ _ _ _ => rfl
  go_enter_defers Tryz.func22, Tryz.ntmps22
  go_wp2_with (refine hc.mono ?_)
  rintro e w1 ⟨rfl, hr, hq⟩
  have HQ := hid hq
  have HR := hid hr
  clear hr hq hc hcf
  go_wp2
  refine leaves_cons (f := 48) (args := #[.pointer (some ⟨w.heap.size, 0, none⟩)]) (by simp) (by simp [go_sem]) ?_
  refine (catch_up w.heap.size k w1 HR.out).mono ?_
  rintro e u' w'' ⟨rfl, rfl, w2, b2, rfl⟩
  have h0 := at_row ((b2.block _ (Array.getElem?_eq_some_iff.1 HR.out).1).trans HR.out) 0 rfl
  have hs : (w2.setCell ⟨w.heap.size, 0, none⟩ (.int .i64 k)).cell? ⟨w.heap.size, 0, none⟩ = some (.int .i64 k) := World.cell?_setCell_same' _ _ _ (by rw [h0]; rfl)
  simp [Leaves, settle, results, Tryz.results22, go_sem, hs]
  exact ⟨w1, HQ.out, HR.out, w2, b2, rfl⟩
end Go.Proofs.YtldfmlkjeniemaaGreatDoor
/- The plain mathematics of layer 3: shapes, tables, their sizes, kinds and texts; no model in it. -/
namespace Go.Sh
/-- p or s. -/
def okB (b : UInt8) : Bool := b == 112 || b == 115
/-- May it be a shape? -/
def one (s : ByteArray) : Bool := decide (s.size ≤ 8) && s.data.toList.all okB
def kb (b : UInt8) : Int := if b = 115 then 1 else 0
/-- May it be a table? -/
def right (l : List ByteArray) : Bool := decide (1 ≤ l.length) && decide (l.length ≤ 16) && l.all one
def at' (l : List ByteArray) (n : Nat) : ByteArray := l.getD n ByteArray.empty
def inR (n : Int) (k : Nat) : Bool := decide (0 ≤ n) && decide (n < k)
def sz (l : List ByteArray) (n : Int) : Int × Int :=
  if right l then (if inR n l.length then (2 + ((at' l n.toNat).size : Int), 0) else (0, 130)) else (0, 2)
/-- The kind of a field, or that there is none. -/
def fd (s : ByteArray) (f : Int) : Int × Int := if inR f s.size then (kb (s.data.toList.getD f.toNat 0), 0) else (0, 131)
def kd (l : List ByteArray) (n f : Int) : Int × Int :=
  if right l then (if inR n l.length then fd (at' l n.toNat) f else (0, 130)) else (0, 2)
def iz (l : List ByteArray) (n f k : Int) : Int :=
  if (kd l n f).2 = 0 then (if (kd l n f).1 = k then 0 else 132) else (kd l n f).2
def most (l : List ByteArray) : Int := l.foldl (fun m s => max m (2 + (s.size : Int))) 0
/-- How many fields All goes over. -/
def fields (s : ByteArray) : Nat := if one s then s.size else 0
/-- What the code's size tells. -/
def mostF (l : List ByteArray) : Int := l.foldl (fun m s => max m (2 + (fields s : Int))) 0
def fieldAt (s : ByteArray) (i : Nat) : Nat × Int := (i, kb (s.data.toList.getD i 0))
def upto {α : Type} (f : Nat → α) (k : Nat) : List α := (List.range k).map f
theorem upto_succ {α : Type} (f : Nat → α) (k : Nat) : upto f (k + 1) = upto f k ++ [f k] := by simp [upto, List.range_succ]
theorem upto_length {α : Type} (f : Nat → α) (k : Nat) : (upto f k).length = k := by simp [upto]

theorem one_all {s : ByteArray} (h : one s = true) (i : Nat) (hi : i < s.data.toList.length) : okB (s.data.toList[i]) = true := by
  simp only [one, Bool.and_eq_true, List.all_eq_true] at h
  exact h.2 _ (List.getElem_mem hi)
theorem one_size {s : ByteArray} (h : one s = true) : s.size ≤ 8 := by
  simp only [one, Bool.and_eq_true, decide_eq_true_eq] at h
  exact h.1
theorem fields_one {s : ByteArray} (h : one s = true) : fields s = s.size := by simp [fields, h]
theorem fields_le (s : ByteArray) : fields s ≤ 8 := by
  unfold fields
  split
  · next h => exact one_size h
  · omega
theorem right_all {l : List ByteArray} (h : right l = true) (i : Nat) (hi : i < l.length) : one (at' l i) = true := by
  simp only [right, Bool.and_eq_true, List.all_eq_true] at h
  refine h.2 _ ?_
  rw [at', List.getD_eq_getElem?_getD, List.getElem?_eq_getElem hi]
  exact List.getElem_mem hi
theorem right_len {l : List ByteArray} (h : right l = true) : 1 ≤ l.length ∧ l.length ≤ 16 := by
  simp only [right, Bool.and_eq_true, decide_eq_true_eq] at h
  exact ⟨h.1.1, h.1.2⟩
theorem foldl_congr' {α β : Type} (f g : β → α → β) : ∀ (l : List α) (b : β), (∀ x ∈ l, ∀ c, f c x = g c x) → l.foldl f b = l.foldl g b
  | [], _, _ => rfl
  | a :: r, b, h => by
    simp only [List.foldl_cons]
    rw [h a (by simp) b]
    exact foldl_congr' f g r _ (fun x hx c => h x (by simp [hx]) c)
theorem mostF_right {l : List ByteArray} (h : right l = true) : mostF l = most l := by
  refine foldl_congr' _ _ l 0 (fun x hx c => ?_)
  simp only [right, Bool.and_eq_true, List.all_eq_true] at h
  rw [fields_one (h.2 x hx)]
/-- Folds over the first k of a list. -/
theorem take_succ_at {l : List ByteArray} {k : Nat} (h : k < l.length) : l.take (k + 1) = l.take k ++ [at' l k] := by
  rw [at', List.getD_eq_getElem?_getD, List.getElem?_eq_getElem h, Option.getD_some, List.take_succ_eq_append_getElem h]
theorem mostF_take {l : List ByteArray} {k : Nat} (h : k < l.length) : mostF (l.take (k + 1)) = max (mostF (l.take k)) (2 + (fields (at' l k) : Int)) := by
  rw [take_succ_at h]; simp [mostF]
theorem most_take {l : List ByteArray} {k : Nat} (h : k < l.length) : most (l.take (k + 1)) = max (most (l.take k)) (2 + ((at' l k).size : Int)) := by
  rw [take_succ_at h]; simp [most]
theorem foldl_max_bd (f : ByteArray → Int) (B : Int) : ∀ (l : List ByteArray) (m : Int), 0 ≤ m → m ≤ B → (∀ s, f s ≤ B) → 0 ≤ l.foldl (fun m s => max m (f s)) m ∧ l.foldl (fun m s => max m (f s)) m ≤ B
  | [], _, h0, h1, _ => ⟨h0, h1⟩
  | a :: r, m, h0, h1, hf => by
    have := hf a
    exact foldl_max_bd f B r _ (by show 0 ≤ max m (f a); omega) (by show max m (f a) ≤ B; omega) hf
theorem mostF_bd (l : List ByteArray) : 0 ≤ mostF l ∧ mostF l ≤ 10 :=
  foldl_max_bd (fun s => 2 + (fields s : Int)) 10 l 0 (by omega) (by omega) (fun s => by have := fields_le s; omega)
theorem all_take_false {l : List ByteArray} {k : Nat} (h : k < l.length) (hn : one (at' l k) = false) : l.all one = false := by
  rw [List.all_eq_false]
  refine ⟨at' l k, ?_, by simp [hn]⟩
  rw [at', List.getD_eq_getElem?_getD, List.getElem?_eq_getElem h]
  exact List.getElem_mem h
theorem all_of_at {l : List ByteArray} (h : ∀ k, k < l.length → one (at' l k) = true) : l.all one = true := by
  rw [List.all_eq_true]
  intro x hx
  obtain ⟨i, hi, rfl⟩ := List.mem_iff_getElem.1 hx
  have := h i hi
  rwa [at', List.getD_eq_getElem?_getD, List.getElem?_eq_getElem hi] at this

/-! ### Texts -/
def piece (s : ByteArray) : List UInt8 := if s.size = 0 then [45] else s.data.toList
def text (l : List ByteArray) : List UInt8 := l.foldl (fun t s => t ++ ((if t.length = 0 then [] else [32]) ++ piece s)) []
theorem piece_ne (s : ByteArray) : 1 ≤ (piece s).length := by
  unfold piece
  split
  · simp
  · next h => rw [Array.length_toList]; show 1 ≤ s.size; omega
theorem text_len : ∀ (l : List ByteArray) (t : List UInt8), t.length + l.length ≤ (l.foldl (fun t s => t ++ ((if t.length = 0 then [] else [32]) ++ piece s)) t).length
  | [], _ => by simp
  | a :: r, t => by
    have := text_len r (t ++ ((if t.length = 0 then [] else [32]) ++ piece a))
    have h2 := piece_ne a
    simp only [List.foldl_cons, List.length_append, List.length_cons] at this ⊢
    omega
theorem text_take {l : List ByteArray} {k : Nat} (h : k < l.length) : text (l.take (k + 1)) = text (l.take k) ++ ((if k = 0 then [] else [32]) ++ piece (at' l k)) := by
  rw [take_succ_at h]
  simp only [text, List.foldl_append, List.foldl_cons, List.foldl_nil]
  have h1 := text_len (l.take k) []
  by_cases hk : k = 0
  · subst hk; simp
  · rw [List.length_take] at h1
    have : ¬ ((l.take k).foldl (fun t s => t ++ ((if t.length = 0 then [] else [32]) ++ piece s)) []).length = 0 := by
      simp only [List.length_nil] at h1; omega
    rw [if_neg this, if_neg hk]
theorem piece_le (s : ByteArray) : (piece s).length ≤ s.size + 1 := by
  unfold piece
  split
  · simp
  · rw [Array.length_toList]; show s.size ≤ s.size + 1; omega
end Go.Sh
