/- package layout: the extents of a plan, the first word of a kind, how many words there are. -/
import Derived.Test.YtlkhmfmocegekaaDoorLyMathOn
import Derived.Test.YtlkhmfmocegekaaDoorShSizeOn
import Derived.Test.YtlkhmfmocegekaaDoorShAll
namespace Go.Proofs.YtlkhmfmocegekaaDoor
open Go.RowKit Go.Ly
theorem last2 (w : World) (A B : Obj) : ((w.alloc A).alloc B).heap[w.heap.size + 1]? = some B := row2b (Below.refl _ _)
theorem setRow2 (w : World) (A : Obj) (cs cs' : Array Value) (t : TypeId) : ((w.alloc A).alloc (.cells cs t)).setRow (w.heap.size + 1) cs' = (w.alloc A).alloc (.cells cs' t) := by
  have := World.setRow_alloc_new (w.alloc A) cs cs' t
  rwa [size_alloc] at this
end Go.Proofs.YtlkhmfmocegekaaDoor
/- package layout: may a plan be? -/
namespace Go.Proofs.YtlkhmfmocegekaaDoor
open Go.RowKit Go.Ly Go.Sh
/-- A plan's box. -/
abbrev planO (t s : Int) (a : Option Addr) (n c : Nat) : Obj := .cells #[.int .i64 t, .int .i64 s, .slice a n c] 80
theorem row_below {w w' : World} {g : Nat} {O : Obj} (h : w.heap[g]? = some O) (b : Below w.heap.size w w') : w'.heap[g]? = some O :=
  (b.block g (Array.getElem?_eq_some_iff.1 h).1).trans h
set_option maxRecDepth 100000 in
set_option maxHeartbeats 4000000 in
theorem pmay_thr (t s : Int) (a : Option Addr) (n c : Nat) (w : World) (h : Hid ((decide (1 ≤ t) && decide (t ≤ 8)) = false)) :
    Calls Tryd.prog 27 #[planV t s a n c] w fun e w' => e = .returned (.bool false) ∧ Below w.heap.size w w' := by
  go_enter Tryd.func27, Tryd.ntmps27
  go_wp2_with (go_at_call 45; refine (lwithin_at 1 8 _).mono ?_)
  rintro e w1 ⟨ga, gb, rfl, W1, b1⟩
  have R1 := row1 b1
  have B1 := bel1 b1
  clear b1
  go_wp2_with (go_at_call 45; refine (lwithin_at 32 4096 _).mono ?_)
  rintro e w2 ⟨gc, gd, rfl, W2, b2⟩
  have R2 := row_below R1 b2
  have W1' := W1.below b2
  have B2 := hid (B1.trans (b2.mono B1.size))
  clear R1 W1 B1 b2
  have c0 := at_row R2 0 rfl
  have c1 := at_row R2 1 rfl
  have c2 := at_row R2 2 rfl
  clear R2
  go_wp2_with (go_at_call 68; refine (lwin_new 1 8 t ga gb _ w2 W1' h).mono ?_; rintro e w3 ⟨rfl, b3⟩)
  go_ret
  exact ⟨rfl, B2.out.trans (b3.mono B2.out.size)⟩
set_option maxRecDepth 100000 in
set_option maxHeartbeats 4000000 in
theorem pmay_sp (t s : Int) (a : Option Addr) (n c : Nat) (w : World) (h : Hid ((decide (1 ≤ t) && decide (t ≤ 8)) = true)) (h2 : Hid ((decide (32 ≤ s) && decide (s ≤ 4096)) = false)) :
    Calls Tryd.prog 27 #[planV t s a n c] w fun e w' => e = .returned (.bool false) ∧ Below w.heap.size w w' := by
  go_enter Tryd.func27, Tryd.ntmps27
  go_wp2_with (go_at_call 45; refine (lwithin_at 1 8 _).mono ?_)
  rintro e w1 ⟨ga, gb, rfl, W1, b1⟩
  have R1 := row1 b1
  have B1 := bel1 b1
  clear b1
  go_wp2_with (go_at_call 45; refine (lwithin_at 32 4096 _).mono ?_)
  rintro e w2 ⟨gc, gd, rfl, W2, b2⟩
  have R2 := row_below R1 b2
  have W1' := W1.below b2
  have B2 := hid (B1.trans (b2.mono B1.size))
  clear R1 W1 B1 b2
  have HR2 := hid R2
  have c0 := at_row R2 0 rfl
  have c1 := at_row R2 1 rfl
  have c2 := at_row R2 2 rfl
  clear R2
  go_wp2_with (go_at_call 68; refine (lwin_new 1 8 t ga gb _ w2 W1' h).mono ?_)
  rintro e w3 ⟨rfl, b3⟩
  have R3 := row_below HR2.out b3
  have W2' := W2.below b3
  have B3 := hid (B2.out.trans (b3.mono B2.out.size))
  clear HR2 W1' W2 B2 b3 c0 c1 c2
  have c0 := at_row R3 0 rfl
  have c1 := at_row R3 1 rfl
  have c2 := at_row R3 2 rfl
  clear R3
  go_wp2_with (go_at_call 68; refine (lwin_new 32 4096 s gc gd _ w3 W2' h2).mono ?_; rintro e w4 ⟨rfl, b4⟩)
  go_ret
  exact ⟨rfl, B3.out.trans (b4.mono B3.out.size)⟩
set_option maxRecDepth 100000 in
set_option maxHeartbeats 4000000 in
theorem pmay_tab (t s : Int) (a : Option Addr) (n c : Nat) (ss : List ByteArray) (w : World) (hT : IsTab w (.slice a n c) ss) (h : Hid ((decide (1 ≤ t) && decide (t ≤ 8)) = true)) (h2 : Hid ((decide (32 ≤ s) && decide (s ≤ 4096)) = true)) :
    Calls Tryd.prog 27 #[planV t s a n c] w fun e w' => e = .returned (.bool (right ss)) ∧ Below w.heap.size w w' := by
  have HT := hid hT
  clear hT
  go_enter Tryd.func27, Tryd.ntmps27
  go_wp2_with (go_at_call 45; refine (lwithin_at 1 8 _).mono ?_)
  rintro e w1 ⟨ga, gb, rfl, W1, b1⟩
  have R1 := row1 b1
  have B1 := bel1 b1
  clear b1
  go_wp2_with (go_at_call 45; refine (lwithin_at 32 4096 _).mono ?_)
  rintro e w2 ⟨gc, gd, rfl, W2, b2⟩
  have R2 := row_below R1 b2
  have W1' := W1.below b2
  have B2 := hid (B1.trans (b2.mono B1.size))
  clear R1 W1 B1 b2
  have HR2 := hid R2
  have c0 := at_row R2 0 rfl
  have c1 := at_row R2 1 rfl
  have c2 := at_row R2 2 rfl
  clear R2
  go_wp2_with (go_at_call 68; refine (lwin_new 1 8 t ga gb _ w2 W1' h).mono ?_)
  rintro e w3 ⟨rfl, b3⟩
  have R3 := row_below HR2.out b3
  have W2' := W2.below b3
  have B3 := hid (B2.out.trans (b3.mono B2.out.size))
  clear HR2 W1' W2 B2 b3 c0 c1 c2
  have HR3 := hid R3
  have c0 := at_row R3 0 rfl
  have c1 := at_row R3 1 rfl
  have c2 := at_row R3 2 rfl
  clear R3
  go_wp2_with (go_at_call 68; refine (lwin_new 32 4096 s gc gd _ w3 W2' h2).mono ?_)
  rintro e w4 ⟨rfl, b4⟩
  have R4 := row_below HR3.out b4
  have B4 := hid (B3.out.trans (b4.mono B3.out.size))
  clear HR3 W2' B3 b4 c0 c1 c2
  have c0 := at_row R4 0 rfl
  have c1 := at_row R4 1 rfl
  have c2 := at_row R4 2 rfl
  clear R4
  have cc := check_any _ ss w4 (HT.out.below (Nat.le_refl _) B4.out)
  have HE : Hid ((er (right ss) == 0) = right ss) := hid (by cases right ss <;> rfl)
  generalize er (right ss) = x at cc HE
  go_wp2_with (go_at_call 46; refine cc.mono ?_; rintro e w5 ⟨rfl, b5⟩)
  go_ret
  exact ⟨ret_bool HE.out, B4.out.trans (b5.mono B4.out.size)⟩
theorem lpmay_any (t s : Int) (a : Option Addr) (n c : Nat) (ss : List ByteArray) (w : World) (hT : IsTab w (.slice a n c) ss) :
    Calls Tryd.prog 27 #[planV t s a n c] w fun e w' => e = .returned (.bool (rgt t s ss)) ∧ Below w.heap.size w w' := by
  rcases Bool.eq_false_or_eq_true (decide (1 ≤ t) && decide (t ≤ 8)) with h1 | h1
  · rcases Bool.eq_false_or_eq_true (decide (32 ≤ s) && decide (s ≤ 4096)) with h2 | h2
    · refine (pmay_tab t s a n c ss w hT h1 h2).mono fun e w' h => ⟨h.1.trans (ret_bool ?_), h.2⟩
      rw [rgt, nums, h1, h2]; simp
    · refine (pmay_sp t s a n c w h1 h2).mono fun e w' h => ⟨h.1.trans (ret_bool ?_), h.2⟩
      rw [rgt, nums, h1, h2]; simp
  · refine (pmay_thr t s a n c w h1).mono fun e w' h => ⟨h.1.trans (ret_bool ?_), h.2⟩
    rw [rgt, nums, h1]; simp
end Go.Proofs.YtlkhmfmocegekaaDoor
/- package layout: a part's numbers; may it be; is it there; where its word stands. -/
namespace Go.Ly
/-- How many numbers a part of a kind has. -/
def pnm : Nat → Nat
  | 4 => 1
  | 5 => 1
  | 6 => 2
  | _ => 0
end Go.Ly
namespace Go.Proofs.YtlkhmfmocegekaaDoor
open Go.RowKit Go.Ly Go.Sh
theorem below2' (w : World) (A B : Obj) : Below w.heap.size w ((w.alloc A).alloc B) := (below_alloc0 w A).alloc (by simp) B
/-- A part as a value. -/
abbrev partV (k n a : Int) : Value := .agg #[.int .i64 k, .int .i64 n, .int .i64 a]
end Go.Proofs.YtlkhmfmocegekaaDoor
/- package layout: may it be a part? -/
namespace Go.Proofs.YtlkhmfmocegekaaDoor
open Go.RowKit Go.Ly Go.Sh
/-- The numbers that are to be 0: are they? -/
def rst (m : Nat) (n a : Int) : List Int := match m with
  | 0 => [n, a]
  | 1 => [a]
  | _ => []
end Go.Proofs.YtlkhmfmocegekaaDoor
/- package layout: has the plan the part? Typed by tools/gen06.py. -/
set_option linter.unusedVariables false
namespace Go.Proofs.YtlkhmfmocegekaaDoor
open Go.RowKit Go.Ly Go.Sh Go.Sort
end Go.Proofs.YtlkhmfmocegekaaDoor
/- package layout: the word of a part that the plan has. Typed by tools/gen06.py. -/
set_option linter.unusedVariables false
namespace Go.Proofs.YtlkhmfmocegekaaDoor
open Go.RowKit Go.Ly Go.Sh Go.Sort
end Go.Proofs.YtlkhmfmocegekaaDoor
/- package layout: At, by what it answers. -/
namespace Go.Proofs.YtlkhmfmocegekaaDoor
open Go.RowKit Go.Ly Go.Sh
/-- What At answers, by what is asked. -/
def atv (t s : Int) (ss : List ByteArray) (k x y : Int) : Int × Int := if rgt t s ss = true then av t s k x y else (0, 2)
end Go.Proofs.YtlkhmfmocegekaaDoor
/- package layout: the part of a word. Typed by tools/gen06.py. -/
set_option linter.unusedVariables false
namespace Go.Ly
theorem kn_lt (t s a : Int) (j : Nat) (j0 : 1 ≤ j) (j1 : j ≤ 6) (t0 : 1 ≤ t) (a0 : 0 ≤ a) : a < bs t s j ↔ kn t a < j := by
  have hc : j = 1 ∨ j = 2 ∨ j = 3 ∨ j = 4 ∨ j = 5 ∨ j = 6 := by omega
  unfold kn
  rcases hc with rfl | rfl | rfl | rfl | rfl | rfl
  · rw [bs1]; repeat (first | split | omega)
  · rw [bs2]; repeat (first | split | omega)
  · rw [bs3]; repeat (first | split | omega)
  · rw [bs4]; repeat (first | split | omega)
  · rw [bs5]; repeat (first | split | omega)
  · rw [bs6]; repeat (first | split | omega)
end Go.Ly
namespace Go.Proofs.YtlkhmfmocegekaaDoor
open Go.RowKit Go.Ly Go.Sh Go.Sort
theorem set_row {w : World} {g i : Nat} {t : TypeId} {cs : Array Value} (h : w.heap[g]? = some (.cells cs t)) (v : Value) : (w.setCell ⟨g, i, none⟩ v).heap[g]? = some (.cells (cs.setIfInBounds i v) t) := by
  rw [setCell_eq_setRow w g i cs t (0, 0) v h]
  exact setRow_heap w g _ _ _ _ h
theorem set3_row {w : World} {g : Nat} {t : TypeId} {a b c : Value} (h : w.heap[g]? = some (.cells #[a, b, c] t)) (x y z : Value) : ((((w.setCell ⟨g, 0, none⟩ x).setCell ⟨g, 1, none⟩ y).setCell ⟨g, 2, none⟩ z)).heap[g]? = some (.cells #[x, y, z] t) :=
  set_row (set_row (set_row h x) y) z
theorem three_set {B : Nat} {w w1 : World} (h : Below B w w1) {g : Nat} (hg : B ≤ g) (u v x : Value) : Below B w (((w1.setCell ⟨g, 0, none⟩ u).setCell ⟨g, 1, none⟩ v).setCell ⟨g, 2, none⟩ x) :=
  ((h.setCell hg _).setCell hg _).setCell hg _
end Go.Proofs.YtlkhmfmocegekaaDoor
/- package layout: Check, Size, Ack, List, Base, Part. -/
namespace Go.Proofs.YtlkhmfmocegekaaDoor
open Go.RowKit Go.Ly Go.Sh
theorem Check_at (t s : Int) (a : Option Addr) (n c : Nat) (ss : List ByteArray) (w : World) (r : Bool) (hT : IsTab w (.slice a n c) ss) (hr : Hid (rgt t s ss = r)) :
    Calls Tryd.prog 15 #[planV t s a n c] w fun e w' => e = .returned (.int .i64 (er r)) ∧ Below w.heap.size w w' := by
  have cm := lpmay_any t s a n c ss _ (hT.below (Nat.le_refl _) (below_alloc0 w (.cells #[.int .i64 t, .int .i64 s, .slice a n c] 24)))
  rw [hr.out] at cm
  clear hr hT
  cases r
  · go_enter Tryd.func15, Tryd.ntmps15
    go_wp2_with (go_at_call 27; refine cm.mono ?_; rintro e w1 ⟨rfl, b1⟩)
    go_ret
    exact ⟨rfl, bel1 b1⟩
  · go_enter Tryd.func15, Tryd.ntmps15
    go_wp2_with (go_at_call 27; refine cm.mono ?_; rintro e w1 ⟨rfl, b1⟩)
    go_ret
    exact ⟨rfl, bel1 b1⟩
/-- What Size answers. -/
def szv (t s : Int) (ss : List ByteArray) : Int × Int := if rgt t s ss = true then (3 + t + t + 2 * s, 0) else (0, 2)
/-- What Part answers. -/
def ptv (t s : Int) (ss : List ByteArray) (at_ : Int) : Int × Int × Int × Int :=
  if rgt t s ss = true then (if 0 ≤ at_ ∧ at_ < 3 + t + t + 2 * s then ((pt t s at_).1, (pt t s at_).2.1, (pt t s at_).2.2, 0) else (0, 0, 0, 4)) else (0, 0, 0, 2)
end Go.Proofs.YtlkhmfmocegekaaDoor
