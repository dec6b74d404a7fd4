/- The document's answers for layer 6: Right, Size, Ack, List, Base, Space, At. -/
import Derived.Test.YtldfmlkjeniemaaGreatDoorLyFace
import Derived.Test.YtldfmlkjeniemaaGreatDoorWdOfOn
import Derived.Test.YtldfmlkjeniemaaGreatDoorBsKitOn
import Derived.Test.YtldfmlkjeniemaaGreatDoorObMathOn
set_option linter.unusedVariables false
namespace Go.Proofs.YtldfmlkjeniemaaGreatDoor
open Go.RowKit Go.Ly Go.Sh Go.Sort
set_option maxRecDepth 100000 in
set_option maxHeartbeats 4000000 in
theorem rgt6_no (t s : Int) (a : Option Addr) (n c : Nat) (w : World) (h : nums t s = false) :
    Calls Tryz.prog 16 #[planV t s a n c] w fun e w' => e = .returned (.bool false) ∧ Below w.heap.size w w' := by
  by_cases h1 : t < 1
  · go_enter Tryz.func16, Tryz.ntmps16
    go_wp2
    go_ret
    exact ⟨rfl, below_alloc0 w _⟩
  · have h1' : 1 ≤ t := by omega
    by_cases h2 : 8 < t
    · clear h1
      go_enter Tryz.func16, Tryz.ntmps16
      go_wp2
      go_ret
      exact ⟨rfl, below_alloc0 w _⟩
    · have h2' : t ≤ 8 := by omega
      by_cases h3 : s < 32
      · clear h1 h2
        go_enter Tryz.func16, Tryz.ntmps16
        go_wp2
        go_ret
        exact ⟨rfl, below_alloc0 w _⟩
      · have h3' : 32 ≤ s := by omega
        have h4' : 4096 < s := by
          simp [nums, h1', h2', h3'] at h; omega
        clear h1 h2 h3 h
        go_enter Tryz.func16, Tryz.ntmps16
        go_wp2
        go_ret
        exact ⟨rfl, below_alloc0 w _⟩
set_option maxRecDepth 100000 in
set_option maxHeartbeats 4000000 in
theorem rgt6_at (t s : Int) (a : Option Addr) (n c : Nat) (ss : List ByteArray) (w : World) (r : Bool) (hT : IsTab w (.slice a n c) ss) (hr : Hid (rgt t s ss = r)) :
    Calls Tryz.prog 16 #[planV t s a n c] w fun e w' => e = .returned (.bool r) ∧ Below w.heap.size w w' := by
  have hr := hr.out
  rcases Bool.eq_false_or_eq_true (nums t s) with hn | hn
  · obtain ⟨t0, t1, s0, s1⟩ := nums_yes hn
    rw [rgt, hn, Bool.true_and] at hr
    have cr := rRight_any _ ss _ (hT.below (Nat.le_refl _) (below_alloc0 w (.cells #[.int .i64 t, .int .i64 s, .slice a n c] 24)))
    rw [hr] at cr
    clear hr hn hT
    go_enter Tryz.func16, Tryz.ntmps16
    go_wp2_with (go_at_call 40; refine cr.mono ?_; rintro e w1 ⟨rfl, hw⟩; rw [hw]; clear hw)
    go_ret
    exact ⟨rfl, below_alloc0 w _⟩
  · rw [rgt, hn, Bool.false_and] at hr
    subst hr
    exact rgt6_no t s a n c w hn
theorem rSize6 (t s : Int) (a : Option Addr) (n c : Nat) (w : World) (t0 : 1 ≤ t) (t1 : t ≤ 8) (s0 : 32 ≤ s) (s1 : s ≤ 4096) :
    Calls Tryz.prog 17 #[planV t s a n c] w fun e w' => e = .returned (.int .i64 (3 + t + t + 2 * s)) ∧ Below w.heap.size w w' := by
  go_enter Tryz.func17, Tryz.ntmps17
  go_wp2
  go_ret
  exact ⟨ret_int (by omega), below_alloc0 w _⟩
theorem rBase6_0 (t s : Int) (a : Option Addr) (n c : Nat) (w : World) (t0 : 1 ≤ t) (t1 : t ≤ 8) (s0 : 32 ≤ s) (s1 : s ≤ 4096) :
    Calls Tryz.prog 39 #[planV t s a n c, .int .i64 0] w fun e w' => e = .returned (.int .i64 (3 + t + t)) ∧ Below w.heap.size w w' := by
  go_enter Tryz.func39, Tryz.ntmps39
  go_wp2
  go_ret
  exact ⟨ret_int (by omega), below_alloc0 w _⟩
theorem rBase6_1 (t s : Int) (a : Option Addr) (n c : Nat) (w : World) (t0 : 1 ≤ t) (t1 : t ≤ 8) (s0 : 32 ≤ s) (s1 : s ≤ 4096) :
    Calls Tryz.prog 39 #[planV t s a n c, .int .i64 1] w fun e w' => e = .returned (.int .i64 (3 + t + t + s)) ∧ Below w.heap.size w w' := by
  go_enter Tryz.func39, Tryz.ntmps39
  go_wp2
  go_ret
  exact ⟨ret_int (by omega), below_alloc0 w _⟩
end Go.Proofs.YtldfmlkjeniemaaGreatDoor
/- The document's answers for layer 6: Space, Part. -/
set_option linter.unusedVariables false
namespace Go.Proofs.YtldfmlkjeniemaaGreatDoor
open Go.RowKit Go.Ly Go.Sh Go.Sort
set_option maxRecDepth 100000 in
set_option maxHeartbeats 4000000 in
theorem rSpace6_lo (t s x : Int) (a : Option Addr) (n c : Nat) (w : World) (t0 : 1 ≤ t) (t1 : t ≤ 8) (s0 : 32 ≤ s) (s1 : s ≤ 4096) (h : x < 3 + t + t) :
    Calls Tryz.prog 38 #[planV t s a n c, .int .i64 x] w fun e w' => e = .returned (.int .i64 (-1)) ∧ Below w.heap.size w w' := by
  have cb := fun W => rBase6_0 t s a n c W t0 t1 s0 s1
  go_enter Tryz.func38, Tryz.ntmps38
  go_wp2_with (go_at_call 39; refine (cb _).mono ?_; rintro e w1 ⟨rfl, b1⟩)
  go_ret
  exact ⟨rfl, bel1 b1⟩
set_option maxRecDepth 100000 in
set_option maxHeartbeats 4000000 in
theorem rSpace6_hi (t s x : Int) (a : Option Addr) (n c : Nat) (w : World) (t0 : 1 ≤ t) (t1 : t ≤ 8) (s0 : 32 ≤ s) (s1 : s ≤ 4096) (h : 3 + t + t + 2 * s ≤ x) :
    Calls Tryz.prog 38 #[planV t s a n c, .int .i64 x] w fun e w' => e = .returned (.int .i64 (-1)) ∧ Below w.heap.size w w' := by
  have cb := fun W => rBase6_0 t s a n c W t0 t1 s0 s1
  have cs := fun W => rSize6 t s a n c W t0 t1 s0 s1
  have h' : 3 + t + t ≤ x := by omega
  go_enter Tryz.func38, Tryz.ntmps38
  go_wp2_with (go_at_call 39; refine (cb _).mono ?_)
  rintro e w1 ⟨rfl, b1⟩
  have B1 := hid (bel1 b1)
  have R1 := row1 b1
  clear b1
  have p0 := at_row R1 0 rfl
  have p1 := at_row R1 1 rfl
  have p2 := at_row R1 2 rfl
  clear R1
  go_wp2_with (go_at_call 17; refine (cs _).mono ?_; rintro e w2 ⟨rfl, b2⟩)
  go_ret
  exact ⟨rfl, B1.out.trans (b2.mono B1.out.size)⟩
set_option maxRecDepth 100000 in
set_option maxHeartbeats 4000000 in
theorem rSpace6_in (t s x q : Int) (a : Option Addr) (n c : Nat) (w : World) (t0 : 1 ≤ t) (t1 : t ≤ 8) (s0 : 32 ≤ s) (s1 : s ≤ 4096) (h0 : 3 + t + t ≤ x) (h1 : x < 3 + t + t + 2 * s) (hq : Hid ((x - (3 + t + t)) / s = q)) :
    Calls Tryz.prog 38 #[planV t s a n c, .int .i64 x] w fun e w' => e = .returned (.int .i64 q) ∧ Below w.heap.size w w' := by
  have cb := fun W => rBase6_0 t s a n c W t0 t1 s0 s1
  have cs := fun W => rSize6 t s a n c W t0 t1 s0 s1
  have z0 : 0 ≤ x - (3 + t + t) := by omega
  have sne : (s == 0) = false := by rw [beq_eq_false_iff_ne]; omega
  go_enter Tryz.func38, Tryz.ntmps38
  go_wp2_with (go_at_call 39; refine (cb _).mono ?_)
  rintro e w1 ⟨rfl, b1⟩
  have B1 := hid (bel1 b1)
  have R1 := row1 b1
  have HR1 := hid R1
  clear b1
  have p0 := at_row R1 0 rfl
  have p1 := at_row R1 1 rfl
  have p2 := at_row R1 2 rfl
  clear R1
  go_wp2_with (go_at_call 17; refine (cs _).mono ?_)
  rintro e w2 ⟨rfl, b2⟩
  have R2 := row_below HR1.out b2
  have B2 := hid (B1.out.trans (b2.mono B1.out.size))
  clear p0 p1 p2 b2 B1 HR1
  have p0 := at_row R2 0 rfl
  have p1 := at_row R2 1 rfl
  have p2 := at_row R2 2 rfl
  clear R2
  go_wp2_with fail
  go_ret
  exact ⟨ret_int hq.out, B2.out⟩
/-- What is read and written while a part is told. -/
def Rst (g h : Nat) (t s : Int) (a : Option Addr) (n c : Nat) (W : World) : Prop := g ≠ h ∧ W.heap[g]? = some (.cells #[.int .i64 t, .int .i64 s, .slice a n c] 24) ∧ ∃ u v z, W.heap[h]? = some (.cells #[u, v, z] 102)
def cuV (W : World) (h i : Nat) : Value := (W.cell? ⟨h, i, none⟩).getD undef
abbrev PtS (g h : Nat) (t s : Int) (a : Option Addr) (n c : Nat) (W : World) : Prop :=
  W.cell? ⟨g, 0, none⟩ = some (.int .i64 t) ∧ W.cell? ⟨g, 1, none⟩ = some (.int .i64 s) ∧ W.cell? ⟨g, 2, none⟩ = some (.slice a n c) ∧
  W.cell? ⟨h, 0, none⟩ = some (cuV W h 0) ∧ W.cell? ⟨h, 1, none⟩ = some (cuV W h 1) ∧ W.cell? ⟨h, 2, none⟩ = some (cuV W h 2) ∧
  W.frozen? ⟨h, 0, none⟩ = false ∧ W.frozen? ⟨h, 1, none⟩ = false ∧ W.frozen? ⟨h, 2, none⟩ = false ∧ Rst g h t s a n c W
theorem ptS_of {g h : Nat} {t s : Int} {a : Option Addr} {n c : Nat} {W : World} (k : Rst g h t s a n c W) : PtS g h t s a n c W := by
  obtain ⟨hne, hg, u, v, z, hh⟩ := k
  refine ⟨at_row hg 0 rfl, at_row hg 1 rfl, at_row hg 2 rfl, ?_, ?_, ?_, fz_row hh 0, fz_row hh 1, fz_row hh 2, ⟨hne, hg, u, v, z, hh⟩⟩
  · rw [cuV, at_row hh 0 rfl]; rfl
  · rw [cuV, at_row hh 1 rfl]; rfl
  · rw [cuV, at_row hh 2 rfl]; rfl
theorem ptS_below {g h : Nat} {t s : Int} {a : Option Addr} {n c : Nat} {W W' : World} (k : PtS g h t s a n c W) (b : Below W.heap.size W W') : PtS g h t s a n c W' := by
  obtain ⟨hne, hg, u, v, z, hh⟩ := k.2.2.2.2.2.2.2.2.2
  exact ptS_of ⟨hne, row_below hg b, u, v, z, row_below hh b⟩
theorem other_row {w : World} {g h i : Nat} {v : Value} {O : Obj} (hne : g ≠ h) (k : w.heap[g]? = some O) : (w.setCell ⟨h, i, none⟩ v).heap[g]? = some O := by
  simp [World.setCell, Array.getElem?_modify, Ne.symm hne, k]
theorem rst_set3 {g h : Nat} {t s : Int} {a : Option Addr} {n c : Nat} {W : World} (k : PtS g h t s a n c W) (x y z' : Value) : PtS g h t s a n c (((W.setCell ⟨h, 0, none⟩ x).setCell ⟨h, 1, none⟩ y).setCell ⟨h, 2, none⟩ z') := by
  obtain ⟨hne, hg, u, v, z, hh⟩ := k.2.2.2.2.2.2.2.2.2
  exact ptS_of ⟨hne, other_row hne (other_row hne (other_row hne hg)), x, y, z', set3_row hh x y z'⟩
theorem ptS_drew {g h : Nat} {t s : Int} {a : Option Addr} {n c : Nat} {W : World} (k : PtS g h t s a n c W) : PtS g h t s a n c W.drew := ptS_of k.2.2.2.2.2.2.2.2.2
end Go.Proofs.YtldfmlkjeniemaaGreatDoor
/- The leaves of package pack: within at its three types; the contracts of what bounds are asked by. -/
namespace Go.Proofs.YtldfmlkjeniemaaGreatDoor
open Go.RowKit
end Go.Proofs.YtldfmlkjeniemaaGreatDoor
/- Leaves of package pack: isSpace, isPhase, room, claimed, and the closure that takes a word apart. -/
namespace Go.Proofs.YtldfmlkjeniemaaGreatDoor
open Go.RowKit
theorem cells_one {w : World} {g : Nat} {x : Int} (h : w.cell? ⟨g, 0, none⟩ = some (.int .i64 x)) : ∀ i, i < 1 → w.cell? ⟨g, 0 + i, none⟩ = some (.int .i64 ([x].getD i 0)) := by
  intro i hi
  obtain rfl : i = 0 := by omega
  exact h
theorem cells_three {w : World} {g : Nat} {x y z : Int} (h0 : w.cell? ⟨g, 0, none⟩ = some (.int .i64 x)) (h1 : w.cell? ⟨g, 1, none⟩ = some (.int .i64 y)) (h2 : w.cell? ⟨g, 2, none⟩ = some (.int .i64 z)) : ∀ i, i < 3 → w.cell? ⟨g, 0 + i, none⟩ = some (.int .i64 ([x, y, z].getD i 0)) := by
  intro i hi
  have : i = 0 ∨ i = 1 ∨ i = 2 := by omega
  rcases this with rfl | rfl | rfl
  · exact h0
  · exact h1
  · exact h2
/-- A frontier that stands at g. -/
def FrAt (w : World) (g : Nat) (s l h o : Int) : Prop :=
  w.cell? ⟨g, 0, none⟩ = some (.int .i64 s) ∧ w.cell? ⟨g, 1, none⟩ = some (.int .i64 l) ∧ w.cell? ⟨g, 2, none⟩ = some (.int .i64 h) ∧ w.cell? ⟨g, 3, none⟩ = some (.int .i64 o)
end Go.Proofs.YtldfmlkjeniemaaGreatDoor
/- Package pack's methods of a frontier under way, and what takes a word apart. -/
namespace Go.Proofs.YtldfmlkjeniemaaGreatDoor
open Go.RowKit
end Go.Proofs.YtldfmlkjeniemaaGreatDoor
/- Package pack: which requests and which frontiers may be. -/
namespace Go.Proofs.YtldfmlkjeniemaaGreatDoor
open Go.RowKit Go.Sort
theorem FrAt.below {w w' : World} {g : Nat} {s l h o : Int} (hf : FrAt w g s l h o) {B : Nat} (hb : Below B w w') (hg : g < B) : FrAt w' g s l h o :=
  ⟨(hb.cell (p := ⟨g, 0, none⟩) hg).trans hf.1, (hb.cell (p := ⟨g, 1, none⟩) hg).trans hf.2.1, (hb.cell (p := ⟨g, 2, none⟩) hg).trans hf.2.2.1, (hb.cell (p := ⟨g, 3, none⟩) hg).trans hf.2.2.2⟩
/-- What stands while a frontier is asked whether it may be. -/
abbrev MayS (w : World) (g : Nat) (s l h o : Int) : World → Prop := fun w' => w'.cell? ⟨g, 0, none⟩ = some (.int .i64 s) ∧ w'.cell? ⟨g, 1, none⟩ = some (.int .i64 l) ∧ w'.cell? ⟨g, 2, none⟩ = some (.int .i64 h) ∧ w'.cell? ⟨g, 3, none⟩ = some (.int .i64 o) ∧ Below w.heap.size w w'
theorem mayS_drew {w : World} {g : Nat} {s l h o : Int} (hf : FrAt w g s l h o) : MayS w g s l h o w.drew :=
  ⟨hf.1, hf.2.1, hf.2.2.1, hf.2.2.2, (Below.refl _ _).drew⟩
theorem mayS_call {w w1 w2 : World} {g : Nat} {s l h o : Int} (hf : MayS w g s l h o w1) (hb : Below w1.heap.size w1 w2) : MayS w g s l h o w2 := by
  have hg : g < w1.heap.size := block_lt_of_cell hf.1
  have hg2 := hf.2.2.2.2.size
  exact ⟨(hb.cell (p := ⟨g, 0, none⟩) hg).trans hf.1, (hb.cell (p := ⟨g, 1, none⟩) hg).trans hf.2.1, (hb.cell (p := ⟨g, 2, none⟩) hg).trans hf.2.2.1, (hb.cell (p := ⟨g, 3, none⟩) hg).trans hf.2.2.2.1, hf.2.2.2.2.trans (hb.mono hg2)⟩
theorem mayS_alloc {w w1 : World} {g : Nat} {s l h o : Int} (hf : MayS w g s l h o w1) (ob : Obj) : MayS w g s l h o (w1.alloc ob) :=
  mayS_call hf (below_alloc0 w1 ob)
theorem frAt_mayS {w w1 : World} {g : Nat} {s l h o : Int} (hf : MayS w g s l h o w1) : FrAt w1 g s l h o := ⟨hf.1, hf.2.1, hf.2.2.1, hf.2.2.2.1⟩
theorem below_mayS {w w1 : World} {g : Nat} {s l h o : Int} (hf : MayS w g s l h o w1) : Below w.heap.size w w1 := hf.2.2.2.2
end Go.Proofs.YtldfmlkjeniemaaGreatDoor
/- Package pack's Request and OfRequest. -/
namespace Go.Proofs.YtldfmlkjeniemaaGreatDoor
open Go.RowKit
end Go.Proofs.YtldfmlkjeniemaaGreatDoor
/- Package pack's Front, Fits, Used, Turn. -/
namespace Go.Proofs.YtldfmlkjeniemaaGreatDoor
open Go.RowKit
theorem frAt_row {w : World} {g : Nat} {s l h o : Int} {t : TypeId} (r : w.heap[g]? = some (.cells #[.int .i64 s, .int .i64 l, .int .i64 h, .int .i64 o] t)) : FrAt w g s l h o :=
  ⟨at_row r 0 rfl, at_row r 1 rfl, at_row r 2 rfl, at_row r 3 rfl⟩
end Go.Proofs.YtldfmlkjeniemaaGreatDoor
/- Package pack's OfFront. -/
namespace Go.Proofs.YtldfmlkjeniemaaGreatDoor
open Go.RowKit
theorem ret_fe {a b c d a' b' c' d' e e' : Int} (h1 : a = a') (h2 : b = b') (h3 : c = c') (h4 : d = d') (h5 : e = e') : Ending.returned (.tuple #[.agg #[.int .i64 a, .int .i64 b, .int .i64 c, .int .i64 d], .int .i64 e]) = .returned (.tuple #[.agg #[.int .i64 a', .int .i64 b', .int .i64 c', .int .i64 d'], .int .i64 e']) := by rw [h1, h2, h3, h4, h5]
end Go.Proofs.YtldfmlkjeniemaaGreatDoor
/- Package pack's Claim. -/
namespace Go.Proofs.YtldfmlkjeniemaaGreatDoor
open Go.RowKit
theorem claimed_low {w w' : World} {g : Nat} {s l h o : Int} {t : TypeId} (r : w.heap[g]? = some (.cells #[.int .i64 s, .int .i64 l, .int .i64 h, .int .i64 o] t)) (x : Int) (e : w' = w.setCell ⟨g, 1, none⟩ (.int .i64 x)) : FrAt w' g s x h o := by
  subst e
  have c0 := at_row r 0 rfl
  have c1 := at_row r 1 rfl
  have c2 := at_row r 2 rfl
  have c3 := at_row r 3 rfl
  refine ⟨?_, ?_, ?_, ?_⟩ <;> simp [go_sem, c0, c1, c2, c3]
theorem claimed_oth {w w' : World} {g : Nat} {s l h o : Int} {t : TypeId} (r : w.heap[g]? = some (.cells #[.int .i64 s, .int .i64 l, .int .i64 h, .int .i64 o] t)) (x : Int) (e : w' = w.setCell ⟨g, 3, none⟩ (.int .i64 x)) : FrAt w' g s l h x := by
  subst e
  have c0 := at_row r 0 rfl
  have c1 := at_row r 1 rfl
  have c2 := at_row r 2 rfl
  have c3 := at_row r 3 rfl
  refine ⟨?_, ?_, ?_, ?_⟩ <;> simp [go_sem, c0, c1, c2, c3]
theorem claimed_block {w w' : World} {g j : Nat} {v : Value} (e : w' = w.setCell ⟨g, j, none⟩ v) (k : Nat) (hk : k < g) : w'.heap[k]? = w.heap[k]? := by
  subst e
  exact ((Below.refl k.succ w).setCell (p := ⟨g, j, none⟩) hk v).block k (Nat.lt_succ_self k)
end Go.Proofs.YtldfmlkjeniemaaGreatDoor
