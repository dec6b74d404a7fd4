/- The document's answers for layer 6: Right, Size, Ack, List, Base, Space, At. -/
import Derived.Test.YtldfmlkjeniemaaDoorLyFaceOn
import Derived.Test.YtldfmlkjeniemaaDoorObMathOn
import Derived.Test.YtldfmlkjeniemaaDoorWdOfOn
set_option linter.unusedVariables false
namespace Go.Proofs.YtldfmlkjeniemaaDoor
open Go.RowKit Go.Ly Go.Sh Go.Sort
set_option maxRecDepth 100000 in
set_option maxHeartbeats 4000000 in
theorem rgt6_no (t s : Int) (a : Option Addr) (n c : Nat) (w : World) (h : nums t s = false) :
    Calls Tryd.prog 18 #[planV t s a n c] w fun e w' => e = .returned (.bool false) ∧ Below w.heap.size w w' := by
  by_cases h1 : t < 1
  · go_enter Tryd.func18, Tryd.ntmps18
    go_wp2
    go_ret
    exact ⟨rfl, below_alloc0 w _⟩
  · have h1' : 1 ≤ t := by omega
    by_cases h2 : 8 < t
    · clear h1
      go_enter Tryd.func18, Tryd.ntmps18
      go_wp2
      go_ret
      exact ⟨rfl, below_alloc0 w _⟩
    · have h2' : t ≤ 8 := by omega
      by_cases h3 : s < 32
      · clear h1 h2
        go_enter Tryd.func18, Tryd.ntmps18
        go_wp2
        go_ret
        exact ⟨rfl, below_alloc0 w _⟩
      · have h3' : 32 ≤ s := by omega
        have h4' : 4096 < s := by
          simp [nums, h1', h2', h3'] at h; omega
        clear h1 h2 h3 h
        go_enter Tryd.func18, Tryd.ntmps18
        go_wp2
        go_ret
        exact ⟨rfl, below_alloc0 w _⟩
set_option maxRecDepth 100000 in
set_option maxHeartbeats 4000000 in
theorem rgt6_at (t s : Int) (a : Option Addr) (n c : Nat) (ss : List ByteArray) (w : World) (r : Bool) (hT : IsTab w (.slice a n c) ss) (hr : Hid (rgt t s ss = r)) :
    Calls Tryd.prog 18 #[planV t s a n c] w fun e w' => e = .returned (.bool r) ∧ Below w.heap.size w w' := by
  have hr := hr.out
  rcases Bool.eq_false_or_eq_true (nums t s) with hn | hn
  · obtain ⟨t0, t1, s0, s1⟩ := nums_yes hn
    rw [rgt, hn, Bool.true_and] at hr
    have cr := rRight_any _ ss _ (hT.below (Nat.le_refl _) (below_alloc0 w (.cells #[.int .i64 t, .int .i64 s, .slice a n c] 24)))
    rw [hr] at cr
    clear hr hn hT
    go_enter Tryd.func18, Tryd.ntmps18
    go_wp2_with (go_at_call 37; refine cr.mono ?_; rintro e w1 ⟨rfl, hw⟩; rw [hw]; clear hw)
    go_ret
    exact ⟨rfl, below_alloc0 w _⟩
  · rw [rgt, hn, Bool.false_and] at hr
    subst hr
    exact rgt6_no t s a n c w hn
theorem rSize6 (t s : Int) (a : Option Addr) (n c : Nat) (w : World) (t0 : 1 ≤ t) (t1 : t ≤ 8) (s0 : 32 ≤ s) (s1 : s ≤ 4096) :
    Calls Tryd.prog 19 #[planV t s a n c] w fun e w' => e = .returned (.int .i64 (3 + t + t + 2 * s)) ∧ Below w.heap.size w w' := by
  go_enter Tryd.func19, Tryd.ntmps19
  go_wp2
  go_ret
  exact ⟨ret_int (by omega), below_alloc0 w _⟩
theorem rBase6_0 (t s : Int) (a : Option Addr) (n c : Nat) (w : World) (t0 : 1 ≤ t) (t1 : t ≤ 8) (s0 : 32 ≤ s) (s1 : s ≤ 4096) :
    Calls Tryd.prog 15 #[planV t s a n c, .int .i64 0] w fun e w' => e = .returned (.int .i64 (3 + t + t)) ∧ Below w.heap.size w w' := by
  go_enter Tryd.func15, Tryd.ntmps15
  go_wp2
  go_ret
  exact ⟨ret_int (by omega), below_alloc0 w _⟩
theorem rBase6_1 (t s : Int) (a : Option Addr) (n c : Nat) (w : World) (t0 : 1 ≤ t) (t1 : t ≤ 8) (s0 : 32 ≤ s) (s1 : s ≤ 4096) :
    Calls Tryd.prog 15 #[planV t s a n c, .int .i64 1] w fun e w' => e = .returned (.int .i64 (3 + t + t + s)) ∧ Below w.heap.size w w' := by
  go_enter Tryd.func15, Tryd.ntmps15
  go_wp2
  go_ret
  exact ⟨ret_int (by omega), below_alloc0 w _⟩
end Go.Proofs.YtldfmlkjeniemaaDoor
/- The document's answers for layer 6: Space, Part. -/
set_option linter.unusedVariables false
namespace Go.Proofs.YtldfmlkjeniemaaDoor
open Go.RowKit Go.Ly Go.Sh Go.Sort
set_option maxRecDepth 100000 in
set_option maxHeartbeats 4000000 in
theorem rSpace6_lo (t s x : Int) (a : Option Addr) (n c : Nat) (w : World) (t0 : 1 ≤ t) (t1 : t ≤ 8) (s0 : 32 ≤ s) (s1 : s ≤ 4096) (h : x < 3 + t + t) :
    Calls Tryd.prog 50 #[planV t s a n c, .int .i64 x] w fun e w' => e = .returned (.int .i64 (-1)) ∧ Below w.heap.size w w' := by
  have cb := fun W => rBase6_0 t s a n c W t0 t1 s0 s1
  go_enter Tryd.func50, Tryd.ntmps50
  go_wp2_with (go_at_call 15; refine (cb _).mono ?_; rintro e w1 ⟨rfl, b1⟩)
  go_ret
  exact ⟨rfl, bel1 b1⟩
set_option maxRecDepth 100000 in
set_option maxHeartbeats 4000000 in
theorem rSpace6_hi (t s x : Int) (a : Option Addr) (n c : Nat) (w : World) (t0 : 1 ≤ t) (t1 : t ≤ 8) (s0 : 32 ≤ s) (s1 : s ≤ 4096) (h : 3 + t + t + 2 * s ≤ x) :
    Calls Tryd.prog 50 #[planV t s a n c, .int .i64 x] w fun e w' => e = .returned (.int .i64 (-1)) ∧ Below w.heap.size w w' := by
  have cb := fun W => rBase6_0 t s a n c W t0 t1 s0 s1
  have cs := fun W => rSize6 t s a n c W t0 t1 s0 s1
  have h' : 3 + t + t ≤ x := by omega
  go_enter Tryd.func50, Tryd.ntmps50
  go_wp2_with (go_at_call 15; refine (cb _).mono ?_)
  rintro e w1 ⟨rfl, b1⟩
  have B1 := hid (bel1 b1)
  have R1 := row1 b1
  clear b1
  have p0 := at_row R1 0 rfl
  have p1 := at_row R1 1 rfl
  have p2 := at_row R1 2 rfl
  clear R1
  go_wp2_with (go_at_call 19; refine (cs _).mono ?_; rintro e w2 ⟨rfl, b2⟩)
  go_ret
  exact ⟨rfl, B1.out.trans (b2.mono B1.out.size)⟩
set_option maxRecDepth 100000 in
set_option maxHeartbeats 4000000 in
theorem rSpace6_in (t s x q : Int) (a : Option Addr) (n c : Nat) (w : World) (t0 : 1 ≤ t) (t1 : t ≤ 8) (s0 : 32 ≤ s) (s1 : s ≤ 4096) (h0 : 3 + t + t ≤ x) (h1 : x < 3 + t + t + 2 * s) (hq : Hid ((x - (3 + t + t)) / s = q)) :
    Calls Tryd.prog 50 #[planV t s a n c, .int .i64 x] w fun e w' => e = .returned (.int .i64 q) ∧ Below w.heap.size w w' := by
  have cb := fun W => rBase6_0 t s a n c W t0 t1 s0 s1
  have cs := fun W => rSize6 t s a n c W t0 t1 s0 s1
  have z0 : 0 ≤ x - (3 + t + t) := by omega
  have sne : (s == 0) = false := by rw [beq_eq_false_iff_ne]; omega
  go_enter Tryd.func50, Tryd.ntmps50
  go_wp2_with (go_at_call 15; refine (cb _).mono ?_)
  rintro e w1 ⟨rfl, b1⟩
  have B1 := hid (bel1 b1)
  have R1 := row1 b1
  have HR1 := hid R1
  clear b1
  have p0 := at_row R1 0 rfl
  have p1 := at_row R1 1 rfl
  have p2 := at_row R1 2 rfl
  clear R1
  go_wp2_with (go_at_call 19; refine (cs _).mono ?_)
  rintro e w2 ⟨rfl, b2⟩
  have R2 := row_below HR1.out b2
  have B2 := hid (B1.out.trans (b2.mono B1.out.size))
  clear p0 p1 p2 b2 B1 HR1
  have p0 := at_row R2 0 rfl
  have p1 := at_row R2 1 rfl
  have p2 := at_row R2 2 rfl
  clear R2
  go_wp2_with fail
  go_ret
  exact ⟨ret_int hq.out, B2.out⟩
/-- What is read and written while a part is told. -/
def Rst (g h : Nat) (t s : Int) (a : Option Addr) (n c : Nat) (W : World) : Prop := g ≠ h ∧ W.heap[g]? = some (.cells #[.int .i64 t, .int .i64 s, .slice a n c] 24) ∧ ∃ u v z, W.heap[h]? = some (.cells #[u, v, z] 93)
def cuV (W : World) (h i : Nat) : Value := (W.cell? ⟨h, i, none⟩).getD undef
abbrev PtS (g h : Nat) (t s : Int) (a : Option Addr) (n c : Nat) (W : World) : Prop :=
  W.cell? ⟨g, 0, none⟩ = some (.int .i64 t) ∧ W.cell? ⟨g, 1, none⟩ = some (.int .i64 s) ∧ W.cell? ⟨g, 2, none⟩ = some (.slice a n c) ∧
  W.cell? ⟨h, 0, none⟩ = some (cuV W h 0) ∧ W.cell? ⟨h, 1, none⟩ = some (cuV W h 1) ∧ W.cell? ⟨h, 2, none⟩ = some (cuV W h 2) ∧
  W.frozen? ⟨h, 0, none⟩ = false ∧ W.frozen? ⟨h, 1, none⟩ = false ∧ W.frozen? ⟨h, 2, none⟩ = false ∧ Rst g h t s a n c W
theorem ptS_of {g h : Nat} {t s : Int} {a : Option Addr} {n c : Nat} {W : World} (k : Rst g h t s a n c W) : PtS g h t s a n c W := by
  obtain ⟨hne, hg, u, v, z, hh⟩ := k
  refine ⟨at_row hg 0 rfl, at_row hg 1 rfl, at_row hg 2 rfl, ?_, ?_, ?_, fz_row hh 0, fz_row hh 1, fz_row hh 2, ⟨hne, hg, u, v, z, hh⟩⟩
  · rw [cuV, at_row hh 0 rfl]; rfl
  · rw [cuV, at_row hh 1 rfl]; rfl
  · rw [cuV, at_row hh 2 rfl]; rfl
theorem ptS_below {g h : Nat} {t s : Int} {a : Option Addr} {n c : Nat} {W W' : World} (k : PtS g h t s a n c W) (b : Below W.heap.size W W') : PtS g h t s a n c W' := by
  obtain ⟨hne, hg, u, v, z, hh⟩ := k.2.2.2.2.2.2.2.2.2
  exact ptS_of ⟨hne, row_below hg b, u, v, z, row_below hh b⟩
theorem other_row {w : World} {g h i : Nat} {v : Value} {O : Obj} (hne : g ≠ h) (k : w.heap[g]? = some O) : (w.setCell ⟨h, i, none⟩ v).heap[g]? = some O := by
  simp [World.setCell, Array.getElem?_modify, Ne.symm hne, k]
theorem rst_set3 {g h : Nat} {t s : Int} {a : Option Addr} {n c : Nat} {W : World} (k : PtS g h t s a n c W) (x y z' : Value) : PtS g h t s a n c (((W.setCell ⟨h, 0, none⟩ x).setCell ⟨h, 1, none⟩ y).setCell ⟨h, 2, none⟩ z') := by
  obtain ⟨hne, hg, u, v, z, hh⟩ := k.2.2.2.2.2.2.2.2.2
  exact ptS_of ⟨hne, other_row hne (other_row hne (other_row hne hg)), x, y, z', set3_row hh x y z'⟩
theorem ptS_drew {g h : Nat} {t s : Int} {a : Option Addr} {n c : Nat} {W : World} (k : PtS g h t s a n c W) : PtS g h t s a n c W.drew := ptS_of k.2.2.2.2.2.2.2.2.2
end Go.Proofs.YtldfmlkjeniemaaDoor
/- The leaves of package pack: within at its three types; the contracts of what bounds are asked by. -/
namespace Go.Proofs.YtldfmlkjeniemaaDoor
open Go.RowKit
end Go.Proofs.YtldfmlkjeniemaaDoor
/- Leaves of package pack: isSpace, isPhase, room, claimed, and the closure that takes a word apart. -/
namespace Go.Proofs.YtldfmlkjeniemaaDoor
open Go.RowKit
theorem cells_one {w : World} {g : Nat} {x : Int} (h : w.cell? ⟨g, 0, none⟩ = some (.int .i64 x)) : ∀ i, i < 1 → w.cell? ⟨g, 0 + i, none⟩ = some (.int .i64 ([x].getD i 0)) := by
  intro i hi
  obtain rfl : i = 0 := by omega
  exact h
theorem cells_three {w : World} {g : Nat} {x y z : Int} (h0 : w.cell? ⟨g, 0, none⟩ = some (.int .i64 x)) (h1 : w.cell? ⟨g, 1, none⟩ = some (.int .i64 y)) (h2 : w.cell? ⟨g, 2, none⟩ = some (.int .i64 z)) : ∀ i, i < 3 → w.cell? ⟨g, 0 + i, none⟩ = some (.int .i64 ([x, y, z].getD i 0)) := by
  intro i hi
  have : i = 0 ∨ i = 1 ∨ i = 2 := by omega
  rcases this with rfl | rfl | rfl
  · exact h0
  · exact h1
  · exact h2
/-- A frontier that stands at g. -/
def FrAt (w : World) (g : Nat) (s l h o : Int) : Prop :=
  w.cell? ⟨g, 0, none⟩ = some (.int .i64 s) ∧ w.cell? ⟨g, 1, none⟩ = some (.int .i64 l) ∧ w.cell? ⟨g, 2, none⟩ = some (.int .i64 h) ∧ w.cell? ⟨g, 3, none⟩ = some (.int .i64 o)
end Go.Proofs.YtldfmlkjeniemaaDoor
/- Package pack's methods of a frontier under way, and what takes a word apart. -/
namespace Go.Proofs.YtldfmlkjeniemaaDoor
open Go.RowKit
end Go.Proofs.YtldfmlkjeniemaaDoor
/- Package pack: which requests and which frontiers may be. -/
namespace Go.Proofs.YtldfmlkjeniemaaDoor
open Go.RowKit Go.Sort
theorem FrAt.below {w w' : World} {g : Nat} {s l h o : Int} (hf : FrAt w g s l h o) {B : Nat} (hb : Below B w w') (hg : g < B) : FrAt w' g s l h o :=
  ⟨(hb.cell (p := ⟨g, 0, none⟩) hg).trans hf.1, (hb.cell (p := ⟨g, 1, none⟩) hg).trans hf.2.1, (hb.cell (p := ⟨g, 2, none⟩) hg).trans hf.2.2.1, (hb.cell (p := ⟨g, 3, none⟩) hg).trans hf.2.2.2⟩
/-- What stands while a frontier is asked whether it may be. -/
abbrev MayS (w : World) (g : Nat) (s l h o : Int) : World → Prop := fun w' => w'.cell? ⟨g, 0, none⟩ = some (.int .i64 s) ∧ w'.cell? ⟨g, 1, none⟩ = some (.int .i64 l) ∧ w'.cell? ⟨g, 2, none⟩ = some (.int .i64 h) ∧ w'.cell? ⟨g, 3, none⟩ = some (.int .i64 o) ∧ Below w.heap.size w w'
theorem mayS_drew {w : World} {g : Nat} {s l h o : Int} (hf : FrAt w g s l h o) : MayS w g s l h o w.drew :=
  ⟨hf.1, hf.2.1, hf.2.2.1, hf.2.2.2, (Below.refl _ _).drew⟩
theorem mayS_call {w w1 w2 : World} {g : Nat} {s l h o : Int} (hf : MayS w g s l h o w1) (hb : Below w1.heap.size w1 w2) : MayS w g s l h o w2 := by
  have hg : g < w1.heap.size := block_lt_of_cell hf.1
  have hg2 := hf.2.2.2.2.size
  exact ⟨(hb.cell (p := ⟨g, 0, none⟩) hg).trans hf.1, (hb.cell (p := ⟨g, 1, none⟩) hg).trans hf.2.1, (hb.cell (p := ⟨g, 2, none⟩) hg).trans hf.2.2.1, (hb.cell (p := ⟨g, 3, none⟩) hg).trans hf.2.2.2.1, hf.2.2.2.2.trans (hb.mono hg2)⟩
theorem mayS_alloc {w w1 : World} {g : Nat} {s l h o : Int} (hf : MayS w g s l h o w1) (ob : Obj) : MayS w g s l h o (w1.alloc ob) :=
  mayS_call hf (below_alloc0 w1 ob)
theorem frAt_mayS {w w1 : World} {g : Nat} {s l h o : Int} (hf : MayS w g s l h o w1) : FrAt w1 g s l h o := ⟨hf.1, hf.2.1, hf.2.2.1, hf.2.2.2.1⟩
theorem below_mayS {w w1 : World} {g : Nat} {s l h o : Int} (hf : MayS w g s l h o w1) : Below w.heap.size w w1 := hf.2.2.2.2
end Go.Proofs.YtldfmlkjeniemaaDoor
/- Package pack's Request and OfRequest. -/
namespace Go.Proofs.YtldfmlkjeniemaaDoor
open Go.RowKit
end Go.Proofs.YtldfmlkjeniemaaDoor
/- Package pack's Front, Fits, Used, Turn. -/
namespace Go.Proofs.YtldfmlkjeniemaaDoor
open Go.RowKit
theorem frAt_row {w : World} {g : Nat} {s l h o : Int} {t : TypeId} (r : w.heap[g]? = some (.cells #[.int .i64 s, .int .i64 l, .int .i64 h, .int .i64 o] t)) : FrAt w g s l h o :=
  ⟨at_row r 0 rfl, at_row r 1 rfl, at_row r 2 rfl, at_row r 3 rfl⟩
end Go.Proofs.YtldfmlkjeniemaaDoor
/- Package pack's OfFront. -/
namespace Go.Proofs.YtldfmlkjeniemaaDoor
open Go.RowKit
theorem ret_fe {a b c d a' b' c' d' e e' : Int} (h1 : a = a') (h2 : b = b') (h3 : c = c') (h4 : d = d') (h5 : e = e') : Ending.returned (.tuple #[.agg #[.int .i64 a, .int .i64 b, .int .i64 c, .int .i64 d], .int .i64 e]) = .returned (.tuple #[.agg #[.int .i64 a', .int .i64 b', .int .i64 c', .int .i64 d'], .int .i64 e']) := by rw [h1, h2, h3, h4, h5]
end Go.Proofs.YtldfmlkjeniemaaDoor
/- Package pack's Claim. -/
namespace Go.Proofs.YtldfmlkjeniemaaDoor
open Go.RowKit
theorem claimed_low {w w' : World} {g : Nat} {s l h o : Int} {t : TypeId} (r : w.heap[g]? = some (.cells #[.int .i64 s, .int .i64 l, .int .i64 h, .int .i64 o] t)) (x : Int) (e : w' = w.setCell ⟨g, 1, none⟩ (.int .i64 x)) : FrAt w' g s x h o := by
  subst e
  have c0 := at_row r 0 rfl
  have c1 := at_row r 1 rfl
  have c2 := at_row r 2 rfl
  have c3 := at_row r 3 rfl
  refine ⟨?_, ?_, ?_, ?_⟩ <;> simp [go_sem, c0, c1, c2, c3]
theorem claimed_oth {w w' : World} {g : Nat} {s l h o : Int} {t : TypeId} (r : w.heap[g]? = some (.cells #[.int .i64 s, .int .i64 l, .int .i64 h, .int .i64 o] t)) (x : Int) (e : w' = w.setCell ⟨g, 3, none⟩ (.int .i64 x)) : FrAt w' g s l h x := by
  subst e
  have c0 := at_row r 0 rfl
  have c1 := at_row r 1 rfl
  have c2 := at_row r 2 rfl
  have c3 := at_row r 3 rfl
  refine ⟨?_, ?_, ?_, ?_⟩ <;> simp [go_sem, c0, c1, c2, c3]
theorem claimed_block {w w' : World} {g j : Nat} {v : Value} (e : w' = w.setCell ⟨g, j, none⟩ v) (k : Nat) (hk : k < g) : w'.heap[k]? = w.heap[k]? := by
  subst e
  exact ((Below.refl k.succ w).setCell (p := ⟨g, j, none⟩) hk v).block k (Nat.lt_succ_self k)
end Go.Proofs.YtldfmlkjeniemaaDoor
/- The document's functions of layer 2: which frontiers may be; requests; frontiers as words. -/
namespace Go.Proofs.YtldfmlkjeniemaaDoor
open Go.RowKit
set_option maxHeartbeats 1000000 in
theorem right_s (s l h o : Int) (w : World) (hs0 : (s != 0) = true) (hs1 : (s != 1) = true) :
    Calls Tryd.prog 61 #[.agg #[.int .i64 s, .int .i64 l, .int .i64 h, .int .i64 o]] w fun e w' => e = .returned (.bool false) ∧ Below w.heap.size w w' := by
  go_enter Tryd.func61, Tryd.ntmps61
  go_wp2
  go_ret
  exact ⟨rfl, below_alloc0 w _⟩
set_option maxHeartbeats 1000000 in
theorem right_llo_a (s l h o : Int) (w : World) (hs0 : (s != 0) = false) (hv : l < 0) :
    Calls Tryd.prog 61 #[.agg #[.int .i64 s, .int .i64 l, .int .i64 h, .int .i64 o]] w fun e w' => e = .returned (.bool false) ∧ Below w.heap.size w w' := by
  go_enter Tryd.func61, Tryd.ntmps61
  go_wp2
  go_ret
  exact ⟨rfl, below_alloc0 w _⟩
set_option maxHeartbeats 1000000 in
theorem right_lhi_a (s l h o : Int) (w : World) (hs0 : (s != 0) = false) (l0 : 0 ≤ l) (hv : 4096 < l) :
    Calls Tryd.prog 61 #[.agg #[.int .i64 s, .int .i64 l, .int .i64 h, .int .i64 o]] w fun e w' => e = .returned (.bool false) ∧ Below w.heap.size w w' := by
  go_enter Tryd.func61, Tryd.ntmps61
  go_wp2
  go_ret
  exact ⟨rfl, below_alloc0 w _⟩
set_option maxHeartbeats 1000000 in
theorem right_hlo_a (s l h o : Int) (w : World) (hs0 : (s != 0) = false) (l0 : 0 ≤ l) (l1 : l ≤ 4096) (hv : h < 0) :
    Calls Tryd.prog 61 #[.agg #[.int .i64 s, .int .i64 l, .int .i64 h, .int .i64 o]] w fun e w' => e = .returned (.bool false) ∧ Below w.heap.size w w' := by
  go_enter Tryd.func61, Tryd.ntmps61
  go_wp2
  go_ret
  exact ⟨rfl, below_alloc0 w _⟩
set_option maxHeartbeats 1000000 in
theorem right_hhi_a (s l h o : Int) (w : World) (hs0 : (s != 0) = false) (l0 : 0 ≤ l) (l1 : l ≤ 4096) (h0 : 0 ≤ h) (hv : 4096 < h) :
    Calls Tryd.prog 61 #[.agg #[.int .i64 s, .int .i64 l, .int .i64 h, .int .i64 o]] w fun e w' => e = .returned (.bool false) ∧ Below w.heap.size w w' := by
  go_enter Tryd.func61, Tryd.ntmps61
  go_wp2
  go_ret
  exact ⟨rfl, below_alloc0 w _⟩
set_option maxHeartbeats 1000000 in
theorem right_olo_a (s l h o : Int) (w : World) (hs0 : (s != 0) = false) (l0 : 0 ≤ l) (l1 : l ≤ 4096) (h0 : 0 ≤ h) (h1 : h ≤ 4096) (hv : o < 0) :
    Calls Tryd.prog 61 #[.agg #[.int .i64 s, .int .i64 l, .int .i64 h, .int .i64 o]] w fun e w' => e = .returned (.bool false) ∧ Below w.heap.size w w' := by
  go_enter Tryd.func61, Tryd.ntmps61
  go_wp2
  go_ret
  exact ⟨rfl, below_alloc0 w _⟩
set_option maxHeartbeats 1000000 in
theorem right_ohi_a (s l h o : Int) (w : World) (hs0 : (s != 0) = false) (l0 : 0 ≤ l) (l1 : l ≤ 4096) (h0 : 0 ≤ h) (h1 : h ≤ 4096) (o0 : 0 ≤ o) (hv : 4096 < o) :
    Calls Tryd.prog 61 #[.agg #[.int .i64 s, .int .i64 l, .int .i64 h, .int .i64 o]] w fun e w' => e = .returned (.bool false) ∧ Below w.heap.size w w' := by
  go_enter Tryd.func61, Tryd.ntmps61
  go_wp2
  go_ret
  exact ⟨rfl, below_alloc0 w _⟩
set_option maxHeartbeats 1000000 in
theorem right_in_a (s l h o : Int) (w : World) (hs0 : (s != 0) = false) (l0 : 0 ≤ l) (l1 : l ≤ 4096) (h0 : 0 ≤ h) (h1 : h ≤ 4096) (o0 : 0 ≤ o) (o1 : o ≤ 4096) :
    Calls Tryd.prog 61 #[.agg #[.int .i64 s, .int .i64 l, .int .i64 h, .int .i64 o]] w fun e w' => e = .returned (.bool (decide (l + o ≤ h))) ∧ Below w.heap.size w w' := by
  go_enter Tryd.func61, Tryd.ntmps61
  go_wp2
  go_ret
  exact ⟨rfl, below_alloc0 w _⟩
set_option maxHeartbeats 1000000 in
theorem right_llo_b (s l h o : Int) (w : World) (hs0 : (s != 0) = true) (hs1 : (s != 1) = false) (hv : l < 0) :
    Calls Tryd.prog 61 #[.agg #[.int .i64 s, .int .i64 l, .int .i64 h, .int .i64 o]] w fun e w' => e = .returned (.bool false) ∧ Below w.heap.size w w' := by
  go_enter Tryd.func61, Tryd.ntmps61
  go_wp2
  go_ret
  exact ⟨rfl, below_alloc0 w _⟩
set_option maxHeartbeats 1000000 in
theorem right_lhi_b (s l h o : Int) (w : World) (hs0 : (s != 0) = true) (hs1 : (s != 1) = false) (l0 : 0 ≤ l) (hv : 4096 < l) :
    Calls Tryd.prog 61 #[.agg #[.int .i64 s, .int .i64 l, .int .i64 h, .int .i64 o]] w fun e w' => e = .returned (.bool false) ∧ Below w.heap.size w w' := by
  go_enter Tryd.func61, Tryd.ntmps61
  go_wp2
  go_ret
  exact ⟨rfl, below_alloc0 w _⟩
set_option maxHeartbeats 1000000 in
theorem right_hlo_b (s l h o : Int) (w : World) (hs0 : (s != 0) = true) (hs1 : (s != 1) = false) (l0 : 0 ≤ l) (l1 : l ≤ 4096) (hv : h < 0) :
    Calls Tryd.prog 61 #[.agg #[.int .i64 s, .int .i64 l, .int .i64 h, .int .i64 o]] w fun e w' => e = .returned (.bool false) ∧ Below w.heap.size w w' := by
  go_enter Tryd.func61, Tryd.ntmps61
  go_wp2
  go_ret
  exact ⟨rfl, below_alloc0 w _⟩
set_option maxHeartbeats 1000000 in
theorem right_hhi_b (s l h o : Int) (w : World) (hs0 : (s != 0) = true) (hs1 : (s != 1) = false) (l0 : 0 ≤ l) (l1 : l ≤ 4096) (h0 : 0 ≤ h) (hv : 4096 < h) :
    Calls Tryd.prog 61 #[.agg #[.int .i64 s, .int .i64 l, .int .i64 h, .int .i64 o]] w fun e w' => e = .returned (.bool false) ∧ Below w.heap.size w w' := by
  go_enter Tryd.func61, Tryd.ntmps61
  go_wp2
  go_ret
  exact ⟨rfl, below_alloc0 w _⟩
set_option maxHeartbeats 1000000 in
theorem right_olo_b (s l h o : Int) (w : World) (hs0 : (s != 0) = true) (hs1 : (s != 1) = false) (l0 : 0 ≤ l) (l1 : l ≤ 4096) (h0 : 0 ≤ h) (h1 : h ≤ 4096) (hv : o < 0) :
    Calls Tryd.prog 61 #[.agg #[.int .i64 s, .int .i64 l, .int .i64 h, .int .i64 o]] w fun e w' => e = .returned (.bool false) ∧ Below w.heap.size w w' := by
  go_enter Tryd.func61, Tryd.ntmps61
  go_wp2
  go_ret
  exact ⟨rfl, below_alloc0 w _⟩
set_option maxHeartbeats 1000000 in
theorem right_ohi_b (s l h o : Int) (w : World) (hs0 : (s != 0) = true) (hs1 : (s != 1) = false) (l0 : 0 ≤ l) (l1 : l ≤ 4096) (h0 : 0 ≤ h) (h1 : h ≤ 4096) (o0 : 0 ≤ o) (hv : 4096 < o) :
    Calls Tryd.prog 61 #[.agg #[.int .i64 s, .int .i64 l, .int .i64 h, .int .i64 o]] w fun e w' => e = .returned (.bool false) ∧ Below w.heap.size w w' := by
  go_enter Tryd.func61, Tryd.ntmps61
  go_wp2
  go_ret
  exact ⟨rfl, below_alloc0 w _⟩
set_option maxHeartbeats 1000000 in
theorem right_in_b (s l h o : Int) (w : World) (hs0 : (s != 0) = true) (hs1 : (s != 1) = false) (l0 : 0 ≤ l) (l1 : l ≤ 4096) (h0 : 0 ≤ h) (h1 : h ≤ 4096) (o0 : 0 ≤ o) (o1 : o ≤ 4096) :
    Calls Tryd.prog 61 #[.agg #[.int .i64 s, .int .i64 l, .int .i64 h, .int .i64 o]] w fun e w' => e = .returned (.bool (decide (l + o ≤ h))) ∧ Below w.heap.size w w' := by
  go_enter Tryd.func61, Tryd.ntmps61
  go_wp2
  go_ret
  exact ⟨rfl, below_alloc0 w _⟩
theorem right_any (s l h o : Int) (w : World) :
    Calls Tryd.prog 61 #[.agg #[.int .i64 s, .int .i64 l, .int .i64 h, .int .i64 o]] w fun e w' => e = .returned (.bool (Pk.frOk s l h o)) ∧ Below w.heap.size w w' := by
  by_cases hs : s = 0
  · have e0 : (s != 0) = false := by simpa using hs
    by_cases hl : l < 0
    · exact (right_llo_a s l h o w e0 hl).mono fun _ _ e => ⟨e.1.trans (ret_bool (Pk.frOk_no (by omega)).symm), e.2⟩
    · by_cases hl1 : 4096 < l
      · exact (right_lhi_a s l h o w e0 (by omega) hl1).mono fun _ _ e => ⟨e.1.trans (ret_bool (Pk.frOk_no (by omega)).symm), e.2⟩
      · by_cases hh : h < 0
        · exact (right_hlo_a s l h o w e0 (by omega) (by omega) hh).mono fun _ _ e => ⟨e.1.trans (ret_bool (Pk.frOk_no (by omega)).symm), e.2⟩
        · by_cases hh1 : 4096 < h
          · exact (right_hhi_a s l h o w e0 (by omega) (by omega) (by omega) hh1).mono fun _ _ e => ⟨e.1.trans (ret_bool (Pk.frOk_no (by omega)).symm), e.2⟩
          · by_cases ho : o < 0
            · exact (right_olo_a s l h o w e0 (by omega) (by omega) (by omega) (by omega) ho).mono fun _ _ e => ⟨e.1.trans (ret_bool (Pk.frOk_no (by omega)).symm), e.2⟩
            · by_cases ho1 : 4096 < o
              · exact (right_ohi_a s l h o w e0 (by omega) (by omega) (by omega) (by omega) (by omega) ho1).mono fun _ _ e => ⟨e.1.trans (ret_bool (Pk.frOk_no (by omega)).symm), e.2⟩
              · refine (right_in_a s l h o w e0 (by omega) (by omega) (by omega) (by omega) (by omega) (by omega)).mono fun _ _ e => ⟨e.1.trans (ret_bool ?_), e.2⟩
                unfold Pk.frOk; rw [decide_eq_decide]; omega
  · have e0 : (s != 0) = true := by simpa using hs
    by_cases hs1 : s = 1
    · have e1 : (s != 1) = false := by simpa using hs1
      by_cases hl : l < 0
      · exact (right_llo_b s l h o w e0 e1 hl).mono fun _ _ e => ⟨e.1.trans (ret_bool (Pk.frOk_no (by omega)).symm), e.2⟩
      · by_cases hl1 : 4096 < l
        · exact (right_lhi_b s l h o w e0 e1 (by omega) hl1).mono fun _ _ e => ⟨e.1.trans (ret_bool (Pk.frOk_no (by omega)).symm), e.2⟩
        · by_cases hh : h < 0
          · exact (right_hlo_b s l h o w e0 e1 (by omega) (by omega) hh).mono fun _ _ e => ⟨e.1.trans (ret_bool (Pk.frOk_no (by omega)).symm), e.2⟩
          · by_cases hh1 : 4096 < h
            · exact (right_hhi_b s l h o w e0 e1 (by omega) (by omega) (by omega) hh1).mono fun _ _ e => ⟨e.1.trans (ret_bool (Pk.frOk_no (by omega)).symm), e.2⟩
            · by_cases ho : o < 0
              · exact (right_olo_b s l h o w e0 e1 (by omega) (by omega) (by omega) (by omega) ho).mono fun _ _ e => ⟨e.1.trans (ret_bool (Pk.frOk_no (by omega)).symm), e.2⟩
              · by_cases ho1 : 4096 < o
                · exact (right_ohi_b s l h o w e0 e1 (by omega) (by omega) (by omega) (by omega) (by omega) ho1).mono fun _ _ e => ⟨e.1.trans (ret_bool (Pk.frOk_no (by omega)).symm), e.2⟩
                · refine (right_in_b s l h o w e0 e1 (by omega) (by omega) (by omega) (by omega) (by omega) (by omega)).mono fun _ _ e => ⟨e.1.trans (ret_bool ?_), e.2⟩
                  unfold Pk.frOk; rw [decide_eq_decide]; omega
    · have e1 : (s != 1) = true := by simpa using hs1
      exact (right_s s l h o w e0 e1).mono fun _ _ e => ⟨e.1.trans (ret_bool (Pk.frOk_no (by omega)).symm), e.2⟩
set_option maxHeartbeats 1000000 in
theorem rfront_yes (s l h o : Int) (w : World) (hk : Pk.frOk s l h o = true) :
    Calls Tryd.prog 38 #[.agg #[.int .i64 s, .int .i64 l, .int .i64 h, .int .i64 o]] w fun e w' => e = .returned (.tuple #[.int .u64 (s + 2 * (l + 8192 * (h + 8192 * o))), .int .i64 0]) ∧ Below w.heap.size w w' := by
  obtain ⟨hs, l0, l1, h0, h1, o0, o1, hlo⟩ := Pk.frOk_yes hk
  have s0 : 0 ≤ s := by omega
  have s1 : s ≤ 1 := by omega
  clear hs
  go_enter Tryd.func38, Tryd.ntmps38
  go_wp2_with (go_at_call 61; refine (right_any _ _ _ _ _).mono ?_)
  rintro e w1 ⟨rfl, b1⟩
  have c0 := at_row (row1 b1) 0 rfl
  have c1 := at_row (row1 b1) 1 rfl
  have c2 := at_row (row1 b1) 2 rfl
  have c3 := at_row (row1 b1) 3 rfl
  have bw := bel1 b1
  clear b1
  go_wp2
  go_ret2
  exact ⟨rfl, bw⟩
set_option maxHeartbeats 1000000 in
theorem rfront_no (s l h o : Int) (w : World) (hk : Pk.frOk s l h o = false) :
    Calls Tryd.prog 38 #[.agg #[.int .i64 s, .int .i64 l, .int .i64 h, .int .i64 o]] w fun e w' => e = .returned (.tuple #[.int .u64 0, .int .i64 2]) ∧ Below w.heap.size w w' := by
  go_enter Tryd.func38, Tryd.ntmps38
  go_wp2_with (go_at_call 61; refine (right_any _ _ _ _ _).mono ?_)
  rintro e w1 ⟨rfl, b1⟩
  have bw := bel1 b1
  clear b1
  go_wp2
  go_ret2
  exact ⟨rfl, bw⟩
end Go.Proofs.YtldfmlkjeniemaaDoor
