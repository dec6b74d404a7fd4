/- Leaves of package pack: isSpace, isPhase, room, claimed, and the closure that takes a word apart. -/
import Derived.Test.YtdchcmaceobpeaaDoorPkWithin
namespace Go.Proofs.YtdchcmaceobpeaaDoor
open Go.RowKit
theorem cells_one {w : World} {g : Nat} {x : Int} (h : w.cell? ⟨g, 0, none⟩ = some (.int .i64 x)) : ∀ i, i < 1 → w.cell? ⟨g, 0 + i, none⟩ = some (.int .i64 ([x].getD i 0)) := by
  intro i hi
  obtain rfl : i = 0 := by omega
  exact h
theorem cells_three {w : World} {g : Nat} {x y z : Int} (h0 : w.cell? ⟨g, 0, none⟩ = some (.int .i64 x)) (h1 : w.cell? ⟨g, 1, none⟩ = some (.int .i64 y)) (h2 : w.cell? ⟨g, 2, none⟩ = some (.int .i64 z)) : ∀ i, i < 3 → w.cell? ⟨g, 0 + i, none⟩ = some (.int .i64 ([x, y, z].getD i 0)) := by
  intro i hi
  have : i = 0 ∨ i = 1 ∨ i = 2 := by omega
  rcases this with rfl | rfl | rfl
  · exact h0
  · exact h1
  · exact h2
theorem isSpace_any (x : Int) (w : World) :
    Calls Tryd.prog 33 #[.int .i64 x] w fun e w' => e = .returned (.bool (Pk.win 0 1 [x])) ∧ Below w.heap.size w w' := by
  go_enter Tryd.func33, Tryd.ntmps33
  go_wp2_with (go_at_call 36; refine (within_int 0 1 w.heap.size 0 1 1 [x] _ (hid rfl) (by omega) (hid (cells_one (cell_last w _ _ 0 _ rfl)))).mono ?_; rintro e w' ⟨rfl, rfl⟩)
  go_ret
  exact ⟨rfl, (Below.refl _ _).alloc (Nat.le_refl _) _⟩
theorem isPhase_any (x : Int) (w : World) :
    Calls Tryd.prog 38 #[.int .i64 x] w fun e w' => e = .returned (.bool (Pk.win 0 6 [x])) ∧ Below w.heap.size w w' := by
  go_enter Tryd.func38, Tryd.ntmps38
  go_wp2_with (go_at_call 42; refine (within_ph 0 6 w.heap.size 0 1 1 [x] _ (hid rfl) (by omega) (hid (cells_one (cell_last w _ _ 0 _ rfl)))).mono ?_; rintro e w' ⟨rfl, rfl⟩)
  go_ret
  exact ⟨rfl, (Below.refl _ _).alloc (Nat.le_refl _) _⟩
/-- A frontier that stands at g. -/
def FrAt (w : World) (g : Nat) (s l h o : Int) : Prop :=
  w.cell? ⟨g, 0, none⟩ = some (.int .i64 s) ∧ w.cell? ⟨g, 1, none⟩ = some (.int .i64 l) ∧ w.cell? ⟨g, 2, none⟩ = some (.int .i64 h) ∧ w.cell? ⟨g, 3, none⟩ = some (.int .i64 o)
theorem room_any (g : Nat) (s l h o : Int) (w : World) (hf : FrAt w g s l h o) (l0 : 0 ≤ l) (l1 : l ≤ 4096) (h0 : 0 ≤ h) (h1 : h ≤ 4096) (o0 : 0 ≤ o) (o1 : o ≤ 4096) :
    Calls Tryd.prog 34 #[.pointer (some ⟨g, 0, none⟩)] w fun e w' => e = .returned (.int .i64 (h - l - o)) ∧ Below w.heap.size w w' := by
  obtain ⟨c0, c1, c2, c3⟩ := hf
  go_enter Tryd.func34, Tryd.ntmps34
  go_wp2_with fail
  go_quiet (fail)
  go_wp2
  go_ret
  exact ⟨rfl, below_drewN (Below.refl _ _) _⟩
theorem claimed_cur (g : Nat) (s l h o x : Int) (w : World) (hf : FrAt w g s l h o) (hx : (x == s) = true) :
    Calls Tryd.prog 41 #[.pointer (some ⟨g, 0, none⟩), .int .i64 x] w fun e w' => e = .returned (.pointer (some ⟨g, 1, none⟩)) ∧ w' = w := by
  obtain ⟨c0, c1, c2, c3⟩ := hf
  go_enter Tryd.func41, Tryd.ntmps41
  go_wp2
  go_ret
  exact ⟨rfl, rfl⟩
theorem claimed_other (g : Nat) (s l h o x : Int) (w : World) (hf : FrAt w g s l h o) (hx : (x == s) = false) :
    Calls Tryd.prog 41 #[.pointer (some ⟨g, 0, none⟩), .int .i64 x] w fun e w' => e = .returned (.pointer (some ⟨g, 3, none⟩)) ∧ w' = w := by
  obtain ⟨c0, c1, c2, c3⟩ := hf
  go_enter Tryd.func41, Tryd.ntmps41
  go_wp2
  go_ret
  exact ⟨rfl, rfl⟩
end Go.Proofs.YtdchcmaceobpeaaDoor
