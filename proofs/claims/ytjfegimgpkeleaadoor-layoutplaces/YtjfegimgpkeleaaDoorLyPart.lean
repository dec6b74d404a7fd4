/- package layout: a part's numbers; may it be; is it there; where its word stands. -/
import Derived.Test.YtjfegimgpkeleaaDoorLyBase
import Derived.Test.YtjfegimgpkeleaaDoorLyMay
import Derived.Test.YtjfegimgpkeleaaDoorShAll
namespace Go.Ly
/-- How many numbers a part of a kind has. -/
def pnm : Nat → Nat
  | 4 => 1
  | 5 => 1
  | 6 => 2
  | _ => 0
end Go.Ly
namespace Go.Proofs.YtjfegimgpkeleaaDoor
open Go.RowKit Go.Ly Go.Sh
/-- The table of how many numbers parts have stands as it was laid. -/
def LNums (w : World) : Prop := ∀ i, i < 7 → w.cell? ⟨1, i, none⟩ = some (.int .i64 (pnm i : Int))
theorem LNums.below {w w' : World} (h : LNums w) (hb : Below w.heap.size w w') : LNums w' :=
  fun i hi => (hb.cell (p := ⟨1, i, none⟩) (block_lt_of_cell (h i hi))).trans (h i hi)
theorem below2' (w : World) (A B : Obj) : Below w.heap.size w ((w.alloc A).alloc B) := (below_alloc0 w A).alloc (by simp) B
/-- A part as a value. -/
abbrev partV (k n a : Int) : Value := .agg #[.int .i64 k, .int .i64 n, .int .i64 a]
set_option maxRecDepth 100000 in
set_option maxHeartbeats 2000000 in
theorem numbers_lt (k m : Nat) (n a : Int) (w : World) (hk : k < 7) (hm : pnm k = m) (h : LNums w) (m2 : m < 2) :
    Calls Tryd.prog 38 #[partV (k : Int) n a] w fun e w' => e = .returned (.tuple #[.slice (some ⟨w.heap.size + 1, 0, none⟩) m 2, .slice (some ⟨w.heap.size + 1, m, none⟩) (2 - m) (2 - m)]) ∧ w'.heap[w.heap.size + 1]? = some (.cells #[.int .i64 n, .int .i64 a] 3) ∧ Below w.heap.size w w' := by
  have hc := h k hk
  rw [hm] at hc
  have k7 : (k : Int) < 7 := by omega
  have m2' : (m : Int) ≤ 2 := by omega
  have hcc : ∀ A B, ((w.alloc A).alloc B).cell? ⟨1, k, none⟩ = some (.int .i64 (m : Int)) := fun A B => cell_al B (cell_al A hc)
  clear hc h hk hm
  have hne : ¬ 2 = m := by omega
  go_enter Tryd.func38, Tryd.ntmps38
  go_wp2
  go_quiet (fail)
  go_wp2
  go_ret2
  exact ⟨rfl, last2 w _ _, below_drewN (below2' w _ _) _⟩
set_option maxRecDepth 100000 in
set_option maxHeartbeats 2000000 in
theorem numbers_two (k m : Nat) (n a : Int) (w : World) (hk : k < 7) (hm : pnm k = m) (h : LNums w) (m2 : m = 2) :
    Calls Tryd.prog 38 #[partV (k : Int) n a] w fun e w' => e = .returned (.tuple #[.slice (some ⟨w.heap.size + 1, 0, none⟩) m 2, .slice (some ⟨w.heap.size + 1, 0, none⟩) (2 - m) (2 - m)]) ∧ w'.heap[w.heap.size + 1]? = some (.cells #[.int .i64 n, .int .i64 a] 3) ∧ Below w.heap.size w w' := by
  have hc := h k hk
  rw [hm] at hc
  have k7 : (k : Int) < 7 := by omega
  have m2' : (m : Int) ≤ 2 := by omega
  have hcc : ∀ A B, ((w.alloc A).alloc B).cell? ⟨1, k, none⟩ = some (.int .i64 (m : Int)) := fun A B => cell_al B (cell_al A hc)
  clear hc h hk hm
  subst m2
  go_enter Tryd.func38, Tryd.ntmps38
  go_wp2
  go_quiet (fail)
  go_wp2
  go_ret2
  exact ⟨rfl, last2 w _ _, below_drewN (below2' w _ _) _⟩
end Go.Proofs.YtjfegimgpkeleaaDoor
