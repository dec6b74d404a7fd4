/- The walks of the laws WordNumbers and WordMake. -/
import Derived.Test.YtlbhkaokpfljmaaDoorWdWorks
namespace Go.Proofs.YtlbhkaokpfljmaaDoor
open Go.RowKit
set_option maxHeartbeats 4000000 in
theorem wordNumbers_walk (n : Int) (w : World) : Calls Tryd.prog 5 #[.int .i64 n] w fun e w' => e = .returned (.bool true) ∧ Below w.heap.size w w' := by
  go_enter Tryd.func5, Tryd.ntmps5
  go_wp2_with (go_at_call 15; refine (pointer_any n _).mono ?_)
  rintro e w1 ⟨rfl, b1⟩
  go_wp2_with (go_at_call 16; refine (scalar_any n _).mono ?_)
  rintro e w2 ⟨rfl, b2⟩
  go_wp2_with (go_at_call 17; refine (rpointer_any n _).mono ?_)
  rintro e w3 ⟨rfl, b3⟩
  go_wp2_with (go_at_call 18; refine (rscalar_any n _).mono ?_)
  rintro e w4 ⟨rfl, b4⟩
  have z1 := b1.size
  have z2 := b2.size
  have z3 := b3.size
  have z4 := b4.size
  have b : Below w.heap.size w w4 := b1.trans ((b2.mono (by omega)).trans ((b3.mono (by omega)).trans (b4.mono (by omega))))
  have z : w.heap.size ≤ w4.heap.size := by omega
  clear b1 b2 b3 b4 z1 z2 z3 z4
  go_wp2_with (first | (go_at_call 13; refine (num_any _ _).mono ?_; rintro e w' ⟨rfl, rfl⟩) | (go_at_call 9; refine (works_any _).mono ?_))
  rintro e w5 ⟨rfl, b5⟩
  go_wp2
  go_ret
  exact ⟨rfl, b.trans (b5.mono z)⟩
set_option maxHeartbeats 4000000 in
theorem wordMake_walk (k : Int) (s : Bool) (v : Int) (w : World) : Calls Tryd.prog 4 #[.agg #[.int .i64 k, .bool s, .int .i64 v]] w fun e w' => e = .returned (.bool true) ∧ Below w.heap.size w w' := by
  go_enter Tryd.func4, Tryd.ntmps4
  go_wp2_with (go_at_call 11; refine (make_any k s v _).mono ?_)
  rintro e w1 ⟨rfl, b1⟩
  have c0 : w1.cell? ⟨w.heap.size, 0, none⟩ = some (.int .i64 k) := cell_new b1 0 _ rfl
  have c1 : w1.cell? ⟨w.heap.size, 1, none⟩ = some (.bool s) := cell_new b1 1 _ rfl
  have c2 : w1.cell? ⟨w.heap.size, 2, none⟩ = some (.int .i64 v) := cell_new b1 2 _ rfl
  have hbw : Below w.heap.size w w1 := ((Below.refl _ _).alloc (Nat.le_refl _) _).trans (b1.mono (by simp))
  have z1 := hbw.size
  clear b1
  go_wp2_with (go_at_call 14; refine (rmake_any k s v _).mono ?_)
  rintro e w2 ⟨rfl, b2⟩
  have b : Below w.heap.size w w2 := hbw.trans (b2.mono z1)
  have z : w.heap.size ≤ w2.heap.size := by have := b2.size; omega
  clear hbw b2 z1
  go_wp2_with (first | (go_at_call 13; refine (num_any _ _).mono ?_; rintro e w' ⟨rfl, rfl⟩) | (go_at_call 9; refine (works_any _).mono ?_))
  rintro e w5 ⟨rfl, b5⟩
  go_wp2
  go_ret
  exact ⟨rfl, b.trans (b5.mono z)⟩
end Go.Proofs.YtlbhkaokpfljmaaDoor
