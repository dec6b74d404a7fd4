/- The laws' own num and works. -/
import Derived.Test.YtlmkbnebpaopeabArCall
namespace Go.Proofs.Ytlmkbnebpaopeab
open Go.RowKit
theorem anum_any (e : Int) (w : World) : Calls Try.prog 10 #[.int .i64 e] w fun r w' => r = .returned (.int .i64 e) ∧ w' = w := by
  go_enter Try.func10, Try.ntmps10
  go_wp2
  go_ret
  exact ⟨rfl, rfl⟩
set_option maxHeartbeats 4000000 in
set_option maxRecDepth 100000 in
theorem aworks_any (w : World) : Calls Try.prog 15 #[] w fun r w' => r = .returned (.bool true) ∧ Below w.heap.size w w' := by
  have cn := New_yes 3 w (by omega) (by omega)
  have ha := made_ar w (List.replicate 3 0) (InW.zeros _) (by decide) (by decide)
  have hb := made_below w (List.replicate 3 0)
  have hz := made_size w (List.replicate 3 0)
  generalize made w (List.replicate 3 0) = w1 at *
  have HA := hid ha
  have HB := hid hb
  have HZ := hid hz
  clear ha hb hz
  go_enter Try.func15, Try.ntmps15
  go_wp2_with (go_at_call 9; refine cn.mono ?_; rintro e w' ⟨rfl, hw⟩; rw [hw]; clear hw)
  go_wp2_with (go_at_call 6; refine (Cas_at (w.heap.size + 1) w.heap.size _ [0, 7, 0] 1 0 7 0 0 _ HA.out (by omega) (by omega) (hid (by decide))).mono ?_)
  rintro e w2 ⟨rfl, a2, g2⟩
  go_wp2_with (go_at_call 6; refine (Cas_at (w.heap.size + 1) w.heap.size _ [0, 7, 0] 1 0 8 7 0 _ a2 (by omega) (by omega) (hid (by decide))).mono ?_)
  rintro e w3 ⟨rfl, a3, g3⟩
  go_wp2_with (go_at_call 4; refine (Load_at (w.heap.size + 1) w.heap.size _ [0, 7, 0] 1 7 0 _ a3 (hid (by decide))).mono ?_)
  rintro e w4 ⟨rfl, a4, g4⟩
  go_wp2_with (go_at_call 4; refine (Load_at (w.heap.size + 1) w.heap.size _ [0, 7, 0] 3 0 4 _ a4 (hid (by decide))).mono ?_)
  rintro e w5 ⟨rfl, a5, g5⟩
  go_wp2_with (go_at_call 7; refine (Do_at (w.heap.size + 1) w.heap.size _ [0, 7, 0] 1 1 0 5 0 2 _ a5 (by omega) (by omega) (hid (by decide))).mono ?_)
  rintro e w6 ⟨rfl, a6, g6⟩
  have cl := Len_at _ _ _ _ w6 a6.faces
  have HG := hid (grown_trans g2 (grown_trans g3 (grown_trans g4 (grown_trans g5 g6))))
  clear a2 a3 a4 a5 a6 g2 g3 g4 g5 g6
  go_wp2_with (first | (go_at_call 10; refine (anum_any _ _).mono ?_; rintro e w' ⟨rfl, hw⟩; rw [hw]; clear hw) | (go_at_call 11; refine cl.mono ?_; rintro e w' ⟨rfl, hw⟩; rw [hw]; clear hw))
  go_ret
  exact ⟨rfl, below_grown HB.out HB.out.size HG.out (Nat.le_refl _)⟩
end Go.Proofs.Ytlmkbnebpaopeab
