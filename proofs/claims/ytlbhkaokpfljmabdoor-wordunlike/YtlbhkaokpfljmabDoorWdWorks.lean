/- The chapter's own rows: works answers true. -/
import Derived.Test.YtlbhkaokpfljmabDoorWdTextF
namespace Go.Proofs.YtlbhkaokpfljmabDoor
open Go.RowKit
theorem pointer_two (w : World) : Calls Tryd.prog 9 #[.int .i64 2] w fun e w' => e = .returned (.tuple #[.int .u64 16, .int .i64 0]) ∧ Below w.heap.size w w' :=
  (pointer_any 2 w).mono fun _ _ h => ⟨h.1.trans (ret_ie (by decide) (by decide)), h.2⟩
theorem scalar_zero (w : World) : Calls Tryd.prog 10 #[.int .i64 0] w fun e w' => e = .returned (.tuple #[.int .u64 4611686018427387908, .int .i64 0]) ∧ Below w.heap.size w w' :=
  (scalar_any 0 w).mono fun _ _ h => ⟨h.1.trans (ret_ie (by decide) (by decide)), h.2⟩
theorem read_one (w : World) : Calls Tryd.prog 11 #[.string { data := #[33, 64, 50] }] w fun e w' => e = .returned (.tuple #[.int .u64 17, .int .i64 0]) ∧ Below w.heap.size w w' :=
  (read_any _ w (by decide)).mono fun _ _ h => ⟨h.1.trans (ret_ie (by decide) (by decide)), h.2⟩
theorem read_two (w : World) : Calls Tryd.prog 11 #[.string { data := #[64, 48] }] w fun e w' => e = .returned (.tuple #[.int .u64 0, .int .i64 4]) ∧ Below w.heap.size w w' :=
  (read_any _ w (by decide)).mono fun _ _ h => ⟨h.1.trans (ret_ie (by decide) (by decide)), h.2⟩
theorem read_three (w : World) : Calls Tryd.prog 11 #[.string { data := #[48, 49] }] w fun e w' => e = .returned (.tuple #[.int .u64 0, .int .i64 2]) ∧ Below w.heap.size w w' :=
  (read_any _ w (by decide)).mono fun _ _ h => ⟨h.1.trans (ret_ie (by decide) (by decide)), h.2⟩
theorem of_17 (w : World) : Calls Tryd.prog 4 #[.int .u64 17] w fun e w' => e = .returned (.agg #[.int .i64 2, .bool true, .int .i64 2]) ∧ Below w.heap.size w w' :=
  (of_fn 17 w (by decide) (by decide)).mono fun _ _ h => ⟨h.1.trans (ret_word (by decide) (by decide) (by decide)), h.2⟩
theorem is_17 {k : Nat} {v : Int} (h : Wd.Is 17 k v) : k = 2 ∧ v = 2 := by
  obtain ⟨e1, e2, _⟩ := Wd.is_fun (by decide) h
  have a1 : Wd.ofK 17 = 2 := by decide
  have a2 : Wd.ofV 17 = 2 := by decide
  omega
theorem text_17 (w : World) : Calls Tryd.prog 6 #[.int .u64 17] w fun e w' => e = .returned (.string { data := #[33, 64, 50] }) ∧ Below w.heap.size w w' := by
  refine (text_any 17 w (by decide) (by decide) (fun k v h => .inl (by have := is_17 h; omega))).mono ?_
  rintro e w' ⟨k, v, rfl, hIs, hb⟩
  obtain ⟨rfl, rfl⟩ := is_17 hIs
  refine ⟨ret_str ?_, hb⟩
  simp [txS, txB, Lib.itoa, Lib.decDigits]
set_option maxHeartbeats 4000000 in
theorem works_any (w : World) : Calls Tryd.prog 5 #[] w fun e w' => e = .returned (.bool true) ∧ Below w.heap.size w w' := by
  go_enter Tryd.func5, Tryd.ntmps5
  go_wp2_with (go_at_call 9; refine (pointer_two _).mono ?_)
  rintro e w1 ⟨rfl, b1⟩
  go_wp2_with (go_at_call 10; refine (scalar_zero _).mono ?_)
  rintro e w2 ⟨rfl, b2⟩
  go_wp2_with (go_at_call 11; refine (read_one _).mono ?_)
  rintro e w3 ⟨rfl, b3⟩
  go_wp2_with (go_at_call 11; refine (read_two _).mono ?_)
  rintro e w4 ⟨rfl, b4⟩
  go_wp2_with (go_at_call 11; refine (read_three _).mono ?_)
  rintro e w5 ⟨rfl, b5⟩
  go_wp2_with (go_at_call 4; refine (of_17 _).mono ?_)
  rintro e w6 ⟨rfl, b6⟩
  have z1 := b1.size
  have z2 := b2.size
  have z3 := b3.size
  have z4 := b4.size
  have z5 := b5.size
  have z6 := b6.size
  have b : Below w.heap.size w w6 := b1.trans ((b2.mono (by omega)).trans ((b3.mono (by omega)).trans ((b4.mono (by omega)).trans ((b5.mono (by omega)).trans (b6.mono (by omega))))))
  have z : w.heap.size ≤ w6.heap.size := by omega
  clear b1 b2 b3 b4 b5 b6 z1 z2 z3 z4 z5 z6
  go_wp2_with (first | (go_at_call 12; refine (num_any _ _).mono ?_; rintro e w' ⟨rfl, rfl⟩) | (go_at_call 6; refine (text_17 _).mono ?_))
  rintro e w7 ⟨rfl, b7⟩
  go_wp2_with (go_at_call 13; refine (empty_any _).mono ?_; rintro e w' ⟨rfl, rfl⟩)
  go_ret
  exact ⟨rfl, (b.alloc z _).trans (b7.mono (by simp; omega))⟩
end Go.Proofs.YtlbhkaokpfljmabDoor
