/- The walks of the laws HeadMake, HeadUnlike, HeadMarks. -/
import Derived.Test.YtjjbdfabckdogaaDoorHdWorks
namespace Go.Proofs.YtjjbdfabckdogaaDoor
open Go.RowKit Go.Hd Go.Sh
set_option maxHeartbeats 4000000 in
theorem headMake_no (s m : Int) (w : World) (hN : Names w) (h : ok s m = false) : Calls Tryd.prog 3 #[.agg #[.int .i64 s, .int .i64 m]] w fun e w' => e = .returned (.bool true) ∧ Below w.heap.size w w' := by
  have HN := hid hN
  have cM := fun W => make_no s m W h
  have cR := fun W => rmake_no s m W h
  clear hN h
  go_enter Tryd.func3, Tryd.ntmps3
  go_wp2_with (go_at_call 9; refine (cM _).mono ?_)
  rintro e w1 ⟨rfl, b1⟩
  have R1 := hid (row1 b1)
  have c0 := at_row R1.out 0 rfl
  have c1 := at_row R1.out 1 rfl
  have B1 := hid (bel1 b1)
  have Z1 := hid (siz1 b1)
  clear b1
  go_wp2_with (go_at_call 10; refine (cR _).mono ?_)
  rintro e w2 ⟨rfl, b2⟩
  have B2 := hid (B1.out.trans (b2.mono B1.out.size))
  have R2 := hid ((b2.block _ Z1.out).trans R1.out)
  have Z2 := hid (Nat.lt_of_lt_of_le Z1.out b2.size)
  clear b2 B1 R1 Z1 c0 c1
  go_wp2_with (go_at_call 11; refine (of_at 0 0 0 false _ (by decide) (by decide) (by decide)).mono ?_)
  rintro e w3 ⟨rfl, b3⟩
  have B3 := hid (B2.out.trans (b3.mono B2.out.size))
  clear b3 B2
  go_wp2_with (first | (go_at_call 12; refine (num_any _ _).mono ?_; rintro e w9 ⟨rfl, hw⟩; rw [hw]; clear hw) | (go_at_call 13; refine (works_any _ (HN.out.below (B3.out.alloc B3.out.size _))).mono ?_))
  rintro e w4 ⟨rfl, b4⟩
  go_wp2
  go_ret
  exact ⟨rfl, B3.out.trans ((bel1 b4).mono B3.out.size)⟩
set_option maxHeartbeats 4000000 in
theorem headMake_yes (s m : Int) (w : World) (hN : Names w) (h : ok s m = true) : Calls Tryd.prog 3 #[.agg #[.int .i64 s, .int .i64 m]] w fun e w' => e = .returned (.bool true) ∧ Below w.heap.size w w' := by
  have HN := hid hN
  have cM := fun W => make_yes s m W h
  have cR := fun W => rmake_yes s m W h
  obtain ⟨i1, i2, i3, i4, i5⟩ := isH_wd h
  have cO := fun W => of_yes (wd s m) W i4 (by omega) i1
  rw [i2, i3] at cO
  clear hN h i1 i2 i3 i4 i5
  generalize wd s m = x at *
  go_enter Tryd.func3, Tryd.ntmps3
  go_wp2_with (go_at_call 9; refine (cM _).mono ?_)
  rintro e w1 ⟨rfl, b1⟩
  have R1 := hid (row1 b1)
  have c0 := at_row R1.out 0 rfl
  have c1 := at_row R1.out 1 rfl
  have B1 := hid (bel1 b1)
  have Z1 := hid (siz1 b1)
  clear b1
  go_wp2_with (go_at_call 10; refine (cR _).mono ?_)
  rintro e w2 ⟨rfl, b2⟩
  have B2 := hid (B1.out.trans (b2.mono B1.out.size))
  have R2 := hid ((b2.block _ Z1.out).trans R1.out)
  have Z2 := hid (Nat.lt_of_lt_of_le Z1.out b2.size)
  clear b2 B1 R1 Z1 c0 c1
  go_wp2_with (go_at_call 11; refine (cO _).mono ?_)
  rintro e w3 ⟨rfl, b3⟩
  have B3 := hid (B2.out.trans (b3.mono B2.out.size))
  have R3 := hid ((b3.block _ Z2.out).trans R2.out)
  have Z3 := Nat.lt_of_lt_of_le Z2.out b3.size
  have c0 := at_row R3.out 0 rfl
  have c1 := at_row R3.out 1 rfl
  clear b3 B2 R2 Z2 R3
  go_wp2_with (first | (go_at_call 12; refine (num_any _ _).mono ?_; rintro e w9 ⟨rfl, hw⟩; rw [hw]; clear hw) | (go_at_call 13; refine (works_any _ (HN.out.below (B3.out.alloc B3.out.size _))).mono ?_))
  rintro e w4 ⟨rfl, b4⟩
  go_wp2
  go_ret
  exact ⟨rfl, B3.out.trans ((bel1 b4).mono B3.out.size)⟩
theorem headMake_walk (s m : Int) (w : World) (hN : Names w) : Calls Tryd.prog 3 #[.agg #[.int .i64 s, .int .i64 m]] w fun e w' => e = .returned (.bool true) ∧ Below w.heap.size w w' := by
  by_cases h : ok s m = true
  · exact headMake_yes s m w hN h
  · exact headMake_no s m w hN (by simpa using h)
end Go.Proofs.YtjjbdfabckdogaaDoor
