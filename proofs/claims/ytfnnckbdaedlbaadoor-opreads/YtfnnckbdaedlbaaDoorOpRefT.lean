/- the document's functions of layer 8: Told. -/
import Derived.Test.YtfnnckbdaedlbaaDoorOpRefB
import Derived.Test.YtfnnckbdaedlbaaDoorOpTold
import Derived.Test.YtfnnckbdaedlbaaDoorWdRefOn
set_option linter.unusedVariables false
namespace Go.Proofs.YtfnnckbdaedlbaaDoor
open Go.RowKit Go.Oq Go.Sort Go.Sh
theorem alloc_cell {W : World} {g : Nat} {cs : Array Value} {t : TypeId} (h : W.heap[g]? = some (.cells cs t)) (o : Obj) : (W.alloc o).heap[g]? = some (.cells cs t) :=
  (Below.heap_alloc W o _ (Array.getElem?_eq_some_iff.1 h).1).trans h
set_option maxRecDepth 100000 in
set_option maxHeartbeats 4000000 in
theorem rTold_no (f : Nat → Int) (e0 : Int) (b : Bool) (v : Int) (w : World) (hb : bare f = false) :
    Calls Tryd.prog 21 #[opV f, outV e0 b v] w fun e w' => e = .returned (.tuple #[.string ⟨#[]⟩, .int .i64 180]) ∧ Below w.heap.size w w' := by
  have kk := fun W => rBare_any f W
  rw [hb] at kk
  have KK := hid kk
  clear hb kk
  go_enter Tryd.func21, Tryd.ntmps21
  go_wp2_with (go_at_call 16; refine (KK.out _).mono ?_)
  rintro e w2 ⟨rfl, b2⟩
  have B2 := hid (bel2 b2)
  clear b2
  go_wp2
  go_ret2
  exact ⟨rfl, B2.out⟩
set_option maxRecDepth 100000 in
set_option maxHeartbeats 4000000 in
theorem rTold_err (f : Nat → Int) (e0 : Int) (b : Bool) (v : Int) (w : World) (h0 : -9223372036854775808 ≤ e0) (h1 : e0 ≤ 9223372036854775807) (hb : bare f = true) (he : (e0 != 0) = true) :
    Calls Tryd.prog 21 #[opV f, outV e0 b v] w fun e w' => e = .returned (.tuple #[.string (⟨#[101, 114, 114, 111, 114, 32]⟩ ++ dgB e0), .int .i64 0]) ∧ Below w.heap.size w w' := by
  have kk := fun W => rBare_any f W
  rw [hb] at kk
  have KK := hid kk
  have hsz := dgB_size h0 h1
  obtain ⟨S, hS⟩ : ∃ S, S = dgB e0 := ⟨_, rfl⟩
  rw [← hS] at hsz ⊢
  have NN := hid (fun W => rnumberT_any e0 S W h0 h1 (hid hS.symm))
  clear hb kk hS h0 h1
  go_enter Tryd.func21, Tryd.ntmps21
  go_wp2_with (go_at_call 16; refine (KK.out _).mono ?_)
  rintro e w2 ⟨rfl, b2⟩
  have d0 := at_row (row2b b2) 0 rfl
  have B2 := hid (bel2 b2)
  clear b2
  go_wp2_with (go_at_call 42; refine (NN.out _).mono ?_)
  rintro e w5 ⟨rfl, b5⟩
  have B5 := hid (B2.out.trans (b5.mono B2.out.size))
  clear b5
  go_wp2
  go_ret2
  exact ⟨rfl, B5.out⟩
def noyes : Array Value := #[.string ⟨#[110, 111]⟩, .string ⟨#[121, 101, 115]⟩]
def nothob : Array Value := #[.string ⟨#[110, 111, 116, 104, 105, 110, 103]⟩, .string ⟨#[111, 98, 106, 101, 99, 116]⟩]
set_option maxRecDepth 100000 in
set_option maxHeartbeats 4000000 in
theorem rTold_rest (f : Nat → Int) (b : Bool) (v : Int) (w : World) (hb : bare f = true) (e2 : (f 0 == 2) = false) (e4 : (f 0 == 4) = false) (e7 : (f 0 == 7) = false) (e8 : (f 0 == 8) = false) (e5 : (f 0 == 5) = false) :
    Calls Tryd.prog 21 #[opV f, outV 0 b v] w fun e w' => e = .returned (.tuple #[.string ⟨#[111, 107]⟩, .int .i64 0]) ∧ Below w.heap.size w w' := by
  have kk := fun W => rBare_any f W
  rw [hb] at kk
  have KK := hid kk
  clear hb kk
  go_enter Tryd.func21, Tryd.ntmps21
  go_wp2_with (go_at_call 16; refine (KK.out _).mono ?_)
  rintro e w2 ⟨rfl, b2⟩
  have R0 := row2a b2
  have R1 := row2b b2
  have B2 := hid (bel2 b2)
  clear b2
  have z0 := at_row R1 0 rfl
  have R0' := alloc_cell R0 (.cells noyes 9)
  have R1' := alloc_cell R1 (.cells noyes 9)
  have B3 := hid (B2.out.alloc B2.out.size (.cells noyes 9))
  have c0 := at_row R0' 0 rfl
  have d1 := at_row R1' 1 rfl
  have d2 := at_row R1' 2 rfl
  have n0 := cell_last w2 noyes 9 0 _ rfl
  have n1 := cell_last w2 noyes 9 1 _ rfl
  clear R0 R1 R0' R1'
  go_wp2_with (refine Great.wpList_buildSliceTo rfl 78 9 2 _ rfl w2.heap.size rfl (some 17) rfl Tryd.underlying78 noyes (by kernel_rfl) ?_)
  go_ret2
  exact ⟨rfl, B3.out⟩
set_option maxRecDepth 100000 in
set_option maxHeartbeats 4000000 in
theorem rTold_obj (f : Nat → Int) (v : Int) (w : World) (hb : bare f = true) (e2 : (f 0 == 2) = true) (e4 : (f 0 == 4) = false) (e7 : (f 0 == 7) = false) (e8 : (f 0 == 8) = false) (e5 : (f 0 == 5) = false) :
    Calls Tryd.prog 21 #[opV f, outV 0 true v] w fun e w' => e = .returned (.tuple #[.string ⟨#[111, 98, 106, 101, 99, 116]⟩, .int .i64 0]) ∧ Below w.heap.size w w' := by
  have kk := fun W => rBare_any f W
  rw [hb] at kk
  have KK := hid kk
  clear hb kk
  go_enter Tryd.func21, Tryd.ntmps21
  go_wp2_with (go_at_call 16; refine (KK.out _).mono ?_)
  rintro e w2 ⟨rfl, b2⟩
  have R0 := row2a b2
  have R1 := row2b b2
  have B2 := hid (bel2 b2)
  clear b2
  have z0 := at_row R1 0 rfl
  have R0' := alloc_cell R0 (.cells noyes 9)
  have R1' := alloc_cell R1 (.cells noyes 9)
  have B3 := hid (B2.out.alloc B2.out.size (.cells noyes 9))
  have c0 := at_row R0' 0 rfl
  have d1 := at_row R1' 1 rfl
  have d2 := at_row R1' 2 rfl
  have n0 := cell_last w2 noyes 9 0 _ rfl
  have n1 := cell_last w2 noyes 9 1 _ rfl
  have R0'' := alloc_cell R0' (.cells nothob 9)
  have R1'' := alloc_cell R1' (.cells nothob 9)
  have B4 := hid (B3.out.alloc B3.out.size (.cells nothob 9))
  have cc0 := at_row R0'' 0 rfl
  have dd1 := at_row R1'' 1 rfl
  have m0 := cell_last (w2.alloc (.cells noyes 9)) nothob 9 0 _ rfl
  have m1 := cell_last (w2.alloc (.cells noyes 9)) nothob 9 1 _ rfl
  have hz := size_alloc w2 (.cells noyes 9)
  rw [hz] at m0 m1
  clear hz
  clear R0'' R1'' R0 R1 R0' R1'
  go_wp2_with (first | (refine Great.wpList_buildSliceTo rfl 78 9 2 _ rfl w2.heap.size rfl (some 17) rfl Tryd.underlying78 noyes (by kernel_rfl) ?_) | (refine Great.wpList_buildSliceTo rfl 78 9 2 _ rfl (w2.heap.size + 1) (size_alloc w2 _) (some 21) rfl Tryd.underlying78 nothob (by kernel_rfl) ?_))
  go_ret2
  exact ⟨rfl, B4.out⟩
set_option maxRecDepth 100000 in
set_option maxHeartbeats 4000000 in
theorem rTold_nob (f : Nat → Int) (v : Int) (w : World) (hb : bare f = true) (e2 : (f 0 == 2) = true) (e4 : (f 0 == 4) = false) (e7 : (f 0 == 7) = false) (e8 : (f 0 == 8) = false) (e5 : (f 0 == 5) = false) :
    Calls Tryd.prog 21 #[opV f, outV 0 false v] w fun e w' => e = .returned (.tuple #[.string ⟨#[110, 111, 116, 104, 105, 110, 103]⟩, .int .i64 0]) ∧ Below w.heap.size w w' := by
  have kk := fun W => rBare_any f W
  rw [hb] at kk
  have KK := hid kk
  clear hb kk
  go_enter Tryd.func21, Tryd.ntmps21
  go_wp2_with (go_at_call 16; refine (KK.out _).mono ?_)
  rintro e w2 ⟨rfl, b2⟩
  have R0 := row2a b2
  have R1 := row2b b2
  have B2 := hid (bel2 b2)
  clear b2
  have z0 := at_row R1 0 rfl
  have R0' := alloc_cell R0 (.cells noyes 9)
  have R1' := alloc_cell R1 (.cells noyes 9)
  have B3 := hid (B2.out.alloc B2.out.size (.cells noyes 9))
  have c0 := at_row R0' 0 rfl
  have d1 := at_row R1' 1 rfl
  have d2 := at_row R1' 2 rfl
  have n0 := cell_last w2 noyes 9 0 _ rfl
  have n1 := cell_last w2 noyes 9 1 _ rfl
  have R0'' := alloc_cell R0' (.cells nothob 9)
  have R1'' := alloc_cell R1' (.cells nothob 9)
  have B4 := hid (B3.out.alloc B3.out.size (.cells nothob 9))
  have cc0 := at_row R0'' 0 rfl
  have dd1 := at_row R1'' 1 rfl
  have m0 := cell_last (w2.alloc (.cells noyes 9)) nothob 9 0 _ rfl
  have m1 := cell_last (w2.alloc (.cells noyes 9)) nothob 9 1 _ rfl
  have hz := size_alloc w2 (.cells noyes 9)
  rw [hz] at m0 m1
  clear hz
  clear R0'' R1'' R0 R1 R0' R1'
  go_wp2_with (first | (refine Great.wpList_buildSliceTo rfl 78 9 2 _ rfl w2.heap.size rfl (some 17) rfl Tryd.underlying78 noyes (by kernel_rfl) ?_) | (refine Great.wpList_buildSliceTo rfl 78 9 2 _ rfl (w2.heap.size + 1) (size_alloc w2 _) (some 21) rfl Tryd.underlying78 nothob (by kernel_rfl) ?_))
  go_ret2
  exact ⟨rfl, B4.out⟩
set_option maxRecDepth 100000 in
set_option maxHeartbeats 4000000 in
theorem rTold_y4 (f : Nat → Int) (v : Int) (w : World) (hb : bare f = true) (e2 : (f 0 == 2) = false) (e4 : (f 0 == 4) = true) (e7 : (f 0 == 7) = false) (e8 : (f 0 == 8) = false) (e5 : (f 0 == 5) = false) :
    Calls Tryd.prog 21 #[opV f, outV 0 true v] w fun e w' => e = .returned (.tuple #[.string ⟨#[121, 101, 115]⟩, .int .i64 0]) ∧ Below w.heap.size w w' := by
  have kk := fun W => rBare_any f W
  rw [hb] at kk
  have KK := hid kk
  clear hb kk
  go_enter Tryd.func21, Tryd.ntmps21
  go_wp2_with (go_at_call 16; refine (KK.out _).mono ?_)
  rintro e w2 ⟨rfl, b2⟩
  have R0 := row2a b2
  have R1 := row2b b2
  have B2 := hid (bel2 b2)
  clear b2
  have z0 := at_row R1 0 rfl
  have R0' := alloc_cell R0 (.cells noyes 9)
  have R1' := alloc_cell R1 (.cells noyes 9)
  have B3 := hid (B2.out.alloc B2.out.size (.cells noyes 9))
  have c0 := at_row R0' 0 rfl
  have d1 := at_row R1' 1 rfl
  have d2 := at_row R1' 2 rfl
  have n0 := cell_last w2 noyes 9 0 _ rfl
  have n1 := cell_last w2 noyes 9 1 _ rfl
  clear R0 R1 R0' R1'
  go_wp2_with (refine Great.wpList_buildSliceTo rfl 78 9 2 _ rfl w2.heap.size rfl (some 17) rfl Tryd.underlying78 noyes (by kernel_rfl) ?_)
  go_ret2
  exact ⟨rfl, B3.out⟩
set_option maxRecDepth 100000 in
set_option maxHeartbeats 4000000 in
theorem rTold_n4 (f : Nat → Int) (v : Int) (w : World) (hb : bare f = true) (e2 : (f 0 == 2) = false) (e4 : (f 0 == 4) = true) (e7 : (f 0 == 7) = false) (e8 : (f 0 == 8) = false) (e5 : (f 0 == 5) = false) :
    Calls Tryd.prog 21 #[opV f, outV 0 false v] w fun e w' => e = .returned (.tuple #[.string ⟨#[110, 111]⟩, .int .i64 0]) ∧ Below w.heap.size w w' := by
  have kk := fun W => rBare_any f W
  rw [hb] at kk
  have KK := hid kk
  clear hb kk
  go_enter Tryd.func21, Tryd.ntmps21
  go_wp2_with (go_at_call 16; refine (KK.out _).mono ?_)
  rintro e w2 ⟨rfl, b2⟩
  have R0 := row2a b2
  have R1 := row2b b2
  have B2 := hid (bel2 b2)
  clear b2
  have z0 := at_row R1 0 rfl
  have R0' := alloc_cell R0 (.cells noyes 9)
  have R1' := alloc_cell R1 (.cells noyes 9)
  have B3 := hid (B2.out.alloc B2.out.size (.cells noyes 9))
  have c0 := at_row R0' 0 rfl
  have d1 := at_row R1' 1 rfl
  have d2 := at_row R1' 2 rfl
  have n0 := cell_last w2 noyes 9 0 _ rfl
  have n1 := cell_last w2 noyes 9 1 _ rfl
  clear R0 R1 R0' R1'
  go_wp2_with (refine Great.wpList_buildSliceTo rfl 78 9 2 _ rfl w2.heap.size rfl (some 17) rfl Tryd.underlying78 noyes (by kernel_rfl) ?_)
  go_ret2
  exact ⟨rfl, B3.out⟩
set_option maxRecDepth 100000 in
set_option maxHeartbeats 4000000 in
theorem rTold_y7 (f : Nat → Int) (v : Int) (w : World) (hb : bare f = true) (e2 : (f 0 == 2) = false) (e4 : (f 0 == 4) = false) (e7 : (f 0 == 7) = true) (e8 : (f 0 == 8) = false) (e5 : (f 0 == 5) = false) :
    Calls Tryd.prog 21 #[opV f, outV 0 true v] w fun e w' => e = .returned (.tuple #[.string ⟨#[121, 101, 115]⟩, .int .i64 0]) ∧ Below w.heap.size w w' := by
  have kk := fun W => rBare_any f W
  rw [hb] at kk
  have KK := hid kk
  clear hb kk
  go_enter Tryd.func21, Tryd.ntmps21
  go_wp2_with (go_at_call 16; refine (KK.out _).mono ?_)
  rintro e w2 ⟨rfl, b2⟩
  have R0 := row2a b2
  have R1 := row2b b2
  have B2 := hid (bel2 b2)
  clear b2
  have z0 := at_row R1 0 rfl
  have R0' := alloc_cell R0 (.cells noyes 9)
  have R1' := alloc_cell R1 (.cells noyes 9)
  have B3 := hid (B2.out.alloc B2.out.size (.cells noyes 9))
  have c0 := at_row R0' 0 rfl
  have d1 := at_row R1' 1 rfl
  have d2 := at_row R1' 2 rfl
  have n0 := cell_last w2 noyes 9 0 _ rfl
  have n1 := cell_last w2 noyes 9 1 _ rfl
  clear R0 R1 R0' R1'
  go_wp2_with (refine Great.wpList_buildSliceTo rfl 78 9 2 _ rfl w2.heap.size rfl (some 17) rfl Tryd.underlying78 noyes (by kernel_rfl) ?_)
  go_ret2
  exact ⟨rfl, B3.out⟩
set_option maxRecDepth 100000 in
set_option maxHeartbeats 4000000 in
theorem rTold_n7 (f : Nat → Int) (v : Int) (w : World) (hb : bare f = true) (e2 : (f 0 == 2) = false) (e4 : (f 0 == 4) = false) (e7 : (f 0 == 7) = true) (e8 : (f 0 == 8) = false) (e5 : (f 0 == 5) = false) :
    Calls Tryd.prog 21 #[opV f, outV 0 false v] w fun e w' => e = .returned (.tuple #[.string ⟨#[110, 111]⟩, .int .i64 0]) ∧ Below w.heap.size w w' := by
  have kk := fun W => rBare_any f W
  rw [hb] at kk
  have KK := hid kk
  clear hb kk
  go_enter Tryd.func21, Tryd.ntmps21
  go_wp2_with (go_at_call 16; refine (KK.out _).mono ?_)
  rintro e w2 ⟨rfl, b2⟩
  have R0 := row2a b2
  have R1 := row2b b2
  have B2 := hid (bel2 b2)
  clear b2
  have z0 := at_row R1 0 rfl
  have R0' := alloc_cell R0 (.cells noyes 9)
  have R1' := alloc_cell R1 (.cells noyes 9)
  have B3 := hid (B2.out.alloc B2.out.size (.cells noyes 9))
  have c0 := at_row R0' 0 rfl
  have d1 := at_row R1' 1 rfl
  have d2 := at_row R1' 2 rfl
  have n0 := cell_last w2 noyes 9 0 _ rfl
  have n1 := cell_last w2 noyes 9 1 _ rfl
  clear R0 R1 R0' R1'
  go_wp2_with (refine Great.wpList_buildSliceTo rfl 78 9 2 _ rfl w2.heap.size rfl (some 17) rfl Tryd.underlying78 noyes (by kernel_rfl) ?_)
  go_ret2
  exact ⟨rfl, B3.out⟩
set_option maxRecDepth 100000 in
set_option maxHeartbeats 4000000 in
theorem rTold_y8 (f : Nat → Int) (v : Int) (w : World) (hb : bare f = true) (e2 : (f 0 == 2) = false) (e4 : (f 0 == 4) = false) (e7 : (f 0 == 7) = false) (e8 : (f 0 == 8) = true) (e5 : (f 0 == 5) = false) :
    Calls Tryd.prog 21 #[opV f, outV 0 true v] w fun e w' => e = .returned (.tuple #[.string ⟨#[121, 101, 115]⟩, .int .i64 0]) ∧ Below w.heap.size w w' := by
  have kk := fun W => rBare_any f W
  rw [hb] at kk
  have KK := hid kk
  clear hb kk
  go_enter Tryd.func21, Tryd.ntmps21
  go_wp2_with (go_at_call 16; refine (KK.out _).mono ?_)
  rintro e w2 ⟨rfl, b2⟩
  have R0 := row2a b2
  have R1 := row2b b2
  have B2 := hid (bel2 b2)
  clear b2
  have z0 := at_row R1 0 rfl
  have R0' := alloc_cell R0 (.cells noyes 9)
  have R1' := alloc_cell R1 (.cells noyes 9)
  have B3 := hid (B2.out.alloc B2.out.size (.cells noyes 9))
  have c0 := at_row R0' 0 rfl
  have d1 := at_row R1' 1 rfl
  have d2 := at_row R1' 2 rfl
  have n0 := cell_last w2 noyes 9 0 _ rfl
  have n1 := cell_last w2 noyes 9 1 _ rfl
  clear R0 R1 R0' R1'
  go_wp2_with (refine Great.wpList_buildSliceTo rfl 78 9 2 _ rfl w2.heap.size rfl (some 17) rfl Tryd.underlying78 noyes (by kernel_rfl) ?_)
  go_ret2
  exact ⟨rfl, B3.out⟩
set_option maxRecDepth 100000 in
set_option maxHeartbeats 4000000 in
theorem rTold_n8 (f : Nat → Int) (v : Int) (w : World) (hb : bare f = true) (e2 : (f 0 == 2) = false) (e4 : (f 0 == 4) = false) (e7 : (f 0 == 7) = false) (e8 : (f 0 == 8) = true) (e5 : (f 0 == 5) = false) :
    Calls Tryd.prog 21 #[opV f, outV 0 false v] w fun e w' => e = .returned (.tuple #[.string ⟨#[110, 111]⟩, .int .i64 0]) ∧ Below w.heap.size w w' := by
  have kk := fun W => rBare_any f W
  rw [hb] at kk
  have KK := hid kk
  clear hb kk
  go_enter Tryd.func21, Tryd.ntmps21
  go_wp2_with (go_at_call 16; refine (KK.out _).mono ?_)
  rintro e w2 ⟨rfl, b2⟩
  have R0 := row2a b2
  have R1 := row2b b2
  have B2 := hid (bel2 b2)
  clear b2
  have z0 := at_row R1 0 rfl
  have R0' := alloc_cell R0 (.cells noyes 9)
  have R1' := alloc_cell R1 (.cells noyes 9)
  have B3 := hid (B2.out.alloc B2.out.size (.cells noyes 9))
  have c0 := at_row R0' 0 rfl
  have d1 := at_row R1' 1 rfl
  have d2 := at_row R1' 2 rfl
  have n0 := cell_last w2 noyes 9 0 _ rfl
  have n1 := cell_last w2 noyes 9 1 _ rfl
  clear R0 R1 R0' R1'
  go_wp2_with (refine Great.wpList_buildSliceTo rfl 78 9 2 _ rfl w2.heap.size rfl (some 17) rfl Tryd.underlying78 noyes (by kernel_rfl) ?_)
  go_ret2
  exact ⟨rfl, B3.out⟩
set_option maxRecDepth 100000 in
set_option maxHeartbeats 4000000 in
theorem rTold_v (f : Nat → Int) (b : Bool) (v : Int) (w : World) (hb : bare f = true) (e2 : (f 0 == 2) = false) (e4 : (f 0 == 4) = false) (e7 : (f 0 == 7) = false) (e8 : (f 0 == 8) = false) (e5 : (f 0 == 5) = true) (h0 : -9223372036854775808 ≤ v) (h1 : v ≤ 9223372036854775807) :
    Calls Tryd.prog 21 #[opV f, outV 0 b v] w fun e w' => e = .returned (.tuple #[.string (dgB v), .int .i64 0]) ∧ Below w.heap.size w w' := by
  have kk := fun W => rBare_any f W
  rw [hb] at kk
  have KK := hid kk
  obtain ⟨S, hS⟩ : ∃ S, S = dgB v := ⟨_, rfl⟩
  have NN := hid (fun W => rnumberT_any v S W h0 h1 (hid hS.symm))
  rw [← hS]
  clear hb kk hS h0 h1
  go_enter Tryd.func21, Tryd.ntmps21
  go_wp2_with (go_at_call 16; refine (KK.out _).mono ?_)
  rintro e w2 ⟨rfl, b2⟩
  have R0 := row2a b2
  have R1 := row2b b2
  have B2 := hid (bel2 b2)
  clear b2
  have z0 := at_row R1 0 rfl
  have R0' := alloc_cell R0 (.cells noyes 9)
  have R1' := alloc_cell R1 (.cells noyes 9)
  have B3 := hid (B2.out.alloc B2.out.size (.cells noyes 9))
  have c0 := at_row R0' 0 rfl
  have d1 := at_row R1' 1 rfl
  have d2 := at_row R1' 2 rfl
  have n0 := cell_last w2 noyes 9 0 _ rfl
  have n1 := cell_last w2 noyes 9 1 _ rfl
  clear R0 R1 R0' R1'
  go_wp2_with (first | (refine Great.wpList_buildSliceTo rfl 78 9 2 _ rfl w2.heap.size rfl (some 17) rfl Tryd.underlying78 noyes (by kernel_rfl) ?_) | (go_at_call 42; refine (NN.out _).mono ?_; rintro e w5 ⟨rfl, b5⟩))
  go_ret2
  exact ⟨rfl, B3.out.trans (b5.mono B3.out.size)⟩
theorem eb {x : Int} (K : Nat) (h : x = (K : Int)) (i : Nat) : (x == (i : Int)) = (K == i) := by
  rw [h, Bool.eq_iff_iff, beq_iff_eq, beq_iff_eq]; omega
theorem rTold_ok (K : Nat) (f : Nat → Int) (b : Bool) (v : Int) (w : World) (h0 : -9223372036854775808 ≤ v) (h1 : v ≤ 9223372036854775807) (hb : bare f = true) (hK : f 0 = (K : Int)) :
    Calls Tryd.prog 21 #[opV f, outV 0 b v] w fun e w' => e = .returned (.tuple #[.string (tdl K b v), .int .i64 0]) ∧ Below w.heap.size w w' := by
  have hk := kin_bd ((bare_iff f).1 hb).1
  have k1 : 1 ≤ K := by omega
  have k2 : K ≤ 11 := by omega
  have e2 := eb K hK 2
  have e4 := eb K hK 4
  have e7 := eb K hK 7
  have e8 := eb K hK 8
  have e5 := eb K hK 5
  rcases eleven k1 k2 with rfl | rfl | rfl | rfl | rfl | rfl | rfl | rfl | rfl | rfl | rfl
  · exact rTold_rest f b v w hb e2 e4 e7 e8 e5
  · cases b
    · exact rTold_nob f v w hb e2 e4 e7 e8 e5
    · exact rTold_obj f v w hb e2 e4 e7 e8 e5
  · exact rTold_rest f b v w hb e2 e4 e7 e8 e5
  · cases b
    · exact rTold_n4 f v w hb e2 e4 e7 e8 e5
    · exact rTold_y4 f v w hb e2 e4 e7 e8 e5
  · exact rTold_v f b v w hb e2 e4 e7 e8 e5 h0 h1
  · exact rTold_rest f b v w hb e2 e4 e7 e8 e5
  · cases b
    · exact rTold_n7 f v w hb e2 e4 e7 e8 e5
    · exact rTold_y7 f v w hb e2 e4 e7 e8 e5
  · cases b
    · exact rTold_n8 f v w hb e2 e4 e7 e8 e5
    · exact rTold_y8 f v w hb e2 e4 e7 e8 e5
  · exact rTold_rest f b v w hb e2 e4 e7 e8 e5
  · exact rTold_rest f b v w hb e2 e4 e7 e8 e5
  · exact rTold_rest f b v w hb e2 e4 e7 e8 e5
theorem rTold_any (f : Nat → Int) (e0 : Int) (b : Bool) (v : Int) (w : World) (a0 : -9223372036854775808 ≤ e0) (a1 : e0 ≤ 9223372036854775807) (h0 : -9223372036854775808 ≤ v) (h1 : v ≤ 9223372036854775807) :
    Calls Tryd.prog 21 #[opV f, outV e0 b v] w fun e w' => e = .returned (.tuple #[.string (tld f e0 (tdl (f 0).toNat b v)).1, .int .i64 (tld f e0 (tdl (f 0).toNat b v)).2]) ∧ Below w.heap.size w w' := by
  unfold tld
  by_cases hb : bare f = false
  · rw [if_pos hb]; exact rTold_no f e0 b v w hb
  · rw [if_neg hb]
    have hb' : bare f = true := by simpa using hb
    by_cases he : e0 = 0
    · subst he
      rw [if_pos rfl]
      obtain ⟨K, hK, _, _⟩ := kin_nat ((bare_iff f).1 hb').1
      have : (f 0).toNat = K := by omega
      rw [this]
      exact rTold_ok K f b v w h0 h1 hb' hK
    · rw [if_neg he]
      exact rTold_err f e0 b v w a0 a1 hb' (by simpa using he)
end Go.Proofs.YtfnnckbdaedlbaaDoor
