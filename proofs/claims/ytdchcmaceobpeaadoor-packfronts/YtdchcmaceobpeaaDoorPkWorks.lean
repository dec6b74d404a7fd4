/- The chapter's own rows of layer 2: works answers true. -/
import Derived.Test.YtdchcmaceobpeaaDoorPkName
namespace Go.Proofs.YtdchcmaceobpeaaDoor
open Go.RowKit
theorem name_six (w : World) (h : Names w) :
    Calls Tryd.prog 27 #[.int .i64 6] w fun e w' => e = .returned (.tuple #[.string ⟨#[102, 108, 105, 112]⟩, .bool true]) ∧ Below w.heap.size w w' := name_in 6 6 w rfl (by decide) h
set_option maxHeartbeats 4000000 in
theorem pkWorks (w : World) (hN : Names w) : Calls Tryd.prog 9 #[] w fun e w' => e = .returned (.bool true) ∧ Below w.heap.size w w' := by
  have HN := hid hN
  clear hN
  go_enter Tryd.func9, Tryd.ntmps9
  go_wp2_with (go_at_call 10; refine (request_at 3 3 27 0 _ (hid (by decide))).mono ?_)
  rintro e w1 ⟨rfl, b1⟩
  go_wp2_with (go_at_call 13; refine (ofRequest_at 31 0 0 2 _ (by decide) (by decide) (hid (by decide))).mono ?_)
  rintro e w2 ⟨rfl, b2⟩
  have a2 : Below w.heap.size w w2 := b1.trans (b2.mono b1.size)
  clear b1 b2
  have N2 : ∀ O, Names (w2.alloc O) := fun O => (HN.out.below a2).below (below_alloc0 w2 O)
  have HN2 := hid N2
  clear N2
  go_wp2_with (go_at_call 27; refine (name_six _ (HN2.out _)).mono ?_)
  rintro e w3 ⟨rfl, b3⟩
  have a3 : Below w.heap.size w w3 := a2.trans ((bel1 b3).mono a2.size)
  clear b3 a2 HN2
  go_wp2_with (go_at_call 15; refine (front_at 0 5 64 2 269484042 0 _ (hid (by decide))).mono ?_)
  rintro e w4 ⟨rfl, b4⟩
  have a4 : Below w.heap.size w w4 := a3.trans ((bel1 b4).mono a3.size)
  have X := hid (row1 b4)
  have z4 := siz1 b4
  have c0 := at_row (row1 b4) 0 rfl
  have c1 := at_row (row1 b4) 1 rfl
  have c2 := at_row (row1 b4) 2 rfl
  have c3 := at_row (row1 b4) 3 rfl
  clear b4 a3
  go_wp2_with (go_at_call 19; refine (claim_at 0 5 64 2 1 3 0 5 64 5 2 0 _ (hid (by decide))).mono ?_)
  rintro e w5 ⟨rfl, b5⟩
  have a5 : Below w.heap.size w w5 := a4.trans (b5.mono a4.size)
  have X5 := (b5.block _ z4).trans X.out
  have z5 : w3.heap.size < w5.heap.size := Nat.lt_of_lt_of_le z4 b5.size
  clear b5 a4 X z4 c0 c1 c2 c3
  have c0 := at_row X5 0 rfl
  have c1 := at_row X5 1 rfl
  have c2 := at_row X5 2 rfl
  have c3 := at_row X5 3 rfl
  have HX5 := hid X5
  clear X5
  go_wp2_with (go_at_call 25; refine (turn_to 0 5 64 2 60 1 2 60 0 0 _ (hid (by decide))).mono ?_)
  rintro e w6 ⟨rfl, b6⟩
  have a6 : Below w.heap.size w w6 := a5.trans ((bel1 b6).mono a5.size)
  have Y := row1 b6
  have z6 := siz1 b6
  clear b6 a5 HX5 c0 c1 c2 c3 z5
  have c0 := at_row Y 0 rfl
  have c1 := at_row Y 1 rfl
  have c2 := at_row Y 2 rfl
  have c3 := at_row Y 3 rfl
  clear Y
  go_wp2_with (go_at_call 12; refine (pkNum _ _).mono ?_; rintro e w' ⟨rfl, rfl⟩)
  go_ret
  exact ⟨rfl, a6.alloc a6.size _⟩
end Go.Proofs.YtdchcmaceobpeaaDoor
