/- The walk of the law PackTurns. -/
import Derived.Test.YtdchcmaceobpeaaDoorPkWorks
namespace Go.Proofs.YtdchcmaceobpeaaDoor
open Go.RowKit
set_option maxHeartbeats 2000000 in
theorem packTurns_walk (s l h o n : Int) (w : World) (hN : Names w) : Calls Tryd.prog 6 #[.agg #[.int .i64 s, .int .i64 l, .int .i64 h, .int .i64 o], .int .i64 n] w fun e w' => e = .returned (.bool true) ∧ Below w.heap.size w w' := by
  have HN := hid hN
  clear hN
  rcases ht : Pk.tn s l h o n with ⟨a, b, c, d, r⟩
  have HT := hid ht
  clear ht
  go_enter Tryd.func6, Tryd.ntmps6
  go_wp2_with (go_at_call 25; refine (turn_to s l h o n a b c d r _ HT).mono ?_)
  rintro e w1 ⟨rfl, b1⟩
  have a1 := bel1 b1
  have X := hid (row1 b1)
  have z1 := siz1 b1
  clear b1
  have x0 := at_row X.out 0 rfl
  have x1 := at_row X.out 1 rfl
  have x2 := at_row X.out 2 rfl
  have x3 := at_row X.out 3 rfl
  go_wp2_with (go_at_call 26; refine (rturn_to s l h o n a b c d r _ HT).mono ?_)
  rintro e w2 ⟨rfl, b2⟩
  have a2 : Below w.heap.size w w2 := a1.trans ((bel1 b2).mono a1.size)
  have Y := row1 b2
  have z2 := siz1 b2
  clear b2 a1 X z1 x0 x1 x2 x3
  have c0 := at_row Y 0 rfl
  have c1 := at_row Y 1 rfl
  have c2 := at_row Y 2 rfl
  have c3 := at_row Y 3 rfl
  clear Y
  have H3 := hid (fun O => (HN.out.below a2).below (below_alloc0 w2 O))
  go_wp2_with (first | (go_at_call 12; refine (pkNum _ _).mono ?_; rintro e w' ⟨rfl, rfl⟩) | (go_at_call 9; refine (pkWorks _ (H3.out _)).mono ?_))
  rintro e w3 ⟨rfl, b3⟩
  go_wp2
  go_ret
  exact ⟨rfl, a2.trans ((bel1 b3).mono a2.size)⟩
end Go.Proofs.YtdchcmaceobpeaaDoor
