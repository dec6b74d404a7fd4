/- The walk of the law PackNames. -/
import Derived.Test.YtdchcmaceobpeaaDoorPkWorks
namespace Go.Proofs.YtdchcmaceobpeaaDoor
open Go.RowKit
theorem name_lit (p : Int) (k : Nat) (T : ByteArray) (w : World) (hT : nm k = T) (hp : p = k) (hk7 : k < 7) (h : Names w) :
    Calls Tryd.prog 27 #[.int .i64 p] w fun e w' => e = .returned (.tuple #[.string T, .bool true]) ∧ Below w.heap.size w w' := by
  subst hT; exact name_in p k w hp hk7 h
theorem rname_lit (p : Int) (k : Nat) (T : ByteArray) (w : World) (hT : nm k = T) (hp : p = k) (hk7 : k < 7) :
    Calls Tryd.prog 28 #[.int .i64 p] w fun e w' => e = .returned (.string T) ∧ Below w.heap.size w w' := by
  subst hT hp; exact rname_in k w hk7
theorem rname_none (p : Int) (w : World) (h : ¬ (0 ≤ p ∧ p ≤ 6)) :
    Calls Tryd.prog 28 #[.int .i64 p] w fun e w' => e = .returned (.string ⟨#[]⟩) ∧ Below w.heap.size w w' := by
  by_cases h0 : p < 0
  · exact rname_lo p w h0
  · exact rname_hi p w (by omega) (by omega)
set_option maxHeartbeats 1000000 in
theorem packNames_0  (w : World) (hN : Names w) : Calls Tryd.prog 8 #[.int .i64 0] w fun e w' => e = .returned (.bool true) ∧ Below w.heap.size w w' := by
  have HN := hid hN
  clear hN
  go_enter Tryd.func8, Tryd.ntmps8
  go_wp2_with (go_at_call 27; refine (name_lit 0 0 ⟨#[112, 108, 97, 105, 110]⟩ _ rfl rfl (by decide) HN.out).mono ?_)
  rintro e w1 ⟨rfl, b1⟩
  go_wp2_with (go_at_call 28; refine (rname_lit 0 0 ⟨#[112, 108, 97, 105, 110]⟩ _ rfl rfl (by decide)).mono ?_)
  rintro e w2 ⟨rfl, b2⟩
  have a2 : Below w.heap.size w w2 := b1.trans (b2.mono b1.size)
  clear b1 b2
  go_wp2_with (go_at_call 9; refine (pkWorks _ (HN.out.below a2)).mono ?_)
  rintro e w3 ⟨rfl, b3⟩
  go_wp2
  go_ret
  exact ⟨rfl, a2.trans (b3.mono a2.size)⟩
set_option maxHeartbeats 1000000 in
theorem packNames_1  (w : World) (hN : Names w) : Calls Tryd.prog 8 #[.int .i64 1] w fun e w' => e = .returned (.bool true) ∧ Below w.heap.size w w' := by
  have HN := hid hN
  clear hN
  go_enter Tryd.func8, Tryd.ntmps8
  go_wp2_with (go_at_call 27; refine (name_lit 1 1 ⟨#[103, 117, 97, 114, 100]⟩ _ rfl rfl (by decide) HN.out).mono ?_)
  rintro e w1 ⟨rfl, b1⟩
  go_wp2_with (go_at_call 28; refine (rname_lit 1 1 ⟨#[103, 117, 97, 114, 100]⟩ _ rfl rfl (by decide)).mono ?_)
  rintro e w2 ⟨rfl, b2⟩
  have a2 : Below w.heap.size w w2 := b1.trans (b2.mono b1.size)
  clear b1 b2
  go_wp2_with (go_at_call 9; refine (pkWorks _ (HN.out.below a2)).mono ?_)
  rintro e w3 ⟨rfl, b3⟩
  go_wp2
  go_ret
  exact ⟨rfl, a2.trans (b3.mono a2.size)⟩
set_option maxHeartbeats 1000000 in
theorem packNames_2  (w : World) (hN : Names w) : Calls Tryd.prog 8 #[.int .i64 2] w fun e w' => e = .returned (.bool true) ∧ Below w.heap.size w w' := by
  have HN := hid hN
  clear hN
  go_enter Tryd.func8, Tryd.ntmps8
  go_wp2_with (go_at_call 27; refine (name_lit 2 2 ⟨#[103, 117, 97, 114, 100, 101, 100]⟩ _ rfl rfl (by decide) HN.out).mono ?_)
  rintro e w1 ⟨rfl, b1⟩
  go_wp2_with (go_at_call 28; refine (rname_lit 2 2 ⟨#[103, 117, 97, 114, 100, 101, 100]⟩ _ rfl rfl (by decide)).mono ?_)
  rintro e w2 ⟨rfl, b2⟩
  have a2 : Below w.heap.size w w2 := b1.trans (b2.mono b1.size)
  clear b1 b2
  go_wp2_with (go_at_call 9; refine (pkWorks _ (HN.out.below a2)).mono ?_)
  rintro e w3 ⟨rfl, b3⟩
  go_wp2
  go_ret
  exact ⟨rfl, a2.trans (b3.mono a2.size)⟩
set_option maxHeartbeats 1000000 in
theorem packNames_3  (w : World) (hN : Names w) : Calls Tryd.prog 8 #[.int .i64 3] w fun e w' => e = .returned (.bool true) ∧ Below w.heap.size w w' := by
  have HN := hid hN
  clear hN
  go_enter Tryd.func8, Tryd.ntmps8
  go_wp2_with (go_at_call 27; refine (name_lit 3 3 ⟨#[98, 108, 97, 99, 107]⟩ _ rfl rfl (by decide) HN.out).mono ?_)
  rintro e w1 ⟨rfl, b1⟩
  go_wp2_with (go_at_call 28; refine (rname_lit 3 3 ⟨#[98, 108, 97, 99, 107]⟩ _ rfl rfl (by decide)).mono ?_)
  rintro e w2 ⟨rfl, b2⟩
  have a2 : Below w.heap.size w w2 := b1.trans (b2.mono b1.size)
  clear b1 b2
  go_wp2_with (go_at_call 9; refine (pkWorks _ (HN.out.below a2)).mono ?_)
  rintro e w3 ⟨rfl, b3⟩
  go_wp2
  go_ret
  exact ⟨rfl, a2.trans (b3.mono a2.size)⟩
set_option maxHeartbeats 1000000 in
theorem packNames_4  (w : World) (hN : Names w) : Calls Tryd.prog 8 #[.int .i64 4] w fun e w' => e = .returned (.bool true) ∧ Below w.heap.size w w' := by
  have HN := hid hN
  clear hN
  go_enter Tryd.func8, Tryd.ntmps8
  go_wp2_with (go_at_call 27; refine (name_lit 4 4 ⟨#[97, 119, 97, 114, 101]⟩ _ rfl rfl (by decide) HN.out).mono ?_)
  rintro e w1 ⟨rfl, b1⟩
  go_wp2_with (go_at_call 28; refine (rname_lit 4 4 ⟨#[97, 119, 97, 114, 101]⟩ _ rfl rfl (by decide)).mono ?_)
  rintro e w2 ⟨rfl, b2⟩
  have a2 : Below w.heap.size w w2 := b1.trans (b2.mono b1.size)
  clear b1 b2
  go_wp2_with (go_at_call 9; refine (pkWorks _ (HN.out.below a2)).mono ?_)
  rintro e w3 ⟨rfl, b3⟩
  go_wp2
  go_ret
  exact ⟨rfl, a2.trans (b3.mono a2.size)⟩
set_option maxHeartbeats 1000000 in
theorem packNames_5  (w : World) (hN : Names w) : Calls Tryd.prog 8 #[.int .i64 5] w fun e w' => e = .returned (.bool true) ∧ Below w.heap.size w w' := by
  have HN := hid hN
  clear hN
  go_enter Tryd.func8, Tryd.ntmps8
  go_wp2_with (go_at_call 27; refine (name_lit 5 5 ⟨#[105, 110, 115, 116, 97, 108, 108]⟩ _ rfl rfl (by decide) HN.out).mono ?_)
  rintro e w1 ⟨rfl, b1⟩
  go_wp2_with (go_at_call 28; refine (rname_lit 5 5 ⟨#[105, 110, 115, 116, 97, 108, 108]⟩ _ rfl rfl (by decide)).mono ?_)
  rintro e w2 ⟨rfl, b2⟩
  have a2 : Below w.heap.size w w2 := b1.trans (b2.mono b1.size)
  clear b1 b2
  go_wp2_with (go_at_call 9; refine (pkWorks _ (HN.out.below a2)).mono ?_)
  rintro e w3 ⟨rfl, b3⟩
  go_wp2
  go_ret
  exact ⟨rfl, a2.trans (b3.mono a2.size)⟩
set_option maxHeartbeats 1000000 in
theorem packNames_6  (w : World) (hN : Names w) : Calls Tryd.prog 8 #[.int .i64 6] w fun e w' => e = .returned (.bool true) ∧ Below w.heap.size w w' := by
  have HN := hid hN
  clear hN
  go_enter Tryd.func8, Tryd.ntmps8
  go_wp2_with (go_at_call 27; refine (name_lit 6 6 ⟨#[102, 108, 105, 112]⟩ _ rfl rfl (by decide) HN.out).mono ?_)
  rintro e w1 ⟨rfl, b1⟩
  go_wp2_with (go_at_call 28; refine (rname_lit 6 6 ⟨#[102, 108, 105, 112]⟩ _ rfl rfl (by decide)).mono ?_)
  rintro e w2 ⟨rfl, b2⟩
  have a2 : Below w.heap.size w w2 := b1.trans (b2.mono b1.size)
  clear b1 b2
  go_wp2_with (go_at_call 9; refine (pkWorks _ (HN.out.below a2)).mono ?_)
  rintro e w3 ⟨rfl, b3⟩
  go_wp2
  go_ret
  exact ⟨rfl, a2.trans (b3.mono a2.size)⟩
set_option maxHeartbeats 1000000 in
theorem packNames_out (p : Int) (hp : Hid (¬ (0 ≤ p ∧ p ≤ 6))) (w : World) (hN : Names w) : Calls Tryd.prog 8 #[.int .i64 p] w fun e w' => e = .returned (.bool true) ∧ Below w.heap.size w w' := by
  have HN := hid hN
  clear hN
  go_enter Tryd.func8, Tryd.ntmps8
  go_wp2_with (go_at_call 27; refine (name_out p _ hp.out).mono ?_)
  rintro e w1 ⟨rfl, b1⟩
  go_wp2_with (go_at_call 28; refine (rname_none p _ hp.out).mono ?_)
  rintro e w2 ⟨rfl, b2⟩
  have a2 : Below w.heap.size w w2 := b1.trans (b2.mono b1.size)
  clear b1 b2
  go_wp2_with (go_at_call 9; refine (pkWorks _ (HN.out.below a2)).mono ?_)
  rintro e w3 ⟨rfl, b3⟩
  go_wp2
  go_ret
  exact ⟨rfl, a2.trans (b3.mono a2.size)⟩
theorem packNames_walk (p : Int) (w : World) (hN : Names w) : Calls Tryd.prog 8 #[.int .i64 p] w fun e w' => e = .returned (.bool true) ∧ Below w.heap.size w w' := by
  by_cases h : 0 ≤ p ∧ p ≤ 6
  · have hcs : p = 0 ∨ p = 1 ∨ p = 2 ∨ p = 3 ∨ p = 4 ∨ p = 5 ∨ p = 6 := by omega
    rcases hcs with rfl | rfl | rfl | rfl | rfl | rfl | rfl
    · exact packNames_0 w hN
    · exact packNames_1 w hN
    · exact packNames_2 w hN
    · exact packNames_3 w hN
    · exact packNames_4 w hN
    · exact packNames_5 w hN
    · exact packNames_6 w hN
  · exact packNames_out p (hid h) w hN
end Go.Proofs.YtdchcmaceobpeaaDoor
