/- The laws' own helpers: num, works. -/
import Derived.Test.YtjjbdfabckdogaaDoorHdRefT
namespace Go.Hd
/-- What Make answers. -/
def mkv (s m : Int) : Int × Int := if ok s m then (wd s m, 0) else (0, 2)
end Go.Hd
namespace Go.Proofs.YtjjbdfabckdogaaDoor
open Go.RowKit Go.Hd Go.Sh
theorem make_at (s m a c : Int) (w : World) (h : mkv s m = (a, c)) : Calls Tryd.prog 9 #[.agg #[.int .i64 s, .int .i64 m]] w fun e w' => e = .returned (.tuple #[.int .u64 a, .int .i64 c]) ∧ Below w.heap.size w w' := by
  by_cases hi : ok s m = true
  · rw [mkv, if_pos hi] at h
    obtain ⟨rfl, rfl⟩ := Prod.mk.inj h
    exact make_yes s m w hi
  · rw [mkv, if_neg hi] at h
    obtain ⟨rfl, rfl⟩ := Prod.mk.inj h
    exact make_no s m w (by simpa using hi)
theorem rmake_at (s m a c : Int) (w : World) (h : mkv s m = (a, c)) : Calls Tryd.prog 10 #[.agg #[.int .i64 s, .int .i64 m]] w fun e w' => e = .returned (.tuple #[.int .u64 a, .int .i64 c]) ∧ Below w.heap.size w w' := by
  by_cases hi : ok s m = true
  · rw [mkv, if_pos hi] at h
    obtain ⟨rfl, rfl⟩ := Prod.mk.inj h
    exact rmake_yes s m w hi
  · rw [mkv, if_neg hi] at h
    obtain ⟨rfl, rfl⟩ := Prod.mk.inj h
    exact rmake_no s m w (by simpa using hi)
theorem num_any (n : Int) (w : World) : Calls Tryd.prog 12 #[.int .i64 n] w fun e w' => e = .returned (.int .i64 n) ∧ w' = w := by
  go_enter Tryd.func12, Tryd.ntmps12
  go_wp2
  go_ret
  exact ⟨rfl, rfl⟩
/-- The tables of the chapter's rows. -/
def tab4 : List ByteArray := [⟨#[112]⟩, ⟨#[112]⟩, ⟨#[112]⟩, ⟨#[112, 115]⟩]
def tab1 : List ByteArray := [⟨#[112]⟩]
theorem tab4_is (w : World) : IsTab (w.alloc (.cells #[.string ⟨#[112]⟩, .string ⟨#[112]⟩, .string ⟨#[112]⟩, .string ⟨#[112, 115]⟩] 45)) (.slice (some ⟨w.heap.size, 0, none⟩) 4 4) tab4 := by
  refine .inr ⟨w.heap.size, 0, 4, rfl, fun i hi => ?_⟩
  have : i = 0 ∨ i = 1 ∨ i = 2 ∨ i = 3 := by simp [tab4] at hi; omega
  rcases this with rfl | rfl | rfl | rfl
  · exact cell_last w _ _ 0 _ rfl
  · exact cell_last w _ _ 1 _ rfl
  · exact cell_last w _ _ 2 _ rfl
  · exact cell_last w _ _ 3 _ rfl
theorem tab1_is (w : World) : IsTab (w.alloc (.cells #[.string ⟨#[112]⟩] 45)) (.slice (some ⟨w.heap.size, 0, none⟩) 1 1) tab1 := by
  refine .inr ⟨w.heap.size, 0, 1, rfl, fun i hi => ?_⟩
  obtain rfl : i = 0 := by simp [tab1] at hi; omega
  exact cell_last w _ _ 0 _ rfl
set_option maxRecDepth 100000 in
set_option maxHeartbeats 8000000 in
theorem works_any (w : World) (hN : Names w) : Calls Tryd.prog 13 #[] w fun e w' => e = .returned (.bool true) ∧ Below w.heap.size w w' := by
  have HN := hid hN
  clear hN
  go_enter Tryd.func13, Tryd.ntmps13
  go_wp2_with (go_at_call 9; refine (make_at 3 1 110 0 _ (by decide)).mono ?_)
  rintro e w1 ⟨rfl, b1⟩
  have B1 := hid b1
  clear b1
  go_wp2_with (go_at_call 11; refine (of_at 8 0 0 false _ (by decide) (by decide) (by decide)).mono ?_)
  rintro e w2 ⟨rfl, b2⟩
  have B2 := hid (B1.out.trans (b2.mono B1.out.size))
  clear b2 B1
  go_wp2_with (go_at_call 15; refine (marked_at 110 0 102 0 _ (by decide) (by decide) (by decide)).mono ?_)
  rintro e w3 ⟨rfl, b3⟩
  have B3 := hid (B2.out.trans ((bel1 b3).mono B2.out.size))
  clear b3 B2
  go_wp2_with (go_at_call 18; refine (hSize_at 110 _ tab4 4 0 _ (by decide) (by decide) (tab4_is w3) (by decide)).mono ?_)
  rintro e w4 ⟨rfl, b4⟩
  have B4 := hid (B3.out.trans ((bel1 b4).mono B3.out.size))
  clear b4 B3
  go_wp2_with (go_at_call 18; refine (hSize_at 110 _ tab1 0 130 _ (by decide) (by decide) (tab1_is w4) (by decide)).mono ?_)
  rintro e w5 ⟨rfl, b5⟩
  have B5 := hid (B4.out.trans ((bel1 b5).mono B4.out.size))
  clear b5 B4
  go_wp2_with (go_at_call 20; refine (text_at 110 ⟨#[51, 32, 103, 114, 101, 121]⟩ 0 _ (by decide) (by decide) (HN.out.below B5.out) (by decide)).mono ?_)
  rintro e w6 ⟨rfl, b6⟩
  have B6 := hid (B5.out.trans (b6.mono B5.out.size))
  clear b6 B5
  go_wp2_with (go_at_call 12; refine (num_any _ _).mono ?_; rintro e w9 ⟨rfl, rfl⟩)
  go_ret
  exact ⟨rfl, B6.out⟩
end Go.Proofs.YtjjbdfabckdogaaDoor
