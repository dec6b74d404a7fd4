/- package layout: may a plan be? -/
import Derived.Test.YtjfegimgpkeleaaDoorLyLeaf
import Derived.Test.YtjfegimgpkeleaaDoorShTab
namespace Go.Proofs.YtjfegimgpkeleaaDoor
open Go.RowKit Go.Ly Go.Sh
/-- A plan's box. -/
abbrev planO (t s : Int) (a : Option Addr) (n c : Nat) : Obj := .cells #[.int .i64 t, .int .i64 s, .slice a n c] 60
theorem row_below {w w' : World} {g : Nat} {O : Obj} (h : w.heap[g]? = some O) (b : Below w.heap.size w w') : w'.heap[g]? = some O :=
  (b.block g (Array.getElem?_eq_some_iff.1 h).1).trans h
set_option maxRecDepth 100000 in
set_option maxHeartbeats 4000000 in
theorem pmay_thr (t s : Int) (a : Option Addr) (n c : Nat) (w : World) (h : Hid ((decide (1 ≤ t) && decide (t ≤ 8)) = false)) :
    Calls Tryd.prog 29 #[planV t s a n c] w fun e w' => e = .returned (.bool false) ∧ Below w.heap.size w w' := by
  go_enter Tryd.func29, Tryd.ntmps29
  go_wp2_with (go_at_call 36; refine (lwithin_at 1 8 _).mono ?_)
  rintro e w1 ⟨ga, gb, rfl, W1, b1⟩
  have R1 := row1 b1
  have B1 := bel1 b1
  clear b1
  go_wp2_with (go_at_call 36; refine (lwithin_at 32 4096 _).mono ?_)
  rintro e w2 ⟨gc, gd, rfl, W2, b2⟩
  have R2 := row_below R1 b2
  have W1' := W1.below b2
  have B2 := hid (B1.trans (b2.mono B1.size))
  clear R1 W1 B1 b2
  have c0 := at_row R2 0 rfl
  have c1 := at_row R2 1 rfl
  have c2 := at_row R2 2 rfl
  clear R2
  go_wp2_with (go_at_call 54; refine (lwin_new 1 8 t ga gb _ w2 W1' h).mono ?_; rintro e w3 ⟨rfl, b3⟩)
  go_ret
  exact ⟨rfl, B2.out.trans (b3.mono B2.out.size)⟩
set_option maxRecDepth 100000 in
set_option maxHeartbeats 4000000 in
theorem pmay_sp (t s : Int) (a : Option Addr) (n c : Nat) (w : World) (h : Hid ((decide (1 ≤ t) && decide (t ≤ 8)) = true)) (h2 : Hid ((decide (32 ≤ s) && decide (s ≤ 4096)) = false)) :
    Calls Tryd.prog 29 #[planV t s a n c] w fun e w' => e = .returned (.bool false) ∧ Below w.heap.size w w' := by
  go_enter Tryd.func29, Tryd.ntmps29
  go_wp2_with (go_at_call 36; refine (lwithin_at 1 8 _).mono ?_)
  rintro e w1 ⟨ga, gb, rfl, W1, b1⟩
  have R1 := row1 b1
  have B1 := bel1 b1
  clear b1
  go_wp2_with (go_at_call 36; refine (lwithin_at 32 4096 _).mono ?_)
  rintro e w2 ⟨gc, gd, rfl, W2, b2⟩
  have R2 := row_below R1 b2
  have W1' := W1.below b2
  have B2 := hid (B1.trans (b2.mono B1.size))
  clear R1 W1 B1 b2
  have HR2 := hid R2
  have c0 := at_row R2 0 rfl
  have c1 := at_row R2 1 rfl
  have c2 := at_row R2 2 rfl
  clear R2
  go_wp2_with (go_at_call 54; refine (lwin_new 1 8 t ga gb _ w2 W1' h).mono ?_)
  rintro e w3 ⟨rfl, b3⟩
  have R3 := row_below HR2.out b3
  have W2' := W2.below b3
  have B3 := hid (B2.out.trans (b3.mono B2.out.size))
  clear HR2 W1' W2 B2 b3 c0 c1 c2
  have c0 := at_row R3 0 rfl
  have c1 := at_row R3 1 rfl
  have c2 := at_row R3 2 rfl
  clear R3
  go_wp2_with (go_at_call 54; refine (lwin_new 32 4096 s gc gd _ w3 W2' h2).mono ?_; rintro e w4 ⟨rfl, b4⟩)
  go_ret
  exact ⟨rfl, B3.out.trans (b4.mono B3.out.size)⟩
set_option maxRecDepth 100000 in
set_option maxHeartbeats 4000000 in
theorem pmay_tab (t s : Int) (a : Option Addr) (n c : Nat) (ss : List ByteArray) (w : World) (hT : IsTab w (.slice a n c) ss) (h : Hid ((decide (1 ≤ t) && decide (t ≤ 8)) = true)) (h2 : Hid ((decide (32 ≤ s) && decide (s ≤ 4096)) = true)) :
    Calls Tryd.prog 29 #[planV t s a n c] w fun e w' => e = .returned (.bool (right ss)) ∧ Below w.heap.size w w' := by
  have HT := hid hT
  clear hT
  go_enter Tryd.func29, Tryd.ntmps29
  go_wp2_with (go_at_call 36; refine (lwithin_at 1 8 _).mono ?_)
  rintro e w1 ⟨ga, gb, rfl, W1, b1⟩
  have R1 := row1 b1
  have B1 := bel1 b1
  clear b1
  go_wp2_with (go_at_call 36; refine (lwithin_at 32 4096 _).mono ?_)
  rintro e w2 ⟨gc, gd, rfl, W2, b2⟩
  have R2 := row_below R1 b2
  have W1' := W1.below b2
  have B2 := hid (B1.trans (b2.mono B1.size))
  clear R1 W1 B1 b2
  have HR2 := hid R2
  have c0 := at_row R2 0 rfl
  have c1 := at_row R2 1 rfl
  have c2 := at_row R2 2 rfl
  clear R2
  go_wp2_with (go_at_call 54; refine (lwin_new 1 8 t ga gb _ w2 W1' h).mono ?_)
  rintro e w3 ⟨rfl, b3⟩
  have R3 := row_below HR2.out b3
  have W2' := W2.below b3
  have B3 := hid (B2.out.trans (b3.mono B2.out.size))
  clear HR2 W1' W2 B2 b3 c0 c1 c2
  have HR3 := hid R3
  have c0 := at_row R3 0 rfl
  have c1 := at_row R3 1 rfl
  have c2 := at_row R3 2 rfl
  clear R3
  go_wp2_with (go_at_call 54; refine (lwin_new 32 4096 s gc gd _ w3 W2' h2).mono ?_)
  rintro e w4 ⟨rfl, b4⟩
  have R4 := row_below HR3.out b4
  have B4 := hid (B3.out.trans (b4.mono B3.out.size))
  clear HR3 W2' B3 b4 c0 c1 c2
  have c0 := at_row R4 0 rfl
  have c1 := at_row R4 1 rfl
  have c2 := at_row R4 2 rfl
  clear R4
  have cc := check_any _ ss w4 (HT.out.below (Nat.le_refl _) B4.out)
  have HE : Hid ((er (right ss) == 0) = right ss) := hid (by cases right ss <;> rfl)
  generalize er (right ss) = x at cc HE
  go_wp2_with (go_at_call 46; refine cc.mono ?_; rintro e w5 ⟨rfl, b5⟩)
  go_ret
  exact ⟨ret_bool HE.out, B4.out.trans (b5.mono B4.out.size)⟩
theorem pmay_any (t s : Int) (a : Option Addr) (n c : Nat) (ss : List ByteArray) (w : World) (hT : IsTab w (.slice a n c) ss) :
    Calls Tryd.prog 29 #[planV t s a n c] w fun e w' => e = .returned (.bool (rgt t s ss)) ∧ Below w.heap.size w w' := by
  rcases Bool.eq_false_or_eq_true (decide (1 ≤ t) && decide (t ≤ 8)) with h1 | h1
  · rcases Bool.eq_false_or_eq_true (decide (32 ≤ s) && decide (s ≤ 4096)) with h2 | h2
    · refine (pmay_tab t s a n c ss w hT h1 h2).mono fun e w' h => ⟨h.1.trans (ret_bool ?_), h.2⟩
      rw [rgt, nums, h1, h2]; simp
    · refine (pmay_sp t s a n c w h1 h2).mono fun e w' h => ⟨h.1.trans (ret_bool ?_), h.2⟩
      rw [rgt, nums, h1, h2]; simp
  · refine (pmay_thr t s a n c w h1).mono fun e w' h => ⟨h.1.trans (ret_bool ?_), h.2⟩
    rw [rgt, nums, h1]; simp
end Go.Proofs.YtjfegimgpkeleaaDoor
