/- package layout: may it be a part? -/
import Derived.Test.YtjfegimgpkeleaaDoorLyMayOn
namespace Go.Proofs.YtjfegimgpkeleaaDoor
open Go.RowKit Go.Ly Go.Sh
set_option maxRecDepth 100000 in
set_option maxHeartbeats 4000000 in
theorem xmay_kind (k n a : Int) (w : World) (h : Hid ((decide (1 ≤ k) && decide (k ≤ 6)) = false)) :
    Calls Tryd.prog 41 #[partV k n a] w fun e w' => e = .returned (.bool false) ∧ Below w.heap.size w w' := by
  go_enter Tryd.func41, Tryd.ntmps41
  go_wp2_with (go_at_call 36; refine (lwithin_at 1 6 _).mono ?_)
  rintro e w1 ⟨ga, gb, rfl, W1, b1⟩
  have R1 := row1 b1
  have B1 := hid (bel1 b1)
  clear b1
  have c0 := at_row R1 0 rfl
  have c1 := at_row R1 1 rfl
  have c2 := at_row R1 2 rfl
  clear R1
  go_wp2_with (go_at_call 54; refine (lwin_new 1 6 k ga gb _ w1 W1 h).mono ?_; rintro e w2 ⟨rfl, b2⟩)
  go_ret
  exact ⟨rfl, B1.out.trans (b2.mono B1.out.size)⟩
/-- The numbers that are to be 0: are they? -/
def rst (m : Nat) (n a : Int) : List Int := match m with
  | 0 => [n, a]
  | 1 => [a]
  | _ => []
set_option maxRecDepth 100000 in
set_option maxHeartbeats 4000000 in
theorem xmay_lt (k m : Nat) (n a : Int) (w : World) (k1 : 1 ≤ k) (k6 : k ≤ 6) (hm : pnm k = m) (m2 : m < 2) (hL : LNums w) :
    Calls Tryd.prog 41 #[partV (k : Int) n a] w fun e w' => e = .returned (.bool (Pk.win 0 0 (rst m n a))) ∧ Below w.heap.size w w' := by
  have h : Hid ((decide (1 ≤ (k : Int)) && decide ((k : Int) ≤ 6)) = true) := hid (by simp; omega)
  have HL := hid hL
  clear hL
  go_enter Tryd.func41, Tryd.ntmps41
  go_wp2_with (go_at_call 36; refine (lwithin_at 1 6 _).mono ?_)
  rintro e w1 ⟨ga, gb, rfl, W1, b1⟩
  have R1 := row1 b1
  have B1 := hid (bel1 b1)
  clear b1
  have HR1 := hid R1
  have c0 := at_row R1 0 rfl
  have c1 := at_row R1 1 rfl
  have c2 := at_row R1 2 rfl
  clear R1
  go_wp2_with (go_at_call 54; refine (lwin_new 1 6 k ga gb _ w1 W1 h).mono ?_)
  rintro e w2 ⟨rfl, b2⟩
  have R2 := row_below HR1.out b2
  have B2 := hid (B1.out.trans (b2.mono B1.out.size))
  clear HR1 B1 W1 b2 c0 c1 c2
  have c0 := at_row R2 0 rfl
  have c1 := at_row R2 1 rfl
  have c2 := at_row R2 2 rfl
  clear R2
  go_wp2_with (go_at_call 38; refine (numbers_lt k m n a w2 (by omega) hm (HL.out.below B2.out) m2).mono ?_)
  rintro e w3 ⟨rfl, hG, b3⟩
  have B3 := hid (B2.out.trans (b3.mono B2.out.size))
  have g1 : w2.heap.size + 1 < w3.heap.size := (Array.getElem?_eq_some_iff.1 hG).1
  generalize w2.heap.size + 1 = G at *
  have HG := hid hG
  clear B2 b3 c0 c1 c2 hG
  go_wp2_with (go_at_call 36; refine (lwithin_at 0 0 _).mono ?_)
  rintro e w4 ⟨gc, gd, rfl, W4, b4⟩
  have G4 := row_below HG.out b4
  have B4 := hid (B3.out.trans (b4.mono B3.out.size))
  clear HG B3 b4
  have cw : Calls Tryd.prog 54 #[.slice (some ⟨G, m, none⟩) (2 - m) (2 - m), .pointer (some ⟨gc, 0, none⟩), .pointer (some ⟨gd, 0, none⟩)] w4 fun e w' => e = .returned (.bool (Pk.win 0 0 (rst m n a))) ∧ w' = w4 := by
    refine lwin_at 0 0 gc gd G m (2 - m) (2 - m) (rst m n a) w4 W4.1 W4.2 ?_ (by omega) ?_
    · have : m = 0 ∨ m = 1 := by omega
      rcases this with rfl | rfl <;> exact hid rfl
    · refine hid fun i hi => ?_
      have : (m = 0 ∧ i = 0) ∨ (m = 0 ∧ i = 1) ∨ (m = 1 ∧ i = 0) := by omega
      rcases this with ⟨rfl, rfl⟩ | ⟨rfl, rfl⟩ | ⟨rfl, rfl⟩
      · exact at_row G4 0 rfl
      · exact at_row G4 1 rfl
      · exact at_row G4 1 rfl
  clear G4
  go_wp2_with (go_at_call 54; refine cw.mono ?_; rintro e w5 ⟨rfl, hw⟩; rw [hw]; clear hw)
  go_ret
  exact ⟨rfl, B4.out⟩
set_option maxRecDepth 100000 in
set_option maxHeartbeats 4000000 in
theorem xmay_two (n a : Int) (w : World) (hL : LNums w) :
    Calls Tryd.prog 41 #[partV 6 n a] w fun e w' => e = .returned (.bool true) ∧ Below w.heap.size w w' := by
  have h : Hid ((decide (1 ≤ (6 : Int)) && decide ((6 : Int) ≤ 6)) = true) := hid (by simp)
  have HL := hid hL
  clear hL
  go_enter Tryd.func41, Tryd.ntmps41
  go_wp2_with (go_at_call 36; refine (lwithin_at 1 6 _).mono ?_)
  rintro e w1 ⟨ga, gb, rfl, W1, b1⟩
  have R1 := row1 b1
  have B1 := hid (bel1 b1)
  clear b1
  have HR1 := hid R1
  have c0 := at_row R1 0 rfl
  have c1 := at_row R1 1 rfl
  have c2 := at_row R1 2 rfl
  clear R1
  go_wp2_with (go_at_call 54; refine (lwin_new 1 6 6 ga gb _ w1 W1 h).mono ?_)
  rintro e w2 ⟨rfl, b2⟩
  have R2 := row_below HR1.out b2
  have B2 := hid (B1.out.trans (b2.mono B1.out.size))
  clear HR1 B1 W1 b2 c0 c1 c2
  have c0 := at_row R2 0 rfl
  have c1 := at_row R2 1 rfl
  have c2 := at_row R2 2 rfl
  clear R2
  go_wp2_with (go_at_call 38; refine (numbers_two 6 2 n a w2 (by omega) rfl (HL.out.below B2.out) rfl).mono ?_)
  rintro e w3 ⟨rfl, hG, b3⟩
  have B3 := hid (B2.out.trans (b3.mono B2.out.size))
  clear B2 b3 c0 c1 c2 hG
  go_wp2_with (go_at_call 36; refine (lwithin_at 0 0 _).mono ?_)
  rintro e w4 ⟨gc, gd, rfl, W4, b4⟩
  have B4 := hid (B3.out.trans (b4.mono B3.out.size))
  clear B3 b4
  go_wp2_with (go_at_call 54; refine (lwin_none gc gd _ _ w4).mono ?_; rintro e w5 ⟨rfl, hw⟩; rw [hw]; clear hw)
  go_ret
  exact ⟨rfl, B4.out⟩
theorem xmay_any (k n a : Int) (w : World) (hL : LNums w) :
    Calls Tryd.prog 41 #[partV k n a] w fun e w' => e = .returned (.bool (mayP k n a)) ∧ Below w.heap.size w w' := by
  rcases Bool.eq_false_or_eq_true (decide (1 ≤ k) && decide (k ≤ 6)) with h | h
  · have hk : (decide (1 ≤ k) && decide (k ≤ 6)) = true := h
    simp only [Bool.and_eq_true, decide_eq_true_eq] at h
    have hc : k = 1 ∨ k = 2 ∨ k = 3 ∨ k = 4 ∨ k = 5 ∨ k = 6 := by omega
    rcases hc with rfl | rfl | rfl | rfl | rfl | rfl
    · refine (xmay_lt 1 0 n a w (by omega) (by omega) rfl (by omega) hL).mono fun e w' h => ⟨h.1.trans (ret_bool ?_), h.2⟩
      rw [Bool.eq_iff_iff]; simp [mayP, rst, Pk.win]; omega
    · refine (xmay_lt 2 0 n a w (by omega) (by omega) rfl (by omega) hL).mono fun e w' h => ⟨h.1.trans (ret_bool ?_), h.2⟩
      rw [Bool.eq_iff_iff]; simp [mayP, rst, Pk.win]; omega
    · refine (xmay_lt 3 0 n a w (by omega) (by omega) rfl (by omega) hL).mono fun e w' h => ⟨h.1.trans (ret_bool ?_), h.2⟩
      rw [Bool.eq_iff_iff]; simp [mayP, rst, Pk.win]; omega
    · refine (xmay_lt 4 1 n a w (by omega) (by omega) rfl (by omega) hL).mono fun e w' h => ⟨h.1.trans (ret_bool ?_), h.2⟩
      rw [Bool.eq_iff_iff]; simp [mayP, rst, Pk.win]; omega
    · refine (xmay_lt 5 1 n a w (by omega) (by omega) rfl (by omega) hL).mono fun e w' h => ⟨h.1.trans (ret_bool ?_), h.2⟩
      rw [Bool.eq_iff_iff]; simp [mayP, rst, Pk.win]; omega
    · refine (xmay_two n a w hL).mono fun e w' h => ⟨h.1.trans (ret_bool ?_), h.2⟩
      simp [mayP]
  · refine (xmay_kind k n a w h).mono fun e w' k' => ⟨k'.1.trans (ret_bool ?_), k'.2⟩
    rw [mayP, h]; simp
end Go.Proofs.YtjfegimgpkeleaaDoor
