/- package layout: may a plan be? -/
import Derived.Test.YtldfmlkjeniemaaGreatDoorLyMathOn
import Derived.Test.YtldfmlkjeniemaaGreatDoorShAllOn
import Derived.Test.YtldfmlkjeniemaaGreatDoorLyBaseOn
import Derived.Test.YtldfmlkjeniemaaGreatDoorBsKitOn
import Derived.Maps.AppendAt
namespace Go.Proofs.YtldfmlkjeniemaaGreatDoor
open Go.RowKit Go.Ly Go.Sh
/-- A plan's box. -/
abbrev planO (t s : Int) (a : Option Addr) (n c : Nat) : Obj := .cells #[.int .i64 t, .int .i64 s, .slice a n c] 132
theorem row_below {w w' : World} {g : Nat} {O : Obj} (h : w.heap[g]? = some O) (b : Below w.heap.size w w') : w'.heap[g]? = some O :=
  (b.block g (Array.getElem?_eq_some_iff.1 h).1).trans h
set_option maxRecDepth 100000 in
set_option maxHeartbeats 4000000 in
theorem pmay_thr (t s : Int) (a : Option Addr) (n c : Nat) (w : World) (h : Hid ((decide (1 ≤ t) && decide (t ≤ 8)) = false)) :
    Calls Tryz.prog 72 #[planV t s a n c] w fun e w' => e = .returned (.bool false) ∧ Below w.heap.size w w' := by
  go_enter Tryz.func72, Tryz.ntmps72
  go_wp2_with (go_at_call 74; refine (lwithin_at 1 8 _).mono ?_)
  rintro e w1 ⟨ga, gb, rfl, W1, b1⟩
  have R1 := row1 b1
  have B1 := bel1 b1
  clear b1
  go_wp2_with (go_at_call 74; refine (lwithin_at 32 4096 _).mono ?_)
  rintro e w2 ⟨gc, gd, rfl, W2, b2⟩
  have R2 := row_below R1 b2
  have W1' := W1.below b2
  have B2 := hid (B1.trans (b2.mono B1.size))
  clear R1 W1 B1 b2
  have c0 := at_row R2 0 rfl
  have c1 := at_row R2 1 rfl
  have c2 := at_row R2 2 rfl
  clear R2
  go_wp2_with (go_at_call 88; refine (lwin_new 1 8 t ga gb _ w2 W1' h).mono ?_; rintro e w3 ⟨rfl, b3⟩)
  go_ret
  exact ⟨rfl, B2.out.trans (b3.mono B2.out.size)⟩
set_option maxRecDepth 100000 in
set_option maxHeartbeats 4000000 in
theorem pmay_sp (t s : Int) (a : Option Addr) (n c : Nat) (w : World) (h : Hid ((decide (1 ≤ t) && decide (t ≤ 8)) = true)) (h2 : Hid ((decide (32 ≤ s) && decide (s ≤ 4096)) = false)) :
    Calls Tryz.prog 72 #[planV t s a n c] w fun e w' => e = .returned (.bool false) ∧ Below w.heap.size w w' := by
  go_enter Tryz.func72, Tryz.ntmps72
  go_wp2_with (go_at_call 74; refine (lwithin_at 1 8 _).mono ?_)
  rintro e w1 ⟨ga, gb, rfl, W1, b1⟩
  have R1 := row1 b1
  have B1 := bel1 b1
  clear b1
  go_wp2_with (go_at_call 74; refine (lwithin_at 32 4096 _).mono ?_)
  rintro e w2 ⟨gc, gd, rfl, W2, b2⟩
  have R2 := row_below R1 b2
  have W1' := W1.below b2
  have B2 := hid (B1.trans (b2.mono B1.size))
  clear R1 W1 B1 b2
  have HR2 := hid R2
  have c0 := at_row R2 0 rfl
  have c1 := at_row R2 1 rfl
  have c2 := at_row R2 2 rfl
  clear R2
  go_wp2_with (go_at_call 88; refine (lwin_new 1 8 t ga gb _ w2 W1' h).mono ?_)
  rintro e w3 ⟨rfl, b3⟩
  have R3 := row_below HR2.out b3
  have W2' := W2.below b3
  have B3 := hid (B2.out.trans (b3.mono B2.out.size))
  clear HR2 W1' W2 B2 b3 c0 c1 c2
  have c0 := at_row R3 0 rfl
  have c1 := at_row R3 1 rfl
  have c2 := at_row R3 2 rfl
  clear R3
  go_wp2_with (go_at_call 88; refine (lwin_new 32 4096 s gc gd _ w3 W2' h2).mono ?_; rintro e w4 ⟨rfl, b4⟩)
  go_ret
  exact ⟨rfl, B3.out.trans (b4.mono B3.out.size)⟩
set_option maxRecDepth 100000 in
set_option maxHeartbeats 4000000 in
theorem pmay_tab (t s : Int) (a : Option Addr) (n c : Nat) (ss : List ByteArray) (w : World) (hT : IsTab w (.slice a n c) ss) (h : Hid ((decide (1 ≤ t) && decide (t ≤ 8)) = true)) (h2 : Hid ((decide (32 ≤ s) && decide (s ≤ 4096)) = true)) :
    Calls Tryz.prog 72 #[planV t s a n c] w fun e w' => e = .returned (.bool (right ss)) ∧ Below w.heap.size w w' := by
  have HT := hid hT
  clear hT
  go_enter Tryz.func72, Tryz.ntmps72
  go_wp2_with (go_at_call 74; refine (lwithin_at 1 8 _).mono ?_)
  rintro e w1 ⟨ga, gb, rfl, W1, b1⟩
  have R1 := row1 b1
  have B1 := bel1 b1
  clear b1
  go_wp2_with (go_at_call 74; refine (lwithin_at 32 4096 _).mono ?_)
  rintro e w2 ⟨gc, gd, rfl, W2, b2⟩
  have R2 := row_below R1 b2
  have W1' := W1.below b2
  have B2 := hid (B1.trans (b2.mono B1.size))
  clear R1 W1 B1 b2
  have HR2 := hid R2
  have c0 := at_row R2 0 rfl
  have c1 := at_row R2 1 rfl
  have c2 := at_row R2 2 rfl
  clear R2
  go_wp2_with (go_at_call 88; refine (lwin_new 1 8 t ga gb _ w2 W1' h).mono ?_)
  rintro e w3 ⟨rfl, b3⟩
  have R3 := row_below HR2.out b3
  have W2' := W2.below b3
  have B3 := hid (B2.out.trans (b3.mono B2.out.size))
  clear HR2 W1' W2 B2 b3 c0 c1 c2
  have HR3 := hid R3
  have c0 := at_row R3 0 rfl
  have c1 := at_row R3 1 rfl
  have c2 := at_row R3 2 rfl
  clear R3
  go_wp2_with (go_at_call 88; refine (lwin_new 32 4096 s gc gd _ w3 W2' h2).mono ?_)
  rintro e w4 ⟨rfl, b4⟩
  have R4 := row_below HR3.out b4
  have B4 := hid (B3.out.trans (b4.mono B3.out.size))
  clear HR3 W2' B3 b4 c0 c1 c2
  have c0 := at_row R4 0 rfl
  have c1 := at_row R4 1 rfl
  have c2 := at_row R4 2 rfl
  clear R4
  have cc := check_any _ ss w4 (HT.out.below (Nat.le_refl _) B4.out)
  have HE : Hid ((er (right ss) == 0) = right ss) := hid (by cases right ss <;> rfl)
  generalize er (right ss) = x at cc HE
  go_wp2_with (go_at_call 86; refine cc.mono ?_; rintro e w5 ⟨rfl, b5⟩)
  go_ret
  exact ⟨ret_bool HE.out, B4.out.trans (b5.mono B4.out.size)⟩
theorem lpmay_any (t s : Int) (a : Option Addr) (n c : Nat) (ss : List ByteArray) (w : World) (hT : IsTab w (.slice a n c) ss) :
    Calls Tryz.prog 72 #[planV t s a n c] w fun e w' => e = .returned (.bool (rgt t s ss)) ∧ Below w.heap.size w w' := by
  rcases Bool.eq_false_or_eq_true (decide (1 ≤ t) && decide (t ≤ 8)) with h1 | h1
  · rcases Bool.eq_false_or_eq_true (decide (32 ≤ s) && decide (s ≤ 4096)) with h2 | h2
    · refine (pmay_tab t s a n c ss w hT h1 h2).mono fun e w' h => ⟨h.1.trans (ret_bool ?_), h.2⟩
      rw [rgt, nums, h1, h2]; simp
    · refine (pmay_sp t s a n c w h1 h2).mono fun e w' h => ⟨h.1.trans (ret_bool ?_), h.2⟩
      rw [rgt, nums, h1, h2]; simp
  · refine (pmay_thr t s a n c w h1).mono fun e w' h => ⟨h.1.trans (ret_bool ?_), h.2⟩
    rw [rgt, nums, h1]; simp
end Go.Proofs.YtldfmlkjeniemaaGreatDoor
/- package layout: a part's numbers; may it be; is it there; where its word stands. -/
namespace Go.Ly
/-- How many numbers a part of a kind has. -/
def pnm : Nat → Nat
  | 4 => 1
  | 5 => 1
  | 6 => 2
  | _ => 0
end Go.Ly
namespace Go.Proofs.YtldfmlkjeniemaaGreatDoor
open Go.RowKit Go.Ly Go.Sh
/-- The table of how many numbers parts have stands as it was laid. -/
def LNums (w : World) : Prop := ∀ i, i < 7 → w.cell? ⟨0, i, none⟩ = some (.int .i64 (pnm i : Int))
theorem LNums.below {w w' : World} (h : LNums w) (hb : Below w.heap.size w w') : LNums w' :=
  fun i hi => (hb.cell (p := ⟨0, i, none⟩) (block_lt_of_cell (h i hi))).trans (h i hi)
theorem below2' (w : World) (A B : Obj) : Below w.heap.size w ((w.alloc A).alloc B) := (below_alloc0 w A).alloc (by simp) B
/-- A part as a value. -/
abbrev partV (k n a : Int) : Value := .agg #[.int .i64 k, .int .i64 n, .int .i64 a]
set_option maxRecDepth 100000 in
set_option maxHeartbeats 2000000 in
theorem numbers_lt (k m : Nat) (n a : Int) (w : World) (hk : k < 7) (hm : pnm k = m) (h : LNums w) (m2 : m < 2) :
    Calls Tryz.prog 109 #[partV (k : Int) n a] w fun e w' => e = .returned (.tuple #[.slice (some ⟨w.heap.size + 1, 0, none⟩) m 2, .slice (some ⟨w.heap.size + 1, m, none⟩) (2 - m) (2 - m)]) ∧ w'.heap[w.heap.size + 1]? = some (.cells #[.int .i64 n, .int .i64 a] 3) ∧ Below w.heap.size w w' := by
  have hc := h k hk
  rw [hm] at hc
  have k7 : (k : Int) < 7 := by omega
  have m2' : (m : Int) ≤ 2 := by omega
  have hcc : ∀ A B, ((w.alloc A).alloc B).cell? ⟨0, k, none⟩ = some (.int .i64 (m : Int)) := fun A B => cell_al B (cell_al A hc)
  clear hc h hk hm
  have hne : ¬ 2 = m := by omega
  go_enter Tryz.func109, Tryz.ntmps109
  go_wp2
  go_quiet (fail)
  go_wp2
  go_ret2
  exact ⟨rfl, last2 w _ _, below_drewN (below2' w _ _) _⟩
set_option maxRecDepth 100000 in
set_option maxHeartbeats 2000000 in
theorem numbers_two (k m : Nat) (n a : Int) (w : World) (hk : k < 7) (hm : pnm k = m) (h : LNums w) (m2 : m = 2) :
    Calls Tryz.prog 109 #[partV (k : Int) n a] w fun e w' => e = .returned (.tuple #[.slice (some ⟨w.heap.size + 1, 0, none⟩) m 2, .slice (some ⟨w.heap.size + 1, 0, none⟩) (2 - m) (2 - m)]) ∧ w'.heap[w.heap.size + 1]? = some (.cells #[.int .i64 n, .int .i64 a] 3) ∧ Below w.heap.size w w' := by
  have hc := h k hk
  rw [hm] at hc
  have k7 : (k : Int) < 7 := by omega
  have m2' : (m : Int) ≤ 2 := by omega
  have hcc : ∀ A B, ((w.alloc A).alloc B).cell? ⟨0, k, none⟩ = some (.int .i64 (m : Int)) := fun A B => cell_al B (cell_al A hc)
  clear hc h hk hm
  subst m2
  go_enter Tryz.func109, Tryz.ntmps109
  go_wp2
  go_quiet (fail)
  go_wp2
  go_ret2
  exact ⟨rfl, last2 w _ _, below_drewN (below2' w _ _) _⟩
end Go.Proofs.YtldfmlkjeniemaaGreatDoor
/- package layout: may it be a part? -/
namespace Go.Proofs.YtldfmlkjeniemaaGreatDoor
open Go.RowKit Go.Ly Go.Sh
set_option maxRecDepth 100000 in
set_option maxHeartbeats 4000000 in
theorem xmay_kind (k n a : Int) (w : World) (h : Hid ((decide (1 ≤ k) && decide (k ≤ 6)) = false)) :
    Calls Tryz.prog 98 #[partV k n a] w fun e w' => e = .returned (.bool false) ∧ Below w.heap.size w w' := by
  go_enter Tryz.func98, Tryz.ntmps98
  go_wp2_with (go_at_call 74; refine (lwithin_at 1 6 _).mono ?_)
  rintro e w1 ⟨ga, gb, rfl, W1, b1⟩
  have R1 := row1 b1
  have B1 := hid (bel1 b1)
  clear b1
  have c0 := at_row R1 0 rfl
  have c1 := at_row R1 1 rfl
  have c2 := at_row R1 2 rfl
  clear R1
  go_wp2_with (go_at_call 88; refine (lwin_new 1 6 k ga gb _ w1 W1 h).mono ?_; rintro e w2 ⟨rfl, b2⟩)
  go_ret
  exact ⟨rfl, B1.out.trans (b2.mono B1.out.size)⟩
/-- The numbers that are to be 0: are they? -/
def rst (m : Nat) (n a : Int) : List Int := match m with
  | 0 => [n, a]
  | 1 => [a]
  | _ => []
set_option maxRecDepth 100000 in
set_option maxHeartbeats 4000000 in
theorem xmay_lt (k m : Nat) (n a : Int) (w : World) (k1 : 1 ≤ k) (k6 : k ≤ 6) (hm : pnm k = m) (m2 : m < 2) (hL : LNums w) :
    Calls Tryz.prog 98 #[partV (k : Int) n a] w fun e w' => e = .returned (.bool (Pk.win 0 0 (rst m n a))) ∧ Below w.heap.size w w' := by
  have h : Hid ((decide (1 ≤ (k : Int)) && decide ((k : Int) ≤ 6)) = true) := hid (by simp; omega)
  have HL := hid hL
  clear hL
  go_enter Tryz.func98, Tryz.ntmps98
  go_wp2_with (go_at_call 74; refine (lwithin_at 1 6 _).mono ?_)
  rintro e w1 ⟨ga, gb, rfl, W1, b1⟩
  have R1 := row1 b1
  have B1 := hid (bel1 b1)
  clear b1
  have HR1 := hid R1
  have c0 := at_row R1 0 rfl
  have c1 := at_row R1 1 rfl
  have c2 := at_row R1 2 rfl
  clear R1
  go_wp2_with (go_at_call 88; refine (lwin_new 1 6 k ga gb _ w1 W1 h).mono ?_)
  rintro e w2 ⟨rfl, b2⟩
  have R2 := row_below HR1.out b2
  have B2 := hid (B1.out.trans (b2.mono B1.out.size))
  clear HR1 B1 W1 b2 c0 c1 c2
  have c0 := at_row R2 0 rfl
  have c1 := at_row R2 1 rfl
  have c2 := at_row R2 2 rfl
  clear R2
  go_wp2_with (go_at_call 109; refine (numbers_lt k m n a w2 (by omega) hm (HL.out.below B2.out) m2).mono ?_)
  rintro e w3 ⟨rfl, hG, b3⟩
  have B3 := hid (B2.out.trans (b3.mono B2.out.size))
  have g1 : w2.heap.size + 1 < w3.heap.size := (Array.getElem?_eq_some_iff.1 hG).1
  generalize w2.heap.size + 1 = G at *
  have HG := hid hG
  clear B2 b3 c0 c1 c2 hG
  go_wp2_with (go_at_call 74; refine (lwithin_at 0 0 _).mono ?_)
  rintro e w4 ⟨gc, gd, rfl, W4, b4⟩
  have G4 := row_below HG.out b4
  have B4 := hid (B3.out.trans (b4.mono B3.out.size))
  clear HG B3 b4
  have cw : Calls Tryz.prog 88 #[.slice (some ⟨G, m, none⟩) (2 - m) (2 - m), .pointer (some ⟨gc, 0, none⟩), .pointer (some ⟨gd, 0, none⟩)] w4 fun e w' => e = .returned (.bool (Pk.win 0 0 (rst m n a))) ∧ w' = w4 := by
    refine lwin_at 0 0 gc gd G m (2 - m) (2 - m) (rst m n a) w4 W4.1 W4.2 ?_ (by omega) ?_
    · have : m = 0 ∨ m = 1 := by omega
      rcases this with rfl | rfl <;> exact hid rfl
    · refine hid fun i hi => ?_
      have : (m = 0 ∧ i = 0) ∨ (m = 0 ∧ i = 1) ∨ (m = 1 ∧ i = 0) := by omega
      rcases this with ⟨rfl, rfl⟩ | ⟨rfl, rfl⟩ | ⟨rfl, rfl⟩
      · exact at_row G4 0 rfl
      · exact at_row G4 1 rfl
      · exact at_row G4 1 rfl
  clear G4
  go_wp2_with (go_at_call 88; refine cw.mono ?_; rintro e w5 ⟨rfl, hw⟩; rw [hw]; clear hw)
  go_ret
  exact ⟨rfl, B4.out⟩
set_option maxRecDepth 100000 in
set_option maxHeartbeats 4000000 in
theorem xmay_two (n a : Int) (w : World) (hL : LNums w) :
    Calls Tryz.prog 98 #[partV 6 n a] w fun e w' => e = .returned (.bool true) ∧ Below w.heap.size w w' := by
  have h : Hid ((decide (1 ≤ (6 : Int)) && decide ((6 : Int) ≤ 6)) = true) := hid (by simp)
  have HL := hid hL
  clear hL
  go_enter Tryz.func98, Tryz.ntmps98
  go_wp2_with (go_at_call 74; refine (lwithin_at 1 6 _).mono ?_)
  rintro e w1 ⟨ga, gb, rfl, W1, b1⟩
  have R1 := row1 b1
  have B1 := hid (bel1 b1)
  clear b1
  have HR1 := hid R1
  have c0 := at_row R1 0 rfl
  have c1 := at_row R1 1 rfl
  have c2 := at_row R1 2 rfl
  clear R1
  go_wp2_with (go_at_call 88; refine (lwin_new 1 6 6 ga gb _ w1 W1 h).mono ?_)
  rintro e w2 ⟨rfl, b2⟩
  have R2 := row_below HR1.out b2
  have B2 := hid (B1.out.trans (b2.mono B1.out.size))
  clear HR1 B1 W1 b2 c0 c1 c2
  have c0 := at_row R2 0 rfl
  have c1 := at_row R2 1 rfl
  have c2 := at_row R2 2 rfl
  clear R2
  go_wp2_with (go_at_call 109; refine (numbers_two 6 2 n a w2 (by omega) rfl (HL.out.below B2.out) rfl).mono ?_)
  rintro e w3 ⟨rfl, hG, b3⟩
  have B3 := hid (B2.out.trans (b3.mono B2.out.size))
  clear B2 b3 c0 c1 c2 hG
  go_wp2_with (go_at_call 74; refine (lwithin_at 0 0 _).mono ?_)
  rintro e w4 ⟨gc, gd, rfl, W4, b4⟩
  have B4 := hid (B3.out.trans (b4.mono B3.out.size))
  clear B3 b4
  go_wp2_with (go_at_call 88; refine (lwin_none gc gd _ _ w4).mono ?_; rintro e w5 ⟨rfl, hw⟩; rw [hw]; clear hw)
  go_ret
  exact ⟨rfl, B4.out⟩
theorem xmay_any (k n a : Int) (w : World) (hL : LNums w) :
    Calls Tryz.prog 98 #[partV k n a] w fun e w' => e = .returned (.bool (mayP k n a)) ∧ Below w.heap.size w w' := by
  rcases Bool.eq_false_or_eq_true (decide (1 ≤ k) && decide (k ≤ 6)) with h | h
  · have hk : (decide (1 ≤ k) && decide (k ≤ 6)) = true := h
    simp only [Bool.and_eq_true, decide_eq_true_eq] at h
    have hc : k = 1 ∨ k = 2 ∨ k = 3 ∨ k = 4 ∨ k = 5 ∨ k = 6 := by omega
    rcases hc with rfl | rfl | rfl | rfl | rfl | rfl
    · refine (xmay_lt 1 0 n a w (by omega) (by omega) rfl (by omega) hL).mono fun e w' h => ⟨h.1.trans (ret_bool ?_), h.2⟩
      rw [Bool.eq_iff_iff]; simp [mayP, rst, Pk.win]; omega
    · refine (xmay_lt 2 0 n a w (by omega) (by omega) rfl (by omega) hL).mono fun e w' h => ⟨h.1.trans (ret_bool ?_), h.2⟩
      rw [Bool.eq_iff_iff]; simp [mayP, rst, Pk.win]; omega
    · refine (xmay_lt 3 0 n a w (by omega) (by omega) rfl (by omega) hL).mono fun e w' h => ⟨h.1.trans (ret_bool ?_), h.2⟩
      rw [Bool.eq_iff_iff]; simp [mayP, rst, Pk.win]; omega
    · refine (xmay_lt 4 1 n a w (by omega) (by omega) rfl (by omega) hL).mono fun e w' h => ⟨h.1.trans (ret_bool ?_), h.2⟩
      rw [Bool.eq_iff_iff]; simp [mayP, rst, Pk.win]; omega
    · refine (xmay_lt 5 1 n a w (by omega) (by omega) rfl (by omega) hL).mono fun e w' h => ⟨h.1.trans (ret_bool ?_), h.2⟩
      rw [Bool.eq_iff_iff]; simp [mayP, rst, Pk.win]; omega
    · refine (xmay_two n a w hL).mono fun e w' h => ⟨h.1.trans (ret_bool ?_), h.2⟩
      simp [mayP]
  · refine (xmay_kind k n a w h).mono fun e w' k' => ⟨k'.1.trans (ret_bool ?_), k'.2⟩
    rw [mayP, h]; simp
end Go.Proofs.YtldfmlkjeniemaaGreatDoor
/- An arena in memory: its face, its words; what is written into it; what else is kept. -/
namespace Go.Proofs.YtldfmlkjeniemaaGreatDoor
open Go.RowKit
/-- The word of that number. -/
def wat (xs : List Int) (i : Nat) : Int := xs.getD i 0
/-- The cells of so many words. -/
def wds (xs : List Int) : Array Value := (xs.map (Value.int .u64)).toArray
theorem wds_size (xs : List Int) : (wds xs).size = xs.length := by simp [wds]
theorem wds_get (xs : List Int) (i : Nat) (h : i < xs.length) : (wds xs)[i]? = some (.int .u64 (wat xs i)) := by
  simp [wds, wat, List.getD, h]
theorem wds_set (xs : List Int) (i : Nat) (v : Int) : (wds xs).setIfInBounds i (.int .u64 v) = wds (xs.set i v) := by
  simp [wds, List.map_set]
theorem ajump_ret {l : Nat} {J : Act → World → Prop} {Q : Exit → Act → World → Prop} {a : Act} {w : World} : Exit.jump l J Q .ret a w = Q .ret a w := rfl
/-- A word's bounds. -/
def InW (xs : List Int) : Prop := ∀ x ∈ xs, 0 ≤ x ∧ x ≤ 18446744073709551615
theorem InW.get {xs : List Int} (h : InW xs) (i : Nat) : 0 ≤ wat xs i ∧ wat xs i ≤ 18446744073709551615 := by
  by_cases hi : i < xs.length
  · have := h xs[i] (List.getElem_mem hi)
    simpa [wat, List.getD, hi] using this
  · simp [wat, List.getD, Nat.le_of_not_lt hi]
theorem InW.set {xs : List Int} (h : InW xs) (i : Nat) {v : Int} (h0 : 0 ≤ v) (h1 : v ≤ 18446744073709551615) : InW (xs.set i v) := by
  intro x hx
  rcases List.mem_or_eq_of_mem_set hx with h' | rfl
  · exact h x h'
  · exact ⟨h0, h1⟩
theorem InW.zeros (n : Nat) : InW (List.replicate n 0) := by
  intro x hx
  obtain rfl := List.eq_of_mem_replicate hx
  omega
/-- An arena: its face at block A, which leads to its words at block B. -/
structure IsAr (W : World) (A B : Nat) (xs : List Int) : Prop where
  face : W.heap[A]? = some (.cells #[.slice (some ⟨B, 0, none⟩) xs.length xs.length] 59)
  row : W.heap[B]? = some (.cells (wds xs) 39)
  ne : A ≠ B
  bnd : InW xs
  pos : 1 ≤ xs.length
  le : xs.length ≤ 16384
theorem IsAr.ltA {W : World} {A B : Nat} {xs : List Int} (h : IsAr W A B xs) : A < W.heap.size := (Array.getElem?_eq_some_iff.1 h.face).1
theorem IsAr.ltB {W : World} {A B : Nat} {xs : List Int} (h : IsAr W A B xs) : B < W.heap.size := (Array.getElem?_eq_some_iff.1 h.row).1
theorem IsAr.grown {W W' : World} {A B : Nat} {xs : List Int} {row : Option Nat} (h : IsAr W A B xs) (hg : W.grownBy W' row) (ha : some A ≠ row) (hb : some B ≠ row) : IsAr W' A B xs :=
  ⟨(hg.block A h.ltA ha).trans h.face, (hg.block B h.ltB hb).trans h.row, h.ne, h.bnd, h.pos, h.le⟩
theorem IsAr.below {W W' : World} {A B : Nat} {xs : List Int} (h : IsAr W A B xs) (b : Below W.heap.size W W') : IsAr W' A B xs :=
  ⟨(b.block A h.ltA).trans h.face, (b.block B h.ltB).trans h.row, h.ne, h.bnd, h.pos, h.le⟩
theorem IsAr.alloc {W : World} {A B : Nat} {xs : List Int} (h : IsAr W A B xs) (O : Obj) : IsAr (W.alloc O) A B xs := h.below (below_alloc0 W O)
theorem IsAr.fcell {W : World} {A B : Nat} {xs : List Int} (h : IsAr W A B xs) : W.cell? ⟨A, 0, none⟩ = some (.slice (some ⟨B, 0, none⟩) xs.length xs.length) := at_row h.face 0 rfl
theorem IsAr.cell {W : World} {A B : Nat} {xs : List Int} (h : IsAr W A B xs) (i : Nat) (hi : i < xs.length) : W.cell? ⟨B, i, none⟩ = some (.int .u64 (wat xs i)) := at_row h.row i (wds_get xs i hi)
theorem IsAr.set {W : World} {A B : Nat} {xs : List Int} (h : IsAr W A B xs) (i : Nat) {v : Int} (h0 : 0 ≤ v) (h1 : v ≤ 18446744073709551615) : IsAr (W.setCell ⟨B, i, none⟩ (.int .u64 v)) A B (xs.set i v) := by
  have e := setCell_eq_setRow W B i (wds xs) 39 (0, 0) (.int .u64 v) h.row
  rw [wds_set] at e
  refine ⟨?_, ?_, h.ne, h.bnd.set i h0 h1, by rw [List.length_set]; exact h.pos, by rw [List.length_set]; exact h.le⟩
  · rw [List.length_set, e, setRow_other W B A _ h.ne]
    exact h.face
  · rw [e]
    exact setRow_heap W B (wds xs) _ _ _ h.row
/-- What a call that writes into the block B alone keeps. -/
theorem grown_setCell (W : World) (B i : Nat) (v : Value) : W.grownBy (W.setCell ⟨B, i, none⟩ v) (some B) := by
  refine ⟨rfl, rfl, rfl, by simp, fun k hk hne => ?_⟩
  have : k ≠ B := fun e => hne (by rw [e])
  simp [World.setCell, Array.getElem?_modify, Ne.symm this]
theorem grown_trans {a b c : World} {row : Option Nat} (h : a.grownBy b row) (k : b.grownBy c row) : a.grownBy c row :=
  ⟨k.os.trans h.os, k.tape.trans h.tape, k.output.trans h.output, Nat.le_trans h.size k.size, fun i hi hne => (k.block i (Nat.lt_of_lt_of_le hi h.size) hne).trans (h.block i hi hne)⟩
theorem grown_below {W W' : World} (h : Below W.heap.size W W') (row : Option Nat) : W.grownBy W' row :=
  ⟨h.os, h.tape, h.output, h.size, fun k hk _ => h.block k hk⟩
/-- .. below all that came in nothing is changed, where B was made since. -/
theorem below_grown {N : Nat} {w W W' : World} {B : Nat} (h : Below N w W) (hN : N ≤ W.heap.size) (g : W.grownBy W' (some B)) (hB : N ≤ B) : Below N w W' :=
  ⟨g.os.trans h.os, g.tape.trans h.tape, g.output.trans h.output, Nat.le_trans h.size g.size, fun k hk => (g.block k (Nat.lt_of_lt_of_le hk hN) (fun e => by cases e; omega)).trans (h.block k hk)⟩
theorem grown_cell {W W' : World} {B : Nat} (g : W.grownBy W' (some B)) {p : Addr} {v : Value} (hp : p.block ≠ B) (h : W.cell? p = some v) : W'.cell? p = some v :=
  g.cell h (fun e => hp (by cases e; rfl))
theorem bel_two (w : World) (A B : Obj) : Below w.heap.size w ((w.alloc A).alloc B) := ((Below.refl _ w).alloc (Nat.le_refl _) _).alloc (by simp) _
theorem bel_three (w : World) (A B C : Obj) : Below w.heap.size w (((w.alloc A).alloc B).alloc C) := (((Below.refl _ w).alloc (Nat.le_refl _) _).alloc (by simp) _).alloc (by simp; omega) _
theorem bdrewN {N : Nat} {a w : World} (h : Below N a w) (n : Nat) : Below N a (w.drewN n) := ⟨h.os, h.tape, h.output, h.size, h.block⟩
/-- A pointer to an arena, or none: which words it leads to. -/
def Faces (W : World) (p s : Value) : Prop := (p = .pointer none ∧ s = .slice none 0 0) ∨ ∃ A, p = .pointer (some ⟨A, 0, none⟩) ∧ W.cell? ⟨A, 0, none⟩ = some s
theorem IsAr.faces {W : World} {A B : Nat} {xs : List Int} (h : IsAr W A B xs) : Faces W (.pointer (some ⟨A, 0, none⟩)) (.slice (some ⟨B, 0, none⟩) xs.length xs.length) := .inr ⟨A, rfl, h.fcell⟩
theorem Faces.below {W W' : World} {p s : Value} (h : Faces W p s) (b : Below W.heap.size W W') : Faces W' p s := by
  rcases h with h | ⟨A, e, hc⟩
  · exact .inl h
  · exact .inr ⟨A, e, (b.cell (p := ⟨A, 0, none⟩) (block_lt_of_cell hc)).trans hc⟩
/-- Words that a slice leads to. -/
def Ws (W : World) (b off : Nat) (xs : List Int) : Prop := ∀ i, i < xs.length → W.cell? ⟨b, off + i, none⟩ = some (.int .u64 (wat xs i))
theorem Ws.below {W W' : World} {b off : Nat} {xs : List Int} (h : Ws W b off xs) (k : Below W.heap.size W W') : Ws W' b off xs := fun i hi =>
  (k.cell (p := ⟨b, off + i, none⟩) (block_lt_of_cell (h i hi))).trans (h i hi)
theorem Ws.grown {W W' : World} {b off B : Nat} {xs : List Int} (h : Ws W b off xs) (g : W.grownBy W' (some B)) (hb : b ≠ B) : Ws W' b off xs := fun i hi =>
  grown_cell g hb (h i hi)
theorem IsAr.ws {W : World} {A B : Nat} {xs : List Int} (h : IsAr W A B xs) : Ws W B 0 xs := fun i hi => by
  rw [Nat.zero_add]; exact h.cell i hi
theorem Ws.list {W : World} {b off : Nat} {xs : List Int} (h : Ws W b off xs) : ∀ j v, (wds xs).toList[j]? = some v → W.cell? ((⟨b, off, none⟩ : Addr).add j) = some v := by
  intro j v hv
  have hadd : (⟨b, off, none⟩ : Addr).add j = ⟨b, off + j, none⟩ := by unfold Addr.add; split <;> simp_all
  rw [hadd]
  have hj : j < xs.length := by
    have := (List.getElem?_eq_some_iff.1 hv).1
    simpa [wds] using this
  rw [h j hj, ← wds_get xs j hj]
  simpa using hv
theorem wds_one (xs : List Int) : ∀ v ∈ (wds xs).toList, v.oneCell' = true := by
  intro v hv
  simp [wds] at hv
  obtain ⟨x, _, rfl⟩ := hv
  rfl
end Go.Proofs.YtldfmlkjeniemaaGreatDoor
