/- package layout: At, by what it answers. -/
import Derived.Test.YtldfmlkjeniemaaGreatDoorLyPat
namespace Go.Proofs.YtldfmlkjeniemaaGreatDoor
open Go.RowKit Go.Ly Go.Sh
theorem has_any (t s k x y : Int) (a : Option Addr) (n c : Nat) (w : World) (t0 : 1 ≤ t) (t1 : t ≤ 8) (s0 : 32 ≤ s) (s1 : s ≤ 4096) (hm : mayP k x y = true) :
    Calls Tryz.prog 99 #[planV t s a n c, partV k x y] w fun e w' => e = .returned (.bool (hasP t s k x y)) ∧ Below w.heap.size w w' := by
  have hk : k = 1 ∨ k = 2 ∨ k = 3 ∨ k = 4 ∨ k = 5 ∨ k = 6 := by
    simp only [mayP, Bool.and_eq_true, decide_eq_true_eq] at hm; omega
  clear hm
  rcases hk with rfl | rfl | rfl | rfl | rfl | rfl
  · exact has_1 t s x y a n c _ _ w t0 t1 s0 s1 (hid rfl) (hid rfl)
  · exact has_2 t s x y a n c _ _ w t0 t1 s0 s1 (hid rfl) (hid rfl)
  · exact has_3 t s x y a n c _ _ w t0 t1 s0 s1 (hid rfl) (hid rfl)
  · exact has_4 t s x y a n c _ _ w t0 t1 s0 s1 (hid rfl) (hid rfl)
  · exact has_5 t s x y a n c _ _ w t0 t1 s0 s1 (hid rfl) (hid rfl)
  · exact has_6 t s x y a n c _ _ w t0 t1 s0 s1 (hid rfl) (hid rfl)
theorem pat_any (t s k x y : Int) (a : Option Addr) (n c : Nat) (w : World) (t0 : 1 ≤ t) (t1 : t ≤ 8) (s0 : 32 ≤ s) (s1 : s ≤ 4096) (v : Int) (hv : av t s k x y = (v, 0)) :
    Calls Tryz.prog 100 #[planV t s a n c, partV k x y] w fun e w' => e = .returned (.int .i64 v) ∧ Below w.heap.size w w' := by
  have h := av_yes hv rfl t0 s0
  clear hv
  rcases h with ⟨rfl, rfl, rfl, rfl⟩ | ⟨rfl, rfl, rfl, rfl⟩ | ⟨rfl, rfl, rfl, rfl⟩ | ⟨rfl, h0, h1, rfl, rfl⟩ | ⟨rfl, h0, h1, rfl, rfl⟩ | ⟨rfl, rfl, h0, h1, rfl⟩ | ⟨rfl, rfl, h0, h1, rfl⟩
  · exact pat_1 t s 0 0 a n c w t0 t1 s0 s1 (by omega) (by omega) (by omega) (by omega)
  · exact pat_2 t s 0 0 a n c w t0 t1 s0 s1 (by omega) (by omega) (by omega) (by omega)
  · exact pat_3 t s 0 0 a n c w t0 t1 s0 s1 (by omega) (by omega) (by omega) (by omega)
  · refine (pat_4 t s 0 x a n c w t0 t1 s0 s1 h0 (by omega) (by omega) (by omega)).mono fun e w' h => ⟨h.1.trans (ret_int (by omega)), h.2⟩
  · refine (pat_5 t s 0 x a n c w t0 t1 s0 s1 h0 (by omega) (by omega) (by omega)).mono fun e w' h => ⟨h.1.trans (ret_int (by omega)), h.2⟩
  · exact pat_6_0 t s y a n c w t0 t1 s0 s1 h0 (by omega)
  · exact pat_6_1 t s y a n c w t0 t1 s0 s1 h0 (by omega)
/-- What At answers, by what is asked. -/
def atv (t s : Int) (ss : List ByteArray) (k x y : Int) : Int × Int := if rgt t s ss = true then av t s k x y else (0, 2)
set_option maxRecDepth 100000 in
set_option maxHeartbeats 4000000 in
theorem At_plan (t s k x y : Int) (a : Option Addr) (n c : Nat) (ss : List ByteArray) (w : World) (hT : IsTab w (.slice a n c) ss) (hr : rgt t s ss = false) :
    Calls Tryz.prog 84 #[planV t s a n c, partV k x y] w fun e w' => e = .returned (.tuple #[.int .i64 0, .int .i64 2]) ∧ Below w.heap.size w w' := by
  have cm := fun W h => lpmay_any t s a n c ss W h
  simp only [hr] at cm
  have HT := hid hT
  clear hT
  go_enter Tryz.func84, Tryz.ntmps84
  go_wp2
  refine wp_scope_once 0 rfl ?_
  go_wp2_with (go_at_call 72; refine (cm _ (HT.out.below (Nat.le_refl _) (bel3 (Below.refl _ _)))).mono ?_)
  rintro e w1 ⟨rfl, b1⟩
  have B1 := hid (bel3 b1)
  clear b1
  go_wp2
  go_step3
  refine ⟨rfl, ?_⟩
  go_wp2
  rw [Exit.noGoto_ret]
  go_ret2
  exact ⟨rfl, B1.out⟩
set_option maxRecDepth 100000 in
set_option maxHeartbeats 4000000 in
theorem At_part (t s k x y : Int) (a : Option Addr) (n c : Nat) (ss : List ByteArray) (w : World) (hT : IsTab w (.slice a n c) ss) (hL : LNums w) (hr : rgt t s ss = true) (hm : mayP k x y = false) :
    Calls Tryz.prog 84 #[planV t s a n c, partV k x y] w fun e w' => e = .returned (.tuple #[.int .i64 0, .int .i64 2]) ∧ Below w.heap.size w w' := by
  have cm := fun W h => lpmay_any t s a n c ss W h
  simp only [hr] at cm
  have cx := fun W h => xmay_any k x y W h
  simp only [hm] at cx
  have HT := hid hT
  have HL := hid hL
  clear hT hL
  go_enter Tryz.func84, Tryz.ntmps84
  go_wp2
  refine wp_scope_once 0 rfl ?_
  go_wp2_with (go_at_call 72; refine (cm _ (HT.out.below (Nat.le_refl _) (bel3 (Below.refl _ _)))).mono ?_)
  rintro e w1 ⟨rfl, b1⟩
  have B1 := hid (bel3 b1)
  have Rx := row3b b1
  clear b1
  have q0 := at_row Rx 0 rfl
  have q1 := at_row Rx 1 rfl
  have q2 := at_row Rx 2 rfl
  clear Rx
  go_wp2_with (go_at_call 98; refine (cx _ (HL.out.below B1.out)).mono ?_)
  rintro e w2 ⟨rfl, b2⟩
  have B2 := hid (B1.out.trans (b2.mono B1.out.size))
  clear b2 B1 q0 q1 q2
  go_wp2
  go_step3
  refine ⟨rfl, ?_⟩
  go_wp2
  rw [Exit.noGoto_ret]
  go_ret2
  exact ⟨rfl, B2.out⟩
set_option maxRecDepth 100000 in
set_option maxHeartbeats 4000000 in
theorem At_range (t s k x y : Int) (a : Option Addr) (n c : Nat) (ss : List ByteArray) (w : World) (hT : IsTab w (.slice a n c) ss) (hL : LNums w) (hr : rgt t s ss = true) (hm : mayP k x y = true) (hh : hasP t s k x y = false) :
    Calls Tryz.prog 84 #[planV t s a n c, partV k x y] w fun e w' => e = .returned (.tuple #[.int .i64 0, .int .i64 4]) ∧ Below w.heap.size w w' := by
  obtain ⟨t0, t1, s0, s1, _⟩ := rgt_yes hr
  have cm := fun W h => lpmay_any t s a n c ss W h
  simp only [hr] at cm
  have cx := fun W h => xmay_any k x y W h
  have ch := fun W => has_any t s k x y a n c W t0 t1 s0 s1 hm
  simp only [hm] at cx
  simp only [hh] at ch
  have HT := hid hT
  have HL := hid hL
  clear hT hL
  go_enter Tryz.func84, Tryz.ntmps84
  go_wp2
  refine wp_scope_once 0 rfl ?_
  go_wp2_with (go_at_call 72; refine (cm _ (HT.out.below (Nat.le_refl _) (bel3 (Below.refl _ _)))).mono ?_)
  rintro e w1 ⟨rfl, b1⟩
  have B1 := hid (bel3 b1)
  have Rx := row3b b1
  have HRx := hid Rx
  have HRp := hid (row3c b1)
  clear b1
  have q0 := at_row Rx 0 rfl
  have q1 := at_row Rx 1 rfl
  have q2 := at_row Rx 2 rfl
  clear Rx
  go_wp2_with (go_at_call 98; refine (cx _ (HL.out.below B1.out)).mono ?_)
  rintro e w2 ⟨rfl, b2⟩
  have B2 := hid (B1.out.trans (b2.mono B1.out.size))
  have Rx := row_below HRx.out b2
  have Rp := row_below HRp.out b2
  clear b2 B1 q0 q1 q2 HRx HRp
  have q0 := at_row Rx 0 rfl
  have q1 := at_row Rx 1 rfl
  have q2 := at_row Rx 2 rfl
  have p0 := at_row Rp 0 rfl
  have p1 := at_row Rp 1 rfl
  have p2 := at_row Rp 2 rfl
  clear Rx Rp
  go_wp2_with (go_at_call 99; refine (ch _).mono ?_)
  rintro e w3 ⟨rfl, b3⟩
  have B3 := hid (B2.out.trans (b3.mono B2.out.size))
  clear b3 B2 q0 q1 q2 p0 p1 p2
  go_wp2
  go_step3
  refine ⟨rfl, ?_⟩
  go_wp2
  rw [Exit.noGoto_ret]
  go_ret2
  exact ⟨rfl, B3.out⟩
set_option maxRecDepth 100000 in
set_option maxHeartbeats 4000000 in
theorem At_yes (t s k x y v : Int) (a : Option Addr) (n c : Nat) (ss : List ByteArray) (w : World) (hT : IsTab w (.slice a n c) ss) (hL : LNums w) (hr : rgt t s ss = true) (hm : mayP k x y = true) (hh : hasP t s k x y = true) (hv : av t s k x y = (v, 0)) :
    Calls Tryz.prog 84 #[planV t s a n c, partV k x y] w fun e w' => e = .returned (.tuple #[.int .i64 v, .int .i64 0]) ∧ Below w.heap.size w w' := by
  obtain ⟨t0, t1, s0, s1, _⟩ := rgt_yes hr
  have cm := fun W h => lpmay_any t s a n c ss W h
  simp only [hr] at cm
  have cx := fun W h => xmay_any k x y W h
  have ch := fun W => has_any t s k x y a n c W t0 t1 s0 s1 hm
  have cv := fun W => pat_any t s k x y a n c W t0 t1 s0 s1 v hv
  simp only [hm] at cx
  simp only [hh] at ch
  have HT := hid hT
  have HL := hid hL
  clear hT hL hv hm hh hr
  go_enter Tryz.func84, Tryz.ntmps84
  go_wp2
  refine wp_scope_once 0 rfl ?_
  go_wp2_with (go_at_call 72; refine (cm _ (HT.out.below (Nat.le_refl _) (bel3 (Below.refl _ _)))).mono ?_)
  rintro e w1 ⟨rfl, b1⟩
  have B1 := hid (bel3 b1)
  have Rx := row3b b1
  have HRx := hid Rx
  have HRp := hid (row3c b1)
  clear b1
  have q0 := at_row Rx 0 rfl
  have q1 := at_row Rx 1 rfl
  have q2 := at_row Rx 2 rfl
  clear Rx
  go_wp2_with (go_at_call 98; refine (cx _ (HL.out.below B1.out)).mono ?_)
  rintro e w2 ⟨rfl, b2⟩
  have B2 := hid (B1.out.trans (b2.mono B1.out.size))
  have Rx := row_below HRx.out b2
  have Rp := row_below HRp.out b2
  clear b2 B1 q0 q1 q2 HRx HRp
  have HRx := hid Rx
  have HRp := hid Rp
  have q0 := at_row Rx 0 rfl
  have q1 := at_row Rx 1 rfl
  have q2 := at_row Rx 2 rfl
  have p0 := at_row Rp 0 rfl
  have p1 := at_row Rp 1 rfl
  have p2 := at_row Rp 2 rfl
  clear Rx Rp
  go_wp2_with (go_at_call 99; refine (ch _).mono ?_)
  rintro e w3 ⟨rfl, b3⟩
  have B3 := hid (B2.out.trans (b3.mono B2.out.size))
  have Rx := row_below HRx.out b3
  have Rp := row_below HRp.out b3
  clear b3 B2 q0 q1 q2 p0 p1 p2 HRx HRp
  have q0 := at_row Rx 0 rfl
  have q1 := at_row Rx 1 rfl
  have q2 := at_row Rx 2 rfl
  have p0 := at_row Rp 0 rfl
  have p1 := at_row Rp 1 rfl
  have p2 := at_row Rp 2 rfl
  clear Rx Rp
  go_wp2_with (go_at_call 100; refine (cv _).mono ?_)
  rintro e w4 ⟨rfl, b4⟩
  have B4 := hid (B3.out.trans (b4.mono B3.out.size))
  clear b4 B3 q0 q1 q2 p0 p1 p2
  go_wp2
  rw [jump_ret]
  go_ret2
  exact ⟨rfl, B4.out⟩
theorem At_at (t s k x y : Int) (v e' : Int) (a : Option Addr) (n c : Nat) (ss : List ByteArray) (w : World) (hT : IsTab w (.slice a n c) ss) (hL : LNums w) (h : Hid (atv t s ss k x y = (v, e'))) :
    Calls Tryz.prog 84 #[planV t s a n c, partV k x y] w fun e w' => e = .returned (.tuple #[.int .i64 v, .int .i64 e']) ∧ Below w.heap.size w w' := by
  have h := h.out
  unfold atv at h
  rcases Bool.eq_false_or_eq_true (rgt t s ss) with hr | hr
  · rw [if_pos hr] at h
    have h' := h
    unfold av at h
    rcases Bool.eq_false_or_eq_true (mayP k x y) with hm | hm
    · rw [if_pos hm] at h
      rcases Bool.eq_false_or_eq_true (hasP t s k x y) with hh | hh
      · rw [if_pos hh] at h
        simp only [Prod.mk.injEq] at h
        obtain ⟨rfl, rfl⟩ := h
        exact At_yes t s k x y _ a n c ss w hT hL hr hm hh h'
      · rw [if_neg (by simp [hh])] at h
        simp only [Prod.mk.injEq] at h
        obtain ⟨rfl, rfl⟩ := h
        exact At_range t s k x y a n c ss w hT hL hr hm hh
    · rw [if_neg (by simp [hm])] at h
      simp only [Prod.mk.injEq] at h
      obtain ⟨rfl, rfl⟩ := h
      exact At_part t s k x y a n c ss w hT hL hr hm
  · rw [if_neg (by simp [hr])] at h
    simp only [Prod.mk.injEq] at h
    obtain ⟨rfl, rfl⟩ := h
    exact At_plan t s k x y a n c ss w hT hr
end Go.Proofs.YtldfmlkjeniemaaGreatDoor
