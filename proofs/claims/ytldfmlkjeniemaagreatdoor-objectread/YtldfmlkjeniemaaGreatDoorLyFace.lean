/- package layout: Check, Size, Ack, List, Base, Part. -/
import Derived.Test.YtldfmlkjeniemaaGreatDoorLyTop
import Derived.Test.YtldfmlkjeniemaaGreatDoorLyPrt
namespace Go.Proofs.YtldfmlkjeniemaaGreatDoor
open Go.RowKit Go.Ly Go.Sh
/-- What Size answers. -/
def szv (t s : Int) (ss : List ByteArray) : Int × Int := if rgt t s ss = true then (3 + t + t + 2 * s, 0) else (0, 2)
set_option maxRecDepth 100000 in
set_option maxHeartbeats 4000000 in
theorem LSize_at (t s : Int) (a : Option Addr) (n c : Nat) (ss : List ByteArray) (w : World) (v e' : Int) (hT : IsTab w (.slice a n c) ss) (h : Hid (szv t s ss = (v, e'))) :
    Calls Tryz.prog 52 #[planV t s a n c] w fun e w' => e = .returned (.tuple #[.int .i64 v, .int .i64 e']) ∧ Below w.heap.size w w' := by
  have HT := hid hT
  clear hT
  have h := h.out
  unfold szv at h
  rcases Bool.eq_false_or_eq_true (rgt t s ss) with hr | hr
  · rw [if_pos hr] at h
    simp only [Prod.mk.injEq] at h
    obtain ⟨rfl, rfl⟩ := h
    obtain ⟨t0, t1, s0, s1, _⟩ := rgt_yes hr
    have cm := fun W h => lpmay_any t s a n c ss W h
    simp only [hr] at cm
    have cs := fun W => size_at t s a n c W t0 t1 s0 s1
    go_enter Tryz.func52, Tryz.ntmps52
    go_wp2_with (go_at_call 72; refine (cm _ (HT.out.below (Nat.le_refl _) (bel2 (Below.refl _ _)))).mono ?_)
    rintro e w1 ⟨rfl, b1⟩
    have B1 := hid (bel2 b1)
    have Rp := row2b b1
    clear b1
    have p0 := at_row Rp 0 rfl
    have p1 := at_row Rp 1 rfl
    have p2 := at_row Rp 2 rfl
    clear Rp
    go_wp2_with (go_at_call 73; refine (cs _).mono ?_; rintro e w2 ⟨rfl, b2⟩)
    go_ret2
    exact ⟨rfl, B1.out.trans (b2.mono B1.out.size)⟩
  · rw [if_neg (by simp [hr])] at h
    simp only [Prod.mk.injEq] at h
    obtain ⟨rfl, rfl⟩ := h
    have cm := fun W h => lpmay_any t s a n c ss W h
    simp only [hr] at cm
    go_enter Tryz.func52, Tryz.ntmps52
    go_wp2_with (go_at_call 72; refine (cm _ (HT.out.below (Nat.le_refl _) (bel2 (Below.refl _ _)))).mono ?_; rintro e w1 ⟨rfl, b1⟩)
    go_ret2
    exact ⟨rfl, bel2 b1⟩
theorem Base_at (t s x : Int) (v e' : Int) (a : Option Addr) (n c : Nat) (ss : List ByteArray) (w : World) (hT : IsTab w (.slice a n c) ss) (hL : LNums w) (h : Hid (atv t s ss 6 x 0 = (v, e'))) :
    Calls Tryz.prog 69 #[planV t s a n c, .int .i64 x] w fun e w' => e = .returned (.tuple #[.int .i64 v, .int .i64 e']) ∧ Below w.heap.size w w' := by
  have ca := At_at t s 6 x 0 v e' a n c ss _ (hT.below (Nat.le_refl _) (below_alloc0 w (.cells #[.int .i64 t, .int .i64 s, .slice a n c] 24))) (hL.below (below_alloc0 w _)) h
  clear hT hL h
  go_enter Tryz.func69, Tryz.ntmps69
  go_wp2_with (go_at_call 84; refine ca.mono ?_; rintro e w1 ⟨rfl, b1⟩)
  go_ret2
  exact ⟨rfl, bel1 b1⟩
theorem part_any (t s at_ k x y : Int) (a : Option Addr) (n c : Nat) (w : World) (t0 : 1 ≤ t) (t1 : t ≤ 8) (s0 : 32 ≤ s) (s1 : s ≤ 4096) (a0 : 0 ≤ at_) (a1 : at_ < 3 + t + t + 2 * s) (h : pt t s at_ = (k, x, y)) :
    Calls Tryz.prog 75 #[planV t s a n c, .int .i64 at_] w fun e w' => e = .returned (partV k x y) ∧ Below w.heap.size w w' := by
  have hl := fun j j0 j1 => kn_lt t s at_ j j0 j1 t0 a0
  unfold pt at h
  rcases kn_cases t at_ with e | e | e | e | e | e <;> rw [e] at h <;> simp only [Prod.mk.injEq] at h <;> obtain ⟨rfl, rfl, rfl⟩ := h
  · exact part_1 t s at_ a n c _ _ w t0 t1 s0 s1 a0 (by omega) e (by rw [bs1]; exact rfl) (by rw [bs1]; exact rfl) (by omega)
  · have := hl 2 (by omega) (by omega); rw [bs2] at this
    exact part_2 t s at_ a n c _ _ w t0 t1 s0 s1 a0 (by omega) e (by rw [bs2]; exact rfl) (by rw [bs2]; exact rfl) (by omega)
  · have := hl 3 (by omega) (by omega); rw [bs3] at this
    exact part_3 t s at_ a n c _ _ w t0 t1 s0 s1 a0 (by omega) e (by rw [bs3]; exact rfl) (by rw [bs3]; exact rfl) (by omega)
  · have := hl 4 (by omega) (by omega); rw [bs4] at this
    exact part_4 t s at_ a n c _ _ w t0 t1 s0 s1 a0 (by omega) e (by rw [bs4]; exact rfl) (by rw [bs4]; exact rfl) (by omega)
  · have := hl 5 (by omega) (by omega); rw [bs5] at this
    exact part_5 t s at_ a n c _ _ w t0 t1 s0 s1 a0 (by omega) e (by rw [bs5]; exact rfl) (by rw [bs5]; exact rfl) (by omega)
  · have := hl 6 (by omega) (by omega); rw [bs6] at this
    exact part_6 t s at_ a n c _ _ w t0 t1 s0 s1 a0 (by omega) e (by rw [bs6]; exact rfl) (by rw [bs6]; exact rfl) (by omega)
/-- What Part answers. -/
def ptv (t s : Int) (ss : List ByteArray) (at_ : Int) : Int × Int × Int × Int :=
  if rgt t s ss = true then (if 0 ≤ at_ ∧ at_ < 3 + t + t + 2 * s then ((pt t s at_).1, (pt t s at_).2.1, (pt t s at_).2.2, 0) else (0, 0, 0, 4)) else (0, 0, 0, 2)
abbrev zPart : Obj := .cells #[.int .i64 0, .int .i64 0, .int .i64 0] 102
set_option maxRecDepth 100000 in
set_option maxHeartbeats 4000000 in
theorem Part_no (t s at_ : Int) (a : Option Addr) (n c : Nat) (ss : List ByteArray) (w : World) (hT : IsTab w (.slice a n c) ss) (hr : rgt t s ss = false) :
    Calls Tryz.prog 55 #[planV t s a n c, .int .i64 at_] w fun e w' => e = .returned (.tuple #[partV 0 0 0, .int .i64 2]) ∧ Below w.heap.size w w' := by
  have cm := fun W h => lpmay_any t s a n c ss W h
  simp only [hr] at cm
  have HT := hid hT
  clear hT
  go_enter Tryz.func55, Tryz.ntmps55
  go_wp2_with (go_at_call 72; refine (cm _ (HT.out.below (Nat.le_refl _) (bel3 (Below.refl _ _)))).mono ?_)
  rintro e w1 ⟨rfl, b1⟩
  have B1 := hid (bel3 b1)
  have Rx := row3b b1
  clear b1
  have d0 := at_row Rx 0 rfl
  have d1 := at_row Rx 1 rfl
  have d2 := at_row Rx 2 rfl
  have f0 := fz_row Rx 0
  have f1 := fz_row Rx 1
  have f2 := fz_row Rx 2
  go_wp2
  refine bodyPost_ret (v := .tuple #[partV 0 0 0, .int .i64 2]) (by simp [results, Tryz.results55, go_sem, d0, d1, d2]) rfl ⟨rfl, ?_⟩
  exact three_set B1.out (by omega) _ _ _
set_option maxRecDepth 100000 in
set_option maxHeartbeats 4000000 in
theorem Part_out (t s at_ : Int) (a : Option Addr) (n c : Nat) (ss : List ByteArray) (w : World) (hT : IsTab w (.slice a n c) ss) (hr : rgt t s ss = true) (ho : Hid ((decide (0 ≤ at_) && decide (at_ ≤ 3 + t + t + 2 * s - 1)) = false)) :
    Calls Tryz.prog 55 #[planV t s a n c, .int .i64 at_] w fun e w' => e = .returned (.tuple #[partV 0 0 0, .int .i64 4]) ∧ Below w.heap.size w w' := by
  obtain ⟨t0, t1, s0, s1, _⟩ := rgt_yes hr
  have cm := fun W h => lpmay_any t s a n c ss W h
  simp only [hr] at cm
  have cs := fun W => size_at t s a n c W t0 t1 s0 s1
  have HT := hid hT
  clear hT
  have z0 : 35 ≤ 3 + t + t + 2 * s := by omega
  have z1 : 3 + t + t + 2 * s ≤ 20000 := by omega
  generalize 3 + t + t + 2 * s = z at *
  go_enter Tryz.func55, Tryz.ntmps55
  go_wp2_with (go_at_call 72; refine (cm _ (HT.out.below (Nat.le_refl _) (bel3 (Below.refl _ _)))).mono ?_)
  rintro e w1 ⟨rfl, b1⟩
  have B1 := hid (bel3 b1)
  have HRx := hid (row3b b1)
  have Rp := row3c b1
  clear b1
  have p0 := at_row Rp 0 rfl
  have p1 := at_row Rp 1 rfl
  have p2 := at_row Rp 2 rfl
  clear Rp
  go_wp2_with (go_at_call 73; refine (cs _).mono ?_)
  rintro e w2 ⟨rfl, b2⟩
  have B2 := hid (B1.out.trans (b2.mono B1.out.size))
  have HRx2 := hid (row_below HRx.out b2)
  clear p0 p1 p2 b2 B1 HRx
  go_wp2_with (go_at_call 74; refine (lwithin_at 0 (z - 1) _).mono ?_)
  rintro e w3 ⟨ga, gb, rfl, W3, b3⟩
  have B3 := hid (B2.out.trans (b3.mono B2.out.size))
  have HRx3 := hid (row_below HRx2.out b3)
  clear b3 B2 HRx2
  go_wp2_with (go_at_call 88; refine (lwin_new 0 (z - 1) at_ ga gb _ w3 W3 ho).mono ?_)
  rintro e w4 ⟨rfl, b4⟩
  have B4 := hid (B3.out.trans (b4.mono B3.out.size))
  have Rx := row_below HRx3.out b4
  clear b4 B3 HRx3 W3
  have d0 := at_row Rx 0 rfl
  have d1 := at_row Rx 1 rfl
  have d2 := at_row Rx 2 rfl
  have f0 := fz_row Rx 0
  have f1 := fz_row Rx 1
  have f2 := fz_row Rx 2
  go_wp2
  refine bodyPost_ret (v := .tuple #[partV 0 0 0, .int .i64 4]) (by simp [results, Tryz.results55, go_sem, d0, d1, d2]) rfl ⟨rfl, ?_⟩
  exact three_set B4.out (by omega) _ _ _
set_option maxRecDepth 100000 in
set_option maxHeartbeats 4000000 in
theorem Part_in (t s at_ k x y : Int) (a : Option Addr) (n c : Nat) (ss : List ByteArray) (w : World) (hT : IsTab w (.slice a n c) ss) (hr : rgt t s ss = true) (a0 : 0 ≤ at_) (a1 : at_ < 3 + t + t + 2 * s) (h : pt t s at_ = (k, x, y)) :
    Calls Tryz.prog 55 #[planV t s a n c, .int .i64 at_] w fun e w' => e = .returned (.tuple #[partV k x y, .int .i64 0]) ∧ Below w.heap.size w w' := by
  obtain ⟨t0, t1, s0, s1, _⟩ := rgt_yes hr
  have cm := fun W h => lpmay_any t s a n c ss W h
  simp only [hr] at cm
  have cs := fun W => size_at t s a n c W t0 t1 s0 s1
  have cp := fun W => part_any t s at_ k x y a n c W t0 t1 s0 s1 a0 a1 h
  have HT := hid hT
  clear hT h
  have z0 : 35 ≤ 3 + t + t + 2 * s := by omega
  have z1 : 3 + t + t + 2 * s ≤ 20000 := by omega
  generalize 3 + t + t + 2 * s = z at *
  have ho : Hid ((decide (0 ≤ at_) && decide (at_ ≤ z - 1)) = true) := hid (by simp; omega)
  go_enter Tryz.func55, Tryz.ntmps55
  go_wp2_with (go_at_call 72; refine (cm _ (HT.out.below (Nat.le_refl _) (bel3 (Below.refl _ _)))).mono ?_)
  rintro e w1 ⟨rfl, b1⟩
  have B1 := hid (bel3 b1)
  have HRx := hid (row3b b1)
  have Rp := row3c b1
  have HRp := hid Rp
  clear b1
  have p0 := at_row Rp 0 rfl
  have p1 := at_row Rp 1 rfl
  have p2 := at_row Rp 2 rfl
  clear Rp
  go_wp2_with (go_at_call 73; refine (cs _).mono ?_)
  rintro e w2 ⟨rfl, b2⟩
  have B2 := hid (B1.out.trans (b2.mono B1.out.size))
  have HRx2 := hid (row_below HRx.out b2)
  have HRp2 := hid (row_below HRp.out b2)
  clear p0 p1 p2 b2 B1 HRx HRp
  go_wp2_with (go_at_call 74; refine (lwithin_at 0 (z - 1) _).mono ?_)
  rintro e w3 ⟨ga, gb, rfl, W3, b3⟩
  have B3 := hid (B2.out.trans (b3.mono B2.out.size))
  have HRx3 := hid (row_below HRx2.out b3)
  have HRp3 := hid (row_below HRp2.out b3)
  clear b3 B2 HRx2 HRp2
  go_wp2_with (go_at_call 88; refine (lwin_new 0 (z - 1) at_ ga gb _ w3 W3 ho).mono ?_)
  rintro e w4 ⟨rfl, b4⟩
  have B4 := hid (B3.out.trans (b4.mono B3.out.size))
  have HRx4 := hid (row_below HRx3.out b4)
  have Rp := row_below HRp3.out b4
  clear b4 B3 HRx3 HRp3 W3
  have p0 := at_row Rp 0 rfl
  have p1 := at_row Rp 1 rfl
  have p2 := at_row Rp 2 rfl
  clear Rp
  go_wp2_with (go_at_call 75; refine (cp _).mono ?_)
  rintro e w5 ⟨rfl, b5⟩
  have B5 := hid (B4.out.trans (b5.mono B4.out.size))
  have Rx := row_below HRx4.out b5
  clear b5 B4 HRx4 p0 p1 p2
  have d0 := at_row Rx 0 rfl
  have d1 := at_row Rx 1 rfl
  have d2 := at_row Rx 2 rfl
  have f0 := fz_row Rx 0
  have f1 := fz_row Rx 1
  have f2 := fz_row Rx 2
  go_wp2
  refine bodyPost_ret (v := .tuple #[partV k x y, .int .i64 0]) (by simp [results, Tryz.results55, go_sem, d0, d1, d2]) rfl ⟨rfl, ?_⟩
  exact three_set B5.out (by omega) _ _ _
theorem Part_at (t s at_ : Int) (k x y e' : Int) (a : Option Addr) (n c : Nat) (ss : List ByteArray) (w : World) (hT : IsTab w (.slice a n c) ss) (h : Hid (ptv t s ss at_ = (k, x, y, e'))) :
    Calls Tryz.prog 55 #[planV t s a n c, .int .i64 at_] w fun e w' => e = .returned (.tuple #[partV k x y, .int .i64 e']) ∧ Below w.heap.size w w' := by
  have h := h.out
  unfold ptv at h
  rcases Bool.eq_false_or_eq_true (rgt t s ss) with hr | hr
  · rw [if_pos hr] at h
    by_cases hi : 0 ≤ at_ ∧ at_ < 3 + t + t + 2 * s
    · rw [if_pos hi] at h
      simp only [Prod.mk.injEq] at h
      obtain ⟨rfl, rfl, rfl, rfl⟩ := h
      exact Part_in t s at_ _ _ _ a n c ss w hT hr hi.1 hi.2 rfl
    · rw [if_neg hi] at h
      simp only [Prod.mk.injEq] at h
      obtain ⟨rfl, rfl, rfl, rfl⟩ := h
      exact Part_out t s at_ a n c ss w hT hr (hid (by rw [Bool.eq_false_iff]; simp; omega))
  · rw [if_neg (by simp [hr])] at h
    simp only [Prod.mk.injEq] at h
    obtain ⟨rfl, rfl, rfl, rfl⟩ := h
    exact Part_no t s at_ a n c ss w hT hr
end Go.Proofs.YtldfmlkjeniemaaGreatDoor
