/- package layout: Check, Size, Ack, List, Base, Part. -/
import Derived.Test.YtldfmlkjeniemaaGreatDoorLyTop
import Derived.Test.YtldfmlkjeniemaaGreatDoorLyPrt
import Derived.Test.YtldfmlkjeniemaaGreatDoorHdTopOn
namespace Go.Proofs.YtldfmlkjeniemaaGreatDoor
open Go.RowKit Go.Ly Go.Sh
/-- What Size answers. -/
def szv (t s : Int) (ss : List ByteArray) : Int × Int := if rgt t s ss = true then (3 + t + t + 2 * s, 0) else (0, 2)
set_option maxRecDepth 100000 in
set_option maxHeartbeats 4000000 in
theorem LSize_at (t s : Int) (a : Option Addr) (n c : Nat) (ss : List ByteArray) (w : World) (v e' : Int) (hT : IsTab w (.slice a n c) ss) (h : Hid (szv t s ss = (v, e'))) :
    Calls Tryz.prog 52 #[planV t s a n c] w fun e w' => e = .returned (.tuple #[.int .i64 v, .int .i64 e']) ∧ Below w.heap.size w w' := by
  have HT := hid hT
  clear hT
  have h := h.out
  unfold szv at h
  rcases Bool.eq_false_or_eq_true (rgt t s ss) with hr | hr
  · rw [if_pos hr] at h
    simp only [Prod.mk.injEq] at h
    obtain ⟨rfl, rfl⟩ := h
    obtain ⟨t0, t1, s0, s1, _⟩ := rgt_yes hr
    have cm := fun W h => lpmay_any t s a n c ss W h
    simp only [hr] at cm
    have cs := fun W => size_at t s a n c W t0 t1 s0 s1
    go_enter Tryz.func52, Tryz.ntmps52
    go_wp2_with (go_at_call 72; refine (cm _ (HT.out.below (Nat.le_refl _) (bel2 (Below.refl _ _)))).mono ?_)
    rintro e w1 ⟨rfl, b1⟩
    have B1 := hid (bel2 b1)
    have Rp := row2b b1
    clear b1
    have p0 := at_row Rp 0 rfl
    have p1 := at_row Rp 1 rfl
    have p2 := at_row Rp 2 rfl
    clear Rp
    go_wp2_with (go_at_call 73; refine (cs _).mono ?_; rintro e w2 ⟨rfl, b2⟩)
    go_ret2
    exact ⟨rfl, B1.out.trans (b2.mono B1.out.size)⟩
  · rw [if_neg (by simp [hr])] at h
    simp only [Prod.mk.injEq] at h
    obtain ⟨rfl, rfl⟩ := h
    have cm := fun W h => lpmay_any t s a n c ss W h
    simp only [hr] at cm
    go_enter Tryz.func52, Tryz.ntmps52
    go_wp2_with (go_at_call 72; refine (cm _ (HT.out.below (Nat.le_refl _) (bel2 (Below.refl _ _)))).mono ?_; rintro e w1 ⟨rfl, b1⟩)
    go_ret2
    exact ⟨rfl, bel2 b1⟩
theorem Base_at (t s x : Int) (v e' : Int) (a : Option Addr) (n c : Nat) (ss : List ByteArray) (w : World) (hT : IsTab w (.slice a n c) ss) (hL : LNums w) (h : Hid (atv t s ss 6 x 0 = (v, e'))) :
    Calls Tryz.prog 69 #[planV t s a n c, .int .i64 x] w fun e w' => e = .returned (.tuple #[.int .i64 v, .int .i64 e']) ∧ Below w.heap.size w w' := by
  have ca := At_at t s 6 x 0 v e' a n c ss _ (hT.below (Nat.le_refl _) (below_alloc0 w (.cells #[.int .i64 t, .int .i64 s, .slice a n c] 24))) (hL.below (below_alloc0 w _)) h
  clear hT hL h
  go_enter Tryz.func69, Tryz.ntmps69
  go_wp2_with (go_at_call 84; refine ca.mono ?_; rintro e w1 ⟨rfl, b1⟩)
  go_ret2
  exact ⟨rfl, bel1 b1⟩
theorem part_any (t s at_ k x y : Int) (a : Option Addr) (n c : Nat) (w : World) (t0 : 1 ≤ t) (t1 : t ≤ 8) (s0 : 32 ≤ s) (s1 : s ≤ 4096) (a0 : 0 ≤ at_) (a1 : at_ < 3 + t + t + 2 * s) (h : pt t s at_ = (k, x, y)) :
    Calls Tryz.prog 75 #[planV t s a n c, .int .i64 at_] w fun e w' => e = .returned (partV k x y) ∧ Below w.heap.size w w' := by
  have hl := fun j j0 j1 => kn_lt t s at_ j j0 j1 t0 a0
  unfold pt at h
  rcases kn_cases t at_ with e | e | e | e | e | e <;> rw [e] at h <;> simp only [Prod.mk.injEq] at h <;> obtain ⟨rfl, rfl, rfl⟩ := h
  · exact part_1 t s at_ a n c _ _ w t0 t1 s0 s1 a0 (by omega) e (by rw [bs1]; exact rfl) (by rw [bs1]; exact rfl) (by omega)
  · have := hl 2 (by omega) (by omega); rw [bs2] at this
    exact part_2 t s at_ a n c _ _ w t0 t1 s0 s1 a0 (by omega) e (by rw [bs2]; exact rfl) (by rw [bs2]; exact rfl) (by omega)
  · have := hl 3 (by omega) (by omega); rw [bs3] at this
    exact part_3 t s at_ a n c _ _ w t0 t1 s0 s1 a0 (by omega) e (by rw [bs3]; exact rfl) (by rw [bs3]; exact rfl) (by omega)
  · have := hl 4 (by omega) (by omega); rw [bs4] at this
    exact part_4 t s at_ a n c _ _ w t0 t1 s0 s1 a0 (by omega) e (by rw [bs4]; exact rfl) (by rw [bs4]; exact rfl) (by omega)
  · have := hl 5 (by omega) (by omega); rw [bs5] at this
    exact part_5 t s at_ a n c _ _ w t0 t1 s0 s1 a0 (by omega) e (by rw [bs5]; exact rfl) (by rw [bs5]; exact rfl) (by omega)
  · have := hl 6 (by omega) (by omega); rw [bs6] at this
    exact part_6 t s at_ a n c _ _ w t0 t1 s0 s1 a0 (by omega) e (by rw [bs6]; exact rfl) (by rw [bs6]; exact rfl) (by omega)
/-- What Part answers. -/
def ptv (t s : Int) (ss : List ByteArray) (at_ : Int) : Int × Int × Int × Int :=
  if rgt t s ss = true then (if 0 ≤ at_ ∧ at_ < 3 + t + t + 2 * s then ((pt t s at_).1, (pt t s at_).2.1, (pt t s at_).2.2, 0) else (0, 0, 0, 4)) else (0, 0, 0, 2)
abbrev zPart : Obj := .cells #[.int .i64 0, .int .i64 0, .int .i64 0] 102
set_option maxRecDepth 100000 in
set_option maxHeartbeats 4000000 in
theorem Part_no (t s at_ : Int) (a : Option Addr) (n c : Nat) (ss : List ByteArray) (w : World) (hT : IsTab w (.slice a n c) ss) (hr : rgt t s ss = false) :
    Calls Tryz.prog 55 #[planV t s a n c, .int .i64 at_] w fun e w' => e = .returned (.tuple #[partV 0 0 0, .int .i64 2]) ∧ Below w.heap.size w w' := by
  have cm := fun W h => lpmay_any t s a n c ss W h
  simp only [hr] at cm
  have HT := hid hT
  clear hT
  go_enter Tryz.func55, Tryz.ntmps55
  go_wp2_with (go_at_call 72; refine (cm _ (HT.out.below (Nat.le_refl _) (bel3 (Below.refl _ _)))).mono ?_)
  rintro e w1 ⟨rfl, b1⟩
  have B1 := hid (bel3 b1)
  have Rx := row3b b1
  clear b1
  have d0 := at_row Rx 0 rfl
  have d1 := at_row Rx 1 rfl
  have d2 := at_row Rx 2 rfl
  have f0 := fz_row Rx 0
  have f1 := fz_row Rx 1
  have f2 := fz_row Rx 2
  go_wp2
  refine bodyPost_ret (v := .tuple #[partV 0 0 0, .int .i64 2]) (by simp [results, Tryz.results55, go_sem, d0, d1, d2]) rfl ⟨rfl, ?_⟩
  exact three_set B1.out (by omega) _ _ _
set_option maxRecDepth 100000 in
set_option maxHeartbeats 4000000 in
theorem Part_out (t s at_ : Int) (a : Option Addr) (n c : Nat) (ss : List ByteArray) (w : World) (hT : IsTab w (.slice a n c) ss) (hr : rgt t s ss = true) (ho : Hid ((decide (0 ≤ at_) && decide (at_ ≤ 3 + t + t + 2 * s - 1)) = false)) :
    Calls Tryz.prog 55 #[planV t s a n c, .int .i64 at_] w fun e w' => e = .returned (.tuple #[partV 0 0 0, .int .i64 4]) ∧ Below w.heap.size w w' := by
  obtain ⟨t0, t1, s0, s1, _⟩ := rgt_yes hr
  have cm := fun W h => lpmay_any t s a n c ss W h
  simp only [hr] at cm
  have cs := fun W => size_at t s a n c W t0 t1 s0 s1
  have HT := hid hT
  clear hT
  have z0 : 35 ≤ 3 + t + t + 2 * s := by omega
  have z1 : 3 + t + t + 2 * s ≤ 20000 := by omega
  generalize 3 + t + t + 2 * s = z at *
  go_enter Tryz.func55, Tryz.ntmps55
  go_wp2_with (go_at_call 72; refine (cm _ (HT.out.below (Nat.le_refl _) (bel3 (Below.refl _ _)))).mono ?_)
  rintro e w1 ⟨rfl, b1⟩
  have B1 := hid (bel3 b1)
  have HRx := hid (row3b b1)
  have Rp := row3c b1
  clear b1
  have p0 := at_row Rp 0 rfl
  have p1 := at_row Rp 1 rfl
  have p2 := at_row Rp 2 rfl
  clear Rp
  go_wp2_with (go_at_call 73; refine (cs _).mono ?_)
  rintro e w2 ⟨rfl, b2⟩
  have B2 := hid (B1.out.trans (b2.mono B1.out.size))
  have HRx2 := hid (row_below HRx.out b2)
  clear p0 p1 p2 b2 B1 HRx
  go_wp2_with (go_at_call 74; refine (lwithin_at 0 (z - 1) _).mono ?_)
  rintro e w3 ⟨ga, gb, rfl, W3, b3⟩
  have B3 := hid (B2.out.trans (b3.mono B2.out.size))
  have HRx3 := hid (row_below HRx2.out b3)
  clear b3 B2 HRx2
  go_wp2_with (go_at_call 88; refine (lwin_new 0 (z - 1) at_ ga gb _ w3 W3 ho).mono ?_)
  rintro e w4 ⟨rfl, b4⟩
  have B4 := hid (B3.out.trans (b4.mono B3.out.size))
  have Rx := row_below HRx3.out b4
  clear b4 B3 HRx3 W3
  have d0 := at_row Rx 0 rfl
  have d1 := at_row Rx 1 rfl
  have d2 := at_row Rx 2 rfl
  have f0 := fz_row Rx 0
  have f1 := fz_row Rx 1
  have f2 := fz_row Rx 2
  go_wp2
  refine bodyPost_ret (v := .tuple #[partV 0 0 0, .int .i64 4]) (by simp [results, Tryz.results55, go_sem, d0, d1, d2]) rfl ⟨rfl, ?_⟩
  exact three_set B4.out (by omega) _ _ _
set_option maxRecDepth 100000 in
set_option maxHeartbeats 4000000 in
theorem Part_in (t s at_ k x y : Int) (a : Option Addr) (n c : Nat) (ss : List ByteArray) (w : World) (hT : IsTab w (.slice a n c) ss) (hr : rgt t s ss = true) (a0 : 0 ≤ at_) (a1 : at_ < 3 + t + t + 2 * s) (h : pt t s at_ = (k, x, y)) :
    Calls Tryz.prog 55 #[planV t s a n c, .int .i64 at_] w fun e w' => e = .returned (.tuple #[partV k x y, .int .i64 0]) ∧ Below w.heap.size w w' := by
  obtain ⟨t0, t1, s0, s1, _⟩ := rgt_yes hr
  have cm := fun W h => lpmay_any t s a n c ss W h
  simp only [hr] at cm
  have cs := fun W => size_at t s a n c W t0 t1 s0 s1
  have cp := fun W => part_any t s at_ k x y a n c W t0 t1 s0 s1 a0 a1 h
  have HT := hid hT
  clear hT h
  have z0 : 35 ≤ 3 + t + t + 2 * s := by omega
  have z1 : 3 + t + t + 2 * s ≤ 20000 := by omega
  generalize 3 + t + t + 2 * s = z at *
  have ho : Hid ((decide (0 ≤ at_) && decide (at_ ≤ z - 1)) = true) := hid (by simp; omega)
  go_enter Tryz.func55, Tryz.ntmps55
  go_wp2_with (go_at_call 72; refine (cm _ (HT.out.below (Nat.le_refl _) (bel3 (Below.refl _ _)))).mono ?_)
  rintro e w1 ⟨rfl, b1⟩
  have B1 := hid (bel3 b1)
  have HRx := hid (row3b b1)
  have Rp := row3c b1
  have HRp := hid Rp
  clear b1
  have p0 := at_row Rp 0 rfl
  have p1 := at_row Rp 1 rfl
  have p2 := at_row Rp 2 rfl
  clear Rp
  go_wp2_with (go_at_call 73; refine (cs _).mono ?_)
  rintro e w2 ⟨rfl, b2⟩
  have B2 := hid (B1.out.trans (b2.mono B1.out.size))
  have HRx2 := hid (row_below HRx.out b2)
  have HRp2 := hid (row_below HRp.out b2)
  clear p0 p1 p2 b2 B1 HRx HRp
  go_wp2_with (go_at_call 74; refine (lwithin_at 0 (z - 1) _).mono ?_)
  rintro e w3 ⟨ga, gb, rfl, W3, b3⟩
  have B3 := hid (B2.out.trans (b3.mono B2.out.size))
  have HRx3 := hid (row_below HRx2.out b3)
  have HRp3 := hid (row_below HRp2.out b3)
  clear b3 B2 HRx2 HRp2
  go_wp2_with (go_at_call 88; refine (lwin_new 0 (z - 1) at_ ga gb _ w3 W3 ho).mono ?_)
  rintro e w4 ⟨rfl, b4⟩
  have B4 := hid (B3.out.trans (b4.mono B3.out.size))
  have HRx4 := hid (row_below HRx3.out b4)
  have Rp := row_below HRp3.out b4
  clear b4 B3 HRx3 HRp3 W3
  have p0 := at_row Rp 0 rfl
  have p1 := at_row Rp 1 rfl
  have p2 := at_row Rp 2 rfl
  clear Rp
  go_wp2_with (go_at_call 75; refine (cp _).mono ?_)
  rintro e w5 ⟨rfl, b5⟩
  have B5 := hid (B4.out.trans (b5.mono B4.out.size))
  have Rx := row_below HRx4.out b5
  clear b5 B4 HRx4 p0 p1 p2
  have d0 := at_row Rx 0 rfl
  have d1 := at_row Rx 1 rfl
  have d2 := at_row Rx 2 rfl
  have f0 := fz_row Rx 0
  have f1 := fz_row Rx 1
  have f2 := fz_row Rx 2
  go_wp2
  refine bodyPost_ret (v := .tuple #[partV k x y, .int .i64 0]) (by simp [results, Tryz.results55, go_sem, d0, d1, d2]) rfl ⟨rfl, ?_⟩
  exact three_set B5.out (by omega) _ _ _
theorem Part_at (t s at_ : Int) (k x y e' : Int) (a : Option Addr) (n c : Nat) (ss : List ByteArray) (w : World) (hT : IsTab w (.slice a n c) ss) (h : Hid (ptv t s ss at_ = (k, x, y, e'))) :
    Calls Tryz.prog 55 #[planV t s a n c, .int .i64 at_] w fun e w' => e = .returned (.tuple #[partV k x y, .int .i64 e']) ∧ Below w.heap.size w w' := by
  have h := h.out
  unfold ptv at h
  rcases Bool.eq_false_or_eq_true (rgt t s ss) with hr | hr
  · rw [if_pos hr] at h
    by_cases hi : 0 ≤ at_ ∧ at_ < 3 + t + t + 2 * s
    · rw [if_pos hi] at h
      simp only [Prod.mk.injEq] at h
      obtain ⟨rfl, rfl, rfl, rfl⟩ := h
      exact Part_in t s at_ _ _ _ a n c ss w hT hr hi.1 hi.2 rfl
    · rw [if_neg hi] at h
      simp only [Prod.mk.injEq] at h
      obtain ⟨rfl, rfl, rfl, rfl⟩ := h
      exact Part_out t s at_ a n c ss w hT hr (hid (by rw [Bool.eq_false_iff]; simp; omega))
  · rw [if_neg (by simp [hr])] at h
    simp only [Prod.mk.injEq] at h
    obtain ⟨rfl, rfl, rfl, rfl⟩ := h
    exact Part_no t s at_ a n c ss w hT hr
end Go.Proofs.YtldfmlkjeniemaaGreatDoor
/- package object: open, to. -/
namespace Go.Proofs.YtldfmlkjeniemaaGreatDoor
open Go.RowKit Go.Ly Go.Hd Go.Sh Go.Ob
theorem set6_row {w : World} {g : Nat} {t : TypeId} {a b c d e f : Value} (h : w.heap[g]? = some (.cells #[a, b, c, d, e, f] t)) (u v x y z o : Value) : ((((((w.setCell ⟨g, 0, none⟩ u).setCell ⟨g, 1, none⟩ v).setCell ⟨g, 2, none⟩ x).setCell ⟨g, 3, none⟩ y).setCell ⟨g, 4, none⟩ z).setCell ⟨g, 5, none⟩ o).heap[g]? = some (.cells #[u, v, x, y, z, o] t) :=
  set_row (set_row (set_row (set_row (set_row (set_row h u) v) x) y) z) o
theorem six_set {B : Nat} {w w1 : World} (h : Below B w w1) {g : Nat} (hg : B ≤ g) (u v x y z o : Value) : Below B w ((((((w1.setCell ⟨g, 0, none⟩ u).setCell ⟨g, 1, none⟩ v).setCell ⟨g, 2, none⟩ x).setCell ⟨g, 3, none⟩ y).setCell ⟨g, 4, none⟩ z).setCell ⟨g, 5, none⟩ o) :=
  (((((h.setCell hg _).setCell hg _).setCell hg _).setCell hg _).setCell hg _).setCell hg _
theorem set5_row {w : World} {g : Nat} {t : TypeId} {a b c d e : Value} (h : w.heap[g]? = some (.cells #[a, b, c, d, e] t)) (u v x y z : Value) : (((((w.setCell ⟨g, 0, none⟩ u).setCell ⟨g, 1, none⟩ v).setCell ⟨g, 2, none⟩ x).setCell ⟨g, 3, none⟩ y).setCell ⟨g, 4, none⟩ z).heap[g]? = some (.cells #[u, v, x, y, z] t) :=
  set_row (set_row (set_row (set_row (set_row h u) v) x) y) z
theorem five_set {B : Nat} {w w1 : World} (h : Below B w w1) {g : Nat} (hg : B ≤ g) (u v x y z : Value) : Below B w (((((w1.setCell ⟨g, 0, none⟩ u).setCell ⟨g, 1, none⟩ v).setCell ⟨g, 2, none⟩ x).setCell ⟨g, 3, none⟩ y).setCell ⟨g, 4, none⟩ z) :=
  ((((h.setCell hg _).setCell hg _).setCell hg _).setCell hg _).setCell hg _
theorem okeep_row {w : World} {g h i : Nat} {v : Value} {O : Obj} (hne : g ≠ h) (k : w.heap[g]? = some O) : (w.setCell ⟨h, i, none⟩ v).heap[g]? = some O := by
  simp [World.setCell, Array.getElem?_modify, Ne.symm hne, k]
theorem keep6 {w : World} {g h : Nat} {O : Obj} (hne : g ≠ h) (k : w.heap[g]? = some O) (u v x y z o : Value) : ((((((w.setCell ⟨h, 0, none⟩ u).setCell ⟨h, 1, none⟩ v).setCell ⟨h, 2, none⟩ x).setCell ⟨h, 3, none⟩ y).setCell ⟨h, 4, none⟩ z).setCell ⟨h, 5, none⟩ o).heap[g]? = some O :=
  okeep_row hne (okeep_row hne (okeep_row hne (okeep_row hne (okeep_row hne (okeep_row hne k)))))
theorem keep5 {w : World} {g h : Nat} {O : Obj} (hne : g ≠ h) (k : w.heap[g]? = some O) (u v x y z : Value) : (((((w.setCell ⟨h, 0, none⟩ u).setCell ⟨h, 1, none⟩ v).setCell ⟨h, 2, none⟩ x).setCell ⟨h, 3, none⟩ y).setCell ⟨h, 4, none⟩ z).heap[g]? = some O :=
  okeep_row hne (okeep_row hne (okeep_row hne (okeep_row hne (okeep_row hne k))))
theorem obj_size : (Tryz.prog.info? 69).map (·.size) = some 6 := by kernel_rfl
set_option maxRecDepth 100000 in
set_option maxHeartbeats 1000000 in
theorem open_nil (p : Value) (a0 : Option Addr) (c0 : Nat) (t s : Int) (a : Option Addr) (n c : Nat) (w : World) (hf : Faces w p (.slice a0 0 c0)) :
    Calls Tryz.prog 24 #[p, planV t s a n c] w fun e' w' => e' = upE 1 ∧ Below w.heap.size w w' := by
  have cl := fun W (b : Below w.heap.size w W) => Len_at p a0 0 c0 W (hf.below b)
  obtain ⟨P, rfl⟩ : ∃ P, p = .pointer P := by
    rcases hf with ⟨rfl, _⟩ | ⟨A, rfl, _⟩
    · exact ⟨_, rfl⟩
    · exact ⟨_, rfl⟩
  clear hf
  go_enter Tryz.func24, Tryz.ntmps24
  go_wp2_with (first | (go_at_call 50; refine (cl _ (bel_three _ _ _ _)).mono ?_; rintro e w' ⟨rfl, hw⟩; rw [hw]; clear hw) | (go_at_call 51; refine (giveUp_any _ _).mono ?_; rintro e w' ⟨rfl, hw⟩; rw [hw]; clear hw))
  exact ⟨rfl, rfl, bel_three _ _ _ _⟩
set_option maxRecDepth 100000 in
set_option maxHeartbeats 1000000 in
theorem open_bad (t s : Int) (a : Option Addr) (n c : Nat) (ss : List ByteArray) (A B : Nat) (xs : List Int) (z : Int) (w : World) (hT : IsTab w (.slice a n c) ss) (ha : IsAr w A B xs) (hr : rgt t s ss = true) (hz : 3 + t + t + 2 * s = z) (hl : ((z : Int) != xs.length) = true) :
    Calls Tryz.prog 24 #[.pointer (some ⟨A, 0, none⟩), planV t s a n c] w fun e' w' => e' = upE 2 ∧ Below w.heap.size w w' := by
  have hn : ((xs.length : Int) == 0) = false := len_ne ha.pos
  have cl := fun W (b : Below w.heap.size w W) => Len_at _ _ _ _ W (ha.below b).faces
  have cz := fun W (b : Below w.heap.size w W) => LSize_at t s a n c ss W z 0 (hT.below (Nat.le_refl _) b) (hid (by unfold szv; rw [if_pos hr, hz]))
  clear ha hT hr hz
  go_enter Tryz.func24, Tryz.ntmps24
  go_wp2_with (first | (go_at_call 50; refine (cl _ (bel_three _ _ _ _)).mono ?_; rintro e w' ⟨rfl, hw⟩; rw [hw]; clear hw))
  go_wp2_with (first | (go_at_call 52; refine (cz _ (bel_three _ _ _ _)).mono ?_))
  rintro e w1 ⟨rfl, b1⟩
  have h0 := at_row (row3a b1) 0 rfl
  have B1 := hid (bel3 b1)
  clear b1
  go_wp2_with (first | (go_at_call 50; refine (cl _ B1.out).mono ?_; rintro e w' ⟨rfl, hw⟩; rw [hw]; clear hw) | (go_at_call 51; refine (giveUp_any _ _).mono ?_; rintro e w' ⟨rfl, hw⟩; rw [hw]; clear hw))
  exact ⟨rfl, rfl, B1.out⟩
set_option maxRecDepth 100000 in
set_option maxHeartbeats 1000000 in
theorem open_ok (t s : Int) (a : Option Addr) (n c : Nat) (ss : List ByteArray) (A B : Nat) (xs : List Int) (w : World) (h : IsHp w t s a n c ss A B xs) :
    Calls Tryz.prog 24 #[.pointer (some ⟨A, 0, none⟩), planV t s a n c] w fun e' w' => e' = .returned (objV t s a n c w.heap.size 0 0) ∧ w'.heap[w.heap.size]? = some (arO A) ∧ Below w.heap.size w w' := by
  have hn : ((xs.length : Int) == 0) = false := len_ne h.ar.pos
  have cl := fun W (b : Below w.heap.size w W) => Len_at _ _ _ _ W (h.ar.below b).faces
  have cz := fun W (b : Below w.heap.size w W) => LSize_at t s a n c ss W xs.length 0 (h.tab.below (Nat.le_refl _) b) (hid (by unfold szv; rw [if_pos h.rg, h.len]))
  clear h
  go_enter Tryz.func24, Tryz.ntmps24
  go_wp2_with (first | (go_at_call 50; refine (cl _ (bel_three _ _ _ _)).mono ?_; rintro e w' ⟨rfl, hw⟩; rw [hw]; clear hw))
  go_wp2_with (first | (go_at_call 52; refine (cz _ (bel_three _ _ _ _)).mono ?_))
  rintro e w1 ⟨rfl, b1⟩
  have R1 := hid (row3a b1)
  have R2 := hid (row3b b1)
  have R3 := hid (row3c b1)
  have h0 := at_row (row3a b1) 0 rfl
  have p0 := at_row R2.out 0 rfl
  have p1 := at_row R2.out 1 rfl
  have p2 := at_row R2.out 2 rfl
  have r0 := at_row R3.out 0 rfl
  have r1 := at_row R3.out 1 rfl
  have r2 := at_row R3.out 2 rfl
  have r3 := at_row R3.out 3 rfl
  have r4 := at_row R3.out 4 rfl
  have r5 := at_row R3.out 5 rfl
  have f0 := fz_row R3.out 0
  have f1 := fz_row R3.out 1
  have f2 := fz_row R3.out 2
  have f3 := fz_row R3.out 3
  have f4 := fz_row R3.out 4
  have f5 := fz_row R3.out 5
  have B1 := hid (bel3 b1)
  have hmf : ∀ (fn : Fn) (first cap : Array Value) (w : World), (Instr.makeFunc fn first cap).run Tryz.prog w = .ok (.func fn first cap) w := fun _ _ _ _ => rfl
  clear b1
  go_wp2_with (first | (go_at_call 50; refine (cl _ B1.out).mono ?_; rintro e w' ⟨rfl, hw⟩; rw [hw]; clear hw))
  refine bodyPost_ret (v := objV t s a n c w.heap.size 0 0) (results_cell_row Tryz.results24 _ _ (w.heap.size + 1 + 1) 69 _ (0, 0) _ rfl (set6_row R3.out _ _ _ _ _ _) Tryz.underlying69 rfl obj_size) rfl ⟨rfl, ?_, ?_⟩
  · exact keep6 (by omega) R1.out _ _ _ _ _ _
  · exact six_set B1.out (by omega) _ _ _ _ _ _
theorem kn_sp {t p : Int} (t0 : 1 ≤ t) (h : 3 + t + t ≤ p) : kn t p = 6 := by
  unfold kn
  rw [if_neg (by omega), if_neg (by omega), if_neg (by omega), if_neg (by omega), if_neg (by omega)]
abbrev parO (k x y : Int) : Obj := .cells #[.int .i64 k, .int .i64 x, .int .i64 y] 102
end Go.Proofs.YtldfmlkjeniemaaGreatDoor
/- package object: to. -/
namespace Go.Proofs.YtldfmlkjeniemaaGreatDoor
open Go.RowKit Go.Ly Go.Hd Go.Sh Go.Ob
/-- What is asked while an object is brought to its word. -/
abbrev ToS (g g2 : Nat) (s y : Int) (W : World) : Prop := W.cell? ⟨g, 1, none⟩ = some (.int .i64 s) ∧ W.cell? ⟨g2, 2, none⟩ = some (.int .i64 y)
theorem two_sets {B : Nat} {w w1 : World} (h : Below B w w1) {g i j : Nat} (hg : B ≤ g) (u v : Value) : Below B w ((w1.setCell ⟨g, i, none⟩ u).setCell ⟨g, j, none⟩ v) := (h.setCell hg _).setCell hg _
theorem row_drew {W : World} {g : Nat} {O : Obj} (h : W.heap[g]? = some O) : W.drew.heap[g]? = some O := h
theorem toS_set {g g2 j : Nat} {s y : Int} {W : World} {v : Value} (h : ToS g g2 s y W) (hg : g ≠ g2) (hj : j ≠ 1) : ToS g g2 s y (W.setCell ⟨g, j, none⟩ v) :=
  ⟨(World.cell?_setCell_other W _ _ v (fun e => hj (by cases e; rfl))).trans h.1, (World.cell?_setCell_other W _ _ v (fun e => hg (by cases e; rfl))).trans h.2⟩
set_option maxRecDepth 100000 in
set_option maxHeartbeats 2000000 in
theorem to_no (t s : Int) (a : Option Addr) (n c : Nat) (ss : List ByteArray) (f : Value) (p e x : Int) (w : World) (hT : IsTab w (.slice a n c) ss) (hr : rgt t s ss = true) (hf : ∃ fn fi cp, f = .func fn fi cp) (hx : spc t s x = false) :
    Calls Tryz.prog 25 #[.agg #[.int .i64 t, .int .i64 s, .slice a n c, f, .int .i64 p, .int .i64 e], .int .i64 x] w fun e' w' => e' = upE 4 ∧ Below w.heap.size w w' := by
  obtain ⟨fn, fi, cp, rfl⟩ := hf
  obtain ⟨t0, t1, s0, s1, _⟩ := rgt_yes hr
  have b0 := bel_two w (.cells #[.int .i64 t, .int .i64 s, .slice a n c, .func fn fi cp, .int .i64 p, .int .i64 e] 69) (.cells #[.int .i64 0, .int .i64 0, .slice none 0 0, .nilFunc, .int .i64 0, .int .i64 0] 69)
  by_cases h0 : 0 ≤ x ∧ x < 3 + t + t + 2 * s
  · have hk : 3 + t + t > x := by simp [spc] at hx; omega
    obtain ⟨k, y, z, hp⟩ : ∃ k y z, pt t s x = (k, y, z) := ⟨_, _, _, rfl⟩
    have cp' := Part_in t s x k y z a n c ss _ (hT.below (Nat.le_refl _) b0) hr h0.1 h0.2 hp
    have k6 : (k != 6) = true := by
      rcases pt_is s0 h0.1 h0.2 with ⟨_, h⟩ | ⟨_, h⟩ | ⟨_, h⟩ | ⟨_, _, h⟩ | ⟨_, _, h⟩ | ⟨h, _⟩ | ⟨h, _⟩
      all_goals first | omega | (rw [h] at hp; simp only [Prod.mk.injEq] at hp; obtain ⟨rfl, _⟩ := hp; rfl)
    clear hT hp hx h0
    go_enter Tryz.func25, Tryz.ntmps25
    go_wp2_with (first | (go_at_call 55; refine cp'.mono ?_; rintro e1 w1 ⟨rfl, b1⟩) | (go_at_call 51; refine (giveUp_any _ _).mono ?_; rintro e w' ⟨rfl, hw⟩; rw [hw]; clear hw))
    exact ⟨rfl, rfl, (bel2 b1).trans (below_alloc0 _ _ |>.mono (bel2 b1).size)⟩
  · have cp' := Part_out t s x a n c ss _ (hT.below (Nat.le_refl _) b0) hr (hid (by simp; omega))
    clear hT hx h0
    go_enter Tryz.func25, Tryz.ntmps25
    go_wp2_with (first | (go_at_call 55; refine cp'.mono ?_; rintro e1 w1 ⟨rfl, b1⟩) | (go_at_call 51; refine (giveUp_any _ _).mono ?_; rintro e w' ⟨rfl, hw⟩; rw [hw]; clear hw))
    exact ⟨rfl, rfl, (bel2 b1).trans (below_alloc0 _ _ |>.mono (bel2 b1).size)⟩
set_option maxRecDepth 100000 in
set_option maxHeartbeats 4000000 in
theorem to_ok (t s : Int) (a : Option Addr) (n c : Nat) (ss : List ByteArray) (L : Nat) (p e x : Int) (w : World) (hT : IsTab w (.slice a n c) ss) (hr : rgt t s ss = true) (hx : spc t s x = true) :
    Calls Tryz.prog 25 #[objV t s a n c L p e, .int .i64 x] w fun e' w' => e' = .returned (objV t s a n c L x (eo t s x)) ∧ Below w.heap.size w w' := by
  obtain ⟨t0, t1, s0, s1, _⟩ := rgt_yes hr
  have b0 := bel_two w (objO t s a n c L p e) (.cells #[.int .i64 0, .int .i64 0, .slice none 0 0, .nilFunc, .int .i64 0, .int .i64 0] 69)
  have hx' : 3 + t + t ≤ x ∧ x < 3 + t + t + 2 * s := by simpa [spc] using hx
  obtain ⟨q, y, hy, hp⟩ : ∃ q y, Hid ((x - (3 + t + t)) % s = y) ∧ pt t s x = (6, q, y) := ⟨_, _, hid rfl, by unfold pt; rw [kn_sp t0 hx'.1, bs6]; rfl⟩
  have cp' := Part_in t s x 6 q y a n c ss _ (hT.below (Nat.le_refl _) b0) hr (by omega) hx'.2 hp
  have y0 : 0 ≤ y := by rw [← hy.out]; exact Int.emod_nonneg _ (by omega)
  have y1 : y < s := by rw [← hy.out]; exact Int.emod_lt_of_pos _ (by omega)
  have HE : Hid (x - y + s = eo t s x) := hid (by rw [← hy.out]; rfl)
  have x0 : 0 ≤ x := by omega
  have x9 : x ≤ 20000 := by omega
  clear hT hp hx hx' hy
  generalize eo t s x = E at *
  go_enter Tryz.func25, Tryz.ntmps25
  go_wp2_with (first | (go_at_call 55; refine cp'.mono ?_))
  rintro e1 w1 ⟨rfl, b1⟩
  have R1 := hid (row2a b1)
  have R2 := hid (row2b b1)
  have B1 := hid (bel2 b1)
  have z1 := siz2 b1
  clear b1
  go_wp2_with fail
  have RP := hid (heap_alloc_last w1 (parO 6 q y))
  have R1' := hid (row_below R1.out (below_alloc0 w1 (parO 6 q y)))
  have R2' := hid (row_below R2.out (below_alloc0 w1 (parO 6 q y)))
  have B2 := hid (B1.out.trans ((below_alloc0 w1 (parO 6 q y)).mono B1.out.size))
  have hne : w.heap.size ≠ w1.heap.size := by omega
  generalize w1.alloc (.cells #[.int .i64 6, .int .i64 q, .int .i64 y] 102) = W at *
  generalize w1.heap.size = g2 at *
  clear R1 R2 B1 cp' b0 z1
  have HS := hid (show ToS w.heap.size g2 s y W from ⟨at_row R1'.out 1 rfl, at_row RP.out 2 rfl⟩)
  have c4 := at_row R1'.out 4 rfl
  have c5 := at_row R1'.out 5 rfl
  have f4 := fz_row R1'.out 4
  have f5 := fz_row R1'.out 5
  go_region_held3 (ToS w.heap.size g2 s y) (first | assumption | exact HS.out | (refine toS_set ?_ hne (by decide); first | assumption | exact HS.out)) (fail)
  have hw : IntKind.i64.wrap (IntKind.i64.wrap (x - y) + s) = E := by
    rw [IntWalk.i64_in (x - y) ⟨by omega, by omega⟩, IntWalk.i64_in _ ⟨by omega, by omega⟩, HE.out]
  rw [hw]
  have Rg := set_row (set_row R1'.out (.int .i64 x) (i := 4)) (.int .i64 E) (i := 5)
  have R2n := okeep_row (i := 5) (v := .int .i64 E) (show w.heap.size + 1 ≠ w.heap.size by omega) (okeep_row (i := 4) (v := .int .i64 x) (show w.heap.size + 1 ≠ w.heap.size by omega) R2'.out)
  have B3 := hid ((two_sets B2.out (by omega) (.int .i64 x) (.int .i64 E) (i := 4) (j := 5) (g := w.heap.size)).drew)
  clear hw c4 c5 f4 f5 HS RP R1' R2' B2
  rename_i hH
  clear hH
  have Rg' := row_drew Rg
  have R2' := row_drew R2n
  clear Rg R2n
  generalize ((W.setCell ⟨w.heap.size, 4, none⟩ (.int .i64 x)).setCell ⟨w.heap.size, 5, none⟩ (.int .i64 E)).drew = W3 at *
  have HR2 := hid R2'
  have d0 := at_row Rg' 0 rfl
  have d1 := at_row Rg' 1 rfl
  have d2 := at_row Rg' 2 rfl
  have d3 := at_row Rg' 3 rfl
  have d4 := at_row Rg' 4 rfl
  have d5 := at_row Rg' 5 rfl
  have e0 := at_row R2' 0 rfl
  have e1 := at_row R2' 1 rfl
  have e2 := at_row R2' 2 rfl
  have e3 := at_row R2' 3 rfl
  have e4 := at_row R2' 4 rfl
  have e5 := at_row R2' 5 rfl
  have f0 := fz_row R2' 0
  have f1 := fz_row R2' 1
  have f2 := fz_row R2' 2
  have f3 := fz_row R2' 3
  have f4 := fz_row R2' 4
  have f5 := fz_row R2' 5
  clear Rg' R2'
  go_wp2
  refine bodyPost_ret (v := objV t s a n c L x E) (results_cell_row Tryz.results25 _ _ (w.heap.size + 1) 69 _ (0, 0) _ rfl (set6_row HR2.out _ _ _ _ _ _) Tryz.underlying69 rfl obj_size) rfl ⟨rfl, ?_⟩
  exact six_set B3.out (by omega) _ _ _ _ _ _
end Go.Proofs.YtldfmlkjeniemaaGreatDoor
