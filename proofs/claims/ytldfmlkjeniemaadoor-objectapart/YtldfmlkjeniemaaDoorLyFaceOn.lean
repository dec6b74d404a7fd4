/- package layout: Check, Size, Ack, List, Base, Part. -/
import Derived.Test.YtldfmlkjeniemaaDoorLyTop
import Derived.Test.YtldfmlkjeniemaaDoorLyPrt
import Derived.Test.YtldfmlkjeniemaaDoorShLeafOn
import Derived.Test.YtldfmlkjeniemaaDoorHdTopOn
import Derived.Test.YtldfmlkjeniemaaDoorWdOfOn
import Derived.Test.YtldfmlkjeniemaaDoorHdLeafOn
import Derived.RangeFuncBox
import Derived.Maps.AppendAt
namespace Go.Proofs.YtldfmlkjeniemaaDoor
open Go.RowKit Go.Ly Go.Sh
/-- What Size answers. -/
def szv (t s : Int) (ss : List ByteArray) : Int × Int := if rgt t s ss = true then (3 + t + t + 2 * s, 0) else (0, 2)
set_option maxRecDepth 100000 in
set_option maxHeartbeats 4000000 in
theorem LSize_at (t s : Int) (a : Option Addr) (n c : Nat) (ss : List ByteArray) (w : World) (v e' : Int) (hT : IsTab w (.slice a n c) ss) (h : Hid (szv t s ss = (v, e'))) :
    Calls Tryd.prog 45 #[planV t s a n c] w fun e w' => e = .returned (.tuple #[.int .i64 v, .int .i64 e']) ∧ Below w.heap.size w w' := by
  have HT := hid hT
  clear hT
  have h := h.out
  unfold szv at h
  rcases Bool.eq_false_or_eq_true (rgt t s ss) with hr | hr
  · rw [if_pos hr] at h
    simp only [Prod.mk.injEq] at h
    obtain ⟨rfl, rfl⟩ := h
    obtain ⟨t0, t1, s0, s1, _⟩ := rgt_yes hr
    have cm := fun W h => lpmay_any t s a n c ss W h
    simp only [hr] at cm
    have cs := fun W => size_at t s a n c W t0 t1 s0 s1
    go_enter Tryd.func45, Tryd.ntmps45
    go_wp2_with (go_at_call 64; refine (cm _ (HT.out.below (Nat.le_refl _) (bel2 (Below.refl _ _)))).mono ?_)
    rintro e w1 ⟨rfl, b1⟩
    have B1 := hid (bel2 b1)
    have Rp := row2b b1
    clear b1
    have p0 := at_row Rp 0 rfl
    have p1 := at_row Rp 1 rfl
    have p2 := at_row Rp 2 rfl
    clear Rp
    go_wp2_with (go_at_call 65; refine (cs _).mono ?_; rintro e w2 ⟨rfl, b2⟩)
    go_ret2
    exact ⟨rfl, B1.out.trans (b2.mono B1.out.size)⟩
  · rw [if_neg (by simp [hr])] at h
    simp only [Prod.mk.injEq] at h
    obtain ⟨rfl, rfl⟩ := h
    have cm := fun W h => lpmay_any t s a n c ss W h
    simp only [hr] at cm
    go_enter Tryd.func45, Tryd.ntmps45
    go_wp2_with (go_at_call 64; refine (cm _ (HT.out.below (Nat.le_refl _) (bel2 (Below.refl _ _)))).mono ?_; rintro e w1 ⟨rfl, b1⟩)
    go_ret2
    exact ⟨rfl, bel2 b1⟩
theorem Base_at (t s x : Int) (v e' : Int) (a : Option Addr) (n c : Nat) (ss : List ByteArray) (w : World) (hT : IsTab w (.slice a n c) ss) (hL : LNums w) (h : Hid (atv t s ss 6 x 0 = (v, e'))) :
    Calls Tryd.prog 52 #[planV t s a n c, .int .i64 x] w fun e w' => e = .returned (.tuple #[.int .i64 v, .int .i64 e']) ∧ Below w.heap.size w w' := by
  have ca := At_at t s 6 x 0 v e' a n c ss _ (hT.below (Nat.le_refl _) (below_alloc0 w (.cells #[.int .i64 t, .int .i64 s, .slice a n c] 24))) (hL.below (below_alloc0 w _)) h
  clear hT hL h
  go_enter Tryd.func52, Tryd.ntmps52
  go_wp2_with (go_at_call 70; refine ca.mono ?_; rintro e w1 ⟨rfl, b1⟩)
  go_ret2
  exact ⟨rfl, bel1 b1⟩
theorem part_any (t s at_ k x y : Int) (a : Option Addr) (n c : Nat) (w : World) (t0 : 1 ≤ t) (t1 : t ≤ 8) (s0 : 32 ≤ s) (s1 : s ≤ 4096) (a0 : 0 ≤ at_) (a1 : at_ < 3 + t + t + 2 * s) (h : pt t s at_ = (k, x, y)) :
    Calls Tryd.prog 67 #[planV t s a n c, .int .i64 at_] w fun e w' => e = .returned (partV k x y) ∧ Below w.heap.size w w' := by
  have hl := fun j j0 j1 => kn_lt t s at_ j j0 j1 t0 a0
  unfold pt at h
  rcases kn_cases t at_ with e | e | e | e | e | e <;> rw [e] at h <;> simp only [Prod.mk.injEq] at h <;> obtain ⟨rfl, rfl, rfl⟩ := h
  · exact part_1 t s at_ a n c _ _ w t0 t1 s0 s1 a0 (by omega) e (by rw [bs1]; exact rfl) (by rw [bs1]; exact rfl) (by omega)
  · have := hl 2 (by omega) (by omega); rw [bs2] at this
    exact part_2 t s at_ a n c _ _ w t0 t1 s0 s1 a0 (by omega) e (by rw [bs2]; exact rfl) (by rw [bs2]; exact rfl) (by omega)
  · have := hl 3 (by omega) (by omega); rw [bs3] at this
    exact part_3 t s at_ a n c _ _ w t0 t1 s0 s1 a0 (by omega) e (by rw [bs3]; exact rfl) (by rw [bs3]; exact rfl) (by omega)
  · have := hl 4 (by omega) (by omega); rw [bs4] at this
    exact part_4 t s at_ a n c _ _ w t0 t1 s0 s1 a0 (by omega) e (by rw [bs4]; exact rfl) (by rw [bs4]; exact rfl) (by omega)
  · have := hl 5 (by omega) (by omega); rw [bs5] at this
    exact part_5 t s at_ a n c _ _ w t0 t1 s0 s1 a0 (by omega) e (by rw [bs5]; exact rfl) (by rw [bs5]; exact rfl) (by omega)
  · have := hl 6 (by omega) (by omega); rw [bs6] at this
    exact part_6 t s at_ a n c _ _ w t0 t1 s0 s1 a0 (by omega) e (by rw [bs6]; exact rfl) (by rw [bs6]; exact rfl) (by omega)
/-- What Part answers. -/
def ptv (t s : Int) (ss : List ByteArray) (at_ : Int) : Int × Int × Int × Int :=
  if rgt t s ss = true then (if 0 ≤ at_ ∧ at_ < 3 + t + t + 2 * s then ((pt t s at_).1, (pt t s at_).2.1, (pt t s at_).2.2, 0) else (0, 0, 0, 4)) else (0, 0, 0, 2)
abbrev zPart : Obj := .cells #[.int .i64 0, .int .i64 0, .int .i64 0] 93
set_option maxRecDepth 100000 in
set_option maxHeartbeats 4000000 in
theorem Part_no (t s at_ : Int) (a : Option Addr) (n c : Nat) (ss : List ByteArray) (w : World) (hT : IsTab w (.slice a n c) ss) (hr : rgt t s ss = false) :
    Calls Tryd.prog 48 #[planV t s a n c, .int .i64 at_] w fun e w' => e = .returned (.tuple #[partV 0 0 0, .int .i64 2]) ∧ Below w.heap.size w w' := by
  have cm := fun W h => lpmay_any t s a n c ss W h
  simp only [hr] at cm
  have HT := hid hT
  clear hT
  go_enter Tryd.func48, Tryd.ntmps48
  go_wp2_with (go_at_call 64; refine (cm _ (HT.out.below (Nat.le_refl _) (bel3 (Below.refl _ _)))).mono ?_)
  rintro e w1 ⟨rfl, b1⟩
  have B1 := hid (bel3 b1)
  have Rx := row3b b1
  clear b1
  have d0 := at_row Rx 0 rfl
  have d1 := at_row Rx 1 rfl
  have d2 := at_row Rx 2 rfl
  have f0 := fz_row Rx 0
  have f1 := fz_row Rx 1
  have f2 := fz_row Rx 2
  go_wp2
  refine bodyPost_ret (v := .tuple #[partV 0 0 0, .int .i64 2]) (by simp [results, Tryd.results48, go_sem, d0, d1, d2]) rfl ⟨rfl, ?_⟩
  exact three_set B1.out (by omega) _ _ _
set_option maxRecDepth 100000 in
set_option maxHeartbeats 4000000 in
theorem Part_out (t s at_ : Int) (a : Option Addr) (n c : Nat) (ss : List ByteArray) (w : World) (hT : IsTab w (.slice a n c) ss) (hr : rgt t s ss = true) (ho : Hid ((decide (0 ≤ at_) && decide (at_ ≤ 3 + t + t + 2 * s - 1)) = false)) :
    Calls Tryd.prog 48 #[planV t s a n c, .int .i64 at_] w fun e w' => e = .returned (.tuple #[partV 0 0 0, .int .i64 4]) ∧ Below w.heap.size w w' := by
  obtain ⟨t0, t1, s0, s1, _⟩ := rgt_yes hr
  have cm := fun W h => lpmay_any t s a n c ss W h
  simp only [hr] at cm
  have cs := fun W => size_at t s a n c W t0 t1 s0 s1
  have HT := hid hT
  clear hT
  have z0 : 35 ≤ 3 + t + t + 2 * s := by omega
  have z1 : 3 + t + t + 2 * s ≤ 20000 := by omega
  generalize 3 + t + t + 2 * s = z at *
  go_enter Tryd.func48, Tryd.ntmps48
  go_wp2_with (go_at_call 64; refine (cm _ (HT.out.below (Nat.le_refl _) (bel3 (Below.refl _ _)))).mono ?_)
  rintro e w1 ⟨rfl, b1⟩
  have B1 := hid (bel3 b1)
  have HRx := hid (row3b b1)
  have Rp := row3c b1
  clear b1
  have p0 := at_row Rp 0 rfl
  have p1 := at_row Rp 1 rfl
  have p2 := at_row Rp 2 rfl
  clear Rp
  go_wp2_with (go_at_call 65; refine (cs _).mono ?_)
  rintro e w2 ⟨rfl, b2⟩
  have B2 := hid (B1.out.trans (b2.mono B1.out.size))
  have HRx2 := hid (row_below HRx.out b2)
  clear p0 p1 p2 b2 B1 HRx
  go_wp2_with (go_at_call 66; refine (lwithin_at 0 (z - 1) _).mono ?_)
  rintro e w3 ⟨ga, gb, rfl, W3, b3⟩
  have B3 := hid (B2.out.trans (b3.mono B2.out.size))
  have HRx3 := hid (row_below HRx2.out b3)
  clear b3 B2 HRx2
  go_wp2_with (go_at_call 81; refine (lwin_new 0 (z - 1) at_ ga gb _ w3 W3 ho).mono ?_)
  rintro e w4 ⟨rfl, b4⟩
  have B4 := hid (B3.out.trans (b4.mono B3.out.size))
  have Rx := row_below HRx3.out b4
  clear b4 B3 HRx3 W3
  have d0 := at_row Rx 0 rfl
  have d1 := at_row Rx 1 rfl
  have d2 := at_row Rx 2 rfl
  have f0 := fz_row Rx 0
  have f1 := fz_row Rx 1
  have f2 := fz_row Rx 2
  go_wp2
  refine bodyPost_ret (v := .tuple #[partV 0 0 0, .int .i64 4]) (by simp [results, Tryd.results48, go_sem, d0, d1, d2]) rfl ⟨rfl, ?_⟩
  exact three_set B4.out (by omega) _ _ _
set_option maxRecDepth 100000 in
set_option maxHeartbeats 4000000 in
theorem Part_in (t s at_ k x y : Int) (a : Option Addr) (n c : Nat) (ss : List ByteArray) (w : World) (hT : IsTab w (.slice a n c) ss) (hr : rgt t s ss = true) (a0 : 0 ≤ at_) (a1 : at_ < 3 + t + t + 2 * s) (h : pt t s at_ = (k, x, y)) :
    Calls Tryd.prog 48 #[planV t s a n c, .int .i64 at_] w fun e w' => e = .returned (.tuple #[partV k x y, .int .i64 0]) ∧ Below w.heap.size w w' := by
  obtain ⟨t0, t1, s0, s1, _⟩ := rgt_yes hr
  have cm := fun W h => lpmay_any t s a n c ss W h
  simp only [hr] at cm
  have cs := fun W => size_at t s a n c W t0 t1 s0 s1
  have cp := fun W => part_any t s at_ k x y a n c W t0 t1 s0 s1 a0 a1 h
  have HT := hid hT
  clear hT h
  have z0 : 35 ≤ 3 + t + t + 2 * s := by omega
  have z1 : 3 + t + t + 2 * s ≤ 20000 := by omega
  generalize 3 + t + t + 2 * s = z at *
  have ho : Hid ((decide (0 ≤ at_) && decide (at_ ≤ z - 1)) = true) := hid (by simp; omega)
  go_enter Tryd.func48, Tryd.ntmps48
  go_wp2_with (go_at_call 64; refine (cm _ (HT.out.below (Nat.le_refl _) (bel3 (Below.refl _ _)))).mono ?_)
  rintro e w1 ⟨rfl, b1⟩
  have B1 := hid (bel3 b1)
  have HRx := hid (row3b b1)
  have Rp := row3c b1
  have HRp := hid Rp
  clear b1
  have p0 := at_row Rp 0 rfl
  have p1 := at_row Rp 1 rfl
  have p2 := at_row Rp 2 rfl
  clear Rp
  go_wp2_with (go_at_call 65; refine (cs _).mono ?_)
  rintro e w2 ⟨rfl, b2⟩
  have B2 := hid (B1.out.trans (b2.mono B1.out.size))
  have HRx2 := hid (row_below HRx.out b2)
  have HRp2 := hid (row_below HRp.out b2)
  clear p0 p1 p2 b2 B1 HRx HRp
  go_wp2_with (go_at_call 66; refine (lwithin_at 0 (z - 1) _).mono ?_)
  rintro e w3 ⟨ga, gb, rfl, W3, b3⟩
  have B3 := hid (B2.out.trans (b3.mono B2.out.size))
  have HRx3 := hid (row_below HRx2.out b3)
  have HRp3 := hid (row_below HRp2.out b3)
  clear b3 B2 HRx2 HRp2
  go_wp2_with (go_at_call 81; refine (lwin_new 0 (z - 1) at_ ga gb _ w3 W3 ho).mono ?_)
  rintro e w4 ⟨rfl, b4⟩
  have B4 := hid (B3.out.trans (b4.mono B3.out.size))
  have HRx4 := hid (row_below HRx3.out b4)
  have Rp := row_below HRp3.out b4
  clear b4 B3 HRx3 HRp3 W3
  have p0 := at_row Rp 0 rfl
  have p1 := at_row Rp 1 rfl
  have p2 := at_row Rp 2 rfl
  clear Rp
  go_wp2_with (go_at_call 67; refine (cp _).mono ?_)
  rintro e w5 ⟨rfl, b5⟩
  have B5 := hid (B4.out.trans (b5.mono B4.out.size))
  have Rx := row_below HRx4.out b5
  clear b5 B4 HRx4 p0 p1 p2
  have d0 := at_row Rx 0 rfl
  have d1 := at_row Rx 1 rfl
  have d2 := at_row Rx 2 rfl
  have f0 := fz_row Rx 0
  have f1 := fz_row Rx 1
  have f2 := fz_row Rx 2
  go_wp2
  refine bodyPost_ret (v := .tuple #[partV k x y, .int .i64 0]) (by simp [results, Tryd.results48, go_sem, d0, d1, d2]) rfl ⟨rfl, ?_⟩
  exact three_set B5.out (by omega) _ _ _
theorem Part_at (t s at_ : Int) (k x y e' : Int) (a : Option Addr) (n c : Nat) (ss : List ByteArray) (w : World) (hT : IsTab w (.slice a n c) ss) (h : Hid (ptv t s ss at_ = (k, x, y, e'))) :
    Calls Tryd.prog 48 #[planV t s a n c, .int .i64 at_] w fun e w' => e = .returned (.tuple #[partV k x y, .int .i64 e']) ∧ Below w.heap.size w w' := by
  have h := h.out
  unfold ptv at h
  rcases Bool.eq_false_or_eq_true (rgt t s ss) with hr | hr
  · rw [if_pos hr] at h
    by_cases hi : 0 ≤ at_ ∧ at_ < 3 + t + t + 2 * s
    · rw [if_pos hi] at h
      simp only [Prod.mk.injEq] at h
      obtain ⟨rfl, rfl, rfl, rfl⟩ := h
      exact Part_in t s at_ _ _ _ a n c ss w hT hr hi.1 hi.2 rfl
    · rw [if_neg hi] at h
      simp only [Prod.mk.injEq] at h
      obtain ⟨rfl, rfl, rfl, rfl⟩ := h
      exact Part_out t s at_ a n c ss w hT hr (hid (by rw [Bool.eq_false_iff]; simp; omega))
  · rw [if_neg (by simp [hr])] at h
    simp only [Prod.mk.injEq] at h
    obtain ⟨rfl, rfl, rfl, rfl⟩ := h
    exact Part_no t s at_ a n c ss w hT hr
end Go.Proofs.YtldfmlkjeniemaaDoor
/- package layout: firstObject: the words of the object that stands in the first space at the start. -/
namespace Go.Proofs.YtldfmlkjeniemaaDoor
open Go.RowKit Go.Ly Go.Sh Go.Shelf
attribute [local go_sem] Oper.semAt_some
/-- A field and whether it is a scalar's. -/
def bI (b : Bool) : Int := if b then 1 else 0
theorem bI_t : bI true = 1 := rfl
theorem bI_f : bI false = 0 := rfl
abbrev encB (x : Nat × Bool) : Array Value := #[Value.int .i64 (x.1 : Int), Value.int .i64 (bI x.2)]
def elB (s : ByteArray) (i : Nat) : Nat × Bool := (i, s.data.toList.getD i 0 == 115)
theorem elB_enc (s : ByteArray) (i : Nat) : encB (elB s i) = encF (fieldAt s i) := by
  simp only [encB, elB, encF, fieldAt, kb, bI, beq_iff_eq]
/-- What a field holds at the start. -/
def fwd (b : Bool) : Int := if b then 4611686018427387908 else 0
def vals (pre : List (Nat × Bool)) : List Value := .int .u64 6 :: .int .u64 0 :: pre.map fun x => .int .u64 (fwd x.2)
theorem vals_len (pre : List (Nat × Bool)) : (vals pre).length = 2 + pre.length := by simp [vals]; omega
theorem vals_snoc (pre : List (Nat × Bool)) (x : Nat × Bool) : vals (pre ++ [x]) = vals pre ++ [.int .u64 (fwd x.2)] := by simp [vals]
theorem linfo_u64 : (Tryd.prog.info? 50).map (fun i => (i.zero, i.size, i.bytes)) = some (some (.int .u64 0), 1, 8) := by kernel_rfl
/-- What the loop keeps: the box of the list, the list's own row. -/
def FiB (w : World) (B : Nat) (v : Value) (pre : List (Nat × Bool)) (W : World) : Prop :=
  Boxed W B 25 v ∧ W.ownsRow w.heap.size 50 1 v (2 + pre.length) (vals pre) ∧ Below w.heap.size w W
theorem fown_kept {A B : World} {row : Option Nat} {base k : Nat} {e : TypeId} {size : Nat} {v : Value} {vs : List Value} (hr : A.ownsRow base e size v k vs) (hg : A.grownBy B row) (hrow : ∀ r, row = some r → ∃ o : Obj, A.heap[r]? = some o ∧ o.isCells = false) : B.ownsRow base e size v k vs := by
  refine hr.kept hg ?_
  rcases hr.2 with ⟨rfl, _⟩ | ⟨g, cap, cur, rfl, _, hgb, _⟩
  · exact .inl rfl
  · refine .inr fun e' => ?_
    obtain ⟨o, ho, hc⟩ := hrow g (by simpa [Value.ownBlock] using e'.symm)
    rw [hgb] at ho; cases ho; cases hc
theorem FiB.own {w A B : World} {X : Nat} {v : Value} {pre : List (Nat × Bool)} {row : Option Nat} {C : Nat} (h : FiB w X v pre A) (hC : w.heap.size ≤ C) (hg : A.grownBy B row) (hr : ∀ r, row = some r → C ≤ r ∧ ∃ o : Obj, A.heap[r]? = some o ∧ o.isCells = false) : FiB w X v pre B :=
  ⟨box_own h.1 hg (fun r e => (hr r e).2), fown_kept h.2.1 hg (fun r e => (hr r e).2), h.2.2.grown hg h.2.2.size (fun k e => Nat.le_trans hC (hr k e).1)⟩
theorem FiB.below {w A B : World} {X : Nat} {v : Value} {pre : List (Nat × Bool)} (h : FiB w X v pre A) (b : Below A.heap.size A B) : FiB w X v pre B :=
  ⟨(b.block X h.1.lt).trans h.1, fown_kept (row := none) h.2.1 (grown_of_below b) (fun r e => by cases e), h.2.2.trans (b.mono h.2.2.size)⟩
theorem fiB_start (w w1 : World) (z : Value) (hb : Below w.heap.size w w1) : FiB w (w1.heap.size + 1) (.slice (some ⟨w1.heap.size, 0, none⟩) 2 2) [] (((w1.alloc (.cells #[.int .u64 (Hd.wd 0 0), .int .u64 0] 50)).alloc (.cells #[.slice (some ⟨w1.heap.size, 0, none⟩) 2 2] 25)).alloc (.cells #[z] 63)) := by
  have hs := hb.size
  refine ⟨?_, ⟨by simp [vals], .inr ⟨w1.heap.size, 2, #[.int .u64 (Hd.wd 0 0), .int .u64 0], rfl, hs, ?_, by simp, by unfold maxLen; omega, by simp, rfl⟩⟩, ((hb.alloc hs _).alloc (by simp; omega) _).alloc (by simp; omega) _⟩
  · have := (Boxed.new (w1.alloc (.cells #[.int .u64 (Hd.wd 0 0), .int .u64 0] 50)) 25 (.slice (some ⟨w1.heap.size, 0, none⟩) 2 2)).alloc (.cells #[z] 63)
    rwa [World.size_alloc] at this
  · exact row3a (Below.refl _ _)
theorem mkW_null : Wd.mkW 1 false 0 = 0 := by decide
theorem mkW_scal : Wd.mkW 3 false 0 = 4611686018427387908 := by decide
/-- The words of the first object. -/
def fobj (x : ByteArray) : List Int := 6 :: 0 :: upto (fun i => fwd (x.data.toList.getD i 0 == 115)) x.size
theorem fobj_len (x : ByteArray) : (fobj x).length = 2 + x.size := by simp [fobj, upto_length]; omega
theorem fobj_vals (x : ByteArray) : vals (upto (elB x) x.size) = (fobj x).map (Value.int .u64) := by simp [vals, fobj, upto, elB]
end Go.Proofs.YtldfmlkjeniemaaDoor
/- The document's functions (lapidaryref03): One, Right, Size, Most, Kind, Is. -/
namespace Go.Proofs.YtldfmlkjeniemaaDoor
open Go.RowKit Go.Sh
theorem get_data (s : ByteArray) (k : Nat) (h : k < s.size) : s.data.toList.getD k 0 = s[k]'h := by
  have hl : k < s.data.toList.length := by rw [Array.length_toList]; exact h
  rw [List.getD_eq_getElem?_getD, List.getElem?_eq_getElem hl, Option.getD_some]
  rfl
theorem ne112 {b : UInt8} (h : ¬ b = 112) : ((b.toNat : Int) == 112) = false := by
  rw [beq_eq_false_iff_ne]
  intro e
  apply h
  apply UInt8.toNat_inj.1
  simp
  omega
theorem ne115 {b : UInt8} (h : ¬ b = 115) : ((b.toNat : Int) == 115) = false := by
  rw [beq_eq_false_iff_ne]
  intro e
  apply h
  apply UInt8.toNat_inj.1
  simp
  omega
theorem bne_of {a b : Int} (h : (a == b) = false) : (a != b) = true := by simp [bne, h]
theorem bne_no {a b : Int} (h : (a == b) = true) : (a != b) = false := by simp [bne, h]
theorem rOne_long (s : ByteArray) (w : World) (h : 8 < s.size) : Calls Tryd.prog 60 #[.string s] w fun e w' => e = .returned (.bool false) ∧ w' = w := by
  have h' : (8 : Int) < (s.size : Int) := by omega
  go_enter Tryd.func60, Tryd.ntmps60
  go_wp2
  go_ret
  exact ⟨rfl, rfl⟩
set_option maxRecDepth 100000 in
set_option maxHeartbeats 2000000 in
theorem rOne_short (s : ByteArray) (w : World) (h : s.size ≤ 8) : Calls Tryd.prog 60 #[.string s] w fun e w' => e = .returned (.bool (one s)) ∧ w' = w := by
  have h' : (s.size : Int) ≤ 8 := by omega
  go_enter Tryd.func60, Tryd.ntmps60
  go_wp2
  go_loopw [3] (fun i wr => ∃ k : Nat, k ≤ s.size ∧ i = .int .i64 k ∧ wr = w ∧ Hid (∀ j, j < k → okB (s.data.toList.getD j 0) = true)) (fun i _ => s.size - (intOf i).toNat)
  case atStart => exact ⟨0, by omega, rfl, rfl, hid (fun j hj => by omega)⟩
  case round =>
    obtain ⟨k, hk, rfl, rfl, hall⟩ := hrel
    by_cases hlt : k < s.size
    · by_cases h1 : s[k]'hlt = 112
      · have HK := hid h1
        go_wp2
        refine ⟨⟨k + 1, by omega, by simp, trivial, hid (fun j hj => ?_)⟩, by simp [intOf]; omega⟩
        by_cases hj2 : j < k
        · exact hall.out j hj2
        · obtain rfl : j = k := by omega
          rw [get_data s j hlt]; rw [HK.out]; rfl
      · have e1 := bne_of (ne112 h1)
        by_cases h2 : s[k]'hlt = 115
        · have HK := hid h2
          have e2 : (((s[k]'hlt).toNat : Int) != 115) = false := by rw [h2]; rfl
          clear h1 h2
          go_wp2
          refine ⟨⟨k + 1, by omega, by simp, trivial, hid (fun j hj => ?_)⟩, by simp [intOf]; omega⟩
          by_cases hj2 : j < k
          · exact hall.out j hj2
          · obtain rfl : j = k := by omega
            rw [get_data s j hlt]; rw [HK.out]; rfl
        · have e2 := bne_of (ne115 h2)
          have HN : Hid (one s = false) := hid (one_no s k hlt (by rw [get_data s k hlt]; simp [okB, h1, h2]))
          clear h1 h2
          go_wp2
          go_ret
          exact ⟨ret_bool HN.out.symm, rfl⟩
    · obtain rfl : k = s.size := by omega
      have HN := hid (all_upto s s.size hall.out (Nat.le_refl _) h)
      go_wp2
      go_ret
      exact ⟨ret_bool HN.out.symm, rfl⟩
theorem rOne_any (s : ByteArray) (w : World) : Calls Tryd.prog 60 #[.string s] w fun e w' => e = .returned (.bool (one s)) ∧ w' = w := by
  by_cases h : s.size ≤ 8
  · exact rOne_short s w h
  · refine (rOne_long s w (by omega)).mono ?_
    rintro e w' ⟨rfl, b⟩
    have : one s = false := by simp [one, h]
    exact ⟨by rw [this], b⟩
theorem rRight_none (a : Option Addr) (cap : Nat) (w : World) : Calls Tryd.prog 37 #[.slice a 0 cap] w fun e w' => e = .returned (.bool false) ∧ w' = w := by
  go_enter Tryd.func37, Tryd.ntmps37
  go_wp2
  go_ret
  exact ⟨rfl, rfl⟩
theorem rRight_many (a : Option Addr) (len cap : Nat) (h : 16 < len) (w : World) : Calls Tryd.prog 37 #[.slice a len cap] w fun e w' => e = .returned (.bool false) ∧ w' = w := by
  have h1 : (1 : Int) ≤ (len : Int) := by omega
  have h2 : (16 : Int) < (len : Int) := by omega
  go_enter Tryd.func37, Tryd.ntmps37
  go_wp2
  go_ret
  exact ⟨rfl, rfl⟩
set_option maxRecDepth 100000 in
set_option maxHeartbeats 2000000 in
theorem rRight_some (b off cap : Nat) (ss : List ByteArray) (w : World) (h1 : 1 ≤ ss.length) (h16 : ss.length ≤ 16) (hc : Hid (∀ i, i < ss.length → w.cell? ⟨b, off + i, none⟩ = some (.string (at' ss i)))) :
    Calls Tryd.prog 37 #[.slice (some ⟨b, off, none⟩) ss.length cap] w fun e w' => e = .returned (.bool (ss.all one)) ∧ w' = w := by
  have g1 : (1 : Int) ≤ (ss.length : Int) := by omega
  have g2 : (ss.length : Int) ≤ 16 := by omega
  obtain ⟨len, hlen⟩ : ∃ len, len = ss.length := ⟨_, rfl⟩
  have HL := hid hlen
  rw [← hlen] at h1 h16 g1 g2
  rw [← hlen]
  clear hlen
  go_enter Tryd.func37, Tryd.ntmps37
  go_wp2
  go_loopw [3] (fun i wr => ∃ k : Nat, k ≤ len ∧ i = .int .i64 k ∧ wr = w ∧ Hid (∀ j, j < k → one (at' ss j) = true)) (fun i _ => len - (intOf i).toNat)
  case atStart => exact ⟨0, by omega, rfl, rfl, hid (fun j hj => by omega)⟩
  case round =>
    obtain ⟨k, hk, rfl, rfl, hall⟩ := hrel
    by_cases hlt : k < len
    · have hcr := hc.out k (by rw [← HL.out]; exact hlt)
      obtain ⟨x, hx⟩ : ∃ x, x = at' ss k := ⟨_, rfl⟩
      rw [← hx] at hcr
      have HX := hid hx
      clear hx
      by_cases ho : one x = true
      · have c := rOne_any x wr
        rw [ho] at c
        go_wp2_with (go_at_call 60; refine c.mono ?_; rintro e w2 ⟨rfl, rfl⟩)
        refine ⟨⟨k + 1, by omega, by simp, trivial, hid (fun j hj => ?_)⟩, by simp [intOf]; omega⟩
        by_cases hj2 : j < k
        · exact hall.out j hj2
        · obtain rfl : j = k := by omega
          rw [← HX.out]; exact ho
      · have ho' : one x = false := by simpa using ho
        have c := rOne_any x wr
        rw [ho'] at c
        have HN : Hid (ss.all one = false) := hid (all_take_false (k := k) (by rw [← HL.out]; exact hlt) (by rw [← HX.out]; exact ho'))
        go_wp2_with (go_at_call 60; refine c.mono ?_; rintro e w2 ⟨rfl, rfl⟩)
        go_ret
        exact ⟨ret_bool HN.out.symm, rfl⟩
    · obtain rfl : k = len := by omega
      have HN : Hid (ss.all one = true) := hid (all_of_at (fun j hj => hall.out j (by rw [HL.out]; exact hj)))
      go_wp2
      go_ret
      exact ⟨ret_bool HN.out.symm, rfl⟩
theorem rRight_any (v : Value) (ss : List ByteArray) (w : World) (h : IsTab w v ss) :
    Calls Tryd.prog 37 #[v] w fun e w' => e = .returned (.bool (right ss)) ∧ w' = w := by
  by_cases h0 : ss.length = 0
  · obtain ⟨a, cap, rfl⟩ := h.len
    rw [h0]
    refine (rRight_none a cap w).mono ?_
    rintro e w' ⟨rfl, b⟩
    exact ⟨ret_bool (by simp [right, h0]), b⟩
  · by_cases h16 : ss.length ≤ 16
    · obtain ⟨b, off, cap, rfl, hc⟩ := h.some (by omega)
      refine (rRight_some b off cap ss w (by omega) h16 (hid hc)).mono ?_
      rintro e w' ⟨rfl, b⟩
      exact ⟨ret_bool (by simp [right, h16, show 1 ≤ ss.length by omega]), b⟩
    · obtain ⟨a, cap, rfl⟩ := h.len
      refine (rRight_many a _ cap (by omega) w).mono ?_
      rintro e w' ⟨rfl, b⟩
      exact ⟨ret_bool (by simp [right, h16]), b⟩
theorem ret_pair {p : Int × Int} {a c : Int} (h : p = (a, c)) : Ending.returned (.tuple #[.int .i64 a, .int .i64 c]) = .returned (.tuple #[.int .i64 p.1, .int .i64 p.2]) := by rw [h]
theorem rSize_any (v : Value) (ss : List ByteArray) (n : Int) (w : World) (h : IsTab w v ss) :
    Calls Tryd.prog 69 #[v, .int .i64 n] w fun e w' => e = .returned (.tuple #[.int .i64 (sz ss n).1, .int .i64 (sz ss n).2]) ∧ w' = w := by
  have c := rRight_any v ss w h
  by_cases hr : right ss = true
  · have h16 := (right_len hr).2
    rw [hr] at c
    by_cases h0 : n < 0
    · have HS := hid (sz_out (n := n) hr (by simp [inR]; omega))
      obtain ⟨a, cap, rfl⟩ := h.len
      clear h hr
      go_enter Tryd.func69, Tryd.ntmps69
      go_wp2_with (go_at_call 37; refine c.mono ?_; rintro e w1 ⟨rfl, rfl⟩)
      go_ret2
      exact ⟨ret_pair HS.out, rfl⟩
    · by_cases h1 : (ss.length : Int) ≤ n
      · have HS := hid (sz_out (n := n) hr (by simp [inR]; omega))
        obtain ⟨a, cap, rfl⟩ := h.len
        have h0' : 0 ≤ n := by omega
        clear h hr h0
        go_enter Tryd.func69, Tryd.ntmps69
        go_wp2_with (go_at_call 37; refine c.mono ?_; rintro e w1 ⟨rfl, rfl⟩)
        go_ret2
        exact ⟨ret_pair HS.out, rfl⟩
      · obtain ⟨k, rfl⟩ : ∃ k : Nat, n = k := ⟨n.toNat, by omega⟩
        have hk : k < ss.length := by omega
        have HS := hid (sz_in (n := k) hr (by simp [inR]; omega))
        have h8 := one_size (right_all hr k hk)
        obtain ⟨b, off, cap, rfl, hc⟩ := h.some (by omega)
        have hcell := hc k hk
        rw [Int.toNat_natCast] at HS
        clear h hr h0 h1 hc
        generalize at' ss k = x at *
        generalize ss.length = len at *
        go_enter Tryd.func69, Tryd.ntmps69
        go_wp2_with (go_at_call 37; refine c.mono ?_; rintro e w1 ⟨rfl, rfl⟩)
        go_ret2
        exact ⟨ret_pair HS.out, rfl⟩
  · have hr' : right ss = false := by simpa using hr
    rw [hr'] at c
    have HS := hid (sz_no (n := n) hr')
    clear hr hr' h
    go_enter Tryd.func69, Tryd.ntmps69
    go_wp2_with (go_at_call 37; refine c.mono ?_; rintro e w1 ⟨rfl, rfl⟩)
    go_ret2
    exact ⟨ret_pair HS.out, rfl⟩
theorem fd_out {s : ByteArray} {f : Int} (h : inR f s.size = false) : fd s f = (0, 131) := by simp [fd, h]
theorem fd_in {s : ByteArray} {j : Nat} (h : j < s.size) : fd s j = (kb (s[j]'h), 0) := by
  have : inR (j : Int) s.size = true := by simp [inR]; omega
  simp only [fd, this, if_true, Int.toNat_natCast, get_data s j h]
end Go.Proofs.YtldfmlkjeniemaaDoor
