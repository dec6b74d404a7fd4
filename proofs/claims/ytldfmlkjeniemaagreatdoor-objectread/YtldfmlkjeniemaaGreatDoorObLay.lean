/- package object: lay. -/
import Derived.Test.YtldfmlkjeniemaaGreatDoorObRead
import Derived.Laws.AppendOwnNone
import Derived.Laws.OwnMore
set_option linter.unusedVariables false
namespace Go.Proofs.YtldfmlkjeniemaaGreatDoor
open Go.RowKit Go.Ly Go.Hd Go.Sh Go.Ob
theorem szH_wd {sh mk_ : Int} (h : ok sh mk_ = true) (ss : List ByteArray) : szH (wd sh mk_) ss = sz ss sh := by
  obtain ⟨h1, h2, _⟩ := isH_wd h
  rw [szH, if_pos h1, h2]
set_option maxRecDepth 100000 in
set_option maxHeartbeats 2000000 in
theorem lay_head (t s : Int) (a : Option Addr) (n c L : Nat) (p e at_ sh mk_ lk : Int) (fa : Option Addr) (fn fc : Nat) (w : World) (h : ok sh mk_ = false) :
    Calls Tryz.prog 33 #[objV t s a n c L p e, obV at_ sh mk_ lk (.slice fa fn fc)] w fun e' w' => e' = upE 2 ∧ Below w.heap.size w w' := by
  have cm := fun W => make_no sh mk_ W h
  clear h
  go_enter Tryz.func33, Tryz.ntmps33
  go_wp2_with (first | (go_at_call 62; refine (cm _).mono ?_; rintro e1 w1 ⟨rfl, b1⟩) | (go_at_call 51; refine (giveUp_any _ _).mono ?_; rintro e w' ⟨rfl, hw⟩; rw [hw]; clear hw))
  exact ⟨rfl, rfl, bel2 b1⟩
set_option maxRecDepth 100000 in
set_option maxHeartbeats 2000000 in
theorem lay_arg (t s : Int) (a : Option Addr) (n c L : Nat) (ss : List ByteArray) (p e at_ sh mk_ lk z er : Int) (fa : Option Addr) (fn fc : Nat) (w : World) (hT : IsTab w (.slice a n c) ss) (h : ok sh mk_ = true) (hs : Hid (sz ss sh = (z, er))) (hbad : (er != 0) = true ∨ (er = 0 ∧ 2 ≤ z ∧ z ≤ 10 ∧ ((fn : Int) != z - 2) = true)) :
    Calls Tryz.prog 33 #[objV t s a n c L p e, obV at_ sh mk_ lk (.slice fa fn fc)] w fun e' w' => e' = upE 2 ∧ Below w.heap.size w w' := by
  have cm := fun W => make_yes sh mk_ W h
  obtain ⟨_, _, _, hw0, hw1⟩ := isH_wd h
  have cs := fun W (b : Below w.heap.size w W) => hSize_at (wd sh mk_) (.slice a n c) ss z er W hw0 (by omega) (hT.below (Nat.le_refl _) b) ((szH_wd h ss).trans hs.out)
  generalize wd sh mk_ = hd at *
  clear h hs hT hw0 hw1
  rcases hbad with h | ⟨rfl, z2, z9, h⟩
  all_goals
    go_enter Tryz.func33, Tryz.ntmps33
    go_wp2_with (go_at_call 62; refine (cm _).mono ?_)
    rintro e1 w1 ⟨rfl, b1⟩
    have R1 := hid (row2a b1)
    have R2 := hid (row2b b1)
    have B1 := hid (bel2 b1)
    have d2 := at_row R1.out 2 rfl
    clear b1 cm
    go_wp2_with (go_at_call 63; refine (cs _ B1.out).mono ?_)
    rintro e2 w2 ⟨rfl, b2⟩
    have x4 := at_row (row_below R2.out b2) 4 rfl
    have B2 := hid (B1.out.trans (b2.mono B1.out.size))
    clear b2 cs d2
    go_wp2_with (go_at_call 51; refine (giveUp_any _ _).mono ?_; rintro e w' ⟨rfl, hw⟩; rw [hw]; clear hw)
    exact ⟨rfl, rfl, B2.out⟩
set_option maxRecDepth 100000 in
set_option maxHeartbeats 2000000 in
theorem lay_range (t s : Int) (a : Option Addr) (n c L : Nat) (ss : List ByteArray) (p e at_ sh mk_ lk z : Int) (fa : Option Addr) (fn fc : Nat) (w : World) (hT : IsTab w (.slice a n c) ss) (hr : rgt t s ss = true) (h : ok sh mk_ = true) (hs : Hid (sz ss sh = (z, 0))) (z2 : 2 ≤ z) (z9 : z ≤ 10) (hn : (fn : Int) = z - 2)
    (hbad : spc t s at_ = false ∨ (spc t s at_ = true ∧ eo t s at_ - at_ < z)) :
    Calls Tryz.prog 33 #[objV t s a n c L p e, obV at_ sh mk_ lk (.slice fa fn fc)] w fun e' w' => e' = upE 4 ∧ Below w.heap.size w w' := by
  obtain ⟨t0, t1, s0, s1, _⟩ := rgt_yes hr
  have cm := fun W => make_yes sh mk_ W h
  obtain ⟨_, _, _, hw0, hw1⟩ := isH_wd h
  have cs := fun W (b : Below w.heap.size w W) => hSize_at (wd sh mk_) (.slice a n c) ss z 0 W hw0 (by omega) (hT.below (Nat.le_refl _) b) ((szH_wd h ss).trans hs.out)
  generalize wd sh mk_ = hd at *
  rcases hbad with hx | ⟨hx, hf⟩
  · have ct := fun W (b : Below w.heap.size w W) => to_no t s a n c ss (loadV L) p e at_ W (hT.below (Nat.le_refl _) b) hr ⟨_, _, _, rfl⟩ hx
    clear h hs hT hw0 hw1 hx
    go_enter Tryz.func33, Tryz.ntmps33
    go_wp2_with (go_at_call 62; refine (cm _).mono ?_)
    rintro e1 w1 ⟨rfl, b1⟩
    have R1 := hid (row2a b1)
    have R2 := hid (row2b b1)
    have B1 := hid (bel2 b1)
    have d2 := at_row R1.out 2 rfl
    clear b1 cm
    go_wp2_with (go_at_call 63; refine (cs _ B1.out).mono ?_)
    rintro e2 w2 ⟨rfl, b2⟩
    have x4 := at_row (row_below R2.out b2) 4 rfl
    have x0 := at_row (row_below R2.out b2) 0 rfl
    have R12 := row_below R1.out b2
    have d0 := at_row R12 0 rfl
    have d1 := at_row R12 1 rfl
    have d2 := at_row R12 2 rfl
    have d3 := at_row R12 3 rfl
    have d4 := at_row R12 4 rfl
    have d5 := at_row R12 5 rfl
    have B2 := hid (B1.out.trans (b2.mono B1.out.size))
    clear b2 cs R12
    go_wp2_with (go_at_call 25; refine (ct _ B2.out).mono ?_; rintro e3 w3 ⟨rfl, b3⟩)
    exact ⟨rfl, rfl, B2.out.trans (b3.mono B2.out.size)⟩
  · have he := eo_bd s0 hx
    have hx' : 3 + t + t ≤ at_ ∧ at_ < 3 + t + t + 2 * s := by simpa [spc] using hx
    have ct := fun W (b : Below w.heap.size w W) => to_ok t s a n c ss L p e at_ W (hT.below (Nat.le_refl _) b) hr hx
    have cf := fun W => fits_any t s a n c L at_ (eo t s at_) z W false (by omega) (by omega) (by omega) (by omega) (hid (by simp; omega))
    clear h hs hT hw0 hw1 hx he hx' hf
    go_enter Tryz.func33, Tryz.ntmps33
    go_wp2_with (go_at_call 62; refine (cm _).mono ?_)
    rintro e1 w1 ⟨rfl, b1⟩
    have R1 := hid (row2a b1)
    have R2 := hid (row2b b1)
    have B1 := hid (bel2 b1)
    have d2 := at_row R1.out 2 rfl
    clear b1 cm
    go_wp2_with (go_at_call 63; refine (cs _ B1.out).mono ?_)
    rintro e2 w2 ⟨rfl, b2⟩
    have x4 := at_row (row_below R2.out b2) 4 rfl
    have x0 := at_row (row_below R2.out b2) 0 rfl
    have R12 := row_below R1.out b2
    have d0 := at_row R12 0 rfl
    have d1 := at_row R12 1 rfl
    have d2 := at_row R12 2 rfl
    have d3 := at_row R12 3 rfl
    have d4 := at_row R12 4 rfl
    have d5 := at_row R12 5 rfl
    have B2 := hid (B1.out.trans (b2.mono B1.out.size))
    clear b2 cs R12
    go_wp2_with (first | (go_at_call 25; refine (ct _ B2.out).mono ?_; rintro e3 w3 ⟨rfl, b3⟩) | (go_at_call 64; refine (cf _).mono ?_; rintro e4 w4 ⟨rfl, b4⟩) | (go_at_call 51; refine (giveUp_any _ _).mono ?_; rintro e w' ⟨rfl, hw⟩; rw [hw]; clear hw))
    exact ⟨rfl, rfl, B2.out.trans ((b3.trans (b4.mono b3.size)).mono B2.out.size)⟩
set_option maxRecDepth 100000 in
set_option maxHeartbeats 2000000 in
theorem lay_ok (t s : Int) (a : Option Addr) (n c L : Nat) (ss : List ByteArray) (p e at_ sh mk_ lk z : Int) (fv : Value) (zs : List Int) (w : World) (hT : IsTab w (.slice a n c) ss) (hr : rgt t s ss = true) (h : ok sh mk_ = true) (hs : Hid (sz ss sh = (z, 0))) (z2 : 2 ≤ z) (z9 : z ≤ 10) (hn : (zs.length : Int) = z - 2)
    (hx : spc t s at_ = true) (hf : z ≤ eo t s at_ - at_) (hv : FsAt 0 w fv zs) :
    Calls Tryz.prog 33 #[objV t s a n c L p e, obV at_ sh mk_ lk fv] w fun e' w' => ∃ v, e' = .returned v ∧ FsAt w.heap.size w' v (wd sh mk_ :: lk :: zs) ∧ Below w.heap.size w w' := by
  obtain ⟨t0, t1, s0, s1, _⟩ := rgt_yes hr
  have cm := fun W => make_yes sh mk_ W h
  obtain ⟨_, _, _, hw0, hw1⟩ := isH_wd h
  have cs := fun W (b : Below w.heap.size w W) => hSize_at (wd sh mk_) (.slice a n c) ss z 0 W hw0 (by omega) (hT.below (Nat.le_refl _) b) ((szH_wd h ss).trans hs.out)
  generalize wd sh mk_ = hd at *
  have he := eo_bd s0 hx
  have hx' : 3 + t + t ≤ at_ ∧ at_ < 3 + t + t + 2 * s := by simpa [spc] using hx
  have ct := fun W (b : Below w.heap.size w W) => to_ok t s a n c ss L p e at_ W (hT.below (Nat.le_refl _) b) hr hx
  have cf := fun W => fits_any t s a n c L at_ (eo t s at_) z W true (by omega) (by omega) (by omega) (by omega) (hid (by simpa using hf))
  obtain ⟨fa, fc, rfl, hv⟩ := hv
  have HV := hid hv
  clear h hs hT hw0 hw1 hx he hx' hf hv
  go_enter Tryz.func33, Tryz.ntmps33
  go_wp2_with (go_at_call 62; refine (cm _).mono ?_)
  rintro e1 w1 ⟨rfl, b1⟩
  have R1 := hid (row2a b1)
  have R2 := hid (row2b b1)
  have B1 := hid (bel2 b1)
  have d2 := at_row R1.out 2 rfl
  clear b1 cm
  go_wp2_with (go_at_call 63; refine (cs _ B1.out).mono ?_)
  rintro e2 w2 ⟨rfl, b2⟩
  have R22 := hid (row_below R2.out b2)
  have x4 := at_row R22.out 4 rfl
  have x0 := at_row R22.out 0 rfl
  have R12 := row_below R1.out b2
  have d0 := at_row R12 0 rfl
  have d1 := at_row R12 1 rfl
  have d2 := at_row R12 2 rfl
  have d3 := at_row R12 3 rfl
  have d4 := at_row R12 4 rfl
  have d5 := at_row R12 5 rfl
  have B2 := hid (B1.out.trans (b2.mono B1.out.size))
  clear b2 cs R12
  go_wp2_with (first | (go_at_call 25; refine (ct _ B2.out).mono ?_; rintro e3 w3 ⟨rfl, b3⟩) | (go_at_call 64; refine (cf _).mono ?_))
  rintro e4 w4 ⟨rfl, b4⟩
  have B4 := hid (B2.out.trans ((b3.trans (b4.mono b3.size)).mono B2.out.size))
  have R24 := row_below (row_below R22.out b3) b4
  have y2 := at_row R24 2 rfl
  have y3 := at_row R24 3 rfl
  have y4 := at_row R24 4 rfl
  have z4 : w.heap.size + 1 < w4.heap.size := block_lt_of_cell y4
  clear x0 x4 d0 d1 d2 d3 d4 d5 b3 b4 R24 ct cf
  obtain ⟨ii, hi, hz0, hz1, hz2⟩ := info_parts rinfo_u64
  have hown0 : (w4.alloc (.cells #[.int .u64 hd, .int .u64 lk] 39)).ownsRow w4.heap.size 39 1 (.slice (some ⟨w4.heap.size, 0, none⟩) 2 2) 2 [.int .u64 hd, .int .u64 lk] := ⟨rfl, .inr ⟨w4.heap.size, 2, #[.int .u64 hd, .int .u64 lk], rfl, Nat.le_refl _, heap_alloc_last _ _, Nat.le_refl _, by unfold maxLen; omega, rfl, rfl⟩⟩
  have HO := hid hown0
  have hzl : zs.length ≤ 8 := by omega
  clear hown0
  rcases (show (fa = none ∧ zs = []) ∨ (∃ ad, fa = some ad ∧ ∀ j u, (wds zs).toList[j]? = some u → w.cell? (ad.add j) = some u) by
    rcases HV.out with hz | ⟨b, off, rfl, _, hws⟩
    · cases fa with
      | none => exact .inl ⟨rfl, hz⟩
      | some ad => exact .inr ⟨ad, rfl, fun j u hj => by rw [hz] at hj; simp [wds] at hj⟩
    · exact .inr ⟨_, rfl, hws.list⟩) with ⟨rfl, rfl⟩ | ⟨ad, rfl, hws⟩
  · go_wp2_with (at_builtin; refine wpList_append_own_none rfl _ _ 25 rfl w4.heap.size 39 ii 1 Tryz.underlying25 hi (.slice (some ⟨w4.heap.size, 0, none⟩) 2 2) 2 [.int .u64 hd, .int .u64 lk] rfl HO.out rfl ?_)
    go_ret
    exact ⟨_, rfl, fsAt_own (zs := [hd, lk]) HO.out B4.out.size, B4.out.trans ((below_alloc0 w4 _).mono B4.out.size)⟩
  · have HW := hid (fun j u hj => hcell_below (hws j u hj) (B4.out.trans ((below_alloc0 w4 (.cells #[.int .u64 hd, .int .u64 lk] 39)).mono B4.out.size)))
    have ho1 := wds_one zs
    have hlen : (wds zs).toList.length = zs.length * 1 := by simp [wds]
    have HVS : Hid ([hd, lk].map (Value.int .u64) ++ (wds zs).toList = (hd :: lk :: zs).map (Value.int .u64)) := hid (by simp [wds])
    generalize (wds zs).toList = VS at *
    go_wp2_with (at_builtin; refine wpList_append_own _ rfl _ _ 25 rfl w4.heap.size 39 ii (.int .u64 0) 1 8 Tryz.underlying25 hi hz0 hz1 hz2 rfl (by decide) (.slice (some ⟨w4.heap.size, 0, none⟩) 2 2) 2 [.int .u64 hd, .int .u64 lk] rfl HO.out ad zs.length fc VS rfl hlen HW.out ho1 (by unfold maxLen; omega) (by omega) (by simp) ?_; intro v' w7 hown hgrow _)
    go_ret
    have hb7 : Below w.heap.size w w7 := by
      have hz := B4.out.size
      refine ⟨hgrow.os.trans B4.out.os, hgrow.tape.trans B4.out.tape, hgrow.output.trans B4.out.output, Nat.le_trans hz (Nat.le_trans (by simp) hgrow.size), fun k hk => ?_⟩
      rw [hgrow.block k (by simp; omega) (fun e => by have := (HO.out.lt k e.symm).1; omega), Below.heap_alloc _ _ _ (by omega)]
      exact B4.out.block k hk
    refine ⟨_, rfl, fsAt_own (base := w4.heap.size) (k := 2 + zs.length) ?_ B4.out.size, hb7⟩
    rw [← HVS.out]
    exact hown
end Go.Proofs.YtldfmlkjeniemaaGreatDoor
