/- package object: lay. -/
import Derived.Test.YtldfmlkjeniemaaGreatDoorObRead
import Derived.Laws.AppendOwnNone
import Derived.Laws.OwnMore
import Derived.Test.YtldfmlkjeniemaaGreatDoorObHeld
set_option linter.unusedVariables false
namespace Go.Proofs.YtldfmlkjeniemaaGreatDoor
open Go.RowKit Go.Ly Go.Hd Go.Sh Go.Ob
theorem szH_wd {sh mk_ : Int} (h : ok sh mk_ = true) (ss : List ByteArray) : szH (wd sh mk_) ss = sz ss sh := by
  obtain ⟨h1, h2, _⟩ := isH_wd h
  rw [szH, if_pos h1, h2]
set_option maxRecDepth 100000 in
set_option maxHeartbeats 2000000 in
theorem lay_head (t s : Int) (a : Option Addr) (n c L : Nat) (p e at_ sh mk_ lk : Int) (fa : Option Addr) (fn fc : Nat) (w : World) (h : ok sh mk_ = false) :
    Calls Tryz.prog 33 #[objV t s a n c L p e, obV at_ sh mk_ lk (.slice fa fn fc)] w fun e' w' => e' = upE 2 ∧ Below w.heap.size w w' := by
  have cm := fun W => make_no sh mk_ W h
  clear h
  go_enter Tryz.func33, Tryz.ntmps33
  go_wp2_with (first | (go_at_call 62; refine (cm _).mono ?_; rintro e1 w1 ⟨rfl, b1⟩) | (go_at_call 51; refine (giveUp_any _ _).mono ?_; rintro e w' ⟨rfl, hw⟩; rw [hw]; clear hw))
  exact ⟨rfl, rfl, bel2 b1⟩
set_option maxRecDepth 100000 in
set_option maxHeartbeats 2000000 in
theorem lay_arg (t s : Int) (a : Option Addr) (n c L : Nat) (ss : List ByteArray) (p e at_ sh mk_ lk z er : Int) (fa : Option Addr) (fn fc : Nat) (w : World) (hT : IsTab w (.slice a n c) ss) (h : ok sh mk_ = true) (hs : Hid (sz ss sh = (z, er))) (hbad : (er != 0) = true ∨ (er = 0 ∧ 2 ≤ z ∧ z ≤ 10 ∧ ((fn : Int) != z - 2) = true)) :
    Calls Tryz.prog 33 #[objV t s a n c L p e, obV at_ sh mk_ lk (.slice fa fn fc)] w fun e' w' => e' = upE 2 ∧ Below w.heap.size w w' := by
  have cm := fun W => make_yes sh mk_ W h
  obtain ⟨_, _, _, hw0, hw1⟩ := isH_wd h
  have cs := fun W (b : Below w.heap.size w W) => hSize_at (wd sh mk_) (.slice a n c) ss z er W hw0 (by omega) (hT.below (Nat.le_refl _) b) ((szH_wd h ss).trans hs.out)
  generalize wd sh mk_ = hd at *
  clear h hs hT hw0 hw1
  rcases hbad with h | ⟨rfl, z2, z9, h⟩
  all_goals
    go_enter Tryz.func33, Tryz.ntmps33
    go_wp2_with (go_at_call 62; refine (cm _).mono ?_)
    rintro e1 w1 ⟨rfl, b1⟩
    have R1 := hid (row2a b1)
    have R2 := hid (row2b b1)
    have B1 := hid (bel2 b1)
    have d2 := at_row R1.out 2 rfl
    clear b1 cm
    go_wp2_with (go_at_call 63; refine (cs _ B1.out).mono ?_)
    rintro e2 w2 ⟨rfl, b2⟩
    have x4 := at_row (row_below R2.out b2) 4 rfl
    have B2 := hid (B1.out.trans (b2.mono B1.out.size))
    clear b2 cs d2
    go_wp2_with (go_at_call 51; refine (giveUp_any _ _).mono ?_; rintro e w' ⟨rfl, hw⟩; rw [hw]; clear hw)
    exact ⟨rfl, rfl, B2.out⟩
set_option maxRecDepth 100000 in
set_option maxHeartbeats 2000000 in
theorem lay_range (t s : Int) (a : Option Addr) (n c L : Nat) (ss : List ByteArray) (p e at_ sh mk_ lk z : Int) (fa : Option Addr) (fn fc : Nat) (w : World) (hT : IsTab w (.slice a n c) ss) (hr : rgt t s ss = true) (h : ok sh mk_ = true) (hs : Hid (sz ss sh = (z, 0))) (z2 : 2 ≤ z) (z9 : z ≤ 10) (hn : (fn : Int) = z - 2)
    (hbad : spc t s at_ = false ∨ (spc t s at_ = true ∧ eo t s at_ - at_ < z)) :
    Calls Tryz.prog 33 #[objV t s a n c L p e, obV at_ sh mk_ lk (.slice fa fn fc)] w fun e' w' => e' = upE 4 ∧ Below w.heap.size w w' := by
  obtain ⟨t0, t1, s0, s1, _⟩ := rgt_yes hr
  have cm := fun W => make_yes sh mk_ W h
  obtain ⟨_, _, _, hw0, hw1⟩ := isH_wd h
  have cs := fun W (b : Below w.heap.size w W) => hSize_at (wd sh mk_) (.slice a n c) ss z 0 W hw0 (by omega) (hT.below (Nat.le_refl _) b) ((szH_wd h ss).trans hs.out)
  generalize wd sh mk_ = hd at *
  rcases hbad with hx | ⟨hx, hf⟩
  · have ct := fun W (b : Below w.heap.size w W) => to_no t s a n c ss (loadV L) p e at_ W (hT.below (Nat.le_refl _) b) hr ⟨_, _, _, rfl⟩ hx
    clear h hs hT hw0 hw1 hx
    go_enter Tryz.func33, Tryz.ntmps33
    go_wp2_with (go_at_call 62; refine (cm _).mono ?_)
    rintro e1 w1 ⟨rfl, b1⟩
    have R1 := hid (row2a b1)
    have R2 := hid (row2b b1)
    have B1 := hid (bel2 b1)
    have d2 := at_row R1.out 2 rfl
    clear b1 cm
    go_wp2_with (go_at_call 63; refine (cs _ B1.out).mono ?_)
    rintro e2 w2 ⟨rfl, b2⟩
    have x4 := at_row (row_below R2.out b2) 4 rfl
    have x0 := at_row (row_below R2.out b2) 0 rfl
    have R12 := row_below R1.out b2
    have d0 := at_row R12 0 rfl
    have d1 := at_row R12 1 rfl
    have d2 := at_row R12 2 rfl
    have d3 := at_row R12 3 rfl
    have d4 := at_row R12 4 rfl
    have d5 := at_row R12 5 rfl
    have B2 := hid (B1.out.trans (b2.mono B1.out.size))
    clear b2 cs R12
    go_wp2_with (go_at_call 25; refine (ct _ B2.out).mono ?_; rintro e3 w3 ⟨rfl, b3⟩)
    exact ⟨rfl, rfl, B2.out.trans (b3.mono B2.out.size)⟩
  · have he := eo_bd s0 hx
    have hx' : 3 + t + t ≤ at_ ∧ at_ < 3 + t + t + 2 * s := by simpa [spc] using hx
    have ct := fun W (b : Below w.heap.size w W) => to_ok t s a n c ss L p e at_ W (hT.below (Nat.le_refl _) b) hr hx
    have cf := fun W => fits_any t s a n c L at_ (eo t s at_) z W false (by omega) (by omega) (by omega) (by omega) (hid (by simp; omega))
    clear h hs hT hw0 hw1 hx he hx' hf
    go_enter Tryz.func33, Tryz.ntmps33
    go_wp2_with (go_at_call 62; refine (cm _).mono ?_)
    rintro e1 w1 ⟨rfl, b1⟩
    have R1 := hid (row2a b1)
    have R2 := hid (row2b b1)
    have B1 := hid (bel2 b1)
    have d2 := at_row R1.out 2 rfl
    clear b1 cm
    go_wp2_with (go_at_call 63; refine (cs _ B1.out).mono ?_)
    rintro e2 w2 ⟨rfl, b2⟩
    have x4 := at_row (row_below R2.out b2) 4 rfl
    have x0 := at_row (row_below R2.out b2) 0 rfl
    have R12 := row_below R1.out b2
    have d0 := at_row R12 0 rfl
    have d1 := at_row R12 1 rfl
    have d2 := at_row R12 2 rfl
    have d3 := at_row R12 3 rfl
    have d4 := at_row R12 4 rfl
    have d5 := at_row R12 5 rfl
    have B2 := hid (B1.out.trans (b2.mono B1.out.size))
    clear b2 cs R12
    go_wp2_with (first | (go_at_call 25; refine (ct _ B2.out).mono ?_; rintro e3 w3 ⟨rfl, b3⟩) | (go_at_call 64; refine (cf _).mono ?_; rintro e4 w4 ⟨rfl, b4⟩) | (go_at_call 51; refine (giveUp_any _ _).mono ?_; rintro e w' ⟨rfl, hw⟩; rw [hw]; clear hw))
    exact ⟨rfl, rfl, B2.out.trans ((b3.trans (b4.mono b3.size)).mono B2.out.size)⟩
set_option maxRecDepth 100000 in
set_option maxHeartbeats 2000000 in
theorem lay_ok (t s : Int) (a : Option Addr) (n c L : Nat) (ss : List ByteArray) (p e at_ sh mk_ lk z : Int) (fv : Value) (zs : List Int) (w : World) (hT : IsTab w (.slice a n c) ss) (hr : rgt t s ss = true) (h : ok sh mk_ = true) (hs : Hid (sz ss sh = (z, 0))) (z2 : 2 ≤ z) (z9 : z ≤ 10) (hn : (zs.length : Int) = z - 2)
    (hx : spc t s at_ = true) (hf : z ≤ eo t s at_ - at_) (hv : FsAt 0 w fv zs) :
    Calls Tryz.prog 33 #[objV t s a n c L p e, obV at_ sh mk_ lk fv] w fun e' w' => ∃ v, e' = .returned v ∧ FsAt w.heap.size w' v (wd sh mk_ :: lk :: zs) ∧ Below w.heap.size w w' := by
  obtain ⟨t0, t1, s0, s1, _⟩ := rgt_yes hr
  have cm := fun W => make_yes sh mk_ W h
  obtain ⟨_, _, _, hw0, hw1⟩ := isH_wd h
  have cs := fun W (b : Below w.heap.size w W) => hSize_at (wd sh mk_) (.slice a n c) ss z 0 W hw0 (by omega) (hT.below (Nat.le_refl _) b) ((szH_wd h ss).trans hs.out)
  generalize wd sh mk_ = hd at *
  have he := eo_bd s0 hx
  have hx' : 3 + t + t ≤ at_ ∧ at_ < 3 + t + t + 2 * s := by simpa [spc] using hx
  have ct := fun W (b : Below w.heap.size w W) => to_ok t s a n c ss L p e at_ W (hT.below (Nat.le_refl _) b) hr hx
  have cf := fun W => fits_any t s a n c L at_ (eo t s at_) z W true (by omega) (by omega) (by omega) (by omega) (hid (by simpa using hf))
  obtain ⟨fa, fc, rfl, hv⟩ := hv
  have HV := hid hv
  clear h hs hT hw0 hw1 hx he hx' hf hv
  go_enter Tryz.func33, Tryz.ntmps33
  go_wp2_with (go_at_call 62; refine (cm _).mono ?_)
  rintro e1 w1 ⟨rfl, b1⟩
  have R1 := hid (row2a b1)
  have R2 := hid (row2b b1)
  have B1 := hid (bel2 b1)
  have d2 := at_row R1.out 2 rfl
  clear b1 cm
  go_wp2_with (go_at_call 63; refine (cs _ B1.out).mono ?_)
  rintro e2 w2 ⟨rfl, b2⟩
  have R22 := hid (row_below R2.out b2)
  have x4 := at_row R22.out 4 rfl
  have x0 := at_row R22.out 0 rfl
  have R12 := row_below R1.out b2
  have d0 := at_row R12 0 rfl
  have d1 := at_row R12 1 rfl
  have d2 := at_row R12 2 rfl
  have d3 := at_row R12 3 rfl
  have d4 := at_row R12 4 rfl
  have d5 := at_row R12 5 rfl
  have B2 := hid (B1.out.trans (b2.mono B1.out.size))
  clear b2 cs R12
  go_wp2_with (first | (go_at_call 25; refine (ct _ B2.out).mono ?_; rintro e3 w3 ⟨rfl, b3⟩) | (go_at_call 64; refine (cf _).mono ?_))
  rintro e4 w4 ⟨rfl, b4⟩
  have B4 := hid (B2.out.trans ((b3.trans (b4.mono b3.size)).mono B2.out.size))
  have R24 := row_below (row_below R22.out b3) b4
  have y2 := at_row R24 2 rfl
  have y3 := at_row R24 3 rfl
  have y4 := at_row R24 4 rfl
  have z4 : w.heap.size + 1 < w4.heap.size := block_lt_of_cell y4
  clear x0 x4 d0 d1 d2 d3 d4 d5 b3 b4 R24 ct cf
  obtain ⟨ii, hi, hz0, hz1, hz2⟩ := info_parts rinfo_u64
  have hown0 : (w4.alloc (.cells #[.int .u64 hd, .int .u64 lk] 39)).ownsRow w4.heap.size 39 1 (.slice (some ⟨w4.heap.size, 0, none⟩) 2 2) 2 [.int .u64 hd, .int .u64 lk] := ⟨rfl, .inr ⟨w4.heap.size, 2, #[.int .u64 hd, .int .u64 lk], rfl, Nat.le_refl _, heap_alloc_last _ _, Nat.le_refl _, by unfold maxLen; omega, rfl, rfl⟩⟩
  have HO := hid hown0
  have hzl : zs.length ≤ 8 := by omega
  clear hown0
  rcases (show (fa = none ∧ zs = []) ∨ (∃ ad, fa = some ad ∧ ∀ j u, (wds zs).toList[j]? = some u → w.cell? (ad.add j) = some u) by
    rcases HV.out with hz | ⟨b, off, rfl, _, hws⟩
    · cases fa with
      | none => exact .inl ⟨rfl, hz⟩
      | some ad => exact .inr ⟨ad, rfl, fun j u hj => by rw [hz] at hj; simp [wds] at hj⟩
    · exact .inr ⟨_, rfl, hws.list⟩) with ⟨rfl, rfl⟩ | ⟨ad, rfl, hws⟩
  · go_wp2_with (at_builtin; refine wpList_append_own_none rfl _ _ 25 rfl w4.heap.size 39 ii 1 Tryz.underlying25 hi (.slice (some ⟨w4.heap.size, 0, none⟩) 2 2) 2 [.int .u64 hd, .int .u64 lk] rfl HO.out rfl ?_)
    go_ret
    exact ⟨_, rfl, fsAt_own (zs := [hd, lk]) HO.out B4.out.size, B4.out.trans ((below_alloc0 w4 _).mono B4.out.size)⟩
  · have HW := hid (fun j u hj => hcell_below (hws j u hj) (B4.out.trans ((below_alloc0 w4 (.cells #[.int .u64 hd, .int .u64 lk] 39)).mono B4.out.size)))
    have ho1 := wds_one zs
    have hlen : (wds zs).toList.length = zs.length * 1 := by simp [wds]
    have HVS : Hid ([hd, lk].map (Value.int .u64) ++ (wds zs).toList = (hd :: lk :: zs).map (Value.int .u64)) := hid (by simp [wds])
    generalize (wds zs).toList = VS at *
    go_wp2_with (at_builtin; refine wpList_append_own _ rfl _ _ 25 rfl w4.heap.size 39 ii (.int .u64 0) 1 8 Tryz.underlying25 hi hz0 hz1 hz2 rfl (by decide) (.slice (some ⟨w4.heap.size, 0, none⟩) 2 2) 2 [.int .u64 hd, .int .u64 lk] rfl HO.out ad zs.length fc VS rfl hlen HW.out ho1 (by unfold maxLen; omega) (by omega) (by simp) ?_; intro v' w7 hown hgrow _)
    go_ret
    have hb7 : Below w.heap.size w w7 := by
      have hz := B4.out.size
      refine ⟨hgrow.os.trans B4.out.os, hgrow.tape.trans B4.out.tape, hgrow.output.trans B4.out.output, Nat.le_trans hz (Nat.le_trans (by simp) hgrow.size), fun k hk => ?_⟩
      rw [hgrow.block k (by simp; omega) (fun e => by have := (HO.out.lt k e.symm).1; omega), Below.heap_alloc _ _ _ (by omega)]
      exact B4.out.block k hk
    refine ⟨_, rfl, fsAt_own (base := w4.heap.size) (k := 2 + zs.length) ?_ B4.out.size, hb7⟩
    rw [← HVS.out]
    exact hown
end Go.Proofs.YtldfmlkjeniemaaGreatDoor
/- package object: the closure of Put: what may not be put; the words stored, one behind the other. -/
set_option linter.unusedVariables false
namespace Go.Proofs.YtldfmlkjeniemaaGreatDoor
open Go.RowKit Go.Ly Go.Hd Go.Sh Go.Ob
/-- The words, with the first k of ws laid from the word q on. -/
def putK (xs : List Int) (q : Nat) (ws : List Int) : Nat → List Int
  | 0 => xs
  | k + 1 => (putK xs q ws k).set (q + k) (wat ws k)
theorem putK_len (xs : List Int) (q : Nat) (ws : List Int) : ∀ k, (putK xs q ws k).length = xs.length
  | 0 => rfl
  | k + 1 => by rw [putK, List.length_set, putK_len xs q ws k]
theorem dof_store {xs : List Int} {p : Nat} {v : Int} (h : p < xs.length) : dof xs 2 (p : Int) 0 v = (xs.set p v, 0, 0) := by
  have hc : ck 2 (p : Int) 0 v = true := by simp [ck]
  unfold dof
  rw [if_neg (by rw [hc]; decide), if_neg (by decide), if_neg (by simp; omega), if_neg (by decide), if_pos rfl, Int.toNat_natCast]
/-- Where laying stands. -/
structure PtL (w2 : World) (A B : Nat) (xs : List Int) (q : Nat) (ws : List Int) (k : Nat) (W : World) : Prop where
  ar : IsAr W A B (putK xs q ws k)
  gr : w2.grownBy W (some B)
set_option maxRecDepth 100000 in
set_option maxHeartbeats 4000000 in
theorem clou_open (W0 We : World) (ga gp gx : Nat) (P : Option Addr) (t s : Int) (a : Option Addr) (n c : Nat) (at_ sh mk_ lk : Int) (fa : Option Addr) (fn fc : Nat) (H0 : Hs9 W0 ga 0 (.pointer P) gp 0 (.int .i64 t) gp 1 (.int .i64 s) gp 2 (.slice a n c) gx 0 (.int .i64 at_) gx 1 (.int .i64 sh) gx 2 (.int .i64 mk_) gx 3 (.int .u64 lk) gx 4 (.slice fa fn fc) W0) (HB : Below W0.heap.size W0 We) (k : Int) (co : ∀ W, Below We.heap.size We W → Calls Tryz.prog 24 #[.pointer P, planV t s a n c] W fun e w' => e = upE k ∧ Below W.heap.size W w') :
    Calls Tryz.prog 32 #[.pointer (some ⟨ga, 0, none⟩), .pointer (some ⟨gp, 0, none⟩), .pointer (some ⟨gx, 0, none⟩)] We fun e w' => e = upE k ∧ Below We.heap.size We w' := by
  go_enter Tryz.func32, Tryz.ntmps32
  go_wp2_with fail
  refine wp_region_held_drew (S := Hs9 W0 ga 0 (.pointer P) gp 0 (.int .i64 t) gp 1 (.int .i64 s) gp 2 (.slice a n c) gx 0 (.int .i64 at_) gx 1 (.int .i64 sh) gx 2 (.int .i64 mk_) gx 3 (.int .u64 lk) gx 4 (.slice fa fn fc)) (by kernel_rfl) (hs9_mk H0 HB.drew) (fun hHeld => ?_)
  refine wpAnyH_take (i := 0) (v := ?_) rfl (by kernel_rfl) (by kernel_rfl) (by kernel_rfl) (fun _ _ _ h => h) (Or.inl ⟨by rfl, ?_⟩) (by assumption) ?_
  rotate_left
  · (intro wx hSw; (try dsimp only at hSw); go_simp <;> with_reducible rfl)
  simp only [Act.put]
  refine wpAnyH_take (i := 1) (v := ?_) rfl (by kernel_rfl) (by kernel_rfl) (by kernel_rfl) (fun _ _ _ h => h) (Or.inl ⟨by rfl, ?_⟩) (by assumption) ?_
  rotate_left
  · (intro wx hSw; (try dsimp only at hSw); go_simp <;> with_reducible rfl)
  simp only [Act.put]
  refine wpAnyH_take (i := 3) (v := ?_) rfl (by kernel_rfl) (by kernel_rfl) (by kernel_rfl) (fun _ _ _ h => h) (Or.inl ⟨by rfl, ?_⟩) (by assumption) ?_
  rotate_left
  · (intro wx hSw; (try dsimp only at hSw); go_simp <;> with_reducible rfl)
  simp only [Act.put]
  refine wpAnyH_take (i := 6) (v := ?_) rfl (by kernel_rfl) (by kernel_rfl) (by kernel_rfl) (fun _ _ _ h => h) (Or.inl ⟨by rfl, ?_⟩) (by assumption) ?_
  rotate_left
  · (intro wx hSw; (try dsimp only at hSw); go_simp <;> with_reducible rfl)
  simp only [Act.put]
  refine wpAnyH_ready (rs := [2]) (by kernel_rfl) (by simp) ?_
  refine AllReadyH.cons rfl (fun K hK => ?_) AllReadyH.nil
  go_simp
  go_at_call 24
  refine (co _ (Below.refl _ _).drew).mono ?_
  rintro e w1 ⟨rfl, b1⟩
  exact ⟨rfl, rfl, ((Below.refl We.heap.size We).drew).trans b1⟩
set_option maxRecDepth 100000 in
set_option maxHeartbeats 4000000 in
theorem clou_last (W0 We : World) (ga gp gx : Nat) (P : Option Addr) (t s : Int) (a : Option Addr) (n c : Nat) (at_ sh mk_ lk : Int) (fa : Option Addr) (fn fc : Nat) (H0 : Hs9 W0 ga 0 (.pointer P) gp 0 (.int .i64 t) gp 1 (.int .i64 s) gp 2 (.slice a n c) gx 0 (.int .i64 at_) gx 1 (.int .i64 sh) gx 2 (.int .i64 mk_) gx 3 (.int .u64 lk) gx 4 (.slice fa fn fc) W0) (HB : Below W0.heap.size W0 We) (k : Int) (A : Nat) (co : ∀ W, Below We.heap.size We W → Calls Tryz.prog 24 #[.pointer P, planV t s a n c] W fun e w' => e = .returned (objV t s a n c W.heap.size 0 0) ∧ w'.heap[W.heap.size]? = some (arO A) ∧ Below W.heap.size W w') (cl : ∀ L W, Below We.heap.size We W → W.heap[L]? = some (arO A) → Calls Tryz.prog 33 #[objV t s a n c L 0 0, obV at_ sh mk_ lk (.slice fa fn fc)] W fun e' w' => e' = upE k ∧ Below W.heap.size W w') :
    Calls Tryz.prog 32 #[.pointer (some ⟨ga, 0, none⟩), .pointer (some ⟨gp, 0, none⟩), .pointer (some ⟨gx, 0, none⟩)] We fun e w' => e = upE k ∧ Below We.heap.size We w' := by
  go_enter Tryz.func32, Tryz.ntmps32
  go_wp2_with fail
  refine wp_region_held_drew (S := Hs9 W0 ga 0 (.pointer P) gp 0 (.int .i64 t) gp 1 (.int .i64 s) gp 2 (.slice a n c) gx 0 (.int .i64 at_) gx 1 (.int .i64 sh) gx 2 (.int .i64 mk_) gx 3 (.int .u64 lk) gx 4 (.slice fa fn fc)) (by kernel_rfl) (hs9_mk H0 HB.drew) (fun hHeld => ?_)
  refine wpAnyH_take (i := 0) (v := ?_) rfl (by kernel_rfl) (by kernel_rfl) (by kernel_rfl) (fun _ _ _ h => h) (Or.inl ⟨by rfl, ?_⟩) (by assumption) ?_
  rotate_left
  · (intro wx hSw; (try dsimp only at hSw); go_simp <;> with_reducible rfl)
  simp only [Act.put]
  refine wpAnyH_take (i := 1) (v := ?_) rfl (by kernel_rfl) (by kernel_rfl) (by kernel_rfl) (fun _ _ _ h => h) (Or.inl ⟨by rfl, ?_⟩) (by assumption) ?_
  rotate_left
  · (intro wx hSw; (try dsimp only at hSw); go_simp <;> with_reducible rfl)
  simp only [Act.put]
  refine wpAnyH_take (i := 3) (v := ?_) rfl (by kernel_rfl) (by kernel_rfl) (by kernel_rfl) (fun _ _ _ h => h) (Or.inl ⟨by rfl, ?_⟩) (by assumption) ?_
  rotate_left
  · (intro wx hSw; (try dsimp only at hSw); go_simp <;> with_reducible rfl)
  simp only [Act.put]
  refine wpAnyH_take (i := 6) (v := ?_) rfl (by kernel_rfl) (by kernel_rfl) (by kernel_rfl) (fun _ _ _ h => h) (Or.inl ⟨by rfl, ?_⟩) (by assumption) ?_
  rotate_left
  · (intro wx hSw; (try dsimp only at hSw); go_simp <;> with_reducible rfl)
  simp only [Act.put]
  refine wpAnyH_ready (rs := [2]) (by kernel_rfl) (by simp) ?_
  refine AllReadyH.cons rfl (fun K hK => ?_) AllReadyH.nil
  go_simp
  go_at_call 24
  refine (co _ (Below.refl _ _).drew).mono ?_
  rintro e w1 ⟨rfl, L1, b1⟩
  have B1 := hid (((Below.refl We.heap.size We).drew).trans b1)
  dsimp only
  refine hK.out _ _ ?_ (fun hHeld => ?_)
  · with_reducible (first | exact hs9_mk H0 (HB.drew) | exact hs9_mk H0 (HB.trans (B1.out.mono HB.size)) | exact hs9_mk H0 (HB.trans (B2.out.mono HB.size)))
  clear hK K
  refine wpAnyH_ready (rs := [4]) (by kernel_rfl) (by simp) ?_
  refine AllReadyH.cons rfl (fun K hK => ?_) AllReadyH.nil
  go_simp
  go_at_call 33
  refine (cl _ _ B1.out L1).mono ?_
  rintro e w2 ⟨rfl, b2⟩
  exact ⟨rfl, rfl, B1.out.trans (b2.mono B1.out.size)⟩
set_option maxRecDepth 100000 in
set_option maxHeartbeats 4000000 in
theorem clou_ok (A : Nat) (W0 We : World) (ga gp gx : Nat) (t s : Int) (a : Option Addr) (n c : Nat) (q : Nat) (sh mk_ lk : Int) (fa : Option Addr) (fn fc : Nat) (H0 : Hs9 W0 ga 0 (.pointer (some ⟨A, 0, none⟩)) gp 0 (.int .i64 t) gp 1 (.int .i64 s) gp 2 (.slice a n c) gx 0 (.int .i64 (q : Int)) gx 1 (.int .i64 sh) gx 2 (.int .i64 mk_) gx 3 (.int .u64 lk) gx 4 (.slice fa fn fc) W0) (HB : Below W0.heap.size W0 We) (B : Nat) (xs ws : List Int) (ha : IsAr We A B xs) (hgaB : ga ≠ B) (hgxB : gx ≠ B) (hne : ws ≠ []) (hl9 : ws.length ≤ 20) (hqw : q + ws.length ≤ xs.length) (hW : InW ws) (co : ∀ W, Below We.heap.size We W → Calls Tryz.prog 24 #[.pointer (some ⟨A, 0, none⟩), planV t s a n c] W fun e w' => e = .returned (objV t s a n c W.heap.size 0 0) ∧ w'.heap[W.heap.size]? = some (arO A) ∧ Below W.heap.size W w') (cl : ∀ L W, Below We.heap.size We W → W.heap[L]? = some (arO A) → Calls Tryz.prog 33 #[objV t s a n c L 0 0, obV (q : Int) sh mk_ lk (.slice fa fn fc)] W fun e' w' => ∃ v, e' = .returned v ∧ FsAt W.heap.size w' v ws ∧ Below W.heap.size W w') :
    Calls Tryz.prog 32 #[.pointer (some ⟨ga, 0, none⟩), .pointer (some ⟨gp, 0, none⟩), .pointer (some ⟨gx, 0, none⟩)] We fun e w' => e = .returned (.tuple #[]) ∧ IsAr w' A B (putK xs q ws ws.length) ∧ We.grownBy w' (some B) := by
  have q9 : (q : Int) ≤ 20000 := by have := ha.le; omega
  have q0 : (0 : Int) ≤ (q : Int) := by omega
  go_enter Tryz.func32, Tryz.ntmps32
  go_wp2_with fail
  refine wp_region_held_drew (S := Hs9 W0 ga 0 (.pointer (some ⟨A, 0, none⟩)) gp 0 (.int .i64 t) gp 1 (.int .i64 s) gp 2 (.slice a n c) gx 0 (.int .i64 (q : Int)) gx 1 (.int .i64 sh) gx 2 (.int .i64 mk_) gx 3 (.int .u64 lk) gx 4 (.slice fa fn fc)) (by kernel_rfl) (hs9_mk H0 HB.drew) (fun hHeld => ?_)
  refine wpAnyH_take (i := 0) (v := ?_) rfl (by kernel_rfl) (by kernel_rfl) (by kernel_rfl) (fun _ _ _ h => h) (Or.inl ⟨by rfl, ?_⟩) (by assumption) ?_
  rotate_left
  · (intro wx hSw; (try dsimp only at hSw); go_simp <;> with_reducible rfl)
  simp only [Act.put]
  refine wpAnyH_take (i := 1) (v := ?_) rfl (by kernel_rfl) (by kernel_rfl) (by kernel_rfl) (fun _ _ _ h => h) (Or.inl ⟨by rfl, ?_⟩) (by assumption) ?_
  rotate_left
  · (intro wx hSw; (try dsimp only at hSw); go_simp <;> with_reducible rfl)
  simp only [Act.put]
  refine wpAnyH_take (i := 3) (v := ?_) rfl (by kernel_rfl) (by kernel_rfl) (by kernel_rfl) (fun _ _ _ h => h) (Or.inl ⟨by rfl, ?_⟩) (by assumption) ?_
  rotate_left
  · (intro wx hSw; (try dsimp only at hSw); go_simp <;> with_reducible rfl)
  simp only [Act.put]
  refine wpAnyH_take (i := 6) (v := ?_) rfl (by kernel_rfl) (by kernel_rfl) (by kernel_rfl) (fun _ _ _ h => h) (Or.inl ⟨by rfl, ?_⟩) (by assumption) ?_
  rotate_left
  · (intro wx hSw; (try dsimp only at hSw); go_simp <;> with_reducible rfl)
  simp only [Act.put]
  refine wpAnyH_ready (rs := [2]) (by kernel_rfl) (by simp) ?_
  refine AllReadyH.cons rfl (fun K hK => ?_) AllReadyH.nil
  go_simp
  go_at_call 24
  refine (co _ (Below.refl _ _).drew).mono ?_
  rintro e w1 ⟨rfl, L1, b1⟩
  have B1 := hid (((Below.refl We.heap.size We).drew).trans b1)
  dsimp only
  refine hK.out _ _ ?_ (fun hHeld => ?_)
  · with_reducible (first | exact hs9_mk H0 (HB.drew) | exact hs9_mk H0 (HB.trans (B1.out.mono HB.size)) | exact hs9_mk H0 (HB.trans (B2.out.mono HB.size)))
  clear hK K
  refine wpAnyH_ready (rs := [4]) (by kernel_rfl) (by simp) ?_
  refine AllReadyH.cons rfl (fun K hK => ?_) AllReadyH.nil
  go_simp
  go_at_call 33
  refine (cl _ _ B1.out L1).mono ?_
  rintro e w2 ⟨v, rfl, hfs, b2⟩
  obtain ⟨av, cv, rfl, hfs⟩ := hfs
  rcases hfs with hfs | ⟨b, off, rfl, hfs⟩
  · exact absurd hfs hne
  have L2x := L1
  have B2 := hid (B1.out.trans (b2.mono B1.out.size))
  dsimp only
  refine hK.out _ _ ?_ (fun hHeld => ?_)
  · with_reducible (first | exact hs9_mk H0 (HB.drew) | exact hs9_mk H0 (HB.trans (B1.out.mono HB.size)) | exact hs9_mk H0 (HB.trans (B2.out.mono HB.size)))
  clear hK K
  refine wpAnyH_ready (rs := [5]) (by kernel_rfl) (by simp) ?_
  refine AllReadyH.cons rfl (fun K hK => ?_) AllReadyH.nil
  go_simp
  refine hK.out _ _ ?_ (fun hHeld => ?_)
  · with_reducible (first | exact hs9_mk H0 (HB.drew) | exact hs9_mk H0 (HB.trans (B1.out.mono HB.size)) | exact hs9_mk H0 (HB.trans (B2.out.mono HB.size)))
  clear hK K
  refine wpAnyH_done (by kernel_rfl) ?_ _
  have HF := hid (show Ws w2 b off ws ∧ We.heap.size ≤ b from ⟨hfs.2, Nat.le_trans B1.out.size hfs.1⟩)
  have HC := hid (hs9_mk H0 (HB.trans (B2.out.mono HB.size)))
  have HA2 := hid (ha.below B2.out)
  have hbB : b ≠ B := by have := ha.ltB; have := HF.out.2; omega
  clear hfs b1 b2 L1 L2x
  go_wp2
  go_loopw [11] (fun i wr => ∃ k : Nat, k ≤ ws.length ∧ i = .int .i64 k ∧ Hid (PtL w2 A B xs q ws k wr)) (fun i _ => ws.length - (intOf i).toNat)
  case atStart => exact ⟨0, Nat.zero_le _, rfl, hid ⟨HA2.out, ⟨rfl, rfl, rfl, Nat.le_refl _, fun _ _ _ => rfl⟩⟩⟩
  case round =>
    obtain ⟨k, hk, rfl, HR⟩ := hrel
    have k9 : (k : Int) ≤ 100 := by omega
    by_cases hlt : k < ws.length
    · have hlt' : (k : Int) < (ws.length : Int) := by omega
      have c0 := grown_cell HR.out.gr (p := ⟨ga, 0, none⟩) hgaB HC.out.1
      have c1 := grown_cell HR.out.gr (p := ⟨gx, 0, none⟩) hgxB HC.out.2.2.2.2.1
      have c2 := (HF.out.1.grown HR.out.gr hbB) k hlt
      have hwb := hW.get k
      have hst := hid (dof_store (xs := putK xs q ws k) (p := q + k) (v := wat ws k) (by rw [putK_len]; omega))
      have HPK := hid (show putK xs q ws (k + 1) = (putK xs q ws k).set (q + k) (wat ws k) from rfl)
      generalize wat ws k = y at *
      go_wp2_with (go_at_call 34; refine (Store_at A B _ _ ((q + k : Nat) : Int) y 0 0 _ HR.out.ar hwb.1 hwb.2 hst).mono ?_)
      rintro e6 w6 ⟨rfl, a6, g6⟩
      have HN := hid (show PtL w2 A B xs q ws (k + 1) w6 from ⟨by rw [HPK.out]; exact a6, grown_trans HR.out.gr g6⟩)
      clear a6 g6 c0 c1 c2
      go_wp2
      go_roundw
      case rel => exact ⟨k + 1, by omega, by go_num, HN⟩
      case measure => simp [intOf]; omega
    · obtain rfl : k = ws.length := by omega
      go_wp2
      go_end0
      exact ⟨rfl, HR.out.ar, grown_trans (grown_below B2.out _) HR.out.gr⟩
end Go.Proofs.YtldfmlkjeniemaaGreatDoor
