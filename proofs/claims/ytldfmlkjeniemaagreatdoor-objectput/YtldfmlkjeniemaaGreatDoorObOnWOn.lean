/- An object's box, made behind a call that answers the object, or ahead of it. -/
import Derived.Test.YtldfmlkjeniemaaGreatDoorObBoxOn
import Derived.Test.YtldfmlkjeniemaaGreatDoorObRead
import Derived.Test.YtldfmlkjeniemaaGreatDoorObWorksOn
import Derived.Test.YtldfmlkjeniemaaGreatDoorObRRead
set_option linter.unusedVariables false
namespace Go.Proofs.YtldfmlkjeniemaaGreatDoor
open Go.RowKit Go.Ly Go.Hd Go.Sh Go.Ob
theorem fsAt_nil (lo : Nat) (W : World) : FsAt lo W (.slice none 0 0) [] := ⟨none, 0, rfl, .inl rfl⟩
/-- An object's box, made behind the call or ahead of it. -/
structure OnW (wr : World) (g : Nat) (O : Obj) (v : Value) (zs : List Int) (W : World) : Prop where
  row : W.heap[g]? = some O
  bel : Below wr.heap.size wr W
  fs : FsAt 0 W v zs
theorem onW_a {wr w5 : World} {at_ sh mk_ lk : Int} {v : Value} {zs : List Int} (b : Below wr.drew.heap.size wr.drew w5) (f : FsAt wr.drew.heap.size w5 v zs) : OnW wr w5.heap.size (obO at_ sh mk_ lk v) v zs (w5.alloc (obO at_ sh mk_ lk v)) :=
  have b' := ((Below.refl _ wr).drew).trans b
  ⟨heap_alloc_last _ _, b'.alloc b'.size _, (f.below (below_alloc0 w5 _)).lower (Nat.zero_le _)⟩
theorem onW_b {wr w5 : World} {at_ sh mk_ lk : Int} {v : Value} {zs : List Int} (b : Below (wr.alloc (obO 0 0 0 0 (.slice none 0 0))).drew.heap.size (wr.alloc (obO 0 0 0 0 (.slice none 0 0))).drew w5) (f : FsAt (wr.alloc (obO 0 0 0 0 (.slice none 0 0))).drew.heap.size w5 v zs) :
    OnW wr wr.heap.size (obO at_ sh mk_ lk v) v zs (((((w5.setCell ⟨wr.heap.size, 0, none⟩ (.int .i64 at_)).setCell ⟨wr.heap.size, 1, none⟩ (.int .i64 sh)).setCell ⟨wr.heap.size, 2, none⟩ (.int .i64 mk_)).setCell ⟨wr.heap.size, 3, none⟩ (.int .u64 lk)).setCell ⟨wr.heap.size, 4, none⟩ v) := by
  have f' : FsAt (wr.alloc (obO 0 0 0 0 (.slice none 0 0))).heap.size w5 v zs := f
  have b0 : Below (wr.alloc (obO 0 0 0 0 (.slice none 0 0))).heap.size (wr.alloc (obO 0 0 0 0 (.slice none 0 0))) w5 := ((Below.refl _ _).drew).trans b
  have b' : Below wr.heap.size wr w5 := (below_alloc0 wr _).trans (b0.mono (by simp))
  have hg : wr.heap.size < (wr.alloc (obO 0 0 0 0 (.slice none 0 0))).heap.size := by simp
  exact ⟨set5_row (row_below (heap_alloc_last wr _) b0) _ _ _ _ _, five_set b' (Nat.le_refl _) _ _ _ _ _, (((((f'.set hg 0 _).set hg 1 _).set hg 2 _).set hg 3 _).set hg 4 _).lower (Nat.zero_le _)⟩
end Go.Proofs.YtldfmlkjeniemaaGreatDoor
/- The law ObjectRead. -/
set_option linter.unusedVariables false
namespace Go.Proofs.YtldfmlkjeniemaaGreatDoor
open Go.RowKit Go.Ly Go.Hd Go.Sh Go.Ob
/-- What reading answers, the program's and the document's: one and the same. -/
theorem read_both (t s : Int) (a : Option Addr) (n c : Nat) (ss : List ByteArray) (xs : List Int) (m x : Int) (w : World) (hT : IsTab w (.slice a n c) ss) (hL : LNums w) (hr : rgt t s ss = true) (hxi : InW xs) (hl : (xs.length : Int) = 3 + t + t + 2 * s + m) :
    ∃ er at_ sh mk_ lk zs, zs.length ≤ 100 ∧ (∀ A B W, Below w.heap.size w W → IsAr W A B xs → Calls Tryz.prog 9 #[.pointer (some ⟨A, 0, none⟩), planV t s a n c, .int .i64 x] W fun e w' => ∃ a1 c1, e = .returned (.tuple #[obV at_ sh mk_ lk (.slice a1 zs.length c1), .int .i64 er]) ∧ FsAt W.heap.size w' (.slice a1 zs.length c1) zs ∧ Below W.heap.size W w') ∧
      (∀ b lc W, Below w.heap.size w W → xs.length ≤ lc → Ws W b 0 xs → Calls Tryz.prog 10 #[.slice (some ⟨b, 0, none⟩) xs.length lc, planV t s a n c, .int .i64 x] W fun e w' => ∃ a1 c1, e = .returned (.tuple #[obV at_ sh mk_ lk (.slice a1 zs.length c1), .int .i64 er]) ∧ FsAt W.heap.size w' (.slice a1 zs.length c1) zs ∧ Below W.heap.size W w') := by
  obtain ⟨t0, t1, s0, s1, _⟩ := rgt_yes hr
  by_cases hm : m = 0
  · have hl2 : (xs.length : Int) = 3 + t + t + 2 * s := by omega
    by_cases h1 : spc t s x = false
    · refine ⟨4, 0, 0, 0, 0, [], by simp, fun A B W hW hA => ?_, fun b lc W hW hlc hx => ?_⟩
      · refine (Read_range A B xs ss t s a n c x W ⟨hT.below (Nat.le_refl _) hW, hL.below hW, hA, hr, hl2⟩ h1).mono ?_
        rintro e w' ⟨rfl, hb⟩
        exact ⟨none, 0, rfl, fsAt_nil _ _, hb⟩
      · refine (oRead_range t s a n c ss _ _ lc x W (hT.below (Nat.le_refl _) hW) hr hl2 h1).mono ?_
        rintro e w' ⟨rfl, hb⟩
        exact ⟨none, 0, rfl, fsAt_nil _ _, hb⟩
    · have h1 : spc t s x = true := by simpa using h1
      obtain ⟨x0, x9⟩ := spc_in h1 t0 hl2
      obtain ⟨q, rfl⟩ := Int.eq_ofNat_of_zero_le x0
      rcases osz_cases xs ss (eo t s q) q with h3 | ⟨z2, z9, z8, hH, _⟩
      · refine ⟨170, 0, 0, 0, 0, [], by simp, fun A B W hW hA => ?_, fun b lc W hW hlc hx => ?_⟩
        · refine (Read_none A B xs ss t s a n c q W ⟨hT.below (Nat.le_refl _) hW, hL.below hW, hA, hr, hl2⟩ h1 (hid h3)).mono ?_
          rintro e w' ⟨rfl, hb⟩
          exact ⟨none, 0, rfl, fsAt_nil _ _, hb⟩
        · refine (oRead_none t s a n c ss b 0 lc xs q W (hT.below (Nat.le_refl _) hW) hr hx hxi hl2 h1 (hid h3)).mono ?_
          rintro e w' ⟨rfl, hb⟩
          exact ⟨none, 0, rfl, fsAt_nil _ _, hb⟩
      · have hH : isH (wat xs q) = true := hH
        obtain ⟨k, hk⟩ := Int.eq_ofNat_of_zero_le (show 0 ≤ osz xs ss (eo t s q) q - 2 by omega)
        have hz : Hid (osz xs ss (eo t s q) q = (k : Int) + 2) := hid (by omega)
        obtain ⟨sh, mk_, ho⟩ : ∃ sh mk_, ofv (wat xs q) = (sh, mk_, true) := by unfold ofv; rw [if_pos hH]; exact ⟨_, _, rfl⟩
        refine ⟨0, q, sh, mk_, wat xs (q + 1), flw xs q k, by rw [flw_len]; omega, fun A B W hW hA => ?_, fun b lc W hW hlc hx => ?_⟩
        · refine (Read_ok A B xs ss t s a n c q k sh mk_ _ W ⟨hT.below (Nat.le_refl _) hW, hL.below hW, hA, hr, hl2⟩ h1 hz (hid ho) (hid rfl)).mono ?_
          rintro e w' ⟨v, rfl, hv, hb⟩
          obtain ⟨a1, c1, rfl, hv2⟩ := hv
          exact ⟨a1, c1, rfl, ⟨a1, c1, rfl, hv2⟩, hb⟩
        · refine (oRead_ok t s a n c ss b 0 lc xs q k sh mk_ _ W (hT.below (Nat.le_refl _) hW) hr hx hxi hl2 hlc h1 hz (hid ho) (hid rfl)).mono ?_
          rintro e w' ⟨v, rfl, hv, hb⟩
          obtain ⟨a1, c1, rfl, hv2⟩ := hv
          exact ⟨a1, c1, rfl, ⟨a1, c1, rfl, hv2⟩, hb⟩
  · refine ⟨2, 0, 0, 0, 0, [], by simp, fun A B W hW hA => ?_, fun b lc W hW hlc hx => ?_⟩
    · refine (Read_arg A B xs ss _ t s a n c x W (hT.below (Nat.le_refl _) hW) hA hr rfl (by simp; omega)).mono ?_
      rintro e w' ⟨rfl, hb⟩
      exact ⟨none, 0, rfl, fsAt_nil _ _, hb⟩
    · refine (oRead_arg t s a n c ss _ _ lc _ x W (hT.below (Nat.le_refl _) hW) hr rfl (by rw [beq_eq_false_iff_ne]; omega)).mono ?_
      rintro e w' ⟨rfl, hb⟩
      exact ⟨none, 0, rfl, fsAt_nil _ _, hb⟩
set_option maxRecDepth 100000 in
set_option maxHeartbeats 8000000 in
theorem objectRead_any (t s : Int) (a : Option Addr) (n c : Nat) (ss : List ByteArray) (wa : Option Addr) (wc : Nat) (ws : List Int) (m : Int) (la : Option Addr) (ln lc : Nat) (ls : List Int) (w : World) (hT : IsTab w (.slice a n c) ss) (hL : LNums w) (hws : WsA w wa wc ws) (hi : InW ws)
    (hls : ∀ i, i < ln → ∃ b off, la = some ⟨b, off, none⟩ ∧ w.cell? ⟨b, off + i, none⟩ = some (.int .i64 (ls.getD i 0))) :
    Calls Tryz.prog 3 #[hpV t s a n c wa ws.length wc m, .slice la ln lc] w fun e w' => e = .returned (.bool true) ∧ Below w.heap.size w w' := by
  have B0 := hid (below_alloc0 w (hpO t s a n c wa ws.length wc m))
  have R0 := heap_alloc_last w (hpO t s a n c wa ws.length wc m)
  have cw := fun W (h : Below w.heap.size w W) => oworks_any W (hL.below h)
  by_cases h : mdOk t s ss ws.length m = true
  · have h' : rgt t s ss = true ∧ s ≤ 100 ∧ ws.length ≤ 300 ∧ -3 ≤ m ∧ m ≤ 3 := by simpa [mdOk, and_assoc] using h
    obtain ⟨hr, s9, _, m0, m9⟩ := h'
    obtain ⟨t0, t1, s0, s1, _⟩ := rgt_yes hr
    obtain ⟨N, hN⟩ := Int.eq_ofNat_of_zero_le (show 0 ≤ 3 + t + t + 2 * s + m by omega)
    have cm := made_yes t s a n c ss wa wc ws m N _ (hT.below (Nat.le_refl _) B0.out) h (hws.below B0.out) hN.symm
    have hl := mdW_len ws N
    have hxi := mdW_in hi N
    generalize mdW ws N = xs at *
    subst hl
    have n0 : ((xs.length : Int) == 0) = false := by rw [beq_eq_false_iff_ne]; omega
    have cb := fun x => read_both t s a n c ss xs m x w hT hL hr hxi hN.symm
    have h1 : 1 ≤ xs.length := by omega
    have h2 : xs.length ≤ 16384 := by omega
    have HLs := hid hls
    clear hT hL hws h hr s9 m0 m9 t0 t1 s0 s1 hN hi hls
    generalize ws.length = wn at *
    go_enter Tryz.func3, Tryz.ntmps3
    go_wp2_with (go_at_call 5; refine cm.mono ?_)
    rintro e w1 ⟨G, rfl, hx, _, b1⟩
    have R1 := hid (row_below R0 b1)
    have B1 := hid (B0.out.trans (b1.mono B0.out.size))
    have cO := Of_yes G 0 xs.length xs w1 hx h1 h2
    have A2 := hid (made_ar w1 xs hxi h1 h2)
    have M2 := made_below w1 xs
    have X2 := hid (hx.bel M2)
    have R2 := hid (row_below R1.out M2)
    have B2 := hid (B1.out.trans (M2.mono B1.out.size))
    clear cm b1 R0 B0 hx R1 B1 M2 h1 h2 hxi
    generalize made w1 xs = w2 at *
    generalize w1.heap.size + 1 = A at *
    generalize w1.heap.size = B at *
    by_cases h40 : 40 < ln
    · have h40' : (40 : Int) < (ln : Int) := by omega
      have cw2 := cw _ B2.out
      go_wp2_with (first | (go_at_call 6; refine cO.mono ?_; rintro e w' ⟨rfl, hw⟩; rw [hw]; clear hw) | (go_at_call 7; refine cw2.mono ?_; rintro e w7 ⟨rfl, b7⟩))
      go_ret
      exact ⟨rfl, B2.out.trans (b7.mono B2.out.size)⟩
    have h40' : (ln : Int) ≤ 40 := by omega
    go_wp2_with (first | (go_at_call 6; refine cO.mono ?_; rintro e w' ⟨rfl, hw⟩; rw [hw]; clear hw) | (go_at_call 8; refine (onum_any _ _).mono ?_; rintro e w' ⟨rfl, hw⟩; rw [hw]; clear hw))
    clear cO
    go_loopw [8] (fun i wr => ∃ k : Nat, k ≤ ln ∧ i = .int .i64 k ∧ Hid (Below w2.heap.size w2 wr)) (fun i _ => ln - (intOf i).toNat)
    case atStart => exact ⟨0, by omega, rfl, hid (Below.refl _ _)⟩
    case round =>
      obtain ⟨k, hk, rfl, HB⟩ := hrel
      have BB := hid (B2.out.trans (HB.out.mono B2.out.size))
      by_cases hlt : k < ln
      · have hlt' : (k : Int) < ln := by omega
        obtain ⟨b1, off1, rfl, hc1⟩ := HLs.out k hlt
        have hc2 := hcell_below hc1 BB.out
        obtain ⟨er, at_, sh, mk_, lk, zs, z9, cp, cr⟩ := cb (ls.getD k 0)
        clear cb
        generalize ls.getD k 0 = x at *
        have RR := hid (row_below R2.out HB.out)
        have HS := hid (show Hs4 wr w.heap.size 0 (.int .i64 t) w.heap.size 1 (.int .i64 s) w.heap.size 2 (.slice a n c) b1 (off1 + k) (.int .i64 x) wr from ⟨at_row RR.out 0 rfl, at_row RR.out 1 rfl, at_row RR.out 2 rfl, hc2, Below.refl _ _⟩)
        have AR := hid (A2.out.below HB.out)
        have cp2 : ∀ W, Below wr.heap.size wr W → _ := fun W hW => cp A B W (BB.out.trans (hW.mono BB.out.size)) (AR.out.below hW)
        clear cp hc1 hc2
        go_wp2_with fail
        go_region_held3 (Hs4 wr w.heap.size 0 (.int .i64 t) w.heap.size 1 (.int .i64 s) w.heap.size 2 (.slice a n c) b1 (off1 + k) (.int .i64 x)) (with_reducible (first | assumption | exact hs4_drew HS.out | exact hs4_call HS.out (hs4_drew HS.out) b3 | (refine hs4_call HS.out ?_ b3; assumption) | (refine hs4_alloc HS.out ?_ _; assumption) | exact hs4_drewa HS.out (hs4_alloc HS.out HS.out _) | exact hs4_alloc HS.out (hs4_call HS.out (hs4_drew HS.out) b3) _ | (refine hs4_set HS.out (hs4_set HS.out (hs4_set HS.out (hs4_set HS.out (hs4_set HS.out ?_ (Nat.le_refl _)) (Nat.le_refl _)) (Nat.le_refl _)) (Nat.le_refl _)) (Nat.le_refl _); assumption))) (first | (go_at_call 9; refine (cp2 _ ?hb3).mono ?_; (case hb3 => first | exact hs4_bel (hs4_drew HS.out) | exact hs4_bel (hs4_drewa HS.out (hs4_alloc HS.out HS.out _))); rintro e w5 ⟨a1, c1, rfl, F1, b3⟩; have q1 := (hbcell b3).1; have q2 := (hbcell b3).2))
        all_goals
          first
            | (have hO := onW_b (at_ := at_) (sh := sh) (mk_ := mk_) (lk := lk) b3 F1; clear q1 q2 b3 F1; revert hO; generalize wr.heap.size = g; generalize World.setCell _ _ _ = W5; intro hO)
            | (have hO := onW_a (at_ := at_) (sh := sh) (mk_ := mk_) (lk := lk) b3 F1; clear q1 q2 b3 F1; revert hO; generalize w5.heap.size = g; generalize w5.alloc _ = W5; intro hO)
        all_goals
          have HO := hid hO
          have BB1 := hid (BB.out.trans (hO.bel.mono BB.out.size))
          have RR1 := hid (row_below RR.out hO.bel)
          have HS1 := hid (show Hs4 W5 w.heap.size 0 (.int .i64 t) w.heap.size 1 (.int .i64 s) w.heap.size 2 (.slice a n c) b1 (off1 + k) (.int .i64 x) W5 from ⟨at_row RR1.out 0 rfl, at_row RR1.out 1 rfl, at_row RR1.out 2 rfl, hcell_below HS.out.2.2.2.1 hO.bel, Below.refl _ _⟩)
          have XX := hid ((X2.out.bel HB.out).bel hO.bel)
          have cr2 : ∀ W, Below W5.heap.size W5 W → _ := fun W hW => cr G xs.length W (BB1.out.trans (hW.mono BB1.out.size)) (Nat.le_refl _) (XX.out.bel hW)
          clear hO cr cp2 HS
          go_wp2_with fail
          go_region_held3 (Hs4 W5 w.heap.size 0 (.int .i64 t) w.heap.size 1 (.int .i64 s) w.heap.size 2 (.slice a n c) b1 (off1 + k) (.int .i64 x)) (with_reducible (first | assumption | exact hs4_drew HS1.out | exact hs4_call HS1.out (hs4_drew HS1.out) b3 | (refine hs4_call HS1.out ?_ b3; assumption) | (refine hs4_alloc HS1.out ?_ _; assumption) | exact hs4_drewa HS1.out (hs4_alloc HS1.out HS1.out _) | exact hs4_alloc HS1.out (hs4_call HS1.out (hs4_drew HS1.out) b3) _ | (refine hs4_set HS1.out (hs4_set HS1.out (hs4_set HS1.out (hs4_set HS1.out (hs4_set HS1.out ?_ (Nat.le_refl _)) (Nat.le_refl _)) (Nat.le_refl _)) (Nat.le_refl _)) (Nat.le_refl _); assumption))) (first | (go_at_call 10; refine (cr2 _ ?hb3).mono ?_; (case hb3 => first | exact hs4_bel (hs4_drew HS1.out) | exact hs4_bel (hs4_drewa HS1.out (hs4_alloc HS1.out HS1.out _))); rintro e w6 ⟨a2, c2, rfl, F2, b3⟩; have q1 := (hbcell b3).1; have q2 := (hbcell b3).2))
        all_goals
          first
            | (have hP := onW_b (at_ := at_) (sh := sh) (mk_ := mk_) (lk := lk) b3 F2; clear q1 q2 b3 F2; revert hP; generalize W5.heap.size = g2; generalize World.setCell _ _ _ = W7; intro hP)
            | (have hP := onW_a (at_ := at_) (sh := sh) (mk_ := mk_) (lk := lk) b3 F2; clear q1 q2 b3 F2; revert hP; generalize w6.heap.size = g2; generalize w6.alloc _ = W7; intro hP)
        all_goals
          have F1 := hid (HO.out.fs.below hP.bel)
          have F2 := hid hP.fs
          have HB7 := hid (HB.out.trans ((HO.out.bel.trans (hP.bel.mono HO.out.bel.size)).mono HB.out.size))
          have T1 := hid (row_below HO.out.row hP.bel)
          have T2 := hid hP.row
          have e0 := at_row T1.out 0 rfl
          have e1 := at_row T1.out 1 rfl
          have e2 := at_row T1.out 2 rfl
          have e3 := at_row T1.out 3 rfl
          have e4 := at_row T1.out 4 rfl
          have f0 := at_row T2.out 0 rfl
          have f1 := at_row T2.out 1 rfl
          have f2 := at_row T2.out 2 rfl
          have f3 := at_row T2.out 3 rfl
          have f4 := at_row T2.out 4 rfl
          have he : (er != er) = false := by simp
          have cs := orefSame_yes at_ sh mk_ lk a1 a2 zs.length c1 zs.length c2 zs W7 F1.out F2.out z9
          clear hP HO BB1 RR1 HS1 XX cr2
          go_wp2_with (go_at_call 8; refine (onum_any _ _).mono ?_; rintro e w' ⟨rfl, hw⟩; rw [hw]; clear hw)
          go_wp2_with (go_at_call 11; refine cs.mono ?_)
          rintro e w8 ⟨rfl, b8⟩
          have e0 := at_row (row_below T1.out b8) 0 rfl
          have e1 := at_row (row_below T1.out b8) 1 rfl
          have e2 := at_row (row_below T1.out b8) 2 rfl
          have e3 := at_row (row_below T1.out b8) 3 rfl
          have e4 := at_row (row_below T1.out b8) 4 rfl
          have f0 := at_row (row_below T2.out b8) 0 rfl
          have f1 := at_row (row_below T2.out b8) 1 rfl
          have f2 := at_row (row_below T2.out b8) 2 rfl
          have f3 := at_row (row_below T2.out b8) 3 rfl
          have f4 := at_row (row_below T2.out b8) 4 rfl
          have cs2 := oobSame_yes at_ sh mk_ lk a1 a2 zs.length c1 zs.length c2 zs w8 (F1.out.below b8) (F2.out.below b8) z9
          have HB8 := hid (HB7.out.trans (b8.mono HB7.out.size))
          clear cs b8 T1 T2 F1 F2 HB7
          go_wp2_with (go_at_call 12; refine cs2.mono ?_)
          rintro e w9 ⟨rfl, b9⟩
          have HB9 := hid (HB8.out.trans (b9.mono HB8.out.size))
          clear cs2 b9 HB8 e0 e1 e2 e3 e4 f0 f1 f2 f3 f4
          go_wp2
          go_roundw
          case rel => exact ⟨k + 1, by omega, by go_num, HB9⟩
          case measure => simp [intOf]; omega
      · obtain rfl : k = ln := by omega
        have AR := A2.out.below HB.out
        have ch := ohas_at A B G 0 xs.length xs wr AR (X2.out.bel HB.out)
        clear cb AR
        go_wp2_with (go_at_call 13; refine ch.mono ?_)
        rintro e w8 ⟨rfl, b8⟩
        have B8 := hid (BB.out.trans (b8.mono BB.out.size))
        have cw2 := cw _ B8.out
        clear ch b8
        go_wp2_with (go_at_call 7; refine cw2.mono ?_; rintro e w9 ⟨rfl, b9⟩)
        go_ret
        exact ⟨rfl, B8.out.trans (b9.mono B8.out.size)⟩
  · have cm := made_no t s a n c ss wa ws.length wc m _ (hT.below (Nat.le_refl _) B0.out) (by simpa using h)
    clear hT hL hws h hls
    generalize ws.length = wn at *
    go_enter Tryz.func3, Tryz.ntmps3
    go_wp2_with (go_at_call 5; refine cm.mono ?_)
    rintro e w1 ⟨rfl, b1⟩
    have B1 := hid (B0.out.trans (b1.mono B0.out.size))
    have cw2 := cw _ B1.out
    clear cm cw b1 R0 B0
    go_wp2_with (first | (go_at_call 6; refine (Of_no none 0 0 _ (.inl rfl)).mono ?_; rintro e w' ⟨rfl, rfl⟩) | (go_at_call 7; refine cw2.mono ?_; rintro e w7 ⟨rfl, b7⟩))
    go_ret
    exact ⟨rfl, B1.out.trans (b7.mono B1.out.size)⟩
end Go.Proofs.YtldfmlkjeniemaaGreatDoor
