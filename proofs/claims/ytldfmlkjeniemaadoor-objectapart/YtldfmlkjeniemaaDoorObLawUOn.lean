/- The law ObjectApart. -/
import Derived.Test.YtldfmlkjeniemaaDoorObNilOn
import Derived.Test.YtldfmlkjeniemaaDoorObRWalkOn
import Derived.Test.YtldfmlkjeniemaaDoorHdLeafOn
import Derived.SliceStrings
import Derived.Test.YtldfmlkjeniemaaDoorObMadeOn
import Derived.LaidLaws
import Derived.ChangeArms
import Derived.Lib.LaidTab
import Derived.MakeChecks
import Derived.LaidMore
import Derived.ProofKit
import Derived.OpenShut
import Derived.Stop.Joined
import Derived.Lib.SmallJoins
set_option linter.unusedVariables false
namespace Go.Proofs.YtldfmlkjeniemaaDoor
open Go.RowKit Go.Ly Go.Hd Go.Sh Go.Ob
set_option maxRecDepth 100000 in
set_option maxHeartbeats 8000000 in
theorem objectApart_any (t s : Int) (a : Option Addr) (n c : Nat) (ss : List ByteArray) (wa : Option Addr) (wc : Nat) (ws : List Int) (m q u : Int) (w : World) (hT : IsTab w (.slice a n c) ss) (hL : LNums w) (hws : WsA w wa wc ws) (hi : InW ws) :
    Calls Tryd.prog 5 #[hpV t s a n c wa ws.length wc m, .int .i64 q, .int .i64 u] w fun e w' => e = .returned (.bool true) ∧ Below w.heap.size w w' := by
  have B0 := hid (below_alloc0 w (hpO t s a n c wa ws.length wc m))
  have R0 := heap_alloc_last w (hpO t s a n c wa ws.length wc m)
  have cw := fun W (h : Below w.heap.size w W) => oworks_any W (hL.below h)
  by_cases h : mdOk t s ss ws.length m = true
  · obtain ⟨hr, s9, _, m0, m9⟩ := md_yes h
    obtain ⟨t0, t1, s0, s1, _⟩ := rgt_yes hr
    obtain ⟨N, hN⟩ := Int.eq_ofNat_of_zero_le (show 0 ≤ 3 + t + t + 2 * s + m by omega)
    have cm := made_yes t s a n c ss wa wc ws m N _ (hT.below (Nat.le_refl _) B0.out) h (hws.below B0.out) hN.symm
    have hl := mdW_len ws N
    have hxi := mdW_in hi N
    generalize mdW ws N = xs at *
    subst hl
    have n0 : ((xs.length : Int) == 0) = false := by rw [beq_eq_false_iff_ne]; omega
    obtain ⟨er, zs, z9, hz, cp⟩ := apart_walk t s a n c ss xs m q w hT hL hr hN.symm
    have h1 : 1 ≤ xs.length := by omega
    have h2 : xs.length ≤ 16384 := by omega
    by_cases hgo : er = 0 ∧ 0 ≤ u ∧ u < (zs.length : Int)
    · obtain ⟨rfl, u0, u9⟩ := hgo
      obtain ⟨rfl, P0, E, K, hA⟩ := hz rfl
      have hl2 : (xs.length : Int) = 3 + t + t + 2 * s := by omega
      have cr := fun k hk => apart_round t s a n c ss xs zs q P0 E K w hT hL hr hl2 hA k hk
      have cb := fun W => rBase6_q t s a n c q W hA.sp t0 t1 s0 s1
      rw [hA.base] at cb
      have hPE : (P0 : Int) + s = (E : Int) := by rw [← hA.base]; exact hA.stop
      have hP9 : (E : Int) ≤ 1000 := by
        have := hA.stop
        have : q * s ≤ s := by rcases hA.sp with rfl | rfl <;> omega
        omega
      have hend := hid (apart_end t s ss xs zs q P0 E K hA s0)
      have q0 : 0 ≤ q := by rcases hA.sp with rfl | rfl <;> omega
      have q1 : q ≤ 1 := by rcases hA.sp with rfl | rfl <;> omega
      have du0 : decide (u < 0) = false := by rw [decide_eq_false_iff_not]; omega
      have du1 : decide ((zs.length : Int) ≤ u) = false := by rw [decide_eq_false_iff_not]; omega
      have du2 : decide (q < 0) = false := by rw [decide_eq_false_iff_not]; omega
      have du3 : decide (1 < q) = false := by rw [decide_eq_false_iff_not]; omega
      have e0 := enS_zero ss xs zs P0 E
      obtain ⟨en, hen⟩ : ∃ en, enS ss xs zs P0 E = en := ⟨_, rfl⟩
      rw [hen] at hend e0
      simp only [hen] at cr
      have HR := hid cr
      have s0' : 0 ≤ s := by omega
      have s9' : s ≤ 100 := s9
      clear hT hL hws h hr s9 m0 m9 t0 t1 s0 s1 hN hi hA hz cr hl2
      generalize ws.length = wn at *
      go_enter Tryd.func5, Tryd.ntmps5
      go_wp2_with (go_at_call 7; refine cm.mono ?_)
      rintro e w1 ⟨G, rfl, hx, _, b1⟩
      have R1 := hid (row_below R0 b1)
      have B1 := hid (B0.out.trans (b1.mono B0.out.size))
      have cO := Of_yes G 0 xs.length xs w1 hx h1 h2
      have A2 := hid (made_ar w1 xs hxi h1 h2)
      have M2 := made_below w1 xs
      have R2 := hid (row_below R1.out M2)
      have B2 := hid (B1.out.trans (M2.mono B1.out.size))
      clear cm b1 R0 B0 hx R1 B1 M2 h1 h2 hxi
      generalize made w1 xs = w2 at *
      generalize w1.heap.size + 1 = A at *
      generalize w1.heap.size = B at *
      go_wp2_with (go_at_call 8; refine cO.mono ?_; rintro e w' ⟨rfl, hw⟩; rw [hw]; clear hw)
      have P2 := cp _ _ w2 B2.out A2.out
      have d0 := at_row R2.out 0 rfl
      have d1 := at_row R2.out 1 rfl
      have d2 := at_row R2.out 2 rfl
      clear cO cp
      go_wp2_with (go_at_call 9; refine (onum_any _ _).mono ?_)
      rintro e w' ⟨rfl, rfl⟩
      go_wp2_with (go_at_call 13; refine P2.mono ?_)
      rintro e w3 ⟨a1, c1, rfl, F1, b3⟩
      have R3 := hid (row_below R2.out b3)
      have B3 := hid (B2.out.trans (b3.mono B2.out.size))
      have A3 := hid (A2.out.below b3)
      have F1 := hid F1
      clear P2 d0 d1 d2 b3 R2 B2 A2
      have d0 := at_row R3.out 0 rfl
      have d1 := at_row R3.out 1 rfl
      have d2 := at_row R3.out 2 rfl
      go_wp2_with (go_at_call 9; refine (onum_any _ _).mono ?_; rintro e w' ⟨rfl, hw⟩; rw [hw]; clear hw)
      go_wp2_with (go_at_call 15; refine (cb _).mono ?_)
      rintro e w4 ⟨rfl, b4⟩
      have R4 := hid (row_below R3.out b4)
      have B4 := hid (B3.out.trans (b4.mono B3.out.size))
      have A4 := hid (A3.out.below b4)
      have F4 := hid (F1.out.below b4)
      clear cb d0 d1 d2 b4 R3 B3 A3 F1
      go_wp2
      go_loopw [13, 14] (fun e i wr => ∃ k : Nat, ∃ v : Int, k ≤ zs.length ∧ i = .int .i64 k ∧ e = .int .i64 v ∧ Hid (v = en k) ∧ (P0 : Int) ≤ v ∧ v ≤ (E : Int) ∧ Hid (Below w4.heap.size w4 wr)) (fun _ i _ => zs.length - (intOf i).toNat)
      case atStart => exact ⟨0, (P0 : Int), by omega, rfl, rfl, hid e0.symm, by omega, by omega, hid (Below.refl _ _)⟩
      clear du0 du1 du2 du3
      case round =>
        obtain ⟨k, v, hk, rfl, rfl, hv, v0, v9, HB⟩ := hrel
        have BB := hid (B4.out.trans (HB.out.mono B4.out.size))
        have RR := hid (row_below R4.out HB.out)
        by_cases hlt : k < zs.length
        · have hlt' : (k : Int) < zs.length := by omega
          obtain ⟨p, z, sh, mk_, lk, fs, ms, hp, hle, hnx', hE, hP, z8, ms9, hms', hf', cp, cq⟩ := HR.out k hlt
          have hms := hid hms'
          have hf := hid hf'
          have hnx := hid hnx'
          clear hms' hf' hnx'
          rw [← hv.out] at hle
          clear hv
          have AA := hid (A4.out.below HB.out)
          have FF := F4.out.below HB.out
          obtain ⟨b1, off1, rfl, hc1⟩ := FF.cellk k hlt
          rw [hp] at hc1
          have HS := hid (show Hs4 wr w.heap.size 0 (.int .i64 t) w.heap.size 1 (.int .i64 s) w.heap.size 2 (.slice a n c) b1 (off1 + k) (.int .i64 (p : Int)) wr from ⟨at_row RR.out 0 rfl, at_row RR.out 1 rfl, at_row RR.out 2 rfl, hc1, Below.refl _ _⟩)
          have cp2 : ∀ W, Below wr.heap.size wr W → _ := fun W hW => cp A B W (BB.out.trans (hW.mono BB.out.size)) (AA.out.below hW)
          clear cp hc1 FF
          have p9 : (p : Int) ≤ 1000 := by omega
          have z9' : (z : Int) ≤ 8 := by omega
          go_wp2_with fail
          go_region_held3 (Hs4 wr w.heap.size 0 (.int .i64 t) w.heap.size 1 (.int .i64 s) w.heap.size 2 (.slice a n c) b1 (off1 + k) (.int .i64 (p : Int))) (with_reducible (first | assumption | exact hs4_drew HS.out | exact hs4_call HS.out (hs4_drew HS.out) b3 | (refine hs4_call HS.out ?_ b3; assumption) | (refine hs4_alloc HS.out ?_ _; assumption) | exact hs4_drewa HS.out (hs4_alloc HS.out HS.out _) | exact hs4_alloc HS.out (hs4_call HS.out (hs4_drew HS.out) b3) _ | (refine hs4_set HS.out (hs4_set HS.out (hs4_set HS.out (hs4_set HS.out (hs4_set HS.out ?_ (Nat.le_refl _)) (Nat.le_refl _)) (Nat.le_refl _)) (Nat.le_refl _)) (Nat.le_refl _); assumption))) (first | (go_at_call 16; refine (cp2 _ ?hb3).mono ?_; (case hb3 => first | exact hs4_bel (hs4_drew HS.out) | exact hs4_bel (hs4_drewa HS.out (hs4_alloc HS.out HS.out _))); rintro e w5 ⟨a2, c2, rfl, F2, b3⟩; have q1 := (hbcell b3).1; have q2 := (hbcell b3).2))
          all_goals
            first
              | (have hO := onW_b (at_ := (p : Int)) (sh := sh) (mk_ := mk_) (lk := lk) b3 F2; clear q1 q2 b3 F2; revert hO; generalize wr.heap.size = g; generalize World.setCell _ _ _ = W5; intro hO)
              | (have hO := onW_a (at_ := (p : Int)) (sh := sh) (mk_ := mk_) (lk := lk) b3 F2; clear q1 q2 b3 F2; revert hO; generalize w5.heap.size = g; generalize w5.alloc _ = W5; intro hO)
          all_goals
            have HB1 := hid (HB.out.trans (hO.bel.mono HB.out.size))
            have BB1 := hid (BB.out.trans (hO.bel.mono BB.out.size))
            have RR1 := hid (row_below RR.out hO.bel)
            have AA1 := hid (AA.out.below hO.bel)
            have hc1 := hcell_below HS.out.2.2.2.1 hO.bel
            have e4 := at_row hO.row 4 rfl
            have d0 := at_row RR1.out 0 rfl
            have d1 := at_row RR1.out 1 rfl
            have d2 := at_row RR1.out 2 rfl
            have FF1 := hid (F4.out.below HB1.out)
            have hw1 : IntKind.i64.wrap ((p : Int) + 2) = (p : Int) + 2 := IntWalk.i64_in _ ⟨by omega, by omega⟩
            have hw2 : IntKind.i64.wrap ((p : Int) + 2 + z) = (p : Int) + 2 + z := IntWalk.i64_in _ ⟨by omega, by omega⟩
            have hlev : ¬ (p : Int) < v := by omega
            clear hO cp2 HS BB RR AA
            go_wp2_with (go_at_call 9; refine (onum_any _ _).mono ?_; rintro e w' ⟨rfl, hw⟩; rw [hw]; clear hw)
            go_quiet (fail)
            have bd : Below W5.heap.size W5 (W5.drewN nq) := bdrewN (Below.refl _ W5) nq
            have HB6 := hid (HB1.out.trans (bd.mono HB1.out.size))
            have BB6 := hid (BB1.out.trans (bd.mono BB1.out.size))
            have RR6 := hid (row_below RR1.out bd)
            have AA6 := hid (AA1.out.below bd)
            clear d0 d1 d2 e4 hc1 HB1 BB1 RR1 AA1 bd FF1
            generalize W5.drewN nq = W6 at *
            by_cases hcut : (k : Int) = u
            · subst hcut
              have cq2 := cq A B W6 BB6.out AA6.out
              have d0 := at_row RR6.out 0 rfl
              have d1 := at_row RR6.out 1 rfl
              have d2 := at_row RR6.out 2 rfl
              have hw3 : IntKind.i64.wrap ((p : Int) + 2 + z - P0) = (p : Int) + 2 + z - P0 := IntWalk.i64_in _ ⟨by omega, by omega⟩
              clear cq
              go_wp2_with (go_at_call 13; refine cq2.mono ?_)
              rintro e w7 ⟨a3, c3, rfl, F3, b7⟩
              have HB7 := hid (HB6.out.trans (b7.mono HB6.out.size))
              have F3 := hid F3
              have hn := hms.out
              have hm1 : ((ms.length : Int) != (zs.length : Int) - (k : Int) - 1) = false := by
                rw [bne_eq_false_iff_eq]; omega
              have hms9 : (ms.length : Int) ≤ 9000 := by omega
              have hz9 : (zs.length : Int) ≤ 9000 := by omega
              have hA : IntKind.i64.wrap ((zs.length : Int) - (k : Int)) = (zs.length : Int) - (k : Int) := IntWalk.i64_in _ ⟨by omega, by omega⟩
              have hB : IntKind.i64.wrap ((zs.length : Int) - (k : Int) - 1) = (zs.length : Int) - (k : Int) - 1 := IntWalk.i64_in _ ⟨by omega, by omega⟩
              have hC : IntKind.i64.wrap ((k : Int) + 1) = (k : Int) + 1 := IntWalk.i64_in _ ⟨by omega, by omega⟩
              clear hn d0 d1 d2 b7 cq2
              by_cases hm0 : ms.length = 0
              · have hm2 : decide ((0 : Int) < 0) = false := by decide
                have hm3 : ((0 : Int) != (zs.length : Int) - (k : Int) - 1) = false := by
                  rw [bne_eq_false_iff_eq]; have := hms.out; omega
                clear F3
                go_wp2
                go_quiet ((go_at_call 9; exact Calls.quiet_of_same (onum_any _ _)))
                have b8 : Below w7.heap.size w7 (w7.drewN nq) := bdrewN (Below.refl _ w7) nq
                have HB8 := hid (HB7.out.trans (b8.mono HB7.out.size))
                clear b8
                generalize w7.drewN nq = w8 at *
                go_wp2
                go_roundw
                case rel => exact ⟨k + 1, (p : Int) + 2 + z, by omega, by go_num, rfl, hid hnx.out.symm, by omega, by omega, HB8⟩
                case measure => simp [intOf]; omega
              · have hMM : 0 < ms.length := by omega
                have hk1 : k + 1 < zs.length := by have := hms.out; omega
                have hk1' : (k : Int) + 1 < zs.length := by omega
                obtain ⟨b4, off4, ha4, hc4⟩ := F3.out.cellk 0 (by omega)
                subst ha4
                obtain ⟨b5, off5, ha5, hc5⟩ := (F4.out.below HB7.out).cellk (k + 1) hk1
                obtain ⟨rfl, rfl⟩ : b1 = b5 ∧ off1 = off5 := by cases ha5; exact ⟨rfl, rfl⟩
                rw [hf.out] at hc5
                rw [Nat.add_zero] at hc4
                generalize wat ms 0 = y at *
                have hy : (y != y) = false := by simp
                clear F3 hm0
                generalize ms.length = M at *
                have hMi : (0 : Int) < (M : Int) := by omega
                have hMd : decide ((0 : Int) < (M : Int)) = true := by simpa using hMM
                go_wp2
                go_quiet ((go_at_call 9; exact Calls.quiet_of_same (onum_any _ _)))
                have b8 : Below w7.heap.size w7 (w7.drewN nq) := bdrewN (Below.refl _ w7) nq
                have HB8 := hid (HB7.out.trans (b8.mono HB7.out.size))
                clear b8
                generalize w7.drewN nq = w8 at *
                go_wp2
                go_roundw
                case rel => exact ⟨k + 1, (p : Int) + 2 + z, by omega, by go_num, rfl, hid hnx.out.symm, by omega, by omega, HB8⟩
                case measure => simp [intOf]; omega
            · have hcu : ((k : Int) == u) = false := by rw [beq_eq_false_iff_ne]; exact hcut
              clear cq
              go_wp2
              go_roundw
              case rel => exact ⟨k + 1, (p : Int) + 2 + z, by omega, by go_num, rfl, hid hnx.out.symm, by omega, by omega, HB6⟩
              case measure => simp [intOf]; omega
        · obtain rfl : k = zs.length := by omega
          have hvE : v ≤ (P0 : Int) + s := by omega
          have d1 := at_row RR.out 1 rfl
          have cw2 := cw _ BB.out
          go_wp2_with (go_at_call 10; refine cw2.mono ?_; rintro e w7 ⟨rfl, b7⟩)
          go_ret
          exact ⟨rfl, BB.out.trans (b7.mono BB.out.size)⟩
    · have hgo' : (er != 0) = true ∨ (er = 0 ∧ (u < 0 ∨ (0 ≤ u ∧ (zs.length : Int) ≤ u))) := by
        by_cases h0 : er = 0
        · refine .inr ⟨h0, ?_⟩
          by_cases hu : u < 0
          · exact .inl hu
          · exact .inr ⟨by omega, by by_cases hv : u < (zs.length : Int); exact absurd ⟨h0, by omega, hv⟩ hgo; omega⟩
        · exact .inl (by simpa using h0)
      clear hT hL hws h hr s9 m0 m9 t0 t1 s0 s1 hN hi hz hgo
      generalize ws.length = wn at *
      rcases hgo' with h | ⟨rfl, h | ⟨h, h'⟩⟩
      all_goals
        go_enter Tryd.func5, Tryd.ntmps5
        go_wp2_with (go_at_call 7; refine cm.mono ?_)
        rintro e w1 ⟨G, rfl, hx, _, b1⟩
        have R1 := hid (row_below R0 b1)
        have B1 := hid (B0.out.trans (b1.mono B0.out.size))
        have cO := Of_yes G 0 xs.length xs w1 hx h1 h2
        have A2 := hid (made_ar w1 xs hxi h1 h2)
        have M2 := made_below w1 xs
        have R2 := hid (row_below R1.out M2)
        have B2 := hid (B1.out.trans (M2.mono B1.out.size))
        clear cm b1 R0 B0 hx R1 B1 M2 h1 h2 hxi
        generalize made w1 xs = w2 at *
        go_wp2_with (go_at_call 8; refine cO.mono ?_; rintro e w' ⟨rfl, hw⟩; rw [hw]; clear hw)
        have P2 := cp _ _ w2 B2.out A2.out
        have d0 := at_row R2.out 0 rfl
        have d1 := at_row R2.out 1 rfl
        have d2 := at_row R2.out 2 rfl
        clear cO cp
        go_wp2_with (go_at_call 9; refine (onum_any _ _).mono ?_)
        rintro e w' ⟨rfl, rfl⟩
        go_wp2_with (go_at_call 13; refine P2.mono ?_)
        rintro e w3 ⟨a1, c1, rfl, F1, b3⟩
        have B3 := hid (B2.out.trans (b3.mono B2.out.size))
        have cw2 := cw _ B3.out
        clear P2 d0 d1 d2 b3 R2 B2 A2 F1
        go_wp2_with (first | (go_at_call 9; refine (onum_any _ _).mono ?_; rintro e w' ⟨rfl, hw⟩; rw [hw]; clear hw) | (go_at_call 10; refine cw2.mono ?_; rintro e w7 ⟨rfl, b7⟩))
        go_ret
        exact ⟨rfl, B3.out.trans (b7.mono B3.out.size)⟩
  · have cm := made_no t s a n c ss wa ws.length wc m _ (hT.below (Nat.le_refl _) B0.out) (by simpa using h)
    clear hT hL hws h
    generalize ws.length = wn at *
    go_enter Tryd.func5, Tryd.ntmps5
    go_wp2_with (go_at_call 7; refine cm.mono ?_)
    rintro e w1 ⟨rfl, b1⟩
    have B1 := hid (B0.out.trans (b1.mono B0.out.size))
    have cw2 := cw _ B1.out
    clear cm cw b1 R0 B0
    go_wp2_with (first | (go_at_call 8; refine (of_none _).mono ?_; rintro e w' ⟨rfl, rfl⟩) | (go_at_call 10; refine cw2.mono ?_; rintro e w7 ⟨rfl, b7⟩))
    go_ret
    exact ⟨rfl, B1.out.trans (b7.mono B1.out.size)⟩
end Go.Proofs.YtldfmlkjeniemaaDoor
/- The slice of shapes that a law is handed, opened. -/
namespace Go.Proofs.YtldfmlkjeniemaaDoor
open Go.RowKit Go.Sh
theorem tab_open {H : Type} {enc : TypeId × Value → H} {W : World} {sp : Nat → Bool} {held : Bool} {a : Option Addr} {len cap fuel : Nat} {x : DataW H × List MemPlace}
    (h : DataW.trod enc Tryd.prog W 0 sp held fuel 22 (Value.slice a len cap).cells.toList = some x) : ∃ ss, IsTab W (.slice a len cap) ss := by
  rcases Go.ChangeShapes.open_strings Tryd.underlying22 Tryd.underlying63 (by kernel_rfl) h with ⟨hcs, _⟩ | ⟨ad, l, c, ss, hcs, _, hl, hm, hss, _, hel, _⟩
  · simp [Value.cells] at hcs
    obtain ⟨rfl, rfl, rfl⟩ := hcs
    exact ⟨[], .inl ⟨rfl, _, _, rfl⟩⟩
  · simp [Value.cells] at hcs
    obtain ⟨rfl, rfl, rfl⟩ := hcs
    by_cases h0 : len = 0
    · subst h0
      exact ⟨[], .inl ⟨rfl, _, _, rfl⟩⟩
    · have hlen : len ≤ ss.length := by rw [hss]; split <;> omega
      have hc0 := hel 0 (by omega)
      obtain ⟨b, off, spot⟩ := ad
      have hspot : spot = none := by simpa [Addr.add] using World.cell?_spot hc0
      subst hspot
      have ha : ∀ j, (⟨b, off, none⟩ : Addr).add j = ⟨b, off + j, none⟩ := fun j => by unfold Addr.add; split <;> simp_all
      have htl : (ss.take len).length = len := by rw [List.length_take]; omega
      refine ⟨ss.take len, .inr ⟨b, off, cap, by rw [htl], fun i hi => ?_⟩⟩
      rw [htl] at hi
      have := hel i (by omega)
      rw [ha] at this
      rw [this, at', List.getD_eq_getElem?_getD, List.getD_eq_getElem?_getD, List.getElem?_take, if_pos hi]
end Go.Proofs.YtldfmlkjeniemaaDoor
/- From the rows' listed table of layout to what the walks ask; a heap of layer 7's laws, as it comes in. -/
set_option linter.unusedVariables false
namespace Go.Proofs.YtldfmlkjeniemaaDoor
open Go.RowKit Go.Ly Go.Sh
theorem lnums_of7 {W : World} {rest : List (String × DataW Unit)} (h : laidMet Tryd.prog (("lapidary/layout.partNumbers", Lib.tabData .i64 [0, 0, 0, 0, 1, 1, 2]) :: rest) W) : LNums W := by
  have hg : Tryd.prog.globalNamed "lapidary/layout.partNumbers" = some 0 := by kernel_rfl
  have ht := Lib.tabIs_of_head (k := .i64) (zs := [0, 0, 0, 0, 1, 1, 2]) (n := 7) (e := 3) (t := 162) hg (by kernel_rfl) Tryd.underlying162 Tryd.underlying3 (by kernel_rfl) (by kernel_rfl) h
  intro i hi
  rw [ht.cell hg i (by simpa using hi)]
  have hcs : i = 0 ∨ i = 1 ∨ i = 2 ∨ i = 3 ∨ i = 4 ∨ i = 5 ∨ i = 6 := by omega
  rcases hcs with rfl | rfl | rfl | rfl | rfl | rfl | rfl <;> rfl
/-- A table that stands in a struct's cell, opened. -/
theorem tab_open7 {H : Type} {enc : TypeId × Value → H} {W : World} {sp : Nat → Bool} {held : Bool} {v : Value} {fuel : Nat} {x : DataW H × List MemPlace}
    (h : DataW.trod enc Tryd.prog W 0 sp held fuel 22 [v] = some x) : ∃ a n c ss, v = .slice a n c ∧ IsTab W (.slice a n c) ss := by
  rcases Go.ChangeShapes.open_strings Tryd.underlying22 Tryd.underlying63 (by kernel_rfl) h with ⟨hcs, _⟩ | ⟨ad, l, c, ss, hcs, _⟩
  · simp at hcs
    subst hcs
    obtain ⟨ss, h1⟩ := tab_open (a := none) (len := 0) (cap := 0) (by simpa [Value.cells] using h)
    exact ⟨_, _, _, ss, rfl, h1⟩
  · simp at hcs
    subst hcs
    obtain ⟨ss, h1⟩ := tab_open (a := some ad) (len := l) (cap := c) (by simpa [Value.cells] using h)
    exact ⟨_, _, _, ss, rfl, h1⟩
open Go.ChangeShapes Go.WideShapes Go.ChangeAt Go.WideMaps Go.WideElems Go.RowKit Go.Joins Go.Ly Go.Hd Go.Sh Go.Ob
theorem oarray5 {α : Type} {cs : Array α} (h : cs.size = 5) : ∃ c0 c1 c2 c3 c4, cs = #[c0, c1, c2, c3, c4] := by
  obtain ⟨l⟩ := cs
  match l, h with
  | [c0, c1, c2, c3, c4], _ => exact ⟨c0, c1, c2, c3, c4, rfl⟩
set_option maxRecDepth 100000 in
theorem heap_open {H : Type} {enc : TypeId × Value → H} {W : World} {base : Nat} {held : Bool} {v : Value} {d : DataW H} {p : List MemPlace}
    (hv : Value.okWide Tryd.prog W .any base 27 v) (h : DataW.Trod enc Tryd.prog W 0 (fun _ => true) held 27 v d p) :
    ∃ t s a n c ss wa wc ws m, v = hpV t s a n c wa ws.length wc m ∧ IsTab W (.slice a n c) ss ∧ WsA W wa wc ws ∧ InW ws := by
  obtain ⟨cs, rfl, hsz⟩ := okWide_struct Tryd.underlying27 hv
  obtain ⟨c0, c1, c2, c3, c4, rfl⟩ := oarray5 (hsz.trans (by kernel_rfl))
  obtain ⟨fuel, hf⟩ := h
  obtain ⟨y0, y1, y2, k, hx, _, h0, h1, h2⟩ := Go.Deep.trod_struct3 Tryd.underlying27 hf
  have j0 : DataW.trod enc Tryd.prog W 0 (fun _ => true) held k 24 [c0, c1, c2] = some y0 := h0
  have j1 : DataW.trod enc Tryd.prog W 0 (fun _ => true) held k 25 [c3] = some y1 := h1
  have j2 : DataW.trod enc Tryd.prog W 0 (fun _ => true) held k 3 [c4] = some y2 := h2
  obtain ⟨x0, x1, x2, k2, _, _, g0, g1, g2⟩ := Go.Deep.trod_struct3 Tryd.underlying24 j0
  have g0 : DataW.trod enc Tryd.prog W 0 (fun _ => true) held k2 3 [c0] = some x0 := g0
  have g1 : DataW.trod enc Tryd.prog W 0 (fun _ => true) held k2 3 [c1] = some x1 := g1
  have g2 : DataW.trod enc Tryd.prog W 0 (fun _ => true) held k2 22 [c2] = some x2 := g2
  obtain ⟨t, e0, _, _⟩ := DataW.trod_int Tryd.underlying3 g0
  obtain ⟨s, e1, _, _⟩ := DataW.trod_int Tryd.underlying3 g1
  obtain ⟨m, e2, _, _⟩ := DataW.trod_int Tryd.underlying3 j2
  obtain ⟨a, n, c, ss, rfl, hT⟩ := tab_open7 g2
  simp at e0 e1 e2
  subst e0 e1 e2
  obtain ⟨wa, wn, wc, zs, rfl, hr⟩ : ∃ wa wn wc zs, c3 = .slice wa wn wc ∧ IsRow W wa wn wc zs := by
    rcases open_ints Tryd.underlying25 Tryd.underlying50 (by kernel_rfl) j1 with ⟨hcs, _⟩ | ⟨x, l, c, zs, hcs, _, hl, hm, hz, _, hcell, hwz⟩
    · simp at hcs
      exact ⟨_, _, _, [], hcs, .inl ⟨rfl, rfl, rfl, rfl⟩⟩
    · simp at hcs
      exact ⟨_, _, _, zs, hcs, .inr ⟨_, rfl, hl, hm, by simpa using hz, hcell, hwz⟩⟩
  obtain ⟨ws, rfl, hws, hi⟩ := wsA_of_row hr
  exact ⟨t, s, a, n, c, ss, wa, wc, ws, m, rfl, hT, hws, hi⟩
end Go.Proofs.YtldfmlkjeniemaaDoor
