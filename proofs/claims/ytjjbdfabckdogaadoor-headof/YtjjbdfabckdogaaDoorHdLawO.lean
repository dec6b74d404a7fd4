/- The walk of the law HeadOf. -/
import Derived.Test.YtjjbdfabckdogaaDoorHdLawT
namespace Go.Proofs.YtjjbdfabckdogaaDoor
open Go.RowKit Go.Hd Go.Sh
theorem headOf_many (a : Option Addr) (len cap : Nat) (m : Int) (w : World) (hN : Names w) (h : 60 < len) :
    Calls Tryd.prog 4 #[.slice a len cap, .int .i64 m] w fun e w' => e = .returned (.bool true) ∧ Below w.heap.size w w' := by
  have HN := hid hN
  have hgt : (60 : Int) < (len : Int) := by omega
  clear hN h
  go_enter Tryd.func4, Tryd.ntmps4
  go_wp2_with (go_at_call 13; refine (works_any _ HN.out).mono ?_)
  rintro e w1 ⟨rfl, b1⟩
  go_wp2
  go_ret
  exact ⟨rfl, b1⟩
set_option maxRecDepth 10000000 in
set_option maxHeartbeats 20000000 in
theorem headOf_few (a : Option Addr) (len cap : Nat) (zs : List Int) (m : Int) (w : World) (hlen : len ≤ 60) (hc : Hid (WordsAt w a len zs)) (hN : Names w) :
    Calls Tryd.prog 4 #[.slice a len cap, .int .i64 m] w fun e w' => e = .returned (.bool true) ∧ Below w.heap.size w w' := by
  have HN := hid hN
  clear hN
  have hgt : (len : Int) ≤ 60 := by omega
  go_enter Tryd.func4, Tryd.ntmps4
  go_wp2
  go_loopw [5] (fun i wr => ∃ k : Nat, k ≤ len ∧ i = .int .i64 k ∧ Below w.heap.size w wr) (fun i _ => len - (intOf i).toNat)
  case atStart => exact ⟨0, by omega, rfl, Below.refl _ _⟩
  case round =>
    obtain ⟨k, hk, rfl, a0⟩ := hrel
    by_cases hlt : k < len
    · obtain ⟨b, off, rfl, hbk, hcell, x0, x1⟩ := hc.out k hlt
      generalize zs.getD k 0 = x at *
      have hcr := (a0.cell (p := ⟨b, off + k, none⟩) hbk).trans hcell
      by_cases hi : isH x = true
      · by_cases hm : mk m = true
        · have cO := fun W => of_yes x W x0 x1 hi
          have cO2 := fun W => rof_yes x W x0 x1 hi
          have cW := fun W => rwd_bad x W x0 x1 (isH_is hi).2.1
          obtain ⟨i1, i2, i3, i4, i5⟩ := isH_wd ((isH_ok hi m).trans hm)
          have cM := fun W => marked_at x m _ _ W x0 x1 (mkd_in hi hm)
          have cM2 := fun W => rmarked_at x m _ _ W x0 x1 (mkd_in hi hm)
          have cY := fun W => of_yes (wd (x / 32) m) W i4 (by omega) i1
          rw [i2, i3] at cY
          clear i1 i2 i3 i4 i5
          generalize wd (x / 32) m = y at *
          generalize x / 32 = s at *
          generalize x / 8 % 4 = t at *
          clear hi hm x0 x1
          go_wp2_with (go_at_call 11; refine (cO _).mono ?_)
          rintro e w1 ⟨rfl, b1⟩
          have a1 := a0.trans (b1.mono a0.size)
          have hc1 := ((a1.alloc a1.size (.cells #[.int .i64 s, .int .i64 t] 24)).cell (p := ⟨b, off + k, none⟩) hbk).trans hcell
          clear b1 a0 hcr
          go_wp2_with (go_at_call 14; refine (cO2 _).mono ?_)
          rintro e w2 ⟨rfl, b2⟩
          have RA2 := hid (row1 b2)
          have ZA2 := hid (siz1 b2)
          have a2 := a1.trans ((bel1 b2).mono a1.size)
          have hc2 := ((a2.alloc a2.size (.cells #[.int .i64 s, .int .i64 t] 24)).cell (p := ⟨b, off + k, none⟩) hbk).trans hcell
          clear b2 a1 hc1
          go_wp2_with (go_at_call 15; refine (cM _).mono ?_)
          rintro e w3 ⟨rfl, b3⟩
          have RB3 := hid (row1 b3)
          have ZB3 := hid (siz1 b3)
          have RA3 := hid (((bel1 b3).block _ ZA2.out).trans RA2.out)
          have ZA3 := hid (Nat.lt_of_lt_of_le ZA2.out (bel1 b3).size)
          have a3 := a2.trans ((bel1 b3).mono a2.size)
          have hc3 := (a3.cell (p := ⟨b, off + k, none⟩) hbk).trans hcell
          clear b3 a2 hc2 RA2 ZA2
          go_wp2_with (go_at_call 16; refine (cM2 _).mono ?_)
          rintro e w4 ⟨rfl, b4⟩
          have RB4 := hid ((b4.block _ ZB3.out).trans RB3.out)
          have RA4 := hid ((b4.block _ ZA3.out).trans RA3.out)
          have ZA4 := hid (Nat.lt_of_lt_of_le ZA3.out b4.size)
          have a4 := a3.trans (b4.mono a3.size)
          have p0 := at_row RA4.out 0 rfl
          have p1 := at_row RA4.out 1 rfl
          have q0 := at_row RB4.out 0 rfl
          have q1 := at_row RB4.out 1 rfl
          clear b4 a3 hc3 RA3 ZA3 RB3 ZB3 RB4
          go_wp2_with (first | (go_at_call 12; refine (num_any _ _).mono ?_; rintro e w9 ⟨rfl, hw⟩; rw [hw]; clear hw) | (go_at_call 11; refine (cY _).mono ?_))
          rintro e w5 ⟨rfl, b5⟩
          have RA5 := hid ((b5.block _ ZA4.out).trans RA4.out)
          have ZA5 := Nat.lt_of_lt_of_le ZA4.out b5.size
          have a5 := a4.trans (b5.mono a4.size)
          have p0 := at_row RA5.out 0 rfl
          have hc5 := (a5.cell (p := ⟨b, off + k, none⟩) hbk).trans hcell
          have hb5 := Nat.lt_of_lt_of_le hbk a5.size
          clear b5 a4 RA4 ZA4 RA5 p1 q0 q1
          go_wp2_with (go_at_call 17; refine (cW _).mono ?_)
          rintro e w6 ⟨rfl, b6⟩
          have a6 := a5.trans ((bel1 b6).mono a5.size)
          clear b6 a5 hc5
          go_wp2
          go_roundw
          case rel => exact ⟨k + 1, by omega, by simp, a6⟩
          case measure => simp [intOf]; omega
        · have hm' : mk m = false := by simpa using hm
          have cO := fun W => of_yes x W x0 x1 hi
          have cO2 := fun W => rof_yes x W x0 x1 hi
          have cW := fun W => rwd_bad x W x0 x1 (isH_is hi).2.1
          have cM := fun W => marked_at x m _ _ W x0 x1 (mkd_out (x := x) hm')
          have cM2 := fun W => rmarked_at x m _ _ W x0 x1 (mkd_out (x := x) hm')
          have cY := fun W => of_at 0 0 0 false W (by decide) (by decide) (by decide)
          generalize x / 32 = s at *
          generalize x / 8 % 4 = t at *
          clear hi hm hm' x0 x1
          go_wp2_with (go_at_call 11; refine (cO _).mono ?_)
          rintro e w1 ⟨rfl, b1⟩
          have a1 := a0.trans (b1.mono a0.size)
          have hc1 := ((a1.alloc a1.size (.cells #[.int .i64 s, .int .i64 t] 24)).cell (p := ⟨b, off + k, none⟩) hbk).trans hcell
          clear b1 a0 hcr
          go_wp2_with (go_at_call 14; refine (cO2 _).mono ?_)
          rintro e w2 ⟨rfl, b2⟩
          have RA2 := hid (row1 b2)
          have ZA2 := hid (siz1 b2)
          have a2 := a1.trans ((bel1 b2).mono a1.size)
          have hc2 := ((a2.alloc a2.size (.cells #[.int .i64 s, .int .i64 t] 24)).cell (p := ⟨b, off + k, none⟩) hbk).trans hcell
          clear b2 a1 hc1
          go_wp2_with (go_at_call 15; refine (cM _).mono ?_)
          rintro e w3 ⟨rfl, b3⟩
          have RB3 := hid (row1 b3)
          have ZB3 := hid (siz1 b3)
          have RA3 := hid (((bel1 b3).block _ ZA2.out).trans RA2.out)
          have ZA3 := hid (Nat.lt_of_lt_of_le ZA2.out (bel1 b3).size)
          have a3 := a2.trans ((bel1 b3).mono a2.size)
          have hc3 := (a3.cell (p := ⟨b, off + k, none⟩) hbk).trans hcell
          clear b3 a2 hc2 RA2 ZA2
          go_wp2_with (go_at_call 16; refine (cM2 _).mono ?_)
          rintro e w4 ⟨rfl, b4⟩
          have RB4 := hid ((b4.block _ ZB3.out).trans RB3.out)
          have RA4 := hid ((b4.block _ ZA3.out).trans RA3.out)
          have ZA4 := hid (Nat.lt_of_lt_of_le ZA3.out b4.size)
          have a4 := a3.trans (b4.mono a3.size)
          have p0 := at_row RA4.out 0 rfl
          have p1 := at_row RA4.out 1 rfl
          have q0 := at_row RB4.out 0 rfl
          have q1 := at_row RB4.out 1 rfl
          clear b4 a3 hc3 RA3 ZA3 RB3 ZB3 RB4
          go_wp2_with (first | (go_at_call 12; refine (num_any _ _).mono ?_; rintro e w9 ⟨rfl, hw⟩; rw [hw]; clear hw) | (go_at_call 11; refine (cY _).mono ?_))
          rintro e w5 ⟨rfl, b5⟩
          have RA5 := hid ((b5.block _ ZA4.out).trans RA4.out)
          have ZA5 := Nat.lt_of_lt_of_le ZA4.out b5.size
          have a5 := a4.trans (b5.mono a4.size)
          have p0 := at_row RA5.out 0 rfl
          have hc5 := (a5.cell (p := ⟨b, off + k, none⟩) hbk).trans hcell
          have hb5 := Nat.lt_of_lt_of_le hbk a5.size
          clear b5 a4 RA4 ZA4 RA5 p1 q0 q1
          go_wp2_with (go_at_call 17; refine (cW _).mono ?_)
          rintro e w6 ⟨rfl, b6⟩
          have a6 := a5.trans ((bel1 b6).mono a5.size)
          clear b6 a5 hc5
          go_wp2
          go_roundw
          case rel => exact ⟨k + 1, by omega, by simp, a6⟩
          case measure => simp [intOf]; omega
      · have hi' : isH x = false := by simpa using hi
        have cO := fun W => of_no x W x0 x1 hi'
        have cO2 := fun W => rof_no x W x0 x1 hi'
        have cM := fun W => marked_at x m _ _ W x0 x1 (mkd_no hi')
        have cM2 := fun W => rmarked_at x m _ _ W x0 x1 (mkd_no hi')
        have cY := fun W => of_at 0 0 0 false W (by decide) (by decide) (by decide)
        clear hi hi' x0 x1
        go_wp2_with (go_at_call 11; refine (cO _).mono ?_)
        rintro e w1 ⟨rfl, b1⟩
        have a1 := a0.trans (b1.mono a0.size)
        have hc1 := ((a1.alloc a1.size (.cells #[.int .i64 0, .int .i64 0] 24)).cell (p := ⟨b, off + k, none⟩) hbk).trans hcell
        clear b1 a0 hcr
        go_wp2_with (go_at_call 14; refine (cO2 _).mono ?_)
        rintro e w2 ⟨rfl, b2⟩
        have RA2 := hid (row1 b2)
        have ZA2 := hid (siz1 b2)
        have a2 := a1.trans ((bel1 b2).mono a1.size)
        have hc2 := ((a2.alloc a2.size (.cells #[.int .i64 0, .int .i64 0] 24)).cell (p := ⟨b, off + k, none⟩) hbk).trans hcell
        clear b2 a1 hc1
        go_wp2_with (go_at_call 15; refine (cM _).mono ?_)
        rintro e w3 ⟨rfl, b3⟩
        have RB3 := hid (row1 b3)
        have ZB3 := hid (siz1 b3)
        have RA3 := hid (((bel1 b3).block _ ZA2.out).trans RA2.out)
        have ZA3 := hid (Nat.lt_of_lt_of_le ZA2.out (bel1 b3).size)
        have a3 := a2.trans ((bel1 b3).mono a2.size)
        have hc3 := (a3.cell (p := ⟨b, off + k, none⟩) hbk).trans hcell
        clear b3 a2 hc2 RA2 ZA2
        go_wp2_with (go_at_call 16; refine (cM2 _).mono ?_)
        rintro e w4 ⟨rfl, b4⟩
        have RB4 := hid ((b4.block _ ZB3.out).trans RB3.out)
        have RA4 := hid ((b4.block _ ZA3.out).trans RA3.out)
        have ZA4 := hid (Nat.lt_of_lt_of_le ZA3.out b4.size)
        have a4 := a3.trans (b4.mono a3.size)
        have p0 := at_row RA4.out 0 rfl
        have p1 := at_row RA4.out 1 rfl
        have q0 := at_row RB4.out 0 rfl
        have q1 := at_row RB4.out 1 rfl
        clear b4 a3 hc3 RA3 ZA3 RB3 ZB3 RB4
        go_wp2_with (first | (go_at_call 12; refine (num_any _ _).mono ?_; rintro e w9 ⟨rfl, hw⟩; rw [hw]; clear hw) | (go_at_call 11; refine (cY _).mono ?_))
        rintro e w5 ⟨rfl, b5⟩
        have RA5 := hid ((b5.block _ ZA4.out).trans RA4.out)
        have ZA5 := Nat.lt_of_lt_of_le ZA4.out b5.size
        have a5 := a4.trans (b5.mono a4.size)
        have p0 := at_row RA5.out 0 rfl
        have hc5 := (a5.cell (p := ⟨b, off + k, none⟩) hbk).trans hcell
        have hb5 := Nat.lt_of_lt_of_le hbk a5.size
        clear b5 a4 RA4 ZA4 RA5 p1 q0 q1
        go_wp2
        go_roundw
        case rel => exact ⟨k + 1, by omega, by simp, a5.alloc a5.size _⟩
        case measure => simp [intOf]; omega
    · obtain rfl : k = len := by omega
      have A0 := hid a0
      clear a0
      go_wp2_with (go_at_call 13; refine (works_any _ (HN.out.below A0.out)).mono ?_)
      rintro e w3 ⟨rfl, b3⟩
      go_wp2
      go_ret
      exact ⟨rfl, A0.out.trans (b3.mono A0.out.size)⟩
theorem headOf_walk (a : Option Addr) (len cap : Nat) (zs : List Int) (m : Int) (w : World) (hc : IsRow w a len cap zs) (hN : Names w) :
    Calls Tryd.prog 4 #[.slice a len cap, .int .i64 m] w fun e w' => e = .returned (.bool true) ∧ Below w.heap.size w w' := by
  by_cases hl : 60 < len
  · exact headOf_many a len cap m w hN hl
  · exact headOf_few a len cap zs m w (by omega) (hid hc.wordsAt) hN
end Go.Proofs.YtjjbdfabckdogaaDoor
