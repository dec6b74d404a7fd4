/- The walk of the law WordTexts. -/
import Derived.Test.YtlbhkaokpfljmaaDoorWdRt
import Derived.Test.YtlbhkaokpfljmaaDoorWdSlice
namespace Go.Proofs.YtlbhkaokpfljmaaDoor
open Go.RowKit
theorem tx_len (x : Int) (h0 : 0 ≤ x) : (tx x).length ≤ 23 := by
  obtain ⟨v0, v1⟩ := ofV_bd x h0
  have := txB_len (Wd.ofK x).toNat (Wd.ofV x) v0 v1
  unfold tx txS
  split <;> simp <;> omega
theorem read_tx (x a c : Int) (T : ByteArray) (w : World) (h0 : 0 ≤ x) (hT : Hid ((⟨(tx x).toArray⟩ : ByteArray) = T)) (hr : Hid (Wd.rd (tx x) = (a, c))) :
    Calls Tryd.prog 27 #[.string T] w fun e w' => e = .returned (.tuple #[.int .u64 a, .int .i64 c]) ∧ Below w.heap.size w w' := by
  have hl := tx_len x h0
  have hs : T.size ≤ maxLen := by rw [← hT.out]; show (tx x).length ≤ maxLen; unfold maxLen; omega
  refine (read_any T w hs).mono fun _ _ h => ⟨h.1.trans ?_, h.2⟩
  have e : T.data.toList = tx x := by rw [← hT.out]
  rw [e, show Wd.rd (tx x) = (a, c) from hr.out]
theorem text_at (x : Int) (T : ByteArray) (w : World) (h0 : 0 ≤ x) (h1 : x ≤ 18446744073709551615) (hT : Hid ((⟨(tx x).toArray⟩ : ByteArray) = T)) (ht : Tab w) :
    Calls Tryd.prog 26 #[.int .u64 x] w fun e w' => e = .returned (.string T) ∧ Below w.heap.size w w' := by
  rw [← hT.out]; exact text_fn x w h0 h1 (.inr ht)
theorem rtext_at (x : Int) (T : ByteArray) (w : World) (h0 : 0 ≤ x) (h1 : x ≤ 18446744073709551615) (hT : Hid ((⟨(tx x).toArray⟩ : ByteArray) = T)) :
    Calls Tryd.prog 28 #[.int .u64 x] w fun e w' => e = .returned (.string T) ∧ Below w.heap.size w w' := by
  rw [← hT.out]; exact rtext_any x w h0 h1
theorem rof_at (x k : Int) (s : Bool) (v : Int) (w : World) (h0 : 0 ≤ x) (h1 : x ≤ 18446744073709551615) (hk : Wd.ofK x = k) (hs : Wd.ofS x = s) (hv : Wd.ofV x = v) :
    Calls Tryd.prog 12 #[.int .u64 x] w fun e w' => e = .returned (.agg #[.int .i64 k, .bool s, .int .i64 v]) ∧ Below w.heap.size w w' := by
  subst hk hs hv; exact rof_any x w h0 h1
theorem bad_zero (x : Int) (_h0 : 0 ≤ x) (h : Wd.ofK x = 0) : Wd.ofS x = false ∧ Wd.ofV x = 0 := by
  refine ⟨by unfold Wd.ofS; rw [h]; rfl, by unfold Wd.ofV; rw [h]; rfl⟩
set_option maxRecDepth 100000 in
set_option maxHeartbeats 8000000 in
theorem wordTexts_loop (b off len cap : Nat) (zs : List Int) (w : World) (hlen : len ≤ 60) (hc : Hid (Cells w b off len zs)) (ht : Tab w) :
    Calls Tryd.prog 7 #[.slice (some ⟨b, off, none⟩) len cap] w fun e w' => e = .returned (.bool true) ∧ Below w.heap.size w w' := by
  have HTab := hid ht
  clear ht
  have hgt : (len : Int) ≤ 60 := by omega
  go_enter Tryd.func7, Tryd.ntmps7
  go_wp2
  go_loopw [3] (fun i wr => ∃ k : Nat, k ≤ len ∧ i = .int .i64 k ∧ Below w.heap.size w wr) (fun i _ => len - (intOf i).toNat)
  case atStart => exact ⟨0, by omega, rfl, Below.refl _ _⟩
  case round =>
    obtain ⟨k, hk, rfl, a0⟩ := hrel
    have z0 : w.heap.size ≤ wr.heap.size := a0.size
    by_cases hlt : k < len
    · obtain ⟨hbk, hcell, x0, x1⟩ := hc.out k hlt
      have hcr : wr.cell? ⟨b, off + k, none⟩ = some (.int .u64 (zs.getD k 0)) := (a0.cell (p := ⟨b, off + k, none⟩) hbk).trans hcell
      generalize zs.getD k 0 = x at *
      have Hcell := hid hcell; clear hcell
      obtain ⟨T, hT⟩ : ∃ T : ByteArray, (⟨(tx x).toArray⟩ : ByteArray) = T := ⟨_, rfl⟩
      have HT := hid hT; clear hT
      by_cases hbad : Wd.ofK x = 0
      · have HZ := hid hbad
        have HR := hid (rd_tx_bad x x0 hbad)
        clear hbad
        go_wp2_with (go_at_call 26; refine (text_at x T _ x0 x1 HT (tab_below HTab.out a0)).mono ?_)
        rintro e w1 ⟨rfl, b1⟩
        have a1 : Below w.heap.size w w1 := a0.trans (b1.mono z0)
        have z1 : w.heap.size ≤ w1.heap.size := a1.size
        have hc1 : w1.cell? ⟨b, off + k, none⟩ = some (.int .u64 x) := (a1.cell (p := ⟨b, off + k, none⟩) hbk).trans Hcell.out
        clear b1 hcr
        go_wp2_with (go_at_call 27; refine (read_tx x 0 2 T _ x0 HT HR).mono ?_)
        rintro e w2 ⟨rfl, b2⟩
        have a2 : Below w.heap.size w w2 := a1.trans (b2.mono z1)
        have z2 : w.heap.size ≤ w2.heap.size := a2.size
        have hc2 : w2.cell? ⟨b, off + k, none⟩ = some (.int .u64 x) := (a2.cell (p := ⟨b, off + k, none⟩) hbk).trans Hcell.out
        clear b2 hc1
        go_wp2_with (go_at_call 12; refine (rof_at x 0 false 0 _ x0 x1 HZ.out (bad_zero x x0 HZ.out).1 (bad_zero x x0 HZ.out).2).mono ?_)
        rintro e w3 ⟨rfl, b3⟩
        have a3 : Below w.heap.size w w3 := a2.trans (b3.mono z2)
        have z3 : w.heap.size ≤ w3.heap.size := a3.size
        have hc3 : w3.cell? ⟨b, off + k, none⟩ = some (.int .u64 x) := (a3.cell (p := ⟨b, off + k, none⟩) hbk).trans Hcell.out
        clear b3 hc2
        go_wp2_with (go_at_call 28; refine (rtext_at x T _ x0 x1 HT).mono ?_)
        rintro e w4 ⟨rfl, b4⟩
        have a4 : Below w.heap.size w w4 := a3.trans (b4.mono z3)
        have z4 : w.heap.size ≤ w4.heap.size := a4.size
        have hc4 : w4.cell? ⟨b, off + k, none⟩ = some (.int .u64 x) := (a4.cell (p := ⟨b, off + k, none⟩) hbk).trans Hcell.out
        clear b4 hc3
        clear a0 a1 a2 a3 z0 z1 z2 z3
        go_wp2_with (first | (go_at_call 13; refine (num_any _ _).mono ?_; rintro e w' ⟨rfl, rfl⟩))
        go_roundw
        case rel => exact ⟨k + 1, by omega, by go_num, a4⟩
        case measure => simp [intOf]; omega
      · have HZ := hid hbad
        have HR := hid (rd_tx_good x x0 hbad)
        have hzz : (Wd.ofK x == 0) = false := by simpa using hbad
        clear hbad
        obtain ⟨K, hK⟩ : ∃ K, Wd.ofK x = K := ⟨_, rfl⟩
        obtain ⟨B, hB⟩ : ∃ B, Wd.ofS x = B := ⟨_, rfl⟩
        obtain ⟨V, hV⟩ : ∃ V, Wd.ofV x = V := ⟨_, rfl⟩
        rw [hK] at hzz
        have HK := hid hK
        have HB := hid hB
        have HV := hid hV
        clear hK hB hV
        go_wp2_with (go_at_call 26; refine (text_at x T _ x0 x1 HT (tab_below HTab.out a0)).mono ?_)
        rintro e w1 ⟨rfl, b1⟩
        have a1 : Below w.heap.size w w1 := a0.trans (b1.mono z0)
        have z1 : w.heap.size ≤ w1.heap.size := a1.size
        have hc1 : w1.cell? ⟨b, off + k, none⟩ = some (.int .u64 x) := (a1.cell (p := ⟨b, off + k, none⟩) hbk).trans Hcell.out
        clear b1 hcr
        go_wp2_with (go_at_call 27; refine (read_tx x x 0 T _ x0 HT HR).mono ?_)
        rintro e w2 ⟨rfl, b2⟩
        have a2 : Below w.heap.size w w2 := a1.trans (b2.mono z1)
        have z2 : w.heap.size ≤ w2.heap.size := a2.size
        have hc2 : w2.cell? ⟨b, off + k, none⟩ = some (.int .u64 x) := (a2.cell (p := ⟨b, off + k, none⟩) hbk).trans Hcell.out
        clear b2 hc1
        go_wp2_with (go_at_call 12; refine (rof_at x K B V _ x0 x1 HK.out HB.out HV.out).mono ?_)
        rintro e w3 ⟨rfl, b3⟩
        have a3 : Below w.heap.size w w3 := a2.trans (b3.mono z2)
        have z3 : w.heap.size ≤ w3.heap.size := a3.size
        have hc3 : w3.cell? ⟨b, off + k, none⟩ = some (.int .u64 x) := (a3.cell (p := ⟨b, off + k, none⟩) hbk).trans Hcell.out
        clear b3 hc2
        go_wp2_with (go_at_call 28; refine (rtext_at x T _ x0 x1 HT).mono ?_)
        rintro e w4 ⟨rfl, b4⟩
        have a4 : Below w.heap.size w w4 := a3.trans (b4.mono z3)
        have z4 : w.heap.size ≤ w4.heap.size := a4.size
        have hc4 : w4.cell? ⟨b, off + k, none⟩ = some (.int .u64 x) := (a4.cell (p := ⟨b, off + k, none⟩) hbk).trans Hcell.out
        clear b4 hc3
        clear a0 a1 a2 a3 z0 z1 z2 z3
        go_wp2_with (first | (go_at_call 13; refine (num_any _ _).mono ?_; rintro e w' ⟨rfl, rfl⟩))
        go_roundw
        case rel => exact ⟨k + 1, by omega, by go_num, a4⟩
        case measure => simp [intOf]; omega
    · go_wp2_with (go_at_call 9; refine (works_any _).mono ?_)
      rintro e w1 ⟨rfl, b1⟩
      go_wp2
      go_ret
      exact ⟨rfl, a0.trans (b1.mono z0)⟩
set_option maxHeartbeats 4000000 in
theorem wordTexts_zero (a : Option Addr) (cap : Nat) (w : World) : Calls Tryd.prog 7 #[.slice a 0 cap] w fun e w' => e = .returned (.bool true) ∧ Below w.heap.size w w' := by
  go_enter Tryd.func7, Tryd.ntmps7
  go_wp2
  refine wp_loop_rounds 1 ?_
  rw [rounds_succ]
  go_wp2_with (go_at_call 9; refine (works_any _).mono ?_)
  rintro e w1 ⟨rfl, b1⟩
  go_wp2
  go_ret
  exact ⟨rfl, b1⟩
theorem wordTexts_long (a : Option Addr) (len cap : Nat) (w : World) (h : (60 : Int) < len) : Calls Tryd.prog 7 #[.slice a len cap] w fun e w' => e = .returned (.bool true) ∧ Below w.heap.size w w' := by
  go_enter Tryd.func7, Tryd.ntmps7
  go_wp2_with (go_at_call 9; refine (works_any _).mono ?_)
  rintro e w1 ⟨rfl, b1⟩
  go_wp2
  go_ret
  exact ⟨rfl, b1⟩
theorem wordTexts_walk (a : Option Addr) (len cap : Nat) (zs : List Int) (w : World) (h : IsRow w a len cap zs) (ht : Tab w) : Calls Tryd.prog 7 #[.slice a len cap] w fun e w' => e = .returned (.bool true) ∧ Below w.heap.size w w' := by
  rcases h with ⟨rfl, rfl, rfl, rfl⟩ | ⟨x, rfl, hl, hm, hz, hcell, hwz⟩
  · exact wordTexts_zero none 0 w
  · by_cases h0 : 0 < len
    · by_cases h1 : len ≤ 60
      · obtain ⟨b, off, rfl, hc⟩ := IsRow.cells h0 hl hz hcell hwz
        exact wordTexts_loop b off len cap zs w h1 hc ht
      · exact wordTexts_long (some x) len cap w (by omega)
    · obtain rfl : len = 0 := by omega
      exact wordTexts_zero (some x) cap w
end Go.Proofs.YtlbhkaokpfljmaaDoor
