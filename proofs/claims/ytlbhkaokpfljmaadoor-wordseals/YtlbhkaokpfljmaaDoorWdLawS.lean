/- The walk of the law WordSeals. -/
import Derived.Test.YtlbhkaokpfljmaaDoorWdSeals
import Derived.Test.YtlbhkaokpfljmaaDoorWdSlice
namespace Go.Proofs.YtlbhkaokpfljmaaDoor
open Go.RowKit
theorem strip_back (x : Int) (w : World) (h0 : 0 ≤ x) (h1 : x ≤ 18446744073709551615) (hk1 : Hid (1 ≤ Wd.ofK x)) (hk3 : Hid (Wd.ofK x ≤ 3)) :
    Calls Tryd.prog 20 #[.int .u64 (x - x % 2 + 1)] w fun e w' => e = .returned (.tuple #[.int .u64 (x - x % 2), .int .i64 0]) ∧ Below w.heap.size w w' := by
  have e := Wd.is_seal h0 hk1.out hk3.out
  refine (strip_yes (x - x % 2 + 1) w (by omega) (by omega) (by rw [e]; exact hk1) (by rw [e]; exact hk3)).mono fun _ _ h => ⟨h.1.trans (ret_ie (by omega) rfl), h.2⟩
set_option maxRecDepth 100000 in
set_option maxHeartbeats 8000000 in
theorem wordSeals_loop (b off len cap : Nat) (zs : List Int) (w : World) (hlen : len ≤ 60) (hc : Hid (Cells w b off len zs)) :
    Calls Tryd.prog 6 #[.slice (some ⟨b, off, none⟩) len cap] w fun e w' => e = .returned (.bool true) ∧ Below w.heap.size w w' := by
  have hgt : ¬ (60 : Int) < (len : Int) := by omega
  go_enter Tryd.func6, Tryd.ntmps6
  go_wp2
  go_loopw [3] (fun i wr => ∃ k : Nat, k ≤ len ∧ i = .int .i64 k ∧ Below w.heap.size w wr) (fun i _ => len - (intOf i).toNat)
  case atStart => exact ⟨0, by omega, rfl, Below.refl _ _⟩
  case round =>
    obtain ⟨k, hk, rfl, a0⟩ := hrel
    have z0 : w.heap.size ≤ wr.heap.size := a0.size
    by_cases hlt : k < len
    · obtain ⟨hbk, hcell, x0, x1⟩ := hc.out k hlt
      have hcr : wr.cell? ⟨b, off + k, none⟩ = some (.int .u64 (zs.getD k 0)) := (a0.cell (p := ⟨b, off + k, none⟩) hbk).trans hcell
      clear hcell
      generalize zs.getD k 0 = x at *
      by_cases hk1 : 1 ≤ Wd.ofK x ∧ Wd.ofK x ≤ 3
      · obtain ⟨hk1, hk3⟩ := hk1
        have HK1 := hid hk1
        have HK3 := hid hk3
        clear hk1 hk3
        go_wp2_with (go_at_call 19; refine (seal_yes x _ x0 x1 HK1 HK3).mono ?_)
        rintro e w1 ⟨rfl, b1⟩
        have a1 : Below w.heap.size w w1 := a0.trans (b1.mono z0)
        have z1 : w.heap.size ≤ w1.heap.size := a1.size
        clear b1
        go_wp2_with (go_at_call 20; refine (strip_yes x _ x0 x1 HK1 HK3).mono ?_)
        rintro e w2 ⟨rfl, b2⟩
        have a2 : Below w.heap.size w w2 := a1.trans (b2.mono z1)
        have z2 : w.heap.size ≤ w2.heap.size := a2.size
        clear b2
        go_wp2_with (go_at_call 21; refine (address_any x _ x0 x1).mono ?_)
        rintro e w3 ⟨rfl, b3⟩
        have a3 : Below w.heap.size w w3 := a2.trans (b3.mono z2)
        have z3 : w.heap.size ≤ w3.heap.size := a3.size
        clear b3
        go_wp2_with (go_at_call 22; refine (raddress_any x _ x0 x1).mono ?_)
        rintro e w4 ⟨rfl, b4⟩
        have a4 : Below w.heap.size w w4 := a3.trans (b4.mono z3)
        have z4 : w.heap.size ≤ w4.heap.size := a4.size
        clear b4
        go_wp2_with (go_at_call 23; refine (rholds_yes x _ x0 x1 HK1.out HK3.out).mono ?_)
        rintro e w5 ⟨rfl, b5⟩
        have a5 : Below w.heap.size w w5 := a4.trans (b5.mono z4)
        have z5 : w.heap.size ≤ w5.heap.size := a5.size
        clear b5
        go_wp2_with (go_at_call 20; refine (strip_back x _ x0 x1 HK1 HK3).mono ?_)
        rintro e w6 ⟨rfl, b6⟩
        have a6 : Below w.heap.size w w6 := a5.trans (b6.mono z5)
        have z6 : w.heap.size ≤ w6.heap.size := a6.size
        clear b6
        clear a0 a1 a2 a3 a4 a5 z0 z1 z2 z3 z4 z5
        go_wp2_with (first | (go_at_call 13; refine (num_any _ _).mono ?_; rintro e w' ⟨rfl, rfl⟩) | (go_at_call 24; refine (rseal_any x _ x0 x1).mono ?_; rintro e w' ⟨rfl, rfl⟩) | (go_at_call 25; refine (rstrip_any x _ x0 x1).mono ?_; rintro e w' ⟨rfl, rfl⟩))
        go_roundw
        case rel => exact ⟨k + 1, by omega, by go_num, a6⟩
        case measure => simp [intOf]; omega
      · have HK := hid hk1
        clear hk1
        go_wp2_with (go_at_call 19; refine (seal_no x _ x0 x1 HK).mono ?_)
        rintro e w1 ⟨rfl, b1⟩
        have a1 : Below w.heap.size w w1 := a0.trans (b1.mono z0)
        have z1 : w.heap.size ≤ w1.heap.size := a1.size
        clear b1
        go_wp2_with (go_at_call 20; refine (strip_no x _ x0 x1 HK).mono ?_)
        rintro e w2 ⟨rfl, b2⟩
        have a2 : Below w.heap.size w w2 := a1.trans (b2.mono z1)
        have z2 : w.heap.size ≤ w2.heap.size := a2.size
        clear b2
        go_wp2_with (go_at_call 21; refine (address_any x _ x0 x1).mono ?_)
        rintro e w3 ⟨rfl, b3⟩
        have a3 : Below w.heap.size w w3 := a2.trans (b3.mono z2)
        have z3 : w.heap.size ≤ w3.heap.size := a3.size
        clear b3
        go_wp2_with (go_at_call 22; refine (raddress_any x _ x0 x1).mono ?_)
        rintro e w4 ⟨rfl, b4⟩
        have a4 : Below w.heap.size w w4 := a3.trans (b4.mono z3)
        have z4 : w.heap.size ≤ w4.heap.size := a4.size
        clear b4
        go_wp2_with (go_at_call 23; refine (rholds_no x _ x0 x1 HK).mono ?_)
        rintro e w5 ⟨rfl, b5⟩
        have a5 : Below w.heap.size w w5 := a4.trans (b5.mono z4)
        have z5 : w.heap.size ≤ w5.heap.size := a5.size
        clear b5
        clear a0 a1 a2 a3 a4 z0 z1 z2 z3 z4
        go_wp2_with (first | (go_at_call 13; refine (num_any _ _).mono ?_; rintro e w' ⟨rfl, rfl⟩))
        go_roundw
        case rel => exact ⟨k + 1, by omega, by go_num, a5⟩
        case measure => simp [intOf]; omega
    · go_wp2_with (go_at_call 9; refine (works_any _).mono ?_)
      rintro e w1 ⟨rfl, b1⟩
      go_wp2
      go_ret
      exact ⟨rfl, a0.trans (b1.mono z0)⟩
set_option maxHeartbeats 4000000 in
theorem wordSeals_zero (a : Option Addr) (cap : Nat) (w : World) : Calls Tryd.prog 6 #[.slice a 0 cap] w fun e w' => e = .returned (.bool true) ∧ Below w.heap.size w w' := by
  go_enter Tryd.func6, Tryd.ntmps6
  go_wp2
  refine wp_loop_rounds 1 ?_
  rw [rounds_succ]
  go_wp2_with (go_at_call 9; refine (works_any _).mono ?_)
  rintro e w1 ⟨rfl, b1⟩
  go_wp2
  go_ret
  exact ⟨rfl, b1⟩
theorem wordSeals_long (a : Option Addr) (len cap : Nat) (w : World) (h : (60 : Int) < len) : Calls Tryd.prog 6 #[.slice a len cap] w fun e w' => e = .returned (.bool true) ∧ Below w.heap.size w w' := by
  go_enter Tryd.func6, Tryd.ntmps6
  go_wp2_with (go_at_call 9; refine (works_any _).mono ?_)
  rintro e w1 ⟨rfl, b1⟩
  go_wp2
  go_ret
  exact ⟨rfl, b1⟩
theorem wordSeals_walk (a : Option Addr) (len cap : Nat) (zs : List Int) (w : World) (h : IsRow w a len cap zs) : Calls Tryd.prog 6 #[.slice a len cap] w fun e w' => e = .returned (.bool true) ∧ Below w.heap.size w w' := by
  rcases h with ⟨rfl, rfl, rfl, rfl⟩ | ⟨x, rfl, hl, hm, hz, hcell, hwz⟩
  · exact wordSeals_zero none 0 w
  · by_cases h0 : 0 < len
    · by_cases h1 : len ≤ 60
      · obtain ⟨b, off, rfl, hc⟩ := IsRow.cells h0 hl hz hcell hwz
        exact wordSeals_loop b off len cap zs w h1 hc
      · exact wordSeals_long (some x) len cap w (by omega)
    · obtain rfl : len = 0 := by omega
      exact wordSeals_zero (some x) cap w
end Go.Proofs.YtlbhkaokpfljmaaDoor
