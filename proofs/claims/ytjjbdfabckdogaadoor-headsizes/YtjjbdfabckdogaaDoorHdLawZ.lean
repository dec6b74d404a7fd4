/- The walk of the law HeadSizes. -/
import Derived.Test.YtjjbdfabckdogaaDoorHdLawT
namespace Go.Proofs.YtjjbdfabckdogaaDoor
open Go.RowKit Go.Hd Go.Sh
theorem headSizes_many (a : Option Addr) (len cap : Nat) (v : Value) (w : World) (hN : Names w) (h : 60 < len) :
    Calls Tryd.prog 5 #[.slice a len cap, v] w fun e w' => e = .returned (.bool true) ∧ Below w.heap.size w w' := by
  have HN := hid hN
  have hgt : (60 : Int) < (len : Int) := by omega
  clear hN h
  go_enter Tryd.func5, Tryd.ntmps5
  go_wp2_with (go_at_call 13; refine (works_any _ HN.out).mono ?_)
  rintro e w1 ⟨rfl, b1⟩
  go_wp2
  go_ret
  exact ⟨rfl, b1⟩
theorem headSizes_tall (a a2 : Option Addr) (len cap n cap2 : Nat) (w : World) (hN : Names w) (h : len ≤ 60) (h2 : 20 < n) :
    Calls Tryd.prog 5 #[.slice a len cap, .slice a2 n cap2] w fun e w' => e = .returned (.bool true) ∧ Below w.heap.size w w' := by
  have HN := hid hN
  have hgt : (len : Int) ≤ 60 := by omega
  have hgt2 : (20 : Int) < (n : Int) := by omega
  clear hN h h2
  go_enter Tryd.func5, Tryd.ntmps5
  go_wp2_with (go_at_call 13; refine (works_any _ HN.out).mono ?_)
  rintro e w1 ⟨rfl, b1⟩
  go_wp2
  go_ret
  exact ⟨rfl, b1⟩
set_option maxRecDepth 10000000 in
set_option maxHeartbeats 20000000 in
theorem headSizes_few (a a2 : Option Addr) (len cap n cap2 : Nat) (zs : List Int) (ss : List ByteArray) (w : World) (hlen : len ≤ 60) (hn : n ≤ 20) (hc : Hid (WordsAt w a len zs)) (ht : Hid (IsTab w (.slice a2 n cap2) ss)) (hns : Hid (ss.length = n)) (hN : Names w) :
    Calls Tryd.prog 5 #[.slice a len cap, .slice a2 n cap2] w fun e w' => e = .returned (.bool true) ∧ Below w.heap.size w w' := by
  have HN := hid hN
  clear hN
  have hgt : (len : Int) ≤ 60 := by omega
  have hgt2 : (n : Int) ≤ 20 := by omega
  go_enter Tryd.func5, Tryd.ntmps5
  go_wp2
  go_loopw [5] (fun i wr => ∃ k : Nat, k ≤ n ∧ i = .int .i64 k ∧ wr = w) (fun i _ => n - (intOf i).toNat)
  case atStart => exact ⟨0, by omega, rfl, rfl⟩
  case round =>
    obtain ⟨k, hk, rfl, hwr⟩ := hrel
    subst hwr
    by_cases hlt : k < n
    · obtain ⟨b, off, cap', hv, hcs⟩ := ht.out.some (by rw [hns.out]; omega)
      have hcell := hcs k (by rw [hns.out]; omega)
      simp only [Value.slice.injEq] at hv
      obtain ⟨rfl, hv2, rfl⟩ := hv
      clear hcs hv2
      generalize at' ss k = x at *
      by_cases hz : 20 < x.size
      · have hz' : (20 : Int) < (x.size : Int) := by omega
        clear hz
        go_wp2_with (go_at_call 13; refine (works_any _ HN.out).mono ?_)
        rintro e w1 ⟨rfl, b1⟩
        go_wp2
        go_ret
        exact ⟨rfl, b1⟩
      · have hz' : (x.size : Int) ≤ 20 := by omega
        clear hz
        go_wp2
        refine ⟨⟨k + 1, by omega, by simp, trivial⟩, by simp [intOf]; omega⟩
    · obtain rfl : k = n := by omega
      clear hk hlt
      go_wp2
      go_loopw [6] (fun i W => ∃ j : Nat, j ≤ len ∧ i = .int .i64 j ∧ Below wr.heap.size wr W) (fun i _ => len - (intOf i).toNat)
      case atStart => exact ⟨0, by omega, rfl, Below.refl _ _⟩
      case round =>
        obtain ⟨j, hj, rfl, a0⟩ := hrel
        by_cases hlt : j < len
        · obtain ⟨b, off, rfl, hbk, hcell, x0, x1⟩ := hc.out j hlt
          generalize zs.getD j 0 = x at *
          have hcr := (a0.cell (p := ⟨b, off + j, none⟩) hbk).trans hcell
          obtain ⟨X, C, hX⟩ : ∃ X C, szH x ss = (X, C) := ⟨_, _, rfl⟩
          have cT := fun W hW => hSize_at x (.slice a2 k cap2) ss X C W x0 x1 hW hX
          have cT2 := fun W hW => rhSize_at x (.slice a2 k cap2) ss X C W x0 x1 hW hX
          clear hX x0 x1
          have T0 := hid (ht.out.below (Nat.le_refl _) a0)
          go_wp2_with (go_at_call 18; refine (cT _ T0.out).mono ?_)
          rintro e w1 ⟨rfl, b1⟩
          have a1 := a0.trans (b1.mono a0.size)
          have hc1 := (a1.cell (p := ⟨b, off + j, none⟩) hbk).trans hcell
          have T1 := hid (ht.out.below (Nat.le_refl _) a1)
          clear b1 a0 hcr T0
          go_wp2_with (go_at_call 19; refine (cT2 _ T1.out).mono ?_)
          rintro e w2 ⟨rfl, b2⟩
          have a22 := a1.trans (b2.mono a1.size)
          clear b2 a1 hc1 T1
          go_wp2_with (go_at_call 12; refine (num_any _ _).mono ?_; rintro e w9 ⟨rfl, hw⟩; rw [hw]; clear hw)
          go_roundw
          case rel => exact ⟨j + 1, by omega, by simp, a22⟩
          case measure => simp [intOf]; omega
        · obtain rfl : j = len := by omega
          have A0 := hid a0
          clear a0
          go_wp2_with (go_at_call 13; refine (works_any _ (HN.out.below A0.out)).mono ?_)
          rintro e w3 ⟨rfl, b3⟩
          go_wp2
          go_ret
          exact ⟨rfl, A0.out.trans (b3.mono A0.out.size)⟩
theorem headSizes_walk (a : Option Addr) (len cap : Nat) (zs : List Int) (v : Value) (ss : List ByteArray) (w : World) (hc : IsRow w a len cap zs) (ht : IsTab w v ss) (hN : Names w) :
    Calls Tryd.prog 5 #[.slice a len cap, v] w fun e w' => e = .returned (.bool true) ∧ Below w.heap.size w w' := by
  by_cases hl : 60 < len
  · exact headSizes_many a len cap v w hN hl
  · obtain ⟨a2, cap2, rfl⟩ := ht.len
    by_cases hn : 20 < ss.length
    · exact headSizes_tall a a2 len cap _ cap2 w hN (by omega) hn
    · exact headSizes_few a a2 len cap _ cap2 zs ss w (by omega) (by omega) (hid hc.wordsAt) (hid ht) (hid rfl) hN
end Go.Proofs.YtjjbdfabckdogaaDoor
