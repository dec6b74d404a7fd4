/- The walk of the law HeadTexts. -/
import Derived.Test.YtjjbdfabckdogaaDoorHdWorks
namespace Go.Proofs.YtjjbdfabckdogaaDoor
open Go.RowKit Go.Hd Go.Sh
/-- A slice of words that came in: what its cells hold. -/
def WordsAt (w : World) (a : Option Addr) (len : Nat) (zs : List Int) : Prop :=
  ∀ i, i < len → ∃ b off, a = some ⟨b, off, none⟩ ∧ b < w.heap.size ∧ w.cell? ⟨b, off + i, none⟩ = some (.int .u64 (zs.getD i 0)) ∧ 0 ≤ zs.getD i 0 ∧ zs.getD i 0 ≤ 18446744073709551615
theorem IsRow.wordsAt {w : World} {a : Option Addr} {len cap : Nat} {zs : List Int} (h : IsRow w a len cap zs) : WordsAt w a len zs := by
  intro i hi
  rcases h with ⟨_, rfl, _⟩ | ⟨x, rfl, hl, _, hz, hcell, hw⟩
  · omega
  · obtain ⟨b, off, rfl, hc⟩ := IsRow.cells (by omega) hl hz hcell hw
    obtain ⟨h1, h2, h3, h4⟩ := hc i hi
    exact ⟨b, off, rfl, h1, h2, h3, h4⟩
theorem headTexts_many (a : Option Addr) (len cap : Nat) (m : Int) (w : World) (hN : Names w) (h : 60 < len) :
    Calls Tryd.prog 6 #[.slice a len cap, .int .i64 m] w fun e w' => e = .returned (.bool true) ∧ Below w.heap.size w w' := by
  have HN := hid hN
  have hgt : (60 : Int) < (len : Int) := by omega
  clear hN h
  go_enter Tryd.func6, Tryd.ntmps6
  go_wp2_with (go_at_call 13; refine (works_any _ HN.out).mono ?_)
  rintro e w1 ⟨rfl, b1⟩
  go_wp2
  go_ret
  exact ⟨rfl, b1⟩
set_option maxRecDepth 100000 in
set_option maxHeartbeats 8000000 in
theorem headTexts_0 (a : Option Addr) (len cap : Nat) (zs : List Int) (m : Int) (w : World) (hlen : len ≤ 60) (hc : Hid (WordsAt w a len zs)) (hN : Names w)
    (cP : ∀ W, Names W → Calls Tryd.prog 22 #[.int .i64 m] W fun e w' => e = .returned (.tuple #[.string ⟨#[119, 104, 105, 116, 101]⟩, .bool true]) ∧ w' = W)
    (cR : ∀ W, Calls Tryd.prog 23 #[.int .i64 m] W fun e w' => e = .returned (.string ⟨#[119, 104, 105, 116, 101]⟩) ∧ Below W.heap.size W w') :
    Calls Tryd.prog 6 #[.slice a len cap, .int .i64 m] w fun e w' => e = .returned (.bool true) ∧ Below w.heap.size w w' := by
  have HN := hid hN
  clear hN
  have hgt : (len : Int) ≤ 60 := by omega
  go_enter Tryd.func6, Tryd.ntmps6
  go_wp2
  go_loopw [5] (fun i wr => ∃ k : Nat, k ≤ len ∧ i = .int .i64 k ∧ Below w.heap.size w wr) (fun i _ => len - (intOf i).toNat)
  case atStart => exact ⟨0, by omega, rfl, Below.refl _ _⟩
  case round =>
    obtain ⟨k, hk, rfl, a0⟩ := hrel
    by_cases hlt : k < len
    · obtain ⟨b, off, rfl, hbk, hcell, x0, x1⟩ := hc.out k hlt
      generalize zs.getD k 0 = x at *
      have hcr := (a0.cell (p := ⟨b, off + k, none⟩) hbk).trans hcell
      obtain ⟨X, C, hX⟩ : ∃ X C, txv x = (X, C) := ⟨_, _, rfl⟩
      have cT := fun W hW => text_at x X C W x0 x1 hW hX
      have cT2 := fun W => rtext_at x X C W x0 x1 hX
      clear hX x0 x1
      go_wp2_with (go_at_call 20; refine (cT _ (HN.out.below a0)).mono ?_)
      rintro e w1 ⟨rfl, b1⟩
      have a1 := a0.trans (b1.mono a0.size)
      have hc1 := (a1.cell (p := ⟨b, off + k, none⟩) hbk).trans hcell
      clear b1 a0 hcr
      go_wp2_with (go_at_call 21; refine (cT2 _).mono ?_)
      rintro e w2 ⟨rfl, b2⟩
      have a2 := a1.trans (b2.mono a1.size)
      clear b2 a1 hc1
      go_wp2_with (go_at_call 12; refine (num_any _ _).mono ?_; rintro e w9 ⟨rfl, hw⟩; rw [hw]; clear hw)
      go_roundw
      case rel => exact ⟨k + 1, by omega, by simp, a2⟩
      case measure => simp [intOf]; omega
    · obtain rfl : k = len := by omega
      have A0 := hid a0
      clear a0
      go_wp2_with (go_at_call 22; refine (cP _ (HN.out.below A0.out)).mono ?_)
      rintro e w1 ⟨rfl, hw⟩; rw [hw]; clear hw w1
      go_wp2_with (go_at_call 23; refine (cR _).mono ?_)
      rintro e w2 ⟨rfl, b2⟩
      have A2 := hid (A0.out.trans (b2.mono A0.out.size))
      clear b2 A0
      go_wp2_with (go_at_call 13; refine (works_any _ (HN.out.below A2.out)).mono ?_)
      rintro e w3 ⟨rfl, b3⟩
      go_wp2
      go_ret
      exact ⟨rfl, A2.out.trans (b3.mono A2.out.size)⟩
set_option maxRecDepth 100000 in
set_option maxHeartbeats 8000000 in
theorem headTexts_1 (a : Option Addr) (len cap : Nat) (zs : List Int) (m : Int) (w : World) (hlen : len ≤ 60) (hc : Hid (WordsAt w a len zs)) (hN : Names w)
    (cP : ∀ W, Names W → Calls Tryd.prog 22 #[.int .i64 m] W fun e w' => e = .returned (.tuple #[.string ⟨#[103, 114, 101, 121]⟩, .bool true]) ∧ w' = W)
    (cR : ∀ W, Calls Tryd.prog 23 #[.int .i64 m] W fun e w' => e = .returned (.string ⟨#[103, 114, 101, 121]⟩) ∧ Below W.heap.size W w') :
    Calls Tryd.prog 6 #[.slice a len cap, .int .i64 m] w fun e w' => e = .returned (.bool true) ∧ Below w.heap.size w w' := by
  have HN := hid hN
  clear hN
  have hgt : (len : Int) ≤ 60 := by omega
  go_enter Tryd.func6, Tryd.ntmps6
  go_wp2
  go_loopw [5] (fun i wr => ∃ k : Nat, k ≤ len ∧ i = .int .i64 k ∧ Below w.heap.size w wr) (fun i _ => len - (intOf i).toNat)
  case atStart => exact ⟨0, by omega, rfl, Below.refl _ _⟩
  case round =>
    obtain ⟨k, hk, rfl, a0⟩ := hrel
    by_cases hlt : k < len
    · obtain ⟨b, off, rfl, hbk, hcell, x0, x1⟩ := hc.out k hlt
      generalize zs.getD k 0 = x at *
      have hcr := (a0.cell (p := ⟨b, off + k, none⟩) hbk).trans hcell
      obtain ⟨X, C, hX⟩ : ∃ X C, txv x = (X, C) := ⟨_, _, rfl⟩
      have cT := fun W hW => text_at x X C W x0 x1 hW hX
      have cT2 := fun W => rtext_at x X C W x0 x1 hX
      clear hX x0 x1
      go_wp2_with (go_at_call 20; refine (cT _ (HN.out.below a0)).mono ?_)
      rintro e w1 ⟨rfl, b1⟩
      have a1 := a0.trans (b1.mono a0.size)
      have hc1 := (a1.cell (p := ⟨b, off + k, none⟩) hbk).trans hcell
      clear b1 a0 hcr
      go_wp2_with (go_at_call 21; refine (cT2 _).mono ?_)
      rintro e w2 ⟨rfl, b2⟩
      have a2 := a1.trans (b2.mono a1.size)
      clear b2 a1 hc1
      go_wp2_with (go_at_call 12; refine (num_any _ _).mono ?_; rintro e w9 ⟨rfl, hw⟩; rw [hw]; clear hw)
      go_roundw
      case rel => exact ⟨k + 1, by omega, by simp, a2⟩
      case measure => simp [intOf]; omega
    · obtain rfl : k = len := by omega
      have A0 := hid a0
      clear a0
      go_wp2_with (go_at_call 22; refine (cP _ (HN.out.below A0.out)).mono ?_)
      rintro e w1 ⟨rfl, hw⟩; rw [hw]; clear hw w1
      go_wp2_with (go_at_call 23; refine (cR _).mono ?_)
      rintro e w2 ⟨rfl, b2⟩
      have A2 := hid (A0.out.trans (b2.mono A0.out.size))
      clear b2 A0
      go_wp2_with (go_at_call 13; refine (works_any _ (HN.out.below A2.out)).mono ?_)
      rintro e w3 ⟨rfl, b3⟩
      go_wp2
      go_ret
      exact ⟨rfl, A2.out.trans (b3.mono A2.out.size)⟩
set_option maxRecDepth 100000 in
set_option maxHeartbeats 8000000 in
theorem headTexts_2 (a : Option Addr) (len cap : Nat) (zs : List Int) (m : Int) (w : World) (hlen : len ≤ 60) (hc : Hid (WordsAt w a len zs)) (hN : Names w)
    (cP : ∀ W, Names W → Calls Tryd.prog 22 #[.int .i64 m] W fun e w' => e = .returned (.tuple #[.string ⟨#[98, 108, 97, 99, 107]⟩, .bool true]) ∧ w' = W)
    (cR : ∀ W, Calls Tryd.prog 23 #[.int .i64 m] W fun e w' => e = .returned (.string ⟨#[98, 108, 97, 99, 107]⟩) ∧ Below W.heap.size W w') :
    Calls Tryd.prog 6 #[.slice a len cap, .int .i64 m] w fun e w' => e = .returned (.bool true) ∧ Below w.heap.size w w' := by
  have HN := hid hN
  clear hN
  have hgt : (len : Int) ≤ 60 := by omega
  go_enter Tryd.func6, Tryd.ntmps6
  go_wp2
  go_loopw [5] (fun i wr => ∃ k : Nat, k ≤ len ∧ i = .int .i64 k ∧ Below w.heap.size w wr) (fun i _ => len - (intOf i).toNat)
  case atStart => exact ⟨0, by omega, rfl, Below.refl _ _⟩
  case round =>
    obtain ⟨k, hk, rfl, a0⟩ := hrel
    by_cases hlt : k < len
    · obtain ⟨b, off, rfl, hbk, hcell, x0, x1⟩ := hc.out k hlt
      generalize zs.getD k 0 = x at *
      have hcr := (a0.cell (p := ⟨b, off + k, none⟩) hbk).trans hcell
      obtain ⟨X, C, hX⟩ : ∃ X C, txv x = (X, C) := ⟨_, _, rfl⟩
      have cT := fun W hW => text_at x X C W x0 x1 hW hX
      have cT2 := fun W => rtext_at x X C W x0 x1 hX
      clear hX x0 x1
      go_wp2_with (go_at_call 20; refine (cT _ (HN.out.below a0)).mono ?_)
      rintro e w1 ⟨rfl, b1⟩
      have a1 := a0.trans (b1.mono a0.size)
      have hc1 := (a1.cell (p := ⟨b, off + k, none⟩) hbk).trans hcell
      clear b1 a0 hcr
      go_wp2_with (go_at_call 21; refine (cT2 _).mono ?_)
      rintro e w2 ⟨rfl, b2⟩
      have a2 := a1.trans (b2.mono a1.size)
      clear b2 a1 hc1
      go_wp2_with (go_at_call 12; refine (num_any _ _).mono ?_; rintro e w9 ⟨rfl, hw⟩; rw [hw]; clear hw)
      go_roundw
      case rel => exact ⟨k + 1, by omega, by simp, a2⟩
      case measure => simp [intOf]; omega
    · obtain rfl : k = len := by omega
      have A0 := hid a0
      clear a0
      go_wp2_with (go_at_call 22; refine (cP _ (HN.out.below A0.out)).mono ?_)
      rintro e w1 ⟨rfl, hw⟩; rw [hw]; clear hw w1
      go_wp2_with (go_at_call 23; refine (cR _).mono ?_)
      rintro e w2 ⟨rfl, b2⟩
      have A2 := hid (A0.out.trans (b2.mono A0.out.size))
      clear b2 A0
      go_wp2_with (go_at_call 13; refine (works_any _ (HN.out.below A2.out)).mono ?_)
      rintro e w3 ⟨rfl, b3⟩
      go_wp2
      go_ret
      exact ⟨rfl, A2.out.trans (b3.mono A2.out.size)⟩
set_option maxRecDepth 100000 in
set_option maxHeartbeats 8000000 in
theorem headTexts_out (a : Option Addr) (len cap : Nat) (zs : List Int) (m : Int) (w : World) (hlen : len ≤ 60) (hc : Hid (WordsAt w a len zs)) (hN : Names w)
    (cP : ∀ W, Names W → Calls Tryd.prog 22 #[.int .i64 m] W fun e w' => e = .returned (.tuple #[.string ⟨#[]⟩, .bool false]) ∧ w' = W)
    (cR : ∀ W, Calls Tryd.prog 23 #[.int .i64 m] W fun e w' => e = .returned (.string ⟨#[]⟩) ∧ Below W.heap.size W w')  :
    Calls Tryd.prog 6 #[.slice a len cap, .int .i64 m] w fun e w' => e = .returned (.bool true) ∧ Below w.heap.size w w' := by
  have HN := hid hN
  clear hN
  have hgt : (len : Int) ≤ 60 := by omega
  go_enter Tryd.func6, Tryd.ntmps6
  go_wp2
  go_loopw [5] (fun i wr => ∃ k : Nat, k ≤ len ∧ i = .int .i64 k ∧ Below w.heap.size w wr) (fun i _ => len - (intOf i).toNat)
  case atStart => exact ⟨0, by omega, rfl, Below.refl _ _⟩
  case round =>
    obtain ⟨k, hk, rfl, a0⟩ := hrel
    by_cases hlt : k < len
    · obtain ⟨b, off, rfl, hbk, hcell, x0, x1⟩ := hc.out k hlt
      generalize zs.getD k 0 = x at *
      have hcr := (a0.cell (p := ⟨b, off + k, none⟩) hbk).trans hcell
      obtain ⟨X, C, hX⟩ : ∃ X C, txv x = (X, C) := ⟨_, _, rfl⟩
      have cT := fun W hW => text_at x X C W x0 x1 hW hX
      have cT2 := fun W => rtext_at x X C W x0 x1 hX
      clear hX x0 x1
      go_wp2_with (go_at_call 20; refine (cT _ (HN.out.below a0)).mono ?_)
      rintro e w1 ⟨rfl, b1⟩
      have a1 := a0.trans (b1.mono a0.size)
      have hc1 := (a1.cell (p := ⟨b, off + k, none⟩) hbk).trans hcell
      clear b1 a0 hcr
      go_wp2_with (go_at_call 21; refine (cT2 _).mono ?_)
      rintro e w2 ⟨rfl, b2⟩
      have a2 := a1.trans (b2.mono a1.size)
      clear b2 a1 hc1
      go_wp2_with (go_at_call 12; refine (num_any _ _).mono ?_; rintro e w9 ⟨rfl, hw⟩; rw [hw]; clear hw)
      go_roundw
      case rel => exact ⟨k + 1, by omega, by simp, a2⟩
      case measure => simp [intOf]; omega
    · obtain rfl : k = len := by omega
      have A0 := hid a0
      clear a0
      go_wp2_with (go_at_call 22; refine (cP _ (HN.out.below A0.out)).mono ?_)
      rintro e w1 ⟨rfl, hw⟩; rw [hw]; clear hw w1
      go_wp2_with (go_at_call 23; refine (cR _).mono ?_)
      rintro e w2 ⟨rfl, b2⟩
      have A2 := hid (A0.out.trans (b2.mono A0.out.size))
      clear b2 A0
      go_wp2_with (go_at_call 13; refine (works_any _ (HN.out.below A2.out)).mono ?_)
      rintro e w3 ⟨rfl, b3⟩
      go_wp2
      go_ret
      exact ⟨rfl, A2.out.trans (b3.mono A2.out.size)⟩
theorem headTexts_walk (a : Option Addr) (len cap : Nat) (zs : List Int) (m : Int) (w : World) (hc : IsRow w a len cap zs) (hN : Names w) :
    Calls Tryd.prog 6 #[.slice a len cap, .int .i64 m] w fun e w' => e = .returned (.bool true) ∧ Below w.heap.size w w' := by
  by_cases hl : 60 < len
  · exact headTexts_many a len cap m w hN hl
  · by_cases hm : mk m = true
    · obtain ⟨m0, m1⟩ := mk_yes hm
      obtain ⟨k, rfl⟩ : ∃ k : Nat, m = k := ⟨m.toNat, by omega⟩
      have hk : k < 3 := by omega
      have : k = 0 ∨ k = 1 ∨ k = 2 := by omega
      rcases this with rfl | rfl | rfl
      · exact headTexts_0 a len cap zs _ w (by omega) (hid hc.wordsAt) hN (fun W hW => name_in 0 _ W hk rfl hW) (fun W => rname_in 0 _ W hk rfl)
      · exact headTexts_1 a len cap zs _ w (by omega) (hid hc.wordsAt) hN (fun W hW => name_in 1 _ W hk rfl hW) (fun W => rname_in 1 _ W hk rfl)
      · exact headTexts_2 a len cap zs _ w (by omega) (hid hc.wordsAt) hN (fun W hW => name_in 2 _ W hk rfl hW) (fun W => rname_in 2 _ W hk rfl)
    · have hm' : mk m = false := by simpa using hm
      exact headTexts_out a len cap zs m w (by omega) (hid hc.wordsAt) hN (fun W _ => name_out m W hm') (fun W => rname_out m W hm')
end Go.Proofs.YtjjbdfabckdogaaDoor
