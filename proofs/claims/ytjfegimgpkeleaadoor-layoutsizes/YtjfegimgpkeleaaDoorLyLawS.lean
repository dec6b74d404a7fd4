/- The walk of the law LayoutSizes. -/
import Derived.Test.YtjfegimgpkeleaaDoorLyRefS
import Derived.Test.YtjfegimgpkeleaaDoorLyWorks
set_option linter.unusedVariables false
namespace Go.Proofs.YtjfegimgpkeleaaDoor
open Go.RowKit Go.Ly Go.Sh
abbrev lplO (t s : Int) (a : Option Addr) (n c : Nat) : Obj := .cells #[.int .i64 t, .int .i64 s, .slice a n c] 24
set_option maxRecDepth 100000 in
set_option maxHeartbeats 8000000 in
theorem layoutSizes_v (t s : Int) (a : Option Addr) (n c : Nat) (ss : List ByteArray) (w : World) (hT : IsTab w (.slice a n c) ss) (hA : LAll w) (hv : lvs ss = true) :
    Calls Tryd.prog 3 #[planV t s a n c] w fun e w' => e = .returned (.bool true) ∧ Below w.heap.size w w' := by
  have cv := fun W h => lvast_any t s a n c ss W h
  simp only [hv] at cv
  have HA := hid hA
  have HT := hid (hT.below (Nat.le_refl _) (below_alloc0 w (lplO t s a n c)))
  clear hA hT
  go_enter Tryd.func3, Tryd.ntmps3
  go_wp2_with (go_at_call 8; refine (cv _ HT.out).mono ?_)
  rintro e w1 ⟨rfl, b1⟩
  have B1 := hid (bel1 b1)
  have cw := lworks_any w1 (HA.out.below B1.out)
  clear b1
  go_wp2_with (go_at_call 9; refine cw.mono ?_; rintro e w2 ⟨rfl, b2⟩)
  go_ret
  exact ⟨rfl, B1.out.trans (b2.mono B1.out.size)⟩
set_option maxRecDepth 100000 in
set_option maxHeartbeats 8000000 in
theorem layoutSizes_n (t s : Int) (a : Option Addr) (n c : Nat) (ss : List ByteArray) (w : World) (hT : IsTab w (.slice a n c) ss) (hA : LAll w) (hv : lvs ss = false) (hr : rgt t s ss = false) :
    Calls Tryd.prog 3 #[planV t s a n c] w fun e w' => e = .returned (.bool true) ∧ Below w.heap.size w w' := by
  have cv := fun W h => lvast_any t s a n c ss W h
  simp only [hv] at cv
  have HA := hid hA
  have hr' := hid hr
  have cz := fun W h => LSize_at t s a n c ss W 0 2 h (hid (by unfold szv; rw [if_neg (by simp [hr'.out])]))
  have cst := fun W h => Start_no t s a n c ss W h hr'.out
  have cr := fun W h => rgt6_at t s a n c ss W false h hr'
  have cc := fun W h => Check_at t s a n c ss W false h hr'
  have ccc : er false = 2 := rfl
  simp only [ccc] at cc
  have P0 : Hid ((w.alloc (lplO t s a n c)).heap[w.heap.size]? = some (lplO t s a n c)) := hid (heap_alloc_last w _)
  have T0 := hid (hT.below (Nat.le_refl _) (below_alloc0 w (lplO t s a n c)))
  have B0 := hid (below_alloc0 w (lplO t s a n c))
  clear hA hT hr ccc
  go_enter Tryd.func3, Tryd.ntmps3
  go_wp2_with (go_at_call 8; refine (cv _ T0.out).mono ?_)
  rintro e w1 ⟨rfl, b⟩
  have T1 := hid (T0.out.below (Nat.le_refl _) b)
  have B1 := hid (B0.out.trans (b.mono B0.out.size))
  have P1 := hid (row_below P0.out b)
  have bq := b
  clear T0 B0 P0 b
  have p0 := at_row P1.out 0 rfl
  have p1 := at_row P1.out 1 rfl
  have p2 := at_row P1.out 2 rfl
  go_wp2_with (go_at_call 10; refine (cz _ T1.out).mono ?_)
  rintro e w2 ⟨rfl, b⟩
  have T2 := hid (T1.out.below (Nat.le_refl _) b)
  have B2 := hid (B1.out.trans (b.mono B1.out.size))
  have P2 := hid (row_below P1.out b)
  have bq := b
  clear T1 B1 P1 b p0 p1 p2
  have p0 := at_row P2.out 0 rfl
  have p1 := at_row P2.out 1 rfl
  have p2 := at_row P2.out 2 rfl
  go_wp2_with (go_at_call 11; refine (cst _ T2.out).mono ?_)
  rintro e w3 ⟨rfl, b⟩
  have T3 := hid (T2.out.below (Nat.le_refl _) b)
  have B3 := hid (B2.out.trans (b.mono B2.out.size))
  have P3 := hid (row_below P2.out b)
  have bq := b
  clear T2 B2 P2 b p0 p1 p2
  have p0 := at_row P3.out 0 rfl
  have p1 := at_row P3.out 1 rfl
  have p2 := at_row P3.out 2 rfl
  go_wp2_with (go_at_call 12; refine (cr _ T3.out).mono ?_)
  rintro e w4 ⟨rfl, b⟩
  have T4 := hid (T3.out.below (Nat.le_refl _) b)
  have B4 := hid (B3.out.trans (b.mono B3.out.size))
  have P4 := hid (row_below P3.out b)
  have bq := b
  clear T3 B3 P3 b p0 p1 p2
  have p0 := at_row P4.out 0 rfl
  have p1 := at_row P4.out 1 rfl
  have p2 := at_row P4.out 2 rfl
  have cw := fun W (h : Below w.heap.size w W) => lworks_any W (HA.out.below h)
  have B5 := B4
  go_wp2_with (first | (go_at_call 13; refine (lnum_any _ _).mono ?_; rintro e w' ⟨rfl, hw⟩; rw [hw]; clear hw) | (go_at_call 14; refine (cc _ T4.out).mono ?_))
  rintro e w5 ⟨rfl, b⟩
  have B5 := hid (B4.out.trans (b.mono B4.out.size))
  clear b
  go_wp2_with (first | (go_at_call 13; refine (lnum_any _ _).mono ?_; rintro e w' ⟨rfl, hw⟩; rw [hw]; clear hw) | (go_at_call 9; refine (cw _ B5.out).mono ?_; rintro e w6 ⟨rfl, b6⟩))
  go_ret
  exact ⟨rfl, B5.out.trans (b6.mono B5.out.size)⟩
set_option maxRecDepth 100000 in
set_option maxHeartbeats 8000000 in
theorem layoutSizes_y (t s : Int) (a : Option Addr) (n c N B : Nat) (F er0 : Int) (ss : List ByteArray) (w : World) (hT : IsTab w (.slice a n c) ss) (hA : LAll w) (hFi : LFirst w) (hv : lvs ss = false) (hr : rgt t s ss = true)
    (hN : (N : Int) = 3 + t + t + 2 * s) (hB : (B : Int) = 3 + t + t) (hF : Hid (Pk.fw 0 (2 + ((at' ss 0).size : Int)) s 0 = (F, er0))) :
    Calls Tryd.prog 3 #[planV t s a n c] w fun e w' => e = .returned (.bool true) ∧ Below w.heap.size w w' := by
  obtain ⟨t0, t1, s0, s1, hrr⟩ := rgt_yes hr
  have hs1 := (right_len hrr).1
  have h1 : one (at' ss 0) = true := right_all hrr 0 (by omega)
  obtain ⟨b, off, cap, e0, hc⟩ := hT.some (by omega)
  obtain ⟨rfl, rfl, rfl⟩ := Value.slice.inj e0
  have hx8 := one_size h1
  have cv := fun W h => lvast_any t s (some ⟨b, off, none⟩) ss.length c ss W h
  simp only [hv] at cv
  have HA := hid hA
  have HFi := hid hFi
  have hr' := hid hr
  have cz := fun W h => LSize_at t s (some ⟨b, off, none⟩) ss.length c ss W (N : Int) 0 h (hid (by unfold szv; rw [if_pos hr'.out, hN]))
  have cst := fun W h h' => Start_yes t s (some ⟨b, off, none⟩) ss.length c N B F er0 ss W h h' hr'.out hN hB hF
  have cr := fun W h => rgt6_at t s (some ⟨b, off, none⟩) ss.length c ss W true h hr'
  have cc := fun W h => Check_at t s (some ⟨b, off, none⟩) ss.length c ss W true h hr'
  have ccc : er true = 0 := rfl
  simp only [ccc] at cc
  have cR := fun W h => rStart6_at t s b off ss.length c N B F er0 (at' ss 0) W t0 t1 s0 s1 hN hB hx8 (by omega) h hF
  have cRz := fun W => rSize6 t s (some ⟨b, off, none⟩) ss.length c W t0 t1 s0 s1
  rw [← hN] at cRz
  have HC := hid (show w.cell? ⟨b, off, none⟩ = some (.string (at' ss 0)) from hc 0 (by omega))
  have P0 : Hid ((w.alloc (lplO t s (some ⟨b, off, none⟩) ss.length c)).heap[w.heap.size]? = some (lplO t s (some ⟨b, off, none⟩) ss.length c)) := hid (heap_alloc_last w _)
  have T0 := hid (hT.below (Nat.le_refl _) (below_alloc0 w (lplO t s (some ⟨b, off, none⟩) ss.length c)))
  have B0 := hid (below_alloc0 w (lplO t s (some ⟨b, off, none⟩) ss.length c))
  have n1 : (N : Int) ≤ 9000 := by omega
  have n0 : 69 ≤ (N : Int) := by omega
  clear hA hFi hT hr ccc hN hB hc e0 hrr h1
  generalize stf F B (at' ss 0) = st at *
  go_enter Tryd.func3, Tryd.ntmps3
  go_wp2_with (go_at_call 8; refine (cv _ T0.out).mono ?_)
  rintro e w1 ⟨rfl, b⟩
  have T1 := hid (T0.out.below (Nat.le_refl _) b)
  have B1 := hid (B0.out.trans (b.mono B0.out.size))
  have P1 := hid (row_below P0.out b)
  have bq := b
  clear T0 B0 P0 b
  have p0 := at_row P1.out 0 rfl
  have p1 := at_row P1.out 1 rfl
  have p2 := at_row P1.out 2 rfl
  go_wp2_with (go_at_call 10; refine (cz _ T1.out).mono ?_)
  rintro e w2 ⟨rfl, b⟩
  have T2 := hid (T1.out.below (Nat.le_refl _) b)
  have B2 := hid (B1.out.trans (b.mono B1.out.size))
  have P2 := hid (row_below P1.out b)
  have bq := b
  clear T1 B1 P1 b p0 p1 p2
  have p0 := at_row P2.out 0 rfl
  have p1 := at_row P2.out 1 rfl
  have p2 := at_row P2.out 2 rfl
  go_wp2_with (go_at_call 11; refine (cst _ T2.out (HFi.out.below B2.out)).mono ?_)
  rintro e w3 ⟨G, rfl, hG, b⟩
  have HG3 : Hid (∀ i, i < N → w3.cell? ⟨G, i, none⟩ = some (.int .u64 (st i))) := hid hG
  clear hG
  have T3 := hid (T2.out.below (Nat.le_refl _) b)
  have B3 := hid (B2.out.trans (b.mono B2.out.size))
  have P3 := hid (row_below P2.out b)
  clear T2 B2 P2 b p0 p1 p2
  have p0 := at_row P3.out 0 rfl
  have p1 := at_row P3.out 1 rfl
  have p2 := at_row P3.out 2 rfl
  go_wp2_with (go_at_call 12; refine (cr _ T3.out).mono ?_)
  rintro e w4 ⟨rfl, b⟩
  have T4 := hid (T3.out.below (Nat.le_refl _) b)
  have B4 := hid (B3.out.trans (b.mono B3.out.size))
  have P4 := hid (row_below P3.out b)
  have bq := b
  clear T3 B3 P3 b p0 p1 p2
  have p0 := at_row P4.out 0 rfl
  have p1 := at_row P4.out 1 rfl
  have p2 := at_row P4.out 2 rfl
  have HG4 : Hid (∀ i, i < N → w4.cell? ⟨G, i, none⟩ = some (.int .u64 (st i))) := hid (fun i hi => (bq.cell (p := ⟨G, i, none⟩) (block_lt_of_cell (HG3.out i hi))).trans (HG3.out i hi))
  clear bq HG3
  go_wp2_with (go_at_call 15; refine (cR _ ((B4.out.cell (p := ⟨b, off, none⟩) (block_lt_of_cell HC.out)).trans HC.out)).mono ?_)
  rintro e w5 ⟨H, rfl, hH, b⟩
  have HH5 : Hid (∀ i, i < N → w5.cell? ⟨H, i, none⟩ = some (.int .u64 (st i))) := hid hH
  have HG5 : Hid (∀ i, i < N → w5.cell? ⟨G, i, none⟩ = some (.int .u64 (st i))) := hid (fun i hi => (b.cell (p := ⟨G, i, none⟩) (block_lt_of_cell (HG4.out i hi))).trans (HG4.out i hi))
  clear hH HG4
  have T5 := hid (T4.out.below (Nat.le_refl _) b)
  have B5 := hid (B4.out.trans (b.mono B4.out.size))
  have P5 := hid (row_below P4.out b)
  clear T4 B4 P4 b p0 p1 p2
  have p0 := at_row P5.out 0 rfl
  have p1 := at_row P5.out 1 rfl
  have p2 := at_row P5.out 2 rfl
  go_wp2_with (first | (go_at_call 13; refine (lnum_any _ _).mono ?_; rintro e w' ⟨rfl, hw⟩; rw [hw]; clear hw) | (go_at_call 16; refine (cRz _).mono ?_))
  rintro e w6 ⟨rfl, b⟩
  have HH6 : Hid (∀ i, i < N → w6.cell? ⟨H, i, none⟩ = some (.int .u64 (st i))) := hid (fun i hi => (b.cell (p := ⟨H, i, none⟩) (block_lt_of_cell (HH5.out i hi))).trans (HH5.out i hi))
  have HG6 : Hid (∀ i, i < N → w6.cell? ⟨G, i, none⟩ = some (.int .u64 (st i))) := hid (fun i hi => (b.cell (p := ⟨G, i, none⟩) (block_lt_of_cell (HG5.out i hi))).trans (HG5.out i hi))
  clear HH5 HG5
  have T6 := hid (T5.out.below (Nat.le_refl _) b)
  have B6 := hid (B5.out.trans (b.mono B5.out.size))
  have P6 := hid (row_below P5.out b)
  clear T5 B5 P5 b p0 p1 p2
  have p0 := at_row P6.out 0 rfl
  have p1 := at_row P6.out 1 rfl
  have p2 := at_row P6.out 2 rfl
  go_wp2_with (first | (go_at_call 13; refine (lnum_any _ _).mono ?_; rintro e w' ⟨rfl, hw⟩; rw [hw]; clear hw) | (go_at_call 14; refine (cc _ T6.out).mono ?_))
  rintro e w7 ⟨rfl, b⟩
  have HH7 : Hid (∀ i, i < N → w7.cell? ⟨H, i, none⟩ = some (.int .u64 (st i))) := hid (fun i hi => (b.cell (p := ⟨H, i, none⟩) (block_lt_of_cell (HH6.out i hi))).trans (HH6.out i hi))
  have HG7 : Hid (∀ i, i < N → w7.cell? ⟨G, i, none⟩ = some (.int .u64 (st i))) := hid (fun i hi => (b.cell (p := ⟨G, i, none⟩) (block_lt_of_cell (HG6.out i hi))).trans (HG6.out i hi))
  have B7 := hid (B6.out.trans (b.mono B6.out.size))
  clear HH6 HG6 b T6 B6 P6 p0 p1 p2
  have cw := fun W (h : Below w.heap.size w W) => lworks_any W (HA.out.below h)
  go_wp2_with (go_at_call 13; refine (lnum_any _ _).mono ?_; rintro e w' ⟨rfl, hw⟩; rw [hw]; clear hw)
  go_loopw [8] (fun i wr => ∃ k : Nat, k ≤ N ∧ i = .int .i64 (k : Int) ∧ Hid (Below w7.heap.size w7 wr)) (fun i _ => N - (intOf i).toNat)
  case atStart => exact ⟨0, by omega, rfl, hid (Below.refl _ _)⟩
  case round =>
    obtain ⟨k, hk, rfl, hB7⟩ := hrel
    by_cases hlt : k < N
    · have hlt' : (k : Int) < N := by omega
      have g1 := (hB7.out.cell (p := ⟨G, k, none⟩) (block_lt_of_cell (HG7.out k hlt))).trans (HG7.out k hlt)
      have g2 := (hB7.out.cell (p := ⟨H, k, none⟩) (block_lt_of_cell (HH7.out k hlt))).trans (HH7.out k hlt)
      generalize st k = sv at *
      go_wp2
      go_quiet (fail)
      go_wp2
      exact ⟨⟨k + 1, by omega, by go_num, hid (below_drewN hB7.out _)⟩, by simp [intOf]; omega⟩
    · obtain rfl : k = N := by omega
      have cw2 := cw wr (B7.out.trans (hB7.out.mono B7.out.size))
      go_wp2_with (go_at_call 9; refine cw2.mono ?_; rintro e w8 ⟨rfl, b8⟩)
      go_ret
      exact ⟨rfl, (B7.out.trans (hB7.out.mono B7.out.size)).trans (b8.mono (B7.out.trans (hB7.out.mono B7.out.size)).size)⟩
theorem layoutSizes_any (t s : Int) (a : Option Addr) (n c : Nat) (ss : List ByteArray) (w : World) (hT : IsTab w (.slice a n c) ss) (hA : LAll w) (hF : LFirst w) :
    Calls Tryd.prog 3 #[planV t s a n c] w fun e w' => e = .returned (.bool true) ∧ Below w.heap.size w w' := by
  rcases Bool.eq_false_or_eq_true (lvs ss) with hv | hv
  · exact layoutSizes_v t s a n c ss w hT hA hv
  rcases Bool.eq_false_or_eq_true (rgt t s ss) with hr | hr
  · obtain ⟨t0, t1, s0, s1, _⟩ := rgt_yes hr
    exact layoutSizes_y t s a n c (3 + t + t + 2 * s).toNat (3 + t + t).toNat _ _ ss w hT hA hF hv hr (by omega) (by omega) (hid rfl)
  · exact layoutSizes_n t s a n c ss w hT hA hv hr
end Go.Proofs.YtjfegimgpkeleaaDoor
