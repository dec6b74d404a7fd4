/- The walk of the law PackFronts. -/
import Derived.Test.YtdchcmaceobpeaaDoorPkWorks
namespace Go.Proofs.YtdchcmaceobpeaaDoor
open Go.RowKit
theorem ofw_good (x a b c d r : Int) (h : Pk.ofw x = (a, b, c, d, r)) (_h0 : 0 ≤ x) : (r = 0 ∧ Pk.fw a b c d = (x, 0)) ∨ (r = 2 ∧ Pk.fw a b c d = (0, 0)) := by
  unfold Pk.ofw at h
  rcases Pk.bool_cases (Pk.frOk (x % 2) (x / 2 % 8192) (x / 16384 % 8192) (x / 134217728)) with hk | hk
  · rw [if_pos hk] at h
    cases h
    refine .inl ⟨rfl, ?_⟩
    unfold Pk.fw
    rw [if_pos hk, Prod.mk.injEq]
    omega
  · rw [if_neg (by simp [hk])] at h
    cases h
    exact .inr ⟨rfl, by decide⟩
set_option maxRecDepth 100000 in
set_option maxHeartbeats 8000000 in
theorem packFronts_loop (s l h o : Int) (bb off len cap : Nat) (zs : List Int) (w : World) (hlen : len ≤ 60) (hc : Hid (Cells w bb off len zs)) (hN : Names w) :
    Calls Tryd.prog 4 #[.agg #[.int .i64 s, .int .i64 l, .int .i64 h, .int .i64 o], .slice (some ⟨bb, off, none⟩) len cap] w fun e w' => e = .returned (.bool true) ∧ Below w.heap.size w w' := by
  have HN := hid hN
  clear hN
  have hgt : (len : Int) ≤ 60 := by omega
  rcases hm : Pk.fw s l h o with ⟨m, q⟩
  have HM := hid hm
  clear hm
  go_enter Tryd.func4, Tryd.ntmps4
  go_wp2_with (go_at_call 15; refine (front_at s l h o m q _ HM).mono ?_)
  rintro e w1 ⟨rfl, b1⟩
  have a1 := bel1 b1
  have X := hid (row1 b1)
  have z1 := siz1 b1
  clear b1
  have u0 := at_row (X.out) 0 rfl
  have u1 := at_row (X.out) 1 rfl
  have u2 := at_row (X.out) 2 rfl
  have u3 := at_row (X.out) 3 rfl
  go_wp2_with (go_at_call 16; refine (rfront_at s l h o m q _ HM).mono ?_)
  rintro e w2 ⟨rfl, b2⟩
  have a2 : Below w.heap.size w w2 := a1.trans (b2.mono a1.size)
  clear b2 a1 X z1 u0 u1 u2 u3
  go_wp2_with (go_at_call 12; refine (pkNum _ _).mono ?_; rintro e w' ⟨rfl, rfl⟩)
  go_loopw [9] (fun i wr => ∃ k : Nat, k ≤ len ∧ i = .int .i64 k ∧ Below w.heap.size w wr) (fun i _ => len - (intOf i).toNat)
  case atStart => exact ⟨0, by omega, rfl, a2⟩
  case round =>
    obtain ⟨k, hk, rfl, ar⟩ := hrel
    clear a2
    by_cases hlt : k < len
    · obtain ⟨hbk, hcell, x0, x1⟩ := hc.out k hlt
      have hcr : wr.cell? ⟨bb, off + k, none⟩ = some (.int .u64 (zs.getD k 0)) := (ar.cell (p := ⟨bb, off + k, none⟩) hbk).trans hcell
      generalize zs.getD k 0 = x at *
      have Hcell := hid hcell
      clear hcell
      rcases ho : Pk.ofw x with ⟨a, b, c, d, r⟩
      have HO := hid ho
      have hg := ofw_good x a b c d r ho x0
      clear ho
      rcases hg with ⟨rfl, hg⟩ | ⟨rfl, hg⟩
      · have HG := hid hg
        clear hg
        go_wp2_with (go_at_call 17; refine (ofFront_at x a b c d 0 _ x0 x1 HO).mono ?_)
        rintro e w3 ⟨rfl, b3⟩
        have a3 : Below w.heap.size w w3 := ar.trans (b3.mono ar.size)
        have z3 : bb < w3.heap.size := Nat.lt_of_lt_of_le hbk a3.size
        clear b3
        have hc3 : w3.cell? ⟨bb, off + k, none⟩ = some (.int .u64 x) := (a3.cell (p := ⟨bb, off + k, none⟩) hbk).trans Hcell.out
        go_wp2_with (go_at_call 18; refine (rofFront_at x a b c d 0 _ x0 x1 HO).mono ?_)
        rintro e w4 ⟨rfl, b4⟩
        have a4 : Below w.heap.size w w4 := a3.trans ((bel1 b4).mono a3.size)
        have Y := row1 b4
        have z4 := siz1 b4
        have z4b : bb < w4.heap.size := Nat.lt_of_lt_of_le hbk a4.size
        clear b4 a3 hc3 hcr
        have c0 := at_row (Y) 0 rfl
        have c1 := at_row (Y) 1 rfl
        have c2 := at_row (Y) 2 rfl
        have c3 := at_row (Y) 3 rfl
        clear Y
        go_wp2_with (first | (go_at_call 12; refine (pkNum _ _).mono ?_; rintro e w' ⟨rfl, rfl⟩) | (go_at_call 15; refine (front_at a b c d x 0 _ HG).mono ?_))
        rintro e w5 ⟨rfl, b5⟩
        have a5 : Below w.heap.size w w5 := a4.trans ((bel1 b5).mono a4.size)
        have hc5 : w5.cell? ⟨bb, off + k, none⟩ = some (.int .u64 x) := (a5.cell (p := ⟨bb, off + k, none⟩) hbk).trans Hcell.out
        clear b5 a4 c0 c1 c2 c3
        go_wp2_with (go_at_call 12; refine (pkNum _ _).mono ?_; rintro e w' ⟨rfl, rfl⟩)
        go_roundw
        case rel => exact ⟨k + 1, by omega, by go_num, a5⟩
        case measure => simp [intOf]; omega
      · have HG := hid hg
        clear hg
        go_wp2_with (go_at_call 17; refine (ofFront_at x a b c d 2 _ x0 x1 HO).mono ?_)
        rintro e w3 ⟨rfl, b3⟩
        have a3 : Below w.heap.size w w3 := ar.trans (b3.mono ar.size)
        have z3 : bb < w3.heap.size := Nat.lt_of_lt_of_le hbk a3.size
        clear b3
        have hc3 : w3.cell? ⟨bb, off + k, none⟩ = some (.int .u64 x) := (a3.cell (p := ⟨bb, off + k, none⟩) hbk).trans Hcell.out
        go_wp2_with (go_at_call 18; refine (rofFront_at x a b c d 2 _ x0 x1 HO).mono ?_)
        rintro e w4 ⟨rfl, b4⟩
        have a4 : Below w.heap.size w w4 := a3.trans ((bel1 b4).mono a3.size)
        have Y := row1 b4
        have z4 := siz1 b4
        have z4b : bb < w4.heap.size := Nat.lt_of_lt_of_le hbk a4.size
        clear b4 a3 hc3 hcr
        have c0 := at_row (Y) 0 rfl
        have c1 := at_row (Y) 1 rfl
        have c2 := at_row (Y) 2 rfl
        have c3 := at_row (Y) 3 rfl
        clear Y
        go_wp2_with (first | (go_at_call 12; refine (pkNum _ _).mono ?_; rintro e w' ⟨rfl, rfl⟩) | (go_at_call 15; refine (front_at a b c d 0 0 _ HG).mono ?_))
        rintro e w5 ⟨rfl, b5⟩
        have a5 : Below w.heap.size w w5 := a4.trans ((bel1 b5).mono a4.size)
        have hc5 : w5.cell? ⟨bb, off + k, none⟩ = some (.int .u64 x) := (a5.cell (p := ⟨bb, off + k, none⟩) hbk).trans Hcell.out
        clear b5 a4 c0 c1 c2 c3
        go_wp2_with (go_at_call 12; refine (pkNum _ _).mono ?_; rintro e w' ⟨rfl, rfl⟩)
        go_roundw
        case rel => exact ⟨k + 1, by omega, by go_num, a5⟩
        case measure => simp [intOf]; omega
    · go_wp2_with (go_at_call 9; refine (pkWorks _ (HN.out.below ar)).mono ?_)
      rintro e w9 ⟨rfl, b9⟩
      go_wp2
      go_ret
      exact ⟨rfl, ar.trans (b9.mono ar.size)⟩
set_option maxHeartbeats 4000000 in
theorem packFronts_zero (s l h o : Int) (ad : Option Addr) (cap : Nat) (w : World) (hN : Names w) : Calls Tryd.prog 4 #[.agg #[.int .i64 s, .int .i64 l, .int .i64 h, .int .i64 o], .slice ad 0 cap] w fun e w' => e = .returned (.bool true) ∧ Below w.heap.size w w' := by
  have HN := hid hN
  clear hN
  rcases hm : Pk.fw s l h o with ⟨m, q⟩
  have HM := hid hm
  clear hm
  go_enter Tryd.func4, Tryd.ntmps4
  go_wp2_with (go_at_call 15; refine (front_at s l h o m q _ HM).mono ?_)
  rintro e w1 ⟨rfl, b1⟩
  have a1 := bel1 b1
  have X := hid (row1 b1)
  have z1 := siz1 b1
  clear b1
  have u0 := at_row (X.out) 0 rfl
  have u1 := at_row (X.out) 1 rfl
  have u2 := at_row (X.out) 2 rfl
  have u3 := at_row (X.out) 3 rfl
  go_wp2_with (go_at_call 16; refine (rfront_at s l h o m q _ HM).mono ?_)
  rintro e w2 ⟨rfl, b2⟩
  have a2 : Below w.heap.size w w2 := a1.trans (b2.mono a1.size)
  clear b2 a1 X z1 u0 u1 u2 u3
  go_wp2_with (go_at_call 12; refine (pkNum _ _).mono ?_; rintro e w' ⟨rfl, rfl⟩)
  refine wp_loop_rounds 1 ?_
  rw [rounds_succ]
  go_wp2_with (go_at_call 9; refine (pkWorks _ (HN.out.below a2)).mono ?_)
  rintro e w9 ⟨rfl, b9⟩
  go_wp2
  go_ret
  exact ⟨rfl, a2.trans (b9.mono a2.size)⟩
theorem packFronts_long (s l h o : Int) (ad : Option Addr) (len cap : Nat) (w : World) (h60 : (60 : Int) < len) (hN : Names w) : Calls Tryd.prog 4 #[.agg #[.int .i64 s, .int .i64 l, .int .i64 h, .int .i64 o], .slice ad len cap] w fun e w' => e = .returned (.bool true) ∧ Below w.heap.size w w' := by
  have HN := hid (fun O => hN.below (below_alloc0 w O))
  clear hN
  go_enter Tryd.func4, Tryd.ntmps4
  go_wp2_with (go_at_call 9; refine (pkWorks _ (HN.out _)).mono ?_)
  rintro e w9 ⟨rfl, b9⟩
  go_wp2
  go_ret
  exact ⟨rfl, bel1 b9⟩
theorem packFronts_walk (s l h o : Int) (ad : Option Addr) (len cap : Nat) (zs : List Int) (w : World) (hr : IsRow w ad len cap zs) (hN : Names w) : Calls Tryd.prog 4 #[.agg #[.int .i64 s, .int .i64 l, .int .i64 h, .int .i64 o], .slice ad len cap] w fun e w' => e = .returned (.bool true) ∧ Below w.heap.size w w' := by
  rcases hr with ⟨rfl, rfl, rfl, rfl⟩ | ⟨y, rfl, hl, hm, hz, hcell, hwz⟩
  · exact packFronts_zero s l h o none 0 w hN
  · by_cases h0 : 0 < len
    · by_cases h1 : len ≤ 60
      · obtain ⟨bb, off, rfl, hc⟩ := IsRow.cells h0 hl hz hcell hwz
        exact packFronts_loop s l h o bb off len cap zs w h1 hc hN
      · exact packFronts_long s l h o (some y) len cap w (by omega) hN
    · obtain rfl : len = 0 := by omega
      exact packFronts_zero s l h o (some y) cap w hN
end Go.Proofs.YtdchcmaceobpeaaDoor
