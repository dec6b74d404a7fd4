/- The walk of the law PackApart. -/
import Derived.Test.YtdchcmaceobpeaaDoorPkAp
namespace Go.Proofs.YtdchcmaceobpeaaDoor
open Go.RowKit Go.Sort
set_option maxRecDepth 100000 in
set_option maxHeartbeats 16000000 in
theorem packApart_loop0 (l h o : Int) (bb off len cap : Nat) (xs ns : List Int) (w : World) (hlen : len ≤ 40) (hc : Hid (Claims2 w bb off len xs ns)) (hN : Names w) (hk : Hid (Pk.frOk 0 l h o = true)) :
    Calls Tryd.prog 7 #[.agg #[.int .i64 0, .int .i64 l, .int .i64 h, .int .i64 o], .slice (some ⟨bb, off, none⟩) len cap] w fun e w' => e = .returned (.bool true) ∧ Below w.heap.size w w' := by
  have HN := hid hN
  clear hN
  have hgt : (len : Int) ≤ 40 := by omega
  have hu : Hid (Pk.us 0 l h o 4096 = (l + 4096 - h + o, 0)) := us_of hk.out
  obtain ⟨hs, l0, l1, h0, h1, o0, o1, hlo⟩ := Pk.frOk_yes hk.out
  clear hs
  go_enter Tryd.func7, Tryd.ntmps7
  go_wp2_with (go_at_call 21; refine (used_at 0 l h o 4096 _ _ _ hu).mono ?_)
  rintro e w1 ⟨rfl, b1⟩
  have X1 := hid (row1 b1)
  have a1 := bel1 b1
  have z1 := siz1 b1
  clear b1
  have c0 := at_row X1.out 0 rfl
  have c1 := at_row X1.out 1 rfl
  have c2 := at_row X1.out 2 rfl
  have c3 := at_row X1.out 3 rfl
  go_wp2_with (go_at_call 12; refine (pkNum _ _).mono ?_; rintro e w' ⟨rfl, rfl⟩)
  clear c0 c1 c2 c3
  go_loopw [8, 9] (fun sm i wr => ∃ (k : Nat) (l' o' : Int), k ≤ len ∧ i = .int .i64 k ∧ sm = .int .i64 (l' + o' - l - o) ∧ Hid (Pk.frOk 0 l' h o' = true) ∧ Hid (ApR w w1.heap.size 0 h l' o' wr)) (fun _ i _ => len - (intOf i).toNat)
  case atStart =>
    refine ⟨0, l, o, by omega, rfl, by congr 1; omega, hk, ?_⟩
    exact ⟨(Below.heap_alloc w1 _ _ z1).trans X1.out, heap_alloc_last w1 _, a1.alloc a1.size _, z1, by simp⟩
  case round =>
    obtain ⟨k, l', o', hk', rfl, rfl, HK, HR⟩ := hrel
    obtain ⟨hs', l0', l1', hh0, hh1, o0', o1', hlo'⟩ := Pk.frOk_yes HK.out
    clear hs' hh0 hh1
    clear X1 a1 z1
    have HX := hid HR.out.1
    have AR := HR.out.2.2.1
    have ZX : w.heap.size < wr.heap.size := Nat.lt_trans HR.out.2.2.2.1 HR.out.2.2.2.2
    by_cases hlt : k < len
    · obtain ⟨hbk, hcx, hcn⟩ := hc.out k hlt
      generalize xs.getD k 0 = x at *
      generalize ns.getD k 0 = n at *
      have hS : Hid (ApS w w.heap.size bb (off + k * 2) (off + k * 2 + 1) 0 l' h o' x n wr) := ⟨at_row HX.out 0 rfl, at_row HX.out 1 rfl, at_row HX.out 2 rfl, at_row HX.out 3 rfl, (AR.cell (p := ⟨bb, off + k * 2, none⟩) hbk).trans hcx, (AR.cell (p := ⟨bb, off + k * 2 + 1, none⟩) hbk).trans hcn, AR⟩
      have zX := ZX
      have zb : bb < wr.heap.size := Nat.lt_of_lt_of_le hbk AR.size
      have zw : w.heap.size ≤ wr.heap.size := AR.size
      clear hcx hcn
      by_cases hg : (x = 0 ∨ x = 1) ∧ 1 ≤ n ∧ n ≤ h - l' - o'
      · obtain ⟨hx, hn1, hn2⟩ := hg
        have hn3 : n ≤ 4096 := by omega
        rcases hx with rfl | rfl
        · have HO := hid (cl_in (s := 0) (x := 0) HK.out rfl hn1 hn2)
          go_wp2_with fail
          go_region_held3 (ApS w w.heap.size bb (off + k * 2) (off + k * 2 + 1) 0 l' h o' 0 n) (with_reducible (first | assumption | exact apS_drew hS.out | (refine apS_call (w1 := ?w1) ?hf ?hb; (case hb => assumption); (case hf => assumption)) | (refine apS_alloc ?_ _; assumption) | (refine apS_drew (apS_alloc ?_ _); exact hS.out) | (refine apS_alloc (apS_call (apS_drew hS.out) ?_) _; assumption) | exact apS_call (apS_drew (apS_alloc hS.out _)) b3 | (refine apS_four ?_ zX zb zw; assumption))) (first | (go_at_call 19; refine (claim_at 0 l' h o' 0 n 0 (l' + n) h o' l' 0 _ HO).mono ?_; rintro e w3 ⟨rfl, b3⟩; have q1 := (bcell b3).1; have q2 := (bcell b3).2))
          · have hA := aft_a (p := l') (q := o') (a := 0) (b := (l' + n)) (c := h) (d := o') hS.out HX.out HR.out.2.1 HR.out.2.2.2.1 b3
            clear q1 q2 b3 hS
            revert hA
            generalize w3.alloc _ = W2
            generalize w3.heap.size = g
            intro hA
            have HA := hid hA
            obtain ⟨hS2, rX, rM, rg, hXM, hMg, hsz, hgz⟩ := hA
            have c0 := at_row rX 0 rfl
            have c1 := at_row rX 1 rfl
            have c2 := at_row rX 2 rfl
            have c3 := at_row rX 3 rfl
            have f0 := fz_row rX 0
            have f1 := fz_row rX 1
            have f2 := fz_row rX 2
            have f3 := fz_row rX 3
            have m0 := at_row rM 0 rfl
            have m1 := at_row rM 1 rfl
            have mz0 := fz_row rM 0
            have mz1 := fz_row rM 1
            have g0 := at_row rg 0 rfl
            have g1 := at_row rg 1 rfl
            have g2 := at_row rg 2 rfl
            have g3 := at_row rg 3 rfl
            have e4 := hS2.2.2.2.2.1
            have e5 := hS2.2.2.2.2.2.1
            have nXM : w.heap.size ≠ w1.heap.size := by omega
            have nMX : w1.heap.size ≠ w.heap.size := by omega
            have nMg : w1.heap.size ≠ g := by omega
            have nXg : w.heap.size ≠ g := by omega
            have nMb : w1.heap.size ≠ bb := by omega
            clear rX rM rg hS2 hsz
            go_wp2_with (go_at_call 12; refine (pkNum _ _).mono ?_; rintro e w' ⟨rfl, rfl⟩)
            go_region
            go_wp2
            exact ⟨⟨k + 1, (l' + n), o', by omega, by go_num, by congr 1; omega, Pk.frOk_mk (by omega), apR_next HA.out (fun _ r => nx_set0 r _) (by simp)⟩, by simp [intOf]; omega⟩
          · have hA := aft_b (p := l') (q := o') (a := 0) (b := (l' + n)) (c := h) (d := o') hS.out HX.out HR.out.2.1 HR.out.2.2.2.1 b3
            clear q1 q2 b3 hS
            revert hA
            generalize World.setCell (World.setCell _ _ _) _ _ = W2
            generalize wr.heap.size = g
            intro hA
            have HA := hid hA
            obtain ⟨hS2, rX, rM, rg, hXM, hMg, hsz, hgz⟩ := hA
            have c0 := at_row rX 0 rfl
            have c1 := at_row rX 1 rfl
            have c2 := at_row rX 2 rfl
            have c3 := at_row rX 3 rfl
            have f0 := fz_row rX 0
            have f1 := fz_row rX 1
            have f2 := fz_row rX 2
            have f3 := fz_row rX 3
            have m0 := at_row rM 0 rfl
            have m1 := at_row rM 1 rfl
            have mz0 := fz_row rM 0
            have mz1 := fz_row rM 1
            have g0 := at_row rg 0 rfl
            have g1 := at_row rg 1 rfl
            have g2 := at_row rg 2 rfl
            have g3 := at_row rg 3 rfl
            have e4 := hS2.2.2.2.2.1
            have e5 := hS2.2.2.2.2.2.1
            have nXM : w.heap.size ≠ w1.heap.size := by omega
            have nMX : w1.heap.size ≠ w.heap.size := by omega
            have nMg : w1.heap.size ≠ g := by omega
            have nXg : w.heap.size ≠ g := by omega
            have nMb : w1.heap.size ≠ bb := by omega
            clear rX rM rg hS2 hsz
            go_wp2_with (go_at_call 12; refine (pkNum _ _).mono ?_; rintro e w' ⟨rfl, rfl⟩)
            go_region
            go_wp2
            exact ⟨⟨k + 1, (l' + n), o', by omega, by go_num, by congr 1; omega, Pk.frOk_mk (by omega), apR_next HA.out (fun _ r => nx_set0 r _) (by simp)⟩, by simp [intOf]; omega⟩
        · have HO := hid (cl_out (s := 0) (x := 1) HK.out (by decide) (by decide) hn1 hn2)
          go_wp2_with fail
          go_region_held3 (ApS w w.heap.size bb (off + k * 2) (off + k * 2 + 1) 0 l' h o' 1 n) (with_reducible (first | assumption | exact apS_drew hS.out | (refine apS_call (w1 := ?w1) ?hf ?hb; (case hb => assumption); (case hf => assumption)) | (refine apS_alloc ?_ _; assumption) | (refine apS_drew (apS_alloc ?_ _); exact hS.out) | (refine apS_alloc (apS_call (apS_drew hS.out) ?_) _; assumption) | exact apS_call (apS_drew (apS_alloc hS.out _)) b3 | (refine apS_four ?_ zX zb zw; assumption))) (first | (go_at_call 19; refine (claim_at 0 l' h o' 1 n 0 l' h (o' + n) o' 0 _ HO).mono ?_; rintro e w3 ⟨rfl, b3⟩; have q1 := (bcell b3).1; have q2 := (bcell b3).2))
          · have hA := aft_a (p := l') (q := o') (a := 0) (b := l') (c := h) (d := (o' + n)) hS.out HX.out HR.out.2.1 HR.out.2.2.2.1 b3
            clear q1 q2 b3 hS
            revert hA
            generalize w3.alloc _ = W2
            generalize w3.heap.size = g
            intro hA
            have HA := hid hA
            obtain ⟨hS2, rX, rM, rg, hXM, hMg, hsz, hgz⟩ := hA
            have c0 := at_row rX 0 rfl
            have c1 := at_row rX 1 rfl
            have c2 := at_row rX 2 rfl
            have c3 := at_row rX 3 rfl
            have f0 := fz_row rX 0
            have f1 := fz_row rX 1
            have f2 := fz_row rX 2
            have f3 := fz_row rX 3
            have m0 := at_row rM 0 rfl
            have m1 := at_row rM 1 rfl
            have mz0 := fz_row rM 0
            have mz1 := fz_row rM 1
            have g0 := at_row rg 0 rfl
            have g1 := at_row rg 1 rfl
            have g2 := at_row rg 2 rfl
            have g3 := at_row rg 3 rfl
            have e4 := hS2.2.2.2.2.1
            have e5 := hS2.2.2.2.2.2.1
            have nXM : w.heap.size ≠ w1.heap.size := by omega
            have nMX : w1.heap.size ≠ w.heap.size := by omega
            have nMg : w1.heap.size ≠ g := by omega
            have nXg : w.heap.size ≠ g := by omega
            have nMb : w1.heap.size ≠ bb := by omega
            clear rX rM rg hS2 hsz
            go_wp2_with (go_at_call 12; refine (pkNum _ _).mono ?_; rintro e w' ⟨rfl, rfl⟩)
            go_region
            go_wp2
            exact ⟨⟨k + 1, l', (o' + n), by omega, by go_num, by congr 1; omega, Pk.frOk_mk (by omega), apR_next HA.out (fun _ r => nx_set1 r _) (by simp)⟩, by simp [intOf]; omega⟩
          · have hA := aft_b (p := l') (q := o') (a := 0) (b := l') (c := h) (d := (o' + n)) hS.out HX.out HR.out.2.1 HR.out.2.2.2.1 b3
            clear q1 q2 b3 hS
            revert hA
            generalize World.setCell (World.setCell _ _ _) _ _ = W2
            generalize wr.heap.size = g
            intro hA
            have HA := hid hA
            obtain ⟨hS2, rX, rM, rg, hXM, hMg, hsz, hgz⟩ := hA
            have c0 := at_row rX 0 rfl
            have c1 := at_row rX 1 rfl
            have c2 := at_row rX 2 rfl
            have c3 := at_row rX 3 rfl
            have f0 := fz_row rX 0
            have f1 := fz_row rX 1
            have f2 := fz_row rX 2
            have f3 := fz_row rX 3
            have m0 := at_row rM 0 rfl
            have m1 := at_row rM 1 rfl
            have mz0 := fz_row rM 0
            have mz1 := fz_row rM 1
            have g0 := at_row rg 0 rfl
            have g1 := at_row rg 1 rfl
            have g2 := at_row rg 2 rfl
            have g3 := at_row rg 3 rfl
            have e4 := hS2.2.2.2.2.1
            have e5 := hS2.2.2.2.2.2.1
            have nXM : w.heap.size ≠ w1.heap.size := by omega
            have nMX : w1.heap.size ≠ w.heap.size := by omega
            have nMg : w1.heap.size ≠ g := by omega
            have nXg : w.heap.size ≠ g := by omega
            have nMb : w1.heap.size ≠ bb := by omega
            clear rX rM rg hS2 hsz
            go_wp2_with (go_at_call 12; refine (pkNum _ _).mono ?_; rintro e w' ⟨rfl, rfl⟩)
            go_region
            go_wp2
            exact ⟨⟨k + 1, l', (o' + n), by omega, by go_num, by congr 1; omega, Pk.frOk_mk (by omega), apR_next HA.out (fun _ r => nx_set1 r _) (by simp)⟩, by simp [intOf]; omega⟩
      · obtain ⟨r, hcl, hr⟩ := cl_err (s := 0) hg
        have HO := hid hcl
        clear hcl hg
        go_wp2_with fail
        go_region_held3 (ApS w w.heap.size bb (off + k * 2) (off + k * 2 + 1) 0 l' h o' x n) (with_reducible (first | assumption | exact apS_drew hS.out | (refine apS_call (w1 := ?w1) ?hf ?hb; (case hb => assumption); (case hf => assumption)) | (refine apS_alloc ?_ _; assumption) | (refine apS_drew (apS_alloc ?_ _); exact hS.out) | (refine apS_alloc (apS_call (apS_drew hS.out) ?_) _; assumption) | exact apS_call (apS_drew (apS_alloc hS.out _)) b3 | (refine apS_four ?_ zX zb zw; assumption))) (first | (go_at_call 19; refine (claim_at 0 l' h o' x n 0 0 0 0 0 r _ HO).mono ?_; rintro e w3 ⟨rfl, b3⟩; have q1 := (bcell b3).1; have q2 := (bcell b3).2))
        · have hA := aft_a (p := l') (q := o') (a := 0) (b := 0) (c := 0) (d := 0) hS.out HX.out HR.out.2.1 HR.out.2.2.2.1 b3
          clear q1 q2 b3 hS
          revert hA
          generalize w3.alloc _ = W2
          generalize w3.heap.size = g
          intro hA
          go_wp2_with (go_at_call 12; refine (pkNum _ _).mono ?_; rintro e w' ⟨rfl, rfl⟩)
          go_roundw
          case rel => exact ⟨k + 1, l', o', by omega, by go_num, rfl, HK, apR_same HR.out (fun _ => by simp) hA⟩
          case measure => simp [intOf]; omega
        · have hA := aft_b (p := l') (q := o') (a := 0) (b := 0) (c := 0) (d := 0) hS.out HX.out HR.out.2.1 HR.out.2.2.2.1 b3
          clear q1 q2 b3 hS
          revert hA
          generalize World.setCell (World.setCell _ _ _) _ _ = W2
          generalize wr.heap.size = g
          intro hA
          go_wp2_with (go_at_call 12; refine (pkNum _ _).mono ?_; rintro e w' ⟨rfl, rfl⟩)
          go_roundw
          case rel => exact ⟨k + 1, l', o', by omega, by go_num, rfl, HK, apR_same HR.out (fun _ => by simp) hA⟩
          case measure => simp [intOf]; omega
    · have hu2 : Hid (Pk.us 0 l' h o' 4096 = (l' + 4096 - h + o', 0)) := us_of HK.out
      have c0 := at_row HX.out 0 rfl
      have c1 := at_row HX.out 1 rfl
      have c2 := at_row HX.out 2 rfl
      have c3 := at_row HX.out 3 rfl
      go_wp2_with (go_at_call 21; refine (used_at 0 l' h o' 4096 _ _ _ hu2).mono ?_)
      rintro e w8 ⟨rfl, b8⟩
      have a8 : Below w.heap.size w w8 := AR.trans (b8.mono AR.size)
      have X8 := (b8.block _ ZX).trans HX.out
      clear b8 c0 c1 c2 c3
      have c0 := at_row X8 0 rfl
      have c1 := at_row X8 1 rfl
      have c2 := at_row X8 2 rfl
      have c3 := at_row X8 3 rfl
      clear X8
      go_wp2_with (first | (go_at_call 12; refine (pkNum _ _).mono ?_; rintro e w' ⟨rfl, rfl⟩) | (go_at_call 9; refine (pkWorks _ (HN.out.below a8)).mono ?_))
      rintro e w9 ⟨rfl, b9⟩
      go_wp2
      go_ret
      exact ⟨rfl, a8.trans (b9.mono a8.size)⟩
set_option maxRecDepth 100000 in
set_option maxHeartbeats 16000000 in
theorem packApart_loop1 (l h o : Int) (bb off len cap : Nat) (xs ns : List Int) (w : World) (hlen : len ≤ 40) (hc : Hid (Claims2 w bb off len xs ns)) (hN : Names w) (hk : Hid (Pk.frOk 1 l h o = true)) :
    Calls Tryd.prog 7 #[.agg #[.int .i64 1, .int .i64 l, .int .i64 h, .int .i64 o], .slice (some ⟨bb, off, none⟩) len cap] w fun e w' => e = .returned (.bool true) ∧ Below w.heap.size w w' := by
  have HN := hid hN
  clear hN
  have hgt : (len : Int) ≤ 40 := by omega
  have hu : Hid (Pk.us 1 l h o 4096 = (l + 4096 - h + o, 0)) := us_of hk.out
  obtain ⟨hs, l0, l1, h0, h1, o0, o1, hlo⟩ := Pk.frOk_yes hk.out
  clear hs
  go_enter Tryd.func7, Tryd.ntmps7
  go_wp2_with (go_at_call 21; refine (used_at 1 l h o 4096 _ _ _ hu).mono ?_)
  rintro e w1 ⟨rfl, b1⟩
  have X1 := hid (row1 b1)
  have a1 := bel1 b1
  have z1 := siz1 b1
  clear b1
  have c0 := at_row X1.out 0 rfl
  have c1 := at_row X1.out 1 rfl
  have c2 := at_row X1.out 2 rfl
  have c3 := at_row X1.out 3 rfl
  go_wp2_with (go_at_call 12; refine (pkNum _ _).mono ?_; rintro e w' ⟨rfl, rfl⟩)
  clear c0 c1 c2 c3
  go_loopw [8, 9] (fun sm i wr => ∃ (k : Nat) (l' o' : Int), k ≤ len ∧ i = .int .i64 k ∧ sm = .int .i64 (l' + o' - l - o) ∧ Hid (Pk.frOk 1 l' h o' = true) ∧ Hid (ApR w w1.heap.size 1 h l' o' wr)) (fun _ i _ => len - (intOf i).toNat)
  case atStart =>
    refine ⟨0, l, o, by omega, rfl, by congr 1; omega, hk, ?_⟩
    exact ⟨(Below.heap_alloc w1 _ _ z1).trans X1.out, heap_alloc_last w1 _, a1.alloc a1.size _, z1, by simp⟩
  case round =>
    obtain ⟨k, l', o', hk', rfl, rfl, HK, HR⟩ := hrel
    obtain ⟨hs', l0', l1', hh0, hh1, o0', o1', hlo'⟩ := Pk.frOk_yes HK.out
    clear hs' hh0 hh1
    clear X1 a1 z1
    have HX := hid HR.out.1
    have AR := HR.out.2.2.1
    have ZX : w.heap.size < wr.heap.size := Nat.lt_trans HR.out.2.2.2.1 HR.out.2.2.2.2
    by_cases hlt : k < len
    · obtain ⟨hbk, hcx, hcn⟩ := hc.out k hlt
      generalize xs.getD k 0 = x at *
      generalize ns.getD k 0 = n at *
      have hS : Hid (ApS w w.heap.size bb (off + k * 2) (off + k * 2 + 1) 1 l' h o' x n wr) := ⟨at_row HX.out 0 rfl, at_row HX.out 1 rfl, at_row HX.out 2 rfl, at_row HX.out 3 rfl, (AR.cell (p := ⟨bb, off + k * 2, none⟩) hbk).trans hcx, (AR.cell (p := ⟨bb, off + k * 2 + 1, none⟩) hbk).trans hcn, AR⟩
      have zX := ZX
      have zb : bb < wr.heap.size := Nat.lt_of_lt_of_le hbk AR.size
      have zw : w.heap.size ≤ wr.heap.size := AR.size
      clear hcx hcn
      by_cases hg : (x = 0 ∨ x = 1) ∧ 1 ≤ n ∧ n ≤ h - l' - o'
      · obtain ⟨hx, hn1, hn2⟩ := hg
        have hn3 : n ≤ 4096 := by omega
        rcases hx with rfl | rfl
        · have HO := hid (cl_out (s := 1) (x := 0) HK.out (by decide) (by decide) hn1 hn2)
          go_wp2_with fail
          go_region_held3 (ApS w w.heap.size bb (off + k * 2) (off + k * 2 + 1) 1 l' h o' 0 n) (with_reducible (first | assumption | exact apS_drew hS.out | (refine apS_call (w1 := ?w1) ?hf ?hb; (case hb => assumption); (case hf => assumption)) | (refine apS_alloc ?_ _; assumption) | (refine apS_drew (apS_alloc ?_ _); exact hS.out) | (refine apS_alloc (apS_call (apS_drew hS.out) ?_) _; assumption) | exact apS_call (apS_drew (apS_alloc hS.out _)) b3 | (refine apS_four ?_ zX zb zw; assumption))) (first | (go_at_call 19; refine (claim_at 1 l' h o' 0 n 1 l' h (o' + n) o' 0 _ HO).mono ?_; rintro e w3 ⟨rfl, b3⟩; have q1 := (bcell b3).1; have q2 := (bcell b3).2))
          · have hA := aft_a (p := o') (q := l') (a := 1) (b := l') (c := h) (d := (o' + n)) hS.out HX.out HR.out.2.1 HR.out.2.2.2.1 b3
            clear q1 q2 b3 hS
            revert hA
            generalize w3.alloc _ = W2
            generalize w3.heap.size = g
            intro hA
            have HA := hid hA
            obtain ⟨hS2, rX, rM, rg, hXM, hMg, hsz, hgz⟩ := hA
            have c0 := at_row rX 0 rfl
            have c1 := at_row rX 1 rfl
            have c2 := at_row rX 2 rfl
            have c3 := at_row rX 3 rfl
            have f0 := fz_row rX 0
            have f1 := fz_row rX 1
            have f2 := fz_row rX 2
            have f3 := fz_row rX 3
            have m0 := at_row rM 0 rfl
            have m1 := at_row rM 1 rfl
            have mz0 := fz_row rM 0
            have mz1 := fz_row rM 1
            have g0 := at_row rg 0 rfl
            have g1 := at_row rg 1 rfl
            have g2 := at_row rg 2 rfl
            have g3 := at_row rg 3 rfl
            have e4 := hS2.2.2.2.2.1
            have e5 := hS2.2.2.2.2.2.1
            have nXM : w.heap.size ≠ w1.heap.size := by omega
            have nMX : w1.heap.size ≠ w.heap.size := by omega
            have nMg : w1.heap.size ≠ g := by omega
            have nXg : w.heap.size ≠ g := by omega
            have nMb : w1.heap.size ≠ bb := by omega
            clear rX rM rg hS2 hsz
            go_wp2_with (go_at_call 12; refine (pkNum _ _).mono ?_; rintro e w' ⟨rfl, rfl⟩)
            go_region
            go_wp2
            exact ⟨⟨k + 1, l', (o' + n), by omega, by go_num, by congr 1; omega, Pk.frOk_mk (by omega), apR_next HA.out (fun _ r => nx_set0 r _) (by simp)⟩, by simp [intOf]; omega⟩
          · have hA := aft_b (p := o') (q := l') (a := 1) (b := l') (c := h) (d := (o' + n)) hS.out HX.out HR.out.2.1 HR.out.2.2.2.1 b3
            clear q1 q2 b3 hS
            revert hA
            generalize World.setCell (World.setCell _ _ _) _ _ = W2
            generalize wr.heap.size = g
            intro hA
            have HA := hid hA
            obtain ⟨hS2, rX, rM, rg, hXM, hMg, hsz, hgz⟩ := hA
            have c0 := at_row rX 0 rfl
            have c1 := at_row rX 1 rfl
            have c2 := at_row rX 2 rfl
            have c3 := at_row rX 3 rfl
            have f0 := fz_row rX 0
            have f1 := fz_row rX 1
            have f2 := fz_row rX 2
            have f3 := fz_row rX 3
            have m0 := at_row rM 0 rfl
            have m1 := at_row rM 1 rfl
            have mz0 := fz_row rM 0
            have mz1 := fz_row rM 1
            have g0 := at_row rg 0 rfl
            have g1 := at_row rg 1 rfl
            have g2 := at_row rg 2 rfl
            have g3 := at_row rg 3 rfl
            have e4 := hS2.2.2.2.2.1
            have e5 := hS2.2.2.2.2.2.1
            have nXM : w.heap.size ≠ w1.heap.size := by omega
            have nMX : w1.heap.size ≠ w.heap.size := by omega
            have nMg : w1.heap.size ≠ g := by omega
            have nXg : w.heap.size ≠ g := by omega
            have nMb : w1.heap.size ≠ bb := by omega
            clear rX rM rg hS2 hsz
            go_wp2_with (go_at_call 12; refine (pkNum _ _).mono ?_; rintro e w' ⟨rfl, rfl⟩)
            go_region
            go_wp2
            exact ⟨⟨k + 1, l', (o' + n), by omega, by go_num, by congr 1; omega, Pk.frOk_mk (by omega), apR_next HA.out (fun _ r => nx_set0 r _) (by simp)⟩, by simp [intOf]; omega⟩
        · have HO := hid (cl_in (s := 1) (x := 1) HK.out rfl hn1 hn2)
          go_wp2_with fail
          go_region_held3 (ApS w w.heap.size bb (off + k * 2) (off + k * 2 + 1) 1 l' h o' 1 n) (with_reducible (first | assumption | exact apS_drew hS.out | (refine apS_call (w1 := ?w1) ?hf ?hb; (case hb => assumption); (case hf => assumption)) | (refine apS_alloc ?_ _; assumption) | (refine apS_drew (apS_alloc ?_ _); exact hS.out) | (refine apS_alloc (apS_call (apS_drew hS.out) ?_) _; assumption) | exact apS_call (apS_drew (apS_alloc hS.out _)) b3 | (refine apS_four ?_ zX zb zw; assumption))) (first | (go_at_call 19; refine (claim_at 1 l' h o' 1 n 1 (l' + n) h o' l' 0 _ HO).mono ?_; rintro e w3 ⟨rfl, b3⟩; have q1 := (bcell b3).1; have q2 := (bcell b3).2))
          · have hA := aft_a (p := o') (q := l') (a := 1) (b := (l' + n)) (c := h) (d := o') hS.out HX.out HR.out.2.1 HR.out.2.2.2.1 b3
            clear q1 q2 b3 hS
            revert hA
            generalize w3.alloc _ = W2
            generalize w3.heap.size = g
            intro hA
            have HA := hid hA
            obtain ⟨hS2, rX, rM, rg, hXM, hMg, hsz, hgz⟩ := hA
            have c0 := at_row rX 0 rfl
            have c1 := at_row rX 1 rfl
            have c2 := at_row rX 2 rfl
            have c3 := at_row rX 3 rfl
            have f0 := fz_row rX 0
            have f1 := fz_row rX 1
            have f2 := fz_row rX 2
            have f3 := fz_row rX 3
            have m0 := at_row rM 0 rfl
            have m1 := at_row rM 1 rfl
            have mz0 := fz_row rM 0
            have mz1 := fz_row rM 1
            have g0 := at_row rg 0 rfl
            have g1 := at_row rg 1 rfl
            have g2 := at_row rg 2 rfl
            have g3 := at_row rg 3 rfl
            have e4 := hS2.2.2.2.2.1
            have e5 := hS2.2.2.2.2.2.1
            have nXM : w.heap.size ≠ w1.heap.size := by omega
            have nMX : w1.heap.size ≠ w.heap.size := by omega
            have nMg : w1.heap.size ≠ g := by omega
            have nXg : w.heap.size ≠ g := by omega
            have nMb : w1.heap.size ≠ bb := by omega
            clear rX rM rg hS2 hsz
            go_wp2_with (go_at_call 12; refine (pkNum _ _).mono ?_; rintro e w' ⟨rfl, rfl⟩)
            go_region
            go_wp2
            exact ⟨⟨k + 1, (l' + n), o', by omega, by go_num, by congr 1; omega, Pk.frOk_mk (by omega), apR_next HA.out (fun _ r => nx_set1 r _) (by simp)⟩, by simp [intOf]; omega⟩
          · have hA := aft_b (p := o') (q := l') (a := 1) (b := (l' + n)) (c := h) (d := o') hS.out HX.out HR.out.2.1 HR.out.2.2.2.1 b3
            clear q1 q2 b3 hS
            revert hA
            generalize World.setCell (World.setCell _ _ _) _ _ = W2
            generalize wr.heap.size = g
            intro hA
            have HA := hid hA
            obtain ⟨hS2, rX, rM, rg, hXM, hMg, hsz, hgz⟩ := hA
            have c0 := at_row rX 0 rfl
            have c1 := at_row rX 1 rfl
            have c2 := at_row rX 2 rfl
            have c3 := at_row rX 3 rfl
            have f0 := fz_row rX 0
            have f1 := fz_row rX 1
            have f2 := fz_row rX 2
            have f3 := fz_row rX 3
            have m0 := at_row rM 0 rfl
            have m1 := at_row rM 1 rfl
            have mz0 := fz_row rM 0
            have mz1 := fz_row rM 1
            have g0 := at_row rg 0 rfl
            have g1 := at_row rg 1 rfl
            have g2 := at_row rg 2 rfl
            have g3 := at_row rg 3 rfl
            have e4 := hS2.2.2.2.2.1
            have e5 := hS2.2.2.2.2.2.1
            have nXM : w.heap.size ≠ w1.heap.size := by omega
            have nMX : w1.heap.size ≠ w.heap.size := by omega
            have nMg : w1.heap.size ≠ g := by omega
            have nXg : w.heap.size ≠ g := by omega
            have nMb : w1.heap.size ≠ bb := by omega
            clear rX rM rg hS2 hsz
            go_wp2_with (go_at_call 12; refine (pkNum _ _).mono ?_; rintro e w' ⟨rfl, rfl⟩)
            go_region
            go_wp2
            exact ⟨⟨k + 1, (l' + n), o', by omega, by go_num, by congr 1; omega, Pk.frOk_mk (by omega), apR_next HA.out (fun _ r => nx_set1 r _) (by simp)⟩, by simp [intOf]; omega⟩
      · obtain ⟨r, hcl, hr⟩ := cl_err (s := 1) hg
        have HO := hid hcl
        clear hcl hg
        go_wp2_with fail
        go_region_held3 (ApS w w.heap.size bb (off + k * 2) (off + k * 2 + 1) 1 l' h o' x n) (with_reducible (first | assumption | exact apS_drew hS.out | (refine apS_call (w1 := ?w1) ?hf ?hb; (case hb => assumption); (case hf => assumption)) | (refine apS_alloc ?_ _; assumption) | (refine apS_drew (apS_alloc ?_ _); exact hS.out) | (refine apS_alloc (apS_call (apS_drew hS.out) ?_) _; assumption) | exact apS_call (apS_drew (apS_alloc hS.out _)) b3 | (refine apS_four ?_ zX zb zw; assumption))) (first | (go_at_call 19; refine (claim_at 1 l' h o' x n 0 0 0 0 0 r _ HO).mono ?_; rintro e w3 ⟨rfl, b3⟩; have q1 := (bcell b3).1; have q2 := (bcell b3).2))
        · have hA := aft_a (p := o') (q := l') (a := 0) (b := 0) (c := 0) (d := 0) hS.out HX.out HR.out.2.1 HR.out.2.2.2.1 b3
          clear q1 q2 b3 hS
          revert hA
          generalize w3.alloc _ = W2
          generalize w3.heap.size = g
          intro hA
          go_wp2_with (go_at_call 12; refine (pkNum _ _).mono ?_; rintro e w' ⟨rfl, rfl⟩)
          go_roundw
          case rel => exact ⟨k + 1, l', o', by omega, by go_num, rfl, HK, apR_same HR.out (fun _ => by simp) hA⟩
          case measure => simp [intOf]; omega
        · have hA := aft_b (p := o') (q := l') (a := 0) (b := 0) (c := 0) (d := 0) hS.out HX.out HR.out.2.1 HR.out.2.2.2.1 b3
          clear q1 q2 b3 hS
          revert hA
          generalize World.setCell (World.setCell _ _ _) _ _ = W2
          generalize wr.heap.size = g
          intro hA
          go_wp2_with (go_at_call 12; refine (pkNum _ _).mono ?_; rintro e w' ⟨rfl, rfl⟩)
          go_roundw
          case rel => exact ⟨k + 1, l', o', by omega, by go_num, rfl, HK, apR_same HR.out (fun _ => by simp) hA⟩
          case measure => simp [intOf]; omega
    · have hu2 : Hid (Pk.us 1 l' h o' 4096 = (l' + 4096 - h + o', 0)) := us_of HK.out
      have c0 := at_row HX.out 0 rfl
      have c1 := at_row HX.out 1 rfl
      have c2 := at_row HX.out 2 rfl
      have c3 := at_row HX.out 3 rfl
      go_wp2_with (go_at_call 21; refine (used_at 1 l' h o' 4096 _ _ _ hu2).mono ?_)
      rintro e w8 ⟨rfl, b8⟩
      have a8 : Below w.heap.size w w8 := AR.trans (b8.mono AR.size)
      have X8 := (b8.block _ ZX).trans HX.out
      clear b8 c0 c1 c2 c3
      have c0 := at_row X8 0 rfl
      have c1 := at_row X8 1 rfl
      have c2 := at_row X8 2 rfl
      have c3 := at_row X8 3 rfl
      clear X8
      go_wp2_with (first | (go_at_call 12; refine (pkNum _ _).mono ?_; rintro e w' ⟨rfl, rfl⟩) | (go_at_call 9; refine (pkWorks _ (HN.out.below a8)).mono ?_))
      rintro e w9 ⟨rfl, b9⟩
      go_wp2
      go_ret
      exact ⟨rfl, a8.trans (b9.mono a8.size)⟩
set_option maxHeartbeats 4000000 in
theorem packApart_zero0 (l h o : Int) (ad : Option Addr) (cap : Nat) (w : World) (hN : Names w) (hk : Hid (Pk.frOk 0 l h o = true)) :
    Calls Tryd.prog 7 #[.agg #[.int .i64 0, .int .i64 l, .int .i64 h, .int .i64 o], .slice ad 0 cap] w fun e w' => e = .returned (.bool true) ∧ Below w.heap.size w w' := by
  have HN := hid hN
  clear hN
  have hu : Hid (Pk.us 0 l h o 4096 = (l + 4096 - h + o, 0)) := us_of hk.out
  obtain ⟨hs, l0, l1, h0, h1, o0, o1, hlo⟩ := Pk.frOk_yes hk.out
  clear hs
  go_enter Tryd.func7, Tryd.ntmps7
  go_wp2_with (go_at_call 21; refine (used_at 0 l h o 4096 _ _ _ hu).mono ?_)
  rintro e w1 ⟨rfl, b1⟩
  have X1 := hid (row1 b1)
  have a1 := bel1 b1
  have z1 := siz1 b1
  clear b1
  have c0 := at_row X1.out 0 rfl
  have c1 := at_row X1.out 1 rfl
  have c2 := at_row X1.out 2 rfl
  have c3 := at_row X1.out 3 rfl
  go_wp2_with (go_at_call 12; refine (pkNum _ _).mono ?_; rintro e w' ⟨rfl, rfl⟩)
  refine wp_loop_rounds 1 ?_
  rw [rounds_succ]
  have HX : Hid (∀ A, (w1.alloc A).heap[w.heap.size]? = some (.cells #[.int .i64 0, .int .i64 l, .int .i64 h, .int .i64 o] 40)) := fun A => (Below.heap_alloc w1 A _ z1).trans X1.out
  have HB : Hid (∀ A, Below w.heap.size w (w1.alloc A)) := fun A => a1.alloc a1.size A
  have HZ : Hid (∀ A, w.heap.size < (w1.alloc A).heap.size) := fun A => by simp; omega
  go_wp2_with (go_at_call 21; refine (used_at 0 l h o 4096 _ _ _ hu).mono ?_)
  rintro e w8 ⟨rfl, b8⟩
  have a8 : Below w.heap.size w w8 := (HB.out _).trans (b8.mono (HB.out _).size)
  have X8 := (b8.block _ (HZ.out _)).trans (HX.out _)
  clear b8 c0 c1 c2 c3
  have c0 := at_row X8 0 rfl
  have c1 := at_row X8 1 rfl
  have c2 := at_row X8 2 rfl
  have c3 := at_row X8 3 rfl
  clear X8
  go_wp2_with (first | (go_at_call 12; refine (pkNum _ _).mono ?_; rintro e w' ⟨rfl, rfl⟩) | (go_at_call 9; refine (pkWorks _ (HN.out.below a8)).mono ?_))
  rintro e w9 ⟨rfl, b9⟩
  go_wp2
  go_ret
  exact ⟨rfl, a8.trans (b9.mono a8.size)⟩
set_option maxHeartbeats 4000000 in
theorem packApart_zero1 (l h o : Int) (ad : Option Addr) (cap : Nat) (w : World) (hN : Names w) (hk : Hid (Pk.frOk 1 l h o = true)) :
    Calls Tryd.prog 7 #[.agg #[.int .i64 1, .int .i64 l, .int .i64 h, .int .i64 o], .slice ad 0 cap] w fun e w' => e = .returned (.bool true) ∧ Below w.heap.size w w' := by
  have HN := hid hN
  clear hN
  have hu : Hid (Pk.us 1 l h o 4096 = (l + 4096 - h + o, 0)) := us_of hk.out
  obtain ⟨hs, l0, l1, h0, h1, o0, o1, hlo⟩ := Pk.frOk_yes hk.out
  clear hs
  go_enter Tryd.func7, Tryd.ntmps7
  go_wp2_with (go_at_call 21; refine (used_at 1 l h o 4096 _ _ _ hu).mono ?_)
  rintro e w1 ⟨rfl, b1⟩
  have X1 := hid (row1 b1)
  have a1 := bel1 b1
  have z1 := siz1 b1
  clear b1
  have c0 := at_row X1.out 0 rfl
  have c1 := at_row X1.out 1 rfl
  have c2 := at_row X1.out 2 rfl
  have c3 := at_row X1.out 3 rfl
  go_wp2_with (go_at_call 12; refine (pkNum _ _).mono ?_; rintro e w' ⟨rfl, rfl⟩)
  refine wp_loop_rounds 1 ?_
  rw [rounds_succ]
  have HX : Hid (∀ A, (w1.alloc A).heap[w.heap.size]? = some (.cells #[.int .i64 1, .int .i64 l, .int .i64 h, .int .i64 o] 40)) := fun A => (Below.heap_alloc w1 A _ z1).trans X1.out
  have HB : Hid (∀ A, Below w.heap.size w (w1.alloc A)) := fun A => a1.alloc a1.size A
  have HZ : Hid (∀ A, w.heap.size < (w1.alloc A).heap.size) := fun A => by simp; omega
  go_wp2_with (go_at_call 21; refine (used_at 1 l h o 4096 _ _ _ hu).mono ?_)
  rintro e w8 ⟨rfl, b8⟩
  have a8 : Below w.heap.size w w8 := (HB.out _).trans (b8.mono (HB.out _).size)
  have X8 := (b8.block _ (HZ.out _)).trans (HX.out _)
  clear b8 c0 c1 c2 c3
  have c0 := at_row X8 0 rfl
  have c1 := at_row X8 1 rfl
  have c2 := at_row X8 2 rfl
  have c3 := at_row X8 3 rfl
  clear X8
  go_wp2_with (first | (go_at_call 12; refine (pkNum _ _).mono ?_; rintro e w' ⟨rfl, rfl⟩) | (go_at_call 9; refine (pkWorks _ (HN.out.below a8)).mono ?_))
  rintro e w9 ⟨rfl, b9⟩
  go_wp2
  go_ret
  exact ⟨rfl, a8.trans (b9.mono a8.size)⟩
set_option maxHeartbeats 2000000 in
theorem packApart_long (s l h o : Int) (ad : Option Addr) (len cap : Nat) (w : World) (hN : Names w) (h40 : (40 : Int) < len) :
    Calls Tryd.prog 7 #[.agg #[.int .i64 s, .int .i64 l, .int .i64 h, .int .i64 o], .slice ad len cap] w fun e w' => e = .returned (.bool true) ∧ Below w.heap.size w w' := by
  have HN := hid hN
  clear hN
  rcases hu : Pk.us s l h o 4096 with ⟨u, q⟩
  have HU := hid hu
  clear hu
  go_enter Tryd.func7, Tryd.ntmps7
  go_wp2_with (go_at_call 21; refine (used_at s l h o 4096 u q _ HU).mono ?_)
  rintro e w1 ⟨rfl, b1⟩
  have a1 := bel1 b1
  clear b1
  go_wp2_with (go_at_call 9; refine (pkWorks _ (HN.out.below a1)).mono ?_)
  rintro e w9 ⟨rfl, b9⟩
  go_wp2
  go_ret
  exact ⟨rfl, a1.trans (b9.mono a1.size)⟩
set_option maxHeartbeats 2000000 in
theorem packApart_no (s l h o : Int) (ad : Option Addr) (len cap : Nat) (w : World) (hN : Names w) (h40 : (len : Int) ≤ 40) (hk : Hid (Pk.frOk s l h o = false)) :
    Calls Tryd.prog 7 #[.agg #[.int .i64 s, .int .i64 l, .int .i64 h, .int .i64 o], .slice ad len cap] w fun e w' => e = .returned (.bool true) ∧ Below w.heap.size w w' := by
  have HN := hid hN
  clear hN
  have HU : Hid (Pk.us s l h o 4096 = (0, 2)) := by
    unfold Pk.us Hid
    rw [if_neg (fun hh => by have h2 := hh.1; rw [show Pk.frOk s l h o = false from hk.out] at h2; cases h2)]
  go_enter Tryd.func7, Tryd.ntmps7
  go_wp2_with (go_at_call 21; refine (used_at s l h o 4096 0 2 _ HU).mono ?_)
  rintro e w1 ⟨rfl, b1⟩
  have a1 := bel1 b1
  clear b1
  go_wp2_with (first | (go_at_call 12; refine (pkNum _ _).mono ?_; rintro e w' ⟨rfl, rfl⟩) | (go_at_call 9; refine (pkWorks _ (HN.out.below a1)).mono ?_))
  rintro e w9 ⟨rfl, b9⟩
  go_wp2
  go_ret
  exact ⟨rfl, a1.trans (b9.mono a1.size)⟩
/-- The slice of claims that came in: nil, or so many claims of two cells each. -/
def IsClaims (w : World) (a : Option Addr) (len : Nat) : Prop :=
  len = 0 ∨ ∃ b off xs ns, a = some ⟨b, off, none⟩ ∧ Claims2 w b off len xs ns
theorem packApart_walk (s l h o : Int) (ad : Option Addr) (len cap : Nat) (w : World) (hr : IsClaims w ad len) (hN : Names w) : Calls Tryd.prog 7 #[.agg #[.int .i64 s, .int .i64 l, .int .i64 h, .int .i64 o], .slice ad len cap] w fun e w' => e = .returned (.bool true) ∧ Below w.heap.size w w' := by
  by_cases h40 : (40 : Int) < len
  · exact packApart_long s l h o ad len cap w hN h40
  · rcases Pk.bool_cases (Pk.frOk s l h o) with hk | hk
    · obtain ⟨hs, _⟩ := Pk.frOk_yes hk
      rcases hs with rfl | rfl
      · rcases hr with rfl | ⟨b, off, xs, ns, rfl, hc⟩
        · exact packApart_zero0 l h o ad cap w hN hk
        · exact packApart_loop0 l h o b off len cap xs ns w (by omega) hc hN hk
      · rcases hr with rfl | ⟨b, off, xs, ns, rfl, hc⟩
        · exact packApart_zero1 l h o ad cap w hN hk
        · exact packApart_loop1 l h o b off len cap xs ns w (by omega) hc hN hk
    · exact packApart_no s l h o ad len cap w hN (by omega) hk
end Go.Proofs.YtdchcmaceobpeaaDoor
