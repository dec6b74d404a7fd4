/- The walks of the laws LayoutAt, LayoutApart, LayoutPlaces. Typed by tools/gen06law.py. -/
import Derived.Test.YtjfegimgpkeleaaDoorLyWorks
set_option linter.unusedVariables false
namespace Go.Proofs.YtjfegimgpkeleaaDoor
open Go.RowKit Go.Ly Go.Sh
set_option maxRecDepth 100000 in
set_option maxHeartbeats 8000000 in
theorem layoutAt_v (t s k x y : Int) (a : Option Addr) (n c : Nat) (ss : List ByteArray) (w : World) (hT : IsTab w (.slice a n c) ss) (hA : LAll w) (hv : lvs ss = true) :
    Calls Tryd.prog 6 #[planV t s a n c, partV k x y] w fun e w' => e = .returned (.bool true) ∧ Below w.heap.size w w' := by
  have HA := hid hA
  clear hA
  have cv := fun W h => lvast_any t s a n c ss W h
  simp only [hv] at cv
  have T0 := hid (hT.below (Nat.le_refl _) (bel2 (Below.refl ((w.alloc (aplanO t s a n c)).alloc (.cells #[.int .i64 k, .int .i64 x, .int .i64 y] 45)).heap.size ((w.alloc (aplanO t s a n c)).alloc (.cells #[.int .i64 k, .int .i64 x, .int .i64 y] 45)))))
  have B0 : Hid (Below w.heap.size w ((w.alloc (aplanO t s a n c)).alloc (.cells #[.int .i64 k, .int .i64 x, .int .i64 y] 45))) := hid (bel2 (Below.refl _ _))
  have P0 : Hid (((w.alloc (aplanO t s a n c)).alloc (.cells #[.int .i64 k, .int .i64 x, .int .i64 y] 45)).heap[w.heap.size]? = some (aplanO t s a n c)) := hid (row2a (Below.refl _ _))
  have X0 : Hid (((w.alloc (aplanO t s a n c)).alloc (.cells #[.int .i64 k, .int .i64 x, .int .i64 y] 45)).heap[w.heap.size + 1]? = some (.cells #[.int .i64 k, .int .i64 x, .int .i64 y] 45)) := hid (row2b (Below.refl _ _))
  clear hT
  go_enter Tryd.func6, Tryd.ntmps6
  go_wp2_with (go_at_call 8; refine (cv _ T0.out).mono ?_)
  rintro e w1 ⟨rfl, b⟩
  have T1 := hid (T0.out.below (Nat.le_refl _) b)
  have B1 := hid (B0.out.trans (b.mono B0.out.size))
  have P1 := hid (row_below P0.out b)
  have X1 := hid (row_below X0.out b)
  clear T0 B0 b P0 X0 
  have pc0 := at_row P1.out 0 rfl
  have pc1 := at_row P1.out 1 rfl
  have pc2 := at_row P1.out 2 rfl
  have xc0 := at_row X1.out 0 rfl
  have xc1 := at_row X1.out 1 rfl
  have xc2 := at_row X1.out 2 rfl
  have cw := lworks_any w1 (HA.out.below B1.out)
  go_wp2_with (first | (go_at_call 9; refine cw.mono ?_; rintro e wz ⟨rfl, bz⟩))
  go_ret
  exact ⟨rfl, B1.out.trans (bz.mono B1.out.size)⟩
set_option maxRecDepth 100000 in
set_option maxHeartbeats 8000000 in
theorem layoutAt_n (t s k x y : Int) (a : Option Addr) (n c : Nat) (ss : List ByteArray) (w : World) (hT : IsTab w (.slice a n c) ss) (hA : LAll w) (hv : lvs ss = false) (hr : rgt t s ss = false) :
    Calls Tryd.prog 6 #[planV t s a n c, partV k x y] w fun e w' => e = .returned (.bool true) ∧ Below w.heap.size w w' := by
  have HA := hid hA
  clear hA
  have cv := fun W h => lvast_any t s a n c ss W h
  simp only [hv] at cv
  have T0 := hid (hT.below (Nat.le_refl _) (bel2 (Below.refl ((w.alloc (aplanO t s a n c)).alloc (.cells #[.int .i64 k, .int .i64 x, .int .i64 y] 45)).heap.size ((w.alloc (aplanO t s a n c)).alloc (.cells #[.int .i64 k, .int .i64 x, .int .i64 y] 45)))))
  have B0 : Hid (Below w.heap.size w ((w.alloc (aplanO t s a n c)).alloc (.cells #[.int .i64 k, .int .i64 x, .int .i64 y] 45))) := hid (bel2 (Below.refl _ _))
  have P0 : Hid (((w.alloc (aplanO t s a n c)).alloc (.cells #[.int .i64 k, .int .i64 x, .int .i64 y] 45)).heap[w.heap.size]? = some (aplanO t s a n c)) := hid (row2a (Below.refl _ _))
  have X0 : Hid (((w.alloc (aplanO t s a n c)).alloc (.cells #[.int .i64 k, .int .i64 x, .int .i64 y] 45)).heap[w.heap.size + 1]? = some (.cells #[.int .i64 k, .int .i64 x, .int .i64 y] 45)) := hid (row2b (Below.refl _ _))
  clear hT
  go_enter Tryd.func6, Tryd.ntmps6
  go_wp2_with (go_at_call 8; refine (cv _ T0.out).mono ?_)
  rintro e w1 ⟨rfl, b⟩
  have T1 := hid (T0.out.below (Nat.le_refl _) b)
  have B1 := hid (B0.out.trans (b.mono B0.out.size))
  have P1 := hid (row_below P0.out b)
  have X1 := hid (row_below X0.out b)
  clear T0 B0 b P0 X0 
  have pc0 := at_row P1.out 0 rfl
  have pc1 := at_row P1.out 1 rfl
  have pc2 := at_row P1.out 2 rfl
  have xc0 := at_row X1.out 0 rfl
  have xc1 := at_row X1.out 1 rfl
  have xc2 := at_row X1.out 2 rfl
  go_wp2_with (go_at_call 25; refine (At_at t s k x y 0 2 a n c ss _ T1.out (HA.out.below B1.out).nums (hid (by unfold atv; rw [if_neg (by simp [hr])]))).mono ?_)
  rintro e w2 ⟨rfl, b⟩
  have T2 := hid (T1.out.below (Nat.le_refl _) b)
  have B2 := hid (B1.out.trans (b.mono B1.out.size))
  have P2 := hid (row_below P1.out b)
  have X2 := hid (row_below X1.out b)
  clear T1 B1 b P1 X1 pc0 pc1 pc2 xc0 xc1 xc2
  have pc0 := at_row P2.out 0 rfl
  have pc1 := at_row P2.out 1 rfl
  have pc2 := at_row P2.out 2 rfl
  have xc0 := at_row X2.out 0 rfl
  have xc1 := at_row X2.out 1 rfl
  have xc2 := at_row X2.out 2 rfl
  go_wp2_with (go_at_call 12; refine (rgt6_at t s a n c ss _ false T2.out (hid hr)).mono ?_)
  rintro e w3 ⟨rfl, b⟩
  have T3 := hid (T2.out.below (Nat.le_refl _) b)
  have B3 := hid (B2.out.trans (b.mono B2.out.size))
  have P3 := hid (row_below P2.out b)
  have X3 := hid (row_below X2.out b)
  clear T2 B2 b P2 X2 pc0 pc1 pc2 xc0 xc1 xc2
  have pc0 := at_row P3.out 0 rfl
  have pc1 := at_row P3.out 1 rfl
  have pc2 := at_row P3.out 2 rfl
  have xc0 := at_row X3.out 0 rfl
  have xc1 := at_row X3.out 1 rfl
  have xc2 := at_row X3.out 2 rfl
  have cw := lworks_any w3 (HA.out.below B3.out)
  go_wp2_with (first | (go_at_call 13; refine (lnum_any _ _).mono ?_; rintro e w' ⟨rfl, hw⟩; rw [hw]; clear hw) | (go_at_call 9; refine cw.mono ?_; rintro e wz ⟨rfl, bz⟩))
  go_ret
  exact ⟨rfl, B3.out.trans (bz.mono B3.out.size)⟩
set_option maxRecDepth 100000 in
set_option maxHeartbeats 8000000 in
theorem layoutAt_y (t s k x y v e0 : Int) (a : Option Addr) (n c : Nat) (ss : List ByteArray) (w : World) (hT : IsTab w (.slice a n c) ss) (hA : LAll w) (hv : lvs ss = false) (hr : rgt t s ss = true) (h : Hid (av t s k x y = (v, e0))) :
    Calls Tryd.prog 6 #[planV t s a n c, partV k x y] w fun e w' => e = .returned (.bool true) ∧ Below w.heap.size w w' := by
  have HA := hid hA
  clear hA
  have cv := fun W h => lvast_any t s a n c ss W h
  simp only [hv] at cv
  obtain ⟨t0, t1, s0, s1, _⟩ := rgt_yes hr
  have hr := hid hr
  have T0 := hid (hT.below (Nat.le_refl _) (bel2 (Below.refl ((w.alloc (aplanO t s a n c)).alloc (.cells #[.int .i64 k, .int .i64 x, .int .i64 y] 45)).heap.size ((w.alloc (aplanO t s a n c)).alloc (.cells #[.int .i64 k, .int .i64 x, .int .i64 y] 45)))))
  have B0 : Hid (Below w.heap.size w ((w.alloc (aplanO t s a n c)).alloc (.cells #[.int .i64 k, .int .i64 x, .int .i64 y] 45))) := hid (bel2 (Below.refl _ _))
  have P0 : Hid (((w.alloc (aplanO t s a n c)).alloc (.cells #[.int .i64 k, .int .i64 x, .int .i64 y] 45)).heap[w.heap.size]? = some (aplanO t s a n c)) := hid (row2a (Below.refl _ _))
  have X0 : Hid (((w.alloc (aplanO t s a n c)).alloc (.cells #[.int .i64 k, .int .i64 x, .int .i64 y] 45)).heap[w.heap.size + 1]? = some (.cells #[.int .i64 k, .int .i64 x, .int .i64 y] 45)) := hid (row2b (Below.refl _ _))
  clear hT
  go_enter Tryd.func6, Tryd.ntmps6
  go_wp2_with (go_at_call 8; refine (cv _ T0.out).mono ?_)
  rintro e w1 ⟨rfl, b⟩
  have T1 := hid (T0.out.below (Nat.le_refl _) b)
  have B1 := hid (B0.out.trans (b.mono B0.out.size))
  have P1 := hid (row_below P0.out b)
  have X1 := hid (row_below X0.out b)
  clear T0 B0 b P0 X0 
  have pc0 := at_row P1.out 0 rfl
  have pc1 := at_row P1.out 1 rfl
  have pc2 := at_row P1.out 2 rfl
  have xc0 := at_row X1.out 0 rfl
  have xc1 := at_row X1.out 1 rfl
  have xc2 := at_row X1.out 2 rfl
  go_wp2_with (go_at_call 25; refine (At_at t s k x y v e0 a n c ss _ T1.out (HA.out.below B1.out).nums (hid (by unfold atv; rw [if_pos hr.out]; exact h.out))).mono ?_)
  rintro e w2 ⟨rfl, b⟩
  have T2 := hid (T1.out.below (Nat.le_refl _) b)
  have B2 := hid (B1.out.trans (b.mono B1.out.size))
  have P2 := hid (row_below P1.out b)
  have X2 := hid (row_below X1.out b)
  clear T1 B1 b P1 X1 pc0 pc1 pc2 xc0 xc1 xc2
  have pc0 := at_row P2.out 0 rfl
  have pc1 := at_row P2.out 1 rfl
  have pc2 := at_row P2.out 2 rfl
  have xc0 := at_row X2.out 0 rfl
  have xc1 := at_row X2.out 1 rfl
  have xc2 := at_row X2.out 2 rfl
  go_wp2_with (go_at_call 12; refine (rgt6_at t s a n c ss _ true T2.out (hid hr.out)).mono ?_)
  rintro e w3 ⟨rfl, b⟩
  have T3 := hid (T2.out.below (Nat.le_refl _) b)
  have B3 := hid (B2.out.trans (b.mono B2.out.size))
  have P3 := hid (row_below P2.out b)
  have X3 := hid (row_below X2.out b)
  clear T2 B2 b P2 X2 pc0 pc1 pc2 xc0 xc1 xc2
  have pc0 := at_row P3.out 0 rfl
  have pc1 := at_row P3.out 1 rfl
  have pc2 := at_row P3.out 2 rfl
  have xc0 := at_row X3.out 0 rfl
  have xc1 := at_row X3.out 1 rfl
  have xc2 := at_row X3.out 2 rfl
  go_wp2_with (go_at_call 28; refine (rAt6_at t s k x y v e0 a n c _ t0 t1 s0 s1 h).mono ?_)
  rintro e w4 ⟨rfl, b⟩
  have T4 := hid (T3.out.below (Nat.le_refl _) b)
  have B4 := hid (B3.out.trans (b.mono B3.out.size))
  have P4 := hid (row_below P3.out b)
  have X4 := hid (row_below X3.out b)
  clear T3 B3 b P3 X3 pc0 pc1 pc2 xc0 xc1 xc2
  have pc0 := at_row P4.out 0 rfl
  have pc1 := at_row P4.out 1 rfl
  have pc2 := at_row P4.out 2 rfl
  have xc0 := at_row X4.out 0 rfl
  have xc1 := at_row X4.out 1 rfl
  have xc2 := at_row X4.out 2 rfl
  have cw := lworks_any w4 (HA.out.below B4.out)
  go_wp2_with (first | (go_at_call 13; refine (lnum_any _ _).mono ?_; rintro e w' ⟨rfl, hw⟩; rw [hw]; clear hw) | (go_at_call 9; refine cw.mono ?_; rintro e wz ⟨rfl, bz⟩))
  go_ret
  exact ⟨rfl, B4.out.trans (bz.mono B4.out.size)⟩
theorem layoutAt_any (t s k x y : Int) (a : Option Addr) (n c : Nat) (ss : List ByteArray) (w : World) (hT : IsTab w (.slice a n c) ss) (hA : LAll w) :
    Calls Tryd.prog 6 #[planV t s a n c, partV k x y] w fun e w' => e = .returned (.bool true) ∧ Below w.heap.size w w' := by
  rcases Bool.eq_false_or_eq_true (lvs ss) with hv | hv
  · exact layoutAt_v t s k x y a n c ss w hT hA hv
  rcases Bool.eq_false_or_eq_true (rgt t s ss) with hr | hr
  · exact layoutAt_y t s k x y _ _ a n c ss w hT hA hv hr (hid rfl)
  · exact layoutAt_n t s k x y a n c ss w hT hA hv hr
set_option maxRecDepth 100000 in
set_option maxHeartbeats 8000000 in
theorem layoutApart_v (t s k x y k' x' y' : Int) (a : Option Addr) (n c : Nat) (ss : List ByteArray) (w : World) (hT : IsTab w (.slice a n c) ss) (hA : LAll w) (hv : lvs ss = true) :
    Calls Tryd.prog 7 #[planV t s a n c, partV k x y, partV k' x' y'] w fun e w' => e = .returned (.bool true) ∧ Below w.heap.size w w' := by
  have HA := hid hA
  clear hA
  have cv := fun W h => lvast_any t s a n c ss W h
  simp only [hv] at cv
  have T0 := hid (hT.below (Nat.le_refl _) (bel3 (Below.refl (((w.alloc (aplanO t s a n c)).alloc (.cells #[.int .i64 k, .int .i64 x, .int .i64 y] 45)).alloc (.cells #[.int .i64 k', .int .i64 x', .int .i64 y'] 45)).heap.size (((w.alloc (aplanO t s a n c)).alloc (.cells #[.int .i64 k, .int .i64 x, .int .i64 y] 45)).alloc (.cells #[.int .i64 k', .int .i64 x', .int .i64 y'] 45)))))
  have B0 : Hid (Below w.heap.size w (((w.alloc (aplanO t s a n c)).alloc (.cells #[.int .i64 k, .int .i64 x, .int .i64 y] 45)).alloc (.cells #[.int .i64 k', .int .i64 x', .int .i64 y'] 45))) := hid (bel3 (Below.refl _ _))
  have P0 : Hid ((((w.alloc (aplanO t s a n c)).alloc (.cells #[.int .i64 k, .int .i64 x, .int .i64 y] 45)).alloc (.cells #[.int .i64 k', .int .i64 x', .int .i64 y'] 45)).heap[w.heap.size]? = some (aplanO t s a n c)) := hid (row3a (Below.refl _ _))
  have X0 : Hid ((((w.alloc (aplanO t s a n c)).alloc (.cells #[.int .i64 k, .int .i64 x, .int .i64 y] 45)).alloc (.cells #[.int .i64 k', .int .i64 x', .int .i64 y'] 45)).heap[w.heap.size + 1]? = some (.cells #[.int .i64 k, .int .i64 x, .int .i64 y] 45)) := hid (row3b (Below.refl _ _))
  have Y0 : Hid ((((w.alloc (aplanO t s a n c)).alloc (.cells #[.int .i64 k, .int .i64 x, .int .i64 y] 45)).alloc (.cells #[.int .i64 k', .int .i64 x', .int .i64 y'] 45)).heap[w.heap.size + 1 + 1]? = some (.cells #[.int .i64 k', .int .i64 x', .int .i64 y'] 45)) := hid (row3c (Below.refl _ _))
  clear hT
  go_enter Tryd.func7, Tryd.ntmps7
  go_wp2_with (go_at_call 8; refine (cv _ T0.out).mono ?_)
  rintro e w1 ⟨rfl, b⟩
  have T1 := hid (T0.out.below (Nat.le_refl _) b)
  have B1 := hid (B0.out.trans (b.mono B0.out.size))
  have P1 := hid (row_below P0.out b)
  have X1 := hid (row_below X0.out b)
  have Y1 := hid (row_below Y0.out b)
  clear T0 B0 b P0 X0 Y0 
  have pc0 := at_row P1.out 0 rfl
  have pc1 := at_row P1.out 1 rfl
  have pc2 := at_row P1.out 2 rfl
  have xc0 := at_row X1.out 0 rfl
  have xc1 := at_row X1.out 1 rfl
  have xc2 := at_row X1.out 2 rfl
  have yc0 := at_row Y1.out 0 rfl
  have yc1 := at_row Y1.out 1 rfl
  have yc2 := at_row Y1.out 2 rfl
  have cw := lworks_any w1 (HA.out.below B1.out)
  go_wp2_with (first | (go_at_call 9; refine cw.mono ?_; rintro e wz ⟨rfl, bz⟩))
  go_ret
  exact ⟨rfl, B1.out.trans (bz.mono B1.out.size)⟩
set_option maxRecDepth 100000 in
set_option maxHeartbeats 8000000 in
theorem layoutApart_e (t s k x y k' x' y' v v' e0 e1 : Int) (a : Option Addr) (n c : Nat) (ss : List ByteArray) (w : World) (hT : IsTab w (.slice a n c) ss) (hA : LAll w) (hv : lvs ss = false) (h : Hid (atv t s ss k x y = (v, e0))) (h' : Hid (atv t s ss k' x' y' = (v', e1))) (a0 : 0 ≤ e0) (a1 : e0 ≤ 4) (b0 : 0 ≤ e1) (b1 : e1 ≤ 4) (hne : (e0 + e1 != 0) = true) :
    Calls Tryd.prog 7 #[planV t s a n c, partV k x y, partV k' x' y'] w fun e w' => e = .returned (.bool true) ∧ Below w.heap.size w w' := by
  have HA := hid hA
  clear hA
  have cv := fun W h => lvast_any t s a n c ss W h
  simp only [hv] at cv
  have T0 := hid (hT.below (Nat.le_refl _) (bel3 (Below.refl (((w.alloc (aplanO t s a n c)).alloc (.cells #[.int .i64 k, .int .i64 x, .int .i64 y] 45)).alloc (.cells #[.int .i64 k', .int .i64 x', .int .i64 y'] 45)).heap.size (((w.alloc (aplanO t s a n c)).alloc (.cells #[.int .i64 k, .int .i64 x, .int .i64 y] 45)).alloc (.cells #[.int .i64 k', .int .i64 x', .int .i64 y'] 45)))))
  have B0 : Hid (Below w.heap.size w (((w.alloc (aplanO t s a n c)).alloc (.cells #[.int .i64 k, .int .i64 x, .int .i64 y] 45)).alloc (.cells #[.int .i64 k', .int .i64 x', .int .i64 y'] 45))) := hid (bel3 (Below.refl _ _))
  have P0 : Hid ((((w.alloc (aplanO t s a n c)).alloc (.cells #[.int .i64 k, .int .i64 x, .int .i64 y] 45)).alloc (.cells #[.int .i64 k', .int .i64 x', .int .i64 y'] 45)).heap[w.heap.size]? = some (aplanO t s a n c)) := hid (row3a (Below.refl _ _))
  have X0 : Hid ((((w.alloc (aplanO t s a n c)).alloc (.cells #[.int .i64 k, .int .i64 x, .int .i64 y] 45)).alloc (.cells #[.int .i64 k', .int .i64 x', .int .i64 y'] 45)).heap[w.heap.size + 1]? = some (.cells #[.int .i64 k, .int .i64 x, .int .i64 y] 45)) := hid (row3b (Below.refl _ _))
  have Y0 : Hid ((((w.alloc (aplanO t s a n c)).alloc (.cells #[.int .i64 k, .int .i64 x, .int .i64 y] 45)).alloc (.cells #[.int .i64 k', .int .i64 x', .int .i64 y'] 45)).heap[w.heap.size + 1 + 1]? = some (.cells #[.int .i64 k', .int .i64 x', .int .i64 y'] 45)) := hid (row3c (Below.refl _ _))
  clear hT
  go_enter Tryd.func7, Tryd.ntmps7
  go_wp2_with (go_at_call 8; refine (cv _ T0.out).mono ?_)
  rintro e w1 ⟨rfl, b⟩
  have T1 := hid (T0.out.below (Nat.le_refl _) b)
  have B1 := hid (B0.out.trans (b.mono B0.out.size))
  have P1 := hid (row_below P0.out b)
  have X1 := hid (row_below X0.out b)
  have Y1 := hid (row_below Y0.out b)
  clear T0 B0 b P0 X0 Y0 
  have pc0 := at_row P1.out 0 rfl
  have pc1 := at_row P1.out 1 rfl
  have pc2 := at_row P1.out 2 rfl
  have xc0 := at_row X1.out 0 rfl
  have xc1 := at_row X1.out 1 rfl
  have xc2 := at_row X1.out 2 rfl
  have yc0 := at_row Y1.out 0 rfl
  have yc1 := at_row Y1.out 1 rfl
  have yc2 := at_row Y1.out 2 rfl
  go_wp2_with (go_at_call 25; refine (At_at t s k x y v e0 a n c ss _ T1.out (HA.out.below B1.out).nums h).mono ?_)
  rintro e w2 ⟨rfl, b⟩
  have T2 := hid (T1.out.below (Nat.le_refl _) b)
  have B2 := hid (B1.out.trans (b.mono B1.out.size))
  have P2 := hid (row_below P1.out b)
  have X2 := hid (row_below X1.out b)
  have Y2 := hid (row_below Y1.out b)
  clear T1 B1 b P1 X1 Y1 pc0 pc1 pc2 xc0 xc1 xc2 yc0 yc1 yc2
  have pc0 := at_row P2.out 0 rfl
  have pc1 := at_row P2.out 1 rfl
  have pc2 := at_row P2.out 2 rfl
  have xc0 := at_row X2.out 0 rfl
  have xc1 := at_row X2.out 1 rfl
  have xc2 := at_row X2.out 2 rfl
  have yc0 := at_row Y2.out 0 rfl
  have yc1 := at_row Y2.out 1 rfl
  have yc2 := at_row Y2.out 2 rfl
  go_wp2_with (go_at_call 25; refine (At_at t s k' x' y' v' e1 a n c ss _ T2.out (HA.out.below B2.out).nums h').mono ?_)
  rintro e w3 ⟨rfl, b⟩
  have T3 := hid (T2.out.below (Nat.le_refl _) b)
  have B3 := hid (B2.out.trans (b.mono B2.out.size))
  have P3 := hid (row_below P2.out b)
  have X3 := hid (row_below X2.out b)
  have Y3 := hid (row_below Y2.out b)
  clear T2 B2 b P2 X2 Y2 pc0 pc1 pc2 xc0 xc1 xc2 yc0 yc1 yc2
  have pc0 := at_row P3.out 0 rfl
  have pc1 := at_row P3.out 1 rfl
  have pc2 := at_row P3.out 2 rfl
  have xc0 := at_row X3.out 0 rfl
  have xc1 := at_row X3.out 1 rfl
  have xc2 := at_row X3.out 2 rfl
  have yc0 := at_row Y3.out 0 rfl
  have yc1 := at_row Y3.out 1 rfl
  have yc2 := at_row Y3.out 2 rfl
  have cw := lworks_any w3 (HA.out.below B3.out)
  go_wp2_with (first | (go_at_call 13; refine (lnum_any _ _).mono ?_; rintro e w' ⟨rfl, hw⟩; rw [hw]; clear hw) | (go_at_call 9; refine cw.mono ?_; rintro e wz ⟨rfl, bz⟩))
  go_ret
  exact ⟨rfl, B3.out.trans (bz.mono B3.out.size)⟩
set_option maxRecDepth 100000 in
set_option maxHeartbeats 8000000 in
theorem layoutApart_same (t s k x y v : Int) (a : Option Addr) (n c : Nat) (ss : List ByteArray) (w : World) (hT : IsTab w (.slice a n c) ss) (hA : LAll w) (hv : lvs ss = false) (h : Hid (atv t s ss k x y = (v, 0))) (hk : Hid ((k != 6) = true ∨ ((k != 6) = false ∧ 0 < v))) :
    Calls Tryd.prog 7 #[planV t s a n c, partV k x y, partV k x y] w fun e w' => e = .returned (.bool true) ∧ Below w.heap.size w w' := by
  have HA := hid hA
  clear hA
  have cv := fun W h => lvast_any t s a n c ss W h
  simp only [hv] at cv
  have T0 := hid (hT.below (Nat.le_refl _) (bel3 (Below.refl (((w.alloc (aplanO t s a n c)).alloc (.cells #[.int .i64 k, .int .i64 x, .int .i64 y] 45)).alloc (.cells #[.int .i64 k, .int .i64 x, .int .i64 y] 45)).heap.size (((w.alloc (aplanO t s a n c)).alloc (.cells #[.int .i64 k, .int .i64 x, .int .i64 y] 45)).alloc (.cells #[.int .i64 k, .int .i64 x, .int .i64 y] 45)))))
  have B0 : Hid (Below w.heap.size w (((w.alloc (aplanO t s a n c)).alloc (.cells #[.int .i64 k, .int .i64 x, .int .i64 y] 45)).alloc (.cells #[.int .i64 k, .int .i64 x, .int .i64 y] 45))) := hid (bel3 (Below.refl _ _))
  have P0 : Hid ((((w.alloc (aplanO t s a n c)).alloc (.cells #[.int .i64 k, .int .i64 x, .int .i64 y] 45)).alloc (.cells #[.int .i64 k, .int .i64 x, .int .i64 y] 45)).heap[w.heap.size]? = some (aplanO t s a n c)) := hid (row3a (Below.refl _ _))
  have X0 : Hid ((((w.alloc (aplanO t s a n c)).alloc (.cells #[.int .i64 k, .int .i64 x, .int .i64 y] 45)).alloc (.cells #[.int .i64 k, .int .i64 x, .int .i64 y] 45)).heap[w.heap.size + 1]? = some (.cells #[.int .i64 k, .int .i64 x, .int .i64 y] 45)) := hid (row3b (Below.refl _ _))
  have Y0 : Hid ((((w.alloc (aplanO t s a n c)).alloc (.cells #[.int .i64 k, .int .i64 x, .int .i64 y] 45)).alloc (.cells #[.int .i64 k, .int .i64 x, .int .i64 y] 45)).heap[w.heap.size + 1 + 1]? = some (.cells #[.int .i64 k, .int .i64 x, .int .i64 y] 45)) := hid (row3c (Below.refl _ _))
  clear hT
  go_enter Tryd.func7, Tryd.ntmps7
  go_wp2_with (go_at_call 8; refine (cv _ T0.out).mono ?_)
  rintro e w1 ⟨rfl, b⟩
  have T1 := hid (T0.out.below (Nat.le_refl _) b)
  have B1 := hid (B0.out.trans (b.mono B0.out.size))
  have P1 := hid (row_below P0.out b)
  have X1 := hid (row_below X0.out b)
  have Y1 := hid (row_below Y0.out b)
  clear T0 B0 b P0 X0 Y0 
  have pc0 := at_row P1.out 0 rfl
  have pc1 := at_row P1.out 1 rfl
  have pc2 := at_row P1.out 2 rfl
  have xc0 := at_row X1.out 0 rfl
  have xc1 := at_row X1.out 1 rfl
  have xc2 := at_row X1.out 2 rfl
  have yc0 := at_row Y1.out 0 rfl
  have yc1 := at_row Y1.out 1 rfl
  have yc2 := at_row Y1.out 2 rfl
  go_wp2_with (go_at_call 25; refine (At_at t s k x y v 0 a n c ss _ T1.out (HA.out.below B1.out).nums h).mono ?_)
  rintro e w2 ⟨rfl, b⟩
  have T2 := hid (T1.out.below (Nat.le_refl _) b)
  have B2 := hid (B1.out.trans (b.mono B1.out.size))
  have P2 := hid (row_below P1.out b)
  have X2 := hid (row_below X1.out b)
  have Y2 := hid (row_below Y1.out b)
  clear T1 B1 b P1 X1 Y1 pc0 pc1 pc2 xc0 xc1 xc2 yc0 yc1 yc2
  have pc0 := at_row P2.out 0 rfl
  have pc1 := at_row P2.out 1 rfl
  have pc2 := at_row P2.out 2 rfl
  have xc0 := at_row X2.out 0 rfl
  have xc1 := at_row X2.out 1 rfl
  have xc2 := at_row X2.out 2 rfl
  have yc0 := at_row Y2.out 0 rfl
  have yc1 := at_row Y2.out 1 rfl
  have yc2 := at_row Y2.out 2 rfl
  go_wp2_with (go_at_call 25; refine (At_at t s k x y v 0 a n c ss _ T2.out (HA.out.below B2.out).nums h).mono ?_)
  rintro e w3 ⟨rfl, b⟩
  have T3 := hid (T2.out.below (Nat.le_refl _) b)
  have B3 := hid (B2.out.trans (b.mono B2.out.size))
  have P3 := hid (row_below P2.out b)
  have X3 := hid (row_below X2.out b)
  have Y3 := hid (row_below Y2.out b)
  clear T2 B2 b P2 X2 Y2 pc0 pc1 pc2 xc0 xc1 xc2 yc0 yc1 yc2
  have pc0 := at_row P3.out 0 rfl
  have pc1 := at_row P3.out 1 rfl
  have pc2 := at_row P3.out 2 rfl
  have xc0 := at_row X3.out 0 rfl
  have xc1 := at_row X3.out 1 rfl
  have xc2 := at_row X3.out 2 rfl
  have yc0 := at_row Y3.out 0 rfl
  have yc1 := at_row Y3.out 1 rfl
  have yc2 := at_row Y3.out 2 rfl
  rcases hk.out with hk | ⟨hk, hk2⟩
  · have cw := lworks_any w3 (HA.out.below B3.out)
    go_wp2_with (first | (go_at_call 13; refine (lnum_any _ _).mono ?_; rintro e w' ⟨rfl, hw⟩; rw [hw]; clear hw) | (go_at_call 9; refine cw.mono ?_; rintro e wz ⟨rfl, bz⟩))
    go_ret
    exact ⟨rfl, B3.out.trans (bz.mono B3.out.size)⟩
  · have cw := lworks_any w3 (HA.out.below B3.out)
    go_wp2_with (first | (go_at_call 13; refine (lnum_any _ _).mono ?_; rintro e w' ⟨rfl, hw⟩; rw [hw]; clear hw) | (go_at_call 9; refine cw.mono ?_; rintro e wz ⟨rfl, bz⟩))
    go_ret
    exact ⟨rfl, B3.out.trans (bz.mono B3.out.size)⟩
set_option maxRecDepth 100000 in
set_option maxHeartbeats 8000000 in
theorem layoutApart_diff (t s k x y k' x' y' v v' : Int) (a : Option Addr) (n c : Nat) (ss : List ByteArray) (w : World) (hT : IsTab w (.slice a n c) ss) (hA : LAll w) (hv : lvs ss = false) (h : Hid (atv t s ss k x y = (v, 0))) (h' : Hid (atv t s ss k' x' y' = (v', 0))) (hk : Hid ((k != 6) = true ∨ ((k != 6) = false ∧ 0 < v))) (hne : (v == v') = false) (hp : Hid (¬ (k = k' ∧ x = x' ∧ y = y'))) :
    Calls Tryd.prog 7 #[planV t s a n c, partV k x y, partV k' x' y'] w fun e w' => e = .returned (.bool true) ∧ Below w.heap.size w w' := by
  have HA := hid hA
  clear hA
  have cv := fun W h => lvast_any t s a n c ss W h
  simp only [hv] at cv
  have T0 := hid (hT.below (Nat.le_refl _) (bel3 (Below.refl (((w.alloc (aplanO t s a n c)).alloc (.cells #[.int .i64 k, .int .i64 x, .int .i64 y] 45)).alloc (.cells #[.int .i64 k', .int .i64 x', .int .i64 y'] 45)).heap.size (((w.alloc (aplanO t s a n c)).alloc (.cells #[.int .i64 k, .int .i64 x, .int .i64 y] 45)).alloc (.cells #[.int .i64 k', .int .i64 x', .int .i64 y'] 45)))))
  have B0 : Hid (Below w.heap.size w (((w.alloc (aplanO t s a n c)).alloc (.cells #[.int .i64 k, .int .i64 x, .int .i64 y] 45)).alloc (.cells #[.int .i64 k', .int .i64 x', .int .i64 y'] 45))) := hid (bel3 (Below.refl _ _))
  have P0 : Hid ((((w.alloc (aplanO t s a n c)).alloc (.cells #[.int .i64 k, .int .i64 x, .int .i64 y] 45)).alloc (.cells #[.int .i64 k', .int .i64 x', .int .i64 y'] 45)).heap[w.heap.size]? = some (aplanO t s a n c)) := hid (row3a (Below.refl _ _))
  have X0 : Hid ((((w.alloc (aplanO t s a n c)).alloc (.cells #[.int .i64 k, .int .i64 x, .int .i64 y] 45)).alloc (.cells #[.int .i64 k', .int .i64 x', .int .i64 y'] 45)).heap[w.heap.size + 1]? = some (.cells #[.int .i64 k, .int .i64 x, .int .i64 y] 45)) := hid (row3b (Below.refl _ _))
  have Y0 : Hid ((((w.alloc (aplanO t s a n c)).alloc (.cells #[.int .i64 k, .int .i64 x, .int .i64 y] 45)).alloc (.cells #[.int .i64 k', .int .i64 x', .int .i64 y'] 45)).heap[w.heap.size + 1 + 1]? = some (.cells #[.int .i64 k', .int .i64 x', .int .i64 y'] 45)) := hid (row3c (Below.refl _ _))
  clear hT
  go_enter Tryd.func7, Tryd.ntmps7
  go_wp2_with (go_at_call 8; refine (cv _ T0.out).mono ?_)
  rintro e w1 ⟨rfl, b⟩
  have T1 := hid (T0.out.below (Nat.le_refl _) b)
  have B1 := hid (B0.out.trans (b.mono B0.out.size))
  have P1 := hid (row_below P0.out b)
  have X1 := hid (row_below X0.out b)
  have Y1 := hid (row_below Y0.out b)
  clear T0 B0 b P0 X0 Y0 
  have pc0 := at_row P1.out 0 rfl
  have pc1 := at_row P1.out 1 rfl
  have pc2 := at_row P1.out 2 rfl
  have xc0 := at_row X1.out 0 rfl
  have xc1 := at_row X1.out 1 rfl
  have xc2 := at_row X1.out 2 rfl
  have yc0 := at_row Y1.out 0 rfl
  have yc1 := at_row Y1.out 1 rfl
  have yc2 := at_row Y1.out 2 rfl
  go_wp2_with (go_at_call 25; refine (At_at t s k x y v 0 a n c ss _ T1.out (HA.out.below B1.out).nums h).mono ?_)
  rintro e w2 ⟨rfl, b⟩
  have T2 := hid (T1.out.below (Nat.le_refl _) b)
  have B2 := hid (B1.out.trans (b.mono B1.out.size))
  have P2 := hid (row_below P1.out b)
  have X2 := hid (row_below X1.out b)
  have Y2 := hid (row_below Y1.out b)
  clear T1 B1 b P1 X1 Y1 pc0 pc1 pc2 xc0 xc1 xc2 yc0 yc1 yc2
  have pc0 := at_row P2.out 0 rfl
  have pc1 := at_row P2.out 1 rfl
  have pc2 := at_row P2.out 2 rfl
  have xc0 := at_row X2.out 0 rfl
  have xc1 := at_row X2.out 1 rfl
  have xc2 := at_row X2.out 2 rfl
  have yc0 := at_row Y2.out 0 rfl
  have yc1 := at_row Y2.out 1 rfl
  have yc2 := at_row Y2.out 2 rfl
  go_wp2_with (go_at_call 25; refine (At_at t s k' x' y' v' 0 a n c ss _ T2.out (HA.out.below B2.out).nums h').mono ?_)
  rintro e w3 ⟨rfl, b⟩
  have T3 := hid (T2.out.below (Nat.le_refl _) b)
  have B3 := hid (B2.out.trans (b.mono B2.out.size))
  have P3 := hid (row_below P2.out b)
  have X3 := hid (row_below X2.out b)
  have Y3 := hid (row_below Y2.out b)
  clear T2 B2 b P2 X2 Y2 pc0 pc1 pc2 xc0 xc1 xc2 yc0 yc1 yc2
  have pc0 := at_row P3.out 0 rfl
  have pc1 := at_row P3.out 1 rfl
  have pc2 := at_row P3.out 2 rfl
  have xc0 := at_row X3.out 0 rfl
  have xc1 := at_row X3.out 1 rfl
  have xc2 := at_row X3.out 2 rfl
  have yc0 := at_row Y3.out 0 rfl
  have yc1 := at_row Y3.out 1 rfl
  have yc2 := at_row Y3.out 2 rfl
  by_cases e1 : k = k'
  subst e1
  by_cases e2 : x = x'
  subst e2
  have e3 : ¬ y = y' := fun e3 => hp.out ⟨rfl, rfl, e3⟩
  all_goals (rcases hk.out with hk | ⟨hk, hk2⟩)
  all_goals
    have cw := lworks_any w3 (HA.out.below B3.out)
    go_wp2_with (first | (go_at_call 13; refine (lnum_any _ _).mono ?_; rintro e w' ⟨rfl, hw⟩; rw [hw]; clear hw) | (go_at_call 9; refine cw.mono ?_; rintro e wz ⟨rfl, bz⟩))
    go_ret
    exact ⟨rfl, B3.out.trans (bz.mono B3.out.size)⟩
theorem layoutApart_any (t s k x y k' x' y' : Int) (a : Option Addr) (n c : Nat) (ss : List ByteArray) (w : World) (hT : IsTab w (.slice a n c) ss) (hA : LAll w) :
    Calls Tryd.prog 7 #[planV t s a n c, partV k x y, partV k' x' y'] w fun e w' => e = .returned (.bool true) ∧ Below w.heap.size w w' := by
  rcases Bool.eq_false_or_eq_true (lvs ss) with hv | hv
  · exact layoutApart_v t s k x y k' x' y' a n c ss w hT hA hv
  obtain ⟨v, e0, h⟩ : ∃ v e0, atv t s ss k x y = (v, e0) := ⟨_, _, rfl⟩
  obtain ⟨v', e1, h'⟩ : ∃ v' e1, atv t s ss k' x' y' = (v', e1) := ⟨_, _, rfl⟩
  have ee : e0 = 0 ∨ e0 = 2 ∨ e0 = 4 := by
    unfold atv at h
    split at h
    · exact (av_err _ _ _ _ _ _ _ h).1
    · simp at h; omega
  have ff : e1 = 0 ∨ e1 = 2 ∨ e1 = 4 := by
    unfold atv at h'
    split at h'
    · exact (av_err _ _ _ _ _ _ _ h').1
    · simp at h'; omega
  by_cases hz : e0 + e1 = 0
  · obtain rfl : e0 = 0 := by omega
    obtain rfl : e1 = 0 := by omega
    have hr : rgt t s ss = true := by
      unfold atv at h
      split at h
      · assumption
      · simp at h
    obtain ⟨t0, t1, s0, s1, _⟩ := rgt_yes hr
    have g := h
    have g' := h'
    unfold atv at g g'
    rw [if_pos hr] at g g'
    have hj := av_inj t0 s0 g g' rfl rfl
    have hk : (k != 6) = true ∨ ((k != 6) = false ∧ 0 < v) := by
      by_cases hk : k = 6
      · right
        have := av_yes g rfl t0 s0
        exact ⟨by simpa using hk, by omega⟩
      · left; simpa using hk
    by_cases hp : k = k' ∧ x = x' ∧ y = y'
    · obtain ⟨rfl, rfl, rfl⟩ := hp
      exact layoutApart_same t s k x y v a n c ss w hT hA hv (hid h) (hid hk)
    · exact layoutApart_diff t s k x y k' x' y' v v' a n c ss w hT hA hv (hid h) (hid h') (hid hk) (by simpa using (fun e => hp (hj.1 e))) (hid hp)
  · exact layoutApart_e t s k x y k' x' y' v v' e0 e1 a n c ss w hT hA hv (hid h) (hid h') (by omega) (by omega) (by omega) (by omega) (by simpa using hz)
set_option maxRecDepth 100000 in
set_option maxHeartbeats 8000000 in
theorem layoutPlaces_v (t s m : Int) (a : Option Addr) (n c : Nat) (ss : List ByteArray) (w : World) (hT : IsTab w (.slice a n c) ss) (hA : LAll w) (hv : lvs ss = true) :
    Calls Tryd.prog 4 #[planV t s a n c, .int .i64 m] w fun e w' => e = .returned (.bool true) ∧ Below w.heap.size w w' := by
  have HA := hid hA
  clear hA
  have cv := fun W h => lvast_any t s a n c ss W h
  simp only [hv] at cv
  have T0 := hid (hT.below (Nat.le_refl _) (bel1 (Below.refl (w.alloc (aplanO t s a n c)).heap.size (w.alloc (aplanO t s a n c)))))
  have B0 : Hid (Below w.heap.size w (w.alloc (aplanO t s a n c))) := hid (bel1 (Below.refl _ _))
  have P0 : Hid ((w.alloc (aplanO t s a n c)).heap[w.heap.size]? = some (aplanO t s a n c)) := hid (row1 (Below.refl _ _))
  clear hT
  go_enter Tryd.func4, Tryd.ntmps4
  go_wp2_with (go_at_call 8; refine (cv _ T0.out).mono ?_)
  rintro e w1 ⟨rfl, b⟩
  have T1 := hid (T0.out.below (Nat.le_refl _) b)
  have B1 := hid (B0.out.trans (b.mono B0.out.size))
  have P1 := hid (row_below P0.out b)
  clear T0 B0 b P0 
  have pc0 := at_row P1.out 0 rfl
  have pc1 := at_row P1.out 1 rfl
  have pc2 := at_row P1.out 2 rfl
  have cw := lworks_any w1 (HA.out.below B1.out)
  go_wp2_with (first | (go_at_call 9; refine cw.mono ?_; rintro e wz ⟨rfl, bz⟩))
  go_ret
  exact ⟨rfl, B1.out.trans (bz.mono B1.out.size)⟩
set_option maxRecDepth 100000 in
set_option maxHeartbeats 8000000 in
theorem layoutPlaces_n (t s m : Int) (a : Option Addr) (n c : Nat) (ss : List ByteArray) (w : World) (hT : IsTab w (.slice a n c) ss) (hA : LAll w) (hv : lvs ss = false) (hr : rgt t s ss = false) :
    Calls Tryd.prog 4 #[planV t s a n c, .int .i64 m] w fun e w' => e = .returned (.bool true) ∧ Below w.heap.size w w' := by
  have HA := hid hA
  clear hA
  have cv := fun W h => lvast_any t s a n c ss W h
  simp only [hv] at cv
  have T0 := hid (hT.below (Nat.le_refl _) (bel1 (Below.refl (w.alloc (aplanO t s a n c)).heap.size (w.alloc (aplanO t s a n c)))))
  have B0 : Hid (Below w.heap.size w (w.alloc (aplanO t s a n c))) := hid (bel1 (Below.refl _ _))
  have P0 : Hid ((w.alloc (aplanO t s a n c)).heap[w.heap.size]? = some (aplanO t s a n c)) := hid (row1 (Below.refl _ _))
  clear hT
  go_enter Tryd.func4, Tryd.ntmps4
  go_wp2_with (go_at_call 8; refine (cv _ T0.out).mono ?_)
  rintro e w1 ⟨rfl, b⟩
  have T1 := hid (T0.out.below (Nat.le_refl _) b)
  have B1 := hid (B0.out.trans (b.mono B0.out.size))
  have P1 := hid (row_below P0.out b)
  clear T0 B0 b P0 
  have pc0 := at_row P1.out 0 rfl
  have pc1 := at_row P1.out 1 rfl
  have pc2 := at_row P1.out 2 rfl
  go_wp2_with (go_at_call 17; refine (Ack_at t s m 0 2 a n c ss _ T1.out (HA.out.below B1.out).nums (hid (by unfold atv; rw [if_neg (by simp [hr])]))).mono ?_)
  rintro e w2 ⟨rfl, b⟩
  have T2 := hid (T1.out.below (Nat.le_refl _) b)
  have B2 := hid (B1.out.trans (b.mono B1.out.size))
  have P2 := hid (row_below P1.out b)
  clear T1 B1 b P1 pc0 pc1 pc2
  have pc0 := at_row P2.out 0 rfl
  have pc1 := at_row P2.out 1 rfl
  have pc2 := at_row P2.out 2 rfl
  go_wp2_with (go_at_call 18; refine (List_at t s m 0 2 a n c ss _ T2.out (HA.out.below B2.out).nums (hid (by unfold atv; rw [if_neg (by simp [hr])]))).mono ?_)
  rintro e w3 ⟨rfl, b⟩
  have T3 := hid (T2.out.below (Nat.le_refl _) b)
  have B3 := hid (B2.out.trans (b.mono B2.out.size))
  have P3 := hid (row_below P2.out b)
  clear T2 B2 b P2 pc0 pc1 pc2
  have pc0 := at_row P3.out 0 rfl
  have pc1 := at_row P3.out 1 rfl
  have pc2 := at_row P3.out 2 rfl
  go_wp2_with (go_at_call 19; refine (Base_at t s m 0 2 a n c ss _ T3.out (HA.out.below B3.out).nums (hid (by unfold atv; rw [if_neg (by simp [hr])]))).mono ?_)
  rintro e w4 ⟨rfl, b⟩
  have T4 := hid (T3.out.below (Nat.le_refl _) b)
  have B4 := hid (B3.out.trans (b.mono B3.out.size))
  have P4 := hid (row_below P3.out b)
  clear T3 B3 b P3 pc0 pc1 pc2
  have pc0 := at_row P4.out 0 rfl
  have pc1 := at_row P4.out 1 rfl
  have pc2 := at_row P4.out 2 rfl
  go_wp2_with (go_at_call 12; refine (rgt6_at t s a n c ss _ false T4.out (hid hr)).mono ?_)
  rintro e w5 ⟨rfl, b⟩
  have T5 := hid (T4.out.below (Nat.le_refl _) b)
  have B5 := hid (B4.out.trans (b.mono B4.out.size))
  have P5 := hid (row_below P4.out b)
  clear T4 B4 b P4 pc0 pc1 pc2
  have pc0 := at_row P5.out 0 rfl
  have pc1 := at_row P5.out 1 rfl
  have pc2 := at_row P5.out 2 rfl
  have cw := lworks_any w5 (HA.out.below B5.out)
  go_wp2_with (first | (go_at_call 13; refine (lnum_any _ _).mono ?_; rintro e w' ⟨rfl, hw⟩; rw [hw]; clear hw) | (go_at_call 9; refine cw.mono ?_; rintro e wz ⟨rfl, bz⟩))
  go_ret
  exact ⟨rfl, B5.out.trans (bz.mono B5.out.size)⟩
set_option maxRecDepth 100000 in
set_option maxHeartbeats 8000000 in
theorem layoutPlaces_lo (t s m : Int) (a : Option Addr) (n c : Nat) (ss : List ByteArray) (w : World) (hT : IsTab w (.slice a n c) ss) (hA : LAll w) (hv : lvs ss = false) (hr : rgt t s ss = true) (hm : m < 0) (hm2 : (m != 0) = true) (hm3 : (m != 1) = true) (h4 : Hid (av t s 4 m 0 = (0, 4))) (h5 : Hid (av t s 5 m 0 = (0, 4))) (h6 : Hid (av t s 6 m 0 = (0, 4))) :
    Calls Tryd.prog 4 #[planV t s a n c, .int .i64 m] w fun e w' => e = .returned (.bool true) ∧ Below w.heap.size w w' := by
  have HA := hid hA
  clear hA
  have cv := fun W h => lvast_any t s a n c ss W h
  simp only [hv] at cv
  obtain ⟨t0, t1, s0, s1, _⟩ := rgt_yes hr
  have hr := hid hr
  have T0 := hid (hT.below (Nat.le_refl _) (bel1 (Below.refl (w.alloc (aplanO t s a n c)).heap.size (w.alloc (aplanO t s a n c)))))
  have B0 : Hid (Below w.heap.size w (w.alloc (aplanO t s a n c))) := hid (bel1 (Below.refl _ _))
  have P0 : Hid ((w.alloc (aplanO t s a n c)).heap[w.heap.size]? = some (aplanO t s a n c)) := hid (row1 (Below.refl _ _))
  clear hT
  go_enter Tryd.func4, Tryd.ntmps4
  go_wp2_with (go_at_call 8; refine (cv _ T0.out).mono ?_)
  rintro e w1 ⟨rfl, b⟩
  have T1 := hid (T0.out.below (Nat.le_refl _) b)
  have B1 := hid (B0.out.trans (b.mono B0.out.size))
  have P1 := hid (row_below P0.out b)
  clear T0 B0 b P0 
  have pc0 := at_row P1.out 0 rfl
  have pc1 := at_row P1.out 1 rfl
  have pc2 := at_row P1.out 2 rfl
  go_wp2_with (go_at_call 17; refine (Ack_at t s m 0 4 a n c ss _ T1.out (HA.out.below B1.out).nums (hid (by unfold atv; rw [if_pos hr.out]; exact h4.out))).mono ?_)
  rintro e w2 ⟨rfl, b⟩
  have T2 := hid (T1.out.below (Nat.le_refl _) b)
  have B2 := hid (B1.out.trans (b.mono B1.out.size))
  have P2 := hid (row_below P1.out b)
  clear T1 B1 b P1 pc0 pc1 pc2
  have pc0 := at_row P2.out 0 rfl
  have pc1 := at_row P2.out 1 rfl
  have pc2 := at_row P2.out 2 rfl
  go_wp2_with (go_at_call 18; refine (List_at t s m 0 4 a n c ss _ T2.out (HA.out.below B2.out).nums (hid (by unfold atv; rw [if_pos hr.out]; exact h5.out))).mono ?_)
  rintro e w3 ⟨rfl, b⟩
  have T3 := hid (T2.out.below (Nat.le_refl _) b)
  have B3 := hid (B2.out.trans (b.mono B2.out.size))
  have P3 := hid (row_below P2.out b)
  clear T2 B2 b P2 pc0 pc1 pc2
  have pc0 := at_row P3.out 0 rfl
  have pc1 := at_row P3.out 1 rfl
  have pc2 := at_row P3.out 2 rfl
  go_wp2_with (go_at_call 19; refine (Base_at t s m 0 4 a n c ss _ T3.out (HA.out.below B3.out).nums (hid (by unfold atv; rw [if_pos hr.out]; exact h6.out))).mono ?_)
  rintro e w4 ⟨rfl, b⟩
  have T4 := hid (T3.out.below (Nat.le_refl _) b)
  have B4 := hid (B3.out.trans (b.mono B3.out.size))
  have P4 := hid (row_below P3.out b)
  clear T3 B3 b P3 pc0 pc1 pc2
  have pc0 := at_row P4.out 0 rfl
  have pc1 := at_row P4.out 1 rfl
  have pc2 := at_row P4.out 2 rfl
  go_wp2_with (go_at_call 12; refine (rgt6_at t s a n c ss _ true T4.out (hid hr.out)).mono ?_)
  rintro e w5 ⟨rfl, b⟩
  have T5 := hid (T4.out.below (Nat.le_refl _) b)
  have B5 := hid (B4.out.trans (b.mono B4.out.size))
  have P5 := hid (row_below P4.out b)
  clear T4 B4 b P4 pc0 pc1 pc2
  have pc0 := at_row P5.out 0 rfl
  have pc1 := at_row P5.out 1 rfl
  have pc2 := at_row P5.out 2 rfl
  have cw := lworks_any w5 (HA.out.below B5.out)
  go_wp2_with (first | (go_at_call 13; refine (lnum_any _ _).mono ?_; rintro e w' ⟨rfl, hw⟩; rw [hw]; clear hw) | (go_at_call 9; refine cw.mono ?_; rintro e wz ⟨rfl, bz⟩))
  go_ret
  exact ⟨rfl, B5.out.trans (bz.mono B5.out.size)⟩
set_option maxRecDepth 100000 in
set_option maxHeartbeats 8000000 in
theorem layoutPlaces_hi (t s m : Int) (a : Option Addr) (n c : Nat) (ss : List ByteArray) (w : World) (hT : IsTab w (.slice a n c) ss) (hA : LAll w) (hv : lvs ss = false) (hr : rgt t s ss = true) (hm0 : 0 ≤ m) (hm : t ≤ m) (hm2 : (m != 0) = true) (hm3 : (m != 1) = true) (h4 : Hid (av t s 4 m 0 = (0, 4))) (h5 : Hid (av t s 5 m 0 = (0, 4))) (h6 : Hid (av t s 6 m 0 = (0, 4))) :
    Calls Tryd.prog 4 #[planV t s a n c, .int .i64 m] w fun e w' => e = .returned (.bool true) ∧ Below w.heap.size w w' := by
  have HA := hid hA
  clear hA
  have cv := fun W h => lvast_any t s a n c ss W h
  simp only [hv] at cv
  obtain ⟨t0, t1, s0, s1, _⟩ := rgt_yes hr
  have hr := hid hr
  have T0 := hid (hT.below (Nat.le_refl _) (bel1 (Below.refl (w.alloc (aplanO t s a n c)).heap.size (w.alloc (aplanO t s a n c)))))
  have B0 : Hid (Below w.heap.size w (w.alloc (aplanO t s a n c))) := hid (bel1 (Below.refl _ _))
  have P0 : Hid ((w.alloc (aplanO t s a n c)).heap[w.heap.size]? = some (aplanO t s a n c)) := hid (row1 (Below.refl _ _))
  clear hT
  go_enter Tryd.func4, Tryd.ntmps4
  go_wp2_with (go_at_call 8; refine (cv _ T0.out).mono ?_)
  rintro e w1 ⟨rfl, b⟩
  have T1 := hid (T0.out.below (Nat.le_refl _) b)
  have B1 := hid (B0.out.trans (b.mono B0.out.size))
  have P1 := hid (row_below P0.out b)
  clear T0 B0 b P0 
  have pc0 := at_row P1.out 0 rfl
  have pc1 := at_row P1.out 1 rfl
  have pc2 := at_row P1.out 2 rfl
  go_wp2_with (go_at_call 17; refine (Ack_at t s m 0 4 a n c ss _ T1.out (HA.out.below B1.out).nums (hid (by unfold atv; rw [if_pos hr.out]; exact h4.out))).mono ?_)
  rintro e w2 ⟨rfl, b⟩
  have T2 := hid (T1.out.below (Nat.le_refl _) b)
  have B2 := hid (B1.out.trans (b.mono B1.out.size))
  have P2 := hid (row_below P1.out b)
  clear T1 B1 b P1 pc0 pc1 pc2
  have pc0 := at_row P2.out 0 rfl
  have pc1 := at_row P2.out 1 rfl
  have pc2 := at_row P2.out 2 rfl
  go_wp2_with (go_at_call 18; refine (List_at t s m 0 4 a n c ss _ T2.out (HA.out.below B2.out).nums (hid (by unfold atv; rw [if_pos hr.out]; exact h5.out))).mono ?_)
  rintro e w3 ⟨rfl, b⟩
  have T3 := hid (T2.out.below (Nat.le_refl _) b)
  have B3 := hid (B2.out.trans (b.mono B2.out.size))
  have P3 := hid (row_below P2.out b)
  clear T2 B2 b P2 pc0 pc1 pc2
  have pc0 := at_row P3.out 0 rfl
  have pc1 := at_row P3.out 1 rfl
  have pc2 := at_row P3.out 2 rfl
  go_wp2_with (go_at_call 19; refine (Base_at t s m 0 4 a n c ss _ T3.out (HA.out.below B3.out).nums (hid (by unfold atv; rw [if_pos hr.out]; exact h6.out))).mono ?_)
  rintro e w4 ⟨rfl, b⟩
  have T4 := hid (T3.out.below (Nat.le_refl _) b)
  have B4 := hid (B3.out.trans (b.mono B3.out.size))
  have P4 := hid (row_below P3.out b)
  clear T3 B3 b P3 pc0 pc1 pc2
  have pc0 := at_row P4.out 0 rfl
  have pc1 := at_row P4.out 1 rfl
  have pc2 := at_row P4.out 2 rfl
  go_wp2_with (go_at_call 12; refine (rgt6_at t s a n c ss _ true T4.out (hid hr.out)).mono ?_)
  rintro e w5 ⟨rfl, b⟩
  have T5 := hid (T4.out.below (Nat.le_refl _) b)
  have B5 := hid (B4.out.trans (b.mono B4.out.size))
  have P5 := hid (row_below P4.out b)
  clear T4 B4 b P4 pc0 pc1 pc2
  have pc0 := at_row P5.out 0 rfl
  have pc1 := at_row P5.out 1 rfl
  have pc2 := at_row P5.out 2 rfl
  have cw := lworks_any w5 (HA.out.below B5.out)
  go_wp2_with (first | (go_at_call 13; refine (lnum_any _ _).mono ?_; rintro e w' ⟨rfl, hw⟩; rw [hw]; clear hw) | (go_at_call 9; refine cw.mono ?_; rintro e wz ⟨rfl, bz⟩))
  go_ret
  exact ⟨rfl, B5.out.trans (bz.mono B5.out.size)⟩
set_option maxRecDepth 100000 in
set_option maxHeartbeats 8000000 in
theorem layoutPlaces_hi1 (t s : Int) (a : Option Addr) (n c : Nat) (ss : List ByteArray) (w : World) (hT : IsTab w (.slice a n c) ss) (hA : LAll w) (hv : lvs ss = false) (hr : rgt t s ss = true) (hm : t ≤ 1) (h4 : Hid (av t s 4 1 0 = (0, 4))) (h5 : Hid (av t s 5 1 0 = (0, 4))) (h6 : Hid (av t s 6 1 0 = ((3 + t + t + s), 0))) :
    Calls Tryd.prog 4 #[planV t s a n c, .int .i64 1] w fun e w' => e = .returned (.bool true) ∧ Below w.heap.size w w' := by
  have HA := hid hA
  clear hA
  have cv := fun W h => lvast_any t s a n c ss W h
  simp only [hv] at cv
  obtain ⟨t0, t1, s0, s1, _⟩ := rgt_yes hr
  have hr := hid hr
  have T0 := hid (hT.below (Nat.le_refl _) (bel1 (Below.refl (w.alloc (aplanO t s a n c)).heap.size (w.alloc (aplanO t s a n c)))))
  have B0 : Hid (Below w.heap.size w (w.alloc (aplanO t s a n c))) := hid (bel1 (Below.refl _ _))
  have P0 : Hid ((w.alloc (aplanO t s a n c)).heap[w.heap.size]? = some (aplanO t s a n c)) := hid (row1 (Below.refl _ _))
  clear hT
  go_enter Tryd.func4, Tryd.ntmps4
  go_wp2_with (go_at_call 8; refine (cv _ T0.out).mono ?_)
  rintro e w1 ⟨rfl, b⟩
  have T1 := hid (T0.out.below (Nat.le_refl _) b)
  have B1 := hid (B0.out.trans (b.mono B0.out.size))
  have P1 := hid (row_below P0.out b)
  clear T0 B0 b P0 
  have pc0 := at_row P1.out 0 rfl
  have pc1 := at_row P1.out 1 rfl
  have pc2 := at_row P1.out 2 rfl
  go_wp2_with (go_at_call 17; refine (Ack_at t s 1 0 4 a n c ss _ T1.out (HA.out.below B1.out).nums (hid (by unfold atv; rw [if_pos hr.out]; exact h4.out))).mono ?_)
  rintro e w2 ⟨rfl, b⟩
  have T2 := hid (T1.out.below (Nat.le_refl _) b)
  have B2 := hid (B1.out.trans (b.mono B1.out.size))
  have P2 := hid (row_below P1.out b)
  clear T1 B1 b P1 pc0 pc1 pc2
  have pc0 := at_row P2.out 0 rfl
  have pc1 := at_row P2.out 1 rfl
  have pc2 := at_row P2.out 2 rfl
  go_wp2_with (go_at_call 18; refine (List_at t s 1 0 4 a n c ss _ T2.out (HA.out.below B2.out).nums (hid (by unfold atv; rw [if_pos hr.out]; exact h5.out))).mono ?_)
  rintro e w3 ⟨rfl, b⟩
  have T3 := hid (T2.out.below (Nat.le_refl _) b)
  have B3 := hid (B2.out.trans (b.mono B2.out.size))
  have P3 := hid (row_below P2.out b)
  clear T2 B2 b P2 pc0 pc1 pc2
  have pc0 := at_row P3.out 0 rfl
  have pc1 := at_row P3.out 1 rfl
  have pc2 := at_row P3.out 2 rfl
  go_wp2_with (go_at_call 19; refine (Base_at t s 1 (3 + t + t + s) 0 a n c ss _ T3.out (HA.out.below B3.out).nums (hid (by unfold atv; rw [if_pos hr.out]; exact h6.out))).mono ?_)
  rintro e w4 ⟨rfl, b⟩
  have T4 := hid (T3.out.below (Nat.le_refl _) b)
  have B4 := hid (B3.out.trans (b.mono B3.out.size))
  have P4 := hid (row_below P3.out b)
  clear T3 B3 b P3 pc0 pc1 pc2
  have pc0 := at_row P4.out 0 rfl
  have pc1 := at_row P4.out 1 rfl
  have pc2 := at_row P4.out 2 rfl
  go_wp2_with (go_at_call 12; refine (rgt6_at t s a n c ss _ true T4.out (hid hr.out)).mono ?_)
  rintro e w5 ⟨rfl, b⟩
  have T5 := hid (T4.out.below (Nat.le_refl _) b)
  have B5 := hid (B4.out.trans (b.mono B4.out.size))
  have P5 := hid (row_below P4.out b)
  clear T4 B4 b P4 pc0 pc1 pc2
  have pc0 := at_row P5.out 0 rfl
  have pc1 := at_row P5.out 1 rfl
  have pc2 := at_row P5.out 2 rfl
  go_wp2_with (first | (go_at_call 13; refine (lnum_any _ _).mono ?_; rintro e w' ⟨rfl, hw⟩; rw [hw]; clear hw) | (go_at_call 22; refine (rBase6_1 t s a n c _ t0 t1 s0 s1).mono ?_))
  rintro e w6 ⟨rfl, b⟩
  have T6 := hid (T5.out.below (Nat.le_refl _) b)
  have B6 := hid (B5.out.trans (b.mono B5.out.size))
  have P6 := hid (row_below P5.out b)
  clear T5 B5 b P5 pc0 pc1 pc2
  have pc0 := at_row P6.out 0 rfl
  have pc1 := at_row P6.out 1 rfl
  have pc2 := at_row P6.out 2 rfl
  have cw := lworks_any w6 (HA.out.below B6.out)
  go_wp2_with (first | (go_at_call 13; refine (lnum_any _ _).mono ?_; rintro e w' ⟨rfl, hw⟩; rw [hw]; clear hw) | (go_at_call 9; refine cw.mono ?_; rintro e wz ⟨rfl, bz⟩))
  go_ret
  exact ⟨rfl, B6.out.trans (bz.mono B6.out.size)⟩
set_option maxRecDepth 100000 in
set_option maxHeartbeats 8000000 in
theorem layoutPlaces_in (t s m : Int) (a : Option Addr) (n c : Nat) (ss : List ByteArray) (w : World) (hT : IsTab w (.slice a n c) ss) (hA : LAll w) (hv : lvs ss = false) (hr : rgt t s ss = true) (hm0 : 0 ≤ m) (hm : m < t) (hm2 : (m != 0) = true) (hm3 : (m != 1) = true) (h4 : Hid (av t s 4 m 0 = ((3 + m), 0))) (h5 : Hid (av t s 5 m 0 = ((3 + t + m), 0))) (h6 : Hid (av t s 6 m 0 = (0, 4))) :
    Calls Tryd.prog 4 #[planV t s a n c, .int .i64 m] w fun e w' => e = .returned (.bool true) ∧ Below w.heap.size w w' := by
  have HA := hid hA
  clear hA
  have cv := fun W h => lvast_any t s a n c ss W h
  simp only [hv] at cv
  obtain ⟨t0, t1, s0, s1, _⟩ := rgt_yes hr
  have hr := hid hr
  have T0 := hid (hT.below (Nat.le_refl _) (bel1 (Below.refl (w.alloc (aplanO t s a n c)).heap.size (w.alloc (aplanO t s a n c)))))
  have B0 : Hid (Below w.heap.size w (w.alloc (aplanO t s a n c))) := hid (bel1 (Below.refl _ _))
  have P0 : Hid ((w.alloc (aplanO t s a n c)).heap[w.heap.size]? = some (aplanO t s a n c)) := hid (row1 (Below.refl _ _))
  clear hT
  go_enter Tryd.func4, Tryd.ntmps4
  go_wp2_with (go_at_call 8; refine (cv _ T0.out).mono ?_)
  rintro e w1 ⟨rfl, b⟩
  have T1 := hid (T0.out.below (Nat.le_refl _) b)
  have B1 := hid (B0.out.trans (b.mono B0.out.size))
  have P1 := hid (row_below P0.out b)
  clear T0 B0 b P0 
  have pc0 := at_row P1.out 0 rfl
  have pc1 := at_row P1.out 1 rfl
  have pc2 := at_row P1.out 2 rfl
  go_wp2_with (go_at_call 17; refine (Ack_at t s m (3 + m) 0 a n c ss _ T1.out (HA.out.below B1.out).nums (hid (by unfold atv; rw [if_pos hr.out]; exact h4.out))).mono ?_)
  rintro e w2 ⟨rfl, b⟩
  have T2 := hid (T1.out.below (Nat.le_refl _) b)
  have B2 := hid (B1.out.trans (b.mono B1.out.size))
  have P2 := hid (row_below P1.out b)
  clear T1 B1 b P1 pc0 pc1 pc2
  have pc0 := at_row P2.out 0 rfl
  have pc1 := at_row P2.out 1 rfl
  have pc2 := at_row P2.out 2 rfl
  go_wp2_with (go_at_call 18; refine (List_at t s m (3 + t + m) 0 a n c ss _ T2.out (HA.out.below B2.out).nums (hid (by unfold atv; rw [if_pos hr.out]; exact h5.out))).mono ?_)
  rintro e w3 ⟨rfl, b⟩
  have T3 := hid (T2.out.below (Nat.le_refl _) b)
  have B3 := hid (B2.out.trans (b.mono B2.out.size))
  have P3 := hid (row_below P2.out b)
  clear T2 B2 b P2 pc0 pc1 pc2
  have pc0 := at_row P3.out 0 rfl
  have pc1 := at_row P3.out 1 rfl
  have pc2 := at_row P3.out 2 rfl
  go_wp2_with (go_at_call 19; refine (Base_at t s m 0 4 a n c ss _ T3.out (HA.out.below B3.out).nums (hid (by unfold atv; rw [if_pos hr.out]; exact h6.out))).mono ?_)
  rintro e w4 ⟨rfl, b⟩
  have T4 := hid (T3.out.below (Nat.le_refl _) b)
  have B4 := hid (B3.out.trans (b.mono B3.out.size))
  have P4 := hid (row_below P3.out b)
  clear T3 B3 b P3 pc0 pc1 pc2
  have pc0 := at_row P4.out 0 rfl
  have pc1 := at_row P4.out 1 rfl
  have pc2 := at_row P4.out 2 rfl
  go_wp2_with (go_at_call 12; refine (rgt6_at t s a n c ss _ true T4.out (hid hr.out)).mono ?_)
  rintro e w5 ⟨rfl, b⟩
  have T5 := hid (T4.out.below (Nat.le_refl _) b)
  have B5 := hid (B4.out.trans (b.mono B4.out.size))
  have P5 := hid (row_below P4.out b)
  clear T4 B4 b P4 pc0 pc1 pc2
  have pc0 := at_row P5.out 0 rfl
  have pc1 := at_row P5.out 1 rfl
  have pc2 := at_row P5.out 2 rfl
  go_wp2_with (first | (go_at_call 13; refine (lnum_any _ _).mono ?_; rintro e w' ⟨rfl, hw⟩; rw [hw]; clear hw) | (go_at_call 20; refine (rAck6 m _ (by omega) (by omega)).mono ?_; rintro e w' ⟨rfl, hw⟩; rw [hw]; clear hw) | (go_at_call 21; refine (rList6 t s m a n c _ t0 t1 (by omega) (by omega)).mono ?_))
  rintro e w6 ⟨rfl, b⟩
  have T6 := hid (T5.out.below (Nat.le_refl _) b)
  have B6 := hid (B5.out.trans (b.mono B5.out.size))
  have P6 := hid (row_below P5.out b)
  clear T5 B5 b P5 pc0 pc1 pc2
  have pc0 := at_row P6.out 0 rfl
  have pc1 := at_row P6.out 1 rfl
  have pc2 := at_row P6.out 2 rfl
  have cw := lworks_any w6 (HA.out.below B6.out)
  go_wp2_with (first | (go_at_call 13; refine (lnum_any _ _).mono ?_; rintro e w' ⟨rfl, hw⟩; rw [hw]; clear hw) | (go_at_call 9; refine cw.mono ?_; rintro e wz ⟨rfl, bz⟩))
  go_ret
  exact ⟨rfl, B6.out.trans (bz.mono B6.out.size)⟩
set_option maxRecDepth 100000 in
set_option maxHeartbeats 8000000 in
theorem layoutPlaces_in0 (t s : Int) (a : Option Addr) (n c : Nat) (ss : List ByteArray) (w : World) (hT : IsTab w (.slice a n c) ss) (hA : LAll w) (hv : lvs ss = false) (hr : rgt t s ss = true) (hm : 0 < t) (h4 : Hid (av t s 4 0 0 = ((3 + 0), 0))) (h5 : Hid (av t s 5 0 0 = ((3 + t + 0), 0))) (h6 : Hid (av t s 6 0 0 = ((3 + t + t), 0))) :
    Calls Tryd.prog 4 #[planV t s a n c, .int .i64 0] w fun e w' => e = .returned (.bool true) ∧ Below w.heap.size w w' := by
  have HA := hid hA
  clear hA
  have cv := fun W h => lvast_any t s a n c ss W h
  simp only [hv] at cv
  obtain ⟨t0, t1, s0, s1, _⟩ := rgt_yes hr
  have hr := hid hr
  have T0 := hid (hT.below (Nat.le_refl _) (bel1 (Below.refl (w.alloc (aplanO t s a n c)).heap.size (w.alloc (aplanO t s a n c)))))
  have B0 : Hid (Below w.heap.size w (w.alloc (aplanO t s a n c))) := hid (bel1 (Below.refl _ _))
  have P0 : Hid ((w.alloc (aplanO t s a n c)).heap[w.heap.size]? = some (aplanO t s a n c)) := hid (row1 (Below.refl _ _))
  clear hT
  go_enter Tryd.func4, Tryd.ntmps4
  go_wp2_with (go_at_call 8; refine (cv _ T0.out).mono ?_)
  rintro e w1 ⟨rfl, b⟩
  have T1 := hid (T0.out.below (Nat.le_refl _) b)
  have B1 := hid (B0.out.trans (b.mono B0.out.size))
  have P1 := hid (row_below P0.out b)
  clear T0 B0 b P0 
  have pc0 := at_row P1.out 0 rfl
  have pc1 := at_row P1.out 1 rfl
  have pc2 := at_row P1.out 2 rfl
  go_wp2_with (go_at_call 17; refine (Ack_at t s 0 (3 + 0) 0 a n c ss _ T1.out (HA.out.below B1.out).nums (hid (by unfold atv; rw [if_pos hr.out]; exact h4.out))).mono ?_)
  rintro e w2 ⟨rfl, b⟩
  have T2 := hid (T1.out.below (Nat.le_refl _) b)
  have B2 := hid (B1.out.trans (b.mono B1.out.size))
  have P2 := hid (row_below P1.out b)
  clear T1 B1 b P1 pc0 pc1 pc2
  have pc0 := at_row P2.out 0 rfl
  have pc1 := at_row P2.out 1 rfl
  have pc2 := at_row P2.out 2 rfl
  go_wp2_with (go_at_call 18; refine (List_at t s 0 (3 + t + 0) 0 a n c ss _ T2.out (HA.out.below B2.out).nums (hid (by unfold atv; rw [if_pos hr.out]; exact h5.out))).mono ?_)
  rintro e w3 ⟨rfl, b⟩
  have T3 := hid (T2.out.below (Nat.le_refl _) b)
  have B3 := hid (B2.out.trans (b.mono B2.out.size))
  have P3 := hid (row_below P2.out b)
  clear T2 B2 b P2 pc0 pc1 pc2
  have pc0 := at_row P3.out 0 rfl
  have pc1 := at_row P3.out 1 rfl
  have pc2 := at_row P3.out 2 rfl
  go_wp2_with (go_at_call 19; refine (Base_at t s 0 (3 + t + t) 0 a n c ss _ T3.out (HA.out.below B3.out).nums (hid (by unfold atv; rw [if_pos hr.out]; exact h6.out))).mono ?_)
  rintro e w4 ⟨rfl, b⟩
  have T4 := hid (T3.out.below (Nat.le_refl _) b)
  have B4 := hid (B3.out.trans (b.mono B3.out.size))
  have P4 := hid (row_below P3.out b)
  clear T3 B3 b P3 pc0 pc1 pc2
  have pc0 := at_row P4.out 0 rfl
  have pc1 := at_row P4.out 1 rfl
  have pc2 := at_row P4.out 2 rfl
  go_wp2_with (go_at_call 12; refine (rgt6_at t s a n c ss _ true T4.out (hid hr.out)).mono ?_)
  rintro e w5 ⟨rfl, b⟩
  have T5 := hid (T4.out.below (Nat.le_refl _) b)
  have B5 := hid (B4.out.trans (b.mono B4.out.size))
  have P5 := hid (row_below P4.out b)
  clear T4 B4 b P4 pc0 pc1 pc2
  have pc0 := at_row P5.out 0 rfl
  have pc1 := at_row P5.out 1 rfl
  have pc2 := at_row P5.out 2 rfl
  go_wp2_with (first | (go_at_call 13; refine (lnum_any _ _).mono ?_; rintro e w' ⟨rfl, hw⟩; rw [hw]; clear hw) | (go_at_call 20; refine (rAck6 0 _ (by omega) (by omega)).mono ?_; rintro e w' ⟨rfl, hw⟩; rw [hw]; clear hw) | (go_at_call 21; refine (rList6 t s 0 a n c _ t0 t1 (by omega) (by omega)).mono ?_))
  rintro e w6 ⟨rfl, b⟩
  have T6 := hid (T5.out.below (Nat.le_refl _) b)
  have B6 := hid (B5.out.trans (b.mono B5.out.size))
  have P6 := hid (row_below P5.out b)
  clear T5 B5 b P5 pc0 pc1 pc2
  have pc0 := at_row P6.out 0 rfl
  have pc1 := at_row P6.out 1 rfl
  have pc2 := at_row P6.out 2 rfl
  go_wp2_with (first | (go_at_call 13; refine (lnum_any _ _).mono ?_; rintro e w' ⟨rfl, hw⟩; rw [hw]; clear hw) | (go_at_call 22; refine (rBase6_0 t s a n c _ t0 t1 s0 s1).mono ?_))
  rintro e w7 ⟨rfl, b⟩
  have T7 := hid (T6.out.below (Nat.le_refl _) b)
  have B7 := hid (B6.out.trans (b.mono B6.out.size))
  have P7 := hid (row_below P6.out b)
  clear T6 B6 b P6 pc0 pc1 pc2
  have pc0 := at_row P7.out 0 rfl
  have pc1 := at_row P7.out 1 rfl
  have pc2 := at_row P7.out 2 rfl
  have cw := lworks_any w7 (HA.out.below B7.out)
  go_wp2_with (first | (go_at_call 13; refine (lnum_any _ _).mono ?_; rintro e w' ⟨rfl, hw⟩; rw [hw]; clear hw) | (go_at_call 9; refine cw.mono ?_; rintro e wz ⟨rfl, bz⟩))
  go_ret
  exact ⟨rfl, B7.out.trans (bz.mono B7.out.size)⟩
set_option maxRecDepth 100000 in
set_option maxHeartbeats 8000000 in
theorem layoutPlaces_in1 (t s : Int) (a : Option Addr) (n c : Nat) (ss : List ByteArray) (w : World) (hT : IsTab w (.slice a n c) ss) (hA : LAll w) (hv : lvs ss = false) (hr : rgt t s ss = true) (hm : 1 < t) (h4 : Hid (av t s 4 1 0 = ((3 + 1), 0))) (h5 : Hid (av t s 5 1 0 = ((3 + t + 1), 0))) (h6 : Hid (av t s 6 1 0 = ((3 + t + t + s), 0))) :
    Calls Tryd.prog 4 #[planV t s a n c, .int .i64 1] w fun e w' => e = .returned (.bool true) ∧ Below w.heap.size w w' := by
  have HA := hid hA
  clear hA
  have cv := fun W h => lvast_any t s a n c ss W h
  simp only [hv] at cv
  obtain ⟨t0, t1, s0, s1, _⟩ := rgt_yes hr
  have hr := hid hr
  have T0 := hid (hT.below (Nat.le_refl _) (bel1 (Below.refl (w.alloc (aplanO t s a n c)).heap.size (w.alloc (aplanO t s a n c)))))
  have B0 : Hid (Below w.heap.size w (w.alloc (aplanO t s a n c))) := hid (bel1 (Below.refl _ _))
  have P0 : Hid ((w.alloc (aplanO t s a n c)).heap[w.heap.size]? = some (aplanO t s a n c)) := hid (row1 (Below.refl _ _))
  clear hT
  go_enter Tryd.func4, Tryd.ntmps4
  go_wp2_with (go_at_call 8; refine (cv _ T0.out).mono ?_)
  rintro e w1 ⟨rfl, b⟩
  have T1 := hid (T0.out.below (Nat.le_refl _) b)
  have B1 := hid (B0.out.trans (b.mono B0.out.size))
  have P1 := hid (row_below P0.out b)
  clear T0 B0 b P0 
  have pc0 := at_row P1.out 0 rfl
  have pc1 := at_row P1.out 1 rfl
  have pc2 := at_row P1.out 2 rfl
  go_wp2_with (go_at_call 17; refine (Ack_at t s 1 (3 + 1) 0 a n c ss _ T1.out (HA.out.below B1.out).nums (hid (by unfold atv; rw [if_pos hr.out]; exact h4.out))).mono ?_)
  rintro e w2 ⟨rfl, b⟩
  have T2 := hid (T1.out.below (Nat.le_refl _) b)
  have B2 := hid (B1.out.trans (b.mono B1.out.size))
  have P2 := hid (row_below P1.out b)
  clear T1 B1 b P1 pc0 pc1 pc2
  have pc0 := at_row P2.out 0 rfl
  have pc1 := at_row P2.out 1 rfl
  have pc2 := at_row P2.out 2 rfl
  go_wp2_with (go_at_call 18; refine (List_at t s 1 (3 + t + 1) 0 a n c ss _ T2.out (HA.out.below B2.out).nums (hid (by unfold atv; rw [if_pos hr.out]; exact h5.out))).mono ?_)
  rintro e w3 ⟨rfl, b⟩
  have T3 := hid (T2.out.below (Nat.le_refl _) b)
  have B3 := hid (B2.out.trans (b.mono B2.out.size))
  have P3 := hid (row_below P2.out b)
  clear T2 B2 b P2 pc0 pc1 pc2
  have pc0 := at_row P3.out 0 rfl
  have pc1 := at_row P3.out 1 rfl
  have pc2 := at_row P3.out 2 rfl
  go_wp2_with (go_at_call 19; refine (Base_at t s 1 (3 + t + t + s) 0 a n c ss _ T3.out (HA.out.below B3.out).nums (hid (by unfold atv; rw [if_pos hr.out]; exact h6.out))).mono ?_)
  rintro e w4 ⟨rfl, b⟩
  have T4 := hid (T3.out.below (Nat.le_refl _) b)
  have B4 := hid (B3.out.trans (b.mono B3.out.size))
  have P4 := hid (row_below P3.out b)
  clear T3 B3 b P3 pc0 pc1 pc2
  have pc0 := at_row P4.out 0 rfl
  have pc1 := at_row P4.out 1 rfl
  have pc2 := at_row P4.out 2 rfl
  go_wp2_with (go_at_call 12; refine (rgt6_at t s a n c ss _ true T4.out (hid hr.out)).mono ?_)
  rintro e w5 ⟨rfl, b⟩
  have T5 := hid (T4.out.below (Nat.le_refl _) b)
  have B5 := hid (B4.out.trans (b.mono B4.out.size))
  have P5 := hid (row_below P4.out b)
  clear T4 B4 b P4 pc0 pc1 pc2
  have pc0 := at_row P5.out 0 rfl
  have pc1 := at_row P5.out 1 rfl
  have pc2 := at_row P5.out 2 rfl
  go_wp2_with (first | (go_at_call 13; refine (lnum_any _ _).mono ?_; rintro e w' ⟨rfl, hw⟩; rw [hw]; clear hw) | (go_at_call 20; refine (rAck6 1 _ (by omega) (by omega)).mono ?_; rintro e w' ⟨rfl, hw⟩; rw [hw]; clear hw) | (go_at_call 21; refine (rList6 t s 1 a n c _ t0 t1 (by omega) (by omega)).mono ?_))
  rintro e w6 ⟨rfl, b⟩
  have T6 := hid (T5.out.below (Nat.le_refl _) b)
  have B6 := hid (B5.out.trans (b.mono B5.out.size))
  have P6 := hid (row_below P5.out b)
  clear T5 B5 b P5 pc0 pc1 pc2
  have pc0 := at_row P6.out 0 rfl
  have pc1 := at_row P6.out 1 rfl
  have pc2 := at_row P6.out 2 rfl
  go_wp2_with (first | (go_at_call 13; refine (lnum_any _ _).mono ?_; rintro e w' ⟨rfl, hw⟩; rw [hw]; clear hw) | (go_at_call 22; refine (rBase6_1 t s a n c _ t0 t1 s0 s1).mono ?_))
  rintro e w7 ⟨rfl, b⟩
  have T7 := hid (T6.out.below (Nat.le_refl _) b)
  have B7 := hid (B6.out.trans (b.mono B6.out.size))
  have P7 := hid (row_below P6.out b)
  clear T6 B6 b P6 pc0 pc1 pc2
  have pc0 := at_row P7.out 0 rfl
  have pc1 := at_row P7.out 1 rfl
  have pc2 := at_row P7.out 2 rfl
  have cw := lworks_any w7 (HA.out.below B7.out)
  go_wp2_with (first | (go_at_call 13; refine (lnum_any _ _).mono ?_; rintro e w' ⟨rfl, hw⟩; rw [hw]; clear hw) | (go_at_call 9; refine cw.mono ?_; rintro e wz ⟨rfl, bz⟩))
  go_ret
  exact ⟨rfl, B7.out.trans (bz.mono B7.out.size)⟩
theorem av4 {t s m : Int} (h0 : 0 ≤ m) (h1 : m < t) : av t s 4 m 0 = (3 + m, 0) := by
  rw [av_in (by simp [mayP]) (by simp [hasP, prt, wrd]; omega)]
  show (bs t s 4 + m * wrd s 4 + 0, (0 : Int)) = _
  rw [bs4]; simp [wrd]
theorem av5 {t s m : Int} (h0 : 0 ≤ m) (h1 : m < t) : av t s 5 m 0 = (3 + t + m, 0) := by
  rw [av_in (by simp [mayP]) (by simp [hasP, prt, wrd]; omega)]
  show (bs t s 5 + m * wrd s 5 + 0, (0 : Int)) = _
  rw [bs5]; simp [wrd]
theorem av6 {t s m : Int} (s0 : 32 ≤ s) (h0 : m = 0 ∨ m = 1) : av t s 6 m 0 = (3 + t + t + m * s, 0) := by
  rw [av_in (by simp [mayP]) (by simp [hasP, prt, wrd]; omega)]
  show (bs t s 6 + m * wrd s 6 + 0, (0 : Int)) = _
  rw [bs6]; simp [wrd]
theorem av_out {t s k m : Int} (hk : k = 4 ∨ k = 5 ∨ k = 6) (h : m < 0 ∨ prt t k.toNat ≤ m) : av t s k m 0 = (0, 4) := by
  have h1 : mayP k m 0 = true := by simp [mayP]; omega
  have h2 : hasP t s k m 0 = false := by simp [hasP]; omega
  unfold av; simp [h1, h2]
theorem layoutPlaces_any (t s m : Int) (a : Option Addr) (n c : Nat) (ss : List ByteArray) (w : World) (hT : IsTab w (.slice a n c) ss) (hA : LAll w) :
    Calls Tryd.prog 4 #[planV t s a n c, .int .i64 m] w fun e w' => e = .returned (.bool true) ∧ Below w.heap.size w w' := by
  rcases Bool.eq_false_or_eq_true (lvs ss) with hv | hv
  · exact layoutPlaces_v t s m a n c ss w hT hA hv
  rcases Bool.eq_false_or_eq_true (rgt t s ss) with hr | hr
  · obtain ⟨t0, t1, s0, s1, _⟩ := rgt_yes hr
    by_cases h0 : m < 0
    · exact layoutPlaces_lo t s m a n c ss w hT hA hv hr h0 (by simp; omega) (by simp; omega) (hid (av_out (by omega) (.inl h0))) (hid (av_out (by omega) (.inl h0))) (hid (av_out (by omega) (.inl h0)))
    by_cases h1 : t ≤ m
    · by_cases h2 : m = 1
      · subst h2
        exact layoutPlaces_hi1 t s a n c ss w hT hA hv hr h1 (hid (av_out (by omega) (.inr h1))) (hid (av_out (by omega) (.inr h1))) (hid (by rw [av6 s0 (.inr rfl), Int.one_mul]))
      · exact layoutPlaces_hi t s m a n c ss w hT hA hv hr (by omega) h1 (by simp; omega) (by simp; omega) (hid (av_out (by omega) (.inr h1))) (hid (av_out (by omega) (.inr h1))) (hid (av_out (by omega) (.inr (by show (2 : Int) ≤ m; omega))))
    by_cases h2 : m = 0
    · subst h2
      exact layoutPlaces_in0 t s a n c ss w hT hA hv hr (by omega) (hid (av4 (by omega) (by omega))) (hid (av5 (by omega) (by omega))) (hid (by rw [av6 s0 (.inl rfl), Int.zero_mul, Int.add_zero]))
    by_cases h3 : m = 1
    · subst h3
      exact layoutPlaces_in1 t s a n c ss w hT hA hv hr (by omega) (hid (av4 (by omega) (by omega))) (hid (av5 (by omega) (by omega))) (hid (by rw [av6 s0 (.inr rfl), Int.one_mul]))
    · exact layoutPlaces_in t s m a n c ss w hT hA hv hr (by omega) (by omega) (by simp; omega) (by simp; omega) (hid (av4 (by omega) (by omega))) (hid (av5 (by omega) (by omega))) (hid (av_out (by omega) (.inr (by show (2 : Int) ≤ m; omega))))
  · exact layoutPlaces_n t s m a n c ss w hT hA hv hr
end Go.Proofs.YtjfegimgpkeleaaDoor
