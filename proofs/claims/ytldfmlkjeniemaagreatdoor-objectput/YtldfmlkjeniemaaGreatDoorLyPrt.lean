/- package layout: the part of a word. Typed by tools/gen06.py. -/
import Derived.Test.YtldfmlkjeniemaaGreatDoorLyHas
set_option linter.unusedVariables false
namespace Go.Ly
theorem kn_lt (t s a : Int) (j : Nat) (j0 : 1 ≤ j) (j1 : j ≤ 6) (t0 : 1 ≤ t) (a0 : 0 ≤ a) : a < bs t s j ↔ kn t a < j := by
  have hc : j = 1 ∨ j = 2 ∨ j = 3 ∨ j = 4 ∨ j = 5 ∨ j = 6 := by omega
  unfold kn
  rcases hc with rfl | rfl | rfl | rfl | rfl | rfl
  · rw [bs1]; repeat (first | split | omega)
  · rw [bs2]; repeat (first | split | omega)
  · rw [bs3]; repeat (first | split | omega)
  · rw [bs4]; repeat (first | split | omega)
  · rw [bs5]; repeat (first | split | omega)
  · rw [bs6]; repeat (first | split | omega)
end Go.Ly
namespace Go.Proofs.YtldfmlkjeniemaaGreatDoor
open Go.RowKit Go.Ly Go.Sh Go.Sort
theorem part_size : (Tryz.prog.info? 102).map (·.size) = some 3 := by kernel_rfl
theorem set_row {w : World} {g i : Nat} {t : TypeId} {cs : Array Value} (h : w.heap[g]? = some (.cells cs t)) (v : Value) : (w.setCell ⟨g, i, none⟩ v).heap[g]? = some (.cells (cs.setIfInBounds i v) t) := by
  rw [setCell_eq_setRow w g i cs t (0, 0) v h]
  exact setRow_heap w g _ _ _ _ h
theorem set3_row {w : World} {g : Nat} {t : TypeId} {a b c : Value} (h : w.heap[g]? = some (.cells #[a, b, c] t)) (x y z : Value) : ((((w.setCell ⟨g, 0, none⟩ x).setCell ⟨g, 1, none⟩ y).setCell ⟨g, 2, none⟩ z)).heap[g]? = some (.cells #[x, y, z] t) :=
  set_row (set_row (set_row h x) y) z
theorem three_set {B : Nat} {w w1 : World} (h : Below B w w1) {g : Nat} (hg : B ≤ g) (u v x : Value) : Below B w (((w1.setCell ⟨g, 0, none⟩ u).setCell ⟨g, 1, none⟩ v).setCell ⟨g, 2, none⟩ x) :=
  ((h.setCell hg _).setCell hg _).setCell hg _
set_option maxRecDepth 100000 in
set_option maxHeartbeats 8000000 in
theorem part_1 (t s at_ : Int) (a : Option Addr) (n c : Nat) (x y : Int) (w : World) (t0 : 1 ≤ t) (t1 : t ≤ 8) (s0 : 32 ≤ s) (s1 : s ≤ 4096) (a0 : 0 ≤ at_) (a1 : at_ ≤ 20000) (hk : Hid (kn t at_ = 1)) (hx : Hid ((at_ - 0) / 1 = x)) (hy : Hid ((at_ - 0) % 1 = y)) (hb : 0 ≤ at_) :
    Calls Tryz.prog 75 #[planV t s a n c, .int .i64 at_] w fun e w' => e = .returned (partV 1 x y) ∧ Below w.heap.size w w' := by
  go_enter Tryz.func75, Tryz.ntmps75
  go_wp2_with fail
  have B0 := hid (below2' w (.cells #[.int .i64 t, .int .i64 s, .slice a n c] 132) (.cells #[.int .i64 0, .int .i64 0, .int .i64 0] 102))
  have Rp : ((w.alloc (.cells #[.int .i64 t, .int .i64 s, .slice a n c] 132)).alloc (.cells #[.int .i64 0, .int .i64 0, .int .i64 0] 102)).heap[w.heap.size]? = _ := row2a (Below.refl _ _)
  have Rx : ((w.alloc (.cells #[.int .i64 t, .int .i64 s, .slice a n c] 132)).alloc (.cells #[.int .i64 0, .int .i64 0, .int .i64 0] 102)).heap[w.heap.size + 1]? = _ := last2 w _ _
  generalize (w.alloc (.cells #[.int .i64 t, .int .i64 s, .slice a n c] 132)).alloc (.cells #[.int .i64 0, .int .i64 0, .int .i64 0] 102) = W at *
  have HRp := hid Rp
  have HRx := hid Rx
  clear Rp Rx
  go_loopw [5] (fun i wr => ∃ j : Nat, 1 ≤ j ∧ j ≤ 6 ∧ i = .int .i64 (j : Int) ∧ Hid (Below W.heap.size W wr)) (fun i _ => (intOf i).toNat)
  case atStart => exact ⟨6, by omega, by omega, rfl, hid (Below.refl _ _)⟩
  case round =>
    obtain ⟨j, j0, j1, rfl, BR⟩ := hrel
    have Rp := row_below HRp.out BR.out
    have p0 := at_row Rp 0 rfl
    have p1 := at_row Rp 1 rfl
    have p2 := at_row Rp 2 rfl
    clear Rp
    have cb := base_at t s a n c j wr t0 t1 s0 s1 (by omega)
    have hj := kn_lt t s at_ j (by omega) j1 t0 a0
    rw [hk.out] at hj
    obtain ⟨z, hz⟩ : ∃ z, z = bs t s j := ⟨_, rfl⟩
    rw [← hz] at cb hj
    have HZ := hid hz
    clear hz
    by_cases hlt : 1 < j
    · have hlt' : at_ < z := hj.2 hlt
      clear hj
      go_wp2_with (go_at_call 87; refine cb.mono ?_; rintro e w2 ⟨rfl, b2⟩)
      go_roundw
      case rel => exact ⟨j - 1, by omega, by omega, by simp; omega, hid (BR.out.trans (b2.mono BR.out.size))⟩
      case measure => simp [intOf]; omega
    · have hlt' : z ≤ at_ := by omega
      obtain rfl : j = 1 := by omega
      clear hj hlt
      have hz : z = 0 := by rw [HZ.out]; exact bs1 t s
      go_wp2_with (go_at_call 87; refine cb.mono ?_)
      rintro e w2 ⟨rfl, b2⟩
      have B2 := hid (BR.out.trans (b2.mono BR.out.size))
      have Rp := row_below HRp.out B2.out
      clear p0 p1 p2 BR b2 cb
      have p0 := at_row Rp 0 rfl
      have p1 := at_row Rp 1 rfl
      have p2 := at_row Rp 2 rfl
      clear Rp
      go_wp2_with (go_at_call 89; refine (extents_any t s a n c _).mono ?_)
      rintro e w3 ⟨rfl, b3⟩
      have B3 := hid (B2.out.trans (b3.mono B2.out.size))
      have Rp := row_below HRp.out B3.out
      clear p0 p1 p2 B2 b3
      have p0 := at_row Rp 0 rfl
      have p1 := at_row Rp 1 rfl
      have p2 := at_row Rp 2 rfl
      clear Rp
      have hix := ext_ix1 (planV t s a n c)
      go_wp2_with (go_at_call 103; refine (plOne_any t s a n c _).mono ?_)
      rintro e w4 ⟨rfl, b4⟩
      have B4 := hid (B3.out.trans (b4.mono B3.out.size))
      have Rp := row_below HRp.out B4.out
      clear p0 p1 p2 B3 b4 hix
      have p0 := at_row Rp 0 rfl
      have p1 := at_row Rp 1 rfl
      have p2 := at_row Rp 2 rfl
      clear Rp
      have cb := base_at t s a n c 1 w4 t0 t1 s0 s1 (by omega)
      rw [bs1] at cb
      clear hlt' HZ hz z
      go_wp2_with (go_at_call 87; refine cb.mono ?_)
      rintro e w5 ⟨rfl, b5⟩
      have B5 := hid (B4.out.trans (b5.mono B4.out.size))
      have Rx := row_below HRx.out B5.out
      clear p0 p1 p2 B4 b5 cb
      have HRx5 := hid Rx
      have q0 := at_row Rx 0 rfl
      have q1 := at_row Rx 1 rfl
      have q2 := at_row Rx 2 rfl
      have f0 := fz_row Rx 0
      have f1 := fz_row Rx 1
      have f2 := fz_row Rx 2
      clear Rx
      have zb : 0 ≤ at_ - 0 := by omega
      have zc : at_ - 0 ≤ 20000 := by omega
      go_wp2_with fail
      have sne : (s == 0) = false := by rw [beq_eq_false_iff_ne]; omega
      go_region
      go_wp2
      have hrow := set3_row HRx5.out (.int .i64 1) (.int .i64 (at_)) (.int .i64 (0))
      refine bodyPost_ret (v := partV 1 (at_) (0)) (results_cell_row Tryz.results75 _ _ (w.heap.size + 1) 102 _ (0, 0) _ rfl hrow Tryz.underlying102 rfl part_size) rfl ⟨?_, ?_⟩
      · rw [← hx.out, ← hy.out]; rw [Int.sub_zero, Int.ediv_one, Int.emod_one]
      · exact (three_set (B0.out.trans (B5.out.mono B0.out.size)) (by omega) _ _ _).drew
set_option maxRecDepth 100000 in
set_option maxHeartbeats 8000000 in
theorem part_2 (t s at_ : Int) (a : Option Addr) (n c : Nat) (x y : Int) (w : World) (t0 : 1 ≤ t) (t1 : t ≤ 8) (s0 : 32 ≤ s) (s1 : s ≤ 4096) (a0 : 0 ≤ at_) (a1 : at_ ≤ 20000) (hk : Hid (kn t at_ = 2)) (hx : Hid ((at_ - 1) / 1 = x)) (hy : Hid ((at_ - 1) % 1 = y)) (hb : 1 ≤ at_) :
    Calls Tryz.prog 75 #[planV t s a n c, .int .i64 at_] w fun e w' => e = .returned (partV 2 x y) ∧ Below w.heap.size w w' := by
  go_enter Tryz.func75, Tryz.ntmps75
  go_wp2_with fail
  have B0 := hid (below2' w (.cells #[.int .i64 t, .int .i64 s, .slice a n c] 132) (.cells #[.int .i64 0, .int .i64 0, .int .i64 0] 102))
  have Rp : ((w.alloc (.cells #[.int .i64 t, .int .i64 s, .slice a n c] 132)).alloc (.cells #[.int .i64 0, .int .i64 0, .int .i64 0] 102)).heap[w.heap.size]? = _ := row2a (Below.refl _ _)
  have Rx : ((w.alloc (.cells #[.int .i64 t, .int .i64 s, .slice a n c] 132)).alloc (.cells #[.int .i64 0, .int .i64 0, .int .i64 0] 102)).heap[w.heap.size + 1]? = _ := last2 w _ _
  generalize (w.alloc (.cells #[.int .i64 t, .int .i64 s, .slice a n c] 132)).alloc (.cells #[.int .i64 0, .int .i64 0, .int .i64 0] 102) = W at *
  have HRp := hid Rp
  have HRx := hid Rx
  clear Rp Rx
  go_loopw [5] (fun i wr => ∃ j : Nat, 2 ≤ j ∧ j ≤ 6 ∧ i = .int .i64 (j : Int) ∧ Hid (Below W.heap.size W wr)) (fun i _ => (intOf i).toNat)
  case atStart => exact ⟨6, by omega, by omega, rfl, hid (Below.refl _ _)⟩
  case round =>
    obtain ⟨j, j0, j1, rfl, BR⟩ := hrel
    have Rp := row_below HRp.out BR.out
    have p0 := at_row Rp 0 rfl
    have p1 := at_row Rp 1 rfl
    have p2 := at_row Rp 2 rfl
    clear Rp
    have cb := base_at t s a n c j wr t0 t1 s0 s1 (by omega)
    have hj := kn_lt t s at_ j (by omega) j1 t0 a0
    rw [hk.out] at hj
    obtain ⟨z, hz⟩ : ∃ z, z = bs t s j := ⟨_, rfl⟩
    rw [← hz] at cb hj
    have HZ := hid hz
    clear hz
    by_cases hlt : 2 < j
    · have hlt' : at_ < z := hj.2 hlt
      clear hj
      go_wp2_with (go_at_call 87; refine cb.mono ?_; rintro e w2 ⟨rfl, b2⟩)
      go_roundw
      case rel => exact ⟨j - 1, by omega, by omega, by simp; omega, hid (BR.out.trans (b2.mono BR.out.size))⟩
      case measure => simp [intOf]; omega
    · have hlt' : z ≤ at_ := by omega
      obtain rfl : j = 2 := by omega
      clear hj hlt
      have hz : z = 1 := by rw [HZ.out]; exact bs2 t s
      go_wp2_with (go_at_call 87; refine cb.mono ?_)
      rintro e w2 ⟨rfl, b2⟩
      have B2 := hid (BR.out.trans (b2.mono BR.out.size))
      have Rp := row_below HRp.out B2.out
      clear p0 p1 p2 BR b2 cb
      have p0 := at_row Rp 0 rfl
      have p1 := at_row Rp 1 rfl
      have p2 := at_row Rp 2 rfl
      clear Rp
      go_wp2_with (go_at_call 89; refine (extents_any t s a n c _).mono ?_)
      rintro e w3 ⟨rfl, b3⟩
      have B3 := hid (B2.out.trans (b3.mono B2.out.size))
      have Rp := row_below HRp.out B3.out
      clear p0 p1 p2 B2 b3
      have p0 := at_row Rp 0 rfl
      have p1 := at_row Rp 1 rfl
      have p2 := at_row Rp 2 rfl
      clear Rp
      have hix := ext_ix2 (planV t s a n c)
      go_wp2_with (go_at_call 103; refine (plOne_any t s a n c _).mono ?_)
      rintro e w4 ⟨rfl, b4⟩
      have B4 := hid (B3.out.trans (b4.mono B3.out.size))
      have Rp := row_below HRp.out B4.out
      clear p0 p1 p2 B3 b4 hix
      have p0 := at_row Rp 0 rfl
      have p1 := at_row Rp 1 rfl
      have p2 := at_row Rp 2 rfl
      clear Rp
      have cb := base_at t s a n c 2 w4 t0 t1 s0 s1 (by omega)
      rw [bs2] at cb
      clear hlt' HZ hz z
      go_wp2_with (go_at_call 87; refine cb.mono ?_)
      rintro e w5 ⟨rfl, b5⟩
      have B5 := hid (B4.out.trans (b5.mono B4.out.size))
      have Rx := row_below HRx.out B5.out
      clear p0 p1 p2 B4 b5 cb
      have HRx5 := hid Rx
      have q0 := at_row Rx 0 rfl
      have q1 := at_row Rx 1 rfl
      have q2 := at_row Rx 2 rfl
      have f0 := fz_row Rx 0
      have f1 := fz_row Rx 1
      have f2 := fz_row Rx 2
      clear Rx
      have zb : 0 ≤ at_ - 1 := by omega
      have zc : at_ - 1 ≤ 20000 := by omega
      go_wp2_with fail
      generalize at_ - 1 = z at *
      have sne : (s == 0) = false := by rw [beq_eq_false_iff_ne]; omega
      go_region
      go_wp2
      have hrow := set3_row HRx5.out (.int .i64 2) (.int .i64 (z)) (.int .i64 (0))
      refine bodyPost_ret (v := partV 2 (z) (0)) (results_cell_row Tryz.results75 _ _ (w.heap.size + 1) 102 _ (0, 0) _ rfl hrow Tryz.underlying102 rfl part_size) rfl ⟨?_, ?_⟩
      · rw [← hx.out, ← hy.out]; rw [Int.ediv_one, Int.emod_one]
      · exact (three_set (B0.out.trans (B5.out.mono B0.out.size)) (by omega) _ _ _).drew
set_option maxRecDepth 100000 in
set_option maxHeartbeats 8000000 in
theorem part_3 (t s at_ : Int) (a : Option Addr) (n c : Nat) (x y : Int) (w : World) (t0 : 1 ≤ t) (t1 : t ≤ 8) (s0 : 32 ≤ s) (s1 : s ≤ 4096) (a0 : 0 ≤ at_) (a1 : at_ ≤ 20000) (hk : Hid (kn t at_ = 3)) (hx : Hid ((at_ - 2) / 1 = x)) (hy : Hid ((at_ - 2) % 1 = y)) (hb : 2 ≤ at_) :
    Calls Tryz.prog 75 #[planV t s a n c, .int .i64 at_] w fun e w' => e = .returned (partV 3 x y) ∧ Below w.heap.size w w' := by
  go_enter Tryz.func75, Tryz.ntmps75
  go_wp2_with fail
  have B0 := hid (below2' w (.cells #[.int .i64 t, .int .i64 s, .slice a n c] 132) (.cells #[.int .i64 0, .int .i64 0, .int .i64 0] 102))
  have Rp : ((w.alloc (.cells #[.int .i64 t, .int .i64 s, .slice a n c] 132)).alloc (.cells #[.int .i64 0, .int .i64 0, .int .i64 0] 102)).heap[w.heap.size]? = _ := row2a (Below.refl _ _)
  have Rx : ((w.alloc (.cells #[.int .i64 t, .int .i64 s, .slice a n c] 132)).alloc (.cells #[.int .i64 0, .int .i64 0, .int .i64 0] 102)).heap[w.heap.size + 1]? = _ := last2 w _ _
  generalize (w.alloc (.cells #[.int .i64 t, .int .i64 s, .slice a n c] 132)).alloc (.cells #[.int .i64 0, .int .i64 0, .int .i64 0] 102) = W at *
  have HRp := hid Rp
  have HRx := hid Rx
  clear Rp Rx
  go_loopw [5] (fun i wr => ∃ j : Nat, 3 ≤ j ∧ j ≤ 6 ∧ i = .int .i64 (j : Int) ∧ Hid (Below W.heap.size W wr)) (fun i _ => (intOf i).toNat)
  case atStart => exact ⟨6, by omega, by omega, rfl, hid (Below.refl _ _)⟩
  case round =>
    obtain ⟨j, j0, j1, rfl, BR⟩ := hrel
    have Rp := row_below HRp.out BR.out
    have p0 := at_row Rp 0 rfl
    have p1 := at_row Rp 1 rfl
    have p2 := at_row Rp 2 rfl
    clear Rp
    have cb := base_at t s a n c j wr t0 t1 s0 s1 (by omega)
    have hj := kn_lt t s at_ j (by omega) j1 t0 a0
    rw [hk.out] at hj
    obtain ⟨z, hz⟩ : ∃ z, z = bs t s j := ⟨_, rfl⟩
    rw [← hz] at cb hj
    have HZ := hid hz
    clear hz
    by_cases hlt : 3 < j
    · have hlt' : at_ < z := hj.2 hlt
      clear hj
      go_wp2_with (go_at_call 87; refine cb.mono ?_; rintro e w2 ⟨rfl, b2⟩)
      go_roundw
      case rel => exact ⟨j - 1, by omega, by omega, by simp; omega, hid (BR.out.trans (b2.mono BR.out.size))⟩
      case measure => simp [intOf]; omega
    · have hlt' : z ≤ at_ := by omega
      obtain rfl : j = 3 := by omega
      clear hj hlt
      have hz : z = 2 := by rw [HZ.out]; exact bs3 t s
      go_wp2_with (go_at_call 87; refine cb.mono ?_)
      rintro e w2 ⟨rfl, b2⟩
      have B2 := hid (BR.out.trans (b2.mono BR.out.size))
      have Rp := row_below HRp.out B2.out
      clear p0 p1 p2 BR b2 cb
      have p0 := at_row Rp 0 rfl
      have p1 := at_row Rp 1 rfl
      have p2 := at_row Rp 2 rfl
      clear Rp
      go_wp2_with (go_at_call 89; refine (extents_any t s a n c _).mono ?_)
      rintro e w3 ⟨rfl, b3⟩
      have B3 := hid (B2.out.trans (b3.mono B2.out.size))
      have Rp := row_below HRp.out B3.out
      clear p0 p1 p2 B2 b3
      have p0 := at_row Rp 0 rfl
      have p1 := at_row Rp 1 rfl
      have p2 := at_row Rp 2 rfl
      clear Rp
      have hix := ext_ix3 (planV t s a n c)
      go_wp2_with (go_at_call 103; refine (plOne_any t s a n c _).mono ?_)
      rintro e w4 ⟨rfl, b4⟩
      have B4 := hid (B3.out.trans (b4.mono B3.out.size))
      have Rp := row_below HRp.out B4.out
      clear p0 p1 p2 B3 b4 hix
      have p0 := at_row Rp 0 rfl
      have p1 := at_row Rp 1 rfl
      have p2 := at_row Rp 2 rfl
      clear Rp
      have cb := base_at t s a n c 3 w4 t0 t1 s0 s1 (by omega)
      rw [bs3] at cb
      clear hlt' HZ hz z
      go_wp2_with (go_at_call 87; refine cb.mono ?_)
      rintro e w5 ⟨rfl, b5⟩
      have B5 := hid (B4.out.trans (b5.mono B4.out.size))
      have Rx := row_below HRx.out B5.out
      clear p0 p1 p2 B4 b5 cb
      have HRx5 := hid Rx
      have q0 := at_row Rx 0 rfl
      have q1 := at_row Rx 1 rfl
      have q2 := at_row Rx 2 rfl
      have f0 := fz_row Rx 0
      have f1 := fz_row Rx 1
      have f2 := fz_row Rx 2
      clear Rx
      have zb : 0 ≤ at_ - 2 := by omega
      have zc : at_ - 2 ≤ 20000 := by omega
      go_wp2_with fail
      generalize at_ - 2 = z at *
      have sne : (s == 0) = false := by rw [beq_eq_false_iff_ne]; omega
      go_region
      go_wp2
      have hrow := set3_row HRx5.out (.int .i64 3) (.int .i64 (z)) (.int .i64 (0))
      refine bodyPost_ret (v := partV 3 (z) (0)) (results_cell_row Tryz.results75 _ _ (w.heap.size + 1) 102 _ (0, 0) _ rfl hrow Tryz.underlying102 rfl part_size) rfl ⟨?_, ?_⟩
      · rw [← hx.out, ← hy.out]; rw [Int.ediv_one, Int.emod_one]
      · exact (three_set (B0.out.trans (B5.out.mono B0.out.size)) (by omega) _ _ _).drew
set_option maxRecDepth 100000 in
set_option maxHeartbeats 8000000 in
theorem part_4 (t s at_ : Int) (a : Option Addr) (n c : Nat) (x y : Int) (w : World) (t0 : 1 ≤ t) (t1 : t ≤ 8) (s0 : 32 ≤ s) (s1 : s ≤ 4096) (a0 : 0 ≤ at_) (a1 : at_ ≤ 20000) (hk : Hid (kn t at_ = 4)) (hx : Hid ((at_ - 3) / 1 = x)) (hy : Hid ((at_ - 3) % 1 = y)) (hb : 3 ≤ at_) :
    Calls Tryz.prog 75 #[planV t s a n c, .int .i64 at_] w fun e w' => e = .returned (partV 4 x y) ∧ Below w.heap.size w w' := by
  go_enter Tryz.func75, Tryz.ntmps75
  go_wp2_with fail
  have B0 := hid (below2' w (.cells #[.int .i64 t, .int .i64 s, .slice a n c] 132) (.cells #[.int .i64 0, .int .i64 0, .int .i64 0] 102))
  have Rp : ((w.alloc (.cells #[.int .i64 t, .int .i64 s, .slice a n c] 132)).alloc (.cells #[.int .i64 0, .int .i64 0, .int .i64 0] 102)).heap[w.heap.size]? = _ := row2a (Below.refl _ _)
  have Rx : ((w.alloc (.cells #[.int .i64 t, .int .i64 s, .slice a n c] 132)).alloc (.cells #[.int .i64 0, .int .i64 0, .int .i64 0] 102)).heap[w.heap.size + 1]? = _ := last2 w _ _
  generalize (w.alloc (.cells #[.int .i64 t, .int .i64 s, .slice a n c] 132)).alloc (.cells #[.int .i64 0, .int .i64 0, .int .i64 0] 102) = W at *
  have HRp := hid Rp
  have HRx := hid Rx
  clear Rp Rx
  go_loopw [5] (fun i wr => ∃ j : Nat, 4 ≤ j ∧ j ≤ 6 ∧ i = .int .i64 (j : Int) ∧ Hid (Below W.heap.size W wr)) (fun i _ => (intOf i).toNat)
  case atStart => exact ⟨6, by omega, by omega, rfl, hid (Below.refl _ _)⟩
  case round =>
    obtain ⟨j, j0, j1, rfl, BR⟩ := hrel
    have Rp := row_below HRp.out BR.out
    have p0 := at_row Rp 0 rfl
    have p1 := at_row Rp 1 rfl
    have p2 := at_row Rp 2 rfl
    clear Rp
    have cb := base_at t s a n c j wr t0 t1 s0 s1 (by omega)
    have hj := kn_lt t s at_ j (by omega) j1 t0 a0
    rw [hk.out] at hj
    obtain ⟨z, hz⟩ : ∃ z, z = bs t s j := ⟨_, rfl⟩
    rw [← hz] at cb hj
    have HZ := hid hz
    clear hz
    by_cases hlt : 4 < j
    · have hlt' : at_ < z := hj.2 hlt
      clear hj
      go_wp2_with (go_at_call 87; refine cb.mono ?_; rintro e w2 ⟨rfl, b2⟩)
      go_roundw
      case rel => exact ⟨j - 1, by omega, by omega, by simp; omega, hid (BR.out.trans (b2.mono BR.out.size))⟩
      case measure => simp [intOf]; omega
    · have hlt' : z ≤ at_ := by omega
      obtain rfl : j = 4 := by omega
      clear hj hlt
      have hz : z = 3 := by rw [HZ.out]; exact bs4 t s
      go_wp2_with (go_at_call 87; refine cb.mono ?_)
      rintro e w2 ⟨rfl, b2⟩
      have B2 := hid (BR.out.trans (b2.mono BR.out.size))
      have Rp := row_below HRp.out B2.out
      clear p0 p1 p2 BR b2 cb
      have p0 := at_row Rp 0 rfl
      have p1 := at_row Rp 1 rfl
      have p2 := at_row Rp 2 rfl
      clear Rp
      go_wp2_with (go_at_call 89; refine (extents_any t s a n c _).mono ?_)
      rintro e w3 ⟨rfl, b3⟩
      have B3 := hid (B2.out.trans (b3.mono B2.out.size))
      have Rp := row_below HRp.out B3.out
      clear p0 p1 p2 B2 b3
      have p0 := at_row Rp 0 rfl
      have p1 := at_row Rp 1 rfl
      have p2 := at_row Rp 2 rfl
      clear Rp
      have hix := ext_ix4 (planV t s a n c)
      go_wp2_with (go_at_call 104; refine (plThread_any t s a n c _).mono ?_)
      rintro e w4 ⟨rfl, b4⟩
      have B4 := hid (B3.out.trans (b4.mono B3.out.size))
      have Rp := row_below HRp.out B4.out
      clear p0 p1 p2 B3 b4 hix
      have p0 := at_row Rp 0 rfl
      have p1 := at_row Rp 1 rfl
      have p2 := at_row Rp 2 rfl
      clear Rp
      have cb := base_at t s a n c 4 w4 t0 t1 s0 s1 (by omega)
      rw [bs4] at cb
      clear hlt' HZ hz z
      go_wp2_with (go_at_call 87; refine cb.mono ?_)
      rintro e w5 ⟨rfl, b5⟩
      have B5 := hid (B4.out.trans (b5.mono B4.out.size))
      have Rx := row_below HRx.out B5.out
      clear p0 p1 p2 B4 b5 cb
      have HRx5 := hid Rx
      have q0 := at_row Rx 0 rfl
      have q1 := at_row Rx 1 rfl
      have q2 := at_row Rx 2 rfl
      have f0 := fz_row Rx 0
      have f1 := fz_row Rx 1
      have f2 := fz_row Rx 2
      clear Rx
      have zb : 0 ≤ at_ - 3 := by omega
      have zc : at_ - 3 ≤ 20000 := by omega
      go_wp2_with fail
      generalize at_ - 3 = z at *
      have sne : (s == 0) = false := by rw [beq_eq_false_iff_ne]; omega
      go_region
      go_wp2
      have hrow := set3_row HRx5.out (.int .i64 4) (.int .i64 (z)) (.int .i64 (0))
      refine bodyPost_ret (v := partV 4 (z) (0)) (results_cell_row Tryz.results75 _ _ (w.heap.size + 1) 102 _ (0, 0) _ rfl hrow Tryz.underlying102 rfl part_size) rfl ⟨?_, ?_⟩
      · rw [← hx.out, ← hy.out]; rw [Int.ediv_one, Int.emod_one]
      · exact (three_set (B0.out.trans (B5.out.mono B0.out.size)) (by omega) _ _ _).drew
set_option maxRecDepth 100000 in
set_option maxHeartbeats 8000000 in
theorem part_5 (t s at_ : Int) (a : Option Addr) (n c : Nat) (x y : Int) (w : World) (t0 : 1 ≤ t) (t1 : t ≤ 8) (s0 : 32 ≤ s) (s1 : s ≤ 4096) (a0 : 0 ≤ at_) (a1 : at_ ≤ 20000) (hk : Hid (kn t at_ = 5)) (hx : Hid ((at_ - (3 + t)) / 1 = x)) (hy : Hid ((at_ - (3 + t)) % 1 = y)) (hb : (3 + t) ≤ at_) :
    Calls Tryz.prog 75 #[planV t s a n c, .int .i64 at_] w fun e w' => e = .returned (partV 5 x y) ∧ Below w.heap.size w w' := by
  go_enter Tryz.func75, Tryz.ntmps75
  go_wp2_with fail
  have B0 := hid (below2' w (.cells #[.int .i64 t, .int .i64 s, .slice a n c] 132) (.cells #[.int .i64 0, .int .i64 0, .int .i64 0] 102))
  have Rp : ((w.alloc (.cells #[.int .i64 t, .int .i64 s, .slice a n c] 132)).alloc (.cells #[.int .i64 0, .int .i64 0, .int .i64 0] 102)).heap[w.heap.size]? = _ := row2a (Below.refl _ _)
  have Rx : ((w.alloc (.cells #[.int .i64 t, .int .i64 s, .slice a n c] 132)).alloc (.cells #[.int .i64 0, .int .i64 0, .int .i64 0] 102)).heap[w.heap.size + 1]? = _ := last2 w _ _
  generalize (w.alloc (.cells #[.int .i64 t, .int .i64 s, .slice a n c] 132)).alloc (.cells #[.int .i64 0, .int .i64 0, .int .i64 0] 102) = W at *
  have HRp := hid Rp
  have HRx := hid Rx
  clear Rp Rx
  go_loopw [5] (fun i wr => ∃ j : Nat, 5 ≤ j ∧ j ≤ 6 ∧ i = .int .i64 (j : Int) ∧ Hid (Below W.heap.size W wr)) (fun i _ => (intOf i).toNat)
  case atStart => exact ⟨6, by omega, by omega, rfl, hid (Below.refl _ _)⟩
  case round =>
    obtain ⟨j, j0, j1, rfl, BR⟩ := hrel
    have Rp := row_below HRp.out BR.out
    have p0 := at_row Rp 0 rfl
    have p1 := at_row Rp 1 rfl
    have p2 := at_row Rp 2 rfl
    clear Rp
    have cb := base_at t s a n c j wr t0 t1 s0 s1 (by omega)
    have hj := kn_lt t s at_ j (by omega) j1 t0 a0
    rw [hk.out] at hj
    obtain ⟨z, hz⟩ : ∃ z, z = bs t s j := ⟨_, rfl⟩
    rw [← hz] at cb hj
    have HZ := hid hz
    clear hz
    by_cases hlt : 5 < j
    · have hlt' : at_ < z := hj.2 hlt
      clear hj
      go_wp2_with (go_at_call 87; refine cb.mono ?_; rintro e w2 ⟨rfl, b2⟩)
      go_roundw
      case rel => exact ⟨j - 1, by omega, by omega, by simp; omega, hid (BR.out.trans (b2.mono BR.out.size))⟩
      case measure => simp [intOf]; omega
    · have hlt' : z ≤ at_ := by omega
      obtain rfl : j = 5 := by omega
      clear hj hlt
      have hz : z = (3 + t) := by rw [HZ.out]; exact bs5 t s
      go_wp2_with (go_at_call 87; refine cb.mono ?_)
      rintro e w2 ⟨rfl, b2⟩
      have B2 := hid (BR.out.trans (b2.mono BR.out.size))
      have Rp := row_below HRp.out B2.out
      clear p0 p1 p2 BR b2 cb
      have p0 := at_row Rp 0 rfl
      have p1 := at_row Rp 1 rfl
      have p2 := at_row Rp 2 rfl
      clear Rp
      go_wp2_with (go_at_call 89; refine (extents_any t s a n c _).mono ?_)
      rintro e w3 ⟨rfl, b3⟩
      have B3 := hid (B2.out.trans (b3.mono B2.out.size))
      have Rp := row_below HRp.out B3.out
      clear p0 p1 p2 B2 b3
      have p0 := at_row Rp 0 rfl
      have p1 := at_row Rp 1 rfl
      have p2 := at_row Rp 2 rfl
      clear Rp
      have hix := ext_ix5 (planV t s a n c)
      go_wp2_with (go_at_call 104; refine (plThread_any t s a n c _).mono ?_)
      rintro e w4 ⟨rfl, b4⟩
      have B4 := hid (B3.out.trans (b4.mono B3.out.size))
      have Rp := row_below HRp.out B4.out
      clear p0 p1 p2 B3 b4 hix
      have p0 := at_row Rp 0 rfl
      have p1 := at_row Rp 1 rfl
      have p2 := at_row Rp 2 rfl
      clear Rp
      have cb := base_at t s a n c 5 w4 t0 t1 s0 s1 (by omega)
      rw [bs5] at cb
      clear hlt' HZ hz z
      go_wp2_with (go_at_call 87; refine cb.mono ?_)
      rintro e w5 ⟨rfl, b5⟩
      have B5 := hid (B4.out.trans (b5.mono B4.out.size))
      have Rx := row_below HRx.out B5.out
      clear p0 p1 p2 B4 b5 cb
      have HRx5 := hid Rx
      have q0 := at_row Rx 0 rfl
      have q1 := at_row Rx 1 rfl
      have q2 := at_row Rx 2 rfl
      have f0 := fz_row Rx 0
      have f1 := fz_row Rx 1
      have f2 := fz_row Rx 2
      clear Rx
      have zb : 0 ≤ at_ - (3 + t) := by omega
      have zc : at_ - (3 + t) ≤ 20000 := by omega
      go_wp2_with fail
      generalize at_ - (3 + t) = z at *
      have sne : (s == 0) = false := by rw [beq_eq_false_iff_ne]; omega
      go_region
      go_wp2
      have hrow := set3_row HRx5.out (.int .i64 5) (.int .i64 (z)) (.int .i64 (0))
      refine bodyPost_ret (v := partV 5 (z) (0)) (results_cell_row Tryz.results75 _ _ (w.heap.size + 1) 102 _ (0, 0) _ rfl hrow Tryz.underlying102 rfl part_size) rfl ⟨?_, ?_⟩
      · rw [← hx.out, ← hy.out]; rw [Int.ediv_one, Int.emod_one]
      · exact (three_set (B0.out.trans (B5.out.mono B0.out.size)) (by omega) _ _ _).drew
set_option maxRecDepth 100000 in
set_option maxHeartbeats 8000000 in
theorem part_6 (t s at_ : Int) (a : Option Addr) (n c : Nat) (x y : Int) (w : World) (t0 : 1 ≤ t) (t1 : t ≤ 8) (s0 : 32 ≤ s) (s1 : s ≤ 4096) (a0 : 0 ≤ at_) (a1 : at_ ≤ 20000) (hk : Hid (kn t at_ = 6)) (hx : Hid ((at_ - (3 + t + t)) / s = x)) (hy : Hid ((at_ - (3 + t + t)) % s = y)) (hb : (3 + t + t) ≤ at_) :
    Calls Tryz.prog 75 #[planV t s a n c, .int .i64 at_] w fun e w' => e = .returned (partV 6 x y) ∧ Below w.heap.size w w' := by
  go_enter Tryz.func75, Tryz.ntmps75
  go_wp2_with fail
  have B0 := hid (below2' w (.cells #[.int .i64 t, .int .i64 s, .slice a n c] 132) (.cells #[.int .i64 0, .int .i64 0, .int .i64 0] 102))
  have Rp : ((w.alloc (.cells #[.int .i64 t, .int .i64 s, .slice a n c] 132)).alloc (.cells #[.int .i64 0, .int .i64 0, .int .i64 0] 102)).heap[w.heap.size]? = _ := row2a (Below.refl _ _)
  have Rx : ((w.alloc (.cells #[.int .i64 t, .int .i64 s, .slice a n c] 132)).alloc (.cells #[.int .i64 0, .int .i64 0, .int .i64 0] 102)).heap[w.heap.size + 1]? = _ := last2 w _ _
  generalize (w.alloc (.cells #[.int .i64 t, .int .i64 s, .slice a n c] 132)).alloc (.cells #[.int .i64 0, .int .i64 0, .int .i64 0] 102) = W at *
  have HRp := hid Rp
  have HRx := hid Rx
  clear Rp Rx
  go_loopw [5] (fun i wr => ∃ j : Nat, 6 ≤ j ∧ j ≤ 6 ∧ i = .int .i64 (j : Int) ∧ Hid (Below W.heap.size W wr)) (fun i _ => (intOf i).toNat)
  case atStart => exact ⟨6, by omega, by omega, rfl, hid (Below.refl _ _)⟩
  case round =>
    obtain ⟨j, j0, j1, rfl, BR⟩ := hrel
    have Rp := row_below HRp.out BR.out
    have p0 := at_row Rp 0 rfl
    have p1 := at_row Rp 1 rfl
    have p2 := at_row Rp 2 rfl
    clear Rp
    have cb := base_at t s a n c j wr t0 t1 s0 s1 (by omega)
    have hj := kn_lt t s at_ j (by omega) j1 t0 a0
    rw [hk.out] at hj
    obtain ⟨z, hz⟩ : ∃ z, z = bs t s j := ⟨_, rfl⟩
    rw [← hz] at cb hj
    have HZ := hid hz
    clear hz
    by_cases hlt : 6 < j
    · have hlt' : at_ < z := hj.2 hlt
      clear hj
      go_wp2_with (go_at_call 87; refine cb.mono ?_; rintro e w2 ⟨rfl, b2⟩)
      go_roundw
      case rel => exact ⟨j - 1, by omega, by omega, by simp; omega, hid (BR.out.trans (b2.mono BR.out.size))⟩
      case measure => simp [intOf]; omega
    · have hlt' : z ≤ at_ := by omega
      obtain rfl : j = 6 := by omega
      clear hj hlt
      have hz : z = (3 + t + t) := by rw [HZ.out]; exact bs6 t s
      go_wp2_with (go_at_call 87; refine cb.mono ?_)
      rintro e w2 ⟨rfl, b2⟩
      have B2 := hid (BR.out.trans (b2.mono BR.out.size))
      have Rp := row_below HRp.out B2.out
      clear p0 p1 p2 BR b2 cb
      have p0 := at_row Rp 0 rfl
      have p1 := at_row Rp 1 rfl
      have p2 := at_row Rp 2 rfl
      clear Rp
      go_wp2_with (go_at_call 89; refine (extents_any t s a n c _).mono ?_)
      rintro e w3 ⟨rfl, b3⟩
      have B3 := hid (B2.out.trans (b3.mono B2.out.size))
      have Rp := row_below HRp.out B3.out
      clear p0 p1 p2 B2 b3
      have p0 := at_row Rp 0 rfl
      have p1 := at_row Rp 1 rfl
      have p2 := at_row Rp 2 rfl
      clear Rp
      have hix := ext_ix6 (planV t s a n c)
      go_wp2_with (go_at_call 105; refine (plSpace_any t s a n c _).mono ?_)
      rintro e w4 ⟨rfl, b4⟩
      have B4 := hid (B3.out.trans (b4.mono B3.out.size))
      have Rp := row_below HRp.out B4.out
      clear p0 p1 p2 B3 b4 hix
      have p0 := at_row Rp 0 rfl
      have p1 := at_row Rp 1 rfl
      have p2 := at_row Rp 2 rfl
      clear Rp
      have cb := base_at t s a n c 6 w4 t0 t1 s0 s1 (by omega)
      rw [bs6] at cb
      clear hlt' HZ hz z
      go_wp2_with (go_at_call 87; refine cb.mono ?_)
      rintro e w5 ⟨rfl, b5⟩
      have B5 := hid (B4.out.trans (b5.mono B4.out.size))
      have Rx := row_below HRx.out B5.out
      clear p0 p1 p2 B4 b5 cb
      have HRx5 := hid Rx
      have q0 := at_row Rx 0 rfl
      have q1 := at_row Rx 1 rfl
      have q2 := at_row Rx 2 rfl
      have f0 := fz_row Rx 0
      have f1 := fz_row Rx 1
      have f2 := fz_row Rx 2
      clear Rx
      have zb : 0 ≤ at_ - (3 + t + t) := by omega
      have zc : at_ - (3 + t + t) ≤ 20000 := by omega
      go_wp2_with fail
      generalize at_ - (3 + t + t) = z at *
      have sne : (s == 0) = false := by rw [beq_eq_false_iff_ne]; omega
      go_region
      go_wp2
      have hrow := set3_row HRx5.out (.int .i64 6) (.int .i64 (z / s)) (.int .i64 (z % s))
      refine bodyPost_ret (v := partV 6 (z / s) (z % s)) (results_cell_row Tryz.results75 _ _ (w.heap.size + 1) 102 _ (0, 0) _ rfl hrow Tryz.underlying102 rfl part_size) rfl ⟨?_, ?_⟩
      · rw [← hx.out, ← hy.out]
      · exact (three_set (B0.out.trans (B5.out.mono B0.out.size)) (by omega) _ _ _).drew
end Go.Proofs.YtldfmlkjeniemaaGreatDoor
