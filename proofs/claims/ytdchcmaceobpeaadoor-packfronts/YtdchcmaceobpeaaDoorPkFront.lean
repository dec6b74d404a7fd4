/- Package pack's Front, Fits, Used, Turn. -/
import Derived.Test.YtdchcmaceobpeaaDoorPkReq
namespace Go.Proofs.YtdchcmaceobpeaaDoor
open Go.RowKit
theorem frAt_row {w : World} {g : Nat} {s l h o : Int} {t : TypeId} (r : w.heap[g]? = some (.cells #[.int .i64 s, .int .i64 l, .int .i64 h, .int .i64 o] t)) : FrAt w g s l h o :=
  ⟨at_row r 0 rfl, at_row r 1 rfl, at_row r 2 rfl, at_row r 3 rfl⟩
set_option maxHeartbeats 1000000 in
theorem front_yes (s l h o : Int) (w : World) (hk : Pk.frOk s l h o = true) :
    Calls Tryd.prog 15 #[.agg #[.int .i64 s, .int .i64 l, .int .i64 h, .int .i64 o]] w fun e w' => e = .returned (.tuple #[.int .u64 (s + 2 * (l + 8192 * (h + 8192 * o))), .int .i64 0]) ∧ Below w.heap.size w w' := by
  obtain ⟨hs, l0, l1, h0, h1, o0, o1, hlo⟩ := Pk.frOk_yes hk
  have s0 : 0 ≤ s := by omega
  have s1 : s ≤ 1 := by omega
  clear hs
  go_enter Tryd.func15, Tryd.ntmps15
  go_wp2_with (go_at_call 31; refine (may_any (w.heap.size + 1) s l h o _ (frAt_row (row2b (Below.refl _ _)))).mono ?_)
  rintro e w1 ⟨rfl, b1⟩
  obtain ⟨c0, c1, c2, c3⟩ := frAt_row (row2b b1)
  have bw := bel2 b1
  clear b1
  go_wp2
  go_ret2
  exact ⟨ret_ie (by omega) rfl, bw⟩
set_option maxHeartbeats 1000000 in
theorem front_no (s l h o : Int) (w : World) (hk : Pk.frOk s l h o = false) :
    Calls Tryd.prog 15 #[.agg #[.int .i64 s, .int .i64 l, .int .i64 h, .int .i64 o]] w fun e w' => e = .returned (.tuple #[.int .u64 0, .int .i64 2]) ∧ Below w.heap.size w w' := by
  go_enter Tryd.func15, Tryd.ntmps15
  go_wp2_with (go_at_call 31; refine (may_any (w.heap.size + 1) s l h o _ (frAt_row (row2b (Below.refl _ _)))).mono ?_)
  rintro e w1 ⟨rfl, b1⟩
  have bw := bel2 b1
  clear b1
  go_wp2
  go_ret2
  exact ⟨rfl, bw⟩
set_option maxHeartbeats 1000000 in
theorem fits_yes (s l h o n : Int) (w : World) (hk : Pk.frOk s l h o = true) :
    Calls Tryd.prog 23 #[.agg #[.int .i64 s, .int .i64 l, .int .i64 h, .int .i64 o], .int .i64 n] w fun e w' => e = .returned (.bool (decide (1 ≤ n ∧ n ≤ h - l - o))) ∧ Below w.heap.size w w' := by
  obtain ⟨hs, l0, l1, h0, h1, o0, o1, hlo⟩ := Pk.frOk_yes hk
  clear hs
  go_enter Tryd.func23, Tryd.ntmps23
  go_wp2_with (go_at_call 31; refine (may_any (w.heap.size + 1) s l h o _ (frAt_row (row2b (Below.refl _ _)))).mono ?_)
  rintro e w1 ⟨rfl, b1⟩
  have F := hid (frAt_row (row2b b1))
  have bw := bel2 b1
  clear b1
  go_wp2_with (go_at_call 34; refine (room_any (w.heap.size + 1) s l h o _ F.out l0 l1 h0 h1 o0 o1).mono ?_)
  rintro e w2 ⟨rfl, b2⟩
  have bw2 : Below w.heap.size w w2 := bw.trans (b2.mono bw.size)
  clear bw b2
  go_wp2_with (go_at_call 36; refine (within_int 1 (h - l - o) w2.heap.size 0 1 1 [n] _ (hid rfl) (by omega) (hid (cells_one (cell_last w2 _ _ 0 _ rfl)))).mono ?_; rintro e w' ⟨rfl, rfl⟩)
  go_ret
  exact ⟨ret_bool (Pk.win_one _ _ _), bw2.alloc bw2.size _⟩
set_option maxHeartbeats 1000000 in
theorem fits_no (s l h o n : Int) (w : World) (hk : Pk.frOk s l h o = false) :
    Calls Tryd.prog 23 #[.agg #[.int .i64 s, .int .i64 l, .int .i64 h, .int .i64 o], .int .i64 n] w fun e w' => e = .returned (.bool false) ∧ Below w.heap.size w w' := by
  go_enter Tryd.func23, Tryd.ntmps23
  go_wp2_with (go_at_call 31; refine (may_any (w.heap.size + 1) s l h o _ (frAt_row (row2b (Below.refl _ _)))).mono ?_)
  rintro e w1 ⟨rfl, b1⟩
  have bw := bel2 b1
  clear b1
  go_wp2
  go_ret
  exact ⟨rfl, bw⟩
set_option maxHeartbeats 1000000 in
theorem used_yes (s l h o n : Int) (w : World) (hk : Pk.frOk s l h o = true) (hn : h ≤ n ∧ n ≤ 4096) :
    Calls Tryd.prog 21 #[.agg #[.int .i64 s, .int .i64 l, .int .i64 h, .int .i64 o], .int .i64 n] w fun e w' => e = .returned (.tuple #[.int .i64 (l + n - h + o), .int .i64 0]) ∧ Below w.heap.size w w' := by
  have hw : Pk.win h 4096 [n] = true := by rw [Pk.win_one]; exact decide_eq_true hn
  obtain ⟨hs, l0, l1, h0, h1, o0, o1, hlo⟩ := Pk.frOk_yes hk
  obtain ⟨n0, n1⟩ := hn
  clear hs
  go_enter Tryd.func21, Tryd.ntmps21
  go_wp2_with (go_at_call 31; refine (may_any (w.heap.size + 1) s l h o _ (frAt_row (row2b (Below.refl _ _)))).mono ?_)
  rintro e w1 ⟨rfl, b1⟩
  obtain ⟨c0, c1, c2, c3⟩ := frAt_row (row2b b1)
  have bw := bel2 b1
  have hz := siz2 b1
  clear b1
  go_wp2_with (go_at_call 36; refine (within_int h 4096 w1.heap.size 0 1 1 [n] _ (hid rfl) (by omega) (hid (cells_one (cell_last w1 _ _ 0 _ rfl)))).mono ?_; rintro e w' ⟨rfl, rfl⟩)
  go_ret2
  exact ⟨rfl, bw.alloc bw.size _⟩
set_option maxHeartbeats 1000000 in
theorem used_size (s l h o n : Int) (w : World) (hk : Pk.frOk s l h o = true) (hn : ¬ (h ≤ n ∧ n ≤ 4096)) :
    Calls Tryd.prog 21 #[.agg #[.int .i64 s, .int .i64 l, .int .i64 h, .int .i64 o], .int .i64 n] w fun e w' => e = .returned (.tuple #[.int .i64 0, .int .i64 2]) ∧ Below w.heap.size w w' := by
  have hw : Pk.win h 4096 [n] = false := by rw [Pk.win_one]; exact decide_eq_false hn
  clear hn
  go_enter Tryd.func21, Tryd.ntmps21
  go_wp2_with (go_at_call 31; refine (may_any (w.heap.size + 1) s l h o _ (frAt_row (row2b (Below.refl _ _)))).mono ?_)
  rintro e w1 ⟨rfl, b1⟩
  obtain ⟨c0, c1, c2, c3⟩ := frAt_row (row2b b1)
  have bw := bel2 b1
  clear b1
  go_wp2_with (go_at_call 36; refine (within_int h 4096 w1.heap.size 0 1 1 [n] _ (hid rfl) (by omega) (hid (cells_one (cell_last w1 _ _ 0 _ rfl)))).mono ?_; rintro e w' ⟨rfl, rfl⟩)
  go_ret2
  exact ⟨rfl, bw.alloc bw.size _⟩
set_option maxHeartbeats 1000000 in
theorem used_no (s l h o n : Int) (w : World) (hk : Pk.frOk s l h o = false) :
    Calls Tryd.prog 21 #[.agg #[.int .i64 s, .int .i64 l, .int .i64 h, .int .i64 o], .int .i64 n] w fun e w' => e = .returned (.tuple #[.int .i64 0, .int .i64 2]) ∧ Below w.heap.size w w' := by
  go_enter Tryd.func21, Tryd.ntmps21
  go_wp2_with (go_at_call 31; refine (may_any (w.heap.size + 1) s l h o _ (frAt_row (row2b (Below.refl _ _)))).mono ?_)
  rintro e w1 ⟨rfl, b1⟩
  have bw := bel2 b1
  clear b1
  go_wp2
  go_ret2
  exact ⟨rfl, bw⟩
theorem turn_any (g : Nat) (s l h o x : Int) (w : World) (hf : FrAt w g s l h o) (f0 : w.frozen? ⟨g, 0, none⟩ = false) (f1 : w.frozen? ⟨g, 1, none⟩ = false) (f2 : w.frozen? ⟨g, 2, none⟩ = false) (f3 : w.frozen? ⟨g, 3, none⟩ = false) (s0 : 0 ≤ s) (s1 : s ≤ 1) :
    Calls Tryd.prog 37 #[.pointer (some ⟨g, 0, none⟩), .int .i64 x] w fun e w' => e = .returned (.tuple #[]) ∧ FrAt w' g (1 - s) o x 0 ∧ Below g w w' := by
  refine (turn_at g s l h o x w hf f0 f1 f2 f3 s0 s1).mono fun e w' h => ⟨h.1, ?_, ?_⟩
  · rw [h.2]
    obtain ⟨c0, c1, c2, c3⟩ := hf
    refine ⟨?_, ?_, ?_, ?_⟩ <;> simp [go_sem, c0, c1, c2, c3]
  · rw [h.2]
    exact (four_set (Below.refl _ _) (Nat.le_refl _) _ _ _ _).drew
set_option maxHeartbeats 1000000 in
theorem turn_yes (s l h o n : Int) (w : World) (hk : Pk.frOk s l h o = true) (hn : o ≤ n ∧ n ≤ 4096) :
    Calls Tryd.prog 25 #[.agg #[.int .i64 s, .int .i64 l, .int .i64 h, .int .i64 o], .int .i64 n] w fun e w' => e = .returned (.tuple #[.agg #[.int .i64 (1 - s), .int .i64 o, .int .i64 n, .int .i64 0], .int .i64 0]) ∧ Below w.heap.size w w' := by
  have hw : Pk.win o 4096 [n] = true := by rw [Pk.win_one]; exact decide_eq_true hn
  obtain ⟨hs, l0, l1, h0, h1, o0, o1, hlo⟩ := Pk.frOk_yes hk
  have s0 : 0 ≤ s := by omega
  have s1 : s ≤ 1 := by omega
  obtain ⟨n0, n1⟩ := hn
  clear hs
  go_enter Tryd.func25, Tryd.ntmps25
  go_wp2_with (go_at_call 31; refine (may_any (w.heap.size + 1 + 1) s l h o _ (frAt_row (row3c (Below.refl _ _)))).mono ?_)
  rintro e w1 ⟨rfl, b1⟩
  have F := hid (frAt_row (row3c b1))
  obtain ⟨c0, c1, c2, c3⟩ := frAt_row (row3c b1)
  have f0 := fz_row (row3c b1) 0
  have f1 := fz_row (row3c b1) 1
  have f2 := fz_row (row3c b1) 2
  have f3 := fz_row (row3c b1) 3
  have R := hid (row3b b1)
  have bw := bel3 b1
  have hz := siz3 b1
  clear b1
  go_wp2_with (first | (go_at_call 36; refine (within_int o 4096 w1.heap.size 0 1 1 [n] _ (hid rfl) (by omega) (hid (cells_one (cell_last w1 _ _ 0 _ rfl)))).mono ?_; rintro e w' ⟨rfl, rfl⟩) | (go_at_call 37; refine (turn_any (w.heap.size + 1 + 1) s l h o n _ (F.out.below (below_alloc0 w1 _) hz) (fz_alloc f0 hz _) (fz_alloc f1 hz _) (fz_alloc f2 hz _) (fz_alloc f3 hz _) s0 s1).mono ?_))
  rintro e w2 ⟨rfl, F2, b2⟩
  have R2 := (b2.block (w.heap.size + 1) (by omega)).trans ((Below.heap_alloc w1 _ _ (by omega)).trans R.out)
  have bw2 : Below w.heap.size w w2 := (bw.alloc bw.size _).trans (b2.mono (by omega))
  clear c0 c1 c2 c3 f0 f1 f2 f3 F R b2 bw
  obtain ⟨c0, c1, c2, c3⟩ := F2
  have d0 := at_row R2 0 rfl
  have d1 := at_row R2 1 rfl
  have d2 := at_row R2 2 rfl
  have d3 := at_row R2 3 rfl
  have k0 := fz_row R2 0
  have k1 := fz_row R2 1
  have k2 := fz_row R2 2
  have k3 := fz_row R2 3
  clear R2
  go_wp2
  refine bodyPost_ret (v := .tuple #[.agg #[.int .i64 (1 - s), .int .i64 o, .int .i64 n, .int .i64 0], .int .i64 0]) (by simp [results, Tryd.results25, go_sem, d0, d1, d2, d3]) rfl ⟨rfl, four_set bw2 (by omega) _ _ _ _⟩
theorem within1 (a b x : Int) (w : World) (t : TypeId) :
    Calls Tryd.prog 36 #[.int .i64 a, .int .i64 b, .slice (some ⟨w.heap.size, 0, none⟩) 1 1] (w.alloc (.cells #[.int .i64 x] t)) fun e w' => e = .returned (.bool (Pk.win a b [x])) ∧ Below w.heap.size w w' :=
  (within_int a b w.heap.size 0 1 1 [x] _ (hid rfl) (by omega) (hid (cells_one (cell_last w _ _ 0 _ rfl)))).mono fun _ _ h => ⟨h.1, h.2 ▸ below_alloc0 w _⟩
set_option maxHeartbeats 1000000 in
theorem turn_range (s l h o n : Int) (w : World) (hk : Pk.frOk s l h o = true) (hn : ¬ (o ≤ n ∧ n ≤ 4096)) :
    Calls Tryd.prog 25 #[.agg #[.int .i64 s, .int .i64 l, .int .i64 h, .int .i64 o], .int .i64 n] w fun e w' => e = .returned (.tuple #[.agg #[.int .i64 0, .int .i64 0, .int .i64 0, .int .i64 0], .int .i64 4]) ∧ Below w.heap.size w w' := by
  have hw : Pk.win o 4096 [n] = false := by rw [Pk.win_one]; exact decide_eq_false hn
  clear hn
  go_enter Tryd.func25, Tryd.ntmps25
  go_wp2_with (go_at_call 31; refine (may_any (w.heap.size + 1 + 1) s l h o _ (frAt_row (row3c (Below.refl _ _)))).mono ?_)
  rintro e w1 ⟨rfl, b1⟩
  obtain ⟨c0, c1, c2, c3⟩ := frAt_row (row3c b1)
  have R := hid (row3b b1)
  have bw := bel3 b1
  have hz := siz3 b1
  clear b1
  go_wp2_with (go_at_call 36; refine (within1 o 4096 n w1 _).mono ?_)
  rintro e w2 ⟨rfl, b2⟩
  have R2 := (b2.block (w.heap.size + 1) (by omega)).trans R.out
  have bw2 : Below w.heap.size w w2 := bw.trans (b2.mono (by omega))
  clear c0 c1 c2 c3 R b2 bw
  have d0 := at_row R2 0 rfl
  have d1 := at_row R2 1 rfl
  have d2 := at_row R2 2 rfl
  have d3 := at_row R2 3 rfl
  have k0 := fz_row R2 0
  have k1 := fz_row R2 1
  have k2 := fz_row R2 2
  have k3 := fz_row R2 3
  clear R2
  go_wp2
  refine bodyPost_ret (v := .tuple #[.agg #[.int .i64 0, .int .i64 0, .int .i64 0, .int .i64 0], .int .i64 4]) (by simp [results, Tryd.results25, go_sem, d0, d1, d2, d3]) rfl ⟨rfl, four_set bw2 (by omega) _ _ _ _⟩
set_option maxHeartbeats 1000000 in
theorem turn_no (s l h o n : Int) (w : World) (hk : Pk.frOk s l h o = false) :
    Calls Tryd.prog 25 #[.agg #[.int .i64 s, .int .i64 l, .int .i64 h, .int .i64 o], .int .i64 n] w fun e w' => e = .returned (.tuple #[.agg #[.int .i64 0, .int .i64 0, .int .i64 0, .int .i64 0], .int .i64 2]) ∧ Below w.heap.size w w' := by
  go_enter Tryd.func25, Tryd.ntmps25
  go_wp2_with (go_at_call 31; refine (may_any (w.heap.size + 1 + 1) s l h o _ (frAt_row (row3c (Below.refl _ _)))).mono ?_)
  rintro e w1 ⟨rfl, b1⟩
  have d0 := at_row (row3b b1) 0 rfl
  have d1 := at_row (row3b b1) 1 rfl
  have d2 := at_row (row3b b1) 2 rfl
  have d3 := at_row (row3b b1) 3 rfl
  have k0 := fz_row (row3b b1) 0
  have k1 := fz_row (row3b b1) 1
  have k2 := fz_row (row3b b1) 2
  have k3 := fz_row (row3b b1) 3
  have bw := bel3 b1
  clear b1
  go_wp2
  refine bodyPost_ret (v := .tuple #[.agg #[.int .i64 0, .int .i64 0, .int .i64 0, .int .i64 0], .int .i64 2]) (by simp [results, Tryd.results25, go_sem, d0, d1, d2, d3]) rfl ⟨rfl, four_set bw (by omega) _ _ _ _⟩
end Go.Proofs.YtdchcmaceobpeaaDoor
