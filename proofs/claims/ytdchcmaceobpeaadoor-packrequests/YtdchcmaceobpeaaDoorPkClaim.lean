/- Package pack's Claim. -/
import Derived.Test.YtdchcmaceobpeaaDoorPkFront
namespace Go.Proofs.YtdchcmaceobpeaaDoor
open Go.RowKit
set_option maxHeartbeats 2000000 in
theorem claim_no (s l h o x n : Int) (w : World) (hk : Pk.frOk s l h o = false) :
    Calls Tryd.prog 19 #[.agg #[.int .i64 s, .int .i64 l, .int .i64 h, .int .i64 o], .int .i64 x, .int .i64 n] w fun e w' => e = .returned (.tuple #[.agg #[.int .i64 0, .int .i64 0, .int .i64 0, .int .i64 0], .int .i64 0, .int .i64 2]) ∧ Below w.heap.size w w' := by
  go_enter Tryd.func19, Tryd.ntmps19
  go_wp2
  refine wp_scope_once 0 rfl ?_
  go_wp2_with (go_at_call 31; refine (may_any (w.heap.size + 1 + 1) s l h o _ (frAt_row (row3c (Below.refl _ _)))).mono ?_)
  rintro e w1 ⟨rfl, b1⟩
  have d0 := at_row (row3b b1) 0 rfl
  have d1 := at_row (row3b b1) 1 rfl
  have d2 := at_row (row3b b1) 2 rfl
  have d3 := at_row (row3b b1) 3 rfl
  have k0 := fz_row (row3b b1) 0
  have k1 := fz_row (row3b b1) 1
  have k2 := fz_row (row3b b1) 2
  have k3 := fz_row (row3b b1) 3
  have bw := bel3 b1
  clear b1
  go_wp2
  go_step3
  refine ⟨rfl, ?_⟩
  go_wp2
  rw [Exit.noGoto_ret]
  refine bodyPost_ret (v := .tuple #[.agg #[.int .i64 0, .int .i64 0, .int .i64 0, .int .i64 0], .int .i64 0, .int .i64 2]) (by simp [results, Tryd.results19, go_sem, d0, d1, d2, d3]) rfl ⟨rfl, four_set bw (by omega) _ _ _ _⟩
theorem claimed_low {w w' : World} {g : Nat} {s l h o : Int} {t : TypeId} (r : w.heap[g]? = some (.cells #[.int .i64 s, .int .i64 l, .int .i64 h, .int .i64 o] t)) (x : Int) (e : w' = w.setCell ⟨g, 1, none⟩ (.int .i64 x)) : FrAt w' g s x h o := by
  subst e
  have c0 := at_row r 0 rfl
  have c1 := at_row r 1 rfl
  have c2 := at_row r 2 rfl
  have c3 := at_row r 3 rfl
  refine ⟨?_, ?_, ?_, ?_⟩ <;> simp [go_sem, c0, c1, c2, c3]
theorem claimed_oth {w w' : World} {g : Nat} {s l h o : Int} {t : TypeId} (r : w.heap[g]? = some (.cells #[.int .i64 s, .int .i64 l, .int .i64 h, .int .i64 o] t)) (x : Int) (e : w' = w.setCell ⟨g, 3, none⟩ (.int .i64 x)) : FrAt w' g s l h x := by
  subst e
  have c0 := at_row r 0 rfl
  have c1 := at_row r 1 rfl
  have c2 := at_row r 2 rfl
  have c3 := at_row r 3 rfl
  refine ⟨?_, ?_, ?_, ?_⟩ <;> simp [go_sem, c0, c1, c2, c3]
theorem claimed_block {w w' : World} {g j : Nat} {v : Value} (e : w' = w.setCell ⟨g, j, none⟩ v) (k : Nat) (hk : k < g) : w'.heap[k]? = w.heap[k]? := by
  subst e
  exact ((Below.refl k.succ w).setCell (p := ⟨g, j, none⟩) hk v).block k (Nat.lt_succ_self k)
set_option maxHeartbeats 2000000 in
theorem claim_space (s l h o x n : Int) (w : World) (hk : Pk.frOk s l h o = true) (hx : ¬ (x = 0 ∨ x = 1)) :
    Calls Tryd.prog 19 #[.agg #[.int .i64 s, .int .i64 l, .int .i64 h, .int .i64 o], .int .i64 x, .int .i64 n] w fun e w' => e = .returned (.tuple #[.agg #[.int .i64 0, .int .i64 0, .int .i64 0, .int .i64 0], .int .i64 0, .int .i64 2]) ∧ Below w.heap.size w w' := by
  have hw : Pk.win 0 1 [x] = false := by rw [Pk.win_one]; exact decide_eq_false (by omega)
  clear hx
  go_enter Tryd.func19, Tryd.ntmps19
  go_wp2
  refine wp_scope_once 0 rfl ?_
  go_wp2_with (go_at_call 31; refine (may_any (w.heap.size + 1 + 1) s l h o _ (frAt_row (row3c (Below.refl _ _)))).mono ?_)
  rintro e w1 ⟨rfl, b1⟩
  have F := hid (row3c b1)
  have R := hid (row3b b1)
  have bw := bel3 b1
  have hz := siz3 b1
  clear b1
  go_wp2_with (go_at_call 33; refine (isSpace_any x _).mono ?_)
  rintro e w2 ⟨rfl, b2⟩
  have F2 := hid ((b2.block _ (by omega)).trans F.out)
  have R2 := hid ((b2.block _ (by omega)).trans R.out)
  have bw2 : Below w.heap.size w w2 := bw.trans (b2.mono (by omega))
  have hz2 : w.heap.size + 1 + 1 < w2.heap.size := by have := b2.size; omega
  clear b2 F R bw hz
  have d0 := at_row R2.out 0 rfl
  have d1 := at_row R2.out 1 rfl
  have d2 := at_row R2.out 2 rfl
  have d3 := at_row R2.out 3 rfl
  have k0 := fz_row R2.out 0
  have k1 := fz_row R2.out 1
  have k2 := fz_row R2.out 2
  have k3 := fz_row R2.out 3
  go_wp2
  go_step3
  refine ⟨rfl, ?_⟩
  go_wp2
  rw [Exit.noGoto_ret]
  refine bodyPost_ret (v := .tuple #[.agg #[.int .i64 0, .int .i64 0, .int .i64 0, .int .i64 0], .int .i64 0, .int .i64 2]) (by simp [results, Tryd.results19, go_sem, d0, d1, d2, d3]) rfl ⟨rfl, four_set bw2 (by omega) _ _ _ _⟩
set_option maxHeartbeats 2000000 in
theorem claim_small (s l h o x n : Int) (w : World) (hk : Pk.frOk s l h o = true) (hx : x = 0 ∨ x = 1) (hn : n < 1) :
    Calls Tryd.prog 19 #[.agg #[.int .i64 s, .int .i64 l, .int .i64 h, .int .i64 o], .int .i64 x, .int .i64 n] w fun e w' => e = .returned (.tuple #[.agg #[.int .i64 0, .int .i64 0, .int .i64 0, .int .i64 0], .int .i64 0, .int .i64 2]) ∧ Below w.heap.size w w' := by
  have hw : Pk.win 0 1 [x] = true := by rw [Pk.win_one]; exact decide_eq_true (by omega)
  clear hx
  go_enter Tryd.func19, Tryd.ntmps19
  go_wp2
  refine wp_scope_once 0 rfl ?_
  go_wp2_with (go_at_call 31; refine (may_any (w.heap.size + 1 + 1) s l h o _ (frAt_row (row3c (Below.refl _ _)))).mono ?_)
  rintro e w1 ⟨rfl, b1⟩
  have F := hid (row3c b1)
  have R := hid (row3b b1)
  have bw := bel3 b1
  have hz := siz3 b1
  clear b1
  go_wp2_with (go_at_call 33; refine (isSpace_any x _).mono ?_)
  rintro e w2 ⟨rfl, b2⟩
  have F2 := hid ((b2.block _ (by omega)).trans F.out)
  have R2 := hid ((b2.block _ (by omega)).trans R.out)
  have bw2 : Below w.heap.size w w2 := bw.trans (b2.mono (by omega))
  have hz2 : w.heap.size + 1 + 1 < w2.heap.size := by have := b2.size; omega
  clear b2 F R bw hz
  have d0 := at_row R2.out 0 rfl
  have d1 := at_row R2.out 1 rfl
  have d2 := at_row R2.out 2 rfl
  have d3 := at_row R2.out 3 rfl
  have k0 := fz_row R2.out 0
  have k1 := fz_row R2.out 1
  have k2 := fz_row R2.out 2
  have k3 := fz_row R2.out 3
  go_wp2
  go_step3
  refine ⟨rfl, ?_⟩
  go_wp2
  rw [Exit.noGoto_ret]
  refine bodyPost_ret (v := .tuple #[.agg #[.int .i64 0, .int .i64 0, .int .i64 0, .int .i64 0], .int .i64 0, .int .i64 2]) (by simp [results, Tryd.results19, go_sem, d0, d1, d2, d3]) rfl ⟨rfl, four_set bw2 (by omega) _ _ _ _⟩
set_option maxHeartbeats 2000000 in
theorem claim_range (s l h o x n : Int) (w : World) (hk : Pk.frOk s l h o = true) (hx : x = 0 ∨ x = 1) (hn : 1 ≤ n) (hm : h - l - o < n) :
    Calls Tryd.prog 19 #[.agg #[.int .i64 s, .int .i64 l, .int .i64 h, .int .i64 o], .int .i64 x, .int .i64 n] w fun e w' => e = .returned (.tuple #[.agg #[.int .i64 0, .int .i64 0, .int .i64 0, .int .i64 0], .int .i64 0, .int .i64 4]) ∧ Below w.heap.size w w' := by
  obtain ⟨hs, l0, l1, h0, h1, o0, o1, hlo⟩ := Pk.frOk_yes hk
  have s0 : 0 ≤ s := by omega
  have s1 : s ≤ 1 := by omega
  clear hs
  have hw : Pk.win 0 1 [x] = true := by rw [Pk.win_one]; exact decide_eq_true (by omega)
  clear hx
  go_enter Tryd.func19, Tryd.ntmps19
  go_wp2
  go_step3
  go_wp2_with (go_at_call 31; refine (may_any (w.heap.size + 1 + 1) s l h o _ (frAt_row (row3c (Below.refl _ _)))).mono ?_)
  rintro e w1 ⟨rfl, b1⟩
  have F := hid (row3c b1)
  have R := hid (row3b b1)
  have bw := bel3 b1
  have hz := siz3 b1
  clear b1
  go_wp2_with (go_at_call 33; refine (isSpace_any x _).mono ?_)
  rintro e w2 ⟨rfl, b2⟩
  have F2 := hid ((b2.block _ (by omega)).trans F.out)
  have R2 := hid ((b2.block _ (by omega)).trans R.out)
  have bw2 : Below w.heap.size w w2 := bw.trans (b2.mono (by omega))
  have hz2 : w.heap.size + 1 + 1 < w2.heap.size := by have := b2.size; omega
  clear b2 F R bw hz
  go_wp2_with (go_at_call 34; refine (room_any (w.heap.size + 1 + 1) s l h o _ (frAt_row F2.out) l0 l1 h0 h1 o0 o1).mono ?_)
  rintro e w3 ⟨rfl, b3⟩
  have F3 := hid ((b3.block _ (by omega)).trans F2.out)
  have R3 := hid ((b3.block _ (by omega)).trans R2.out)
  have bw3 : Below w.heap.size w w3 := bw2.trans (b3.mono (by omega))
  clear b3 F2 R2 bw2 hz2
  have d0 := at_row R3.out 0 rfl
  have d1 := at_row R3.out 1 rfl
  have d2 := at_row R3.out 2 rfl
  have d3 := at_row R3.out 3 rfl
  have k0 := fz_row R3.out 0
  have k1 := fz_row R3.out 1
  have k2 := fz_row R3.out 2
  have k3 := fz_row R3.out 3
  go_wp2
  rw [Exit.noGoto_ret]
  refine bodyPost_ret (v := .tuple #[.agg #[.int .i64 0, .int .i64 0, .int .i64 0, .int .i64 0], .int .i64 0, .int .i64 4]) (by simp [results, Tryd.results19, go_sem, d0, d1, d2, d3]) rfl ⟨rfl, four_set bw3 (by omega) _ _ _ _⟩
set_option maxHeartbeats 2000000 in
theorem claim_in (s l h o x n : Int) (w : World) (hk : Pk.frOk s l h o = true) (hx : x = 0 ∨ x = 1) (he : (x == s) = true) (hn : 1 ≤ n) (hm : n ≤ h - l - o) :
    Calls Tryd.prog 19 #[.agg #[.int .i64 s, .int .i64 l, .int .i64 h, .int .i64 o], .int .i64 x, .int .i64 n] w fun e w' => e = .returned (.tuple #[.agg #[.int .i64 s, .int .i64 (l + n), .int .i64 h, .int .i64 o], .int .i64 l, .int .i64 0]) ∧ Below w.heap.size w w' := by
  obtain ⟨hs, l0, l1, h0, h1, o0, o1, hlo⟩ := Pk.frOk_yes hk
  have s0 : 0 ≤ s := by omega
  have s1 : s ≤ 1 := by omega
  clear hs
  have hw : Pk.win 0 1 [x] = true := by rw [Pk.win_one]; exact decide_eq_true (by omega)
  clear hx
  go_enter Tryd.func19, Tryd.ntmps19
  go_wp2
  go_step3
  go_wp2_with (go_at_call 31; refine (may_any (w.heap.size + 1 + 1) s l h o _ (frAt_row (row3c (Below.refl _ _)))).mono ?_)
  rintro e w1 ⟨rfl, b1⟩
  have F := hid (row3c b1)
  have R := hid (row3b b1)
  have bw := bel3 b1
  have hz := siz3 b1
  clear b1
  go_wp2_with (go_at_call 33; refine (isSpace_any x _).mono ?_)
  rintro e w2 ⟨rfl, b2⟩
  have F2 := hid ((b2.block _ (by omega)).trans F.out)
  have R2 := hid ((b2.block _ (by omega)).trans R.out)
  have bw2 : Below w.heap.size w w2 := bw.trans (b2.mono (by omega))
  have hz2 : w.heap.size + 1 + 1 < w2.heap.size := by have := b2.size; omega
  clear b2 F R bw hz
  go_wp2_with (go_at_call 34; refine (room_any (w.heap.size + 1 + 1) s l h o _ (frAt_row F2.out) l0 l1 h0 h1 o0 o1).mono ?_)
  rintro e w3 ⟨rfl, b3⟩
  have F3 := hid ((b3.block _ (by omega)).trans F2.out)
  have R3 := hid ((b3.block _ (by omega)).trans R2.out)
  have bw3 : Below w.heap.size w w3 := bw2.trans (b3.mono (by omega))
  clear b3 F2 R2 bw2 hz2
  go_wp2_with (go_at_call 35; refine (claim_cur (w.heap.size + 1 + 1) s l h o x n _ (frAt_row F3.out) (fz_row F3.out 1) he l0 l1 hn (by omega)).mono ?_)
  rintro e w4 ⟨rfl, hw4⟩
  have F4 := claimed_low F3.out (l + n) hw4
  have R4 := hid ((claimed_block hw4 (w.heap.size + 1) (by omega)).trans R3.out)
  have bw4 : Below w.heap.size w w4 := by rw [hw4]; exact bw3.setCell (by show w.heap.size ≤ w.heap.size + 1 + 1; omega) _
  clear F3 R3 bw3 hw4
  obtain ⟨c0, c1, c2, c3⟩ := F4
  have d0 := at_row R4.out 0 rfl
  have d1 := at_row R4.out 1 rfl
  have d2 := at_row R4.out 2 rfl
  have d3 := at_row R4.out 3 rfl
  have k0 := fz_row R4.out 0
  have k1 := fz_row R4.out 1
  have k2 := fz_row R4.out 2
  have k3 := fz_row R4.out 3
  go_wp2
  rw [Exit.noGoto_ret]
  refine bodyPost_ret (v := .tuple #[.agg #[.int .i64 s, .int .i64 (l + n), .int .i64 h, .int .i64 o], .int .i64 l, .int .i64 0]) (by simp [results, Tryd.results19, go_sem, d0, d1, d2, d3]) rfl ⟨rfl, four_set bw4 (by omega) _ _ _ _⟩
set_option maxHeartbeats 2000000 in
theorem claim_out (s l h o x n : Int) (w : World) (hk : Pk.frOk s l h o = true) (hx : x = 0 ∨ x = 1) (he : (x == s) = false) (hn : 1 ≤ n) (hm : n ≤ h - l - o) :
    Calls Tryd.prog 19 #[.agg #[.int .i64 s, .int .i64 l, .int .i64 h, .int .i64 o], .int .i64 x, .int .i64 n] w fun e w' => e = .returned (.tuple #[.agg #[.int .i64 s, .int .i64 l, .int .i64 h, .int .i64 (o + n)], .int .i64 o, .int .i64 0]) ∧ Below w.heap.size w w' := by
  obtain ⟨hs, l0, l1, h0, h1, o0, o1, hlo⟩ := Pk.frOk_yes hk
  have s0 : 0 ≤ s := by omega
  have s1 : s ≤ 1 := by omega
  clear hs
  have hw : Pk.win 0 1 [x] = true := by rw [Pk.win_one]; exact decide_eq_true (by omega)
  clear hx
  go_enter Tryd.func19, Tryd.ntmps19
  go_wp2
  go_step3
  go_wp2_with (go_at_call 31; refine (may_any (w.heap.size + 1 + 1) s l h o _ (frAt_row (row3c (Below.refl _ _)))).mono ?_)
  rintro e w1 ⟨rfl, b1⟩
  have F := hid (row3c b1)
  have R := hid (row3b b1)
  have bw := bel3 b1
  have hz := siz3 b1
  clear b1
  go_wp2_with (go_at_call 33; refine (isSpace_any x _).mono ?_)
  rintro e w2 ⟨rfl, b2⟩
  have F2 := hid ((b2.block _ (by omega)).trans F.out)
  have R2 := hid ((b2.block _ (by omega)).trans R.out)
  have bw2 : Below w.heap.size w w2 := bw.trans (b2.mono (by omega))
  have hz2 : w.heap.size + 1 + 1 < w2.heap.size := by have := b2.size; omega
  clear b2 F R bw hz
  go_wp2_with (go_at_call 34; refine (room_any (w.heap.size + 1 + 1) s l h o _ (frAt_row F2.out) l0 l1 h0 h1 o0 o1).mono ?_)
  rintro e w3 ⟨rfl, b3⟩
  have F3 := hid ((b3.block _ (by omega)).trans F2.out)
  have R3 := hid ((b3.block _ (by omega)).trans R2.out)
  have bw3 : Below w.heap.size w w3 := bw2.trans (b3.mono (by omega))
  clear b3 F2 R2 bw2 hz2
  go_wp2_with (go_at_call 35; refine (claim_other (w.heap.size + 1 + 1) s l h o x n _ (frAt_row F3.out) (fz_row F3.out 3) he o0 o1 hn (by omega)).mono ?_)
  rintro e w4 ⟨rfl, hw4⟩
  have F4 := claimed_oth F3.out (o + n) hw4
  have R4 := hid ((claimed_block hw4 (w.heap.size + 1) (by omega)).trans R3.out)
  have bw4 : Below w.heap.size w w4 := by rw [hw4]; exact bw3.setCell (by show w.heap.size ≤ w.heap.size + 1 + 1; omega) _
  clear F3 R3 bw3 hw4
  obtain ⟨c0, c1, c2, c3⟩ := F4
  have d0 := at_row R4.out 0 rfl
  have d1 := at_row R4.out 1 rfl
  have d2 := at_row R4.out 2 rfl
  have d3 := at_row R4.out 3 rfl
  have k0 := fz_row R4.out 0
  have k1 := fz_row R4.out 1
  have k2 := fz_row R4.out 2
  have k3 := fz_row R4.out 3
  go_wp2
  rw [Exit.noGoto_ret]
  refine bodyPost_ret (v := .tuple #[.agg #[.int .i64 s, .int .i64 l, .int .i64 h, .int .i64 (o + n)], .int .i64 o, .int .i64 0]) (by simp [results, Tryd.results19, go_sem, d0, d1, d2, d3]) rfl ⟨rfl, four_set bw4 (by omega) _ _ _ _⟩
end Go.Proofs.YtdchcmaceobpeaaDoor
