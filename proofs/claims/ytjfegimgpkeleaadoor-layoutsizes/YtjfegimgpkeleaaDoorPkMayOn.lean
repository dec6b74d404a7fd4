/- Package pack: which requests and which frontiers may be. -/
import Derived.Test.YtjfegimgpkeleaaDoorPkWithinOn
namespace Go.Proofs.YtjfegimgpkeleaaDoor
open Go.RowKit Go.Sort
set_option maxHeartbeats 1000000 in
theorem isRequest_any (x p : Int) (w : World) :
    Calls Tryd.prog 65 #[.agg #[.int .i64 x, .int .i64 p]] w fun e w' => e = .returned (.bool (Pk.rqOk x p)) ∧ Below w.heap.size w w' := by
  by_cases hx : 0 ≤ x ∧ x ≤ 1099511627775
  · have h1 : Pk.win 0 1099511627775 [x] = true := by rw [Pk.win_one]; exact decide_eq_true hx
    by_cases hp : 0 ≤ p ∧ p ≤ 6
    · have h2 : Pk.win 0 6 [p] = true := by rw [Pk.win_one]; exact decide_eq_true hp
      have h3 := hid (Pk.rqOk_mk ⟨hx.1, hx.2, hp.1, hp.2⟩)
      clear hx hp
      go_enter Tryd.func65, Tryd.ntmps65
      go_wp2_with (first | (go_at_call 80; refine (within_i64 0 1099511627775 (w.heap.size + 1) 0 1 1 [x] _ (hid rfl) (by omega) (hid (cells_one (by simp)))).mono ?_; rintro e w' ⟨rfl, rfl⟩) | (go_at_call 81; refine (isPhase_any p _).mono ?_))
      rintro e w1 ⟨rfl, b1⟩
      go_wp2
      go_ret
      exact ⟨ret_bool h3.out.symm, ((below_alloc0 w _).alloc (by simp) _).trans (b1.mono (by simp; omega))⟩
    · have h2 : Pk.win 0 6 [p] = false := by rw [Pk.win_one]; exact decide_eq_false hp
      have h3 := hid (Pk.rqOk_no (e := x) (p := p) (by omega))
      clear hx hp
      go_enter Tryd.func65, Tryd.ntmps65
      go_wp2_with (first | (go_at_call 80; refine (within_i64 0 1099511627775 (w.heap.size + 1) 0 1 1 [x] _ (hid rfl) (by omega) (hid (cells_one (by simp)))).mono ?_; rintro e w' ⟨rfl, rfl⟩) | (go_at_call 81; refine (isPhase_any p _).mono ?_))
      rintro e w1 ⟨rfl, b1⟩
      go_wp2
      go_ret
      exact ⟨ret_bool h3.out.symm, ((below_alloc0 w _).alloc (by simp) _).trans (b1.mono (by simp; omega))⟩
  · have h1 : Pk.win 0 1099511627775 [x] = false := by rw [Pk.win_one]; exact decide_eq_false hx
    have h3 := hid (Pk.rqOk_no (e := x) (p := p) (by omega))
    clear hx
    go_enter Tryd.func65, Tryd.ntmps65
    go_wp2_with (first | (go_at_call 80; refine (within_i64 0 1099511627775 (w.heap.size + 1) 0 1 1 [x] _ (hid rfl) (by omega) (hid (cells_one (by simp)))).mono ?_; rintro e w' ⟨rfl, rfl⟩))
    go_ret
    exact ⟨ret_bool h3.out.symm, ((below_alloc0 w _).alloc (by simp) _)⟩
theorem FrAt.below {w w' : World} {g : Nat} {s l h o : Int} (hf : FrAt w g s l h o) {B : Nat} (hb : Below B w w') (hg : g < B) : FrAt w' g s l h o :=
  ⟨(hb.cell (p := ⟨g, 0, none⟩) hg).trans hf.1, (hb.cell (p := ⟨g, 1, none⟩) hg).trans hf.2.1, (hb.cell (p := ⟨g, 2, none⟩) hg).trans hf.2.2.1, (hb.cell (p := ⟨g, 3, none⟩) hg).trans hf.2.2.2⟩
set_option maxHeartbeats 4000000 in
theorem may_noSpace (g : Nat) (s l h o : Int) (w : World) (hf : FrAt w g s l h o) (h1 : Pk.win 0 1 [s] = false) :
    Calls Tryd.prog 66 #[.pointer (some ⟨g, 0, none⟩)] w fun e w' => e = .returned (.bool false) ∧ Below w.heap.size w w' := by
  have c0 := cell_regrown hf.1
  clear hf
  have cS : ∀ d os, Calls Tryd.prog 82 #[.int .i64 s] (grow (redrawn w d) os) fun e w'' => e = .returned (.bool false) ∧ ∃ p : Regrown, w'' = grow (redrawn w p.d) p.os := fun d os => Calls.regrown_of ((isSpace_any s _).mono fun _ _ e => ⟨e.1.trans (ret_bool h1), e.2⟩)
  go_enter Tryd.func66, Tryd.ntmps66
  go_wp2_with fail
  refine wp_region_quiet_below (by kernel_rfl) (by kernel_rfl) ?_
  repeat (go_big_quiet_step ((first | (go_at_call 82; exact cS _ _))))
  refine wpQuiet_nil ?_
  intro _ hw'
  obtain ⟨⟨dq, osq⟩, hw''⟩ := hw'
  subst hw''
  go_wp2
  go_ret
  exact ⟨rfl, below_regrown w dq osq⟩
/-- What stands while a frontier is asked whether it may be. -/
abbrev MayS (w : World) (g : Nat) (s l h o : Int) : World → Prop := fun w' => w'.cell? ⟨g, 0, none⟩ = some (.int .i64 s) ∧ w'.cell? ⟨g, 1, none⟩ = some (.int .i64 l) ∧ w'.cell? ⟨g, 2, none⟩ = some (.int .i64 h) ∧ w'.cell? ⟨g, 3, none⟩ = some (.int .i64 o) ∧ Below w.heap.size w w'
theorem mayS_drew {w : World} {g : Nat} {s l h o : Int} (hf : FrAt w g s l h o) : MayS w g s l h o w.drew :=
  ⟨hf.1, hf.2.1, hf.2.2.1, hf.2.2.2, (Below.refl _ _).drew⟩
theorem mayS_call {w w1 w2 : World} {g : Nat} {s l h o : Int} (hf : MayS w g s l h o w1) (hb : Below w1.heap.size w1 w2) : MayS w g s l h o w2 := by
  have hg : g < w1.heap.size := block_lt_of_cell hf.1
  have hg2 := hf.2.2.2.2.size
  exact ⟨(hb.cell (p := ⟨g, 0, none⟩) hg).trans hf.1, (hb.cell (p := ⟨g, 1, none⟩) hg).trans hf.2.1, (hb.cell (p := ⟨g, 2, none⟩) hg).trans hf.2.2.1, (hb.cell (p := ⟨g, 3, none⟩) hg).trans hf.2.2.2.1, hf.2.2.2.2.trans (hb.mono hg2)⟩
theorem mayS_alloc {w w1 : World} {g : Nat} {s l h o : Int} (hf : MayS w g s l h o w1) (ob : Obj) : MayS w g s l h o (w1.alloc ob) :=
  mayS_call hf (below_alloc0 w1 ob)
theorem frAt_mayS {w w1 : World} {g : Nat} {s l h o : Int} (hf : MayS w g s l h o w1) : FrAt w1 g s l h o := ⟨hf.1, hf.2.1, hf.2.2.1, hf.2.2.2.1⟩
theorem below_mayS {w w1 : World} {g : Nat} {s l h o : Int} (hf : MayS w g s l h o w1) : Below w.heap.size w w1 := hf.2.2.2.2
set_option maxHeartbeats 4000000 in
theorem may_in (g : Nat) (s l h o : Int) (w : World) (hf : FrAt w g s l h o) (h1 : Pk.win 0 1 [s] = true) (h2 : Pk.win 0 4096 [l, h, o] = true) (l0 : 0 ≤ l) (l1 : l ≤ 4096) (h0 : 0 ≤ h) (h1' : h ≤ 4096) (o0 : 0 ≤ o) (o1 : o ≤ 4096) :
    Calls Tryd.prog 66 #[.pointer (some ⟨g, 0, none⟩)] w fun e w' => e = .returned (.bool (decide (o ≤ h - l))) ∧ Below w.heap.size w w' := by
  have HF := hid hf
  clear hf
  go_enter Tryd.func66, Tryd.ntmps66
  go_wp2_with fail
  go_region_held3 (MayS w g s l h o) (first | assumption | exact mayS_drew HF.out | (refine mayS_alloc ?_ _; assumption) | exact mayS_call (by assumption) (by assumption)) (first | (go_at_call 82; refine (isSpace_any s _).mono ?_; rintro e w1 ⟨rfl, b1⟩) | (go_at_call 83; refine (within_int 0 4096 _ 0 3 3 [l, h, o] _ (hid rfl) (by omega) (hid (cells_three (cell_last _ _ _ 0 _ rfl) (cell_last _ _ _ 1 _ rfl) (cell_last _ _ _ 2 _ rfl)))).mono ?_; rintro e w' ⟨rfl, rfl⟩) | (go_at_call 84; refine (room_any g s l h o _ ?_ l0 l1 h0 h1' o0 o1).mono ?_; (refine frAt_mayS (w := w) ?_; assumption); rintro e w2 ⟨rfl, b2⟩))
  go_wp2
  go_ret
  refine ⟨rfl, below_mayS (g := g) (s := s) (l := l) (h := h) (o := o) ?_⟩
  assumption
set_option maxHeartbeats 4000000 in
theorem may_out (g : Nat) (s l h o : Int) (w : World) (hf : FrAt w g s l h o) (h1 : Pk.win 0 1 [s] = true) (h2 : Pk.win 0 4096 [l, h, o] = false) :
    Calls Tryd.prog 66 #[.pointer (some ⟨g, 0, none⟩)] w fun e w' => e = .returned (.bool false) ∧ Below w.heap.size w w' := by
  have HF := hid hf
  clear hf
  go_enter Tryd.func66, Tryd.ntmps66
  go_wp2_with fail
  first | go_region_held (MayS w g s l h o) (first | assumption | exact mayS_drew HF.out | (refine mayS_alloc ?_ _; assumption) | exact mayS_call (by assumption) (by assumption)) (first | (go_at_call 82; refine (isSpace_any s _).mono ?_; rintro e w1 ⟨rfl, b1⟩) | (go_at_call 83; refine (within_int 0 4096 _ 0 3 3 [l, h, o] _ (hid rfl) (by omega) (hid (cells_three (cell_last _ _ _ 0 _ rfl) (cell_last _ _ _ 1 _ rfl) (cell_last _ _ _ 2 _ rfl)))).mono ?_; rintro e w' ⟨rfl, rfl⟩)) | fail
  go_wp2
  go_ret
  refine ⟨rfl, below_mayS (g := g) (s := s) (l := l) (h := h) (o := o) ?_⟩
  assumption
theorem pmay_any (g : Nat) (s l h o : Int) (w : World) (hf : FrAt w g s l h o) :
    Calls Tryd.prog 66 #[.pointer (some ⟨g, 0, none⟩)] w fun e w' => e = .returned (.bool (Pk.frOk s l h o)) ∧ Below w.heap.size w w' := by
  by_cases hs : s = 0 ∨ s = 1
  · have h1 : Pk.win 0 1 [s] = true := by rw [Pk.win_one]; exact decide_eq_true (by omega)
    by_cases hb : (0 ≤ l ∧ l ≤ 4096) ∧ (0 ≤ h ∧ h ≤ 4096) ∧ (0 ≤ o ∧ o ≤ 4096)
    · have h2 : Pk.win 0 4096 [l, h, o] = true := by rw [Pk.win_three]; exact decide_eq_true hb
      refine (may_in g s l h o w hf h1 h2 hb.1.1 hb.1.2 hb.2.1.1 hb.2.1.2 hb.2.2.1 hb.2.2.2).mono fun _ _ e => ⟨e.1.trans (ret_bool ?_), e.2⟩
      unfold Pk.frOk
      rw [decide_eq_decide]
      omega
    · have h2 : Pk.win 0 4096 [l, h, o] = false := by rw [Pk.win_three]; exact decide_eq_false hb
      exact (may_out g s l h o w hf h1 h2).mono fun _ _ e => ⟨e.1.trans (ret_bool (Pk.frOk_no (by omega)).symm), e.2⟩
  · have h1 : Pk.win 0 1 [s] = false := by rw [Pk.win_one]; exact decide_eq_false (by omega)
    exact (may_noSpace g s l h o w hf h1).mono fun _ _ e => ⟨e.1.trans (ret_bool (Pk.frOk_no (by omega)).symm), e.2⟩
end Go.Proofs.YtjfegimgpkeleaaDoor
/- Package pack's Request and OfRequest. -/
namespace Go.Proofs.YtjfegimgpkeleaaDoor
open Go.RowKit
set_option maxHeartbeats 1000000 in
theorem request_yes (x p : Int) (w : World) (h : Pk.rqOk x p = true) :
    Calls Tryd.prog 49 #[.agg #[.int .i64 x, .int .i64 p]] w fun e w' => e = .returned (.tuple #[.int .u64 (8 * x + p), .int .i64 0]) ∧ Below w.heap.size w w' := by
  obtain ⟨x0, x1, p0, p1⟩ := Pk.rqOk_yes h
  go_enter Tryd.func49, Tryd.ntmps49
  go_wp2_with (go_at_call 65; refine (isRequest_any x p _).mono ?_)
  rintro e w1 ⟨rfl, b1⟩
  have c0 := at_row (row1 b1) 0 rfl
  have c1 := at_row (row1 b1) 1 rfl
  have bw := bel1 b1
  clear b1
  go_wp2
  go_ret2
  exact ⟨rfl, bw⟩
set_option maxHeartbeats 1000000 in
theorem request_no (x p : Int) (w : World) (h : Pk.rqOk x p = false) :
    Calls Tryd.prog 49 #[.agg #[.int .i64 x, .int .i64 p]] w fun e w' => e = .returned (.tuple #[.int .u64 0, .int .i64 2]) ∧ Below w.heap.size w w' := by
  go_enter Tryd.func49, Tryd.ntmps49
  go_wp2_with (go_at_call 65; refine (isRequest_any x p _).mono ?_)
  rintro e w1 ⟨rfl, b1⟩
  have bw := bel1 b1
  clear b1
  go_wp2
  go_ret2
  exact ⟨rfl, bw⟩
end Go.Proofs.YtjfegimgpkeleaaDoor
/- Package pack's Front, Fits, Used, Turn. -/
namespace Go.Proofs.YtjfegimgpkeleaaDoor
open Go.RowKit
theorem frAt_row {w : World} {g : Nat} {s l h o : Int} {t : TypeId} (r : w.heap[g]? = some (.cells #[.int .i64 s, .int .i64 l, .int .i64 h, .int .i64 o] t)) : FrAt w g s l h o :=
  ⟨at_row r 0 rfl, at_row r 1 rfl, at_row r 2 rfl, at_row r 3 rfl⟩
set_option maxHeartbeats 1000000 in
theorem front_yes (s l h o : Int) (w : World) (hk : Pk.frOk s l h o = true) :
    Calls Tryd.prog 50 #[.agg #[.int .i64 s, .int .i64 l, .int .i64 h, .int .i64 o]] w fun e w' => e = .returned (.tuple #[.int .u64 (s + 2 * (l + 8192 * (h + 8192 * o))), .int .i64 0]) ∧ Below w.heap.size w w' := by
  obtain ⟨hs, l0, l1, h0, h1, o0, o1, hlo⟩ := Pk.frOk_yes hk
  have s0 : 0 ≤ s := by omega
  have s1 : s ≤ 1 := by omega
  clear hs
  go_enter Tryd.func50, Tryd.ntmps50
  go_wp2_with (go_at_call 66; refine (pmay_any (w.heap.size + 1) s l h o _ (frAt_row (row2b (Below.refl _ _)))).mono ?_)
  rintro e w1 ⟨rfl, b1⟩
  obtain ⟨c0, c1, c2, c3⟩ := frAt_row (row2b b1)
  have bw := bel2 b1
  clear b1
  go_wp2
  go_ret2
  exact ⟨ret_ie (by omega) rfl, bw⟩
set_option maxHeartbeats 1000000 in
theorem front_no (s l h o : Int) (w : World) (hk : Pk.frOk s l h o = false) :
    Calls Tryd.prog 50 #[.agg #[.int .i64 s, .int .i64 l, .int .i64 h, .int .i64 o]] w fun e w' => e = .returned (.tuple #[.int .u64 0, .int .i64 2]) ∧ Below w.heap.size w w' := by
  go_enter Tryd.func50, Tryd.ntmps50
  go_wp2_with (go_at_call 66; refine (pmay_any (w.heap.size + 1) s l h o _ (frAt_row (row2b (Below.refl _ _)))).mono ?_)
  rintro e w1 ⟨rfl, b1⟩
  have bw := bel2 b1
  clear b1
  go_wp2
  go_ret2
  exact ⟨rfl, bw⟩
theorem within1 (a b x : Int) (w : World) (t : TypeId) :
    Calls Tryd.prog 83 #[.int .i64 a, .int .i64 b, .slice (some ⟨w.heap.size, 0, none⟩) 1 1] (w.alloc (.cells #[.int .i64 x] t)) fun e w' => e = .returned (.bool (Pk.win a b [x])) ∧ Below w.heap.size w w' :=
  (within_int a b w.heap.size 0 1 1 [x] _ (hid rfl) (by omega) (hid (cells_one (cell_last w _ _ 0 _ rfl)))).mono fun _ _ h => ⟨h.1, h.2 ▸ below_alloc0 w _⟩
end Go.Proofs.YtjfegimgpkeleaaDoor
/- Package pack's OfFront. -/
namespace Go.Proofs.YtjfegimgpkeleaaDoor
open Go.RowKit
theorem ret_fe {a b c d a' b' c' d' e e' : Int} (h1 : a = a') (h2 : b = b') (h3 : c = c') (h4 : d = d') (h5 : e = e') : Ending.returned (.tuple #[.agg #[.int .i64 a, .int .i64 b, .int .i64 c, .int .i64 d], .int .i64 e]) = .returned (.tuple #[.agg #[.int .i64 a', .int .i64 b', .int .i64 c', .int .i64 d'], .int .i64 e']) := by rw [h1, h2, h3, h4, h5]
end Go.Proofs.YtjfegimgpkeleaaDoor
/- Package pack's Claim. -/
namespace Go.Proofs.YtjfegimgpkeleaaDoor
open Go.RowKit
theorem claimed_low {w w' : World} {g : Nat} {s l h o : Int} {t : TypeId} (r : w.heap[g]? = some (.cells #[.int .i64 s, .int .i64 l, .int .i64 h, .int .i64 o] t)) (x : Int) (e : w' = w.setCell ⟨g, 1, none⟩ (.int .i64 x)) : FrAt w' g s x h o := by
  subst e
  have c0 := at_row r 0 rfl
  have c1 := at_row r 1 rfl
  have c2 := at_row r 2 rfl
  have c3 := at_row r 3 rfl
  refine ⟨?_, ?_, ?_, ?_⟩ <;> simp [go_sem, c0, c1, c2, c3]
theorem claimed_oth {w w' : World} {g : Nat} {s l h o : Int} {t : TypeId} (r : w.heap[g]? = some (.cells #[.int .i64 s, .int .i64 l, .int .i64 h, .int .i64 o] t)) (x : Int) (e : w' = w.setCell ⟨g, 3, none⟩ (.int .i64 x)) : FrAt w' g s l h x := by
  subst e
  have c0 := at_row r 0 rfl
  have c1 := at_row r 1 rfl
  have c2 := at_row r 2 rfl
  have c3 := at_row r 3 rfl
  refine ⟨?_, ?_, ?_, ?_⟩ <;> simp [go_sem, c0, c1, c2, c3]
theorem claimed_block {w w' : World} {g j : Nat} {v : Value} (e : w' = w.setCell ⟨g, j, none⟩ v) (k : Nat) (hk : k < g) : w'.heap[k]? = w.heap[k]? := by
  subst e
  exact ((Below.refl k.succ w).setCell (p := ⟨g, j, none⟩) hk v).block k (Nat.lt_succ_self k)
end Go.Proofs.YtjfegimgpkeleaaDoor
