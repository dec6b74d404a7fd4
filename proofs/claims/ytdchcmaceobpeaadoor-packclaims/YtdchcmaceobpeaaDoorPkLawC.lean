/- The walk of the law PackClaims. -/
import Derived.Test.YtdchcmaceobpeaaDoorPkWorks
namespace Go.Proofs.YtdchcmaceobpeaaDoor
open Go.RowKit Go.Sort
theorem rows_cells {w : World} {g : Nat} {a b c d : Int} {t : TypeId} (r : w.heap[g]? = some (.cells #[.int .i64 a, .int .i64 b, .int .i64 c, .int .i64 d] t)) :
    w.cell? ⟨g, 0, none⟩ = some (.int .i64 a) ∧ w.cell? ⟨g, 1, none⟩ = some (.int .i64 b) ∧ w.cell? ⟨g, 2, none⟩ = some (.int .i64 c) ∧ w.cell? ⟨g, 3, none⟩ = some (.int .i64 d) :=
  ⟨at_row r 0 rfl, at_row r 1 rfl, at_row r 2 rfl, at_row r 3 rfl⟩
set_option maxHeartbeats 8000000 in
theorem packClaims_walk (s l h o x n z : Int) (w : World) (hN : Names w) : Calls Tryd.prog 5 #[.agg #[.int .i64 s, .int .i64 l, .int .i64 h, .int .i64 o], .int .i64 x, .int .i64 n, .int .i64 z] w fun e w' => e = .returned (.bool true) ∧ Below w.heap.size w w' := by
  have HN := hid hN
  clear hN
  rcases hc : Pk.cl s l h o x n with ⟨a, b, c, d, t, r⟩
  have HC := hid hc
  clear hc
  rcases hu : Pk.us s l h o z with ⟨u, q⟩
  have HU := hid hu
  clear hu
  have HF : Hid (Pk.ft s l h o n = Pk.ft s l h o n) := hid rfl
  generalize hb : Pk.ft s l h o n = fb at HF
  clear HF
  have HF := hid hb
  clear hb
  go_enter Tryd.func5, Tryd.ntmps5
  go_wp2_with (go_at_call 19; refine (claim_at s l h o x n a b c d t r _ HC).mono ?_)
  rintro e w1 ⟨rfl, b1⟩
  have a1 := bel1 b1
  have z1 := siz1 b1
  have X1 := hid (row1 b1)
  clear b1
  obtain ⟨x0, x1, x2, x3⟩ := rows_cells X1.out
  go_wp2_with (go_at_call 20; refine (rclaim_at s l h o x n a b c d t r _ HC).mono ?_)
  rintro e w2 ⟨rfl, b2⟩
  have a2 : Below w.heap.size w w2 := a1.trans ((bel1 b2).mono a1.size)
  have z2 := siz1 b2
  have z2x : w.heap.size < w2.heap.size := by omega
  have X2 := hid (((bel1 b2).block _ z1).trans X1.out)
  have Y2 := hid (row1 b2)
  clear b2 a1 X1 z1 x0 x1 x2 x3
  obtain ⟨x0, x1, x2, x3⟩ := rows_cells X2.out
  go_wp2_with (go_at_call 21; refine (used_at s l h o z u q _ HU).mono ?_)
  rintro e w3 ⟨rfl, b3⟩
  have a3 : Below w.heap.size w w3 := a2.trans ((bel1 b3).mono a2.size)
  have z3 := siz1 b3
  have z3x : w.heap.size < w3.heap.size := by omega
  have z3y : w1.heap.size < w3.heap.size := by omega
  have X3 := hid (((bel1 b3).block _ z2x).trans X2.out)
  have Y3 := hid (((bel1 b3).block _ z2).trans Y2.out)
  have W3 := hid (row1 b3)
  clear b3 a2 X2 Y2 z2 z2x x0 x1 x2 x3
  obtain ⟨x0, x1, x2, x3⟩ := rows_cells X3.out
  go_wp2_with (go_at_call 22; refine (rused_at s l h o z u q _ HU).mono ?_)
  rintro e w4 ⟨rfl, b4⟩
  have a4 : Below w.heap.size w w4 := a3.trans (b4.mono a3.size)
  have X4 := (b4.block _ z3x).trans X3.out
  have Y4 := (b4.block _ z3y).trans Y3.out
  have W4 := (b4.block _ z3).trans W3.out
  clear b4 a3 X3 Y3 W3 z3 z3x z3y x0 x1 x2 x3
  obtain ⟨x0, x1, x2, x3⟩ := rows_cells X4
  obtain ⟨y0, y1, y2, y3⟩ := rows_cells Y4
  obtain ⟨v0, v1, v2, v3⟩ := rows_cells W4
  clear X4 Y4 W4
  have x0 := cell_regrown x0
  have x1 := cell_regrown x1
  have x2 := cell_regrown x2
  have x3 := cell_regrown x3
  have y0 := cell_regrown y0
  have y1 := cell_regrown y1
  have y2 := cell_regrown y2
  have y3 := cell_regrown y3
  have v0 := cell_regrown v0
  have v1 := cell_regrown v1
  have v2 := cell_regrown v2
  have v3 := cell_regrown v3
  have cN : ∀ d os j, Calls Tryd.prog 12 #[.int .i64 j] (grow (redrawn w4 d) os) fun e w'' => e = .returned (.int .i64 j) ∧ ∃ p : Regrown, w'' = grow (redrawn w4 p.d) p.os := fun d os j => Calls.regrown_of ((pkNum j _).mono fun _ _ h => ⟨h.1, h.2 ▸ Below.refl _ _⟩)
  have cF : ∀ d os, Calls Tryd.prog 23 #[.agg #[.int .i64 s, .int .i64 l, .int .i64 h, .int .i64 o], .int .i64 n] (grow (redrawn w4 d) os) fun e w'' => e = .returned (.bool fb) ∧ ∃ p : Regrown, w'' = grow (redrawn w4 p.d) p.os := fun d os => Calls.regrown_of (fits_at s l h o n fb _ HF)
  have cR : ∀ d os, Calls Tryd.prog 24 #[.agg #[.int .i64 s, .int .i64 l, .int .i64 h, .int .i64 o], .int .i64 n] (grow (redrawn w4 d) os) fun e w'' => e = .returned (.bool fb) ∧ ∃ p : Regrown, w'' = grow (redrawn w4 p.d) p.os := fun d os => Calls.regrown_of (rfits_at s l h o n fb _ HF)
  have cW : ∀ d os, Calls Tryd.prog 9 #[] (grow (redrawn w4 d) os) fun e w'' => e = .returned (.bool true) ∧ ∃ p : Regrown, w'' = grow (redrawn w4 p.d) p.os := fun d os => Calls.regrown_of (pkWorks _ ((HN.out.below a4).below (below_regrown w4 d os)))
  go_wp2_with fail
  refine wp_region_quiet_below (by kernel_rfl) (by kernel_rfl) ?_
  repeat (go_big_quiet_step ((first | (go_at_call 12; exact cN _ _ _) | (go_at_call 23; exact cF _ _) | (go_at_call 24; exact cR _ _) | (go_at_call 9; exact cW _ _))))
  refine wpQuiet_nil ?_
  intro _ hw'
  obtain ⟨⟨dq, osq⟩, hw''⟩ := hw'
  subst hw''
  go_wp2
  go_ret
  exact ⟨rfl, a4.trans ((below_regrown w4 dq osq).mono a4.size)⟩
end Go.Proofs.YtdchcmaceobpeaaDoor
