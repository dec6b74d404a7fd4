/- The document's answers for layer 6: Space, Part. -/
import Derived.Test.YtjfegimgpkeleaaDoorLyRef
set_option linter.unusedVariables false
namespace Go.Proofs.YtjfegimgpkeleaaDoor
open Go.RowKit Go.Ly Go.Sh Go.Sort
set_option maxRecDepth 100000 in
set_option maxHeartbeats 4000000 in
theorem rSpace6_lo (t s x : Int) (a : Option Addr) (n c : Nat) (w : World) (t0 : 1 ≤ t) (t1 : t ≤ 8) (s0 : 32 ≤ s) (s1 : s ≤ 4096) (h : x < 3 + t + t) :
    Calls Tryd.prog 44 #[planV t s a n c, .int .i64 x] w fun e w' => e = .returned (.int .i64 (-1)) ∧ Below w.heap.size w w' := by
  have cb := fun W => rBase6_0 t s a n c W t0 t1 s0 s1
  go_enter Tryd.func44, Tryd.ntmps44
  go_wp2_with (go_at_call 22; refine (cb _).mono ?_; rintro e w1 ⟨rfl, b1⟩)
  go_ret
  exact ⟨rfl, bel1 b1⟩
set_option maxRecDepth 100000 in
set_option maxHeartbeats 4000000 in
theorem rSpace6_hi (t s x : Int) (a : Option Addr) (n c : Nat) (w : World) (t0 : 1 ≤ t) (t1 : t ≤ 8) (s0 : 32 ≤ s) (s1 : s ≤ 4096) (h : 3 + t + t + 2 * s ≤ x) :
    Calls Tryd.prog 44 #[planV t s a n c, .int .i64 x] w fun e w' => e = .returned (.int .i64 (-1)) ∧ Below w.heap.size w w' := by
  have cb := fun W => rBase6_0 t s a n c W t0 t1 s0 s1
  have cs := fun W => rSize6 t s a n c W t0 t1 s0 s1
  have h' : 3 + t + t ≤ x := by omega
  go_enter Tryd.func44, Tryd.ntmps44
  go_wp2_with (go_at_call 22; refine (cb _).mono ?_)
  rintro e w1 ⟨rfl, b1⟩
  have B1 := hid (bel1 b1)
  have R1 := row1 b1
  clear b1
  have p0 := at_row R1 0 rfl
  have p1 := at_row R1 1 rfl
  have p2 := at_row R1 2 rfl
  clear R1
  go_wp2_with (go_at_call 16; refine (cs _).mono ?_; rintro e w2 ⟨rfl, b2⟩)
  go_ret
  exact ⟨rfl, B1.out.trans (b2.mono B1.out.size)⟩
set_option maxRecDepth 100000 in
set_option maxHeartbeats 4000000 in
theorem rSpace6_in (t s x q : Int) (a : Option Addr) (n c : Nat) (w : World) (t0 : 1 ≤ t) (t1 : t ≤ 8) (s0 : 32 ≤ s) (s1 : s ≤ 4096) (h0 : 3 + t + t ≤ x) (h1 : x < 3 + t + t + 2 * s) (hq : Hid ((x - (3 + t + t)) / s = q)) :
    Calls Tryd.prog 44 #[planV t s a n c, .int .i64 x] w fun e w' => e = .returned (.int .i64 q) ∧ Below w.heap.size w w' := by
  have cb := fun W => rBase6_0 t s a n c W t0 t1 s0 s1
  have cs := fun W => rSize6 t s a n c W t0 t1 s0 s1
  have z0 : 0 ≤ x - (3 + t + t) := by omega
  have sne : (s == 0) = false := by rw [beq_eq_false_iff_ne]; omega
  go_enter Tryd.func44, Tryd.ntmps44
  go_wp2_with (go_at_call 22; refine (cb _).mono ?_)
  rintro e w1 ⟨rfl, b1⟩
  have B1 := hid (bel1 b1)
  have R1 := row1 b1
  have HR1 := hid R1
  clear b1
  have p0 := at_row R1 0 rfl
  have p1 := at_row R1 1 rfl
  have p2 := at_row R1 2 rfl
  clear R1
  go_wp2_with (go_at_call 16; refine (cs _).mono ?_)
  rintro e w2 ⟨rfl, b2⟩
  have R2 := row_below HR1.out b2
  have B2 := hid (B1.out.trans (b2.mono B1.out.size))
  clear p0 p1 p2 b2 B1 HR1
  have p0 := at_row R2 0 rfl
  have p1 := at_row R2 1 rfl
  have p2 := at_row R2 2 rfl
  clear R2
  go_wp2_with fail
  go_ret
  exact ⟨ret_int hq.out, B2.out⟩
/-- What is read and written while a part is told. -/
def Rst (g h : Nat) (t s : Int) (a : Option Addr) (n c : Nat) (W : World) : Prop := g ≠ h ∧ W.heap[g]? = some (.cells #[.int .i64 t, .int .i64 s, .slice a n c] 24) ∧ ∃ u v z, W.heap[h]? = some (.cells #[u, v, z] 45)
def cuV (W : World) (h i : Nat) : Value := (W.cell? ⟨h, i, none⟩).getD undef
abbrev PtS (g h : Nat) (t s : Int) (a : Option Addr) (n c : Nat) (W : World) : Prop :=
  W.cell? ⟨g, 0, none⟩ = some (.int .i64 t) ∧ W.cell? ⟨g, 1, none⟩ = some (.int .i64 s) ∧ W.cell? ⟨g, 2, none⟩ = some (.slice a n c) ∧
  W.cell? ⟨h, 0, none⟩ = some (cuV W h 0) ∧ W.cell? ⟨h, 1, none⟩ = some (cuV W h 1) ∧ W.cell? ⟨h, 2, none⟩ = some (cuV W h 2) ∧
  W.frozen? ⟨h, 0, none⟩ = false ∧ W.frozen? ⟨h, 1, none⟩ = false ∧ W.frozen? ⟨h, 2, none⟩ = false ∧ Rst g h t s a n c W
theorem ptS_of {g h : Nat} {t s : Int} {a : Option Addr} {n c : Nat} {W : World} (k : Rst g h t s a n c W) : PtS g h t s a n c W := by
  obtain ⟨hne, hg, u, v, z, hh⟩ := k
  refine ⟨at_row hg 0 rfl, at_row hg 1 rfl, at_row hg 2 rfl, ?_, ?_, ?_, fz_row hh 0, fz_row hh 1, fz_row hh 2, ⟨hne, hg, u, v, z, hh⟩⟩
  · rw [cuV, at_row hh 0 rfl]; rfl
  · rw [cuV, at_row hh 1 rfl]; rfl
  · rw [cuV, at_row hh 2 rfl]; rfl
theorem ptS_below {g h : Nat} {t s : Int} {a : Option Addr} {n c : Nat} {W W' : World} (k : PtS g h t s a n c W) (b : Below W.heap.size W W') : PtS g h t s a n c W' := by
  obtain ⟨hne, hg, u, v, z, hh⟩ := k.2.2.2.2.2.2.2.2.2
  exact ptS_of ⟨hne, row_below hg b, u, v, z, row_below hh b⟩
theorem other_row {w : World} {g h i : Nat} {v : Value} {O : Obj} (hne : g ≠ h) (k : w.heap[g]? = some O) : (w.setCell ⟨h, i, none⟩ v).heap[g]? = some O := by
  simp [World.setCell, Array.getElem?_modify, Ne.symm hne, k]
theorem rst_set3 {g h : Nat} {t s : Int} {a : Option Addr} {n c : Nat} {W : World} (k : PtS g h t s a n c W) (x y z' : Value) : PtS g h t s a n c (((W.setCell ⟨h, 0, none⟩ x).setCell ⟨h, 1, none⟩ y).setCell ⟨h, 2, none⟩ z') := by
  obtain ⟨hne, hg, u, v, z, hh⟩ := k.2.2.2.2.2.2.2.2.2
  exact ptS_of ⟨hne, other_row hne (other_row hne (other_row hne hg)), x, y, z', set3_row hh x y z'⟩
theorem ptS_drew {g h : Nat} {t s : Int} {a : Option Addr} {n c : Nat} {W : World} (k : PtS g h t s a n c W) : PtS g h t s a n c W.drew := ptS_of k.2.2.2.2.2.2.2.2.2
set_option maxRecDepth 100000 in
set_option maxHeartbeats 4000000 in
theorem rPart6_sp (t s x q r : Int) (a : Option Addr) (n c : Nat) (w : World) (t0 : 1 ≤ t) (t1 : t ≤ 8) (s0 : 32 ≤ s) (s1 : s ≤ 4096) (h0 : 3 + t + t ≤ x) (h1 : x < 3 + t + t + 2 * s) (hq : Hid ((x - (3 + t + t)) / s = q)) (q0 : 0 ≤ q) (hr : Hid ((x - (3 + t + t)) % s = r)) :
    Calls Tryd.prog 26 #[planV t s a n c, .int .i64 x] w fun e w' => e = .returned (partV 6 q r) ∧ Below w.heap.size w w' := by
  have cp := fun W => rSpace6_in t s x q a n c W t0 t1 s0 s1 h0 h1 hq
  have cb := fun W => rBase6_0 t s a n c W t0 t1 s0 s1
  have x0 : 0 ≤ x := by omega
  have x2 : 2 < x := by omega
  have x9 : x ≤ 20000 := by omega
  have sne : (s == 0) = false := by rw [beq_eq_false_iff_ne]; omega
  have B0 : 0 ≤ 3 + t + t := by omega
  have B9 : 3 + t + t ≤ 20 := by omega
  clear h1
  generalize 3 + t + t = b at *
  obtain ⟨z, hz⟩ : ∃ z, z = x - b := ⟨_, rfl⟩
  have z0 : 0 ≤ z := by omega
  have z9 : z ≤ 20000 := by omega
  rw [← hz] at hr hq
  have hz' : x - b = z := hz.symm
  have sz : ¬ s = 0 := by omega
  have htm : z.tmod s = z % s := Int.tmod_eq_emod_of_nonneg z0
  clear hz
  go_enter Tryd.func26, Tryd.ntmps26
  go_wp2_with (go_at_call 44; refine (cp _).mono ?_)
  rintro e w1 ⟨rfl, b1⟩
  have B1 := hid (bel2 b1)
  have HS := hid (ptS_of (a := a) (n := n) (c := c) ⟨by omega, row2a b1, _, _, _, row2b b1⟩)
  clear b1
  go_wp2_with fail
  go_region_held3 (PtS w.heap.size (w.heap.size + 1) t s a n c) (with_reducible (first | assumption | exact HS.out | exact ptS_drew HS.out | (refine ptS_below (W := ?w1) ?hf ?hb; (case hb => assumption); (case hf => assumption)) | (refine rst_set3 ?_ _ _ _; assumption))) (first | (go_at_call 22; refine (cb _).mono ?_; rintro e w3 ⟨rfl, b3⟩))
  have hzw : IntKind.i64.wrap z = z := IntWalk.i64_in z ⟨by omega, by omega⟩
  rw [hzw, htm, hr.out]
  have HR := hid (ptS_below (ptS_drew HS.out) b3)
  have HB := hid (B1.out.trans (((Below.refl _ w1).drew.trans b3).mono B1.out.size))
  clear HS B1 b3
  go_wp2
  obtain ⟨_, _, u, v, zz, hh⟩ := HR.out.2.2.2.2.2.2.2.2.2
  have hrow := set3_row hh (.int .i64 6) (.int .i64 q) (.int .i64 r)
  refine bodyPost_ret (v := partV 6 q r) (results_cell_row Tryd.results26 _ _ (w.heap.size + 1) 45 _ (0, 0) _ rfl hrow Tryd.underlying45 rfl part_size) rfl ⟨rfl, ?_⟩
  exact three_set HB.out (by omega) _ _ _
set_option maxRecDepth 100000 in
set_option maxHeartbeats 4000000 in
theorem rPart6_low (t s x : Int) (a : Option Addr) (n c : Nat) (w : World) (t0 : 1 ≤ t) (t1 : t ≤ 8) (s0 : 32 ≤ s) (s1 : s ≤ 4096) (h0 : 0 ≤ x) (h1 : x ≤ 2) :
    Calls Tryd.prog 26 #[planV t s a n c, .int .i64 x] w fun e w' => e = .returned (partV (1 + x) 0 0) ∧ Below w.heap.size w w' := by
  have cp := fun W => rSpace6_lo t s x a n c W t0 t1 s0 s1 (by omega)
  go_enter Tryd.func26, Tryd.ntmps26
  go_wp2_with (go_at_call 44; refine (cp _).mono ?_)
  rintro e w1 ⟨rfl, b1⟩
  have B1 := hid (bel2 b1)
  have Rx := row2b b1
  clear b1
  have d0 := at_row Rx 0 rfl
  have d1 := at_row Rx 1 rfl
  have d2 := at_row Rx 2 rfl
  have f0 := fz_row Rx 0
  have f1 := fz_row Rx 1
  have f2 := fz_row Rx 2
  go_wp2
  have hrow := set3_row Rx (.int .i64 (1 + x)) (.int .i64 0) (.int .i64 0)
  refine bodyPost_ret (v := partV (1 + x) 0 0) (results_cell_row Tryd.results26 _ _ (w.heap.size + 1) 45 _ (0, 0) _ rfl hrow Tryd.underlying45 rfl part_size) rfl ⟨rfl, ?_⟩
  exact three_set B1.out (by omega) _ _ _
set_option maxRecDepth 100000 in
set_option maxHeartbeats 4000000 in
theorem rPart6_ack (t s x : Int) (a : Option Addr) (n c : Nat) (w : World) (t0 : 1 ≤ t) (t1 : t ≤ 8) (s0 : 32 ≤ s) (s1 : s ≤ 4096) (h0 : 3 ≤ x) (h1 : x < 3 + t) :
    Calls Tryd.prog 26 #[planV t s a n c, .int .i64 x] w fun e w' => e = .returned (partV 4 (x - 3) 0) ∧ Below w.heap.size w w' := by
  have cp := fun W => rSpace6_lo t s x a n c W t0 t1 s0 s1 (by omega)
  have x0 : 0 ≤ x := by omega
  have x2 : 2 < x := by omega
  go_enter Tryd.func26, Tryd.ntmps26
  go_wp2_with (go_at_call 44; refine (cp _).mono ?_)
  rintro e w1 ⟨rfl, b1⟩
  have B1 := hid (bel2 b1)
  have Rp := row2a b1
  have Rx := row2b b1
  clear b1
  have p0 := at_row Rp 0 rfl
  have d0 := at_row Rx 0 rfl
  have d1 := at_row Rx 1 rfl
  have d2 := at_row Rx 2 rfl
  have f0 := fz_row Rx 0
  have f1 := fz_row Rx 1
  have f2 := fz_row Rx 2
  go_wp2
  have hrow := set3_row Rx (.int .i64 4) (.int .i64 (x - 3)) (.int .i64 0)
  refine bodyPost_ret (v := partV 4 (x - 3) 0) (results_cell_row Tryd.results26 _ _ (w.heap.size + 1) 45 _ (0, 0) _ rfl hrow Tryd.underlying45 rfl part_size) rfl ⟨rfl, ?_⟩
  exact three_set B1.out (by omega) _ _ _
set_option maxRecDepth 100000 in
set_option maxHeartbeats 4000000 in
theorem rPart6_list (t s x : Int) (a : Option Addr) (n c : Nat) (w : World) (t0 : 1 ≤ t) (t1 : t ≤ 8) (s0 : 32 ≤ s) (s1 : s ≤ 4096) (h0 : 3 + t ≤ x) (h1 : x < 3 + t + t) :
    Calls Tryd.prog 26 #[planV t s a n c, .int .i64 x] w fun e w' => e = .returned (partV 5 (x - 3 - t) 0) ∧ Below w.heap.size w w' := by
  have cp := fun W => rSpace6_lo t s x a n c W t0 t1 s0 s1 (by omega)
  have x0 : 0 ≤ x := by omega
  have x2 : 2 < x := by omega
  have x3 : 3 ≤ x := by omega
  have x4 : x < 3 + 2 * t := by omega
  go_enter Tryd.func26, Tryd.ntmps26
  go_wp2_with (go_at_call 44; refine (cp _).mono ?_)
  rintro e w1 ⟨rfl, b1⟩
  have B1 := hid (bel2 b1)
  have Rp := row2a b1
  have Rx := row2b b1
  clear b1
  have p0 := at_row Rp 0 rfl
  have d0 := at_row Rx 0 rfl
  have d1 := at_row Rx 1 rfl
  have d2 := at_row Rx 2 rfl
  have f0 := fz_row Rx 0
  have f1 := fz_row Rx 1
  have f2 := fz_row Rx 2
  go_wp2
  have hrow := set3_row Rx (.int .i64 5) (.int .i64 (x - 3 - t)) (.int .i64 0)
  refine bodyPost_ret (v := partV 5 (x - 3 - t) 0) (results_cell_row Tryd.results26 _ _ (w.heap.size + 1) 45 _ (0, 0) _ rfl hrow Tryd.underlying45 rfl part_size) rfl ⟨rfl, ?_⟩
  exact three_set B1.out (by omega) _ _ _
set_option maxRecDepth 100000 in
set_option maxHeartbeats 4000000 in
theorem rPart6_neg (t s x : Int) (a : Option Addr) (n c : Nat) (w : World) (t0 : 1 ≤ t) (t1 : t ≤ 8) (s0 : 32 ≤ s) (s1 : s ≤ 4096) (h0 : x < 0) :
    Calls Tryd.prog 26 #[planV t s a n c, .int .i64 x] w fun e w' => e = .returned (partV 0 0 0) ∧ Below w.heap.size w w' := by
  have cp := fun W => rSpace6_lo t s x a n c W t0 t1 s0 s1 (by omega)
  have x3 : x < 3 := by omega
  go_enter Tryd.func26, Tryd.ntmps26
  go_wp2_with (go_at_call 44; refine (cp _).mono ?_)
  rintro e w1 ⟨rfl, b1⟩
  have B1 := hid (bel2 b1)
  have Rp := row2a b1
  have Rx := row2b b1
  clear b1
  have p0 := at_row Rp 0 rfl
  have d0 := at_row Rx 0 rfl
  have d1 := at_row Rx 1 rfl
  have d2 := at_row Rx 2 rfl
  have f0 := fz_row Rx 0
  have f1 := fz_row Rx 1
  have f2 := fz_row Rx 2
  go_wp2
  have hrow := set3_row Rx (.int .i64 0) (.int .i64 0) (.int .i64 0)
  refine bodyPost_ret (v := partV 0 0 0) (results_cell_row Tryd.results26 _ _ (w.heap.size + 1) 45 _ (0, 0) _ rfl hrow Tryd.underlying45 rfl part_size) rfl ⟨rfl, ?_⟩
  exact three_set B1.out (by omega) _ _ _
set_option maxRecDepth 100000 in
set_option maxHeartbeats 4000000 in
theorem rPart6_big (t s x : Int) (a : Option Addr) (n c : Nat) (w : World) (t0 : 1 ≤ t) (t1 : t ≤ 8) (s0 : 32 ≤ s) (s1 : s ≤ 4096) (h0 : 3 + t + t + 2 * s ≤ x) :
    Calls Tryd.prog 26 #[planV t s a n c, .int .i64 x] w fun e w' => e = .returned (partV 0 0 0) ∧ Below w.heap.size w w' := by
  have cp := fun W => rSpace6_hi t s x a n c W t0 t1 s0 s1 (by omega)
  have x0 : 0 ≤ x := by omega
  have x2 : 2 < x := by omega
  have x3 : 3 ≤ x := by omega
  have x4 : 3 + t ≤ x := by omega
  have x5 : 3 + 2 * t ≤ x := by omega
  go_enter Tryd.func26, Tryd.ntmps26
  go_wp2_with (go_at_call 44; refine (cp _).mono ?_)
  rintro e w1 ⟨rfl, b1⟩
  have B1 := hid (bel2 b1)
  have Rp := row2a b1
  have Rx := row2b b1
  clear b1
  have p0 := at_row Rp 0 rfl
  have d0 := at_row Rx 0 rfl
  have d1 := at_row Rx 1 rfl
  have d2 := at_row Rx 2 rfl
  have f0 := fz_row Rx 0
  have f1 := fz_row Rx 1
  have f2 := fz_row Rx 2
  go_wp2
  have hrow := set3_row Rx (.int .i64 0) (.int .i64 0) (.int .i64 0)
  refine bodyPost_ret (v := partV 0 0 0) (results_cell_row Tryd.results26 _ _ (w.heap.size + 1) 45 _ (0, 0) _ rfl hrow Tryd.underlying45 rfl part_size) rfl ⟨rfl, ?_⟩
  exact three_set B1.out (by omega) _ _ _
/-- What the document's Part answers, of a plan that may be: its kind is 0 where there is none. -/
theorem rPart6_at (t s x : Int) (k q r : Int) (a : Option Addr) (n c : Nat) (w : World) (t0 : 1 ≤ t) (t1 : t ≤ 8) (s0 : 32 ≤ s) (s1 : s ≤ 4096) (h : Hid ((if 0 ≤ x ∧ x < 3 + t + t + 2 * s then pt t s x else (0, 0, 0)) = (k, q, r))) :
    Calls Tryd.prog 26 #[planV t s a n c, .int .i64 x] w fun e w' => e = .returned (partV k q r) ∧ Below w.heap.size w w' := by
  have h := h.out
  by_cases hi : 0 ≤ x ∧ x < 3 + t + t + 2 * s
  · rw [if_pos hi] at h
    rcases pt_is s0 hi.1 hi.2 with ⟨e, f⟩ | ⟨e, f⟩ | ⟨e, f⟩ | ⟨e, e2, f⟩ | ⟨e, e2, f⟩ | ⟨e, e2, f⟩ | ⟨e, f⟩ <;> rw [f] at h <;> simp only [Prod.mk.injEq] at h <;> obtain ⟨rfl, rfl, rfl⟩ := h
    · subst e; exact rPart6_low t s 0 a n c w t0 t1 s0 s1 (by omega) (by omega)
    · subst e; exact rPart6_low t s 1 a n c w t0 t1 s0 s1 (by omega) (by omega)
    · subst e; exact rPart6_low t s 2 a n c w t0 t1 s0 s1 (by omega) (by omega)
    · exact rPart6_ack t s x a n c w t0 t1 s0 s1 e e2
    · exact rPart6_list t s x a n c w t0 t1 s0 s1 e e2
    · refine rPart6_sp t s x _ _ a n c w t0 t1 s0 s1 e hi.2 (hid (Int.ediv_eq_zero_of_lt (by omega) (by omega))) (by omega) (hid (Int.emod_eq_of_lt (by omega) (by omega)))
    · have e0 : x - (3 + t + t) = (x - (3 + t + t + s)) + 1 * s := by omega
      refine rPart6_sp t s x _ _ a n c w t0 t1 s0 s1 (by omega) hi.2 (hid ?_) (by omega) (hid ?_)
      · rw [e0, Int.add_mul_ediv_right _ _ (by omega), Int.ediv_eq_zero_of_lt (by omega) (by omega)]; rfl
      · rw [e0, Int.add_mul_emod_self_right, Int.emod_eq_of_lt (by omega) (by omega)]
  · rw [if_neg hi] at h
    simp only [Prod.mk.injEq] at h
    obtain ⟨rfl, rfl, rfl⟩ := h
    by_cases hn : x < 0
    · exact rPart6_neg t s x a n c w t0 t1 s0 s1 hn
    · exact rPart6_big t s x a n c w t0 t1 s0 s1 (by omega)
end Go.Proofs.YtjfegimgpkeleaaDoor
