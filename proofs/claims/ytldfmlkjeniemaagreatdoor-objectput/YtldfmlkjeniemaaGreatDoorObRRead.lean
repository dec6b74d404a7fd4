/- The document's Read (lapidaryref07). -/
import Derived.Test.YtldfmlkjeniemaaGreatDoorObRefOn
import Derived.Test.YtldfmlkjeniemaaGreatDoorObReadTOn
set_option linter.unusedVariables false
set_option linter.unusedSimpArgs false
namespace Go.Proofs.YtldfmlkjeniemaaGreatDoor
open Go.RowKit Go.Ly Go.Hd Go.Sh Go.Ob Go.Sort
set_option maxRecDepth 100000 in
set_option maxHeartbeats 2000000 in
theorem oRead_err (t s : Int) (a : Option Addr) (n c : Nat) (la : Option Addr) (N lc : Nat) (x er : Int) (w : World) (he : (er != 0) = true)
    (hs : ∀ W, Below w.heap.size w W → Calls Tryz.prog 27 #[.slice la N lc, planV t s a n c, .int .i64 x] W fun e w' => e = .returned (.int .i64 er) ∧ Below W.heap.size W w') :
    Calls Tryz.prog 10 #[.slice la N lc, planV t s a n c, .int .i64 x] w fun e w' => e = .returned (.tuple #[obV 0 0 0 0 (.slice none 0 0), .int .i64 er]) ∧ Below w.heap.size w w' := by
  obtain ⟨R0, R1, z1, B1⟩ := boxes2 w (plO t s a n c) (obO 0 0 0 0 (.slice none 0 0))
  have cs := hs _ B1
  have B2 := hid B1
  have H1 := hid R1
  have d0 := at_row R0 0 rfl
  have d1 := at_row R0 1 rfl
  have d2 := at_row R0 2 rfl
  clear hs B1 R0 R1 z1
  go_enter Tryz.func10, Tryz.ntmps10
  go_wp2_with (go_at_call 27; refine cs.mono ?_)
  rintro e w1 ⟨rfl, b1⟩
  have R1 := row_below H1.out b1
  have B3 := hid (B2.out.trans (b1.mono B2.out.size))
  have e0 := at_row R1 0 rfl
  have e1 := at_row R1 1 rfl
  have e2 := at_row R1 2 rfl
  have e3 := at_row R1 3 rfl
  have e4 := at_row R1 4 rfl
  have f0 := fz_row R1 0
  have f1 := fz_row R1 1
  have f2 := fz_row R1 2
  have f3 := fz_row R1 3
  have f4 := fz_row R1 4
  clear cs d0 d1 d2 b1
  go_wp2
  have Rf := set5_row R1 (.int .i64 0) (.int .i64 0) (.int .i64 0) (.int .u64 0) (.slice none 0 0)
  generalize hWf : World.setCell (World.setCell (World.setCell (World.setCell (World.setCell w1 _ _) _ _) _ _) _ _) _ _ = Wf at *
  have g0 := at_row Rf 0 rfl
  have g1 := at_row Rf 1 rfl
  have g2 := at_row Rf 2 rfl
  have g3 := at_row Rf 3 rfl
  have g4 := at_row Rf 4 rfl
  refine bodyPost_ret (v := .tuple #[obV 0 0 0 0 (.slice none 0 0), .int .i64 er]) (by simp [results, Tryz.results10, go_sem, g0, g1, g2, g3, g4]) rfl ?_
  subst hWf
  exact ⟨rfl, five_set B3.out (by omega) _ _ _ _ _⟩
abbrev C3 (g0 : Nat) (v0 v1 : Value) (b o : Nat) (v2 : Value) (W : World) : Prop := W.cell? ⟨g0, 0, none⟩ = some v0 ∧ W.cell? ⟨g0, 1, none⟩ = some v1 ∧ W.cell? ⟨b, o, none⟩ = some v2
theorem c3_below {g0 b o : Nat} {v0 v1 v2 : Value} {W W' : World} (h : C3 g0 v0 v1 b o v2 W) (k : Below W.heap.size W W') : C3 g0 v0 v1 b o v2 W' := ⟨hcell_below h.1 k, hcell_below h.2.1 k, hcell_below h.2.2 k⟩
theorem c3_set {g0 b o G j : Nat} {v0 v1 v2 v : Value} {W : World} (h : C3 g0 v0 v1 b o v2 W) (h0 : g0 ≠ G) (h1 : b ≠ G) : C3 g0 v0 v1 b o v2 (W.setCell ⟨G, j, none⟩ v) :=
  ⟨(World.cell?_setCell_other W _ _ v (fun e => by cases e; omega)).trans h.1, (World.cell?_setCell_other W _ _ v (fun e => by cases e; omega)).trans h.2.1, (World.cell?_setCell_other W _ _ v (fun e => by cases e; omega)).trans h.2.2⟩
theorem c3_set5 {g0 b o G : Nat} {v0 v1 v2 x0 x1 x2 x3 x4 : Value} {W : World} (h : C3 g0 v0 v1 b o v2 W) (h0 : g0 ≠ G) (h1 : b ≠ G) : C3 g0 v0 v1 b o v2 (((((W.setCell ⟨G, 0, none⟩ x0).setCell ⟨G, 1, none⟩ x1).setCell ⟨G, 2, none⟩ x2).setCell ⟨G, 3, none⟩ x3).setCell ⟨G, 4, none⟩ x4) :=
  c3_set (c3_set (c3_set (c3_set (c3_set h h0 h1) h0 h1) h0 h1) h0 h1) h0 h1
set_option maxRecDepth 100000 in
set_option maxHeartbeats 4000000 in
theorem oRead_in (t s : Int) (a : Option Addr) (n c : Nat) (ss : List ByteArray) (b off lc : Nat) (xs : List Int) (q m : Nat) (sh mk_ lk : Int) (w : World) (hx : Ws w b off xs) (hi : InW xs) (hl9 : xs.length ≤ 9000) (hlc : xs.length ≤ lc) (hqm : q + m + 2 ≤ xs.length) (hm8 : m ≤ 8) (ho : Hid (ofv (wat xs q) = (sh, mk_, true))) (hlk : Hid (wat xs (q + 1) = lk)) (Z : Int) (hZ : Hid ((m : Int) + 2 = Z))
    (hs : ∀ W, Below w.heap.size w W → Calls Tryz.prog 27 #[.slice (some ⟨b, off, none⟩) xs.length lc, planV t s a n c, .int .i64 (q : Int)] W fun e w' => e = .returned (.int .i64 0) ∧ Below W.heap.size W w')
    (hz : ∀ W, Below w.heap.size w W → Calls Tryz.prog 29 #[.slice (some ⟨b, off, none⟩) xs.length lc, planV t s a n c, .int .i64 (q : Int)] W fun e w' => e = .returned (.int .i64 Z) ∧ Below W.heap.size W w') :
    Calls Tryz.prog 10 #[.slice (some ⟨b, off, none⟩) xs.length lc, planV t s a n c, .int .i64 (q : Int)] w fun e w' => ∃ v, e = .returned (.tuple #[obV q sh mk_ lk v, .int .i64 0]) ∧ FsAt w.heap.size w' v (flw xs q m) ∧ Below w.heap.size w w' := by
  obtain ⟨i0, hi0, hz0, hz1, hz2⟩ := info_parts rinfo_u64
  obtain ⟨R0, R1, z1, B1⟩ := boxes2 w (plO t s a n c) (obO 0 0 0 0 (.slice none 0 0))
  have cs := hs _ B1
  have B2 := hid B1
  have H0 := hid R0
  have H1 := hid R1
  have HX := hid hx
  have hb := hi.get q
  have co := fun W => hrof_at (wat xs q) sh mk_ true W hb.1 hb.2 ho.out
  have hql : (q : Int) < xs.length := by omega
  have hbw := hid (show b < w.heap.size from block_lt_of_cell (hx q (by omega)))
  have hq0 : 0 ≤ (q : Int) := by omega
  have d0 := at_row R0 0 rfl
  have d1 := at_row R0 1 rfl
  have d2 := at_row R0 2 rfl
  clear hs B1 R0 R1 hi hb ho
  go_enter Tryz.func10, Tryz.ntmps10
  go_wp2_with (go_at_call 27; refine cs.mono ?_)
  rintro e w1 ⟨rfl, b1⟩
  have R2 := hid (row_below H0.out b1)
  have Q2 := hid (row_below H1.out b1)
  have B3 := hid (B2.out.trans (b1.mono B2.out.size))
  have hc := (HX.out.bel B3.out) q (by omega)
  clear cs d0 d1 d2 b1 H0 H1 B2
  go_wp2_with (go_at_call 28; refine (co _).mono ?_)
  rintro e w2 ⟨rfl, b2⟩
  have R3 := hid (row_below (row_below R2.out b2) (below_alloc0 w2 (.cells #[.int .i64 sh, .int .i64 mk_] 38)))
  have Q3 := hid (row_below (row_below Q2.out b2) (below_alloc0 w2 (.cells #[.int .i64 sh, .int .i64 mk_] 38)))
  have H3 := hid (heap_alloc_last w2 (.cells #[.int .i64 sh, .int .i64 mk_] 38))
  have B4 := hid (B3.out.trans (b2.mono B3.out.size))
  have B5 := hid (B4.out.trans ((below_alloc0 w2 (.cells #[.int .i64 sh, .int .i64 mk_] 38)).mono B4.out.size))
  have cz := hz _ B5.out
  have d0 := at_row R3.out 0 rfl
  have d1 := at_row R3.out 1 rfl
  have d2 := at_row R3.out 2 rfl
  have zB := (Array.getElem?_eq_some_iff.1 (row_below Q2.out b2)).1
  clear hc co b2 R2 Q2 B3 hz
  go_wp2_with (go_at_call 29; refine cz.mono ?_)
  rintro e w3 ⟨rfl, b3⟩
  have Q4 := hid (row_below Q3.out b3)
  have H4 := hid (row_below H3.out b3)
  have B6 := hid (B5.out.trans (b3.mono B5.out.size))
  have X4 := hid (HX.out.bel B6.out)
  clear cz d0 d1 d2 b3 R3 Q3 H3 B4 B5 HX
  generalize w2.heap.size = g0 at *
  go_wp2_with fail
  have HS := hid (show C3 g0 (.int .i64 sh) (.int .i64 mk_) b (off + (q + 1)) (.int .u64 lk) w3 from ⟨at_row H4.out 0 rfl, at_row H4.out 1 rfl, by rw [← hlk.out]; exact X4.out (q + 1) (by omega)⟩)
  have hw1 := hid (show IntKind.i64.wrap ((q : Int) + 1) = (q : Int) + 1 from IntWalk.i64_in _ ⟨by omega, by omega⟩)
  have hw2 := hid (show IntKind.i64.wrap ((q : Int) + 2) = (q : Int) + 2 from IntWalk.i64_in _ ⟨by omega, by omega⟩)
  have hw3 := hid (show IntKind.i64.wrap ((q : Int) + Z) = (q : Int) + (m : Int) + 2 by have := hZ.out; rw [IntWalk.i64_in _ ⟨by omega, by omega⟩]; omega)
  have hq1 : (q : Int) + 1 < xs.length := by omega
  have hq2 : 0 ≤ (q : Int) + 1 := by omega
  have hq3 : 0 ≤ (q : Int) + 2 := by omega
  have hq4 : (q : Int) + 2 ≤ (q : Int) + (m : Int) + 2 := by omega
  have hq5 : (q : Int) + (m : Int) + 2 ≤ lc := by omega
  obtain ⟨ad, had, HN⟩ : ∃ ad, Hid ((if lc = q + 2 then some (⟨b, off, none⟩ : Addr) else some ⟨b, off + (q + 2), none⟩) = some ad) ∧ Hid (∀ W', Below w3.heap.size w3 W' → ∀ j u, ((flw xs q m).map (Value.int .u64))[j]? = some u → W'.cell? (ad.add j) = some u) := by
    by_cases hlc2 : lc = q + 2
    · refine ⟨_, hid (if_pos hlc2), hid (fun W' hW j u hu => ?_)⟩
      have hj : j < m := by have := (List.getElem?_eq_some_iff.1 hu).1; simpa [flw_len] using this
      omega
    · refine ⟨_, hid (if_neg hlc2), hid (fun W' hW j u hu => ?_)⟩
      have hj : j < m := by have := (List.getElem?_eq_some_iff.1 hu).1; simpa [flw_len] using this
      have hu2 : u = .int .u64 (wat xs (q + 2 + j)) := by simpa [flw, hj] using hu.symm
      rw [hu2]
      have e : (⟨b, off + (q + 2), none⟩ : Addr).add j = ⟨b, off + (q + 2 + j), none⟩ := by rw [show off + (q + 2 + j) = off + (q + 2) + j by omega]; unfold Addr.add; split <;> simp_all
      rw [e]
      exact (X4.out.bel hW) (q + 2 + j) (by omega)
  have ht2 := hid (show ((q : Int) + 2).toNat = q + 2 by omega)
  have ht3 := hid (show ((q : Int) + (m : Int) + 2).toNat = q + 2 + m by omega)
  have hne := hid (show g0 ≠ w.heap.size + 1 ∧ b ≠ w.heap.size + 1 from ⟨by have := zB; omega, by have := hbw.out; omega⟩)
  have zW := hid (show w.heap.size + 1 < w3.heap.size from (Array.getElem?_eq_some_iff.1 Q4.out).1)
  generalize w3 = W at *
  refine wp_region_held_drew (S := C3 g0 (.int .i64 sh) (.int .i64 mk_) b (off + (q + 1)) (.int .u64 lk)) (by kernel_rfl) (c3_below HS.out (Below.refl _ _).drew) (fun hHeld => ?_)
  refine wpAnyH_take (i := 0) (v := ?_) rfl (by kernel_rfl) (by kernel_rfl) (by kernel_rfl) (fun _ _ _ h => h) (Or.inl ⟨by rfl, ?_⟩) (by assumption) ?_
  rotate_left
  · (intro wx hSw; (try dsimp only at hSw); go_simp <;> with_reducible rfl)
  simp only [Act.put, List.setIfInBounds_toArray, List.set_cons_zero, List.set_cons_succ, List.getElem_toArray, List.getElem_cons_zero, List.getElem_cons_succ]
  refine wpAnyH_take (i := 1) (v := ?_) rfl (by kernel_rfl) (by kernel_rfl) (by kernel_rfl) (fun _ _ _ h => h) (Or.inl ⟨by rfl, ?_⟩) (by assumption) ?_
  rotate_left
  · (intro wx hSw; (try dsimp only at hSw); go_simp <;> with_reducible rfl)
  simp only [Act.put, List.setIfInBounds_toArray, List.set_cons_zero, List.set_cons_succ, List.getElem_toArray, List.getElem_cons_zero, List.getElem_cons_succ]
  refine wpAnyH_take (i := 2) (v := ?_) rfl (by kernel_rfl) (by kernel_rfl) (by kernel_rfl) (fun _ _ _ h => h) (Or.inl ⟨by rfl, ?_⟩) (by assumption) ?_
  rotate_left
  · (intro wx hSw; (try dsimp only at hSw); go_simp <;> with_reducible rfl)
  simp only [Act.put, List.setIfInBounds_toArray, List.set_cons_zero, List.set_cons_succ, List.getElem_toArray, List.getElem_cons_zero, List.getElem_cons_succ]
  refine wpAnyH_take (i := 3) (v := ?_) rfl (by kernel_rfl) (by kernel_rfl) (by kernel_rfl) (fun _ _ _ h => h) (Or.inl ⟨by rfl, ?_⟩) (by assumption) ?_
  rotate_left
  · (intro wx hSw; (try dsimp only at hSw); go_simp <;> with_reducible rfl)
  simp only [Act.put, List.setIfInBounds_toArray, List.set_cons_zero, List.set_cons_succ, List.getElem_toArray, List.getElem_cons_zero, List.getElem_cons_succ]
  refine wpAnyH_take (i := 4) (v := ?_) rfl (by kernel_rfl) (by kernel_rfl) (by kernel_rfl) (fun _ _ _ h => h) (Or.inl ⟨by rfl, ?_⟩) (by assumption) ?_
  rotate_left
  · (intro wx hSw; (try dsimp only at hSw); go_simp <;> with_reducible rfl)
  simp only [Act.put, List.setIfInBounds_toArray, List.set_cons_zero, List.set_cons_succ, List.getElem_toArray, List.getElem_cons_zero, List.getElem_cons_succ]
  simp only [hw1.out]
  refine wpAnyH_take (i := 5) (v := ?_) rfl (by kernel_rfl) (by kernel_rfl) (by kernel_rfl) (fun _ _ _ h => h) (Or.inl ⟨by rfl, ?_⟩) (by assumption) ?_
  rotate_left
  · (intro wx hSw; (try dsimp only at hSw); go_simp <;> with_reducible rfl)
  simp only [Act.put, List.setIfInBounds_toArray, List.set_cons_zero, List.set_cons_succ, List.getElem_toArray, List.getElem_cons_zero, List.getElem_cons_succ]
  refine wpAnyH_take (i := 6) (v := ?_) rfl (by kernel_rfl) (by kernel_rfl) (by kernel_rfl) (fun _ _ _ h => h) (Or.inl ⟨by rfl, ?_⟩) (by assumption) ?_
  rotate_left
  · (intro wx hSw; (try dsimp only at hSw); go_simp <;> with_reducible rfl)
  simp only [Act.put, List.setIfInBounds_toArray, List.set_cons_zero, List.set_cons_succ, List.getElem_toArray, List.getElem_cons_zero, List.getElem_cons_succ]
  refine wpAnyH_take (i := 7) (v := ?_) rfl (by kernel_rfl) (by kernel_rfl) (by kernel_rfl) (fun _ _ _ h => h) (Or.inl ⟨by rfl, ?_⟩) (by assumption) ?_
  rotate_left
  · (intro wx hSw; (try dsimp only at hSw); go_simp <;> with_reducible rfl)
  simp only [Act.put, List.setIfInBounds_toArray, List.set_cons_zero, List.set_cons_succ, List.getElem_toArray, List.getElem_cons_zero, List.getElem_cons_succ]
  refine wpAnyH_take (i := 8) (v := ?_) rfl (by kernel_rfl) (by kernel_rfl) (by kernel_rfl) (fun _ _ _ h => h) (Or.inl ⟨by rfl, ?_⟩) (by assumption) ?_
  rotate_left
  · (intro wx hSw; (try dsimp only at hSw); go_simp <;> with_reducible rfl)
  simp only [Act.put, List.setIfInBounds_toArray, List.set_cons_zero, List.set_cons_succ, List.getElem_toArray, List.getElem_cons_zero, List.getElem_cons_succ]
  refine wpAnyH_take (i := 9) (v := ?_) rfl (by kernel_rfl) (by kernel_rfl) (by kernel_rfl) (fun _ _ _ h => h) (Or.inl ⟨by rfl, ?_⟩) (by assumption) ?_
  rotate_left
  · (intro wx hSw; (try dsimp only at hSw); go_simp <;> with_reducible rfl)
  simp only [Act.put, List.setIfInBounds_toArray, List.set_cons_zero, List.set_cons_succ, List.getElem_toArray, List.getElem_cons_zero, List.getElem_cons_succ]
  simp only [hw2.out]
  refine wpAnyH_take (i := 10) (v := ?_) rfl (by kernel_rfl) (by kernel_rfl) (by kernel_rfl) (fun _ _ _ h => h) (Or.inl ⟨by rfl, ?_⟩) (by assumption) ?_
  rotate_left
  · (intro wx hSw; (try dsimp only at hSw); go_simp <;> with_reducible rfl)
  simp only [Act.put, List.setIfInBounds_toArray, List.set_cons_zero, List.set_cons_succ, List.getElem_toArray, List.getElem_cons_zero, List.getElem_cons_succ]
  refine wpAnyH_take (i := 11) (v := ?_) rfl (by kernel_rfl) (by kernel_rfl) (by kernel_rfl) (fun _ _ _ h => h) (Or.inl ⟨by rfl, ?_⟩) (by assumption) ?_
  rotate_left
  · (intro wx hSw; (try dsimp only at hSw); go_simp <;> with_reducible rfl)
  simp only [Act.put, List.setIfInBounds_toArray, List.set_cons_zero, List.set_cons_succ, List.getElem_toArray, List.getElem_cons_zero, List.getElem_cons_succ]
  refine wpAnyH_take (i := 12) (v := ?_) rfl (by kernel_rfl) (by kernel_rfl) (by kernel_rfl) (fun _ _ _ h => h) (Or.inl ⟨by rfl, ?_⟩) (by assumption) ?_
  rotate_left
  · (intro wx hSw; (try dsimp only at hSw); go_simp <;> with_reducible rfl)
  simp only [Act.put, List.setIfInBounds_toArray, List.set_cons_zero, List.set_cons_succ, List.getElem_toArray, List.getElem_cons_zero, List.getElem_cons_succ]
  simp only [hw3.out]
  refine wpAnyH_take (i := 13) (v := ?_) rfl (by kernel_rfl) (by kernel_rfl) (by kernel_rfl) (fun _ _ _ h => h) (Or.inl ⟨by rfl, ?_⟩) (by assumption) ?_
  rotate_left
  · (intro wx hSw; (try dsimp only at hSw); go_simp <;> with_reducible rfl)
  simp only [Act.put, List.setIfInBounds_toArray, List.set_cons_zero, List.set_cons_succ, List.getElem_toArray, List.getElem_cons_zero, List.getElem_cons_succ]
  simp only [ht2.out, ht3.out, Nat.add_sub_cancel_left, had.out]
  refine wpAnyH_ready (rs := [14]) (by kernel_rfl) (by simp) ?_
  refine AllReadyH.cons rfl (fun K hK => ?_) AllReadyH.nil
  refine step_append_own rfl _ _ 25 rfl W.heap.size 39 i0 (.int .u64 0) 1 8 Tryz.underlying25 hi0 hz0 hz1 hz2 rfl (by decide) (.slice none 0 0) 0 [] rfl ⟨rfl, .inl ⟨rfl, rfl⟩⟩ ad m _ ((flw xs q m).map (.int .u64)) rfl (by simp [flw_len]) (HN.out _ (Below.refl _ _).drew) (by intro u hu; simp at hu; obtain ⟨_, _, rfl⟩ := hu; rfl) (by unfold maxLen; omega) (by omega) (by simp) ?_
  intro v' w7 hown hgrow
  have bg : Below W.heap.size W w7 := (Below.refl _ W).drew.grown hgrow (Nat.le_refl _) (fun j hj => by cases hj)
  have hown2 : w7.ownsRow W.heap.size 39 1 v' (0 + m) ((flw xs q m).map (Value.int .u64)) := hown
  obtain ⟨av, cv, rfl, hF⟩ := fsAt_own (lo := W.heap.size) hown2 (Nat.le_refl _)
  have HF := hid hF
  clear hown hown2 hF
  have Q7 := hid (row_below Q4.out bg)
  have s0 := at_row Q7.out 0 rfl
  have s1 := at_row Q7.out 1 rfl
  have s2 := at_row Q7.out 2 rfl
  have s3 := at_row Q7.out 3 rfl
  have s4 := at_row Q7.out 4 rfl
  have f0 := fz_row Q7.out 0
  have f1 := fz_row Q7.out 1
  have f2 := fz_row Q7.out 2
  have f3 := fz_row Q7.out 3
  have f4 := fz_row Q7.out 4
  refine hK.out _ _ ?_ (fun hHeld => ?_)
  · with_reducible (first | assumption | exact HS.out | (refine c3_below HS.out ?_; assumption) | (refine c3_set5 ?_ hne.out.1 hne.out.2; assumption))
  clear hK K
  refine wpAnyH_take (i := 15) (v := ?_) rfl (by kernel_rfl) (by kernel_rfl) (by kernel_rfl) (fun _ _ _ h => h) (Or.inl ⟨by rfl, ?_⟩) (by assumption) ?_
  rotate_left
  · (intro wx hSw; (try dsimp only at hSw); go_simp <;> with_reducible rfl)
  simp only [Act.put, List.setIfInBounds_toArray, List.set_cons_zero, List.set_cons_succ, List.getElem_toArray, List.getElem_cons_zero, List.getElem_cons_succ]
  refine wpAnyH_ready (rs := [16]) (by kernel_rfl) (by simp) ?_
  refine AllReadyH.cons rfl (fun K hK => ?_) AllReadyH.nil
  go_simp
  refine hK.out _ _ ?_ (fun hHeld => ?_)
  · with_reducible (first | assumption | exact HS.out | (refine c3_below HS.out ?_; assumption) | (refine c3_set5 ?_ hne.out.1 hne.out.2; assumption))
  clear hK K
  refine wpAnyH_ready (rs := [17]) (by kernel_rfl) (by simp) ?_
  refine AllReadyH.cons rfl (fun K hK => ?_) AllReadyH.nil
  go_simp
  refine hK.out _ _ ?_ (fun hHeld => ?_)
  · with_reducible (first | assumption | exact HS.out | (refine c3_below HS.out ?_; assumption) | (refine c3_set5 ?_ hne.out.1 hne.out.2; assumption))
  clear hK K
  refine wpAnyH_done (by kernel_rfl) ?_ _
  have Rf := hid (set5_row Q7.out (.int .i64 (q : Int)) (.int .i64 sh) (.int .i64 mk_) (.int .u64 lk) (.slice av (flw xs q m).length cv))
  have zG := zW.out
  have hf0 : FsAt W.heap.size w7 (.slice av (flw xs q m).length cv) (flw xs q m) := ⟨av, cv, rfl, HF.out⟩
  have hfin := hid (show FsAt w.heap.size _ (.slice av (flw xs q m).length cv) (flw xs q m) from (((((hf0.set (g := w.heap.size + 1) (by omega) 0 (.int .i64 (q : Int))).set (g := w.heap.size + 1) (by omega) 1 (.int .i64 sh)).set (g := w.heap.size + 1) (by omega) 2 (.int .i64 mk_)).set (g := w.heap.size + 1) (by omega) 3 (.int .u64 lk)).set (g := w.heap.size + 1) (by omega) 4 (.slice av (flw xs q m).length cv)).lower (by omega))
  have BF := hid (five_set (g := w.heap.size + 1) (B6.out.trans (bg.mono B6.out.size)) (by omega) (.int .i64 (q : Int)) (.int .i64 sh) (.int .i64 mk_) (.int .u64 lk) (.slice av (flw xs q m).length cv))
  clear hf0 Q7 s0 s1 s2 s3 s4 f0 f1 f2 f3 f4 bg hgrow HF HS HN
  generalize World.setCell (World.setCell (World.setCell (World.setCell (World.setCell w7 _ _) _ _) _ _) _ _) _ _ = Wf at *
  go_wp2
  have g0_ := at_row Rf.out 0 rfl
  have g1_ := at_row Rf.out 1 rfl
  have g2_ := at_row Rf.out 2 rfl
  have g3_ := at_row Rf.out 3 rfl
  have g4_ := at_row Rf.out 4 rfl
  refine bodyPost_ret (v := .tuple #[obV (q : Int) sh mk_ lk (.slice av (flw xs q m).length cv), .int .i64 0]) (by simp [results, Tryz.results10, go_sem, g0_, g1_, g2_, g3_, g4_]) rfl ?_
  exact ⟨_, rfl, hfin.out, BF.out⟩
theorem oRead_arg (t s : Int) (a : Option Addr) (n c : Nat) (ss : List ByteArray) (la : Option Addr) (N lc : Nat) (Z x : Int) (w : World) (hT : IsTab w (.slice a n c) ss) (hg : rgt t s ss = true) (hZ : 3 + t + t + 2 * s = Z) (hr : ((N : Int) == Z) = false) :
    Calls Tryz.prog 10 #[.slice la N lc, planV t s a n c, .int .i64 x] w fun e w' => e = .returned (.tuple #[obV 0 0 0 0 (.slice none 0 0), .int .i64 2]) ∧ Below w.heap.size w w' :=
  oRead_err t s a n c la N lc x 2 w rfl fun W hW => oStands_arg t s a n c ss la N lc Z x W (hT.below (Nat.le_refl _) hW) hg hZ hr
theorem oRead_range (t s : Int) (a : Option Addr) (n c : Nat) (ss : List ByteArray) (la : Option Addr) (N lc : Nat) (x : Int) (w : World) (hT : IsTab w (.slice a n c) ss) (hg : rgt t s ss = true) (hN : (N : Int) = 3 + t + t + 2 * s) (h1 : spc t s x = false) :
    Calls Tryz.prog 10 #[.slice la N lc, planV t s a n c, .int .i64 x] w fun e w' => e = .returned (.tuple #[obV 0 0 0 0 (.slice none 0 0), .int .i64 4]) ∧ Below w.heap.size w w' :=
  oRead_err t s a n c la N lc x 4 w rfl fun W hW => oStands_range t s a n c ss la N lc x W (hT.below (Nat.le_refl _) hW) hg hN h1
theorem oRead_none (t s : Int) (a : Option Addr) (n c : Nat) (ss : List ByteArray) (b off lc : Nat) (xs : List Int) (q : Nat) (w : World) (hT : IsTab w (.slice a n c) ss) (hg : rgt t s ss = true) (hx : Ws w b off xs) (hi : InW xs) (hl : (xs.length : Int) = 3 + t + t + 2 * s) (h1 : spc t s q = true) (hz : Hid (osz xs ss (eo t s q) q = 0)) :
    Calls Tryz.prog 10 #[.slice (some ⟨b, off, none⟩) xs.length lc, planV t s a n c, .int .i64 (q : Int)] w fun e w' => e = .returned (.tuple #[obV 0 0 0 0 (.slice none 0 0), .int .i64 170]) ∧ Below w.heap.size w w' :=
  oRead_err t s a n c _ _ lc q 170 w rfl fun W hW => oStands_at t s a n c ss b off lc xs q 0 true W (hT.below (Nat.le_refl _) hW) hg (hx.bel hW) hi hl h1 hz (hid rfl)
theorem oRead_ok (t s : Int) (a : Option Addr) (n c : Nat) (ss : List ByteArray) (b off lc : Nat) (xs : List Int) (q m : Nat) (sh mk_ lk : Int) (w : World) (hT : IsTab w (.slice a n c) ss) (hg : rgt t s ss = true) (hx : Ws w b off xs) (hi : InW xs) (hl : (xs.length : Int) = 3 + t + t + 2 * s) (hlc : xs.length ≤ lc) (h1 : spc t s q = true) (hz : Hid (osz xs ss (eo t s q) q = (m : Int) + 2)) (ho : Hid (ofv (wat xs q) = (sh, mk_, true))) (hlk : Hid (wat xs (q + 1) = lk)) :
    Calls Tryz.prog 10 #[.slice (some ⟨b, off, none⟩) xs.length lc, planV t s a n c, .int .i64 (q : Int)] w fun e w' => ∃ v, e = .returned (.tuple #[obV q sh mk_ lk v, .int .i64 0]) ∧ FsAt w.heap.size w' v (flw xs q m) ∧ Below w.heap.size w w' := by
  obtain ⟨t0, t1, s0, s1, _⟩ := rgt_yes hg
  have he := eo_bd s0 h1
  have h8 : osz xs ss (eo t s q) q ≤ 10 ∧ osz xs ss (eo t s q) q ≤ eo t s q - q := by
    rcases osz_cases xs ss (eo t s q) q with h3 | h3
    · rw [hz.out] at h3; omega
    · exact ⟨h3.2.1, h3.2.2.1⟩
  rw [hz.out] at h8
  exact oRead_in t s a n c ss b off lc xs q m sh mk_ lk w hx hi (by omega) hlc (by omega) (by omega) ho hlk _ (hid rfl)
    (fun W hW => oStands_at t s a n c ss b off lc xs q ((m : Int) + 2) false W (hT.below (Nat.le_refl _) hW) hg (hx.bel hW) hi hl h1 hz (hid (by rw [beq_eq_false_iff_ne]; omega)))
    (fun W hW => oSize_at t s a n c ss b off lc xs q ((m : Int) + 2) W (hT.below (Nat.le_refl _) hW) hg (hx.bel hW) hi hl h1 hz)
end Go.Proofs.YtldfmlkjeniemaaGreatDoor
