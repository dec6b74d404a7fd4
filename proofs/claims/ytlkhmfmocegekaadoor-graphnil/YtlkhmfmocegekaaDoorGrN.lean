/- package graph: do, where Check lets pass. Typed by tools/gen09n.py. -/
import Derived.Test.YtlkhmfmocegekaaDoorOpCheckOn
set_option linter.unusedVariables false
namespace Go.Proofs.YtlkhmfmocegekaaDoor
open Go.RowKit Go.Gr Go.Sh Go.Oq Go.Sort
theorem ds0_row {b : Nat} {k a b' c fl sh x y : Int} {G R o : Nat} {W : World} (hr : W.heap[b]? = some (dO k a b' c fl sh x y G R o)) : DS0 b k a b' c fl sh x y G R o W :=
  ⟨at_row hr 0 rfl, at_row hr 1 rfl, at_row hr 2 rfl, at_row hr 3 rfl, at_row hr 4 rfl, at_row hr 5 rfl, at_row hr 6 rfl, at_row hr 7 rfl, at_row hr 8 rfl, at_row hr 9 rfl⟩
theorem ds0_map {b : Nat} {k a b' c fl sh x y : Int} {G R o : Nat} {W W' : World} (h : DS0 b k a b' c fl sh x y G R o W) (f : ∀ p v, p.block = b → W.cell? p = some v → W'.cell? p = some v) : DS0 b k a b' c fl sh x y G R o W' := by
  obtain ⟨h0, h1, h2, h3, h4, h5, h6, h7, h8, h9⟩ := h
  exact ⟨f _ _ rfl h0, f _ _ rfl h1, f _ _ rfl h2, f _ _ rfl h3, f _ _ rfl h4, f _ _ rfl h5, f _ _ rfl h6, f _ _ rfl h7, f _ _ rfl h8, f _ _ rfl h9⟩
theorem ds0_bel {b : Nat} {k a b' c fl sh x y : Int} {G R o : Nat} {W W' : World} (h : DS0 b k a b' c fl sh x y G R o W) (hb : Below W.heap.size W W') : DS0 b k a b' c fl sh x y G R o W' :=
  ds0_map h fun p v _ hc => (hb.cell (p := p) (block_lt_of_cell hc)).trans hc
theorem ds0_three {b : Nat} {k a b' c fl sh x y : Int} {G R o : Nat} {W : World} (h : DS0 b k a b' c fl sh x y G R o W) {g : Nat} (hb : b ≠ g) {u v z : Value} : DS0 b k a b' c fl sh x y G R o (((W.setCell ⟨g, 0, none⟩ u).setCell ⟨g, 1, none⟩ v).setCell ⟨g, 2, none⟩ z) := by
  have one : ∀ {W : World} {i : Nat} {v : Value}, DS0 b k a b' c fl sh x y G R o W → DS0 b k a b' c fl sh x y G R o (W.setCell ⟨g, i, none⟩ v) := fun h =>
    ds0_map h fun p u hp hc => (World.cell?_setCell_other _ _ _ _ (fun e => by subst e; exact hb hp.symm)).trans hc
  exact one (one (one h))
set_option maxRecDepth 100000 in
set_option maxHeartbeats 4000000 in
theorem gdo_yes (Kd : Nat) (a b c fl sh x y : Int) (γ : Gh) (g : Gr) (o : Nat) (w : World) (hG : IsG w γ g) (k1 : 1 ≤ Kd) (k2 : Kd ≤ 11) (hz : Hid (chk g.ss (opF Kd a b c fl sh x y) = 0)) (g' : Gr) (er v : Int) (r : Bool) (hfn : ∀ W, Below w.heap.size w W → IsG W γ g → Calls Tryd.prog (dfn Kd) #[dV Kd a b c fl sh x y γ.G γ.R o] W (DidE W γ g' er r v)) :
    Calls Tryd.prog 20 #[dV Kd a b c fl sh x y γ.G γ.R o] w (DidE w γ g' er r v) := by
  have HG := hid hG
  have he := dfn_enters Kd k1 k2
  clear hG
  go_enter Tryd.func20, Tryd.ntmps20
  go_wp2_with fail
  obtain ⟨W, hW⟩ : ∃ W, (w.alloc (dO Kd a b c fl sh x y γ.G γ.R o)).alloc (goutO 0 false 0) = W := ⟨_, rfl⟩
  rw [hW]
  obtain ⟨r1, r2, b1, hzz⟩ := two_new hW
  have HG1 := hid (HG.out.below b1)
  have B1 := hid b1
  have R1 := hid r1
  have R2 := hid r2
  have e0 := cell_regrown (at_row r1 0 rfl)
  have e1 := cell_regrown (at_row r1 1 rfl)
  have e2 := cell_regrown (at_row r1 2 rfl)
  have e3 := cell_regrown (at_row r1 3 rfl)
  have e4 := cell_regrown (at_row r1 4 rfl)
  have e5 := cell_regrown (at_row r1 5 rfl)
  have e6 := cell_regrown (at_row r1 6 rfl)
  have e7 := cell_regrown (at_row r1 7 rfl)
  have e8 := cell_regrown (at_row r1 8 rfl)
  have f2 := cell_regrown (at_row HG1.out.face 2 rfl)
  have cis := fun d os => Calls.regrown_of (gCheck_at Kd a b c fl sh x y (some ⟨γ.S, 0, none⟩) g.ss.length γ.sc g.ss (grow (redrawn W d) os) (HG1.out.isTab.below (Nat.le_refl _) (below_regrown W d os)))
  simp only [hz.out] at cis
  clear r1 r2 b1 hW
  refine wp_region_quiet_below (by kernel_rfl) (by kernel_rfl) ?_
  repeat (go_big_quiet_step ((go_at_call 32; exact cis _ _)))
  refine wpQuiet_nil ?_
  intro _ hw'
  obtain ⟨⟨dq, osq⟩, hw''⟩ := hw'
  subst hw''
  have B4 := hid (B1.out.trans ((below_regrown W dq osq).mono B1.out.size))
  have HG4 := hid (HG1.out.below (below_regrown W dq osq))
  have R14 := hid (((below_regrown W dq osq).block _ (row_lt R1.out)).trans R1.out)
  have R24 := hid (((below_regrown W dq osq).block _ (row_lt R2.out)).trans R2.out)
  clear cis e0 e1 e2 e3 e4 e5 e6 e7 e8 f2 HG1 B1 R1 R2
  generalize grow (redrawn W dq) osq = W4 at *
  clear hzz
  clear W
  rename World => W
  replace B1 := B4
  have HDD := hid (show DS0 w.heap.size Kd a b c fl sh x y γ.G γ.R o W.drew from ds0_row R14.out)
  have HDA := hid (show DS0 w.heap.size Kd a b c fl sh x y γ.G γ.R o ((W.alloc deedsObj).drew) from ds0_bel (ds0_row R14.out) (below_alloc0 W deedsObj).drew)
  have HDB := hid (show DS0 w.heap.size Kd a b c fl sh x y γ.G γ.R o (W.drew.alloc deedsObj) from HDA.out)
  have HT := hid (fun W' (k' : Wr (foot γ) ((W.alloc deedsObj).drew) W') => And.intro ((HG4.out.below (below_alloc0 _ _)).drew.kept k' ((Below.heap_alloc W deedsObj _ (row_lt R14.out)).trans R14.out) (by unfold gty; decide)) ((HG4.out.below (below_alloc0 _ _)).drew.kept k' ((Below.heap_alloc W deedsObj _ (row_lt R24.out)).trans R24.out) (by unfold gty; decide)))
  have hfn1 := fun W' (b_ : Below W.heap.size W W') => hfn W' (B1.out.trans (b_.mono B1.out.size)) (HG4.out.below b_)
  have hn1 : w.heap.size ≠ w.heap.size + 1 := by omega
  clear hfn
  go_wp2_with fail
  refine wp_region_held_drew (S := DS0 w.heap.size Kd a b c fl sh x y γ.G γ.R o) (by kernel_rfl) HDD.out (fun hHeld => ?_)
  refine wpAnyH_take (i := 1) (v := ?_) rfl (by kernel_rfl) (by kernel_rfl) (by kernel_rfl) (fun _ _ _ h => h) (Or.inl ⟨by rfl, ?_⟩) (by assumption) ?_
  rotate_left
  · (intro wx hSw; (try dsimp only at hSw); go_simp <;> with_reducible rfl)
  simp only [Act.put]
  refine wpAnyH_take (i := 2) (v := ?_) rfl (by kernel_rfl) (by kernel_rfl) (by kernel_rfl) (fun _ _ _ h => h) (Or.inl ⟨by rfl, ?_⟩) (by assumption) ?_
  rotate_left
  · (intro wx hSw; (try dsimp only at hSw); go_simp <;> with_reducible rfl)
  simp only [Act.put]
  refine wpAnyH_take (i := 3) (v := ?_) rfl (by kernel_rfl) (by kernel_rfl) (by kernel_rfl) (fun _ _ _ h => h) (Or.inl ⟨by rfl, ?_⟩) (by assumption) ?_
  rotate_left
  · (intro wx hSw; (try dsimp only at hSw); go_simp <;> with_reducible rfl)
  simp only [Act.put]
  refine wpAnyH_take (i := 5) (v := ?_) rfl (by kernel_rfl) (by kernel_rfl) (by kernel_rfl) (fun _ _ _ h => h) (Or.inl ⟨by rfl, ?_⟩) (by assumption) ?_
  rotate_left
  · (intro wx hSw; (try dsimp only at hSw); go_simp <;> with_reducible rfl)
  simp only [Act.put]
  refine wpAnyH_ready (rs := [0]) (by kernel_rfl) (by simp) ?_
  refine AllReadyH.cons rfl (fun K hK => ?_) AllReadyH.nil
  go_simp
  go_at_call 34
  refine (deeds_any _).mono ?_
  rintro e w5 ⟨rfl, rfl⟩
  dsimp only
  refine hK.out _ _ ?_ (fun hHeld => ?_)
  · with_reducible (first | assumption | exact HDD.out | exact HDA.out | exact HDB.out | exact hD6 | exact ds0_three hD6 hn1)
  clear hK K
  refine wpAnyH_ready (rs := [4]) (by kernel_rfl) (by simp) ?_
  refine AllReadyH.cons rfl (fun K hK => ?_) AllReadyH.nil
  have hlk := deeds_lookup ((W.alloc deedsObj).drew) W.heap.size (show ((W.alloc deedsObj).drew).heap[W.heap.size]? = _ from heap_alloc_last W _) Kd k1 k2
  go_simp
  refine hK.out _ _ ?_ (fun hHeld => ?_)
  · with_reducible (first | assumption | exact HDD.out | exact HDA.out | exact HDB.out | exact hD6 | exact ds0_three hD6 hn1)
  clear hK K
  refine wpAnyH_ready (rs := [6]) (by kernel_rfl) (by simp) ?_
  refine AllReadyH.cons rfl (fun K hK => ?_) AllReadyH.nil
  go_simp
  go_at_fn (dfn Kd)
  refine (hfn1 _ (below_alloc0 _ _).drew).mono ?_
  rintro e w6 ⟨rfl, γ6, h6, k6, x6⟩
  have hr6 := HT.out w6 k6
  have hD6 : DS0 w.heap.size Kd a b c fl sh x y γ.G γ.R o w6 := ds0_row hr6.1
  have c0 := at_row hr6.2 0 rfl
  have c1 := at_row hr6.2 1 rfl
  have c2 := at_row hr6.2 2 rfl
  have f0 := fz_row hr6.2 0
  have f1 := fz_row hr6.2 1
  have f2 := fz_row hr6.2 2
  dsimp only
  refine hK.out _ _ ?_ (fun hHeld => ?_)
  · with_reducible (first | assumption | exact HDD.out | exact HDA.out | exact HDB.out | exact hD6 | exact ds0_three hD6 hn1)
  clear hK K
  refine wpAnyH_ready (rs := [7]) (by kernel_rfl) (by simp) ?_
  refine AllReadyH.cons rfl (fun K hK => ?_) AllReadyH.nil
  go_simp
  refine hK.out _ _ ?_ (fun hHeld => ?_)
  · with_reducible (first | assumption | exact HDD.out | exact HDA.out | exact HDB.out | exact hD6 | exact ds0_three hD6 hn1)
  clear hK K
  refine wpAnyH_done (by kernel_rfl) ?_ _
  go_wp2
  exact didE_end Tryd.results20 h6 ((wr_below ((B1.out.trans ((below_alloc0 W deedsObj).mono B1.out.size)).drew) (foot γ)).trans k6 (fun i hi e => e)) (x6.mono (by have := B1.out.size; show w.heap.size ≤ (W.alloc deedsObj).heap.size; simp; omega)) hr6.2 (by omega) er v r _ rfl
set_option maxRecDepth 100000 in
set_option maxHeartbeats 4000000 in
theorem gdo_up (Kd : Nat) (a b c fl sh x y : Int) (γ : Gh) (g : Gr) (o : Nat) (w : World) (hG : IsG w γ g) (k1 : 1 ≤ Kd) (k2 : Kd ≤ 11) (hz : Hid (chk g.ss (opF Kd a b c fl sh x y) = 0)) (z : Int) (hfn : ∀ W, Below w.heap.size w W → IsG W γ g → Calls Tryd.prog (dfn Kd) #[dV Kd a b c fl sh x y γ.G γ.R o] W fun e w' => e = gupE z ∧ Below W.heap.size W w') :
    Calls Tryd.prog 20 #[dV Kd a b c fl sh x y γ.G γ.R o] w fun e w' => e = gupE z ∧ Below w.heap.size w w' := by
  have HG := hid hG
  have he := dfn_enters Kd k1 k2
  clear hG
  go_enter Tryd.func20, Tryd.ntmps20
  go_wp2_with fail
  obtain ⟨W, hW⟩ : ∃ W, (w.alloc (dO Kd a b c fl sh x y γ.G γ.R o)).alloc (goutO 0 false 0) = W := ⟨_, rfl⟩
  rw [hW]
  obtain ⟨r1, r2, b1, hzz⟩ := two_new hW
  have HG1 := hid (HG.out.below b1)
  have B1 := hid b1
  have R1 := hid r1
  have R2 := hid r2
  have e0 := cell_regrown (at_row r1 0 rfl)
  have e1 := cell_regrown (at_row r1 1 rfl)
  have e2 := cell_regrown (at_row r1 2 rfl)
  have e3 := cell_regrown (at_row r1 3 rfl)
  have e4 := cell_regrown (at_row r1 4 rfl)
  have e5 := cell_regrown (at_row r1 5 rfl)
  have e6 := cell_regrown (at_row r1 6 rfl)
  have e7 := cell_regrown (at_row r1 7 rfl)
  have e8 := cell_regrown (at_row r1 8 rfl)
  have f2 := cell_regrown (at_row HG1.out.face 2 rfl)
  have cis := fun d os => Calls.regrown_of (gCheck_at Kd a b c fl sh x y (some ⟨γ.S, 0, none⟩) g.ss.length γ.sc g.ss (grow (redrawn W d) os) (HG1.out.isTab.below (Nat.le_refl _) (below_regrown W d os)))
  simp only [hz.out] at cis
  clear r1 r2 b1 hW
  refine wp_region_quiet_below (by kernel_rfl) (by kernel_rfl) ?_
  repeat (go_big_quiet_step ((go_at_call 32; exact cis _ _)))
  refine wpQuiet_nil ?_
  intro _ hw'
  obtain ⟨⟨dq, osq⟩, hw''⟩ := hw'
  subst hw''
  have B4 := hid (B1.out.trans ((below_regrown W dq osq).mono B1.out.size))
  have HG4 := hid (HG1.out.below (below_regrown W dq osq))
  have R14 := hid (((below_regrown W dq osq).block _ (row_lt R1.out)).trans R1.out)
  have R24 := hid (((below_regrown W dq osq).block _ (row_lt R2.out)).trans R2.out)
  clear cis e0 e1 e2 e3 e4 e5 e6 e7 e8 f2 HG1 B1 R1 R2
  generalize grow (redrawn W dq) osq = W4 at *
  clear hzz
  clear W
  rename World => W
  replace B1 := B4
  have HDD := hid (show DS0 w.heap.size Kd a b c fl sh x y γ.G γ.R o W.drew from ds0_row R14.out)
  have HDA := hid (show DS0 w.heap.size Kd a b c fl sh x y γ.G γ.R o ((W.alloc deedsObj).drew) from ds0_bel (ds0_row R14.out) (below_alloc0 W deedsObj).drew)
  have HDB := hid (show DS0 w.heap.size Kd a b c fl sh x y γ.G γ.R o (W.drew.alloc deedsObj) from HDA.out)
  have HT := hid (fun W' (k' : Wr (foot γ) ((W.alloc deedsObj).drew) W') => And.intro ((HG4.out.below (below_alloc0 _ _)).drew.kept k' ((Below.heap_alloc W deedsObj _ (row_lt R14.out)).trans R14.out) (by unfold gty; decide)) ((HG4.out.below (below_alloc0 _ _)).drew.kept k' ((Below.heap_alloc W deedsObj _ (row_lt R24.out)).trans R24.out) (by unfold gty; decide)))
  have hfn1 := fun W' (b_ : Below W.heap.size W W') => hfn W' (B1.out.trans (b_.mono B1.out.size)) (HG4.out.below b_)
  have hn1 : w.heap.size ≠ w.heap.size + 1 := by omega
  clear hfn
  go_wp2_with fail
  refine wp_region_held_drew (S := DS0 w.heap.size Kd a b c fl sh x y γ.G γ.R o) (by kernel_rfl) HDD.out (fun hHeld => ?_)
  refine wpAnyH_take (i := 1) (v := ?_) rfl (by kernel_rfl) (by kernel_rfl) (by kernel_rfl) (fun _ _ _ h => h) (Or.inl ⟨by rfl, ?_⟩) (by assumption) ?_
  rotate_left
  · (intro wx hSw; (try dsimp only at hSw); go_simp <;> with_reducible rfl)
  simp only [Act.put]
  refine wpAnyH_take (i := 2) (v := ?_) rfl (by kernel_rfl) (by kernel_rfl) (by kernel_rfl) (fun _ _ _ h => h) (Or.inl ⟨by rfl, ?_⟩) (by assumption) ?_
  rotate_left
  · (intro wx hSw; (try dsimp only at hSw); go_simp <;> with_reducible rfl)
  simp only [Act.put]
  refine wpAnyH_take (i := 3) (v := ?_) rfl (by kernel_rfl) (by kernel_rfl) (by kernel_rfl) (fun _ _ _ h => h) (Or.inl ⟨by rfl, ?_⟩) (by assumption) ?_
  rotate_left
  · (intro wx hSw; (try dsimp only at hSw); go_simp <;> with_reducible rfl)
  simp only [Act.put]
  refine wpAnyH_take (i := 5) (v := ?_) rfl (by kernel_rfl) (by kernel_rfl) (by kernel_rfl) (fun _ _ _ h => h) (Or.inl ⟨by rfl, ?_⟩) (by assumption) ?_
  rotate_left
  · (intro wx hSw; (try dsimp only at hSw); go_simp <;> with_reducible rfl)
  simp only [Act.put]
  refine wpAnyH_ready (rs := [0]) (by kernel_rfl) (by simp) ?_
  refine AllReadyH.cons rfl (fun K hK => ?_) AllReadyH.nil
  go_simp
  go_at_call 34
  refine (deeds_any _).mono ?_
  rintro e w5 ⟨rfl, rfl⟩
  dsimp only
  refine hK.out _ _ ?_ (fun hHeld => ?_)
  · with_reducible (first | assumption | exact HDD.out | exact HDA.out | exact HDB.out | exact hD6 | exact ds0_three hD6 hn1)
  clear hK K
  refine wpAnyH_ready (rs := [4]) (by kernel_rfl) (by simp) ?_
  refine AllReadyH.cons rfl (fun K hK => ?_) AllReadyH.nil
  have hlk := deeds_lookup ((W.alloc deedsObj).drew) W.heap.size (show ((W.alloc deedsObj).drew).heap[W.heap.size]? = _ from heap_alloc_last W _) Kd k1 k2
  go_simp
  refine hK.out _ _ ?_ (fun hHeld => ?_)
  · with_reducible (first | assumption | exact HDD.out | exact HDA.out | exact HDB.out | exact hD6 | exact ds0_three hD6 hn1)
  clear hK K
  refine wpAnyH_ready (rs := [6]) (by kernel_rfl) (by simp) ?_
  refine AllReadyH.cons rfl (fun K hK => ?_) AllReadyH.nil
  go_simp
  go_at_fn (dfn Kd)
  refine (hfn1 _ (below_alloc0 _ _).drew).mono ?_
  rintro e w6 ⟨rfl, b6⟩
  exact ⟨rfl, rfl, ((B1.out.trans ((below_alloc0 W deedsObj).mono B1.out.size)).drew).trans (b6.mono (by have := B1.out.size; show w.heap.size ≤ (W.alloc deedsObj).heap.size; simp; omega))⟩
end Go.Proofs.YtlkhmfmocegekaaDoor
