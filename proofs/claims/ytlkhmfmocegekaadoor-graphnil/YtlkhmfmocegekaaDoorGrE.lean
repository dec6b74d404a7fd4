/- package graph: swap; cas, casInt, where the field is told. Typed by tools/gen09d.py. -/
import Derived.Test.YtlkhmfmocegekaaDoorGrD
set_option linter.unusedVariables false
namespace Go.Proofs.YtlkhmfmocegekaaDoor
open Go.RowKit Go.Gr Go.Sh Go.Oq
set_option maxRecDepth 100000 in
theorem swapP_no (γ : Gh) (g : Gr) (X F FB Y Z : Nat) (w : World) (hG : IsG w γ g) (hl : γ.live X) (hFs : F < (g.txt X).size) (hFB : γ.fs X = some FB) (hY : Y ≠ 0 → γ.live Y) (hne : hn g X F ≠ Y) :
    Calls Tryd.prog 72 #[.pointer (some ⟨FB, F * 2, none⟩), .pointer (pp γ.at_ Y), .pointer (pp γ.at_ Z)] w (Did w γ g 0 false 0) := by
  have HG := hid hG
  have hlH := (hG.obj X hl).led F hFs
  have hq := fun O => pv_neq (hG.below (below_alloc0 w O)) hlH hY
  have hb : (hn g X F != Y) = true := by rw [bne_iff_ne]; exact hne
  rw [hb] at hq
  have hc := fun O => ((hG.below (below_alloc0 w O)).heldc hl hFs hFB).1
  clear hG
  generalize hn g X F = H at *
  generalize pp γ.at_ H = PH at *
  generalize pp γ.at_ Y = PY at *
  generalize pp γ.at_ Z = PZ at *
  generalize F * 2 = F2 at *
  go_enter Tryd.func72, Tryd.ntmps72
  go_wp2
  exact bodyPost_ret (results_out Tryd.results72 _ _ w.heap.size 0 0 false rfl (heap_alloc_last w _)) rfl ⟨rfl, HG.out.below (below_alloc0 w _), wr_below (below_alloc0 w _) _⟩
set_option maxRecDepth 100000 in
theorem swapP_yes (γ : Gh) (g : Gr) (X F FB Y Z : Nat) (w : World) (hG : IsG w γ g) (hl : γ.live X) (hFs : F < (g.txt X).size) (hFB : γ.fs X = some FB) (hY : Y ≠ 0 → γ.live Y) (he : hn g X F = Y) (hp : Gr.ptr (g.txt X) F = true) (hZ : Z ≠ 0 → γ.live Z) (hZm : Z ≤ g.m) :
    Calls Tryd.prog 72 #[.pointer (some ⟨FB, F * 2, none⟩), .pointer (pp γ.at_ Y), .pointer (pp γ.at_ Z)] w (Did w γ (g.setF X F Z) 0 true 0) := by
  have HG := hid hG
  have hlH := (hG.obj X hl).led F hFs
  have hq := fun O => pv_neq (hG.below (below_alloc0 w O)) hlH hY
  have hb : (hn g X F != Y) = false := by rw [he]; simp
  rw [hb] at hq
  have hc := fun O => ((hG.below (below_alloc0 w O)).heldc hl hFs hFB).1
  have hf := fun O => ((hG.below (below_alloc0 w O)).heldc hl hFs hFB).2.2.1 (F * 2)
  have HST := hid ((hG.below (below_alloc0 w (goutO 0 false 0))).setFp hl hFs hFB hp Z hZm hZ)
  have HFW := hid (show foot γ FB from .inr (.inr ⟨X, hl, .inr hFB⟩))
  have HFL := hid (hG.foot_lt HFW.out)
  have hne : w.heap.size ≠ FB := by have := HFL.out; omega
  clear hG hb
  generalize hn g X F = H at *
  generalize pp γ.at_ H = PH at *
  generalize pp γ.at_ Y = PY at *
  generalize pp γ.at_ Z = PZ at *
  generalize F * 2 = F2 at *
  go_enter Tryd.func72, Tryd.ntmps72
  go_wp2
  exact did_end Tryd.results72 HST.out ((wr_below (below_alloc0 w _) (foot γ)).trans (wr_set _ FB F2 _) (fun i _ e => by subst e; exact HFW.out)) ((wr_set _ FB F2 _).row (heap_alloc_last w _) hne) (Nat.le_refl _) 0 0 true _ rfl
set_option maxRecDepth 100000 in
theorem swapI_no (γ : Gh) (g : Gr) (X F FB : Nat) (x y : Int) (w : World) (hG : IsG w γ g) (hl : γ.live X) (hFs : F < (g.txt X).size) (hFB : γ.fs X = some FB) (hne : sn g X F ≠ x) :
    Calls Tryd.prog 73 #[.pointer (some ⟨FB, F * 2 + 1, none⟩), .int .i64 x, .int .i64 y] w (Did w γ g 0 false 0) := by
  have HG := hid hG
  have hb : (sn g X F != x) = true := by rw [bne_iff_ne]; exact hne
  have hc := fun O => ((hG.below (below_alloc0 w O)).heldc hl hFs hFB).2.1
  clear hG
  generalize sn g X F = H at *
  generalize F * 2 + 1 = F2 at *
  go_enter Tryd.func73, Tryd.ntmps73
  go_wp2
  exact bodyPost_ret (results_out Tryd.results73 _ _ w.heap.size 0 0 false rfl (heap_alloc_last w _)) rfl ⟨rfl, HG.out.below (below_alloc0 w _), wr_below (below_alloc0 w _) _⟩
set_option maxRecDepth 100000 in
theorem swapI_yes (γ : Gh) (g : Gr) (X F FB : Nat) (x y : Int) (w : World) (hG : IsG w γ g) (hl : γ.live X) (hFs : F < (g.txt X).size) (hFB : γ.fs X = some FB) (he : sn g X F = x) (hp : Gr.ptr (g.txt X) F = false) (hy : -9223372036854775808 ≤ y ∧ y ≤ 9223372036854775807) :
    Calls Tryd.prog 73 #[.pointer (some ⟨FB, F * 2 + 1, none⟩), .int .i64 x, .int .i64 y] w (Did w γ (g.setF X F y) 0 true 0) := by
  have HG := hid hG
  have hb : (sn g X F != x) = false := by rw [he]; simp
  have hc := fun O => ((hG.below (below_alloc0 w O)).heldc hl hFs hFB).2.1
  have hf := fun O => ((hG.below (below_alloc0 w O)).heldc hl hFs hFB).2.2.1 (F * 2 + 1)
  have HST := hid ((hG.below (below_alloc0 w (goutO 0 false 0))).setFs hl hFs hFB hp y hy)
  have HFW := hid (show foot γ FB from .inr (.inr ⟨X, hl, .inr hFB⟩))
  have HFL := hid (hG.foot_lt HFW.out)
  have hne : w.heap.size ≠ FB := by have := HFL.out; omega
  clear hG he hy
  generalize sn g X F = H at *
  generalize F * 2 + 1 = F2 at *
  go_enter Tryd.func73, Tryd.ntmps73
  go_wp2
  exact did_end Tryd.results73 HST.out ((wr_below (below_alloc0 w _) (foot γ)).trans (wr_set _ FB F2 _) (fun i _ e => by subst e; exact HFW.out)) ((wr_set _ FB F2 _).row (heap_alloc_last w _) hne) (Nat.le_refl _) 0 0 true _ rfl
/-- What the second region of cas reads. -/
abbrev DS2 (b R j j2 : Nat) (b' c : Int) (o : Nat) (V V2 : Value) (W : World) : Prop := W.cell? ⟨b, 2, none⟩ = some (.int .i64 b') ∧ W.cell? ⟨b, 3, none⟩ = some (.int .i64 c) ∧ W.cell? ⟨b, 9, none⟩ = some (.pointer (some ⟨R, o, none⟩)) ∧ W.cell? ⟨R, o + j, none⟩ = some V ∧ W.cell? ⟨R, o + j2, none⟩ = some V2
theorem ds2_map {b R j j2 : Nat} {b' c : Int} {o : Nat} {V V2 : Value} {W W' : World} (h : DS2 b R j j2 b' c o V V2 W) (f : ∀ p v, p.block = b ∨ p.block = R → W.cell? p = some v → W'.cell? p = some v) : DS2 b R j j2 b' c o V V2 W' := by
  obtain ⟨h0, h1, h2, h3, h4⟩ := h
  exact ⟨f _ _ (.inl rfl) h0, f _ _ (.inl rfl) h1, f _ _ (.inl rfl) h2, f _ _ (.inr rfl) h3, f _ _ (.inr rfl) h4⟩
theorem ds2_bel {b R j j2 : Nat} {b' c : Int} {o : Nat} {V V2 : Value} {W W' : World} (h : DS2 b R j j2 b' c o V V2 W) (hb : Below W.heap.size W W') : DS2 b R j j2 b' c o V V2 W' :=
  ds2_map h fun p v _ hc => (hb.cell (p := p) (block_lt_of_cell hc)).trans hc
theorem ds2_three {b R j j2 : Nat} {b' c : Int} {o : Nat} {V V2 : Value} {W : World} (h : DS2 b R j j2 b' c o V V2 W) {g : Nat} (hb : b ≠ g) (hR : R ≠ g) {x y z : Value} : DS2 b R j j2 b' c o V V2 (((W.setCell ⟨g, 0, none⟩ x).setCell ⟨g, 1, none⟩ y).setCell ⟨g, 2, none⟩ z) := by
  have one : ∀ {W : World} {i : Nat} {v : Value}, DS2 b R j j2 b' c o V V2 W → DS2 b R j j2 b' c o V V2 (W.setCell ⟨g, i, none⟩ v) := fun h =>
    ds2_map h fun p u hp hc => (World.cell?_setCell_other _ _ _ _ (fun e => by subst e; rcases hp with e | e; exact hb e.symm; exact hR e.symm)).trans hc
  exact one (one (one h))
set_option maxRecDepth 100000 in
theorem gcas_yes (k sh x y : Int) (γ : Gh) (g : Gr) (t A B C X F FB : Nat) (ht : t < g.rt.length) (hA : A < 6) (hB : B < 6) (hC : C < 6) (w : World) (hG : IsG w γ g) (hs : g.slot t A = X) (hX : X ≠ 0) (hz : Hid (iz g.ss (g.shp X) F (fld k.toNat) = 0)) (hFs : F < (g.txt X).size) (hFB : γ.fs X = some FB) (g' : Gr) (r : Bool) (hrt : g'.rt = g.rt) (hsw : ∀ W, IsG W γ g → Calls Tryd.prog 72 #[.pointer (some ⟨FB, F * 2, none⟩), .pointer (pp γ.at_ (g.slot t B)), .pointer (pp γ.at_ (g.slot t C))] W (Did W γ g' 0 r 0)) :
    Calls Tryd.prog 57 #[dV k A B C F sh x y γ.G γ.R (6 * t)] w (Did w γ g' 0 r 0) := by
  have h6 : (B : Int) < 6 := by omega
  have h0 : (0 : Int) ≤ (B : Int) := by omega
  have h6c : (C : Int) < 6 := by omega
  have h0c : (0 : Int) ≤ (C : Int) := by omega
  have HG := hid hG
  have HL := hid (hG.rtl t A)
  rw [hs] at HL
  have HLX := hid (HL.out hX)
  have cf := fun W (b_ : Below w.heap.size w W) => gfield_yes k B C sh x y γ g t A X F ht hA W (hG.below b_) hs hX hz FB hFs hFB
  have HLH := hid ((hG.obj X HLX.out).led F hFs)
  clear hG HL
  go_enter Tryd.func57, Tryd.ntmps57
  go_wp2_with fail
  obtain ⟨W, hW⟩ : ∃ W, (w.alloc (dO k A B C F sh x y γ.G γ.R (6 * t))).alloc (goutO 0 false 0) = W := ⟨_, rfl⟩
  rw [hW]
  obtain ⟨r1, r2, b1, hz⟩ := two_new hW
  have cf1 := cf W b1
  have HG1 := hid (HG.out.below b1)
  have B1 := hid b1
  have R1 := hid r1
  have R2 := hid r2
  clear r1 r2 b1 cf hW
  generalize hO : 6 * t = o at *
  go_wp2_with (first | (refine wpList_load_row rfl 66 _ rfl w.heap.size rfl 66 (dC k A B C F sh x y γ.G γ.R o) (0, 0) _ R1.out Tryd.underlying66 rfl (dC_size _ _ _ _ _ _ _ _ _ _ _) ?_) | (go_at_call 71; refine cf1.mono ?_; rintro e w3 ⟨rfl, b3⟩))
  have HG3 := hid (HG1.out.below b3)
  have B3 := hid (B1.out.trans (b3.mono B1.out.size))
  have R3 := hid ((b3.block _ (row_lt R1.out)).trans R1.out)
  have Q3 := hid ((b3.block _ (row_lt R2.out)).trans R2.out)
  clear b3 R1 R2 HG1
  have hcb := HG3.out.slotc ht hB
  have hcc := HG3.out.slotc ht hC
  have hgs : ∀ s, g'.slot t s = g.slot t s := fun s => by unfold Gr.slot Gr.row; rw [hrt]
  have HSL := hid (fun W' (h' : IsG W' γ g') => And.intro (h'.slotc (s := B) (by rw [hrt]; exact ht) hB) (h'.slotc (s := C) (by rw [hrt]; exact ht) hC))
  rw [hgs, hgs] at HSL
  rw [hO] at hcb hcc HSL
  have HDD := hid (ds2_bel (W := w3) ⟨at_row R3.out 2 rfl, at_row R3.out 3 rfl, at_row R3.out 9 rfl, hcb, hcc⟩ (Below.refl _ _).drew)
  have HT := hid (fun W' (h' : IsG W' γ g') (k' : Wr (foot γ) w3.drew W') => And.intro (HG3.out.drew.kept k' R3.out (by unfold gty; decide)) (HG3.out.drew.kept k' Q3.out (by unfold gty; decide)))
  have HB3 := hid (B3.out)
  have hsw1 := fun W (b_ : Below w3.heap.size w3 W) => hsw W (HG3.out.below b_)
  clear hcb hcc cf1 hsw hgs
  generalize pp γ.at_ (g.slot t B) = PB at *
  generalize pp γ.at_ (g.slot t C) = PC at *
  generalize F * 2 = F2 at *
  have hn1 : w.heap.size ≠ w.heap.size + 1 := by omega
  have hn2 : γ.R ≠ w.heap.size + 1 := by have := HG.out.lt; omega
  go_region_held3 (DS2 w.heap.size γ.R B C B C o (.pointer PB) (.pointer PC)) (with_reducible (first | assumption | exact HDD.out | exact hD4 | exact ds2_three hD4 hn1 hn2)) (first | (go_at_call 72; refine (hsw1 _ (Below.refl _ _).drew).mono ?_; rintro e w4 ⟨rfl, h4, k4⟩; have hr4 := HT.out w4 h4 k4; have hD4 : DS2 w.heap.size γ.R B C B C o (.pointer PB) (.pointer PC) w4 := ⟨at_row hr4.1 2 rfl, at_row hr4.1 3 rfl, at_row hr4.1 9 rfl, (HSL.out w4 h4).1, (HSL.out w4 h4).2⟩; have c0 := at_row hr4.2 0 rfl; have c1 := at_row hr4.2 1 rfl; have c2 := at_row hr4.2 2 rfl; have f0 := fz_row hr4.2 0; have f1 := fz_row hr4.2 1; have f2 := fz_row hr4.2 2))
  go_wp2
  exact did_end Tryd.results57 h4 (((wr_below HB3.out (foot γ)).drew).trans k4 (fun i _ e => e)) hr4.2 (by omega) 0 0 r _ rfl
abbrev DS3 (b : Nat) (x y : Int) (W : World) : Prop := W.cell? ⟨b, 6, none⟩ = some (.int .i64 x) ∧ W.cell? ⟨b, 7, none⟩ = some (.int .i64 y)
theorem ds3_three {b : Nat} {x y : Int} {W : World} (h : DS3 b x y W) {g : Nat} (hb : b ≠ g) {u v z : Value} : DS3 b x y (((W.setCell ⟨g, 0, none⟩ u).setCell ⟨g, 1, none⟩ v).setCell ⟨g, 2, none⟩ z) := by
  have one : ∀ {W : World} {i : Nat} {v : Value}, DS3 b x y W → DS3 b x y (W.setCell ⟨g, i, none⟩ v) := fun h =>
    ⟨(World.cell?_setCell_other _ _ _ _ (fun e => hb (by injection e with e _ _; exact e.symm))).trans h.1, (World.cell?_setCell_other _ _ _ _ (fun e => hb (by injection e with e _ _; exact e.symm))).trans h.2⟩
  exact one (one (one h))
set_option maxRecDepth 100000 in
theorem gcasInt_yes (k b c sh x y : Int) (γ : Gh) (g : Gr) (t A X F FB : Nat) (ht : t < g.rt.length) (hA : A < 6) (w : World) (hG : IsG w γ g) (hs : g.slot t A = X) (hX : X ≠ 0) (hz : Hid (iz g.ss (g.shp X) F (fld k.toNat) = 0)) (hFs : F < (g.txt X).size) (hFB : γ.fs X = some FB) (g' : Gr) (r : Bool) (hsw : ∀ W, IsG W γ g → Calls Tryd.prog 73 #[.pointer (some ⟨FB, F * 2 + 1, none⟩), .int .i64 x, .int .i64 y] W (Did W γ g' 0 r 0)) :
    Calls Tryd.prog 60 #[dV k A b c F sh x y γ.G γ.R (6 * t)] w (Did w γ g' 0 r 0) := by
  have HG := hid hG
  have HL := hid (hG.rtl t A)
  rw [hs] at HL
  have HLX := hid (HL.out hX)
  have cf := fun W (b_ : Below w.heap.size w W) => gfield_yes k b c sh x y γ g t A X F ht hA W (hG.below b_) hs hX hz FB hFs hFB
  have HLH := hid ((hG.obj X HLX.out).led F hFs)
  clear hG HL
  go_enter Tryd.func60, Tryd.ntmps60
  go_wp2_with fail
  obtain ⟨W, hW⟩ : ∃ W, (w.alloc (dO k A b c F sh x y γ.G γ.R (6 * t))).alloc (goutO 0 false 0) = W := ⟨_, rfl⟩
  rw [hW]
  obtain ⟨r1, r2, b1, hz⟩ := two_new hW
  have cf1 := cf W b1
  have HG1 := hid (HG.out.below b1)
  have B1 := hid b1
  have R1 := hid r1
  have R2 := hid r2
  clear r1 r2 b1 cf hW
  generalize hO : 6 * t = o at *
  go_wp2_with (first | (refine wpList_load_row rfl 66 _ rfl w.heap.size rfl 66 (dC k A b c F sh x y γ.G γ.R o) (0, 0) _ R1.out Tryd.underlying66 rfl (dC_size _ _ _ _ _ _ _ _ _ _ _) ?_) | (go_at_call 71; refine cf1.mono ?_; rintro e w3 ⟨rfl, b3⟩))
  have HG3 := hid (HG1.out.below b3)
  have B3 := hid (B1.out.trans (b3.mono B1.out.size))
  have R3 := hid ((b3.block _ (row_lt R1.out)).trans R1.out)
  have Q3 := hid ((b3.block _ (row_lt R2.out)).trans R2.out)
  clear b3 R1 R2 HG1
  have HDD := hid (show DS3 w.heap.size x y w3.drew from ⟨at_row R3.out 6 rfl, at_row R3.out 7 rfl⟩)
  have HT := hid (fun W' (h' : IsG W' γ g') (k' : Wr (foot γ) w3.drew W') => And.intro (HG3.out.drew.kept k' R3.out (by unfold gty; decide)) (HG3.out.drew.kept k' Q3.out (by unfold gty; decide)))
  have HB3 := hid (B3.out)
  have hsw1 := fun W (b_ : Below w3.heap.size w3 W) => hsw W (HG3.out.below b_)
  clear cf1 hsw
  generalize F * 2 = F2 at *
  have hn1 : w.heap.size ≠ w.heap.size + 1 := by omega
  go_region_held3 (DS3 w.heap.size x y) (with_reducible (first | assumption | exact HDD.out | exact hD4 | exact ds3_three hD4 hn1)) (first | (go_at_call 73; refine (hsw1 _ (Below.refl _ _).drew).mono ?_; rintro e w4 ⟨rfl, h4, k4⟩; have hr4 := HT.out w4 h4 k4; have hD4 : DS3 w.heap.size x y w4 := ⟨at_row hr4.1 6 rfl, at_row hr4.1 7 rfl⟩; have c0 := at_row hr4.2 0 rfl; have c1 := at_row hr4.2 1 rfl; have c2 := at_row hr4.2 2 rfl; have f0 := fz_row hr4.2 0; have f1 := fz_row hr4.2 1; have f2 := fz_row hr4.2 2))
  go_wp2
  exact did_end Tryd.results60 h4 (((wr_below HB3.out (foot γ)).drew).trans k4 (fun i _ e => e)) hr4.2 (by omega) 0 0 r _ rfl
end Go.Proofs.YtlkhmfmocegekaaDoor
