/- package graph: operations of a field, where it is told. Typed by tools/gen09d.py. -/
import Derived.Test.YtlkhmfmocegekaaDoorGrBOn
set_option linter.unusedVariables false
namespace Go.Proofs.YtlkhmfmocegekaaDoor
open Go.RowKit Go.Gr Go.Sh Go.Oq
theorem dC_size (k a b c fl sh x y : Int) (G R o : Nat) : (Tryd.prog.info? 66).map (·.size) = some (dC k a b c fl sh x y G R o).size := by kernel_rfl
/-- A field's cells. -/
theorem IsG.heldc {W : World} {γ : Gh} {g : Gr} (h : IsG W γ g) {X F FB : Nat} (hl : γ.live X) (hF : F < (g.txt X).size) (hFB : γ.fs X = some FB) : W.cell? ⟨FB, F * 2, none⟩ = some (.pointer (pp γ.at_ (hn g X F))) ∧ W.cell? ⟨FB, F * 2 + 1, none⟩ = some (.int .i64 (sn g X F)) ∧ (∀ j, W.frozen? ⟨FB, j, none⟩ = false) ∧ FB < W.heap.size := by
  obtain ⟨cur, hr, hc⟩ := (h.obj X hl).cel FB hFB
  obtain ⟨c1, c2⟩ := hc F hF
  exact ⟨at_row hr _ (by rw [Nat.mul_comm]; exact c1), at_row hr _ (by rw [Nat.mul_comm]; exact c2), fun j => fz_row hr j, row_lt hr⟩
theorem bel_undrew {W w3 : World} (b : Below W.drew.heap.size W.drew w3) : Below W.heap.size W w3 := ⟨b.os, b.tape, b.output, b.size, b.block⟩
theorem hcell_below' {W W' : World} {p : Addr} {v : Value} (h : W.cell? p = some v) (b : Below W.heap.size W W') : W'.cell? p = some v := (b.cell (p := p) (block_lt_of_cell h)).trans h
theorem pp_cases (γ : Gh) (g : Gr) (H : Nat) : ∃ PH E, pp γ.at_ H = PH ∧ (H != 0) = E ∧ ((PH = none ∧ E = false) ∨ ∃ n, PH = some ⟨n, 0, none⟩ ∧ E = true) := by
  refine ⟨_, _, rfl, rfl, ?_⟩
  by_cases h : H = 0
  · rw [h]; exact .inl ⟨rfl, rfl⟩
  · rw [pp_pos _ h]; exact .inr ⟨_, rfl, by rw [bne_iff_ne]; exact h⟩
/-- What a region reads: an operation's cells, one slot. -/
abbrev DS (b R j : Nat) (k a b' c fl sh x y : Int) (G o : Nat) (V : Value) (W : World) : Prop := W.cell? ⟨b, 0, none⟩ = some (.int .i64 k) ∧ W.cell? ⟨b, 1, none⟩ = some (.int .i64 a) ∧ W.cell? ⟨b, 2, none⟩ = some (.int .i64 b') ∧ W.cell? ⟨b, 3, none⟩ = some (.int .i64 c) ∧ W.cell? ⟨b, 4, none⟩ = some (.int .i64 fl) ∧ W.cell? ⟨b, 5, none⟩ = some (.int .i64 sh) ∧ W.cell? ⟨b, 6, none⟩ = some (.int .i64 x) ∧ W.cell? ⟨b, 7, none⟩ = some (.int .i64 y) ∧ W.cell? ⟨b, 8, none⟩ = some (.pointer (some ⟨G, 0, none⟩)) ∧ W.cell? ⟨b, 9, none⟩ = some (.pointer (some ⟨R, o, none⟩)) ∧ W.cell? ⟨R, o + j, none⟩ = some V
theorem ds_map {b R j : Nat} {k a b' c fl sh x y : Int} {G o : Nat} {V : Value} {W W' : World} (h : DS b R j k a b' c fl sh x y G o V W) (f : ∀ p v, p.block = b ∨ p.block = R → W.cell? p = some v → W'.cell? p = some v) : DS b R j k a b' c fl sh x y G o V W' := by
  obtain ⟨h0, h1, h2, h3, h4, h5, h6, h7, h8, h9, h10⟩ := h
  exact ⟨f _ _ (.inl rfl) h0, f _ _ (.inl rfl) h1, f _ _ (.inl rfl) h2, f _ _ (.inl rfl) h3, f _ _ (.inl rfl) h4, f _ _ (.inl rfl) h5, f _ _ (.inl rfl) h6, f _ _ (.inl rfl) h7, f _ _ (.inl rfl) h8, f _ _ (.inl rfl) h9, f _ _ (.inr rfl) h10⟩
theorem ds_bel {b R j : Nat} {k a b' c fl sh x y : Int} {G o : Nat} {V : Value} {W W' : World} (h : DS b R j k a b' c fl sh x y G o V W) (hb : Below W.heap.size W W') : DS b R j k a b' c fl sh x y G o V W' :=
  ds_map h fun p v _ hc => (hb.cell (p := p) (block_lt_of_cell hc)).trans hc
theorem ds_set {b R j : Nat} {k a b' c fl sh x y : Int} {G o : Nat} {V : Value} {W : World} (h : DS b R j k a b' c fl sh x y G o V W) {g i : Nat} {v : Value} (hb : b ≠ g) (hR : R ≠ g) : DS b R j k a b' c fl sh x y G o V (W.setCell ⟨g, i, none⟩ v) :=
  ds_map h fun p u hp hc => (World.cell?_setCell_other W _ _ v (fun e => by subst e; rcases hp with e | e; exact hb e.symm; exact hR e.symm)).trans hc
theorem ds_row {b R j : Nat} {k a b' c fl sh x y : Int} {G o : Nat} {V : Value} {W : World} (hr : W.heap[b]? = some (dO k a b' c fl sh x y G R o)) (hc : W.cell? ⟨R, o + j, none⟩ = some V) : DS b R j k a b' c fl sh x y G o V W :=
  ⟨at_row hr 0 rfl, at_row hr 1 rfl, at_row hr 2 rfl, at_row hr 3 rfl, at_row hr 4 rfl, at_row hr 5 rfl, at_row hr 6 rfl, at_row hr 7 rfl, at_row hr 8 rfl, at_row hr 9 rfl, hc⟩
/-- A field is set. -/
theorem hn_setF {g : Gr} (h : g.Ok) {X F : Nat} (hX : 1 ≤ X) (hm : X ≤ g.m) (hF : F < (g.txt X).size) (v : Int) (x f : Nat) (hx : 1 ≤ x) : hn (g.setF X F v) x f = if X = x ∧ F = f then (if Gr.ptr (g.txt X) F then v.toNat else 0) else hn g x f := by
  have ht : (g.setF X F v).txt x = g.txt x := rfl
  unfold hn
  rw [ht, fld_setF h hX hm hF x f hx]
  by_cases e : X = x ∧ F = f
  · obtain ⟨rfl, rfl⟩ := e; simp
  · simp [e]
theorem sn_setF {g : Gr} (h : g.Ok) {X F : Nat} (hX : 1 ≤ X) (hm : X ≤ g.m) (hF : F < (g.txt X).size) (v : Int) (x f : Nat) (hx : 1 ≤ x) : sn (g.setF X F v) x f = if X = x ∧ F = f then (if Gr.ptr (g.txt X) F then 0 else v) else sn g x f := by
  have ht : (g.setF X F v).txt x = g.txt x := rfl
  unfold sn
  rw [ht, fld_setF h hX hm hF x f hx]
  by_cases e : X = x ∧ F = f
  · obtain ⟨rfl, rfl⟩ := e; simp
  · simp [e]
/-- Both of a field's cells, by which is written. -/
theorem IsG.setF' {W : World} {γ : Gh} {g : Gr} (h : IsG W γ g) {X F FB : Nat} (hl : γ.live X) (hF : F < (g.txt X).size) (hFB : γ.fs X = some FB) (v : Int) (i : Nat) (u : Value) (ok : (g.setF X F v).Ok) (hi : i = F * 2 ∨ i = F * 2 + 1)
    (h0 : i = F * 2 → u = .pointer (pp γ.at_ (hn (g.setF X F v) X F)) ∧ sn (g.setF X F v) X F = sn g X F) (h1 : i = F * 2 + 1 → u = .int .i64 (sn (g.setF X F v) X F) ∧ hn (g.setF X F v) X F = hn g X F)
    (hld : hn (g.setF X F v) X F ≠ 0 → γ.live (hn (g.setF X F v) X F)) : IsG (W.setCell ⟨FB, i, none⟩ u) γ (g.setF X F v) := by
  have k := wr_set W FB i u
  obtain ⟨cur, hr, hc⟩ := (h.obj X hl).cel FB hFB
  have hXn := (h.obj X hl).num
  have ne : ∀ {b : Nat} {cs : Array Value} {T : TypeId}, W.heap[b]? = some (.cells cs T) → T ≠ 86 → ¬ b = FB := fun hr' hT e => by
    subst e
    rw [hr] at hr'
    cases hr'
    exact hT rfl
  refine ⟨ok, k.row h.face (ne h.face (by decide)), ?_, k.row h.rts (ne h.rts (by decide)), h.rtl, fun y hy => ?_, h.inj, h.injF⟩
  · obtain ⟨cur', hr', h2⟩ := h.tab
    exact ⟨cur', k.row hr' (ne hr' (by decide)), h2⟩
  · have hyn := (h.obj y hy).num
    refine ⟨hyn, ?_, fun F' hF' => ?_, fun f hf h0' => ?_⟩
    · obtain ⟨a, c, hr', h2⟩ := (h.obj y hy).row
      exact ⟨a, c, k.row hr' (ne hr' (by decide)), h2⟩
    · by_cases e : F' = FB
      · subst e
        obtain rfl := h.injF X y F' hl hy hFB hF'
        refine ⟨cur.setIfInBounds i u, gset_row hr i u, fun f hf => ?_⟩
        obtain ⟨c1, c2⟩ := hc f hf
        have z1 := (Array.getElem?_eq_some_iff.1 c1).1
        have z2 := (Array.getElem?_eq_some_iff.1 c2).1
        rw [Array.getElem?_setIfInBounds, Array.getElem?_setIfInBounds]
        by_cases ef : F = f
        · subst ef
          rcases hi with hi | hi
          · obtain ⟨q1, q2⟩ := h0 hi
            rw [if_pos (by omega), if_pos (by omega), if_neg (by omega), q1, q2]
            exact ⟨rfl, c2⟩
          · obtain ⟨q1, q2⟩ := h1 hi
            rw [if_neg (by omega), if_pos (by omega), if_pos (by omega), q1, q2]
            exact ⟨c1, rfl⟩
        · have e3 : ¬ (X = X ∧ F = f) := fun h => ef h.2
          rw [if_neg (by omega), if_neg (by omega), hn_setF h.ok hXn.1 hXn.2 hF v X f hXn.1, sn_setF h.ok hXn.1 hXn.2 hF v X f hXn.1, if_neg e3, if_neg e3]
          exact ⟨c1, c2⟩
      · obtain ⟨cur', hr', hc'⟩ := (h.obj y hy).cel F' hF'
        have exy : ¬ X = y := fun q => by subst q; rw [hFB] at hF'; cases hF'; exact e rfl
        refine ⟨cur', k.row hr' e, fun f hf => ?_⟩
        rw [hn_setF h.ok hXn.1 hXn.2 hF v y f hyn.1, sn_setF h.ok hXn.1 hXn.2 hF v y f hyn.1, if_neg (fun q => exy q.1), if_neg (fun q => exy q.1)]
        exact hc' f hf
    · by_cases e : X = y ∧ F = f
      · obtain ⟨rfl, rfl⟩ := e
        exact hld h0'
      · rw [hn_setF h.ok hXn.1 hXn.2 hF v y f hyn.1, if_neg e] at h0' ⊢
        exact (h.obj y hy).led f hf h0'
theorem IsG.setFp {W : World} {γ : Gh} {g : Gr} (h : IsG W γ g) {X F FB : Nat} (hl : γ.live X) (hF : F < (g.txt X).size) (hFB : γ.fs X = some FB) (hp : Gr.ptr (g.txt X) F = true) (v : Nat) (hv : v ≤ g.m) (hlv : v ≠ 0 → γ.live v) : IsG (W.setCell ⟨FB, F * 2, none⟩ (.pointer (pp γ.at_ v))) γ (g.setF X F v) := by
  have hX := (h.obj X hl).num
  have hb := h.ok.big
  have hmm : g.m = g.sh.length := rfl
  have e1 : hn (g.setF X F v) X F = v := by rw [hn_setF h.ok hX.1 hX.2 hF v X F hX.1, if_pos ⟨rfl, rfl⟩, if_pos hp]; simp
  have e2 : sn (g.setF X F v) X F = sn g X F := by
    rw [sn_setF h.ok hX.1 hX.2 hF v X F hX.1, if_pos ⟨rfl, rfl⟩, if_pos hp]; unfold sn; rw [if_pos hp]
  exact h.setF' hl hF hFB v (F * 2) _ (setF_ok h.ok hX.1 hX.2 hF (fun _ => by omega) (by omega)) (.inl rfl) (fun _ => ⟨by rw [e1], e2⟩) (fun e => by omega) (by rw [e1]; exact hlv)
theorem IsG.setFs {W : World} {γ : Gh} {g : Gr} (h : IsG W γ g) {X F FB : Nat} (hl : γ.live X) (hF : F < (g.txt X).size) (hFB : γ.fs X = some FB) (hp : Gr.ptr (g.txt X) F = false) (v : Int) (hv : -9223372036854775808 ≤ v ∧ v ≤ 9223372036854775807) : IsG (W.setCell ⟨FB, F * 2 + 1, none⟩ (.int .i64 v)) γ (g.setF X F v) := by
  have hX := (h.obj X hl).num
  have e1 : sn (g.setF X F v) X F = v := by rw [sn_setF h.ok hX.1 hX.2 hF v X F hX.1, if_pos ⟨rfl, rfl⟩, hp]; rfl
  have e2 : hn (g.setF X F v) X F = 0 := by
    rw [hn_setF h.ok hX.1 hX.2 hF v X F hX.1, if_pos ⟨rfl, rfl⟩, hp]; rfl
  have e3 : hn g X F = 0 := by unfold hn; rw [hp]; rfl
  exact h.setF' hl hF hFB v (F * 2 + 1) _ (setF_ok h.ok hX.1 hX.2 hF (fun q => by rw [hp] at q; cases q) hv) (.inr rfl) (fun e => by omega) (fun _ => ⟨by rw [e1], by rw [e2, e3]⟩) (by rw [e2]; exact fun q => absurd rfl q)
set_option maxRecDepth 100000 in
theorem gget_yes (k c sh x y : Int) (γ : Gh) (g : Gr) (t A B X F FB : Nat) (ht : t < g.rt.length) (hA : A < 6) (hB : B < 6) (w : World) (hG : IsG w γ g) (hs : g.slot t A = X) (hX : X ≠ 0) (hz : Hid (iz g.ss (g.shp X) F (fld k.toNat) = 0)) (hFs : F < (g.txt X).size) (hFB : γ.fs X = some FB) (hH : hn g X F ≤ g.m) :
    Calls Tryd.prog 55 #[dV k A B c F sh x y γ.G γ.R (6 * t)] w (Did w γ (g.setS t B (hn g X F)) 0 (hn g X F != 0) 0) := by
  have h6 : (B : Int) < 6 := by omega
  have h0 : (0 : Int) ≤ (B : Int) := by omega
  have HG := hid hG
  have HL := hid (hG.rtl t A)
  rw [hs] at HL
  have HLX := hid (HL.out hX)
  have cf := fun W (b_ : Below w.heap.size w W) => gfield_yes k B c sh x y γ g t A X F ht hA W (hG.below b_) hs hX hz FB hFs hFB
  have HLH := hid ((hG.obj X HLX.out).led F hFs)
  clear hG HL
  obtain ⟨PH, E, hPH, hE, hPE⟩ := pp_cases γ g (hn g X F)
  have HPH := hid hPH
  have HE := hid hE
  clear hPH hE
  rcases hPE with ⟨rfl, rfl⟩ | ⟨n, rfl, rfl⟩
  all_goals
    go_enter Tryd.func55, Tryd.ntmps55
    go_wp2_with fail
    obtain ⟨W, hW⟩ : ∃ W, (w.alloc (dO k A B c F sh x y γ.G γ.R (6 * t))).alloc (goutO 0 false 0) = W := ⟨_, rfl⟩
    rw [hW]
    obtain ⟨r1, r2, b1, hz⟩ := two_new hW
    have cf1 := cf W b1
    have HG1 := hid (HG.out.below b1)
    have B1 := hid b1
    have R1 := hid r1
    have R2 := hid r2
    clear r1 r2 b1 cf hW
    generalize hO : 6 * t = o at *
    go_wp2_with (first | (refine wpList_load_row rfl 66 _ rfl w.heap.size rfl 66 (dC k A B c F sh x y γ.G γ.R o) (0, 0) _ R1.out Tryd.underlying66 rfl (dC_size _ _ _ _ _ _ _ _ _ _ _) ?_) | (go_at_call 71; refine cf1.mono ?_; rintro e w3 ⟨rfl, b3⟩; have hc := (HG1.out.below b3).heldc HLX.out hFs hFB; rw [HPH.out] at hc; have hc1 := hc.1; clear hc))
    have HG3 := hid (HG1.out.below b3)
    have B3 := hid (B1.out.trans (b3.mono B1.out.size))
    have R3 := hid ((b3.block _ (row_lt R1.out)).trans R1.out)
    have Q3 := hid ((b3.block _ (row_lt R2.out)).trans R2.out)
    clear b3 R1 R2 HG1
    have d2 := at_row R3.out 2 rfl
    have d9 := at_row R3.out 9 rfl
    have hcb := HG3.out.slotc ht hB
    have hfb := fz_row HG3.out.rts (6 * t + B)
    have HS := hid ((HG3.out.setS (x := hn g X F) ht hB hH HLH.out).drew)
    rw [HPH.out] at HS
    rw [hO] at hcb hfb HS
    have HQ := hid (show (w3.setCell ⟨γ.R, o + B, none⟩ (.pointer (pp γ.at_ (hn g X F)))).drew.heap[w.heap.size + 1]? = some (goutO 0 false 0) from (wr_set w3 γ.R (o + B) _).row Q3.out (by have := HG.out.lt; omega))
    have HK := hid (show Wr (foot γ) w ((w3.setCell ⟨γ.R, o + B, none⟩ (.pointer (pp γ.at_ (hn g X F)))).drew) from ((wr_below B3.out (foot γ)).trans (wr_set w3 γ.R (o + B) _) (fun i _ e => .inr (.inl e))).drew)
    rw [HPH.out] at HQ HK
    go_region
    clear d2 d9 hcb hfb hc1 cf1
    generalize World.drew _ = W4 at *
    have c0 := at_row HQ.out 0 rfl
    have c1 := at_row HQ.out 1 rfl
    have c2 := at_row HQ.out 2 rfl
    have f0 := fz_row HQ.out 0
    have f1 := fz_row HQ.out 1
    have f2 := fz_row HQ.out 2
    go_wp2
    rw [HE.out]
    exact did_end Tryd.results55 HS.out HK.out HQ.out (by omega) 0 0 _ _ rfl
set_option maxRecDepth 100000 in
theorem ggetInt_yes (k b c sh x y : Int) (γ : Gh) (g : Gr) (t A X F FB : Nat) (ht : t < g.rt.length) (hA : A < 6) (w : World) (hG : IsG w γ g) (hs : g.slot t A = X) (hX : X ≠ 0) (hz : Hid (iz g.ss (g.shp X) F (fld k.toNat) = 0)) (hFs : F < (g.txt X).size) (hFB : γ.fs X = some FB) :
    Calls Tryd.prog 58 #[dV k A b c F sh x y γ.G γ.R (6 * t)] w (Did w γ g 0 false (sn g X F)) := by
  have HG := hid hG
  have HL := hid (hG.rtl t A)
  rw [hs] at HL
  have HLX := hid (HL.out hX)
  have cf := fun W (b_ : Below w.heap.size w W) => gfield_yes k b c sh x y γ g t A X F ht hA W (hG.below b_) hs hX hz FB hFs hFB
  have HLH := hid ((hG.obj X HLX.out).led F hFs)
  clear hG HL
  go_enter Tryd.func58, Tryd.ntmps58
  go_wp2_with fail
  obtain ⟨W, hW⟩ : ∃ W, (w.alloc (dO k A b c F sh x y γ.G γ.R (6 * t))).alloc (goutO 0 false 0) = W := ⟨_, rfl⟩
  rw [hW]
  obtain ⟨r1, r2, b1, hz⟩ := two_new hW
  have cf1 := cf W b1
  have HG1 := hid (HG.out.below b1)
  have B1 := hid b1
  have R1 := hid r1
  have R2 := hid r2
  clear r1 r2 b1 cf hW
  generalize hO : 6 * t = o at *
  go_wp2_with (first | (refine wpList_load_row rfl 66 _ rfl w.heap.size rfl 66 (dC k A b c F sh x y γ.G γ.R o) (0, 0) _ R1.out Tryd.underlying66 rfl (dC_size _ _ _ _ _ _ _ _ _ _ _) ?_) | (go_at_call 71; refine cf1.mono ?_; rintro e w3 ⟨rfl, b3⟩; have hc := (HG1.out.below b3).heldc HLX.out hFs hFB; have hc1 := hc.2.1; clear hc; have HG3 := hid (HG1.out.below b3); have B3 := hid (B1.out.trans (b3.mono B1.out.size)); have Q3 := hid ((b3.block _ (row_lt R2.out)).trans R2.out); have c0 := at_row Q3.out 0 rfl; have c1 := at_row Q3.out 1 rfl; have c2 := at_row Q3.out 2 rfl; have f0 := fz_row Q3.out 0; have f1 := fz_row Q3.out 1; have f2 := fz_row Q3.out 2))
  exact did_end Tryd.results58 HG3.out (wr_below B3.out _) Q3.out (by omega) 0 _ _ _ rfl
set_option maxRecDepth 100000 in
theorem gput_yes (k c sh x y : Int) (γ : Gh) (g : Gr) (t A B X F FB : Nat) (ht : t < g.rt.length) (hA : A < 6) (hB : B < 6) (w : World) (hG : IsG w γ g) (hs : g.slot t A = X) (hX : X ≠ 0) (hz : Hid (iz g.ss (g.shp X) F (fld k.toNat) = 0)) (hFs : F < (g.txt X).size) (hFB : γ.fs X = some FB) (hp : Gr.ptr (g.txt X) F = true) :
    Calls Tryd.prog 56 #[dV k A B c F sh x y γ.G γ.R (6 * t)] w (Did w γ (g.setF X F (g.slot t B)) 0 false 0) := by
  have h6 : (B : Int) < 6 := by omega
  have h0 : (0 : Int) ≤ (B : Int) := by omega
  have HLB := hid (hG.rtl t B)
  have HMB := hid (hG.ok.slo t B)
  have HG := hid hG
  have HL := hid (hG.rtl t A)
  rw [hs] at HL
  have HLX := hid (HL.out hX)
  have cf := fun W (b_ : Below w.heap.size w W) => gfield_yes k B c sh x y γ g t A X F ht hA W (hG.below b_) hs hX hz FB hFs hFB
  have HLH := hid ((hG.obj X HLX.out).led F hFs)
  clear hG HL
  go_enter Tryd.func56, Tryd.ntmps56
  go_wp2_with fail
  obtain ⟨W, hW⟩ : ∃ W, (w.alloc (dO k A B c F sh x y γ.G γ.R (6 * t))).alloc (goutO 0 false 0) = W := ⟨_, rfl⟩
  rw [hW]
  obtain ⟨r1, r2, b1, hz⟩ := two_new hW
  have cf1 := fun W' (b_ : Below W.heap.size W W') => cf W' (b1.trans (b_.mono b1.size))
  have HG1 := hid (HG.out.below b1)
  have B1 := hid b1
  have R1 := hid r1
  have R2 := hid r2
  clear r1 r2 b1 cf hW
  generalize hO : 6 * t = o at *
  have hcb := HG1.out.slotc ht hB
  have hfz := (HG1.out.heldc HLX.out hFs hFB).2.2.1
  have hFBl := (HG1.out.heldc HLX.out hFs hFB).2.2.2
  have hhc := (HG1.out.heldc HLX.out hFs hFB).1
  rw [hO] at hcb
  have HST := hid (fun w3 (b3 : Below W.heap.size W w3) => (HG1.out.below b3).setFp HLX.out hFs hFB hp (g.slot t B) HMB.out HLB.out)
  have HFW := hid (show foot γ FB from .inr (.inr ⟨X, HLX.out, .inr hFB⟩))
  have hne1 : w.heap.size ≠ FB := by
    intro e
    obtain ⟨cs, T, h1, h2⟩ := HG.out.foot_ty HFW.out
    have := row_lt h1
    omega
  have hne3 : w.heap.size + 1 ≠ FB := by
    intro e
    have := HG.out.foot_lt HFW.out
    omega
  have hne2 : γ.R ≠ FB := by
    intro e
    obtain ⟨cur, h1, _⟩ := (HG1.out.obj X HLX.out).cel FB hFB
    have h2 := HG1.out.rts
    rw [e, h1] at h2
    cases h2
  have HDS := hid (ds_row R1.out hcb)
  have HDD := hid (ds_bel HDS.out (Below.refl _ _).drew)
  have HFC := hid (fun w3 (b3 : Below W.heap.size W w3) => (hcell_below' hhc b3 : w3.cell? ⟨FB, F * 2, none⟩ = _))
  have HFZ := hid (fun w3 (b3 : Below W.heap.size W w3) => ((b3.frozen (p := ⟨FB, F * 2, none⟩) hFBl).trans (hfz (F * 2)) : w3.frozen? ⟨FB, F * 2, none⟩ = false))
  clear hcb hfz hhc
  generalize g.slot t B = Y at *
  generalize pp γ.at_ Y = PY at *
  generalize hF2 : F * 2 = F2 at *
  go_region_held3 (DS w.heap.size γ.R B k A B c F sh x y γ.G o (.pointer PY)) (with_reducible (first | assumption | exact HDD.out | exact ds_bel HDD.out b3 | exact ds_set (ds_bel HDD.out b3) hne1 hne2)) (first | (go_at_call 71; refine (cf1 _ (Below.refl _ _).drew).mono ?_; rintro e w3 ⟨rfl, b3⟩; have q1 := HFC.out w3 (bel_undrew b3); have q2 := HFZ.out w3 (bel_undrew b3)))
  have G4 := hid (HST.out w3 (bel_undrew b3))
  have K4 := hid (((wr_below (B1.out.trans ((bel_undrew b3).mono B1.out.size)) (foot γ)).trans (wr_set w3 FB F2 (.pointer PY)) (fun i _ e => by subst e; exact HFW.out) : Wr (foot γ) w (w3.setCell ⟨FB, F2, none⟩ (.pointer PY))))
  have Q4 := hid (((wr_set w3 FB F2 (.pointer PY)).row (((bel_undrew b3).block _ (row_lt R2.out)).trans R2.out) hne3 : (w3.setCell ⟨FB, F2, none⟩ (.pointer PY)).heap[w.heap.size + 1]? = _))
  clear HST HFC HFZ cf1 HDS HDD q1 q2
  generalize w3.setCell ⟨FB, F2, none⟩ (.pointer PY) = W4 at *
  have c0 := at_row Q4.out 0 rfl
  have c1 := at_row Q4.out 1 rfl
  have c2 := at_row Q4.out 2 rfl
  have f0 := fz_row Q4.out 0
  have f1 := fz_row Q4.out 1
  have f2 := fz_row Q4.out 2
  go_wp2
  exact did_end Tryd.results56 G4.out K4.out Q4.out (by omega) 0 _ _ _ rfl
set_option maxRecDepth 100000 in
theorem gputInt_yes (k b c sh x y : Int) (γ : Gh) (g : Gr) (t A X F FB : Nat) (ht : t < g.rt.length) (hA : A < 6) (w : World) (hG : IsG w γ g) (hs : g.slot t A = X) (hX : X ≠ 0) (hz : Hid (iz g.ss (g.shp X) F (fld k.toNat) = 0)) (hFs : F < (g.txt X).size) (hFB : γ.fs X = some FB) (hp : Gr.ptr (g.txt X) F = false) (hx : -9223372036854775808 ≤ x ∧ x ≤ 9223372036854775807) :
    Calls Tryd.prog 59 #[dV k A b c F sh x y γ.G γ.R (6 * t)] w (Did w γ (g.setF X F x) 0 false 0) := by
  have HG := hid hG
  have HL := hid (hG.rtl t A)
  rw [hs] at HL
  have HLX := hid (HL.out hX)
  have cf := fun W (b_ : Below w.heap.size w W) => gfield_yes k b c sh x y γ g t A X F ht hA W (hG.below b_) hs hX hz FB hFs hFB
  have HLH := hid ((hG.obj X HLX.out).led F hFs)
  clear hG HL
  go_enter Tryd.func59, Tryd.ntmps59
  go_wp2_with fail
  obtain ⟨W, hW⟩ : ∃ W, (w.alloc (dO k A b c F sh x y γ.G γ.R (6 * t))).alloc (goutO 0 false 0) = W := ⟨_, rfl⟩
  rw [hW]
  obtain ⟨r1, r2, b1, hz⟩ := two_new hW
  have cf1 := fun W' (b_ : Below W.heap.size W W') => cf W' (b1.trans (b_.mono b1.size))
  have HG1 := hid (HG.out.below b1)
  have B1 := hid b1
  have R1 := hid r1
  have R2 := hid r2
  clear r1 r2 b1 cf hW
  generalize hO : 6 * t = o at *
  have hcb := HG1.out.slotc ht hA
  rw [hs] at hcb
  have hfz := (HG1.out.heldc HLX.out hFs hFB).2.2.1
  have hFBl := (HG1.out.heldc HLX.out hFs hFB).2.2.2
  have hhc := (HG1.out.heldc HLX.out hFs hFB).2.1
  rw [hO] at hcb
  have HST := hid (fun w3 (b3 : Below W.heap.size W w3) => (HG1.out.below b3).setFs HLX.out hFs hFB hp x hx)
  have HFW := hid (show foot γ FB from .inr (.inr ⟨X, HLX.out, .inr hFB⟩))
  have hne1 : w.heap.size ≠ FB := by
    intro e
    obtain ⟨cs, T, h1, h2⟩ := HG.out.foot_ty HFW.out
    have := row_lt h1
    omega
  have hne3 : w.heap.size + 1 ≠ FB := by
    intro e
    have := HG.out.foot_lt HFW.out
    omega
  have hne2 : γ.R ≠ FB := by
    intro e
    obtain ⟨cur, h1, _⟩ := (HG1.out.obj X HLX.out).cel FB hFB
    have h2 := HG1.out.rts
    rw [e, h1] at h2
    cases h2
  have HDS := hid (ds_row R1.out hcb)
  have HDD := hid (ds_bel HDS.out (Below.refl _ _).drew)
  have HFC := hid (fun w3 (b3 : Below W.heap.size W w3) => (hcell_below' hhc b3 : w3.cell? ⟨FB, F * 2 + 1, none⟩ = _))
  have HFZ := hid (fun w3 (b3 : Below W.heap.size W w3) => ((b3.frozen (p := ⟨FB, F * 2 + 1, none⟩) hFBl).trans (hfz (F * 2 + 1)) : w3.frozen? ⟨FB, F * 2 + 1, none⟩ = false))
  clear hcb hfz hhc hx
  generalize pp γ.at_ X = PY at *
  generalize hF2 : F * 2 = F2 at *
  go_region_held3 (DS w.heap.size γ.R A k A b c F sh x y γ.G o (.pointer PY)) (with_reducible (first | assumption | exact HDD.out | exact ds_bel HDD.out b3 | exact ds_set (ds_bel HDD.out b3) hne1 hne2)) (first | (go_at_call 71; refine (cf1 _ (Below.refl _ _).drew).mono ?_; rintro e w3 ⟨rfl, b3⟩; have q1 := HFC.out w3 (bel_undrew b3); have q2 := HFZ.out w3 (bel_undrew b3)))
  have G4 := hid (HST.out w3 (bel_undrew b3))
  have K4 := hid (((wr_below (B1.out.trans ((bel_undrew b3).mono B1.out.size)) (foot γ)).trans (wr_set w3 FB (F2 + 1) (.int .i64 x)) (fun i _ e => by subst e; exact HFW.out) : Wr (foot γ) w (w3.setCell ⟨FB, F2 + 1, none⟩ (.int .i64 x))))
  have Q4 := hid (((wr_set w3 FB (F2 + 1) (.int .i64 x)).row (((bel_undrew b3).block _ (row_lt R2.out)).trans R2.out) hne3 : (w3.setCell ⟨FB, F2 + 1, none⟩ (.int .i64 x)).heap[w.heap.size + 1]? = _))
  clear HST HFC HFZ cf1 HDS HDD q1 q2
  generalize w3.setCell ⟨FB, F2 + 1, none⟩ (.int .i64 x) = W4 at *
  have c0 := at_row Q4.out 0 rfl
  have c1 := at_row Q4.out 1 rfl
  have c2 := at_row Q4.out 2 rfl
  have f0 := fz_row Q4.out 0
  have f1 := fz_row Q4.out 1
  have f2 := fz_row Q4.out 2
  go_wp2
  exact did_end Tryd.results59 G4.out K4.out Q4.out (by omega) 0 _ _ _ rfl
end Go.Proofs.YtlkhmfmocegekaaDoor
