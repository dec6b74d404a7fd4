/- package graph: the field that an operation is of. -/
import Derived.Test.YtlkhmfmocegekaaDoorGrA
import Derived.Test.YtlkhmfmocegekaaDoorOpFace
import Derived.Test.YtlkhmfmocegekaaDoorShTop
set_option linter.unusedVariables false
namespace Go.Proofs.YtlkhmfmocegekaaDoor
open Go.RowKit Go.Gr Go.Sh Go.Oq Go.Sort
/-- An operation's numbers. -/
def opF (k a b c fl sh x y : Int) : Nat → Int
  | 0 => k | 1 => a | 2 => b | 3 => c | 4 => fl | 5 => sh | 6 => x | 7 => y | _ => 0
theorem gField_at (k a b c fl sh x y : Int) (w : World) : Calls Tryd.prog 76 #[.agg #[.int .i64 k, .int .i64 a, .int .i64 b, .int .i64 c, .int .i64 fl, .int .i64 sh, .int .i64 x, .int .i64 y]] w fun e w' => e = .returned (.tuple #[.int .i64 (fld k.toNat), .bool (opn k.toNat)]) ∧ Below w.heap.size w w' :=
  Field_any (opF k a b c fl sh x y) w
theorem IsG.isTab {W : World} {γ : Gh} {g : Gr} (h : IsG W γ g) : IsTab W (.slice (some ⟨γ.S, 0, none⟩) g.ss.length γ.sc) g.ss := by
  obtain ⟨cur, hr, hc⟩ := h.tab
  exact .inr ⟨γ.S, 0, γ.sc, rfl, fun i hi => by rw [Nat.zero_add]; exact at_row hr i (hc i hi)⟩
set_option maxRecDepth 100000 in
theorem gfield_null (k b c fl sh x y : Int) (γ : Gh) (g : Gr) (t A : Nat) (ht : t < g.rt.length) (hA : A < 6) (w : World) (hG : IsG w γ g) (hs : g.slot t A = 0) :
    Calls Tryd.prog 71 #[dV k A b c fl sh x y γ.G γ.R (6 * t)] w fun e w' => e = gupE 183 ∧ Below w.heap.size w w' := by
  have h6 : (A : Int) < 6 := by omega
  have h0 : (0 : Int) ≤ (A : Int) := by omega
  have HG := hid hG
  clear hG
  go_enter Tryd.func71, Tryd.ntmps71
  go_wp2
  obtain ⟨W, hW⟩ : ∃ W, w.alloc (dO k A b c fl sh x y γ.G γ.R (6 * t)) = W := ⟨_, rfl⟩
  rw [hW]
  have b1 : Below w.heap.size w W := by rw [← hW]; exact below_alloc0 w _
  have r1 : W.heap[w.heap.size]? = some (dO k A b c fl sh x y γ.G γ.R (6 * t)) := by rw [← hW]; exact heap_alloc_last w _
  have d1 := at_row r1 1 rfl
  have d9 := at_row r1 9 rfl
  have HG1 := hid (HG.out.below b1)
  have hca := HG1.out.slotc ht hA
  rw [hs, pp_zero] at hca
  have B1 := hid b1
  generalize hO : 6 * t = o at *
  clear hW r1 b1 hs
  go_region
  go_wp2_with (go_at_call 33; refine (ggiveUp_any _ _).mono ?_; rintro e w' ⟨rfl, hw⟩; rw [hw]; clear hw)
  exact ⟨rfl, rfl, B1.out.drew⟩
set_option maxRecDepth 100000 in
theorem gfield_is (k b c fl sh x y : Int) (γ : Gh) (g : Gr) (t A X : Nat) (ht : t < g.rt.length) (hA : A < 6) (w : World) (hG : IsG w γ g) (hs : g.slot t A = X) (hX : X ≠ 0) (z : Int) (hz : Hid (iz g.ss (g.shp X) fl (fld k.toNat) = z)) (hz0 : z ≠ 0) :
    Calls Tryd.prog 71 #[dV k A b c fl sh x y γ.G γ.R (6 * t)] w fun e w' => e = gupE z ∧ Below w.heap.size w w' := by
  have h6 : (A : Int) < 6 := by omega
  have h0 : (0 : Int) ≤ (A : Int) := by omega
  have HG := hid hG
  have HLX := hid (hG.rtl t A)
  rw [hs] at HLX
  clear hG
  go_enter Tryd.func71, Tryd.ntmps71
  go_wp2
  obtain ⟨W, hW⟩ : ∃ W, w.alloc (dO k A b c fl sh x y γ.G γ.R (6 * t)) = W := ⟨_, rfl⟩
  rw [hW]
  have b1 : Below w.heap.size w W := by rw [← hW]; exact below_alloc0 w _
  have r1 : W.heap[w.heap.size]? = some (dO k A b c fl sh x y γ.G γ.R (6 * t)) := by rw [← hW]; exact heap_alloc_last w _
  have d1 := at_row r1 1 rfl
  have d9 := at_row r1 9 rfl
  have HG1 := hid (HG.out.below b1)
  have hca := HG1.out.slotc ht hA
  rw [hs, pp_pos _ hX] at hca
  have B1 := hid b1
  have R1 := hid r1
  generalize hO : 6 * t = o at *
  clear hW r1 b1 hs
  go_region
  have HG2 := hid HG1.out.drew
  have B2 := hid B1.out.drew
  have R2 : Hid (W.drew.heap[w.heap.size]? = some (dO k A b c fl sh x y γ.G γ.R o)) := hid R1.out
  generalize W.drew = W2 at *
  have e0 := at_row R2.out 0 rfl
  have e1 := at_row R2.out 1 rfl
  have e2 := at_row R2.out 2 rfl
  have e3 := at_row R2.out 3 rfl
  have e4 := at_row R2.out 4 rfl
  have e5 := at_row R2.out 5 rfl
  have e6 := at_row R2.out 6 rfl
  have e7 := at_row R2.out 7 rfl
  clear d1 d9 hca
  go_wp2_with (go_at_call 76; refine (gField_at k A b c fl sh x y _).mono ?_)
  rintro e w3 ⟨rfl, b3⟩
  have HG3 := hid (HG2.out.below b3)
  have B3 := hid (B2.out.trans (b3.mono B2.out.size))
  have R3 := hid ((b3.block _ (row_lt R2.out)).trans R2.out)
  clear e0 e1 e2 e3 e4 e5 e6 e7 b3
  obtain ⟨a1, c1, rx, _⟩ := (HG3.out.obj X (HLX.out hX)).row
  have e4 := cell_regrown (at_row R3.out 4 rfl)
  have e8 := cell_regrown (at_row R3.out 8 rfl)
  have f2 := cell_regrown (at_row HG3.out.face 2 rfl)
  have x0 := cell_regrown (at_row rx 0 rfl)
  have cis := fun d os => Calls.regrown_of (Is_any (.slice (some ⟨γ.S, 0, none⟩) g.ss.length γ.sc) g.ss (g.shp X) fl (fld k.toNat) (grow (redrawn w3 d) os) (HG3.out.isTab.below (Nat.le_refl _) (below_regrown w3 d os)))
  simp only [hz.out] at cis
  clear rx
  go_wp2_with fail
  refine wp_region_quiet_below (by kernel_rfl) (by kernel_rfl) ?_
  repeat (go_big_quiet_step ((go_at_call 77; exact cis _ _)))
  refine wpQuiet_nil ?_
  intro _ hw'
  obtain ⟨⟨dq, osq⟩, hw''⟩ := hw'
  subst hw''
  have B4 := hid (B3.out.trans ((below_regrown w3 dq osq).mono B3.out.size))
  generalize grow (redrawn w3 dq) osq = W4 at *
  clear cis e4 e8 f2 x0
  have hz1 : (z != 0) = true := by rw [bne_iff_ne]; exact hz0
  go_wp2_with (go_at_call 33; refine (ggiveUp_any _ _).mono ?_; rintro e w' ⟨rfl, hw⟩; rw [hw]; clear hw)
  exact ⟨rfl, rfl, B4.out⟩
end Go.Proofs.YtlkhmfmocegekaaDoor
/- package graph: the field that an operation is of, where it is told. -/
set_option linter.unusedVariables false
namespace Go.Proofs.YtlkhmfmocegekaaDoor
open Go.RowKit Go.Gr Go.Sh Go.Oq Go.Sort
set_option maxRecDepth 100000 in
theorem gfield_yes (k b c sh x y : Int) (γ : Gh) (g : Gr) (t A X F : Nat) (ht : t < g.rt.length) (hA : A < 6) (w : World) (hG : IsG w γ g) (hs : g.slot t A = X) (hX : X ≠ 0) (hz : Hid (iz g.ss (g.shp X) F (fld k.toNat) = 0)) (FB : Nat) (hFs : F < (g.txt X).size) (hFB : γ.fs X = some FB) :
    Calls Tryd.prog 71 #[dV k A b c (F : Int) sh x y γ.G γ.R (6 * t)] w fun e w' => e = .returned (.pointer (some ⟨FB, F * 2, none⟩)) ∧ Below w.heap.size w w' := by
  have h6 : (A : Int) < 6 := by omega
  have h0 : (0 : Int) ≤ (A : Int) := by omega
  have HG := hid hG
  have HLX := hid (hG.rtl t A)
  rw [hs] at HLX
  clear hG
  go_enter Tryd.func71, Tryd.ntmps71
  go_wp2
  obtain ⟨W, hW⟩ : ∃ W, w.alloc (dO k A b c (F : Int) sh x y γ.G γ.R (6 * t)) = W := ⟨_, rfl⟩
  rw [hW]
  have b1 : Below w.heap.size w W := by rw [← hW]; exact below_alloc0 w _
  have r1 : W.heap[w.heap.size]? = some (dO k A b c (F : Int) sh x y γ.G γ.R (6 * t)) := by rw [← hW]; exact heap_alloc_last w _
  have d1 := at_row r1 1 rfl
  have d9 := at_row r1 9 rfl
  have HG1 := hid (HG.out.below b1)
  have hca := HG1.out.slotc ht hA
  rw [hs, pp_pos _ hX] at hca
  have B1 := hid b1
  have R1 := hid r1
  generalize hO : 6 * t = o at *
  clear hW r1 b1 hs
  go_region
  have HG2 := hid HG1.out.drew
  have B2 := hid B1.out.drew
  have R2 : Hid (W.drew.heap[w.heap.size]? = some (dO k A b c (F : Int) sh x y γ.G γ.R o)) := hid R1.out
  generalize W.drew = W2 at *
  have e0 := at_row R2.out 0 rfl
  have e1 := at_row R2.out 1 rfl
  have e2 := at_row R2.out 2 rfl
  have e3 := at_row R2.out 3 rfl
  have e4 := at_row R2.out 4 rfl
  have e5 := at_row R2.out 5 rfl
  have e6 := at_row R2.out 6 rfl
  have e7 := at_row R2.out 7 rfl
  clear d1 d9 hca
  go_wp2_with (go_at_call 76; refine (gField_at k A b c (F : Int) sh x y _).mono ?_)
  rintro e w3 ⟨rfl, b3⟩
  have HG3 := hid (HG2.out.below b3)
  have B3 := hid (B2.out.trans (b3.mono B2.out.size))
  have R3 := hid ((b3.block _ (row_lt R2.out)).trans R2.out)
  clear e0 e1 e2 e3 e4 e5 e6 e7 b3
  obtain ⟨a1, c1, rx, _⟩ := (HG3.out.obj X (HLX.out hX)).row
  have e4 := cell_regrown (at_row R3.out 4 rfl)
  have e8 := cell_regrown (at_row R3.out 8 rfl)
  have f2 := cell_regrown (at_row HG3.out.face 2 rfl)
  have x0 := cell_regrown (at_row rx 0 rfl)
  have cis := fun d os => Calls.regrown_of (Is_any (.slice (some ⟨γ.S, 0, none⟩) g.ss.length γ.sc) g.ss (g.shp X) F (fld k.toNat) (grow (redrawn w3 d) os) (HG3.out.isTab.below (Nat.le_refl _) (below_regrown w3 d os)))
  simp only [hz.out] at cis
  clear rx
  go_wp2_with fail
  refine wp_region_quiet_below (by kernel_rfl) (by kernel_rfl) ?_
  repeat (go_big_quiet_step ((go_at_call 77; exact cis _ _)))
  refine wpQuiet_nil ?_
  intro _ hw'
  obtain ⟨⟨dq, osq⟩, hw''⟩ := hw'
  subst hw''
  have B4 := hid (B3.out.trans ((below_regrown w3 dq osq).mono B3.out.size))
  have hB4 := below_regrown w3 dq osq
  generalize grow (redrawn w3 dq) osq = W4 at *
  clear cis e4 e8 f2 x0
  have HG4 := hid (HG3.out.below hB4)
  have R4 := hid ((hB4.block _ (row_lt R3.out)).trans R3.out)
  clear hB4
  obtain ⟨a4, c4, rx, hfs⟩ := (HG4.out.obj X (HLX.out hX)).row
  obtain ⟨F', hF', ha4⟩ := hfs (by omega)
  rw [hFB] at hF'
  cases hF'
  subst ha4
  have x1 := at_row rx 1 rfl
  have y4 := at_row R4.out 4 rfl
  have F0 : (0 : Int) ≤ (F : Int) := by omega
  have F9 : (F : Int) < ((g.txt X).size : Int) := by omega
  have hTX := hid (show (g.txt X).size ≤ 8 from HG4.out.ok.txt8 (HG4.out.obj X (HLX.out hX)).num.1 (HG4.out.obj X (HLX.out hX)).num.2)
  generalize (g.txt X).size = SZ at *
  clear rx hFB hfs hz
  have hw2 : F * 2 ≤ 16 := by have := hTX.out; omega
  go_wp2
  go_region
  go_wp2
  go_ret
  exact ⟨rfl, B4.out.drew⟩
end Go.Proofs.YtlkhmfmocegekaaDoor
