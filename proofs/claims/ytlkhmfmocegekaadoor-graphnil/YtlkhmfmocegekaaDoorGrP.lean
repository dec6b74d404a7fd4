/- package graph: Do. -/
import Derived.Test.YtlkhmfmocegekaaDoorGrO
set_option linter.unusedVariables false
namespace Go.Proofs.YtlkhmfmocegekaaDoor
open Go.RowKit Go.Gr Go.Sh Go.Oq
theorem results_out2 {fn : Func} {p q : Tmp} (h : fn.results = #[.cell p 39, .tmp q]) (tmps : Array Value) (w : World) (g : Nat) (e v : Int) (b : Bool) (u : Value)
    (hp : tmps.getD p undef = .pointer (some ⟨g, 0, none⟩)) (hq : tmps.getD q undef = u) (hg : w.heap[g]? = some (goutO e b v)) : (results fn tmps).run Tryd.prog w = .ok (.tuple #[goutV e b v, u]) w := by
  have hp' : tmps[p]?.getD undef = .pointer (some ⟨g, 0, none⟩) := by simpa using hp
  have hq' : tmps[q]?.getD undef = u := by simpa using hq
  have hu := Tryd.underlying39
  simp [results, h, hp', hq', asAddr, run_loadVar_row w g 39 39 (goutC e b v) (0, 0) _ hg hu rfl (by kernel_rfl)]
theorem Do_none (f : Nat → Int) (t : Int) (p : Value) (w : World) (hp : ∀ W, Below w.heap.size w W → Calls Tryd.prog 18 #[p] W fun e w' => e = .returned (.bool true) ∧ w' = W) :
    Calls Tryd.prog 9 #[p, .int .i64 t, opV f] w fun e w' => e = .returned (.tuple #[goutV 0 false 0, .int .i64 1]) ∧ Below w.heap.size w w' := by
  go_enter Tryd.func9, Tryd.ntmps9
  go_wp2_with (go_at_call 18; refine (hp _ (gbel2 _ _ _)).mono ?_; rintro e w' ⟨rfl, hw⟩; rw [hw]; clear hw)
  exact bodyPost_ret (results_out2 Tryd.results9 _ _ (w.heap.size + 1) 0 0 false _ rfl rfl (by have := heap_alloc_last (w.alloc (.cells (row f) 28)) (goutO 0 false 0); rwa [size_alloc] at this)) rfl ⟨rfl, gbel2 _ _ _⟩
set_option maxRecDepth 100000 in
set_option maxHeartbeats 1000000 in
theorem Do_range (f : Nat → Int) (t : Int) (γ : Gh) (g : Gr) (w : World) (hG : IsG w γ g) (ht : t < 0 ∨ (0 ≤ t ∧ (g.rt.length : Int) ≤ t)) :
    Calls Tryd.prog 9 #[.pointer (some ⟨γ.G, 0, none⟩), .int .i64 t, opV f] w fun e w' => e = .returned (.tuple #[goutV 0 false 0, .int .i64 4]) ∧ Below w.heap.size w w' := by
  have hn := fun O1 O2 => (hG.below (gbel2 w O1 O2)).none_no
  have f0 := fun O1 O2 => at_row (hG.below (gbel2 w O1 O2)).face 0 rfl
  clear hG
  rcases ht with ht | ⟨h0, ht⟩
  all_goals
    go_enter Tryd.func9, Tryd.ntmps9
    go_wp2_with (go_at_call 18; refine (hn _ _).mono ?_; rintro e w' ⟨rfl, hw⟩; rw [hw]; clear hw)
    exact bodyPost_ret (results_out2 Tryd.results9 _ _ (w.heap.size + 1) 0 0 false _ rfl rfl (by have := heap_alloc_last (w.alloc (.cells (row f) 28)) (goutO 0 false 0); rwa [size_alloc] at this)) rfl ⟨rfl, gbel2 _ _ _⟩
theorem isG_outrow {w1 w6 : World} {γ : Gh} {g : Gr} (h : IsG w1 γ g) {B : Nat} {e v : Int} {b : Bool} (hr : w1.heap[B]? = some (goutO e b v)) (k : Wr (fun i => i = B) w1 w6) : IsG w6 γ g := by
  refine h.frame k (fun b hb e => ?_) (fun e => ?_)
  · subst e
    obtain ⟨cs, T, h1, h2⟩ := h.foot_ty hb
    rw [hr] at h1
    cases h1
    revert h2
    unfold gty
    decide
  · obtain ⟨cur, h1, _⟩ := h.tab
    rw [e, hr] at h1
    cases h1
/-- An operation, done or refused, as it is told. -/
theorem do_caught (f : Nat → Int) (γ : Gh) (g : Gr) (t : Nat) (ht : t < g.rt.length) (hm : g.m < 1000) (w : World) (hG : IsG w γ g) :
    Calls Tryd.prog 19 #[.func (.func 20) #[dV (f 0) (f 1) (f 2) (f 3) (f 4) (f 5) (f 6) (f 7) γ.G γ.R (6 * t)] #[]] w
      fun e w' => e = .returned (goutV (gdo g t f).2.1 (gdo g t f).2.2.1 (gdo g t f).2.2.2) ∧ ∃ γ', IsG w' γ' (gdo g t f).1 ∧ Wr (foot γ) w w' ∧ Ext w.heap.size γ γ' := by
  have hG1 := hG.below (below_alloc0 w (goutO 0 false 0))
  have hr0 := heap_alloc_last w (goutO 0 false 0)
  have hd := gdo_done f γ g t ht hm (w.alloc (goutO 0 false 0)) hG1
  have hcf : ∀ W, (callFunc 20 #[dV (f 0) (f 1) (f 2) (f 3) (f 4) (f 5) (f 6) (f 7) γ.G γ.R (6 * t)]).run Tryd.prog W = .ok (.enter 20 #[dV (f 0) (f 1) (f 2) (f 3) (f 4) (f 5) (f 6) (f 7) γ.G γ.R (6 * t)]) W :=
    fun W => enters_of Tryd.func20 (by kernel_rfl) rfl _ _
  have fin : ∀ (W' w1 : World) (γ' : Gh) (g' : Gr), IsG w1 γ' g' → Wr (foot γ) (w.alloc (goutO 0 false 0)) w1 → Ext (w.alloc (goutO 0 false 0)).heap.size γ γ' → w1.heap[w.heap.size]? = some (goutO 0 false 0) → w1.grownBy W' (some w.heap.size) →
      ∃ γ', IsG W' γ' g' ∧ Wr (foot γ) w W' ∧ Ext w.heap.size γ γ' := by
    intro W' w1 γ' g' h1 k1 x1 hr1 hg
    refine ⟨γ', isG_outrow h1 hr1 (grownBy_wr hg), ?_, x1.mono (by simp)⟩
    exact (((wr_below (below_alloc0 w _) (foot γ)).trans k1 (fun _ _ e => e)).trans (grownBy_wr hg) (fun i hi e => by omega))
  have hsame := gdo_same g t f
  generalize gdo g t f = r at *
  obtain ⟨g', er, b, v⟩ := r
  by_cases he : er = 0
  · subst he
    refine (gcaught_ok 20 _ 0 b v w (fun w1 => ∃ γ', IsG w1 γ' g' ∧ Wr (foot γ) (w.alloc (goutO 0 false 0)) w1 ∧ Ext (w.alloc (goutO 0 false 0)).heap.size γ γ') hcf (hd.mono ?_)).mono ?_
    · rintro e w1 (⟨_, rfl, γ', h1, k1, x1⟩ | ⟨h, _⟩)
      · exact ⟨rfl, hG1.kept k1 hr0 (by unfold gty; decide), γ', h1, k1, x1⟩
      · exact absurd rfl h
    · rintro e W' ⟨rfl, w1, ⟨γ', h1, k1, x1⟩, hr1, hg⟩
      exact ⟨rfl, fin W' w1 γ' g' h1 k1 x1 hr1 hg⟩
  · refine (gcaught_up 20 _ er w (fun w1 => b = false ∧ v = 0 ∧ Below (w.alloc (goutO 0 false 0)).heap.size (w.alloc (goutO 0 false 0)) w1 ∧ g' = g) hcf (hd.mono ?_)).mono ?_
    · rintro e w1 (⟨h, _⟩ | ⟨_, hq, rfl, hb⟩)
      · exact absurd h he
      · cases hq
        exact ⟨rfl, (hb.block _ (by simp)).trans hr0, rfl, rfl, hb, (hsame he).1⟩
    · rintro e W' ⟨rfl, w1, ⟨rfl, rfl, hb, rfl⟩, hr1, hg⟩
      exact ⟨rfl, fin W' w1 γ g' (hG1.below hb) (wr_below hb _) (Ext.refl _ _) hr1 hg⟩
set_option maxRecDepth 100000 in
set_option maxHeartbeats 2000000 in
theorem Do_at (f : Nat → Int) (t : Nat) (γ : Gh) (g : Gr) (w : World) (hG : IsG w γ g) (ht : t < g.rt.length) (hm : g.m < 1000) :
    Calls Tryd.prog 9 #[.pointer (some ⟨γ.G, 0, none⟩), .int .i64 (t : Int), opV f] w fun e w' => e = .returned (.tuple #[goutV (gdo g t f).2.1 (gdo g t f).2.2.1 (gdo g t f).2.2.2, .int .i64 0]) ∧ ∃ γ', IsG w' γ' (gdo g t f).1 ∧ Wr (foot γ) w w' ∧ Ext w.heap.size γ γ' := by
  have HG := hid hG
  have t0 : (0 : Int) ≤ (t : Int) := by omega
  have tn : (t : Int) < (g.rt.length : Int) := by omega
  have hn := fun O1 O2 => (hG.below (gbel2 w O1 O2)).none_no
  have f0 := fun O1 O2 => at_row (hG.below (gbel2 w O1 O2)).face 0 rfl
  clear hG
  go_enter Tryd.func9, Tryd.ntmps9
  go_wp2_with (go_at_call 18; refine (hn _ _).mono ?_; rintro e w' ⟨rfl, hw⟩; rw [hw]; clear hw)
  obtain ⟨W, hW⟩ : ∃ W, (w.alloc (.cells (row f) 28)).alloc (goutO 0 false 0) = W := ⟨_, rfl⟩
  rw [hW]
  obtain ⟨r1, r2, b1, hzz⟩ := two_new hW
  have HG1 := hid (HG.out.below b1)
  have B1 := hid b1
  have R2 := hid r2
  have e0 := at_row r1 0 rfl
  have e1 := at_row r1 1 rfl
  have e2 := at_row r1 2 rfl
  have e3 := at_row r1 3 rfl
  have e4 := at_row r1 4 rfl
  have e5 := at_row r1 5 rfl
  have e6 := at_row r1 6 rfl
  have e7 := at_row r1 7 rfl
  have f3 := at_row HG1.out.face 3 rfl
  have a0 := fun O => hcell_below' e0 (below_alloc0 W O)
  have a1 := fun O => hcell_below' e1 (below_alloc0 W O)
  have a2 := fun O => hcell_below' e2 (below_alloc0 W O)
  have a3 := fun O => hcell_below' e3 (below_alloc0 W O)
  have a4 := fun O => hcell_below' e4 (below_alloc0 W O)
  have a5 := fun O => hcell_below' e5 (below_alloc0 W O)
  have a6 := fun O => hcell_below' e6 (below_alloc0 W O)
  have a7 := fun O => hcell_below' e7 (below_alloc0 W O)
  have a8 := fun O => hcell_below' f3 (below_alloc0 W O)
  clear r1 r2 b1 hW hn f0
  go_region
  have hts : t * 6 = 6 * t := Nat.mul_comm _ _
  rw [hts]
  have b5 : Below W.heap.size W (W.alloc (dO (f 0) (f 1) (f 2) (f 3) (f 4) (f 5) (f 6) (f 7) γ.G γ.R (6 * t))).drew := (below_alloc0 W _).drew
  have r5 : (W.alloc (dO (f 0) (f 1) (f 2) (f 3) (f 4) (f 5) (f 6) (f 7) γ.G γ.R (6 * t))).drew.heap[W.heap.size]? = some (dO (f 0) (f 1) (f 2) (f 3) (f 4) (f 5) (f 6) (f 7) γ.G γ.R (6 * t)) := heap_alloc_last W _
  rw [hzz] at r5
  have HG5 := hid (HG1.out.below b5)
  have B5 := hid (B1.out.trans (b5.mono B1.out.size))
  have Q5 := hid ((b5.block _ (row_lt R2.out)).trans R2.out)
  have R5 := hid r5
  clear e0 e1 e2 e3 e4 e5 e6 e7 f3 a0 a1 a2 a3 a4 a5 a6 a7 a8 r5 b5
  generalize World.drew _ = W5 at *
  have hmf : ∀ (fn : Fn) (first cap : Array Value) (w : World), (Instr.makeFunc fn first cap).run Tryd.prog w = .ok (.func fn first cap) w := fun _ _ _ _ => rfl
  have hdc := do_caught f γ g t ht hm W5 HG5.out
  have hzz5 := hid B5.out.size
  generalize 6 * t = o at *
  obtain ⟨r, hgd⟩ : ∃ r, gdo g t f = r := ⟨_, rfl⟩
  rw [hgd] at hdc
  obtain ⟨g', er, b, v⟩ := r
  have HGD := hid hgd
  clear hgd
  go_wp2_with (first | (refine wpList_load_row rfl 66 _ rfl (w.heap.size + 1 + 1) rfl 66 (dC (f 0) (f 1) (f 2) (f 3) (f 4) (f 5) (f 6) (f 7) γ.G γ.R o) (0, 0) _ R5.out Tryd.underlying66 rfl (dC_size _ _ _ _ _ _ _ _ _ _ _) ?_) | (go_at_call 19; refine hdc.mono ?_; rintro e w6 ⟨rfl, γ6, h6, k6, x6⟩; have hr6 := HG5.out.kept k6 Q5.out (by unfold gty; decide); have c0 := at_row hr6 0 rfl; have c1 := at_row hr6 1 rfl; have c2 := at_row hr6 2 rfl; have z0 := fz_row hr6 0; have z1 := fz_row hr6 1; have z2 := fz_row hr6 2))
  obtain ⟨s1, s2, s3⟩ := out_set h6 ((wr_below B5.out (foot γ)).trans k6 (fun _ _ e => e)) hr6 (by omega) (.int .i64 er) (.int .i64 v) (.bool b)
  exact bodyPost_ret (results_out2 Tryd.results9 _ _ (w.heap.size + 1) er v b _ rfl rfl s3) rfl ⟨by rw [HGD.out]; rfl, γ6, by rw [HGD.out]; exact s1, s2, x6.mono hzz5.out⟩
end Go.Proofs.YtlkhmfmocegekaaDoor
