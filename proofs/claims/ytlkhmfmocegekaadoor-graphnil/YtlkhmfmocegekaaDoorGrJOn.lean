/- package graph: alloc. -/
import Derived.Test.YtlkhmfmocegekaaDoorGrI
import Derived.Test.YtlkhmfmocegekaaDoorGrD
import Derived.MapKept
import Derived.Lib.OthersKept
set_option linter.unusedVariables false
namespace Go.Proofs.YtlkhmfmocegekaaDoor
open Go.RowKit Go.Gr Go.Sh Go.Oq
/-- What an operation leaves that may have made an object. -/
def DidE (w : World) (γ : Gh) (g : Gr) (er : Int) (b : Bool) (v : Int) (e : Ending) (w' : World) : Prop := e = .returned (goutV er b v) ∧ ∃ γ', IsG w' γ' g ∧ Wr (foot γ) w w' ∧ Ext w.heap.size γ γ'
theorem Did.ext {w w' : World} {γ : Gh} {g : Gr} {er : Int} {b : Bool} {v : Int} {e : Ending} (h : Did w γ g er b v e w') : DidE w γ g er b v e w' := ⟨h.1, γ, h.2.1, h.2.2, Ext.refl _ _⟩
theorem didE_end {fn : Func} {p : Tmp} (h : fn.results = #[.cell p 39]) {w W : World} {γ γ' : Gh} {g : Gr} (hg : IsG W γ' g) (k : Wr (foot γ) w W) (x : Ext w.heap.size γ γ') {B : Nat} (hr : W.heap[B]? = some (goutO 0 false 0)) (hB : w.heap.size ≤ B) (e v : Int) (b : Bool) (tmps : Array Value) (hp : tmps.getD p undef = .pointer (some ⟨B, 0, none⟩)) :
    bodyPost Tryd.prog fn (DidE w γ g e b v) Exit.ret { tmps := tmps, defers := [] } (((W.setCell ⟨B, 0, none⟩ (.int .i64 e)).setCell ⟨B, 1, none⟩ (.bool b)).setCell ⟨B, 2, none⟩ (.int .i64 v)) := by
  obtain ⟨h1, h2, h3⟩ := out_set hg k hr hB (.int .i64 e) (.int .i64 v) (.bool b)
  exact bodyPost_ret (results_out h _ _ B e v b hp h3) rfl ⟨rfl, γ', h1, h2, x⟩
theorem Ext.mono {N M : Nat} {γ γ' : Gh} (h : Ext N γ γ') (hm : M ≤ N) : Ext M γ γ' := ⟨h.G, h.R, h.S, h.sp, fun b hb => (h.foot b hb).imp id (fun q => Nat.le_trans hm q), h.live⟩
theorem Ext.trans {N : Nat} {γ γ' γ2 : Gh} (h : Ext N γ γ') (h2 : Ext N γ' γ2) : Ext N γ γ2 :=
  ⟨h2.G.trans h.G, h2.R.trans h.R, h2.S.trans h.S, h2.sp.trans h.sp, fun b hb => (h2.foot b hb).elim (fun q => h.foot b q) .inr, fun x hx => ⟨(h2.live x (h.live x hx).1).1, (h2.live x (h.live x hx).1).2.trans (h.live x hx).2⟩⟩
abbrev DS4 (b R : Nat) (A sh : Int) (G o : Nat) (W : World) : Prop := W.cell? ⟨b, 1, none⟩ = some (.int .i64 A) ∧ W.cell? ⟨b, 5, none⟩ = some (.int .i64 sh) ∧ W.cell? ⟨b, 8, none⟩ = some (.pointer (some ⟨G, 0, none⟩)) ∧ W.cell? ⟨b, 9, none⟩ = some (.pointer (some ⟨R, o, none⟩))
theorem ds4_row {b R : Nat} {k a b' c fl sh x y : Int} {G o : Nat} {W : World} (hr : W.heap[b]? = some (dO k a b' c fl sh x y G R o)) : DS4 b R a sh G o W := ⟨at_row hr 1 rfl, at_row hr 5 rfl, at_row hr 8 rfl, at_row hr 9 rfl⟩
theorem ds4_set {b R : Nat} {A sh : Int} {G o : Nat} {W : World} (h : DS4 b R A sh G o W) {g i : Nat} {v : Value} (hb : b ≠ g) : DS4 b R A sh G o (W.setCell ⟨g, i, none⟩ v) := by
  have f : ∀ {j u}, W.cell? ⟨b, j, none⟩ = some u → (W.setCell ⟨g, i, none⟩ v).cell? ⟨b, j, none⟩ = some u := fun hc => (World.cell?_setCell_other W _ _ v (fun e => hb (by injection e with e _ _; exact e.symm))).trans hc
  exact ⟨f h.1, f h.2.1, f h.2.2.1, f h.2.2.2⟩
set_option maxRecDepth 100000 in
set_option maxHeartbeats 1000000 in
theorem galloc_at (k b c fl x y : Int) (γ : Gh) (g : Gr) (t A K : Nat) (ht : t < g.rt.length) (hA : A < 6) (hK : K < g.ss.length) (hm : g.m < 1000) (w : World) (hG : IsG w γ g) :
    Calls Tryd.prog 54 #[dV k A b c fl K x y γ.G γ.R (6 * t)] w (DidE w γ ((g.new K).setS t A (g.m + 1)) 0 false 0) := by
  have h6 : (A : Int) < 6 := by omega
  have h0 : (0 : Int) ≤ (A : Int) := by omega
  have HG := hid hG
  clear hG
  go_enter Tryd.func54, Tryd.ntmps54
  go_wp2_with fail
  obtain ⟨W, hW⟩ : ∃ W, (w.alloc (dO k A b c fl K x y γ.G γ.R (6 * t))).alloc (goutO 0 false 0) = W := ⟨_, rfl⟩
  rw [hW]
  obtain ⟨r1, r2, b1, hz⟩ := two_new hW
  have HG1 := hid (HG.out.below b1)
  have B1 := hid b1
  have R1 := hid r1
  have R2 := hid r2
  clear r1 r2 b1 hW
  have cf := fresh_at γ g K hK hm W.drew HG1.out.drew
  have HDD := hid (show DS4 w.heap.size γ.R A K γ.G (6 * t) W.drew from ds4_row R1.out)
  have HM := fun i (_ : i < W.drew.heap.size) (e : i = γ.G) => (show foot γ i from .inl e)
  have HT := hid (fun W' (k' : Wr (fun b => b = γ.G) W.drew W') => And.intro (HG1.out.drew.kept (k'.mono HM) R1.out (by unfold gty; decide)) (HG1.out.drew.kept (k'.mono HM) R2.out (by unfold gty; decide)))
  have HSC := hid (fun W' γ' (x' : Ext W.drew.heap.size γ γ') (h' : IsG W' γ' (g.new K)) => And.intro (h'.slotc (t := t) (s := A) ht hA) (fz_row h'.rts (6 * t + A)))
  have hn1 : w.heap.size ≠ γ.R := by have := HG.out.lt; omega
  have hn3 : w.heap.size + 1 ≠ γ.R := by have := HG.out.lt; omega
  generalize hO : 6 * t = o at *
  go_region_held3 (DS4 w.heap.size γ.R A K γ.G o) (with_reducible (first | assumption | exact HDD.out | exact hD4 | exact ds4_set hD4 hn1)) (first | (go_at_call 17; refine cf.mono ?_; rintro e w3 ⟨γ', rfl, hl3, h3, k3, x3⟩; have hr3 := HT.out w3 k3; have hD4 : DS4 w.heap.size γ.R A K γ.G o w3 := ds4_row hr3.1; have hsc := HSC.out w3 γ' x3 h3; rw [x3.R] at hsc; have q1 := hsc.1; have q2 := hsc.2))
  have HS := hid (h3.setS (t := t) (s := A) (x := g.m + 1) ht hA (by rw [m_new]; exact Nat.le_refl _) (fun _ => hl3))
  rw [pp_pos _ (by omega : g.m + 1 ≠ 0), x3.R, hO] at HS
  have K4 := hid (show Wr (foot γ) w (w3.setCell ⟨γ.R, o + A, none⟩ (.pointer (some ⟨γ'.at_ (g.m + 1), 0, none⟩))) from ((((wr_below B1.out (foot γ)).drew).trans k3 (fun i hi e => .inl e))).trans (wr_set w3 γ.R (o + A) _) (fun i _ e => .inr (.inl e)))
  have Q4 := hid (show (w3.setCell ⟨γ.R, o + A, none⟩ (.pointer (some ⟨γ'.at_ (g.m + 1), 0, none⟩))).heap[w.heap.size + 1]? = some (goutO 0 false 0) from (wr_set w3 γ.R (o + A) _).row hr3.2 hn3)
  have X4 := hid (x3.mono (M := w.heap.size) B1.out.size)
  clear HDD HM HT HSC q1 q2 hsc hD4 h3 k3 hr3 cf x3
  generalize w3.setCell ⟨γ.R, o + A, none⟩ (.pointer (some ⟨γ'.at_ (g.m + 1), 0, none⟩)) = W4 at *
  have c0 := at_row Q4.out 0 rfl
  have c1 := at_row Q4.out 1 rfl
  have c2 := at_row Q4.out 2 rfl
  have f0 := fz_row Q4.out 0
  have f1 := fz_row Q4.out 1
  have f2 := fz_row Q4.out 2
  go_wp2
  exact didE_end Tryd.results54 HS.out K4.out X4.out Q4.out (by omega) 0 0 false _ rfl
end Go.Proofs.YtlkhmfmocegekaaDoor
/- package graph: the map of what kinds do. -/
set_option linter.unusedVariables false
namespace Go.Proofs.YtlkhmfmocegekaaDoor
open Go.RowKit Go.Gr Go.Sh Go.Oq
/-- The function of a kind. -/
def dfn : Nat → Nat
  | 1 => 54 | 2 => 55 | 3 => 56 | 4 => 57 | 5 => 58 | 6 => 59
  | 7 => 60 | 8 => 61 | 9 => 62 | 10 => 63 | _ => 64
def dent (K : Nat) : MapEntry := { key := .int .i64 ((K : Int) + 1), val := .func (.func (dfn (K + 1))) #[] #[], born := K }
/-- The first so many entries of the map that deeds makes. -/
def dents : Nat → List MapEntry
  | 0 => []
  | n + 1 => dents n ++ [dent n]
abbrev deedsObj : Obj := .map (dents 11).toArray 11
theorem dUpdate_new (w : World) (n : Nat) (k : Int) (x : Value) (hk : Value.int .i64 k = (dent n).key) (hx : x = (dent n).val) (hf : Instr.findNow (.int .i64) (.int .i64 k) (dents n) 0 = some none) :
    (Instr.mapUpdate 91 (.map (some w.heap.size)) (.int .i64 k) x).run Tryd.prog (w.alloc (.map (dents n).toArray n)) = .ok () (w.alloc (.map (dents (n + 1)).toArray (n + 1))) := by
  have hm := Tryd.underlying91
  have hkk := Tryd.underlying26
  have hb := heap_alloc_last w (.map (dents n).toArray n)
  have hc : (Instr.checkKey false 10000 26 (.int .i64 k)).run Tryd.prog (w.alloc (.map (dents n).toArray n)) = .ok () (w.alloc (.map (dents n).toArray n)) := MapKept.run_checkKey (k := .int .i64 k) hkk (by simp [MapKept.IsKey]) false 9999
  have hf' : Instr.findNow (.int .i64) (.int .i64 k) (dents n).toArray.toList 0 = some none := hf
  have e : (dents n).toArray.push { key := .int .i64 k, val := x, born := n } = (dents (n + 1)).toArray := by
    rw [hk, hx]; simp [dents, dent]
  simp [Instr.mapUpdate, run_underlying hm, MapKept.run_getObj_map hb, hc, MapKept.run_findKey hkk hf', MapKept.run_setObj_map _ hb, Result.andThen]
  have e2 : dents n ++ [{ key := .int .i64 k, val := x, born := n }] = dents (n + 1) := by rw [hk, hx]; rfl
  first
    | (rw [e]; exact gset_alloc_new w _ _)
    | (rw [e2]; exact gset_alloc_new w _ _)
set_option maxRecDepth 100000 in
theorem deeds_any (w : World) : Calls Tryd.prog 34 #[] w fun e w' => e = .returned (.map (some w.heap.size)) ∧ w' = w.alloc deedsObj := by
  have hmm := @run_makeMap Tryd.prog
  have hz : Obj.map #[] 0 = Obj.map (dents 0).toArray 0 := rfl
  rw [hz] at hmm
  have u0 := dUpdate_new w 0 1 (.func (.func (dfn 1)) #[] #[]) rfl rfl rfl
  have u1 := dUpdate_new w 1 2 (.func (.func (dfn 2)) #[] #[]) rfl rfl rfl
  have u2 := dUpdate_new w 2 3 (.func (.func (dfn 3)) #[] #[]) rfl rfl rfl
  have u3 := dUpdate_new w 3 4 (.func (.func (dfn 4)) #[] #[]) rfl rfl rfl
  have u4 := dUpdate_new w 4 5 (.func (.func (dfn 5)) #[] #[]) rfl rfl rfl
  have u5 := dUpdate_new w 5 6 (.func (.func (dfn 6)) #[] #[]) rfl rfl rfl
  have u6 := dUpdate_new w 6 7 (.func (.func (dfn 7)) #[] #[]) rfl rfl rfl
  have u7 := dUpdate_new w 7 8 (.func (.func (dfn 8)) #[] #[]) rfl rfl rfl
  have u8 := dUpdate_new w 8 9 (.func (.func (dfn 9)) #[] #[]) rfl rfl rfl
  have u9 := dUpdate_new w 9 10 (.func (.func (dfn 10)) #[] #[]) rfl rfl rfl
  have u10 := dUpdate_new w 10 11 (.func (.func (dfn 11)) #[] #[]) rfl rfl rfl
  simp only [dfn] at u0 u1 u2 u3 u4 u5 u6 u7 u8 u9 u10
  go_enter Tryd.func34, Tryd.ntmps34
  go_wp2
  go_ret
  exact ⟨rfl, rfl⟩
theorem deeds_find (K : Nat) (h1 : 1 ≤ K) (h2 : K ≤ 11) : Instr.findNow (.int .i64) (.int .i64 (K : Int)) (dents 11) 0 = some (some (K - 1, .func (.func (dfn K)) #[] #[])) := by
  have : K = 1 ∨ K = 2 ∨ K = 3 ∨ K = 4 ∨ K = 5 ∨ K = 6 ∨ K = 7 ∨ K = 8 ∨ K = 9 ∨ K = 10 ∨ K = 11 := by omega
  rcases this with rfl | rfl | rfl | rfl | rfl | rfl | rfl | rfl | rfl | rfl | rfl <;> rfl
theorem deeds_lookup (w : World) (b : Nat) (hb : w.heap[b]? = some deedsObj) (K : Nat) (h1 : 1 ≤ K) (h2 : K ≤ 11) :
    (Instr.lookup 91 (.map (some b)) (.int .i64 (K : Int)) false).run Tryd.prog w = .ok (.func (.func (dfn K)) #[] #[]) w := by
  have hm := Tryd.underlying91
  have hkk := Tryd.underlying26
  have hc : (Instr.checkKey false 10000 26 (.int .i64 (K : Int))).run Tryd.prog w = .ok () w := MapKept.run_checkKey (k := .int .i64 (K : Int)) hkk (by simp [MapKept.IsKey]) false 9999
  obtain ⟨es, hes⟩ : ∃ es, (dents 11).toArray = es := ⟨_, rfl⟩
  have he : es.isEmpty = false := by rw [← hes]; rfl
  have hl : Instr.findNow (.int .i64) (.int .i64 (K : Int)) es.toList 0 = some (some (K - 1, .func (.func (dfn K)) #[] #[])) := by rw [← hes]; exact deeds_find K h1 h2
  have hf := MapKept.run_findKey (P := Tryd.prog) (w := w) hkk hl
  unfold deedsObj at hb
  rw [hes] at hb
  clear hes hl
  simp [Instr.lookup, run_underlying hm, MapKept.run_getObj_map hb, Result.andThen]
  rw [he, hc]
  dsimp only
  rw [hf]
  rfl
theorem dfn_enters (K : Nat) (h1 : 1 ≤ K) (h2 : K ≤ 11) : ∀ args w, (callFunc (dfn K) args).run Tryd.prog w = .ok (.enter (dfn K) args) w := by
  have : K = 1 ∨ K = 2 ∨ K = 3 ∨ K = 4 ∨ K = 5 ∨ K = 6 ∨ K = 7 ∨ K = 8 ∨ K = 9 ∨ K = 10 ∨ K = 11 := by omega
  rcases this with rfl | rfl | rfl | rfl | rfl | rfl | rfl | rfl | rfl | rfl | rfl
  · exact enters_of Tryd.func54 (by kernel_rfl) rfl
  · exact enters_of Tryd.func55 (by kernel_rfl) rfl
  · exact enters_of Tryd.func56 (by kernel_rfl) rfl
  · exact enters_of Tryd.func57 (by kernel_rfl) rfl
  · exact enters_of Tryd.func58 (by kernel_rfl) rfl
  · exact enters_of Tryd.func59 (by kernel_rfl) rfl
  · exact enters_of Tryd.func60 (by kernel_rfl) rfl
  · exact enters_of Tryd.func61 (by kernel_rfl) rfl
  · exact enters_of Tryd.func62 (by kernel_rfl) rfl
  · exact enters_of Tryd.func63 (by kernel_rfl) rfl
  · exact enters_of Tryd.func64 (by kernel_rfl) rfl
end Go.Proofs.YtlkhmfmocegekaaDoor
