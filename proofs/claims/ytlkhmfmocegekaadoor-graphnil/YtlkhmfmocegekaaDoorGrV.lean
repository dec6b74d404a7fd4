/- package graph: Words. Typed by tools/gen09v.py. -/
import Derived.Test.YtlkhmfmocegekaaDoorGrU
import Derived.Test.YtlkhmfmocegekaaDoorGrH
set_option linter.unusedVariables false
namespace Go.Proofs.YtlkhmfmocegekaaDoor
open Go.RowKit Go.Gr Go.Sh Go.Oq
attribute [local go_sem] Oper.semAt_some
/-- What a round that writes elsewhere keeps. -/
theorem kpM_wr {γ : Gh} {g : Gr} {N0 : Nat} {S : Nat → Prop} {W W' : World} (h : Wr S W W') (hN : N0 < W.heap.size) (hS : ∀ b, S b → ¬ foot γ b ∧ b ≠ γ.S ∧ b < N0) : KpM γ g N0 W W' :=
  ⟨fun q => q.frame h (fun b hb hs => (hS b hs).1 hb) (fun hs => (hS _ hs).2.1 rfl), h.block N0 hN (fun hs => Nat.lt_irrefl _ (hS _ hs).2.2), fun r cs hr hc => h.row hc (fun hs => by have := (hS r hs).2.2; omega), h.size⟩
theorem kpM_put {γ : Gh} {g : Gr} {N0 l : Nat} (W : World) (o' : Obj) (h1 : ¬ foot γ l) (h2 : γ.S ≠ l) (h3 : l < N0) : KpM γ g N0 W (W.putObj l o') :=
  ⟨fun q => q.frame (grownBy_wr (grownBy_putObj' W l o')) (fun b hb e => h1 (e ▸ hb)) h2, World.putObj_heap_other (by omega), fun r cs hr hc => (World.putObj_heap_other (by omega)).trans hc, by simp [World.putObj]⟩
theorem keepsFrom_wr {B : Nat} {S : Nat → Prop} {W W' : World} (h : Wr S W W') (hS : ∀ b, S b → b < B) : KeepsFrom B W W' :=
  ⟨h.size, fun k o hB hk _ => h.row hk (fun hs => by have := hS k hs; omega)⟩
theorem wr_turn {T : TypeId} {D N : Nat} {A A' : World} {row : Option Nat} (hg : A.grownBy A' row) (ht : MTurns T D N A row) : Wr (fun b => D ≤ b) A A' :=
  ⟨hg.os, hg.tape, hg.output, hg.size, fun k hk hn => hg.block k hk (fun e => hn (ht k e.symm).1)⟩
theorem IsG.live_met {W : World} {γ : Gh} {g : Gr} (h : IsG W γ g) {L : List Nat} (hL : Met g L) (x : Nat) (hx : x ∈ L) : γ.live x := by
  have h0 := hL.pos x hx
  refine Run.all (p := fun y => y ≠ 0 → γ.live y) (fun y hy hy0 z hz => ?_) hL (by simp) (fun y hy => ?_) x hx h0
  · unfold Gr.kids at hz
    obtain ⟨f, hf, rfl⟩ := List.mem_map.1 hz
    intro h1
    exact (h.obj y (hy hy0)).led f (List.mem_range.1 hf) h1
  · obtain ⟨r, hr, hyr⟩ := List.mem_flatten.1 hy
    obtain ⟨t, ht, rfl⟩ := List.getElem_of_mem hr
    obtain ⟨s, hs, rfl⟩ := List.getElem_of_mem hyr
    have e : g.slot t s = g.rt[t][s] := by
      unfold Gr.slot Gr.row
      rw [List.getD_eq_getElem?_getD, List.getD_eq_getElem?_getD, List.getElem?_eq_getElem ht]
      simp [List.getElem?_eq_getElem hs]
    intro h1
    rw [← e] at h1 ⊢
    exact h.rtl t s h1
/-- The words of those. -/
def wsum (g : Gr) {L : List Nat} (pre : List (Fin L.length)) : Nat := (pre.map fun i => 2 + (g.txt L[i]).size).sum
theorem wsum_snoc (g : Gr) {L : List Nat} (pre : List (Fin L.length)) (i : Fin L.length) : wsum g (pre ++ [i]) = wsum g pre + (2 + (g.txt L[i]).size) := by simp [wsum]
theorem wsum_all (g : Gr) {L : List Nat} (xs : List (Fin L.length)) (h : valsOf xs = List.range L.length) : wsum g xs = words g L := by
  have h1 : ∀ i : Fin L.length, 2 + (g.txt L[i]).size = 2 + (g.txt (L.getD i.val 0)).size := fun i => by
    rw [List.getD_eq_getElem?_getD, List.getElem?_eq_getElem i.isLt]; rfl
  have h2 : wsum g xs = ((valsOf xs).map fun v => 2 + (g.txt (L.getD v 0)).size).sum := by
    unfold wsum valsOf
    rw [List.map_map]
    congr 1
    exact List.map_congr_left fun i _ => h1 i
  rw [h2, h]
  unfold words
  congr 1
  apply List.ext_getElem
  · simp
  · intro i h3 h4
    simp only [List.length_map] at h4
    simp [List.getElem?_eq_getElem h4]
theorem wsum_le {g : Gr} {L : List Nat} (hL : ∀ i : Fin L.length, (g.txt L[i]).size ≤ 8) : ∀ pre : List (Fin L.length), wsum g pre ≤ 10 * pre.length
  | [] => Nat.le_refl _
  | i :: r => by
    have := wsum_le hL r
    have := hL i
    simp only [wsum, List.map_cons, List.sum_cons, List.length_cons] at *
    omega
/-- What the region reads. -/
abbrev VS (b1 G O S n c : Nat) (k : Nat) (W : World) : Prop := W.cell? ⟨b1, 0, none⟩ = some (.pointer (some ⟨G, 0, none⟩)) ∧ W.cell? ⟨G, 2, none⟩ = some (.slice (some ⟨S, 0, none⟩) n c) ∧ W.cell? ⟨O, 0, none⟩ = some (.int .i64 (k : Int))
theorem vs_bel {b1 G O S n c k : Nat} {W W' : World} (h : VS b1 G O S n c k W) (b : Below W.heap.size W W') : VS b1 G O S n c k W' := ⟨hcell_below' h.1 b, hcell_below' h.2.1 b, hcell_below' h.2.2 b⟩
/-- What Words keeps. -/
structure WdI (γ : Gh) (g : Gr) (w : World) (b1 : Nat) (s : Int) (W : World) : Prop where
  gr : IsG W γ g
  bel : Below w.heap.size w W
  box : W.heap[b1]? = some (.cells #[.pointer (some ⟨γ.G, 0, none⟩)] 31)
  sum : W.heap[b1 + 1]? = some (.cells #[.int .i64 s] 3)
theorem WdI.turn {γ : Gh} {g : Gr} {w : World} {b1 : Nat} {s : Int} {A A' : World} {D : Nat} (h : WdI γ g w b1 s A) (hw : w.heap.size ≤ b1) (hb : b1 + 1 < D) (hfo : ∀ b, foot γ b → b < D) (hS : γ.S < D) (k : Wr (fun b => D ≤ b) A A') : WdI γ g w b1 s A' :=
  ⟨h.gr.frame k (fun b hf e => by have := hfo b hf; omega) (by omega), Wr.belowN h.bel h.bel.size k (fun i hi e => by omega), k.row h.box (by omega), k.row h.sum (by omega)⟩
theorem WdI.add {γ : Gh} {g : Gr} {w : World} {b1 : Nat} {s s' : Int} {W w3 : World} (h : WdI γ g w b1 s W) (hw : w.heap.size ≤ b1) (b : Below W.heap.size W w3) (hfo : ∀ b, foot γ b → b < b1) (hS : γ.S < b1) : Wr (fun b => b = b1 + 1) W (w3.setCell ⟨b1 + 1, 0, none⟩ (.int .i64 s')) ∧ WdI γ g w b1 s' (w3.setCell ⟨b1 + 1, 0, none⟩ (.int .i64 s')) := by
  have k : Wr (fun b => b = b1 + 1) W (w3.setCell ⟨b1 + 1, 0, none⟩ (.int .i64 s')) := (wr_below b _).trans (wr_set w3 (b1 + 1) 0 _) (fun _ _ e => e)
  have hs := (b.block _ (row_lt h.sum)).trans h.sum
  refine ⟨k, h.gr.frame k (fun b hf e => by have := hfo b hf; omega) (by omega), Wr.belowN h.bel h.bel.size k (fun i hi e => by omega), k.row h.box (by omega), ?_⟩
  rw [gset_row hs]
  rfl
set_option maxRecDepth 100000 in
set_option maxHeartbeats 4000000 in
theorem gWords_in (γ : Gh) (g : Gr) (L : List Nat) (hL : Met g L) (w : World) (h : IsG w γ g) :
    CallsIn Fence.wide 4 Tryd.prog 12 #[.pointer (some ⟨γ.G, 0, none⟩)] w fun e w' => e = .returned (.int .i64 (words g L : Int)) ∧ Below w.heap.size w w' := by
  have HG := hid h
  have cn := fun O1 => (callsIn_wide (n := 3)).2 (h.below (below_alloc0 w O1)).none_no
  have hlive := hid (fun i : Fin L.length => HG.out.live_met hL L[i] (List.getElem_mem i.isLt))
  clear h
  refine callsIn_of_wp_marks Tryd.func12 rfl trivial ?_ rfl
  simp only [Tryd.ntmps12, List.size_toArray, List.length_cons, List.length_nil, Nat.reduceAdd, Nat.reduceSub, Array.replicate_succ, Array.replicate_zero, List.push_toArray, List.append_toArray, List.nil_append, List.cons_append]
  gi_wp2_with (first | (refine ⟨trivial, ?_⟩; gi_at_call 18; refine (cn _).mono ?_; rintro e w2 ⟨rfl, hw⟩; rw [hw]; clear hw) | (refine ⟨trivial, ?_⟩; gi_at_call 23; refine (callsIn_wide.2 (met_any _ _)).mono ?_; rintro e w2 ⟨rfl, hw⟩; rw [hw]; clear hw))
  obtain ⟨b1, hb1⟩ : ∃ b1, w.heap.size = b1 := ⟨_, rfl⟩
  obtain ⟨W0, hW0⟩ : ∃ W0, ((w.alloc (Obj.cells #[Value.pointer (some { block := γ.G, off := 0 })] 31)).alloc (Obj.cells #[Value.int IntKind.i64 0] 3)).alloc (Obj.cells #[Value.pointer (some { block := γ.G, off := 0 })] 31) = W0 := ⟨_, rfl⟩
  rw [hW0]
  have HB0 : Below w.heap.size w W0 := by rw [← hW0]; exact bel3 (Below.refl _ _)
  have hz : W0.heap.size = b1 + 3 := by rw [← hW0, ← hb1]; simp
  have HI := hid (show WdI γ g w b1 0 W0 from ⟨HG.out.below HB0, HB0, by rw [← hW0, ← hb1]; exact row3a (Below.refl _ _), by rw [← hW0, ← hb1]; exact row3b (Below.refl _ _)⟩)
  have HBs : W0.heap[b1 + 1 + 1]? = some (.cells #[.pointer (some ⟨γ.G, 0, none⟩)] 31) := by rw [← hW0, ← hb1]; exact row3c (Below.refl _ _)
  have HF := hid (fun b (hf : foot γ b) => (show b < b1 from by rw [← hb1]; exact HG.out.foot_lt hf))
  have HSl := hid (show γ.S < b1 from by rw [← hb1]; exact HG.out.lt.2.2)
  rw [hb1]
  have hwb : w.heap.size ≤ b1 := by omega
  have H8 := hid (fun i : Fin L.length => HG.out.ok.txt8 (HG.out.obj _ (hlive.out i)).num.1 (HG.out.obj _ (hlive.out i)).num.2)
  have HLm := hid (show L.length ≤ 1000 from Nat.le_trans (hL.len HG.out.ok) HG.out.ok.big)
  have hkb : ∀ (W : World) (o' : Obj), KpM γ g (W0.heap.size + 2) W (W.putObj (W0.heap.size + 1) o') := fun W o' => kpM_put W o' (fun hf => by have := HF.out _ hf; omega) (fun e => by have := HSl.out; omega) (by omega)
  have hst : MStays 60 W0.heap.size (W0.heap.size + 2) (fun (pre : List (Fin L.length)) W => Hid (WdI γ g w b1 (wsum g pre : Nat) W)) := fun pre A B row hs hg hr => hid (hs.out.turn hwb (by omega) (fun b hf => by have := HF.out b hf; omega) (by have := HSl.out; omega) (wr_turn hg hr))
  have hseq := met_owns 3 (by omega) γ g L hL (b1 + 1 + 1) (W0.heap.size + 2) W0 HI.out.gr HBs
  refine wpIn_rangeFunc_mplain 60 (Q := _) rfl (by decide) (gf := 37) (lb := #[.pointer (some ⟨b1 + 1 + 1, 0, none⟩)]) rfl trivial (enters_of Tryd.func37 (by kernel_rfl) rfl)
    hseq (fun h k => kpM_t h k) hkb (kpM_refl γ g _) (Below.refl _ _) (fun _ => rfl)
    (fun pre W => Hid (WdI γ g w b1 (wsum g pre : Nat) W)) (fun _ _ _ => False) hst (fun c s A A' row h _ _ => h) HI ?a1 ?assign ?body ?done ?stop
  case assign =>
    intro l x W K hK
    dsimp only [encM]
    gi_wp2
    exact hK
  case body =>
    rintro l pre x W HA hN hlen _
    have hO := hlive.out x
    have hkx := (HG.out.obj _ hO).num
    have hrr := HG.out.ok.shs _ hkx.1 hkx.2
    obtain ⟨sa, sc, hrow, _⟩ := (HA.out.gr.obj _ hO).row
    have h8 := H8.out x
    have HSN := hid (wsum_snoc g pre x)
    have hle := wsum_le H8.out pre
    have hLm := HLm.out
    have hsz : sz g.ss (g.shp L[x] : Int) = (2 + ((g.txt L[x]).size : Int), 0) := by
      unfold sz
      rw [if_pos HG.out.ok.rgt, if_pos (by simp [inR]; omega)]
      rfl
    have cs := Size_any (.slice (some ⟨γ.S, 0, none⟩) g.ss.length γ.sc) g.ss (g.shp L[x] : Int) W.drew HA.out.gr.drew.isTab
    rw [hsz] at cs
    generalize L[x] = o at *
    generalize hsum : wsum g pre = sm at *
    have hw1 : IntKind.i64.wrap ((sm : Int) + (2 + ((g.txt o).size : Int))) = (sm : Int) + (2 + ((g.txt o).size : Int)) := IntWalk.i64_in _ ⟨by omega, by omega⟩
    have HS := hid (show VS b1 γ.G (γ.at_ o) γ.S g.ss.length γ.sc (g.shp o) W.drew from ⟨at_row HA.out.box 0 rfl, at_row HA.out.gr.face 2 rfl, at_row hrow 0 rfl⟩)
    have HS3 : Hid (∀ w3, Below W.heap.size W w3 → VS b1 γ.G (γ.at_ o) γ.S g.ss.length γ.sc (g.shp o) w3) := hid (fun w3 b => vs_bel HS.out ⟨b.os, b.tape, b.output, b.size, b.block⟩)
    have HQ : Hid (∀ w3, Below W.heap.size W w3 → w3.heap[b1 + 1]? = some (.cells #[.int .i64 (sm : Int)] 3)) := hid (fun w3 b => (b.block _ (row_lt HA.out.sum)).trans HA.out.sum)
    clear hrow hsz
    gi_wp2_with fail
    refine wpIn_region_held_round (S := VS b1 γ.G (γ.at_ o) γ.S g.ss.length γ.sc (g.shp o)) (by kernel_rfl) (by kernel_rfl) (by rintro ⟨_, _, h⟩; exact h) (HS.out) (fun hHeld => ?_)
    refine wpAnyH_take (i := 0) (v := ?_) rfl (by kernel_rfl) (by kernel_rfl) (by kernel_rfl) (fun _ _ _ h => h) (Or.inl ⟨by rfl, ?_⟩) (by assumption) ?_
    rotate_left
    · (intro wx hSw; (try dsimp only at hSw); go_simp <;> with_reducible rfl)
    simp only [Act.put]
    refine wpAnyH_take (i := 1) (v := ?_) rfl (by kernel_rfl) (by kernel_rfl) (by kernel_rfl) (fun _ _ _ h => h) (Or.inl ⟨by rfl, ?_⟩) (by assumption) ?_
    rotate_left
    · (intro wx hSw; (try dsimp only at hSw); go_simp <;> with_reducible rfl)
    simp only [Act.put]
    refine wpAnyH_take (i := 2) (v := ?_) rfl (by kernel_rfl) (by kernel_rfl) (by kernel_rfl) (fun _ _ _ h => h) (Or.inl ⟨by rfl, ?_⟩) (by assumption) ?_
    rotate_left
    · (intro wx hSw; (try dsimp only at hSw); go_simp <;> with_reducible rfl)
    simp only [Act.put]
    refine wpAnyH_take (i := 3) (v := ?_) rfl (by kernel_rfl) (by kernel_rfl) (by kernel_rfl) (fun _ _ _ h => h) (Or.inl ⟨by rfl, ?_⟩) (by assumption) ?_
    rotate_left
    · (intro wx hSw; (try dsimp only at hSw); go_simp <;> with_reducible rfl)
    simp only [Act.put]
    refine wpAnyH_take (i := 4) (v := ?_) rfl (by kernel_rfl) (by kernel_rfl) (by kernel_rfl) (fun _ _ _ h => h) (Or.inl ⟨by rfl, ?_⟩) (by assumption) ?_
    rotate_left
    · (intro wx hSw; (try dsimp only at hSw); go_simp <;> with_reducible rfl)
    simp only [Act.put]
    refine wpAnyH_take (i := 5) (v := ?_) rfl (by kernel_rfl) (by kernel_rfl) (by kernel_rfl) (fun _ _ _ h => h) (Or.inl ⟨by rfl, ?_⟩) (by assumption) ?_
    rotate_left
    · (intro wx hSw; (try dsimp only at hSw); go_simp <;> with_reducible rfl)
    simp only [Act.put]
    refine wpAnyH_take (i := 6) (v := ?_) rfl (by kernel_rfl) (by kernel_rfl) (by kernel_rfl) (fun _ _ _ h => h) (Or.inl ⟨by rfl, ?_⟩) (by assumption) ?_
    rotate_left
    · (intro wx hSw; (try dsimp only at hSw); go_simp <;> with_reducible rfl)
    simp only [Act.put]
    refine wpAnyH_take (i := 7) (v := ?_) rfl (by kernel_rfl) (by kernel_rfl) (by kernel_rfl) (fun _ _ _ h => h) (Or.inl ⟨by rfl, ?_⟩) (by assumption) ?_
    rotate_left
    · (intro wx hSw; (try dsimp only at hSw); go_simp <;> with_reducible rfl)
    simp only [Act.put]
    refine wpAnyH_take (i := 8) (v := ?_) rfl (by kernel_rfl) (by kernel_rfl) (by kernel_rfl) (fun _ _ _ h => h) (Or.inl ⟨by rfl, ?_⟩) (by assumption) ?_
    rotate_left
    · (intro wx hSw; (try dsimp only at hSw); go_simp <;> with_reducible rfl)
    simp only [Act.put]
    refine wpAnyH_ready (rs := [9]) (by kernel_rfl) (by simp) ?_
    refine AllReadyH.cons rfl (fun K hK => ?_) AllReadyH.nil
    go_simp
    go_at_call 24
    refine cs.mono ?_
    rintro e w3 ⟨rfl, b3⟩
    have B3 := hid (bel_undrew b3)
    clear b3
    dsimp only
    refine hK.out _ _ ?_ (fun hHeld => ?_)
    · with_reducible (first | assumption | exact HS.out | exact HS3.out _ B3.out)
    clear hK K
    refine wpAnyH_take (i := 10) (v := ?_) rfl (by kernel_rfl) (by kernel_rfl) (by kernel_rfl) (fun _ _ _ h => h) (Or.inl ⟨by rfl, ?_⟩) (by assumption) ?_
    rotate_left
    · (intro wx hSw; (try dsimp only at hSw); go_simp <;> with_reducible rfl)
    simp only [Act.put]
    refine wpAnyH_take (i := 11) (v := ?_) rfl (by kernel_rfl) (by kernel_rfl) (by kernel_rfl) (fun _ _ _ h => h) (Or.inl ⟨by rfl, ?_⟩) (by assumption) ?_
    rotate_left
    · (intro wx hSw; (try dsimp only at hSw); go_simp <;> with_reducible rfl)
    simp only [Act.put]
    refine wpAnyH_take (i := 12) (v := ?_) rfl (by kernel_rfl) (by kernel_rfl) (by kernel_rfl) (fun _ _ _ h => h) (Or.inl ⟨by rfl, ?_⟩) (by assumption) ?_
    rotate_left
    · (intro wx hSw; (try dsimp only at hSw); go_simp <;> with_reducible rfl)
    simp only [Act.put]
    refine wpAnyH_take (i := 13) (v := ?_) rfl (by kernel_rfl) (by kernel_rfl) (by kernel_rfl) (fun _ _ _ h => h) (Or.inl ⟨by rfl, ?_⟩) (by assumption) ?_
    rotate_left
    · (intro wx hSw; (try dsimp only at hSw); go_simp <;> with_reducible rfl)
    simp only [Act.put]
    refine wpAnyH_take (i := 14) (v := ?_) rfl (by kernel_rfl) (by kernel_rfl) (by kernel_rfl) (fun _ _ _ h => h) (Or.inl ⟨by rfl, ?_⟩) (by assumption) ?_
    rotate_left
    · (intro wx hSw; (try dsimp only at hSw); go_simp <;> with_reducible rfl)
    simp only [Act.put]
    refine wpAnyH_done (by kernel_rfl) ?_ _
    have q3 := at_row (HQ.out w3 B3.out) 0 rfl
    have f3 := fz_row (HQ.out w3 B3.out) 0
    gi_wp2
    obtain ⟨k4, i4⟩ := HA.out.add (s' := (sm : Int) + (2 + ((g.txt o).size : Int))) hwb B3.out HF.out HSl.out
    refine ⟨keepsFrom_wr k4 (fun b e => by omega), kpM_wr k4 (by omega) (fun b e => ⟨fun hf => by have := HF.out b hf; omega, by have := HSl.out; omega, by omega⟩), ?_⟩
    show Hid (WdI γ g w b1 ((wsum g (pre ++ [x]) : Nat) : Int) _)
    rw [HSN.out]
    exact hid (by have := i4; simpa using this)
  case done =>
    rintro D ys W hD hys HA hK
    have k2 := at_row HA.out.sum 0 rfl
    gi_wp2
    refine ⟨by simp, .inl ⟨_, _, rfl, run_takeDeferred hK, ?_⟩⟩
    refine ⟨_, results_tmp rfl _ _ _, by rw [wsum_all g ys hys]; rfl, ?_⟩
    exact Wr.belowN HA.out.bel HA.out.bel.size (grownBy_wr (grownBy_putObj' W D _)) (fun i hi e => by omega)
  case stop =>
    rintro D c pre W _ _ h _
    exact h.elim
theorem gWords_at (γ : Gh) (g : Gr) (L : List Nat) (hL : Met g L) (w : World) (h : IsG w γ g) :
    Calls Tryd.prog 12 #[.pointer (some ⟨γ.G, 0, none⟩)] w fun e w' => e = .returned (.int .i64 (words g L : Int)) ∧ Below w.heap.size w w' := callsIn_wide.1 (gWords_in γ g L hL w h)
set_option maxRecDepth 100000 in
theorem gWords_none (P : Option Addr) (w : World) (hp : ∀ W, Below w.heap.size w W → Calls Tryd.prog 18 #[.pointer P] W fun e w' => e = .returned (.bool true) ∧ w' = W) :
    Calls Tryd.prog 12 #[.pointer P] w fun e w' => e = .returned (.int .i64 0) ∧ Below w.heap.size w w' := by
  go_enter Tryd.func12, Tryd.ntmps12
  go_wp2_with (go_at_call 18; refine (hp _ (below_alloc0 w _)).mono ?_; rintro e w' ⟨rfl, hw⟩; rw [hw]; clear hw)
  go_ret
  exact ⟨rfl, below_alloc0 w _⟩
end Go.Proofs.YtlkhmfmocegekaaDoor
