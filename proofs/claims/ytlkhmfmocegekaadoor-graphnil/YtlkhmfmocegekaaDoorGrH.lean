/- package graph: fresh: a new object. Typed by tools/gen09h.py. -/
import Derived.Test.YtlkhmfmocegekaaDoorGrGOn
import Derived.RangeFuncNested
import Derived.RangeFuncLeaves
import Derived.RangeFuncCalls
set_option linter.unusedVariables false
namespace Go.Proofs.YtlkhmfmocegekaaDoor
open Go.RowKit Go.Gr Go.Sh Go.Oq
attribute [local go_sem] Oper.semAt_some
abbrev FrS (B : Nat) (P : Value) (W : World) : Prop := W.cell? ⟨B, 0, none⟩ = some P
theorem frS_drew {B : Nat} {P : Value} {W : World} (h : FrS B P W) : FrS B P W.drew := h
theorem frS_alloc {B : Nat} {P : Value} {W : World} (h : FrS B P W) (O : Obj) : FrS B P (W.alloc O) := ((below_alloc0 W O).cell (p := ⟨B, 0, none⟩) (block_lt_of_cell h)).trans h
theorem frS_set {B : Nat} {P : Value} {W : World} (h : FrS B P W) {g j : Nat} {v : Value} (hg : B ≠ g) : FrS B P (W.setCell ⟨g, j, none⟩ v) := (World.cell?_setCell_other W _ _ v (fun e => hg (by injection e with e _ _; exact e.symm))).trans h
theorem frS_app {w W w7 : World} {O B : Nat} {k : Int} {P v : Value} {n : Nat} {tmp : Obj} (h : FrI w O B k P n v W) (hg : (W.alloc tmp).grownBy w7 v.ownBlock) : FrS B P w7 := by
  refine at_row ((hg.block B (by have := row_lt h.box; simp; omega) (fun e => ?_)).trans ((Below.heap_alloc W tmp B (row_lt h.box)).trans h.box)) 0 rfl
  rcases h.own.2 with ⟨rfl, _⟩ | ⟨g, cap, cur, rfl, hlo, hgb, _⟩
  · simp [Value.ownBlock] at e
  · simp [Value.ownBlock] at e; omega
theorem own_ad {W : World} {base : Nat} {e : TypeId} {size : Nat} {v : Value} {n : Nat} {xs : List Value} (h : W.ownsRow base e size v n xs) (O : Obj) : ((W.alloc O).drew).ownsRow base e size v n xs := h.alloc O
theorem grown_undrew {A B : World} {row : Option Nat} (h : A.drew.grownBy B row) : A.grownBy B row := ⟨h.os, h.tape, h.output, h.size, h.block⟩
theorem cell_two_drew (w : World) (x y : Value) (t : TypeId) : ∀ j u, [x, y][j]? = some u → ((w.alloc (.cells #[x, y] t)).drew).cell? ((⟨w.heap.size, 0, none⟩ : Addr).add j) = some u := by
  intro j u h
  have hr : ((w.alloc (.cells #[x, y] t)).drew).heap[w.heap.size]? = some (.cells #[x, y] t) := heap_alloc_last w _
  have ha : (⟨w.heap.size, 0, none⟩ : Addr).add j = ⟨w.heap.size, j, none⟩ := by unfold Addr.add; split <;> simp_all
  rw [ha]
  refine at_row hr j ?_
  simpa using h
theorem step_append_own {P : Program} {ops : Array Oper} {o : Oper} {a : Act} {w : World} {K : Act → World → Prop} {Q : Exit → Act → World → Prop} {E : Prop}
    (hg : o.guard = none) (s x : Operand) (t : TypeId) (hop : o.op = .call { callee := .builtin .append, args := #[s, x], argTypes := #[t, t] })
    (base : Nat) (e : TypeId) (i : TypeInfo) (z : Value) (size bytes : Nat) (ht : P.underlying t = some (.slice e)) (hi : P.info? e = some i) (hz : i.zero = some z)
    (hsize : i.size = size) (hby : i.bytes = bytes) (hzs : z.cells.size = size) (hsz : 0 < size)
    (v : Value) (n : Nat) (xs : List Value) (hs : a.eval s = v) (hown : w.ownsRow base e size v n xs)
    (ad : Addr) (m c : Nat) (news : List Value) (hx : a.eval x = .slice (some ad) m c) (hl : news.length = m * size) (hnews : ∀ j u, news[j]? = some u → w.cell? (ad.add j) = some u) (h1 : ∀ u ∈ news, u.oneCell' = true)
    (h63 : n + m ≤ maxLen) (hbytes : (n + m) * bytes ≤ 140737488355328) (hbase : base ≤ w.heap.size)
    (h : ∀ v' w', w'.ownsRow base e size v' (n + m) (xs ++ news) → w.grownBy w' v.ownBlock → K (a.put o.dst v') w') :
    if Region.wanted o (yielded ops a.tmps) = true then Oper.wp P o a w K Q else E := by
  have hw : Region.wanted o (yielded ops a.tmps) = true := by simp [Region.wanted, hg]
  rw [if_pos hw]
  exact wp_append_own w s x t hop base e i z size bytes ht hi hz hsize hby hzs hsz v n xs hs hown ad m c news hx hl hnews h1 h63 hbytes hbase fun v' w' h2 h3 _ => h v' w' h2 h3
set_option maxRecDepth 10000000 in
set_option maxHeartbeats 8000000 in
theorem fresh_in (G S sc n k m : Nat) (s : ByteArray) (w : World) (h1 : one s = true) (hm : m < 1000) (hk : k < n) (c1 : w.cell? ⟨G, 2, none⟩ = some (.slice (some ⟨S, 0, none⟩) n sc)) (c4 : w.cell? ⟨G, 4, none⟩ = some (.int .i64 (m : Int))) (f4 : w.frozen? ⟨G, 4, none⟩ = false) (cs : w.cell? ⟨S, k, none⟩ = some (.string s)) (hGS : S ≠ G) :
    CallsIn Fence.wide 4 Tryd.prog 17 #[.pointer (some ⟨G, 0, none⟩), .int .i64 (k : Int)] w fun e W' =>
      ∃ B v, e = .returned (.pointer (some ⟨w.heap.size, 0, none⟩)) ∧ FrI (w.setCell ⟨G, 4, none⟩ (.int .i64 ((m : Int) + 1))) w.heap.size B k (.pointer (some ⟨w.heap.size, 0, none⟩)) s.size v W' := by
  obtain ⟨i0, hi, hz0, hz1, hz2⟩ := info_parts ginfo_field
  have hw1 : IntKind.i64.wrap ((m : Int) + 1) = (m : Int) + 1 := IntWalk.i64_in _ ⟨by omega, by omega⟩
  have k0 : (0 : Int) ≤ (k : Int) := by omega
  have kn : (k : Int) < (n : Int) := by omega
  have hs8 := one_size h1
  have hfs := fields_one h1
  refine callsIn_of_wp_marks Tryd.func17 rfl trivial ?_ rfl
  simp only [Tryd.ntmps17, List.size_toArray, List.length_cons, List.length_nil, Nat.reduceAdd, Nat.reduceSub, Array.replicate_succ, Array.replicate_zero, List.push_toArray, List.append_toArray, List.nil_append, List.cons_append]
  have c2 : (w.setCell ⟨G, 4, none⟩ (.int .i64 ((m : Int) + 1))).cell? ⟨G, 2, none⟩ = some (.slice (some ⟨S, 0, none⟩) n sc) := (World.cell?_setCell_other w _ _ _ (by simp)).trans c1
  have cs2 : (w.setCell ⟨G, 4, none⟩ (.int .i64 ((m : Int) + 1))).cell? ⟨S, k, none⟩ = some (.string s) := (World.cell?_setCell_other w _ _ _ (by intro e; injection e with e _ _; exact hGS e.symm)).trans cs
  have c3 := fun O1 O2 => (gbel2 (w.setCell ⟨G, 4, none⟩ (.int .i64 ((m : Int) + 1))) O1 O2).cell (p := ⟨G, 2, none⟩) (block_lt_of_cell c2) |>.trans c2
  have cs3 := fun O1 O2 => (gbel2 (w.setCell ⟨G, 4, none⟩ (.int .i64 ((m : Int) + 1))) O1 O2).cell (p := ⟨S, k, none⟩) (block_lt_of_cell cs2) |>.trans cs2
  clear c2 cs2
  gi_wp2_with (refine ⟨trivial, ?_⟩; gi_at_call 29; refine (callsIn_wide.2 (All_any _ _)).mono ?_; rintro e w2 ⟨rfl, rfl⟩)
  have hzz : (w.setCell ⟨G, 4, none⟩ (.int .i64 ((m : Int) + 1))).heap.size = w.heap.size := by simp
  obtain ⟨w1, hw1'⟩ : ∃ w1, w.setCell ⟨G, 4, none⟩ (.int .i64 ((m : Int) + 1)) = w1 := ⟨_, rfl⟩
  rw [hw1'] at hzz ⊢
  have HI := frI_start w1 k (.string s)
  rw [hzz] at HI
  have bS := Boxed.new ((w1.alloc (.cells #[.int .i64 (k : Int), .slice none 0 0] 76)).alloc (.cells #[.pointer (some ⟨w.heap.size, 0, none⟩)] 60)) 49 (.string s)
  simp only [World.size_alloc, hzz] at bS
  clear c1 c4 f4 cs c3 cs3
  revert HI bS
  generalize World.alloc (World.alloc (World.alloc w1 _) _) _ = w0
  intro HI bS
  have h0 := hid HI
  have hz : w1.heap.size ≤ w0.heap.size := HI.bel.size
  clear HI
  generalize hO : w.heap.size = O at *
  obtain ⟨B, hB⟩ : ∃ B, O + 1 = B := ⟨_, rfl⟩
  rw [hB] at h0 bS ⊢
  have hOB : B ≠ O := by omega
  refine wpIn_rangeFunc_ownG (Q := _) rfl (by decide) (gf := 48) (lb := #[.pointer (some ⟨B + 1, 0, none⟩)]) rfl trivial (enters_of Tryd.func48 (by kernel_rfl) rfl)
    (All_stops 3 (by omega) (B + 1) s w0 bS.cell) walksK_t walksK_b (Below.refl _ _) (fun _ => rfl)
    (fun pre W => pre.length ≤ s.size ∧ ∃ v, FrI w1 O B k (.pointer (some ⟨O, 0, none⟩)) pre.length v W)
    (fun _ _ _ => False)
    (fun pre A B row hs hg hr => by obtain ⟨h1, v, h2⟩ := hs; exact ⟨h1, v, h2.own' hz hg hr⟩)
    (fun _ _ _ _ _ hs _ _ => hs)
    ⟨by simp, _, h0.out⟩ ?a1 ?assign ?body ?done ?stop
  case assign =>
    intro l x W K hK
    dsimp only [encF]
    gi_wp2
    exact hK
  case body =>
    rintro l pre y W ⟨hl8, v, hA⟩ hlen
    rw [hfs] at hlen
    have HA := hid hA
    have HS := hid (show FrS B (.pointer (some ⟨O, 0, none⟩)) W from at_row hA.box 0 rfl)
    have HC := fun O' => (below_alloc0 W O').cell (p := ⟨O, 1, none⟩) (block_lt_of_cell (at_row hA.obj 1 rfl)) |>.trans (at_row hA.obj 1 rfl)
    have HC1 := at_row hA.obj 1 rfl
    obtain ⟨va, vc, hv⟩ : ∃ va vc, v = .slice va pre.length vc := by
      rcases hA.own.2 with ⟨rfl, h0⟩ | ⟨g, cap, cur, rfl, _⟩
      · exact ⟨none, 0, by rw [h0]⟩
      · exact ⟨_, _, rfl⟩
    subst hv
    clear hA
    gi_wp2_with fail
    refine wpIn_region_held_round (S := FrS B (.pointer (some ⟨O, 0, none⟩))) (by kernel_rfl) (by kernel_rfl) (by rintro ⟨_, _, h⟩; exact h) (frS_drew HS.out) (fun hHeld => ?_)
    refine wpAnyH_take (i := 0) (v := ?_) rfl (by kernel_rfl) (by kernel_rfl) (by kernel_rfl) (fun _ _ _ h => h) (Or.inl ⟨by rfl, ?_⟩) (by assumption) ?_
    rotate_left
    · (intro wx hSw; (try dsimp only at hSw); go_simp <;> with_reducible rfl)
    simp only [Act.put]
    refine wpAnyH_take (i := 1) (v := ?_) rfl (by kernel_rfl) (by kernel_rfl) (by kernel_rfl) (fun _ _ _ h => h) (Or.inl ⟨by rfl, ?_⟩) (by assumption) ?_
    rotate_left
    · (intro wx hSw; (try dsimp only at hSw); go_simp <;> with_reducible rfl)
    simp only [Act.put]
    refine wpAnyH_take (i := 2) (v := ?_) rfl (by kernel_rfl) (by kernel_rfl) (by kernel_rfl) (fun _ _ _ h => h) (Or.inl ⟨by rfl, ?_⟩) (by assumption) ?_
    rotate_left
    · (intro wx hSw; (try dsimp only at hSw); go_simp <;> with_reducible rfl)
    simp only [Act.put]
    refine wpAnyH_take (i := 3) (v := ?_) rfl (by kernel_rfl) (by kernel_rfl) (by kernel_rfl) (fun _ _ _ h => h) (Or.inl ⟨by rfl, ?_⟩) (by assumption) ?_
    rotate_left
    · (intro wx hSw; (try dsimp only at hSw); go_simp <;> with_reducible rfl)
    simp only [Act.put]
    refine wpAnyH_take (i := 5) (v := ?_) rfl (by kernel_rfl) (by kernel_rfl) (by kernel_rfl) (fun _ _ _ h => h) (Or.inl ⟨by rfl, ?_⟩) (by assumption) ?_
    rotate_left
    · (intro wx hSw; (try dsimp only at hSw); go_simp <;> with_reducible rfl)
    simp only [Act.put]
    refine wpAnyH_ready (rs := [4, 6]) (by kernel_rfl) (by simp) ?_
    refine AllReadyH.cons rfl (fun K hK => ?_) (AllReadyH.cons rfl (fun K hK => ?_) AllReadyH.nil)
    ·
      go_simp
      refine hK.out _ _ ?_ (fun hHeld => ?_)
      · with_reducible (first | assumption | exact HS.out | exact frS_drew HS.out | exact frS_alloc (frS_drew HS.out) _ | exact frS_alloc HS.out _ | exact frS_drew (frS_alloc HS.out _) | exact frS_app HA.out hgrow | exact frS_set (frS_app HA.out hgrow) hOB)
      clear hK K
      refine wpAnyH_ready (rs := [6]) (by kernel_rfl) (by simp) ?_
      refine AllReadyH.cons rfl (fun K hK => ?_) AllReadyH.nil
      go_simp
      refine hK.out _ _ ?_ (fun hHeld => ?_)
      · with_reducible (first | assumption | exact HS.out | exact frS_drew HS.out | exact frS_alloc (frS_drew HS.out) _ | exact frS_alloc HS.out _ | exact frS_drew (frS_alloc HS.out _) | exact frS_app HA.out hgrow | exact frS_set (frS_app HA.out hgrow) hOB)
      clear hK K
      refine wpAnyH_ready (rs := [7]) (by kernel_rfl) (by simp) ?_
      refine AllReadyH.cons rfl (fun K hK => ?_) AllReadyH.nil
      refine step_append_own rfl _ _ 74 rfl (B + 1) 86 i0 (.agg #[.pointer none, .int .i64 0]) 2 16 Tryd.underlying74 hi hz0 hz1 hz2 rfl (by decide) (.slice va pre.length vc) pre.length (zs pre.length) rfl (own_ad HA.out.own _) ⟨W.heap.size, 0, none⟩ 1 1 [.pointer none, .int .i64 0] rfl rfl (cell_two_drew _ _ _ _) (by simp [Value.oneCell']) (by unfold maxLen; omega) (by omega) (by have := row_lt HA.out.box; show B + 1 ≤ (W.alloc _).heap.size; simp; omega) ?_
      intro v' w7 hown hgrow
      have hgrow := grown_undrew hgrow
      have happ := hid (HA.out.app hown hgrow)
      have s1 := at_row happ.out.1 1 rfl
      have t1 := fz_row happ.out.1 1
      obtain ⟨g7, cap7, rfl⟩ := ownsRow_succ hown
      refine hK.out _ _ ?_ (fun hHeld => ?_)
      · with_reducible (first | assumption | exact HS.out | exact frS_drew HS.out | exact frS_alloc (frS_drew HS.out) _ | exact frS_alloc HS.out _ | exact frS_drew (frS_alloc HS.out _) | exact frS_app HA.out hgrow | exact frS_set (frS_app HA.out hgrow) hOB)
      clear hK K
      refine wpAnyH_take (i := 8) (v := ?_) rfl (by kernel_rfl) (by kernel_rfl) (by kernel_rfl) (fun _ _ _ h => h) (Or.inl ⟨by rfl, ?_⟩) (by assumption) ?_
      rotate_left
      · (intro wx hSw; (try dsimp only at hSw); go_simp <;> with_reducible rfl)
      simp only [Act.put]
      refine wpAnyH_take (i := 9) (v := ?_) rfl (by kernel_rfl) (by kernel_rfl) (by kernel_rfl) (fun _ _ _ h => h) (Or.inl ⟨by rfl, ?_⟩) (by assumption) ?_
      rotate_left
      · (intro wx hSw; (try dsimp only at hSw); go_simp <;> with_reducible rfl)
      simp only [Act.put]
      refine wpAnyH_ready (rs := [10]) (by kernel_rfl) (by simp) ?_
      refine AllReadyH.cons rfl (fun K hK => ?_) AllReadyH.nil
      go_simp
      refine hK.out _ _ ?_ (fun hHeld => ?_)
      · with_reducible (first | assumption | exact HS.out | exact frS_drew HS.out | exact frS_alloc (frS_drew HS.out) _ | exact frS_alloc HS.out _ | exact frS_drew (frS_alloc HS.out _) | exact frS_app HA.out hgrow | exact frS_set (frS_app HA.out hgrow) hOB)
      clear hK K
      refine wpAnyH_done (by kernel_rfl) ?_ _
      gi_wp2
      exact ⟨(happ.out.2.2).from _, (happ.out.2.2).walks, by rw [List.length_append]; simp; omega, _, by rw [List.length_append]; exact happ.out.2.1⟩
    ·
      go_simp
      refine hK.out _ _ ?_ (fun hHeld => ?_)
      · with_reducible (first | assumption | exact HS.out | exact frS_drew HS.out | exact frS_alloc (frS_drew HS.out) _ | exact frS_alloc HS.out _ | exact frS_drew (frS_alloc HS.out _) | exact frS_app HA.out hgrow | exact frS_set (frS_app HA.out hgrow) hOB)
      clear hK K
      refine wpAnyH_ready (rs := [4]) (by kernel_rfl) (by simp) ?_
      refine AllReadyH.cons rfl (fun K hK => ?_) AllReadyH.nil
      go_simp
      refine hK.out _ _ ?_ (fun hHeld => ?_)
      · with_reducible (first | assumption | exact HS.out | exact frS_drew HS.out | exact frS_alloc (frS_drew HS.out) _ | exact frS_alloc HS.out _ | exact frS_drew (frS_alloc HS.out _) | exact frS_app HA.out hgrow | exact frS_set (frS_app HA.out hgrow) hOB)
      clear hK K
      refine wpAnyH_ready (rs := [7]) (by kernel_rfl) (by simp) ?_
      refine AllReadyH.cons rfl (fun K hK => ?_) AllReadyH.nil
      refine step_append_own rfl _ _ 74 rfl (B + 1) 86 i0 (.agg #[.pointer none, .int .i64 0]) 2 16 Tryd.underlying74 hi hz0 hz1 hz2 rfl (by decide) (.slice va pre.length vc) pre.length (zs pre.length) rfl (own_ad HA.out.own _) ⟨W.heap.size, 0, none⟩ 1 1 [.pointer none, .int .i64 0] rfl rfl (cell_two_drew _ _ _ _) (by simp [Value.oneCell']) (by unfold maxLen; omega) (by omega) (by have := row_lt HA.out.box; show B + 1 ≤ (W.alloc _).heap.size; simp; omega) ?_
      intro v' w7 hown hgrow
      have hgrow := grown_undrew hgrow
      have happ := hid (HA.out.app hown hgrow)
      have s1 := at_row happ.out.1 1 rfl
      have t1 := fz_row happ.out.1 1
      obtain ⟨g7, cap7, rfl⟩ := ownsRow_succ hown
      refine hK.out _ _ ?_ (fun hHeld => ?_)
      · with_reducible (first | assumption | exact HS.out | exact frS_drew HS.out | exact frS_alloc (frS_drew HS.out) _ | exact frS_alloc HS.out _ | exact frS_drew (frS_alloc HS.out _) | exact frS_app HA.out hgrow | exact frS_set (frS_app HA.out hgrow) hOB)
      clear hK K
      refine wpAnyH_take (i := 8) (v := ?_) rfl (by kernel_rfl) (by kernel_rfl) (by kernel_rfl) (fun _ _ _ h => h) (Or.inl ⟨by rfl, ?_⟩) (by assumption) ?_
      rotate_left
      · (intro wx hSw; (try dsimp only at hSw); go_simp <;> with_reducible rfl)
      simp only [Act.put]
      refine wpAnyH_take (i := 9) (v := ?_) rfl (by kernel_rfl) (by kernel_rfl) (by kernel_rfl) (fun _ _ _ h => h) (Or.inl ⟨by rfl, ?_⟩) (by assumption) ?_
      rotate_left
      · (intro wx hSw; (try dsimp only at hSw); go_simp <;> with_reducible rfl)
      simp only [Act.put]
      refine wpAnyH_ready (rs := [10]) (by kernel_rfl) (by simp) ?_
      refine AllReadyH.cons rfl (fun K hK => ?_) AllReadyH.nil
      go_simp
      refine hK.out _ _ ?_ (fun hHeld => ?_)
      · with_reducible (first | assumption | exact HS.out | exact frS_drew HS.out | exact frS_alloc (frS_drew HS.out) _ | exact frS_alloc HS.out _ | exact frS_drew (frS_alloc HS.out _) | exact frS_app HA.out hgrow | exact frS_set (frS_app HA.out hgrow) hOB)
      clear hK K
      refine wpAnyH_done (by kernel_rfl) ?_ _
      gi_wp2
      exact ⟨(happ.out.2.2).from _, (happ.out.2.2).walks, by rw [List.length_append]; simp; omega, _, by rw [List.length_append]; exact happ.out.2.1⟩
  case done =>
    rintro D ys W hD rfl ⟨_, v, hA⟩ hK
    have k2 := at_row hA.box 0 rfl
    gi_wp2
    refine ⟨by simp, .inl ⟨_, _, rfl, run_takeDeferred hK, ?_⟩⟩
    rw [upto_length, hfs] at hA
    refine ⟨_, results_tmp rfl _ _ _, B, v, by rw [hO]; rfl, ?_⟩
    rw [hw1', hO]
    exact hA.own' (C := D) (by omega) (grownBy_putObj' W D _) (fun r e => by cases e; exact ⟨Nat.le_refl _, _, hK, rfl⟩)
  case stop =>
    rintro D c pre W _ _ h _
    exact h.elim
end Go.Proofs.YtlkhmfmocegekaaDoor
