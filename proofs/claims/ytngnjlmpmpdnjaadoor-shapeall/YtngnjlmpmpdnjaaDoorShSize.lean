/- package shape: size$1 (what All goes over is counted), findField. -/
import Derived.Test.YtngnjlmpmpdnjaaDoorShAll
namespace Go.Proofs.YtngnjlmpmpdnjaaDoor
open Go.RowKit Go.Sh Go.Shelf
attribute [local go_sem] Oper.semAt_some
theorem box_own {A B : World} {row : Option Nat} {b : Nat} {t : TypeId} {v : Value} (h : Boxed A b t v) (hg : A.grownBy B row) (hr : ∀ r, row = some r → ∃ o : Obj, A.heap[r]? = some o ∧ o.isCells = false) : Boxed B b t v :=
  boxed_own (β := Unit) b t (fun _ => v) () A B row h hg hr
theorem wpIn_scope_wide {n : Nat} {P : Program} {Q : Exit → Act → World → Prop} {a : Act} {w : World} {c : Code} (h : c.wpIn Fence.wide n P (Exit.noGoto Q) a w) : (Code.scope c).wpIn Fence.wide n P Q a w :=
  wpIn_wide.2 (wp_scope_straight (wpIn_wide.1 h))
set_option maxRecDepth 100000 in
set_option maxHeartbeats 2000000 in
theorem size1_in (n : Nat) (hn : 3 ≤ n) (s : ByteArray) (w : World) :
    CallsIn Fence.wide n Tryd.prog 41 #[.string s] w fun e W' => e = .returned (.int .i64 (2 + (fields s : Int))) ∧ Below w.heap.size w W' := by
  have h1 : 1 ≤ n := by omega
  refine callsIn_of_wp_marks Tryd.func41 rfl trivial ?_ rfl
  simp only [Tryd.ntmps41, List.size_toArray, List.length_cons, List.length_nil, Nat.reduceAdd, Nat.reduceSub, Array.replicate_succ, Array.replicate_zero, List.push_toArray, List.append_toArray, List.nil_append, List.cons_append]
  gi_wp2_with (refine ⟨trivial, ?_⟩; gi_at_call 22; refine (callsIn_wide.2 (All_any _ _)).mono ?_; rintro e w' ⟨rfl, rfl⟩)
  have bS := Boxed.new w 3 (.int .i64 2)
  have bN := Boxed.new (w.alloc (.cells #[.int .i64 2] 3)) 42 (.string s)
  rw [World.size_alloc] at bN
  have hB0 : Below w.heap.size w ((w.alloc (.cells #[.int .i64 2] 3)).alloc (.cells #[.string s] 42)) := ((Below.refl _ w).alloc (Nat.le_refl _) _).alloc (by simp) _
  have hfs := fields_le s
  refine wpIn_rangeFunc_ownG rfl h1 (gf := 33) (lb := #[.pointer (some ⟨w.heap.size + 1, 0, none⟩)]) rfl trivial (enters_of Tryd.func33 (by kernel_rfl) rfl)
    (All_stops (n - 1) (by omega) (w.heap.size + 1) s _ bN.cell) walksK_t walksK_b (Below.refl _ _) (fun _ => rfl)
    (fun pre W => (pre.length ≤ 8 ∧ W.cell? ⟨w.heap.size, 0, none⟩ = some (.int .i64 (2 + (pre.length : Int))) ∧ W.frozen? ⟨w.heap.size, 0, none⟩ = false) ∧ Below w.heap.size w W)
    (fun _ _ _ => False)
    (OwnFrom.and (Own.from (fun s A B row hs hg hr => ⟨hs.1, cell_kept hs.2.1 hg hr, (frozen_kept hs.2.1 hg hr).trans hs.2.2⟩) _) (ownFrom_below (Nat.le_refl _) (by simp; omega)))
    (fun _ _ _ _ _ hs _ _ => hs)
    ⟨⟨by simp, (bS.alloc _).cell, (bS.alloc _).frozen⟩, hB0⟩
    (fun x => { tmps := #[.string s, undef, .int .i64 0, .pointer (some ⟨w.heap.size, 0, none⟩), .string s, .func (.func 33) #[] #[.pointer (some ⟨w.heap.size + 1, 0, none⟩)], .int .i64 (x.1 : Int), .int .i64 x.2, undef, undef, undef], defers := [] }) ?assign ?body ?done ?stop
  case assign =>
    intro l x W K hK
    dsimp only [encF]
    gi_wp2
    simpa using hK
  case body =>
    rintro l pre x W ⟨⟨hl8, hc, hf⟩, hB⟩ hlen
    have hw : 2 + (pre.length : Int) + 1 = 2 + ((pre ++ [x]).length : Int) := by
      rw [List.length_append]; simp; omega
    gi_wp2
    refine ⟨(KeepsOthers.setCell _ _ _).from _, (KeepsOthers.setCell _ _ _).walks, ⟨by simp; omega, ?_, by rw [World.frozen?_setCell]; exact hf⟩, hB.setCell (p := ⟨w.heap.size, 0, none⟩) (Nat.le_refl _) _⟩
    rw [← hw]
    exact World.cell?_setCell_same' _ _ _ (by rw [hc]; rfl)
  case done =>
    rintro D ys W hD rfl ⟨⟨_, hc, _⟩, hB⟩ hK
    rw [upto_length] at hc
    gi_wp2
    refine ⟨by simp, .inl ⟨_, _, rfl, run_takeDeferred hK, ?_⟩⟩
    exact ⟨_, results_tmp rfl _ _ _, rfl, hB.trans (belowK_b (w := w) (Nat.le_refl _) W D _ _ (by simp at hD; omega) hK rfl rfl)⟩
  case stop =>
    rintro D c pre W _ _ h _
    exact h.elim
theorem size1_any (s : ByteArray) (w : World) : Calls Tryd.prog 41 #[.string s] w fun e W' => e = .returned (.int .i64 (2 + (fields s : Int))) ∧ Below w.heap.size w W' :=
  callsIn_wide.1 (size1_in 3 (by omega) s w)
set_option maxRecDepth 100000 in
set_option maxHeartbeats 2000000 in
theorem findField_in (n : Nat) (hn : 3 ≤ n) (s : ByteArray) (h1s : one s = true) (f : Int) (w : World) :
    CallsIn Fence.wide n Tryd.prog 32 #[.string s, .int .i64 f] w fun e W' => e = .returned (.tuple #[.int .i64 (fd s f).1, .int .i64 (fd s f).2]) ∧ Below w.heap.size w W' := by
  have h1 : 1 ≤ n := by omega
  refine callsIn_of_wp_marks Tryd.func32 rfl trivial ?_ rfl
  simp only [Tryd.ntmps32, List.size_toArray, List.length_cons, List.length_nil, Nat.reduceAdd, Nat.reduceSub, Array.replicate_succ, Array.replicate_zero, List.push_toArray, List.append_toArray, List.nil_append, List.cons_append]
  gi_wp2
  refine wpIn_scope_wide ?_
  gi_wp2
  refine wpIn_label ?_
  gi_wp2_with (refine ⟨trivial, ?_⟩; gi_at_call 22; refine (callsIn_wide.2 (All_any _ _)).mono ?_; rintro e w' ⟨rfl, rfl⟩)
  have hB0 : Below w.heap.size w ((((w.alloc (.cells #[.int .i64 f] 3)).alloc (.cells #[.int .i64 0] 35)).alloc (.cells #[.int .i64 131] 25)).alloc (.cells #[.string s] 42)) :=
    ((((Below.refl _ w).alloc (Nat.le_refl _) _).alloc (by simp) _).alloc (by simp; omega) _).alloc (by simp; omega) _
  have b0 := ((Boxed.new w 3 (.int .i64 f)).alloc (.cells #[.int .i64 0] 35)).alloc (.cells #[.int .i64 131] 25)
  have b1 := (Boxed.new (w.alloc (.cells #[.int .i64 f] 3)) 35 (.int .i64 0)).alloc (.cells #[.int .i64 131] 25)
  have b2 := Boxed.new ((w.alloc (.cells #[.int .i64 f] 3)).alloc (.cells #[.int .i64 0] 35)) 25 (.int .i64 131)
  have b3 := Boxed.new (((w.alloc (.cells #[.int .i64 f] 3)).alloc (.cells #[.int .i64 0] 35)).alloc (.cells #[.int .i64 131] 25)) 42 (.string s)
  simp only [World.size_alloc] at b0 b1 b2 b3
  refine wpIn_rangeFunc_ownG rfl h1 (gf := 33) (lb := #[.pointer (some ⟨w.heap.size + 1 + 1 + 1, 0, none⟩)]) rfl trivial (enters_of Tryd.func33 (by kernel_rfl) rfl)
    (All_stops (n - 1) (by omega) (w.heap.size + 1 + 1 + 1) s _ b3.cell) walksK_t walksK_b (Below.refl _ _) (fun _ => rfl)
    (fun pre W => ((∀ p ∈ pre, (p.1 : Int) ≠ f) ∧ Boxed W w.heap.size 3 (.int .i64 f) ∧ Boxed W (w.heap.size + 1) 35 (.int .i64 0) ∧ Boxed W (w.heap.size + 1 + 1) 25 (.int .i64 131)) ∧ Below w.heap.size w W)
    (fun c pre W => (c = .exit 0 ∧ ∃ ini last, pre = ini ++ [last] ∧ (last.1 : Int) = f ∧ Boxed W (w.heap.size + 1) 35 (.int .i64 last.2) ∧ Boxed W (w.heap.size + 1 + 1) 25 (.int .i64 0)) ∧ Below w.heap.size w W)
    (OwnFrom.and (Own.from (fun s A B row hs hg hr => ⟨hs.1, box_own hs.2.1 hg hr, box_own hs.2.2.1 hg hr, box_own hs.2.2.2 hg hr⟩) _) (ownFrom_below (Nat.le_refl _) (by simp; omega)))
    (fun c => OwnFrom.and (Own.from (fun s A B row hs hg hr => by obtain ⟨hc, ini, last, e1, e2, e3, e4⟩ := hs; exact ⟨hc, ini, last, e1, e2, box_own e3 hg hr, box_own e4 hg hr⟩) _) (ownFrom_below (Nat.le_refl _) (by simp; omega)))
    ⟨⟨by simp, b0.alloc _, b1.alloc _, b2.alloc _⟩, hB0⟩
    (fun x => { tmps := #[.string s, .int .i64 f, undef, .pointer (some ⟨w.heap.size, 0, none⟩), .int .i64 0, .int .i64 0, .pointer (some ⟨w.heap.size + 1, 0, none⟩), .pointer (some ⟨w.heap.size + 1 + 1, 0, none⟩), .int .i64 (x.1 : Int), .int .i64 x.2, .string s, .func (.func 33) #[] #[.pointer (some ⟨w.heap.size + 1 + 1 + 1, 0, none⟩)], .int .i64 (x.1 : Int), .int .i64 x.2, undef, undef, undef, undef, undef, undef], defers := [] }) ?assign ?body ?done ?stop
  case assign =>
    intro l x W K hK
    dsimp only [encF]
    gi_wp2
    exact hK
  case body =>
    rintro l pre x W ⟨⟨hp, c0, c1, c2⟩, hB⟩ _
    have k0 := c0.cell
    have k1 := c1.cell
    have k2 := c2.cell
    have f1 := c1.frozen
    have f2 := c2.frozen
    by_cases hx : (x.1 : Int) = f
    · have hxb : ((x.1 : Int) == f) = true := by simpa using hx
      gi_wp2
      exact ⟨((KeepsOthers.setCell _ _ _).trans (KeepsOthers.setCell _ _ _)).from _, ⟨rfl, pre, x, rfl, hx, (Boxed.other (c1.set _) (by omega) _), ((Boxed.other c2 (by omega) _).set _)⟩, (hB.setCell (p := ⟨w.heap.size + 1, 0, none⟩) (by simp) _).setCell (p := ⟨w.heap.size + 1 + 1, 0, none⟩) (by simp; omega) _⟩
    · have hxb : ((x.1 : Int) == f) = false := by simpa using hx
      gi_wp2
      exact ⟨KeepsFrom.refl _ _, KeepsWalks.refl _, ⟨fun p hp' => (List.mem_append.1 hp').elim (hp p) (fun e => by simp at e; subst e; exact hx), c0, c1, c2⟩, hB⟩
  case done =>
    rintro D ys W hD rfl ⟨⟨hne, c0, c1, c2⟩, hB⟩ hK
    have k1 := c1.cell
    have k2 := c2.cell
    have hfd : fd s f = (0, 131) := by
      have : inR f s.size = false := by
        by_cases h0 : 0 ≤ f
        · by_cases h2 : f < s.size
          · exfalso
            refine hne (fieldAt s f.toNat) ?_ (by simp [fieldAt]; omega)
            simp only [upto, List.mem_map, List.mem_range]
            exact ⟨f.toNat, by rw [fields_one h1s]; omega, rfl⟩
          · simp [inR, h2]
        · simp [inR, h0]
      simp [fd, this]
    gi_wp2
    gi_region
    gi_wp2
    refine ⟨by simp, .inl ⟨_, _, rfl, run_takeDeferred (w := W.drew) hK, ?_⟩⟩
    exact ⟨_, results_tmp2 rfl _ _ _, by rw [hfd]; rfl, (hB.drew).trans (belowK_b (w := w) (Nat.le_refl _) W.drew D _ _ (by simp at hD; omega) hK rfl rfl)⟩
  case stop =>
    rintro D c pre W hD ⟨k, hk, rfl⟩ ⟨⟨rfl, ini, last, e1, e2, c1, c2⟩, hB⟩ hK
    have k1 := c1.cell
    have k2 := c2.cell
    obtain ⟨k', rfl⟩ : ∃ k', k = k' + 1 := by
      cases k with
      | zero => simp [upto] at e1
      | succ k' => exact ⟨k', rfl⟩
    rw [upto_succ] at e1
    obtain ⟨rfl, e5⟩ := List.append_inj' e1 rfl
    obtain rfl : fieldAt s k' = last := by simpa using e5
    have e2' : (k' : Int) = f := e2
    have hfd : fd s f = ((fieldAt s k').2, 0) := by
      rw [fields_one h1s] at hk
      subst e2'
      have : inR (k' : Int) s.size = true := by simp [inR]; omega
      simp [fd, this, fieldAt]
    clear e1 e5
    generalize (fieldAt s k').2 = kk at *
    gi_wp2
    gi_region
    gi_wp2
    refine ⟨by simp, .inl ⟨_, _, rfl, run_takeDeferred (w := W.drew) hK, ?_⟩⟩
    exact ⟨_, results_tmp2 rfl _ _ _, by rw [hfd]; rfl, (hB.drew).trans (belowK_b (w := w) (Nat.le_refl _) W.drew D _ _ (by simp at hD; omega) hK rfl rfl)⟩
theorem findField_any (s : ByteArray) (h1s : one s = true) (f : Int) (w : World) : Calls Tryd.prog 32 #[.string s, .int .i64 f] w fun e W' => e = .returned (.tuple #[.int .i64 (fd s f).1, .int .i64 (fd s f).2]) ∧ Below w.heap.size w W' :=
  callsIn_wide.1 (findField_in 3 (by omega) s h1s f w)
end Go.Proofs.YtngnjlmpmpdnjaaDoor
