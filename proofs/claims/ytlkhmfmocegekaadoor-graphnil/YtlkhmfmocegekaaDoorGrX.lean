/- laws of layer 9: num, works. Typed by tools/gen09x.py. -/
import Derived.Test.YtlkhmfmocegekaaDoorGrV
import Derived.Test.YtlkhmfmocegekaaDoorGrROn
import Derived.Test.YtlkhmfmocegekaaDoorGrP
import Derived.Test.YtlkhmfmocegekaaDoorOpReadCOn
set_option linter.unusedVariables false
namespace Go.Gr
open Go.Sh Go.Oq
/-- The same, to be reckoned. -/
def runB (g : Gr) : Nat → List Nat → List Nat → Option (List Nat)
  | 0, _, _ => none
  | n + 1, K, [] => some K
  | n + 1, K, o :: q => if o = 0 ∨ o ∈ K then runB g n K q else runB g n (K ++ [o]) (q ++ g.kids o)
theorem runB_run {g : Gr} : ∀ (n : Nat) (K q L : List Nat), runB g n K q = some L → Run g K q L
  | 0, _, _, _, h => by cases h
  | n + 1, K, [], L, h => by cases h; exact .done _
  | n + 1, K, o :: q, L, h => by
    unfold runB at h
    split at h
    · next ho => exact .skip ho (runB_run n _ _ _ h)
    · next ho => exact .meet (fun e => ho (.inl e)) (fun e => ho (.inr e)) (runB_run n _ _ _ h)
def wF : Nat → Nat → Int
  | 0, 0 => 1
  | 1, 0 => 1
  | 1, 1 => 1
  | 1, 5 => 1
  | 2, 0 => 3
  | 2, 2 => 1
  | 3, 0 => 2
  | 3, 2 => 2
  | 4, 0 => 4
  | 4, 2 => 2
  | 4, 3 => 3
  | 5, 0 => 5
  | _, _ => 0
def wS : List ByteArray := [⟨#[112, 115]⟩, ⟨#[]⟩]
def wG : Nat → Gr
  | 0 => first wS 1
  | n + 1 => (gdo (wG n) 0 (wF n)).1
theorem wA0 : (gdo (wG 0) 0 (wF 0)).2 = (0, false, 0) := by decide +kernel
theorem wA1 : (gdo (wG 1) 0 (wF 1)).2 = (0, false, 0) := by decide +kernel
theorem wA2 : (gdo (wG 2) 0 (wF 2)).2 = (0, false, 0) := by decide +kernel
theorem wA3 : (gdo (wG 3) 0 (wF 3)).2 = (0, true, 0) := by decide +kernel
theorem wA4 : (gdo (wG 4) 0 (wF 4)).2 = (0, true, 0) := by decide +kernel
theorem wA5 : (gdo (wG 5) 0 (wF 5)).2 = (132, false, 0) := by decide +kernel
theorem w_met : Met (wG 6) [2, 3] := runB_run 60 _ _ _ (by decide +kernel)
theorem w_words : words (wG 6) [2, 3] = 6 := by decide +kernel
theorem w_m : (wG 6).m = 3 := by decide +kernel
theorem w_thr : ∀ k, k ≤ 6 → 0 < (wG k).rt.length ∧ (wG k).m < 1000 := by
  intro k hk
  have : k = 0 ∨ k = 1 ∨ k = 2 ∨ k = 3 ∨ k = 4 ∨ k = 5 ∨ k = 6 := by omega
  rcases this with rfl | rfl | rfl | rfl | rfl | rfl | rfl <;> decide +kernel
end Go.Gr
namespace Go.Proofs.YtlkhmfmocegekaaDoor
open Go.RowKit Go.Gr Go.Sh Go.Oq Go.Ly
/-- A graph that was made since. -/
structure OwnG (w W : World) (γ : Gh) (g : Gr) : Prop where
  gr : IsG W γ g
  bel : Below w.heap.size w W
  ft : ∀ b, foot γ b → w.heap.size ≤ b
  tb : w.heap.size ≤ γ.S
theorem OwnG.below {w W W' : World} {γ : Gh} {g : Gr} (h : OwnG w W γ g) (b : Below W.heap.size W W') : OwnG w W' γ g := ⟨h.gr.below b, h.bel.trans (b.mono h.bel.size), h.ft, h.tb⟩
theorem OwnG.step {w W W' : World} {γ γ' : Gh} {g g' : Gr} (h : OwnG w W γ g) (hg : IsG W' γ' g') (k : Wr (foot γ) W W') (x : Ext W.heap.size γ γ') : OwnG w W' γ' g' :=
  ⟨hg, Wr.belowN h.bel h.bel.size k (fun i hi e => by have := h.ft i e; omega), fun b hb => (x.foot b hb).elim (fun q => h.ft b q) (fun q => Nat.le_trans h.bel.size q), by rw [x.S]; exact h.tb⟩
theorem OwnG.do {w W : World} {γ : Gh} {g : Gr} (h : OwnG w W γ g) (f : Nat → Int) (t : Nat) (ht : t < g.rt.length) (hm : g.m < 1000) :
    Calls Tryd.prog 9 #[.pointer (some ⟨γ.G, 0, none⟩), .int .i64 (t : Int), opV f] W fun e W' => e = .returned (.tuple #[goutV (gdo g t f).2.1 (gdo g t f).2.2.1 (gdo g t f).2.2.2, .int .i64 0]) ∧ ∃ γ', γ'.G = γ.G ∧ OwnG w W' γ' (gdo g t f).1 ∧ ∀ (b : Nat) (cs : Array Value) (T : TypeId), W.heap[b]? = some (Obj.cells cs T) → ¬ gty T → W'.heap[b]? = some (Obj.cells cs T) := by
  refine (Do_at f t γ g W h.gr ht hm).mono ?_
  rintro e W' ⟨rfl, γ', h1, k1, x1⟩
  exact ⟨rfl, γ', x1.G, h.step h1 k1 x1, fun b cs T hr hT => h.gr.kept k1 hr hT⟩
theorem gnum_any (n : Int) (w : World) : Calls Tryd.prog 7 #[.int .i64 n] w fun e w' => e = .returned (.int .i64 n) ∧ w' = w := by
  go_enter Tryd.func7, Tryd.ntmps7
  go_wp2
  go_ret
  exact ⟨rfl, rfl⟩
theorem tab_two (w : World) (a b : ByteArray) (e : TypeId) : IsTab (w.alloc (.cells #[.string a, .string b] e)) (.slice (some ⟨w.heap.size, 0, none⟩) 2 2) [a, b] := by
  refine .inr ⟨w.heap.size, 0, 2, rfl, fun i hi => ?_⟩
  have hi : i < 2 := hi
  have hr := heap_alloc_last w (.cells #[.string a, .string b] e)
  have : i = 0 ∨ i = 1 := by omega
  rcases this with rfl | rfl
  · exact at_row hr _ rfl
  · exact at_row hr _ rfl
theorem notg_out : ¬ gty 39 := by unfold gty; decide
set_option maxRecDepth 100000 in
set_option maxHeartbeats 8000000 in
theorem gworks_any (w : World) : Calls Tryd.prog 8 #[] w fun e w' => e = .returned (.bool true) ∧ Below w.heap.size w w' := by
  have hT := tab_two w ⟨#[112, 115]⟩ ⟨#[]⟩ 49
  have cN := New_ok 1 32 _ 2 2 wS _ hT (by decide +kernel)
  have HT := hid w_thr
  clear hT
  go_enter Tryd.func8, Tryd.ntmps8
  go_wp2_with (go_at_call 5; refine cN.mono ?_)
  rintro e W0 ⟨γ0, rfl, i0, b0, f0, s0, _⟩
  have H0 := hid (show OwnG w W0 γ0 (wG 0) from ⟨i0, bel1 b0, fun b hb => by have := f0 b hb; simp at this; omega, by simp at s0; omega⟩)
  obtain ⟨G, hG⟩ : ∃ G, γ0.G = G := ⟨_, rfl⟩
  clear i0 b0 f0 s0 cN
  rw [hG]
  have c0 := H0.out.do (wF 0) 0 (HT.out 0 (by omega)).1 (HT.out 0 (by omega)).2
  rw [wA0, hG] at c0
  go_wp2_with (go_at_call 9; refine c0.mono ?_; refine unhid ?_)
  refine hid ?_
  rintro e w1 ⟨rfl, γ1, g1, h1, r1⟩
  have hG1 : γ1.G = G := g1
  obtain ⟨W1, hW1⟩ : ∃ W, W = w1.alloc (goutO 0 false 0) := ⟨_, rfl⟩
  have H1 := hid (show OwnG w W1 γ1 (wG 1) from by rw [hW1]; exact h1.below (below_alloc0 _ _))
  have R0_1 := hid (show W1.heap[w1.heap.size]? = some (goutO 0 false 0) by rw [hW1]; exact heap_alloc_last _ _)
  have HW1 := hid hW1
  clear hW1 h1 r1 c0 H0 g1
  have c1 := H1.out.do (wF 1) 0 (HT.out 1 (by omega)).1 (HT.out 1 (by omega)).2
  rw [wA1, hG1] at c1
  rw [HW1.out] at c1
  go_wp2_with (go_at_call 9; refine c1.mono ?_; refine unhid ?_)
  refine hid ?_
  rintro e w2 ⟨rfl, γ2, g2, h2, r2⟩
  have hG2 : γ2.G = G := g2
  obtain ⟨W2, hW2⟩ : ∃ W, W = w2.alloc (goutO 0 false 0) := ⟨_, rfl⟩
  have H2 := hid (show OwnG w W2 γ2 (wG 2) from by rw [hW2]; exact h2.below (below_alloc0 _ _))
  have R1_2 := hid (show W2.heap[w2.heap.size]? = some (goutO 0 false 0) by rw [hW2]; exact heap_alloc_last _ _)
  have R0_2 := hid (show W2.heap[w1.heap.size]? = some (goutO 0 false 0) by
    have q := r2 _ _ _ (by rw [← HW1.out]; exact R0_1.out) notg_out
    rw [hW2]; exact (Below.heap_alloc _ _ _ (row_lt q)).trans q)
  have HW2 := hid hW2
  clear hW2 h2 r2 c1 H1 g2 hG1 R0_1
  have c2 := H2.out.do (wF 2) 0 (HT.out 2 (by omega)).1 (HT.out 2 (by omega)).2
  rw [wA2, hG2] at c2
  rw [HW2.out] at c2
  go_wp2_with (go_at_call 9; refine c2.mono ?_; refine unhid ?_)
  refine hid ?_
  rintro e w3 ⟨rfl, γ3, g3, h3, r3⟩
  have hG3 : γ3.G = G := g3
  obtain ⟨W3, hW3⟩ : ∃ W, W = w3.alloc (goutO 0 false 0) := ⟨_, rfl⟩
  have H3 := hid (show OwnG w W3 γ3 (wG 3) from by rw [hW3]; exact h3.below (below_alloc0 _ _))
  have R2_3 := hid (show W3.heap[w3.heap.size]? = some (goutO 0 false 0) by rw [hW3]; exact heap_alloc_last _ _)
  have R0_3 := hid (show W3.heap[w1.heap.size]? = some (goutO 0 false 0) by
    have q := r3 _ _ _ (by rw [← HW2.out]; exact R0_2.out) notg_out
    rw [hW3]; exact (Below.heap_alloc _ _ _ (row_lt q)).trans q)
  have R1_3 := hid (show W3.heap[w2.heap.size]? = some (goutO 0 false 0) by
    have q := r3 _ _ _ (by rw [← HW2.out]; exact R1_2.out) notg_out
    rw [hW3]; exact (Below.heap_alloc _ _ _ (row_lt q)).trans q)
  have HW3 := hid hW3
  clear hW3 h3 r3 c2 H2 g3 hG2 R0_2 R1_2
  have c3 := H3.out.do (wF 3) 0 (HT.out 3 (by omega)).1 (HT.out 3 (by omega)).2
  rw [wA3, hG3] at c3
  rw [HW3.out] at c3
  go_wp2_with (go_at_call 9; refine c3.mono ?_; refine unhid ?_)
  refine hid ?_
  rintro e w4 ⟨rfl, γ4, g4, h4, r4⟩
  have hG4 : γ4.G = G := g4
  obtain ⟨W4, hW4⟩ : ∃ W, W = w4.alloc (goutO 0 true 0) := ⟨_, rfl⟩
  have H4 := hid (show OwnG w W4 γ4 (wG 4) from by rw [hW4]; exact h4.below (below_alloc0 _ _))
  have R3_4 := hid (show W4.heap[w4.heap.size]? = some (goutO 0 true 0) by rw [hW4]; exact heap_alloc_last _ _)
  have R0_4 := hid (show W4.heap[w1.heap.size]? = some (goutO 0 false 0) by
    have q := r4 _ _ _ (by rw [← HW3.out]; exact R0_3.out) notg_out
    rw [hW4]; exact (Below.heap_alloc _ _ _ (row_lt q)).trans q)
  have R1_4 := hid (show W4.heap[w2.heap.size]? = some (goutO 0 false 0) by
    have q := r4 _ _ _ (by rw [← HW3.out]; exact R1_3.out) notg_out
    rw [hW4]; exact (Below.heap_alloc _ _ _ (row_lt q)).trans q)
  have R2_4 := hid (show W4.heap[w3.heap.size]? = some (goutO 0 false 0) by
    have q := r4 _ _ _ (by rw [← HW3.out]; exact R2_3.out) notg_out
    rw [hW4]; exact (Below.heap_alloc _ _ _ (row_lt q)).trans q)
  have HW4 := hid hW4
  clear hW4 h4 r4 c3 H3 g4 hG3 R0_3 R1_3 R2_3
  have c4 := H4.out.do (wF 4) 0 (HT.out 4 (by omega)).1 (HT.out 4 (by omega)).2
  rw [wA4, hG4] at c4
  rw [HW4.out] at c4
  go_wp2_with (go_at_call 9; refine c4.mono ?_; refine unhid ?_)
  refine hid ?_
  rintro e w5 ⟨rfl, γ5, g5, h5, r5⟩
  have hG5 : γ5.G = G := g5
  obtain ⟨W5, hW5⟩ : ∃ W, W = w5.alloc (goutO 0 true 0) := ⟨_, rfl⟩
  have H5 := hid (show OwnG w W5 γ5 (wG 5) from by rw [hW5]; exact h5.below (below_alloc0 _ _))
  have R4_5 := hid (show W5.heap[w5.heap.size]? = some (goutO 0 true 0) by rw [hW5]; exact heap_alloc_last _ _)
  have R0_5 := hid (show W5.heap[w1.heap.size]? = some (goutO 0 false 0) by
    have q := r5 _ _ _ (by rw [← HW4.out]; exact R0_4.out) notg_out
    rw [hW5]; exact (Below.heap_alloc _ _ _ (row_lt q)).trans q)
  have R1_5 := hid (show W5.heap[w2.heap.size]? = some (goutO 0 false 0) by
    have q := r5 _ _ _ (by rw [← HW4.out]; exact R1_4.out) notg_out
    rw [hW5]; exact (Below.heap_alloc _ _ _ (row_lt q)).trans q)
  have R2_5 := hid (show W5.heap[w3.heap.size]? = some (goutO 0 false 0) by
    have q := r5 _ _ _ (by rw [← HW4.out]; exact R2_4.out) notg_out
    rw [hW5]; exact (Below.heap_alloc _ _ _ (row_lt q)).trans q)
  have R3_5 := hid (show W5.heap[w4.heap.size]? = some (goutO 0 true 0) by
    have q := r5 _ _ _ (by rw [← HW4.out]; exact R3_4.out) notg_out
    rw [hW5]; exact (Below.heap_alloc _ _ _ (row_lt q)).trans q)
  have HW5 := hid hW5
  clear hW5 h5 r5 c4 H4 g5 hG4 R0_4 R1_4 R2_4 R3_4
  have c5 := H5.out.do (wF 5) 0 (HT.out 5 (by omega)).1 (HT.out 5 (by omega)).2
  rw [wA5, hG5] at c5
  rw [HW5.out] at c5
  go_wp2_with (go_at_call 9; refine c5.mono ?_; refine unhid ?_)
  refine hid ?_
  rintro e w6 ⟨rfl, γ6, g6, h6, r6⟩
  have hG6 : γ6.G = G := g6
  obtain ⟨W6, hW6⟩ : ∃ W, W = w6.alloc (goutO 132 false 0) := ⟨_, rfl⟩
  have H6 := hid (show OwnG w W6 γ6 (wG 6) from by rw [hW6]; exact h6.below (below_alloc0 _ _))
  have R5_6 := hid (show W6.heap[w6.heap.size]? = some (goutO 132 false 0) by rw [hW6]; exact heap_alloc_last _ _)
  have R0_6 := hid (show W6.heap[w1.heap.size]? = some (goutO 0 false 0) by
    have q := r6 _ _ _ (by rw [← HW5.out]; exact R0_5.out) notg_out
    rw [hW6]; exact (Below.heap_alloc _ _ _ (row_lt q)).trans q)
  have R1_6 := hid (show W6.heap[w2.heap.size]? = some (goutO 0 false 0) by
    have q := r6 _ _ _ (by rw [← HW5.out]; exact R1_5.out) notg_out
    rw [hW6]; exact (Below.heap_alloc _ _ _ (row_lt q)).trans q)
  have R2_6 := hid (show W6.heap[w3.heap.size]? = some (goutO 0 false 0) by
    have q := r6 _ _ _ (by rw [← HW5.out]; exact R2_5.out) notg_out
    rw [hW6]; exact (Below.heap_alloc _ _ _ (row_lt q)).trans q)
  have R3_6 := hid (show W6.heap[w4.heap.size]? = some (goutO 0 true 0) by
    have q := r6 _ _ _ (by rw [← HW5.out]; exact R3_5.out) notg_out
    rw [hW6]; exact (Below.heap_alloc _ _ _ (row_lt q)).trans q)
  have R4_6 := hid (show W6.heap[w5.heap.size]? = some (goutO 0 true 0) by
    have q := r6 _ _ _ (by rw [← HW5.out]; exact R4_5.out) notg_out
    rw [hW6]; exact (Below.heap_alloc _ _ _ (row_lt q)).trans q)
  have HW6 := hid hW6
  clear hW6 h6 r6 c5 H5 g6 hG5 R0_5 R1_5 R2_5 R3_5 R4_5
  have q0 := R0_6.out
  rw [HW6.out] at q0
  have e00 := at_row q0 0 (v := .int .i64 0) rfl
  have e01 := at_row q0 1 (v := .bool false) rfl
  have e02 := at_row q0 2 (v := .int .i64 0) rfl
  have q1 := R1_6.out
  rw [HW6.out] at q1
  have e10 := at_row q1 0 (v := .int .i64 0) rfl
  have e11 := at_row q1 1 (v := .bool false) rfl
  have e12 := at_row q1 2 (v := .int .i64 0) rfl
  have q2 := R2_6.out
  rw [HW6.out] at q2
  have e20 := at_row q2 0 (v := .int .i64 0) rfl
  have e21 := at_row q2 1 (v := .bool false) rfl
  have e22 := at_row q2 2 (v := .int .i64 0) rfl
  have q3 := R3_6.out
  rw [HW6.out] at q3
  have e30 := at_row q3 0 (v := .int .i64 0) rfl
  have e31 := at_row q3 1 (v := .bool true) rfl
  have e32 := at_row q3 2 (v := .int .i64 0) rfl
  have q4 := R4_6.out
  rw [HW6.out] at q4
  have e40 := at_row q4 0 (v := .int .i64 0) rfl
  have e41 := at_row q4 1 (v := .bool true) rfl
  have e42 := at_row q4 2 (v := .int .i64 0) rfl
  have q5 := R5_6.out
  rw [HW6.out] at q5
  have e50 := at_row q5 0 (v := .int .i64 132) rfl
  have e51 := at_row q5 1 (v := .bool false) rfl
  have e52 := at_row q5 2 (v := .int .i64 0) rfl
  have H7 := H6.out
  rw [HW6.out] at H7
  have cM := H7.gr.made
  have cW := gWords_at γ6 (wG 6) [2, 3] w_met _ H7.gr
  rw [hG6] at cM cW
  rw [w_m] at cM
  rw [w_words] at cW
  have HB := hid H7.bel
  clear q0 q1 q2 q3 q4 q5 R0_6 R1_6 R2_6 R3_6 R4_6 R5_6 H7 H6
  go_wp2_with (first | (go_at_call 7; refine (gnum_any _ _).mono ?_; rintro e w' ⟨rfl, hw⟩; rw [hw]; clear hw) | (go_at_call 13; refine cM.mono ?_; rintro e w' ⟨rfl, hw⟩; rw [hw]; clear hw) | (go_at_call 12; refine cW.mono ?_; rintro e w7 ⟨rfl, b7⟩))
  go_ret
  exact ⟨rfl, HB.out.trans (b7.mono HB.out.size)⟩
end Go.Proofs.YtlkhmfmocegekaaDoor
