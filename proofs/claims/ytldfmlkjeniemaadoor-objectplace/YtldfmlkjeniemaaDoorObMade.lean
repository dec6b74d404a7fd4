/- The heap that a law of layer 7 makes. -/
import Derived.Test.YtldfmlkjeniemaaDoorObWorksOn
import Derived.Test.YtldfmlkjeniemaaDoorLyRefOn
set_option linter.unusedVariables false
namespace Go.Proofs.YtldfmlkjeniemaaDoor
open Go.RowKit Go.Ly Go.Hd Go.Sh Go.Ob
abbrev hpC (t s : Int) (a : Option Addr) (n c : Nat) (wa : Option Addr) (wn wc : Nat) (m : Int) : Array Value := #[.int .i64 t, .int .i64 s, .slice a n c, .slice wa wn wc, .int .i64 m]
abbrev hpV (t s : Int) (a : Option Addr) (n c : Nat) (wa : Option Addr) (wn wc : Nat) (m : Int) : Value := .agg (hpC t s a n c wa wn wc m)
abbrev hpO (t s : Int) (a : Option Addr) (n c : Nat) (wa : Option Addr) (wn wc : Nat) (m : Int) : Obj := .cells (hpC t s a n c wa wn wc m) 27
/-- Is it made? -/
def mdOk (t s : Int) (ss : List ByteArray) (wn : Nat) (m : Int) : Bool := rgt t s ss && (decide (s ≤ 100) && decide (wn ≤ 300) && decide (-3 ≤ m) && decide (m ≤ 3))
set_option maxRecDepth 100000 in
set_option maxHeartbeats 4000000 in
theorem made_no (t s : Int) (a : Option Addr) (n c : Nat) (ss : List ByteArray) (wa : Option Addr) (wn wc : Nat) (m : Int) (w : World) (hT : IsTab w (.slice a n c) ss) (h : mdOk t s ss wn m = false) :
    Calls Tryd.prog 7 #[hpV t s a n c wa wn wc m] w fun e w' => e = .returned (.slice none 0 0) ∧ Below w.heap.size w w' := by
  have bw := below_alloc0 w (hpO t s a n c wa wn wc m)
  obtain ⟨r, hr⟩ : ∃ r, Hid (rgt t s ss = r) := ⟨_, hid rfl⟩
  have cr := rgt6_at t s a n c ss _ r (hT.below (Nat.le_refl _) bw) hr
  rw [mdOk, hr.out] at h
  clear hT hr
  cases r
  · clear h
    go_enter Tryd.func7, Tryd.ntmps7
    go_wp2_with (go_at_call 18; refine cr.mono ?_)
    rintro e w1 ⟨rfl, b1⟩
    have B1 := hid (bel1 b1)
    clear b1
    go_wp2
    go_ret
    exact ⟨rfl, B1.out⟩
  · have hh : 100 < s ∨ (s ≤ 100 ∧ (300 < (wn : Int) ∨ ((wn : Int) ≤ 300 ∧ (m < -3 ∨ (-3 ≤ m ∧ 3 < m))))) := by simp at h; omega
    clear h
    rcases hh with h | ⟨h1, h | ⟨h2, h | ⟨h3, h⟩⟩⟩
    all_goals
      go_enter Tryd.func7, Tryd.ntmps7
      go_wp2_with (go_at_call 18; refine cr.mono ?_)
      rintro e w1 ⟨rfl, b1⟩
      have R1 := row1 b1
      have d1 := at_row R1 1 rfl
      have d3 := at_row R1 3 rfl
      have d4 := at_row R1 4 rfl
      have B1 := hid (bel1 b1)
      clear b1 R1
      go_wp2
      go_ret
      exact ⟨rfl, B1.out⟩
/-- The words that are made: of ws, as many as there is room for, noughts behind. -/
def mdW (ws : List Int) (N : Nat) : List Int := ws.take N ++ List.replicate (N - ws.length) 0
theorem mdW_len (ws : List Int) (N : Nat) : (mdW ws N).length = N := by simp [mdW]; omega
theorem mdW_in {ws : List Int} (h : InW ws) (N : Nat) : InW (mdW ws N) := by
  intro x hx
  rcases List.mem_append.1 hx with h1 | h1
  · exact h x (List.mem_of_mem_take h1)
  · exact InW.zeros _ x h1
theorem copy_none (ty : TypeId) (g N : Nat) (w : World) : (Builtin.copy_ #[25, 25] ty #[.slice (some ⟨g, 0, none⟩) N N, .slice none 0 0]).run Tryd.prog w = .ok (goInt 0) w :=
  run_copy_nil Tryd.prog w 25 25 ty 50 ⟨g, 0, none⟩ N N Tryd.underlying25 (by kernel_rfl)
theorem mdW_copy (ws : List Int) (N : Nat) : ((wds (List.replicate N 0)).toList.take 0 ++ (wds (ws.take N)).toList ++ (wds (List.replicate N 0)).toList.drop (0 + (wds (ws.take N)).toList.length)).toArray = wds (mdW ws N) := by
  have e : N - min N ws.length = N - ws.length := by omega
  simp [wds, mdW, e]
/-- Words that a slice leads to, or none. -/
def WsA (W : World) (wa : Option Addr) (wc : Nat) (ws : List Int) : Prop := (wa = none ∧ wc = 0 ∧ ws = []) ∨ ∃ ad, wa = some ad ∧ ∀ i, i < ws.length → W.cell? (ad.add i) = some (.int .u64 (wat ws i))
theorem WsA.below {W W' : World} {wa : Option Addr} {wc : Nat} {ws : List Int} (h : WsA W wa wc ws) (b : Below W.heap.size W W') : WsA W' wa wc ws := by
  rcases h with h | ⟨ad, e, h⟩
  · exact .inl h
  · exact .inr ⟨ad, e, fun i hi => hcell_below (h i hi) b⟩
theorem wsA_of_row {W : World} {wa : Option Addr} {wn wc : Nat} {zs : List Int} (h : IsRow W wa wn wc zs) : ∃ ws, ws.length = wn ∧ WsA W wa wc ws ∧ InW ws := by
  rcases h with ⟨rfl, rfl, rfl, _⟩ | ⟨x, rfl, hl, hm, hz, hcell, hw⟩
  · exact ⟨[], rfl, .inl ⟨rfl, rfl, rfl⟩, fun x hx => by simp at hx⟩
  · refine ⟨zs.take wn, by simp; omega, .inr ⟨x, rfl, fun i hi => ?_⟩, fun y hy => ?_⟩
    · have h2 : i < wn ∧ i < zs.length := by simp at hi; omega
      rw [hcell i h2.2]
      simp [wat, List.getD, h2.1, h2.2]
    · have := hw y (List.mem_of_mem_take hy)
      simp [Lit.wf, IntKind.min, IntKind.max, IntKind.signed, IntKind.bits] at this
      omega
theorem copy_some (ty : TypeId) (g N wc : Nat) (ad : Addr) (ws : List Int) (w : World) (hg : w.heap[g]? = some (.cells (wds (List.replicate N 0)) 50)) (hx : ∀ i, i < ws.length → w.cell? (ad.add i) = some (.int .u64 (wat ws i))) :
    (Builtin.copy_ #[25, 25] ty #[.slice (some ⟨g, 0, none⟩) N N, .slice (some ad) ws.length wc]).run Tryd.prog w = .ok (goInt ((min N ws.length : Nat) : Int)) (w.setRow g (wds (mdW ws N))) := by
  have hs : ∀ j v, (wds (ws.take N)).toList[j]? = some v → w.cell? (ad.add j) = some v := fun j v hv => by
    have hj : j < N ∧ j < ws.length := by
      have := (List.getElem?_eq_some_iff.1 hv).1
      simp [wds] at this
      omega
    rw [hx j hj.2]
    simp only [wds, List.getElem?_map, List.getElem?_take_of_lt hj.1, List.getElem?_eq_getElem hj.2, Option.map_some] at hv
    rw [← hv]
    simp [wat, List.getD, hj.2]
  have := run_copy_row Tryd.prog w 25 25 ty 50 g 0 N N ad ws.length wc (wds (List.replicate N 0)) 50 (wds (ws.take N)).toList Tryd.underlying25 (by kernel_rfl) hg
    (by simp [wds]; exact Nat.min_comm _ _) hs (by simp [wds]; omega) (wds_one _)
  rw [this, mdW_copy]
  simp [wds]
theorem wds_zeros (N : Nat) : madeCells #[.int .u64 0] N = wds (List.replicate N 0) := made_zeros N
set_option maxRecDepth 100000 in
set_option maxHeartbeats 4000000 in
theorem made_yes (t s : Int) (a : Option Addr) (n c : Nat) (ss : List ByteArray) (wa : Option Addr) (wc : Nat) (ws : List Int) (m : Int) (N : Nat) (w : World) (hT : IsTab w (.slice a n c) ss) (h : mdOk t s ss ws.length m = true) (hws : WsA w wa wc ws) (hN : (N : Int) = 3 + t + t + 2 * s + m) :
    Calls Tryd.prog 7 #[hpV t s a n c wa ws.length wc m] w fun e w' => ∃ G, e = .returned (.slice (some ⟨G, 0, none⟩) N N) ∧ Ws w' G 0 (mdW ws N) ∧ w.heap.size ≤ G ∧ Below w.heap.size w w' := by
  have bw := below_alloc0 w (hpO t s a n c wa ws.length wc m)
  have h1 : rgt t s ss = true ∧ s ≤ 100 ∧ ws.length ≤ 300 ∧ -3 ≤ m ∧ m ≤ 3 := by simpa [mdOk, and_assoc] using h
  obtain ⟨hr, s9, wl9, m0, m9⟩ := h1
  obtain ⟨t0, t1, s0, s1, _⟩ := rgt_yes hr
  have cr := rgt6_at t s a n c ss _ true (hT.below (Nat.le_refl _) bw) (hid hr)
  have cs := fun W => rSize6 t s a n c W t0 t1 s0 s1
  have wl9' : (ws.length : Int) ≤ 300 := by omega
  have z0 : 69 ≤ 3 + t + t + 2 * s := by omega
  have z9 : 3 + t + t + 2 * s ≤ 300 := by omega
  obtain ⟨Z, hZ⟩ : ∃ Z, Z = 3 + t + t + 2 * s := ⟨_, rfl⟩
  rw [← hZ] at hN z0 z9
  simp only [← hZ] at cs
  have hw : IntKind.i64.wrap (Z + m) = (N : Int) := by rw [IntWalk.i64_in _ ⟨by omega, by omega⟩, hN]
  have hmk : ∀ u, (Instr.makeSlice 25 (.int .i64 (IntKind.i64.wrap (Z + m))) (.int .i64 (IntKind.i64.wrap (Z + m)))).run Tryd.prog u = .ok (.slice (some ⟨u.heap.size, 0, none⟩) N N) (u.alloc (.cells (wds (List.replicate N 0)) 50)) := fun u => by
    rw [hw]
    exact make_words 25 Tryd.underlying25 N (by omega) u
  have HW := hid hws
  clear hT h hr hws hZ hw hN
  go_enter Tryd.func7, Tryd.ntmps7
  go_wp2_with (go_at_call 18; refine cr.mono ?_)
  rintro e w1 ⟨rfl, b1⟩
  have R1 := hid (row1 b1)
  have d1 := at_row R1.out 1 rfl
  have d3 := at_row R1.out 3 rfl
  have d4 := at_row R1.out 4 rfl
  have B1 := hid (bel1 b1)
  clear b1 cr bw
  go_wp2_with fail
  have HS := hid (show Hs4 w1 w.heap.size 0 (.int .i64 t) w.heap.size 1 (.int .i64 s) w.heap.size 2 (.slice a n c) w.heap.size 4 (.int .i64 m) w1 from ⟨at_row R1.out 0 rfl, d1, at_row R1.out 2 rfl, d4, Below.refl _ _⟩)
  clear d1 d3 d4
  go_region_held3 (Hs4 w1 w.heap.size 0 (.int .i64 t) w.heap.size 1 (.int .i64 s) w.heap.size 2 (.slice a n c) w.heap.size 4 (.int .i64 m)) (with_reducible (first | assumption | exact hs4_drew HS.out | exact hs4_call HS.out (hs4_drew HS.out) b3 | (refine hs4_alloc HS.out ?_ _; first | assumption | exact hs4_call HS.out (hs4_drew HS.out) b3))) (first | (go_at_call 19; refine (cs _).mono ?_; rintro e w5 ⟨rfl, b3⟩))
  rename_i hH
  clear hH
  have b3' := ((Below.refl _ w1).drew).trans b3
  have RG := hid (heap_alloc_last w5 (.cells (wds (List.replicate N 0)) 50))
  have B5 := hid (B1.out.trans (b3'.mono B1.out.size))
  have R5 := row_below R1.out (b3'.trans ((below_alloc0 w5 (.cells (wds (List.replicate N 0)) 50)).mono b3'.size))
  have d3 := at_row R5 3 rfl
  have B6 := hid (B5.out.trans ((below_alloc0 w5 (.cells (wds (List.replicate N 0)) 50)).mono B5.out.size))
  have HW6 := hid (HW.out.below B6.out)
  clear b3 b3' R5 R1 HS HW B1 cs hmk
  have hz5 := B5.out.size
  rcases (show (wa = none ∧ wc = 0 ∧ ws = []) ∨ ∃ ad, wa = some ad from by rcases HW6.out with h | ⟨ad, h, _⟩; exact .inl h; exact .inr ⟨ad, h⟩) with ⟨rfl, rfl, rfl⟩ | ⟨ad, rfl⟩
  · have hcp := fun ty => copy_none ty w5.heap.size N (w5.alloc (.cells (wds (List.replicate N 0)) 50))
    have hws : Ws (w5.alloc (.cells (wds (List.replicate N 0)) 50)) w5.heap.size 0 (mdW [] N) := by
      rw [show mdW [] N = List.replicate N 0 by simp [mdW]]
      exact fun i hi => by rw [Nat.zero_add]; exact cell_last w5 _ _ i _ (wds_get _ i hi)
    have HWS := hid hws
    clear hws HW6 RG
    generalize wds (List.replicate N 0) = YA at *
    generalize w5.heap.size = g5 at *
    generalize w5.alloc _ = W6 at *
    simp only [List.length_nil] at d3 ⊢
    go_wp2
    go_ret
    exact ⟨g5, rfl, HWS.out, hz5, B6.out⟩
  · obtain ⟨ad', e, hx⟩ : ∃ ad', some ad = some ad' ∧ ∀ i, i < ws.length → (w5.alloc (.cells (wds (List.replicate N 0)) 50)).cell? (ad'.add i) = some (.int .u64 (wat ws i)) := by
      rcases HW6.out with ⟨h, _⟩ | h
      · cases h
      · exact h
    cases e
    have hcp := fun ty => copy_some ty w5.heap.size N wc ad ws _ RG.out hx
    have hws : Ws ((w5.alloc (.cells (wds (List.replicate N 0)) 50)).setRow w5.heap.size (wds (mdW ws N))) w5.heap.size 0 (mdW ws N) := fun i hi => by
      rw [Nat.zero_add]
      exact at_row (setRow_heap _ _ _ _ _ _ RG.out) i (wds_get _ i hi)
    have HWS := hid hws
    have HB := hid (below_setRow B6.out hz5 (wds (mdW ws N)))
    clear hws HW6 RG hx
    generalize wds (List.replicate N 0) = YA at *
    generalize wds (mdW ws N) = ZA at *
    go_wp2
    go_ret
    exact ⟨_, rfl, HWS.out, hz5, HB.out⟩
end Go.Proofs.YtldfmlkjeniemaaDoor
