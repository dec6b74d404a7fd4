/- The heap that a law of layer 7 makes. -/
import Derived.Test.YtldfmlkjeniemaaDoorObWorksOn
import Derived.Test.YtldfmlkjeniemaaDoorLyRefOn
import Derived.Test.YtldfmlkjeniemaaDoorLyStartOn
import Derived.Test.YtldfmlkjeniemaaDoorObPlaceTOn
set_option linter.unusedVariables false
namespace Go.Proofs.YtldfmlkjeniemaaDoor
open Go.RowKit Go.Ly Go.Hd Go.Sh Go.Ob
abbrev hpC (t s : Int) (a : Option Addr) (n c : Nat) (wa : Option Addr) (wn wc : Nat) (m : Int) : Array Value := #[.int .i64 t, .int .i64 s, .slice a n c, .slice wa wn wc, .int .i64 m]
abbrev hpV (t s : Int) (a : Option Addr) (n c : Nat) (wa : Option Addr) (wn wc : Nat) (m : Int) : Value := .agg (hpC t s a n c wa wn wc m)
abbrev hpO (t s : Int) (a : Option Addr) (n c : Nat) (wa : Option Addr) (wn wc : Nat) (m : Int) : Obj := .cells (hpC t s a n c wa wn wc m) 27
/-- Is it made? -/
def mdOk (t s : Int) (ss : List ByteArray) (wn : Nat) (m : Int) : Bool := rgt t s ss && (decide (s ≤ 100) && decide (wn ≤ 300) && decide (-3 ≤ m) && decide (m ≤ 3))
set_option maxRecDepth 100000 in
set_option maxHeartbeats 4000000 in
theorem made_no (t s : Int) (a : Option Addr) (n c : Nat) (ss : List ByteArray) (wa : Option Addr) (wn wc : Nat) (m : Int) (w : World) (hT : IsTab w (.slice a n c) ss) (h : mdOk t s ss wn m = false) :
    Calls Tryd.prog 7 #[hpV t s a n c wa wn wc m] w fun e w' => e = .returned (.slice none 0 0) ∧ Below w.heap.size w w' := by
  have bw := below_alloc0 w (hpO t s a n c wa wn wc m)
  obtain ⟨r, hr⟩ : ∃ r, Hid (rgt t s ss = r) := ⟨_, hid rfl⟩
  have cr := rgt6_at t s a n c ss _ r (hT.below (Nat.le_refl _) bw) hr
  rw [mdOk, hr.out] at h
  clear hT hr
  cases r
  · clear h
    go_enter Tryd.func7, Tryd.ntmps7
    go_wp2_with (go_at_call 18; refine cr.mono ?_)
    rintro e w1 ⟨rfl, b1⟩
    have B1 := hid (bel1 b1)
    clear b1
    go_wp2
    go_ret
    exact ⟨rfl, B1.out⟩
  · have hh : 100 < s ∨ (s ≤ 100 ∧ (300 < (wn : Int) ∨ ((wn : Int) ≤ 300 ∧ (m < -3 ∨ (-3 ≤ m ∧ 3 < m))))) := by simp at h; omega
    clear h
    rcases hh with h | ⟨h1, h | ⟨h2, h | ⟨h3, h⟩⟩⟩
    all_goals
      go_enter Tryd.func7, Tryd.ntmps7
      go_wp2_with (go_at_call 18; refine cr.mono ?_)
      rintro e w1 ⟨rfl, b1⟩
      have R1 := row1 b1
      have d1 := at_row R1 1 rfl
      have d3 := at_row R1 3 rfl
      have d4 := at_row R1 4 rfl
      have B1 := hid (bel1 b1)
      clear b1 R1
      go_wp2
      go_ret
      exact ⟨rfl, B1.out⟩
/-- The words that are made: of ws, as many as there is room for, noughts behind. -/
def mdW (ws : List Int) (N : Nat) : List Int := ws.take N ++ List.replicate (N - ws.length) 0
theorem mdW_len (ws : List Int) (N : Nat) : (mdW ws N).length = N := by simp [mdW]; omega
theorem mdW_in {ws : List Int} (h : InW ws) (N : Nat) : InW (mdW ws N) := by
  intro x hx
  rcases List.mem_append.1 hx with h1 | h1
  · exact h x (List.mem_of_mem_take h1)
  · exact InW.zeros _ x h1
theorem copy_none (ty : TypeId) (g N : Nat) (w : World) : (Builtin.copy_ #[25, 25] ty #[.slice (some ⟨g, 0, none⟩) N N, .slice none 0 0]).run Tryd.prog w = .ok (goInt 0) w :=
  run_copy_nil Tryd.prog w 25 25 ty 50 ⟨g, 0, none⟩ N N Tryd.underlying25 (by kernel_rfl)
theorem mdW_copy (ws : List Int) (N : Nat) : ((wds (List.replicate N 0)).toList.take 0 ++ (wds (ws.take N)).toList ++ (wds (List.replicate N 0)).toList.drop (0 + (wds (ws.take N)).toList.length)).toArray = wds (mdW ws N) := by
  have e : N - min N ws.length = N - ws.length := by omega
  simp [wds, mdW, e]
/-- Words that a slice leads to, or none. -/
def WsA (W : World) (wa : Option Addr) (wc : Nat) (ws : List Int) : Prop := (wa = none ∧ wc = 0 ∧ ws = []) ∨ ∃ ad, wa = some ad ∧ ∀ i, i < ws.length → W.cell? (ad.add i) = some (.int .u64 (wat ws i))
theorem WsA.below {W W' : World} {wa : Option Addr} {wc : Nat} {ws : List Int} (h : WsA W wa wc ws) (b : Below W.heap.size W W') : WsA W' wa wc ws := by
  rcases h with h | ⟨ad, e, h⟩
  · exact .inl h
  · exact .inr ⟨ad, e, fun i hi => hcell_below (h i hi) b⟩
theorem wsA_of_row {W : World} {wa : Option Addr} {wn wc : Nat} {zs : List Int} (h : IsRow W wa wn wc zs) : ∃ ws, ws.length = wn ∧ WsA W wa wc ws ∧ InW ws := by
  rcases h with ⟨rfl, rfl, rfl, _⟩ | ⟨x, rfl, hl, hm, hz, hcell, hw⟩
  · exact ⟨[], rfl, .inl ⟨rfl, rfl, rfl⟩, fun x hx => by simp at hx⟩
  · refine ⟨zs.take wn, by simp; omega, .inr ⟨x, rfl, fun i hi => ?_⟩, fun y hy => ?_⟩
    · have h2 : i < wn ∧ i < zs.length := by simp at hi; omega
      rw [hcell i h2.2]
      simp [wat, List.getD, h2.1, h2.2]
    · have := hw y (List.mem_of_mem_take hy)
      simp [Lit.wf, IntKind.min, IntKind.max, IntKind.signed, IntKind.bits] at this
      omega
theorem copy_some (ty : TypeId) (g N wc : Nat) (ad : Addr) (ws : List Int) (w : World) (hg : w.heap[g]? = some (.cells (wds (List.replicate N 0)) 50)) (hx : ∀ i, i < ws.length → w.cell? (ad.add i) = some (.int .u64 (wat ws i))) :
    (Builtin.copy_ #[25, 25] ty #[.slice (some ⟨g, 0, none⟩) N N, .slice (some ad) ws.length wc]).run Tryd.prog w = .ok (goInt ((min N ws.length : Nat) : Int)) (w.setRow g (wds (mdW ws N))) := by
  have hs : ∀ j v, (wds (ws.take N)).toList[j]? = some v → w.cell? (ad.add j) = some v := fun j v hv => by
    have hj : j < N ∧ j < ws.length := by
      have := (List.getElem?_eq_some_iff.1 hv).1
      simp [wds] at this
      omega
    rw [hx j hj.2]
    simp only [wds, List.getElem?_map, List.getElem?_take_of_lt hj.1, List.getElem?_eq_getElem hj.2, Option.map_some] at hv
    rw [← hv]
    simp [wat, List.getD, hj.2]
  have := run_copy_row Tryd.prog w 25 25 ty 50 g 0 N N ad ws.length wc (wds (List.replicate N 0)) 50 (wds (ws.take N)).toList Tryd.underlying25 (by kernel_rfl) hg
    (by simp [wds]; exact Nat.min_comm _ _) hs (by simp [wds]; omega) (wds_one _)
  rw [this, mdW_copy]
  simp [wds]
theorem wds_zeros (N : Nat) : madeCells #[.int .u64 0] N = wds (List.replicate N 0) := made_zeros N
set_option maxRecDepth 100000 in
set_option maxHeartbeats 4000000 in
theorem made_yes (t s : Int) (a : Option Addr) (n c : Nat) (ss : List ByteArray) (wa : Option Addr) (wc : Nat) (ws : List Int) (m : Int) (N : Nat) (w : World) (hT : IsTab w (.slice a n c) ss) (h : mdOk t s ss ws.length m = true) (hws : WsA w wa wc ws) (hN : (N : Int) = 3 + t + t + 2 * s + m) :
    Calls Tryd.prog 7 #[hpV t s a n c wa ws.length wc m] w fun e w' => ∃ G, e = .returned (.slice (some ⟨G, 0, none⟩) N N) ∧ Ws w' G 0 (mdW ws N) ∧ w.heap.size ≤ G ∧ Below w.heap.size w w' := by
  have bw := below_alloc0 w (hpO t s a n c wa ws.length wc m)
  have h1 : rgt t s ss = true ∧ s ≤ 100 ∧ ws.length ≤ 300 ∧ -3 ≤ m ∧ m ≤ 3 := by simpa [mdOk, and_assoc] using h
  obtain ⟨hr, s9, wl9, m0, m9⟩ := h1
  obtain ⟨t0, t1, s0, s1, _⟩ := rgt_yes hr
  have cr := rgt6_at t s a n c ss _ true (hT.below (Nat.le_refl _) bw) (hid hr)
  have cs := fun W => rSize6 t s a n c W t0 t1 s0 s1
  have wl9' : (ws.length : Int) ≤ 300 := by omega
  have z0 : 69 ≤ 3 + t + t + 2 * s := by omega
  have z9 : 3 + t + t + 2 * s ≤ 300 := by omega
  obtain ⟨Z, hZ⟩ : ∃ Z, Z = 3 + t + t + 2 * s := ⟨_, rfl⟩
  rw [← hZ] at hN z0 z9
  simp only [← hZ] at cs
  have hw : IntKind.i64.wrap (Z + m) = (N : Int) := by rw [IntWalk.i64_in _ ⟨by omega, by omega⟩, hN]
  have hmk : ∀ u, (Instr.makeSlice 25 (.int .i64 (IntKind.i64.wrap (Z + m))) (.int .i64 (IntKind.i64.wrap (Z + m)))).run Tryd.prog u = .ok (.slice (some ⟨u.heap.size, 0, none⟩) N N) (u.alloc (.cells (wds (List.replicate N 0)) 50)) := fun u => by
    rw [hw]
    exact make_words 25 Tryd.underlying25 N (by omega) u
  have HW := hid hws
  clear hT h hr hws hZ hw hN
  go_enter Tryd.func7, Tryd.ntmps7
  go_wp2_with (go_at_call 18; refine cr.mono ?_)
  rintro e w1 ⟨rfl, b1⟩
  have R1 := hid (row1 b1)
  have d1 := at_row R1.out 1 rfl
  have d3 := at_row R1.out 3 rfl
  have d4 := at_row R1.out 4 rfl
  have B1 := hid (bel1 b1)
  clear b1 cr bw
  go_wp2_with fail
  have HS := hid (show Hs4 w1 w.heap.size 0 (.int .i64 t) w.heap.size 1 (.int .i64 s) w.heap.size 2 (.slice a n c) w.heap.size 4 (.int .i64 m) w1 from ⟨at_row R1.out 0 rfl, d1, at_row R1.out 2 rfl, d4, Below.refl _ _⟩)
  clear d1 d3 d4
  go_region_held3 (Hs4 w1 w.heap.size 0 (.int .i64 t) w.heap.size 1 (.int .i64 s) w.heap.size 2 (.slice a n c) w.heap.size 4 (.int .i64 m)) (with_reducible (first | assumption | exact hs4_drew HS.out | exact hs4_call HS.out (hs4_drew HS.out) b3 | (refine hs4_alloc HS.out ?_ _; first | assumption | exact hs4_call HS.out (hs4_drew HS.out) b3))) (first | (go_at_call 19; refine (cs _).mono ?_; rintro e w5 ⟨rfl, b3⟩))
  rename_i hH
  clear hH
  have b3' := ((Below.refl _ w1).drew).trans b3
  have RG := hid (heap_alloc_last w5 (.cells (wds (List.replicate N 0)) 50))
  have B5 := hid (B1.out.trans (b3'.mono B1.out.size))
  have R5 := row_below R1.out (b3'.trans ((below_alloc0 w5 (.cells (wds (List.replicate N 0)) 50)).mono b3'.size))
  have d3 := at_row R5 3 rfl
  have B6 := hid (B5.out.trans ((below_alloc0 w5 (.cells (wds (List.replicate N 0)) 50)).mono B5.out.size))
  have HW6 := hid (HW.out.below B6.out)
  clear b3 b3' R5 R1 HS HW B1 cs hmk
  have hz5 := B5.out.size
  rcases (show (wa = none ∧ wc = 0 ∧ ws = []) ∨ ∃ ad, wa = some ad from by rcases HW6.out with h | ⟨ad, h, _⟩; exact .inl h; exact .inr ⟨ad, h⟩) with ⟨rfl, rfl, rfl⟩ | ⟨ad, rfl⟩
  · have hcp := fun ty => copy_none ty w5.heap.size N (w5.alloc (.cells (wds (List.replicate N 0)) 50))
    have hws : Ws (w5.alloc (.cells (wds (List.replicate N 0)) 50)) w5.heap.size 0 (mdW [] N) := by
      rw [show mdW [] N = List.replicate N 0 by simp [mdW]]
      exact fun i hi => by rw [Nat.zero_add]; exact cell_last w5 _ _ i _ (wds_get _ i hi)
    have HWS := hid hws
    clear hws HW6 RG
    generalize wds (List.replicate N 0) = YA at *
    generalize w5.heap.size = g5 at *
    generalize w5.alloc _ = W6 at *
    simp only [List.length_nil] at d3 ⊢
    go_wp2
    go_ret
    exact ⟨g5, rfl, HWS.out, hz5, B6.out⟩
  · obtain ⟨ad', e, hx⟩ : ∃ ad', some ad = some ad' ∧ ∀ i, i < ws.length → (w5.alloc (.cells (wds (List.replicate N 0)) 50)).cell? (ad'.add i) = some (.int .u64 (wat ws i)) := by
      rcases HW6.out with ⟨h, _⟩ | h
      · cases h
      · exact h
    cases e
    have hcp := fun ty => copy_some ty w5.heap.size N wc ad ws _ RG.out hx
    have hws : Ws ((w5.alloc (.cells (wds (List.replicate N 0)) 50)).setRow w5.heap.size (wds (mdW ws N))) w5.heap.size 0 (mdW ws N) := fun i hi => by
      rw [Nat.zero_add]
      exact at_row (setRow_heap _ _ _ _ _ _ RG.out) i (wds_get _ i hi)
    have HWS := hid hws
    have HB := hid (below_setRow B6.out hz5 (wds (mdW ws N)))
    clear hws HW6 RG hx
    generalize wds (List.replicate N 0) = YA at *
    generalize wds (mdW ws N) = ZA at *
    go_wp2
    go_ret
    exact ⟨_, rfl, HWS.out, hz5, HB.out⟩
end Go.Proofs.YtldfmlkjeniemaaDoor
/- The document's functions (lapidaryref04): Marked, Size, Name. -/
namespace Go.Proofs.YtldfmlkjeniemaaDoor
open Go.RowKit Go.Hd Go.Sh
set_option maxHeartbeats 2000000 in
theorem rhSize_no (x : Int) (v : Value) (w : World) (x0 : 0 ≤ x) (x1 : x ≤ 18446744073709551615) (h : isH x = false) : Calls Tryd.prog 51 #[.int .u64 x, v] w fun e w' => e = .returned (.tuple #[.int .i64 0, .int .i64 2]) ∧ Below w.heap.size w w' := by
  have c := fun W => rof_no x W x0 x1 h
  clear h x0 x1
  go_enter Tryd.func51, Tryd.ntmps51
  go_wp2_with (go_at_call 68; refine (c _).mono ?_)
  rintro e w1 ⟨rfl, b1⟩
  go_wp2
  go_ret2
  exact ⟨rfl, b1.alloc b1.size _⟩
set_option maxHeartbeats 2000000 in
theorem rhSize_is (x : Int) (v : Value) (ss : List ByteArray) (w : World) (x0 : 0 ≤ x) (x1 : x ≤ 18446744073709551615) (h : isH x = true) (ht : IsTab w v ss) :
    Calls Tryd.prog 51 #[.int .u64 x, v] w fun e w' => e = .returned (.tuple #[.int .i64 (sz ss (x / 32)).1, .int .i64 (sz ss (x / 32)).2]) ∧ Below w.heap.size w w' := by
  have c := fun W => rof_yes x W x0 x1 h
  have HT := hid ht
  clear ht
  have cs := fun W hW => rSize_any v ss (x / 32) W hW
  generalize (sz ss (x / 32)).1 = A at *
  generalize (sz ss (x / 32)).2 = B at *
  generalize x / 32 = s at *
  generalize x / 8 % 4 = t at *
  clear h x0 x1
  go_enter Tryd.func51, Tryd.ntmps51
  go_wp2_with (go_at_call 68; refine (c _).mono ?_)
  rintro e w1 ⟨rfl, b1⟩
  go_wp2_with (go_at_call 69; refine (cs _ (HT.out.below (Nat.le_refl _) (b1.alloc b1.size _))).mono ?_)
  rintro e w2 ⟨rfl, hw⟩; rw [hw]; clear hw w2
  go_wp2
  go_ret2
  exact ⟨rfl, b1.alloc b1.size _⟩
theorem rhSize_at (x : Int) (v : Value) (ss : List ByteArray) (a b : Int) (w : World) (x0 : 0 ≤ x) (x1 : x ≤ 18446744073709551615) (ht : IsTab w v ss) (h : szH x ss = (a, b)) :
    Calls Tryd.prog 51 #[.int .u64 x, v] w fun e w' => e = .returned (.tuple #[.int .i64 a, .int .i64 b]) ∧ Below w.heap.size w w' := by
  by_cases hi : isH x = true
  · rw [szH, if_pos hi] at h
    have := rhSize_is x v ss w x0 x1 hi ht
    rwa [h] at this
  · rw [szH, if_neg hi] at h
    obtain ⟨rfl, rfl⟩ := Prod.mk.inj h
    exact rhSize_no x v w x0 x1 (by simpa using hi)
end Go.Proofs.YtldfmlkjeniemaaDoor
/- The document's functions of layer 7 (lapidaryref07): Right, Size, Stands. -/
set_option linter.unusedVariables false
namespace Go.Proofs.YtldfmlkjeniemaaDoor
open Go.RowKit Go.Ly Go.Hd Go.Sh Go.Ob Go.Sort
set_option maxRecDepth 100000 in
set_option maxHeartbeats 2000000 in
theorem oRight_at (t s : Int) (a : Option Addr) (n c : Nat) (ss : List ByteArray) (la : Option Addr) (N lc : Nat) (Z : Int) (r : Bool) (w : World) (hT : IsTab w (.slice a n c) ss) (hg : rgt t s ss = true) (hZ : 3 + t + t + 2 * s = Z) (hr : ((N : Int) == Z) = r) :
    Calls Tryd.prog 31 #[.slice la N lc, planV t s a n c] w fun e w' => e = .returned (.bool r) ∧ Below w.heap.size w w' := by
  obtain ⟨t0, t1, s0, s1, _⟩ := rgt_yes hg
  have bw := below_alloc0 w (plO t s a n c)
  have cr := rgt6_at t s a n c ss _ true (hT.below (Nat.le_refl _) bw) (hid hg)
  have cs := fun W => rSize6 t s a n c W t0 t1 s0 s1
  rw [hZ] at cs
  clear hT hg hZ
  go_enter Tryd.func31, Tryd.ntmps31
  go_wp2_with (go_at_call 18; refine cr.mono ?_)
  rintro e w1 ⟨rfl, b1⟩
  have R1 := row1 b1
  have d0 := at_row R1 0 rfl
  have d1 := at_row R1 1 rfl
  have d2 := at_row R1 2 rfl
  have B1 := hid (bel1 b1)
  clear b1 R1 cr bw
  go_wp2_with (go_at_call 19; refine (cs _).mono ?_; rintro e w2 ⟨rfl, b2⟩)
  go_ret
  exact ⟨rfl, B1.out.trans (b2.mono B1.out.size)⟩
set_option maxRecDepth 100000 in
set_option maxHeartbeats 4000000 in
theorem oSize_err (t s : Int) (a : Option Addr) (n c : Nat) (ss : List ByteArray) (b off lc : Nat) (xs : List Int) (q : Nat) (z er : Int) (w : World) (hT : IsTab w (.slice a n c) ss) (hx : Ws w b off xs) (hi : InW xs) (hq : q < xs.length) (hl : xs.length ≤ 9000) (hz : Hid (szH (wat xs q) ss = (z, er))) (he : (er != 0) = true) :
    Calls Tryd.prog 28 #[.slice (some ⟨b, off, none⟩) xs.length lc, planV t s a n c, .int .i64 (q : Int)] w fun e w' => e = .returned (.int .i64 0) ∧ Below w.heap.size w w' := by
  have hb := hi.get q
  have bw := below_alloc0 w (plO t s a n c)
  have cs := fun d os => Calls.regrown_of (rhSize_at (wat xs q) (.slice a n c) ss z er (grow (redrawn (w.alloc (plO t s a n c)) d) os) hb.1 hb.2 (hT.below (Nat.le_refl _) (bw.trans ((below_regrown _ d os).mono bw.size))) hz.out)
  have c2 := cell_regrown (cell_last w (#[.int .i64 t, .int .i64 s, .slice a n c]) 24 2 _ rfl)
  have cq := cell_regrown (hcell_below (hx q hq) bw)
  have hql : (q : Int) < (xs.length : Int) := by omega
  have hq0 : (0 : Int) ≤ (q : Int) := by omega
  generalize wat xs q = x at *
  clear hT hx hi hz hb
  go_enter Tryd.func28, Tryd.ntmps28
  go_wp2_with fail
  generalize w.alloc (plO t s a n c) = W at *
  have hzW := bw.size
  refine wp_region_quiet_below (by kernel_rfl) (by kernel_rfl) ?_
  repeat (go_big_quiet_step ((first | (go_at_call 51; exact cs _ _))))
  refine wpQuiet_nil ?_
  intro _ hw'
  obtain ⟨⟨dq, osq⟩, hw''⟩ := hw'
  subst hw''
  have B1 := hid (bw.trans ((below_regrown W dq osq).mono hzW))
  clear c2 cq cs
  generalize grow (redrawn W dq) osq = W1 at *
  go_wp2_with fail
  refine wp_region_quiet_below (by kernel_rfl) (by kernel_rfl) ?_
  repeat (go_big_quiet_step (fail))
  refine wpQuiet_nil ?_
  intro _ hw'
  obtain ⟨⟨dq2, osq2⟩, hw''⟩ := hw'
  subst hw''
  go_wp2
  go_ret
  exact ⟨rfl, B1.out.trans ((below_regrown W1 dq2 osq2).mono B1.out.size)⟩
set_option maxRecDepth 100000 in
set_option maxHeartbeats 4000000 in
theorem oSize_ok (t s : Int) (a : Option Addr) (n c : Nat) (ss : List ByteArray) (b off lc : Nat) (xs : List Int) (q : Nat) (z : Int) (r : Bool) (w : World) (hT : IsTab w (.slice a n c) ss) (hg : rgt t s ss = true) (hx : Ws w b off xs) (hi : InW xs) (hq : q < xs.length) (hl : xs.length ≤ 9000) (hp : 3 + t + t ≤ (q : Int)) (hz : Hid (szH (wat xs q) ss = (z, 0))) (z2 : 2 ≤ z) (z9 : z ≤ 10)
    (hr : Hid (decide (s < ((q : Int) - (3 + t + t)) % s + z) = r)) :
    Calls Tryd.prog 28 #[.slice (some ⟨b, off, none⟩) xs.length lc, planV t s a n c, .int .i64 (q : Int)] w fun e w' => e = .returned (.int .i64 (cond r 0 z)) ∧ Below w.heap.size w w' := by
  obtain ⟨t0, t1, s0, s1, _⟩ := rgt_yes hg
  have hb := hi.get q
  have bw := below_alloc0 w (plO t s a n c)
  have cs := fun d os => Calls.regrown_of (rhSize_at (wat xs q) (.slice a n c) ss z 0 (grow (redrawn (w.alloc (plO t s a n c)) d) os) hb.1 hb.2 (hT.below (Nat.le_refl _) (bw.trans ((below_regrown _ d os).mono bw.size))) hz.out)
  have c2 := cell_regrown (cell_last w (#[.int .i64 t, .int .i64 s, .slice a n c]) 24 2 _ rfl)
  have cq := cell_regrown (hcell_below (hx q hq) bw)
  have hql : (q : Int) < (xs.length : Int) := by omega
  have hq0 : (0 : Int) ≤ (q : Int) := by omega
  have hq9 : (q : Int) ≤ 20000 := by omega
  have RW : (w.alloc (plO t s a n c)).heap[w.heap.size]? = some (plO t s a n c) := heap_alloc_last w _
  generalize wat xs q = x at *
  clear hT hx hi hz hb hg
  go_enter Tryd.func28, Tryd.ntmps28
  go_wp2_with fail
  generalize w.alloc (plO t s a n c) = W at *
  have hzW := bw.size
  refine wp_region_quiet_below (by kernel_rfl) (by kernel_rfl) ?_
  repeat (go_big_quiet_step ((first | (go_at_call 51; exact cs _ _))))
  refine wpQuiet_nil ?_
  intro _ hw'
  obtain ⟨⟨dq, osq⟩, hw''⟩ := hw'
  subst hw''
  have B1 := hid (bw.trans ((below_regrown W dq osq).mono hzW))
  have RW1 := row_below RW (below_regrown W dq osq)
  clear c2 cq cs RW
  generalize grow (redrawn W dq) osq = W1 at *
  have c0 := cell_regrown (at_row RW1 0 rfl)
  have c1 := cell_regrown (at_row RW1 1 rfl)
  have c2 := cell_regrown (at_row RW1 2 rfl)
  have cb : ∀ d os, Calls Tryd.prog 15 #[planV t s a n c, .int .i64 0] (grow (redrawn W1 d) os) fun e w'' => e = .returned (.int .i64 (3 + t + t)) ∧ ∃ p : Regrown, w'' = grow (redrawn W1 p.d) p.os := fun d os => Calls.regrown_of (rBase6_0 t s a n c _ t0 t1 s0 s1)
  have sne : (s == 0) = false := by rw [beq_eq_false_iff_ne]; omega
  have sz : ¬ s = 0 := by omega
  have B0 : 0 ≤ 3 + t + t := by omega
  have B9 : 3 + t + t ≤ 20 := by omega
  generalize 3 + t + t = bb at *
  have o0 : 0 ≤ ((q : Int) - bb) % s := Int.emod_nonneg _ (by omega)
  have o9 : ((q : Int) - bb) % s < s := Int.emod_lt_of_pos _ (by omega)
  have HW : Hid (wrap64 (((q : Int) - bb) % s + z) = ((q : Int) - bb) % s + z) := hid (by unfold wrap64; omega)
  clear o0 o9
  go_wp2_with fail
  refine wp_region_quiet_below (by kernel_rfl) (by kernel_rfl) ?_
  repeat (go_big_quiet_step ((first | (go_at_call 15; exact cb _ _))))
  refine wpQuiet_nil ?_
  intro _ hw'
  obtain ⟨⟨dq2, osq2⟩, hw''⟩ := hw'
  subst hw''
  rw [HW.out, hr.out]
  have B2 := hid (B1.out.trans ((below_regrown W1 dq2 osq2).mono B1.out.size))
  clear c0 c1 c2 cb RW1 HW hr B1
  generalize grow (redrawn W1 dq2) osq2 = W2 at *
  cases r
  · go_wp2
    go_ret
    exact ⟨rfl, B2.out⟩
  · go_wp2
    go_ret
    exact ⟨rfl, B2.out⟩
end Go.Proofs.YtldfmlkjeniemaaDoor
