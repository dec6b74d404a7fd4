/- package graph: a graph that is none. -/
import Derived.Test.YtlkhmfmocegekaaDoorGrX
set_option linter.unusedVariables false
namespace Go.Proofs.YtlkhmfmocegekaaDoor
open Go.RowKit Go.Gr Go.Sh Go.Oq
abbrev zrow : Array Value := #[.int .i64 0, .int .i64 0, .slice none 0 0, .slice none 0 0, .int .i64 0]
/-- A pointer that leads to no graph. -/
def NoG (W : World) (P : Option Addr) : Prop := P = none ∨ ∃ Z, P = some ⟨Z, 0, none⟩ ∧ W.heap[Z]? = some (.cells zrow 48)
theorem NoG.below {W W' : World} {P : Option Addr} (h : NoG W P) (b : Below W.heap.size W W') : NoG W' P := by
  rcases h with rfl | ⟨Z, rfl, hr⟩
  · exact .inl rfl
  · exact .inr ⟨Z, rfl, (b.block Z (row_lt hr)).trans hr⟩
theorem NoG.is {W : World} {P : Option Addr} (h : NoG W P) : Calls Tryd.prog 18 #[.pointer P] W fun e w' => e = .returned (.bool true) ∧ w' = W := by
  rcases h with rfl | ⟨Z, rfl, hr⟩
  · exact isNone_nil W
  · exact isNone_at Z 0 W (at_row hr 0 rfl)
theorem Made_none (P : Option Addr) (w : World) (h : NoG w P) : Calls Tryd.prog 13 #[.pointer P] w fun e w' => e = .returned (.int .i64 0) ∧ w' = w := by
  have c := h.is
  clear h
  go_enter Tryd.func13, Tryd.ntmps13
  go_wp2_with (go_at_call 18; refine c.mono ?_; rintro e w' ⟨rfl, hw⟩; rw [hw]; clear hw)
  go_ret
  exact ⟨rfl, rfl⟩
theorem Words_none (P : Option Addr) (w : World) (h : NoG w P) : Calls Tryd.prog 12 #[.pointer P] w fun e w' => e = .returned (.int .i64 0) ∧ Below w.heap.size w w' :=
  gWords_none P w fun W b => (h.below b).is
theorem Do_none' (f : Nat → Int) (t : Int) (P : Option Addr) (w : World) (h : NoG w P) : Calls Tryd.prog 9 #[.pointer P, .int .i64 t, opV f] w fun e w' => e = .returned (.tuple #[goutV 0 false 0, .int .i64 1]) ∧ Below w.heap.size w w' :=
  Do_none f t (.pointer P) w fun W b => (h.below b).is
theorem Copy_none (P : Option Addr) (w : World) (h : NoG w P) : Calls Tryd.prog 10 #[.pointer P] w fun e w' => e = .returned (.pointer none) ∧ w' = w := by
  have c := h.is
  clear h
  go_enter Tryd.func10, Tryd.ntmps10
  go_wp2_with (go_at_call 18; refine c.mono ?_; rintro e w' ⟨rfl, hw⟩; rw [hw]; clear hw)
  go_ret
  exact ⟨rfl, rfl⟩
/-- A view, and none of it. -/
abbrev vwV (r n : Value) : Value := .agg #[r, n]
theorem results_vw {fn : Func} {p : Tmp} (h : fn.results = #[.cell p 53]) (tmps : Array Value) (w : World) (g : Nat) (a : Option Addr) (n c : Nat) (a' : Option Addr) (n' c' : Nat)
    (hp : tmps.getD p undef = .pointer (some ⟨g, 0, none⟩)) (hg : w.heap[g]? = some (.cells #[.slice a n c, .slice a' n' c'] 53)) : (results fn tmps).run Tryd.prog w = .ok (vwV (.slice a n c) (.slice a' n' c')) w := by
  have hp' : tmps[p]?.getD undef = .pointer (some ⟨g, 0, none⟩) := by simpa using hp
  have hu := Tryd.underlying53
  simp [results, h, hp', asAddr, run_loadVar_row w g 53 53 #[.slice a n c, .slice a' n' c'] (0, 0) _ hg hu rfl (by kernel_rfl)]
theorem vfield0 (r n : Value) (a c) (a' c') (m m') (hr : r = .slice a m c) (hn : n = .slice a' m' c') (w : World) : (Instr.field 53 (vwV r n) 0).run Tryd.prog w = .ok r w := by
  subst hr hn; kernel_rfl
theorem vfield1 (r n : Value) (a c) (a' c') (m m') (hr : r = .slice a m c) (hn : n = .slice a' m' c') (w : World) : (Instr.field 53 (vwV r n) 1).run Tryd.prog w = .ok n w := by
  subst hr hn; kernel_rfl
theorem View_none (P : Option Addr) (w : World) (h : NoG w P) : Calls Tryd.prog 11 #[.pointer P] w fun e w' => e = .returned (vwV (.slice none 0 0) (.slice none 0 0)) ∧ Below w.heap.size w w' := by
  have c := fun O => (h.below (below_alloc0 w O)).is
  clear h
  go_enter Tryd.func11, Tryd.ntmps11
  go_wp2_with (go_at_call 18; refine (c _).mono ?_; rintro e w' ⟨rfl, hw⟩; rw [hw]; clear hw)
  exact bodyPost_ret (results_vw Tryd.results11 _ _ w.heap.size none 0 0 none 0 0 rfl (heap_alloc_last w _)) rfl ⟨rfl, below_alloc0 w _⟩
set_option maxRecDepth 100000 in
theorem Same_both (P R : Option Addr) (w : World) (h : NoG w P) (k : NoG w R) : Calls Tryd.prog 14 #[.pointer P, .pointer R] w fun e w' => e = .returned (.bool true) ∧ w' = w := by
  have c := h.is
  have d := k.is
  rcases h with rfl | ⟨Z, rfl, hr⟩
  all_goals
    rcases k with rfl | ⟨Y, rfl, hs⟩
  all_goals
    try clear hr
    try clear hs
    go_enter Tryd.func14, Tryd.ntmps14
    go_wp2_with (go_at_call 18; refine c.mono ?_; refine unhid ?_)
    refine hid ?_
    rintro e w' ⟨rfl, hw⟩; rw [hw]; clear hw
    go_wp2_with (go_at_call 18; refine c.mono ?_; refine unhid ?_)
    refine hid ?_
    rintro e w' ⟨rfl, hw⟩; rw [hw]; clear hw
    go_wp2_with (go_at_call 18; refine d.mono ?_; refine unhid ?_)
    refine hid ?_
    rintro e w' ⟨rfl, hw⟩; rw [hw]; clear hw
    go_wp2_with fail
    refine bodyPost_ret (results_tmp rfl _ _ _) rfl ?_
    exact ⟨rfl, rfl⟩
set_option maxRecDepth 100000 in
theorem Same_one (P : Option Addr) (A : Addr) (w : World) (h : NoG w P) (k : Calls Tryd.prog 18 #[.pointer (some A)] w fun e w' => e = .returned (.bool false) ∧ w' = w) : Calls Tryd.prog 14 #[.pointer P, .pointer (some A)] w fun e w' => e = .returned (.bool false) ∧ w' = w := by
  have c := h.is
  rcases h with rfl | ⟨Z, rfl, hr⟩
  all_goals
    try clear hr
    go_enter Tryd.func14, Tryd.ntmps14
    go_wp2_with (go_at_call 18; refine c.mono ?_; refine unhid ?_)
    refine hid ?_
    rintro e w' ⟨rfl, hw⟩; rw [hw]; clear hw
    go_wp2_with (go_at_call 18; refine c.mono ?_; refine unhid ?_)
    refine hid ?_
    rintro e w' ⟨rfl, hw⟩; rw [hw]; clear hw
    go_wp2_with (go_at_call 18; refine k.mono ?_; refine unhid ?_)
    refine hid ?_
    rintro e w' ⟨rfl, hw⟩; rw [hw]; clear hw
    go_wp2_with fail
    refine bodyPost_ret (results_tmp rfl _ _ _) rfl ?_
    exact ⟨rfl, rfl⟩
set_option maxRecDepth 100000 in
theorem Same_one2 (A : Addr) (R : Option Addr) (w : World) (h : NoG w R) (k : Calls Tryd.prog 18 #[.pointer (some A)] w fun e w' => e = .returned (.bool false) ∧ w' = w) : Calls Tryd.prog 14 #[.pointer (some A), .pointer R] w fun e w' => e = .returned (.bool false) ∧ w' = w := by
  have c := h.is
  rcases h with rfl | ⟨Z, rfl, hr⟩
  all_goals
    try clear hr
    go_enter Tryd.func14, Tryd.ntmps14
    go_wp2_with (go_at_call 18; refine k.mono ?_; refine unhid ?_)
    refine hid ?_
    rintro e w' ⟨rfl, hw⟩; rw [hw]; clear hw
    go_wp2_with (go_at_call 18; refine c.mono ?_; refine unhid ?_)
    refine hid ?_
    rintro e w' ⟨rfl, hw⟩; rw [hw]; clear hw
    go_wp2_with (go_at_call 18; refine k.mono ?_; refine unhid ?_)
    refine hid ?_
    rintro e w' ⟨rfl, hw⟩; rw [hw]; clear hw
    go_wp2_with fail
    refine bodyPost_ret (results_tmp rfl _ _ _) rfl ?_
    exact ⟨rfl, rfl⟩
end Go.Proofs.YtlkhmfmocegekaaDoor
/- laws of layer 9: an operation of a thread, and a list of such. -/
set_option linter.unusedVariables false
namespace Go.Proofs.YtlkhmfmocegekaaDoor
open Go.RowKit Go.Gr Go.Sh Go.Oq
abbrev actC (t : Int) (f : Nat → Int) : Array Value := #[.int .i64 t, .int .i64 (f 0), .int .i64 (f 1), .int .i64 (f 2), .int .i64 (f 3), .int .i64 (f 4), .int .i64 (f 5), .int .i64 (f 6), .int .i64 (f 7)]
abbrev actV (t : Int) (f : Nat → Int) : Value := .agg (actC t f)
abbrev Actn := Int × (Nat → Int)
/-- The nine cells. -/
abbrev ActS (b g : Nat) (t : Int) (f : Nat → Int) (W : World) : Prop :=
  W.cell? ⟨b, g, none⟩ = some (.int .i64 t) ∧ W.cell? ⟨b, g + 1, none⟩ = some (.int .i64 (f 0)) ∧ W.cell? ⟨b, g + 2, none⟩ = some (.int .i64 (f 1)) ∧ W.cell? ⟨b, g + 3, none⟩ = some (.int .i64 (f 2)) ∧ W.cell? ⟨b, g + 4, none⟩ = some (.int .i64 (f 3)) ∧
  W.cell? ⟨b, g + 5, none⟩ = some (.int .i64 (f 4)) ∧ W.cell? ⟨b, g + 6, none⟩ = some (.int .i64 (f 5)) ∧ W.cell? ⟨b, g + 7, none⟩ = some (.int .i64 (f 6)) ∧ W.cell? ⟨b, g + 8, none⟩ = some (.int .i64 (f 7))
theorem actS_below {b g : Nat} {t : Int} {f : Nat → Int} {W W' : World} (h : ActS b g t f W) (bw : Below W.heap.size W W') : ActS b g t f W' := by
  obtain ⟨h0, h1, h2, h3, h4, h5, h6, h7, h8⟩ := h
  exact ⟨hcell_below' h0 bw, hcell_below' h1 bw, hcell_below' h2 bw, hcell_below' h3 bw, hcell_below' h4 bw, hcell_below' h5 bw, hcell_below' h6 bw, hcell_below' h7 bw, hcell_below' h8 bw⟩
def actAt (l : List Actn) (i : Nat) : Actn := l.getD i (0, fun _ => 0)
/-- A list of operations of threads. -/
structure IsActs (W : World) (a : Option Addr) (l : List Actn) : Prop where
  cel : ∀ i, i < l.length → ∃ b off, a = some ⟨b, off, none⟩ ∧ ActS b (off + i * 9) (actAt l i).1 (actAt l i).2 W
  rng : ∀ i, i < l.length → rng (actAt l i).2
theorem IsActs.below {W W' : World} {a : Option Addr} {l : List Actn} (h : IsActs W a l) (k : Below W.heap.size W W') : IsActs W' a l :=
  ⟨fun i hi => by obtain ⟨b, off, e, h1⟩ := h.cel i hi; exact ⟨b, off, e, actS_below h1 k⟩, h.rng⟩
theorem acts_of {W : World} {a : Option Addr} {len : Nat} (h : ∀ i, i < len → ∃ (b off : Nat) (t : Int) (f : Nat → Int), a = some ⟨b, off, none⟩ ∧ ActS b (off + i * 9) t f W ∧ rng f) : ∃ l : List Actn, l.length = len ∧ IsActs W a l := by
  have hc : ∀ i : Fin len, ∃ p : Actn, ∃ (b off : Nat), a = some ⟨b, off, none⟩ ∧ ActS b (off + i.val * 9) p.1 p.2 W ∧ rng p.2 := fun i => by
    obtain ⟨b, off, t, f, e, h1, h2⟩ := h i.val i.isLt
    exact ⟨(t, f), b, off, e, h1, h2⟩
  obtain ⟨g, hg⟩ := Classical.skolem.1 hc
  have hl : (List.ofFn g).length = len := by simp
  have ha : ∀ i (hi : i < len), actAt (List.ofFn g) i = g ⟨i, hi⟩ := fun i hi => by
    unfold actAt
    rw [List.getD_eq_getElem?_getD, List.getElem?_eq_getElem (by rw [hl]; exact hi)]
    simp
  refine ⟨List.ofFn g, hl, fun i hi => ?_, fun i hi => ?_⟩
  · have hi' : i < len := by rwa [hl] at hi
    obtain ⟨b, off, e, h1, _⟩ := hg ⟨i, hi'⟩
    exact ⟨b, off, e, by rw [ha i hi']; exact h1⟩
  · have hi' : i < len := by rwa [hl] at hi
    obtain ⟨b, off, e, _, h2⟩ := hg ⟨i, hi'⟩
    rw [ha i hi']
    exact h2
end Go.Proofs.YtlkhmfmocegekaaDoor
