/- laws of layer 9: GraphNil. Typed by tools/gen09n1.py. -/
import Derived.Test.YtlkhmfmocegekaaDoorGrYOn
import Derived.Test.YtlkhmfmocegekaaDoorOpNumOn
import Derived.Test.YtlkhmfmocegekaaDoorOpOnly
import Derived.Stop.LaidErr
import Derived.Lib.LaidTab
import Derived.Lib.SmallJoins
set_option linter.unusedVariables false
namespace Go.Proofs.YtlkhmfmocegekaaDoor
open Go.RowKit Go.Gr Go.Sh Go.Oq Go.Ly



theorem tab_p (w : World) (x : ByteArray) (t : TypeId) : IsTab (w.alloc (.cells #[.string x] t)) (.slice (some ⟨w.heap.size, 0, none⟩) 1 1) [x] := tab_one w x t
set_option maxRecDepth 100000 in
set_option maxHeartbeats 8000000 in
theorem graphNil_walk (t : Int) (f : Nat → Int) (w : World) : Calls Tryd.prog 4 #[actV t f] w fun e w' => e = .returned (.bool true) ∧ Below w.heap.size w w' := by
  obtain ⟨W0, hW0⟩ : ∃ W, W = (w.alloc (.cells (actC t f) 30)).alloc (.cells zrow 48) := ⟨_, rfl⟩
  have hA0 : W0.heap[w.heap.size]? = some (.cells (actC t f) 30) := by rw [hW0]; exact row2a (Below.refl _ _)
  have hZ0 : W0.heap[w.heap.size + 1]? = some (.cells zrow 48) := by rw [hW0]; exact row2b (Below.refl _ _)
  have b0 : Below w.heap.size w W0 := by rw [hW0]; exact bel2 (Below.refl _ _)
  have HW0 := hid hW0
  have c0 := Do_none' f t none W0 (.inl rfl)
  rw [hW0] at c0
  have HA0 := hid hA0
  have HZ0 := hid hZ0
  have HB0 := hid b0
  clear hW0 hA0 hZ0 b0
  go_enter Tryd.func4, Tryd.ntmps4
  go_wp2_with (go_at_call 9; refine c0.mono ?_; refine unhid ?_)
  refine hid ?_
  rintro e w1 ⟨rfl, b1⟩
  rw [← HW0.out] at b1
  obtain ⟨W1, hW1⟩ : ∃ W, W = w1.alloc (goutO 0 false 0) := ⟨_, rfl⟩
  have b1' : Below W0.heap.size W0 W1 := by rw [hW1]; exact b1.alloc b1.size _
  have HA1 := hid ((b1'.block _ (row_lt HA0.out)).trans HA0.out)
  have HZ1 := hid ((b1'.block _ (row_lt HZ0.out)).trans HZ0.out)
  have HB1 := hid (HB0.out.trans (b1'.mono HB0.out.size))
  have HO1 := hid (show W1.heap[w1.heap.size]? = some (goutO 0 false 0) by rw [hW1]; exact heap_alloc_last _ _)
  have HW1 := hid hW1
  have c1 := Do_none' f t (some ⟨w.heap.size + 1, 0, none⟩) W1 (.inr ⟨_, rfl, HZ1.out⟩)
  rw [hW1] at c1
  have a0 := at_row HA1.out 0 (v := .int .i64 (t)) rfl
  have a1 := at_row HA1.out 1 (v := .int .i64 (f 0)) rfl
  have a2 := at_row HA1.out 2 (v := .int .i64 (f 1)) rfl
  have a3 := at_row HA1.out 3 (v := .int .i64 (f 2)) rfl
  have a4 := at_row HA1.out 4 (v := .int .i64 (f 3)) rfl
  have a5 := at_row HA1.out 5 (v := .int .i64 (f 4)) rfl
  have a6 := at_row HA1.out 6 (v := .int .i64 (f 5)) rfl
  have a7 := at_row HA1.out 7 (v := .int .i64 (f 6)) rfl
  have a8 := at_row HA1.out 8 (v := .int .i64 (f 7)) rfl
  rw [hW1] at a0 a1 a2 a3 a4 a5 a6 a7 a8
  clear hW1 b1 b1' HA0 HZ0 HB0 c0 HW0
  go_wp2_with (go_at_call 9; refine c1.mono ?_; refine unhid ?_)
  refine hid ?_
  rintro e w2 ⟨rfl, b2⟩
  rw [← HW1.out] at b2
  clear a0 a1 a2 a3 a4 a5 a6 a7 a8 c1
  obtain ⟨W2, hW2⟩ : ∃ W, W = w2.alloc (goutO 0 false 0) := ⟨_, rfl⟩
  have b2' : Below W1.heap.size W1 W2 := by rw [hW2]; exact b2.alloc b2.size _
  have HZ2 := hid ((b2'.block _ (row_lt HZ1.out)).trans HZ1.out)
  have HB2 := hid (HB1.out.trans (b2'.mono HB1.out.size))
  have HO2 := hid ((b2'.block _ (row_lt HO1.out)).trans HO1.out)
  have HQ2 := hid (show W2.heap[w2.heap.size]? = some (goutO 0 false 0) by rw [hW2]; exact heap_alloc_last _ _)
  have HW2 := hid hW2
  have bt := below_alloc0 W2 (.cells #[.string ⟨#[112]⟩] 49)
  have cN := New_ok 1 32 _ 1 1 [⟨#[112]⟩] _ (tab_one W2 ⟨#[112]⟩ 49) (by decide +kernel)
  have HBT := hid bt
  rw [hW2, size_alloc] at cN
  clear hW2 b2 b2' HA1 HZ1 HB1 HO1 bt
  go_wp2_with (go_at_call 5; refine cN.mono ?_; refine unhid ?_)
  refine hid ?_
  rintro e W3 ⟨γ, rfl, i3, b3, _, _, _⟩
  rw [← HW2.out] at b3
  have b3' := HBT.out.trans (b3.mono (by simp))
  have HG := hid i3
  have HZ3 := hid ((b3'.block _ (row_lt HZ2.out)).trans HZ2.out)
  have HB3 := hid (HB2.out.trans (b3'.mono HB2.out.size))
  have o3 := (b3'.block _ (row_lt HO2.out)).trans HO2.out
  have q3 := (b3'.block _ (row_lt HQ2.out)).trans HQ2.out
  have e0 := at_row o3 0 (v := .int .i64 0) rfl
  have e1 := at_row o3 1 (v := .bool false) rfl
  have e2 := at_row o3 2 (v := .int .i64 0) rfl
  have g0 := at_row q3 0 (v := .int .i64 0) rfl
  have g1 := at_row q3 1 (v := .bool false) rfl
  have g2 := at_row q3 2 (v := .int .i64 0) rfl
  clear cN i3 b3 b3' o3 q3 HB2 HZ2 HO2 HQ2 HBT
  obtain ⟨G, hG⟩ : ∃ G, γ.G = G := ⟨_, rfl⟩
  rw [hG]
  have HGG := hid hG
  clear hG
  go_wp2_with (first | (go_at_call 7; refine (gnum_any _ _).mono ?_; rintro e w' ⟨rfl, hw⟩; rw [hw]; clear hw))
  have hf0 : ∀ W, (Instr.field 53 (vwV (.slice none 0 0) (.slice none 0 0)) 0).run Tryd.prog W = .ok (.slice none 0 0) W := fun W => vfield0 _ _ none 0 none 0 0 0 rfl rfl W
  have hf1 : ∀ W, (Instr.field 53 (vwV (.slice none 0 0) (.slice none 0 0)) 1).run Tryd.prog W = .ok (.slice none 0 0) W := fun W => vfield1 _ _ none 0 none 0 0 0 rfl rfl W
  have HZ := HZ3
  have HB := HB3
  clear HZ3 HB3
  have cc1 := View_none none W3 (.inl rfl)
  go_wp2_with (go_at_call 11; refine cc1.mono ?_; refine unhid ?_)
  refine hid ?_
  clear cc1
  rintro e V1 ⟨rfl, b1⟩
  replace HZ := hid ((b1.block _ (row_lt HZ.out)).trans HZ.out)
  replace HB := hid (HB.out.trans (b1.mono HB.out.size))
  replace HG := hid (HG.out.below b1)
  clear b1
  have cc2 := View_none (some ⟨w.heap.size + 1, 0, none⟩) V1 (.inr ⟨_, rfl, HZ.out⟩)
  go_wp2_with (go_at_call 11; refine cc2.mono ?_; refine unhid ?_)
  refine hid ?_
  clear cc2
  rintro e V2 ⟨rfl, b2⟩
  replace HZ := hid ((b2.block _ (row_lt HZ.out)).trans HZ.out)
  replace HB := hid (HB.out.trans (b2.mono HB.out.size))
  replace HG := hid (HG.out.below b2)
  clear b2
  have cc3 := Words_none none V2 (.inl rfl)
  go_wp2_with (go_at_call 12; refine cc3.mono ?_; refine unhid ?_)
  refine hid ?_
  clear cc3
  rintro e V3 ⟨rfl, b3⟩
  replace HZ := hid ((b3.block _ (row_lt HZ.out)).trans HZ.out)
  replace HB := hid (HB.out.trans (b3.mono HB.out.size))
  replace HG := hid (HG.out.below b3)
  clear b3
  have cc4 := Words_none (some ⟨w.heap.size + 1, 0, none⟩) V3 (.inr ⟨_, rfl, HZ.out⟩)
  go_wp2_with (go_at_call 12; refine cc4.mono ?_; refine unhid ?_)
  refine hid ?_
  clear cc4
  rintro e V4 ⟨rfl, b4⟩
  replace HZ := hid ((b4.block _ (row_lt HZ.out)).trans HZ.out)
  replace HB := hid (HB.out.trans (b4.mono HB.out.size))
  replace HG := hid (HG.out.below b4)
  clear b4
  have cc5 := Made_none none V4 (.inl rfl)
  go_wp2_with (go_at_call 13; refine cc5.mono ?_; refine unhid ?_)
  refine hid ?_
  clear cc5
  rintro e V5 ⟨rfl, hw⟩
  rw [hw]
  clear hw V5
  have cc6 := Made_none (some ⟨w.heap.size + 1, 0, none⟩) V4 (.inr ⟨_, rfl, HZ.out⟩)
  go_wp2_with (go_at_call 13; refine cc6.mono ?_; refine unhid ?_)
  refine hid ?_
  clear cc6
  rintro e V6 ⟨rfl, hw⟩
  rw [hw]
  clear hw V6
  have cc7 := Copy_none none V4 (.inl rfl)
  go_wp2_with (go_at_call 10; refine cc7.mono ?_; refine unhid ?_)
  refine hid ?_
  clear cc7
  rintro e V7 ⟨rfl, hw⟩
  rw [hw]
  clear hw V7
  have cc8 := Copy_none (some ⟨w.heap.size + 1, 0, none⟩) V4 (.inr ⟨_, rfl, HZ.out⟩)
  go_wp2_with (go_at_call 10; refine cc8.mono ?_; refine unhid ?_)
  refine hid ?_
  clear cc8
  rintro e V8 ⟨rfl, hw⟩
  rw [hw]
  clear hw V8
  have cc9 := Same_both none (some ⟨w.heap.size + 1, 0, none⟩) V4 (.inl rfl) (.inr ⟨_, rfl, HZ.out⟩)
  go_wp2_with (go_at_call 14; refine cc9.mono ?_; refine unhid ?_)
  refine hid ?_
  clear cc9
  rintro e V9 ⟨rfl, hw⟩
  rw [hw]
  clear hw V9
  have hni := HG.out.none_no
  rw [HGG.out] at hni
  have cc10 := Same_one none ⟨G, 0, none⟩ V4 (.inl rfl) hni
  go_wp2_with (go_at_call 14; refine cc10.mono ?_; refine unhid ?_)
  refine hid ?_
  clear cc10
  rintro e V10 ⟨rfl, hw⟩
  rw [hw]
  clear hw V10
  have cc11 := Same_one2 ⟨G, 0, none⟩ (some ⟨w.heap.size + 1, 0, none⟩) V4 (.inr ⟨_, rfl, HZ.out⟩) hni
  go_wp2_with (go_at_call 14; refine cc11.mono ?_; refine unhid ?_)
  refine hid ?_
  clear cc11
  rintro e V11 ⟨rfl, hw⟩
  rw [hw]
  clear hw V11
  clear hni
  have cc12 := gworks_any V4
  go_wp2_with (go_at_call 8; refine cc12.mono ?_; refine unhid ?_)
  refine hid ?_
  clear cc12
  rintro e V12 ⟨rfl, b12⟩
  replace HZ := hid ((b12.block _ (row_lt HZ.out)).trans HZ.out)
  replace HB := hid (HB.out.trans (b12.mono HB.out.size))
  replace HG := hid (HG.out.below b12)
  clear b12
  go_wp2_with fail
  refine bodyPost_ret (results_tmp rfl _ _ _) rfl ?_
  exact ⟨rfl, HB.out⟩
end Go.Proofs.YtlkhmfmocegekaaDoor
/- rows of layer 8: what is laid; operations opened. -/
namespace Go.Proofs.YtlkhmfmocegekaaDoor
open Go.RowKit Go.Oq Go.ChangeShapes Go.WideShapes Go.Joins
set_option linter.constructorNameAsVariable false
theorem tab8_of_laid {W : World} {rest : List (String × DataW Unit)} (h : laidMet Tryd.prog (("internal/strconv.uint64pow10", Lib.tabData .u64 Lib.pow10Tab) :: rest) W) : Tab W :=
  Lib.tabIs_of_head (k := .u64) (zs := Lib.pow10Tab) (n := 20) (e := 168) (t := 175) (show Tryd.prog.globalNamed "internal/strconv.uint64pow10" = some 0 by kernel_rfl) (by kernel_rfl) Tryd.underlying175 Tryd.underlying168 (by kernel_rfl) (by kernel_rfl) h
theorem estar : "*" ++ "errors.errorString" = "*errors.errorString" := by decide
theorem list8 {α : Type} {cs : List α} (h : cs.length = 8) : ∃ c0 c1 c2 c3 c4 c5 c6 c7, cs = [c0, c1, c2, c3, c4, c5, c6, c7] := by
  match cs, h with
  | [c0, c1, c2, c3, c4, c5, c6, c7], _ => exact ⟨c0, c1, c2, c3, c4, c5, c6, c7, rfl⟩
theorem wf64 {n : Int} (h : (Lit.int .i64 n).wf = true) : -9223372036854775808 ≤ n ∧ n ≤ 9223372036854775807 := by
  simp [Lit.wf, IntKind.min, IntKind.max, IntKind.signed, IntKind.bits] at h
  omega
/-- Eight numbers as a function. -/
def fn8 (a b c d e f g h : Int) : Nat → Int | 0 => a | 1 => b | 2 => c | 3 => d | 4 => e | 5 => f | 6 => g | _ => h
set_option maxRecDepth 100000 in
theorem op_cells {H : Type} {enc : TypeId × Value → H} {W : World} {base : Nat} {sp : Nat → Bool} {held : Bool} {fuel : Nat} {cs : List Value} {x : DataW H × List MemPlace} (h : DataW.trod enc Tryd.prog W base sp held fuel 28 cs = some x) : ∃ f, cs = (row f).toList ∧ rng f := by
  obtain ⟨xs, n, _, _, hl, hlen, hf⟩ := DataW.trod_struct Tryd.underlying28 h
  have h8 : cs.length = 8 := hl.trans (by kernel_rfl)
  obtain ⟨c0, c1, c2, c3, c4, c5, c6, c7, rfl⟩ := list8 h8
  obtain ⟨y0, y1, y2, y3, y4, y5, y6, y7, rfl⟩ := list8 (hlen.trans rfl)
  have q0 := hf 0 _ rfl
  have q1 := hf 1 _ rfl
  have q2 := hf 2 _ rfl
  have q3 := hf 3 _ rfl
  have q4 := hf 4 _ rfl
  have q5 := hf 5 _ rfl
  have q6 := hf 6 _ rfl
  have q7 := hf 7 _ rfl
  have p0 : DataW.trod enc Tryd.prog W base sp held n 26 [c0] = some y0 := q0
  obtain ⟨z0, e0, _, w0⟩ := DataW.trod_int Tryd.underlying26 p0
  have p1 : DataW.trod enc Tryd.prog W base sp held n 3 [c1] = some y1 := q1
  obtain ⟨z1, e1, _, w1⟩ := DataW.trod_int Tryd.underlying3 p1
  have p2 : DataW.trod enc Tryd.prog W base sp held n 3 [c2] = some y2 := q2
  obtain ⟨z2, e2, _, w2⟩ := DataW.trod_int Tryd.underlying3 p2
  have p3 : DataW.trod enc Tryd.prog W base sp held n 3 [c3] = some y3 := q3
  obtain ⟨z3, e3, _, w3⟩ := DataW.trod_int Tryd.underlying3 p3
  have p4 : DataW.trod enc Tryd.prog W base sp held n 3 [c4] = some y4 := q4
  obtain ⟨z4, e4, _, w4⟩ := DataW.trod_int Tryd.underlying3 p4
  have p5 : DataW.trod enc Tryd.prog W base sp held n 3 [c5] = some y5 := q5
  obtain ⟨z5, e5, _, w5⟩ := DataW.trod_int Tryd.underlying3 p5
  have p6 : DataW.trod enc Tryd.prog W base sp held n 2 [c6] = some y6 := q6
  obtain ⟨z6, e6, _, w6⟩ := DataW.trod_int Tryd.underlying2 p6
  have p7 : DataW.trod enc Tryd.prog W base sp held n 2 [c7] = some y7 := q7
  obtain ⟨z7, e7, _, w7⟩ := DataW.trod_int Tryd.underlying2 p7
  simp only [List.cons.injEq, and_true] at e0 e1 e2 e3 e4 e5 e6 e7
  subst e0 e1 e2 e3 e4 e5 e6 e7
  refine ⟨fn8 z0 z1 z2 z3 z4 z5 z6 z7, rfl, fun i hi => ?_⟩
  have : i = 0 ∨ i = 1 ∨ i = 2 ∨ i = 3 ∨ i = 4 ∨ i = 5 ∨ i = 6 ∨ i = 7 := by omega
  rcases this with rfl | rfl | rfl | rfl | rfl | rfl | rfl | rfl
  · exact wf64 w0
  · exact wf64 w1
  · exact wf64 w2
  · exact wf64 w3
  · exact wf64 w4
  · exact wf64 w5
  · exact wf64 w6
  · exact wf64 w7
set_option maxRecDepth 100000 in
theorem op_open {H : Type} {enc : TypeId × Value → H} {W : World} {sp : Nat → Bool} {held : Bool} {r : Reach} {b0 : Nat} {v : Value} {d : DataW H} {p : List MemPlace} (hv : Value.okWide Tryd.prog W r b0 28 v) (h : DataW.Trod enc Tryd.prog W 0 sp held 28 v d p) : ∃ f, v = opV f ∧ rng f := by
  obtain ⟨cs, rfl, hsz⟩ := okWide_struct Tryd.underlying28 hv
  obtain ⟨fuel, hf⟩ := h
  obtain ⟨f, e, hr⟩ := op_cells hf
  refine ⟨f, ?_, hr⟩
  have e : cs.toList = (row f).toList := e
  have : cs = row f := by rw [← Array.toArray_toList (xs := cs), e]
  rw [this]
end Go.Proofs.YtlkhmfmocegekaaDoor
/- From the rows' data to an operation of a thread, to a list of such. -/
set_option linter.unusedVariables false
namespace Go.Proofs.YtlkhmfmocegekaaDoor
open Go.ChangeShapes Go.WideShapes Go.ChangeAt Go.WideMaps Go.WideElems Go.RowKit Go.Joins Go.Oq
theorem list9 {α : Type} {cs : List α} (h : cs.length = 9) : ∃ c0 c1 c2 c3 c4 c5 c6 c7 c8, cs = [c0, c1, c2, c3, c4, c5, c6, c7, c8] := by
  match cs, h with
  | [c0, c1, c2, c3, c4, c5, c6, c7, c8], _ => exact ⟨c0, c1, c2, c3, c4, c5, c6, c7, c8, rfl⟩
set_option maxRecDepth 100000 in
theorem act_cells {H : Type} {enc : TypeId × Value → H} {W : World} {base : Nat} {sp : Nat → Bool} {held : Bool} {fuel : Nat} {cs : List Value} {x : DataW H × List MemPlace} (h : DataW.trod enc Tryd.prog W base sp held fuel 30 cs = some x) : ∃ t f, cs = (actC t f).toList ∧ rng f := by
  obtain ⟨xs, n, _, _, hl, hlen, hf⟩ := DataW.trod_struct Tryd.underlying30 h
  have h9 : cs.length = 9 := hl.trans (by kernel_rfl)
  obtain ⟨c0, c1, c2, c3, c4, c5, c6, c7, c8, rfl⟩ := list9 h9
  obtain ⟨y0, y1, rfl⟩ : ∃ y0 y1, xs = [y0, y1] := by
    have h2 : xs.length = 2 := hlen.trans rfl
    match xs, h2 with
    | [y0, y1], _ => exact ⟨y0, y1, rfl⟩
  have q0 : DataW.trod enc Tryd.prog W base sp held n 3 [c0] = some y0 := hf 0 _ rfl
  have q1 : DataW.trod enc Tryd.prog W base sp held n 28 [c1, c2, c3, c4, c5, c6, c7, c8] = some y1 := hf 1 _ rfl
  obtain ⟨t, e0, _, _⟩ := DataW.trod_int Tryd.underlying3 q0
  obtain ⟨f, e1, hr⟩ := op_cells q1
  simp at e0
  subst e0
  refine ⟨t, f, ?_, hr⟩
  have e2 : ([c1, c2, c3, c4, c5, c6, c7, c8] : List Value) = [.int .i64 (f 0), .int .i64 (f 1), .int .i64 (f 2), .int .i64 (f 3), .int .i64 (f 4), .int .i64 (f 5), .int .i64 (f 6), .int .i64 (f 7)] := e1
  rw [e2]
set_option maxRecDepth 100000 in
theorem act_open {H : Type} {enc : TypeId × Value → H} {W : World} {sp : Nat → Bool} {held : Bool} {r : Reach} {b0 : Nat} {v : Value} {d : DataW H} {p : List MemPlace} (hv : Value.okWide Tryd.prog W r b0 30 v) (h : DataW.Trod enc Tryd.prog W 0 sp held 30 v d p) : ∃ t f, v = actV t f ∧ rng f := by
  obtain ⟨cs, rfl, hsz⟩ := okWide_struct Tryd.underlying30 hv
  obtain ⟨fuel, hf⟩ := h
  obtain ⟨t, f, e, hr⟩ := act_cells hf
  refine ⟨t, f, ?_, hr⟩
  have e : cs.toList = (actC t f).toList := e
  have : cs = actC t f := by rw [← Array.toArray_toList (xs := cs), e]
  rw [this]
set_option maxRecDepth 100000 in
theorem acts_open {H : Type} {enc : TypeId × Value → H} {W : World} {held : Bool} {a : Option Addr} {len cap fuel : Nat} {x : DataW H × List MemPlace}
    (h : DataW.trod enc Tryd.prog W 0 (fun _ => true) held fuel 25 (Value.slice a len cap).cells.toList = some x) : ∃ l : List Actn, l.length = len ∧ IsActs W a l := by
  refine acts_of ?_
  rcases Deep.open_slice Tryd.underlying25 h with ⟨hcs, _⟩ | ⟨ad, len', cap', m, n, D, Pl, hcs, _, hl, _, hm, _, hel⟩
  · simp [Value.cells] at hcs
    intro i hi
    omega
  · simp [Value.cells] at hcs
    obtain ⟨rfl, rfl, rfl⟩ := hcs
    intro i hi
    rw [if_pos rfl] at hm
    subst hm
    have ce : Tryd.prog.cellsOf 30 = 9 := by kernel_rfl
    obtain ⟨cs', h1, h2⟩ := hel i (by omega)
    rw [ce] at h1
    obtain ⟨_, hlen, hcell⟩ := World.cells?_some h1
    obtain ⟨t, f, rfl, hr⟩ := act_cells h2
    have e0 := hcell 0 (by omega)
    have e1 := hcell 1 (by omega)
    have e2 := hcell 2 (by omega)
    have e3 := hcell 3 (by omega)
    have e4 := hcell 4 (by omega)
    have e5 := hcell 5 (by omega)
    have e6 := hcell 6 (by omega)
    have e7 := hcell 7 (by omega)
    have e8 := hcell 8 (by omega)
    rw [Deep.add_add] at e0 e1 e2 e3 e4 e5 e6 e7 e8
    have hsp : ∃ v, W.cell? ((ad.add 0).add 0) = some v := by
      obtain ⟨cs0, h1, _⟩ := hel 0 (by omega)
      obtain ⟨_, hlen, hcell⟩ := World.cells?_some h1
      rw [Nat.zero_mul] at hcell
      rw [ce] at hlen hcell
      exact ⟨cs0[0]'(by omega), by rw [hcell 0 (by omega)]; exact List.getElem?_eq_getElem _⟩
    obtain ⟨b, off, spot⟩ := ad
    obtain ⟨_, hsp⟩ := hsp
    have hspot : spot = none := by simpa [Addr.add] using World.cell?_spot hsp
    subst hspot
    have ha : ∀ j, (⟨b, off, none⟩ : Addr).add j = ⟨b, off + j, none⟩ := fun j => by unfold Addr.add; split <;> simp_all
    rw [ha] at e0 e1 e2 e3 e4 e5 e6 e7 e8
    exact ⟨b, off, t, f, rfl, ⟨e0.trans rfl, by rw [Nat.add_assoc]; exact e1.trans rfl, by rw [Nat.add_assoc]; exact e2.trans rfl, by rw [Nat.add_assoc]; exact e3.trans rfl, by rw [Nat.add_assoc]; exact e4.trans rfl, by rw [Nat.add_assoc]; exact e5.trans rfl, by rw [Nat.add_assoc]; exact e6.trans rfl, by rw [Nat.add_assoc]; exact e7.trans rfl, by rw [Nat.add_assoc]; exact e8.trans rfl⟩, hr⟩
end Go.Proofs.YtlkhmfmocegekaaDoor
