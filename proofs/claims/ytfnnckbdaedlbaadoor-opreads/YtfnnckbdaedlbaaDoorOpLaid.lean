/- rows of layer 8: what is laid; operations opened. -/
import Derived.Test.YtfnnckbdaedlbaaDoorOpNum
import Derived.Test.YtfnnckbdaedlbaaDoorOpOnly
import Derived.Stop.LaidErr
import Derived.Lib.LaidTab
import Derived.Lib.SmallJoins
namespace Go.Proofs.YtfnnckbdaedlbaaDoor
open Go.RowKit Go.Oq Go.ChangeShapes Go.WideShapes Go.Joins
set_option linter.constructorNameAsVariable false
theorem tab8_of_laid {W : World} {rest : List (String × DataW Unit)} (h : laidMet Tryd.prog (("internal/strconv.uint64pow10", Lib.tabData .u64 Lib.pow10Tab) :: rest) W) : Tab W :=
  Lib.tabIs_of_head (k := .u64) (zs := Lib.pow10Tab) (n := 20) (e := 122) (t := 155) (show Tryd.prog.globalNamed "internal/strconv.uint64pow10" = some 0 by kernel_rfl) (by kernel_rfl) Tryd.underlying155 Tryd.underlying122 (by kernel_rfl) (by kernel_rfl) h
theorem estar : "*" ++ "errors.errorString" = "*errors.errorString" := by decide
theorem estr_row (u : TypeId) (h : Tryd.prog.typeName? 3 u = some "*errors.errorString") : u = 167 :=
  typeName_ptr_named (nm := "errors.errorString") (by rw [estar]; kernel_rfl) (by kernel_rfl) (by decide) u (by rw [estar]; exact h)
theorem err_of_laid {W : World} {n : String} {g : Nat} {text : List UInt8} {rest : List (String × DataW Unit)} (h : laidMet Tryd.prog ((n, .iface "*errors.errorString" (.ptr (.agg [.lit (.string text)]))) :: rest) W)
    (hg : Tryd.prog.globalNamed n = some g) (ht : (Tryd.prog.globals[g]?).map (·.type) = some 112) : ∃ ev, W.cell? ⟨g, 0, none⟩ = some ev ∧ ∃ te pe, ev = .iface te pe := by
  obtain ⟨a, s, hv, _⟩ := laid_sentinel h hg ht Tryd.underlying112 estr_row Tryd.underlying167 Tryd.underlying169 rfl rfl Tryd.underlying9 (by kernel_rfl) (by kernel_rfl)
  exact ⟨_, by simpa using World.var?_cell hg hv 0, _, _, rfl⟩
theorem lib3_of_laid {W : World} {r1 r2 : String × DataW Unit} {t1 t2 : List UInt8}
    (h : laidMet Tryd.prog [r1, r2, ("internal/strconv.uint64pow10", Lib.tabData .u64 Lib.pow10Tab), ("strconv.ErrRange", .iface "*errors.errorString" (.ptr (.agg [.lit (.string t1)]))), ("strconv.ErrSyntax", .iface "*errors.errorString" (.ptr (.agg [.lit (.string t2)])))] W) : Lib3 W :=
  ⟨tab8_of_laid h.tail.tail, err_of_laid h.tail.tail.tail.tail (by kernel_rfl) (by kernel_rfl), err_of_laid h.tail.tail.tail (by kernel_rfl) (by kernel_rfl)⟩
theorem list8 {α : Type} {cs : List α} (h : cs.length = 8) : ∃ c0 c1 c2 c3 c4 c5 c6 c7, cs = [c0, c1, c2, c3, c4, c5, c6, c7] := by
  match cs, h with
  | [c0, c1, c2, c3, c4, c5, c6, c7], _ => exact ⟨c0, c1, c2, c3, c4, c5, c6, c7, rfl⟩
theorem wf64 {n : Int} (h : (Lit.int .i64 n).wf = true) : -9223372036854775808 ≤ n ∧ n ≤ 9223372036854775807 := by
  simp [Lit.wf, IntKind.min, IntKind.max, IntKind.signed, IntKind.bits] at h
  omega
/-- Eight numbers as a function. -/
def fn8 (a b c d e f g h : Int) : Nat → Int | 0 => a | 1 => b | 2 => c | 3 => d | 4 => e | 5 => f | 6 => g | _ => h
set_option maxRecDepth 100000 in
theorem op_cells {H : Type} {enc : TypeId × Value → H} {W : World} {base : Nat} {sp : Nat → Bool} {held : Bool} {fuel : Nat} {cs : List Value} {x : DataW H × List MemPlace} (h : DataW.trod enc Tryd.prog W base sp held fuel 31 cs = some x) : ∃ f, cs = (row f).toList ∧ rng f := by
  obtain ⟨xs, n, _, _, hl, hlen, hf⟩ := DataW.trod_struct Tryd.underlying31 h
  have h8 : cs.length = 8 := hl.trans (by kernel_rfl)
  obtain ⟨c0, c1, c2, c3, c4, c5, c6, c7, rfl⟩ := list8 h8
  obtain ⟨y0, y1, y2, y3, y4, y5, y6, y7, rfl⟩ := list8 (hlen.trans rfl)
  have q0 := hf 0 _ rfl
  have q1 := hf 1 _ rfl
  have q2 := hf 2 _ rfl
  have q3 := hf 3 _ rfl
  have q4 := hf 4 _ rfl
  have q5 := hf 5 _ rfl
  have q6 := hf 6 _ rfl
  have q7 := hf 7 _ rfl
  have p0 : DataW.trod enc Tryd.prog W base sp held n 29 [c0] = some y0 := q0
  obtain ⟨z0, e0, _, w0⟩ := DataW.trod_int Tryd.underlying29 p0
  have p1 : DataW.trod enc Tryd.prog W base sp held n 3 [c1] = some y1 := q1
  obtain ⟨z1, e1, _, w1⟩ := DataW.trod_int Tryd.underlying3 p1
  have p2 : DataW.trod enc Tryd.prog W base sp held n 3 [c2] = some y2 := q2
  obtain ⟨z2, e2, _, w2⟩ := DataW.trod_int Tryd.underlying3 p2
  have p3 : DataW.trod enc Tryd.prog W base sp held n 3 [c3] = some y3 := q3
  obtain ⟨z3, e3, _, w3⟩ := DataW.trod_int Tryd.underlying3 p3
  have p4 : DataW.trod enc Tryd.prog W base sp held n 3 [c4] = some y4 := q4
  obtain ⟨z4, e4, _, w4⟩ := DataW.trod_int Tryd.underlying3 p4
  have p5 : DataW.trod enc Tryd.prog W base sp held n 3 [c5] = some y5 := q5
  obtain ⟨z5, e5, _, w5⟩ := DataW.trod_int Tryd.underlying3 p5
  have p6 : DataW.trod enc Tryd.prog W base sp held n 2 [c6] = some y6 := q6
  obtain ⟨z6, e6, _, w6⟩ := DataW.trod_int Tryd.underlying2 p6
  have p7 : DataW.trod enc Tryd.prog W base sp held n 2 [c7] = some y7 := q7
  obtain ⟨z7, e7, _, w7⟩ := DataW.trod_int Tryd.underlying2 p7
  simp only [List.cons.injEq, and_true] at e0 e1 e2 e3 e4 e5 e6 e7
  subst e0 e1 e2 e3 e4 e5 e6 e7
  refine ⟨fn8 z0 z1 z2 z3 z4 z5 z6 z7, rfl, fun i hi => ?_⟩
  have : i = 0 ∨ i = 1 ∨ i = 2 ∨ i = 3 ∨ i = 4 ∨ i = 5 ∨ i = 6 ∨ i = 7 := by omega
  rcases this with rfl | rfl | rfl | rfl | rfl | rfl | rfl | rfl
  · exact wf64 w0
  · exact wf64 w1
  · exact wf64 w2
  · exact wf64 w3
  · exact wf64 w4
  · exact wf64 w5
  · exact wf64 w6
  · exact wf64 w7
set_option maxRecDepth 100000 in
theorem op_open {H : Type} {enc : TypeId × Value → H} {W : World} {sp : Nat → Bool} {held : Bool} {r : Reach} {b0 : Nat} {v : Value} {d : DataW H} {p : List MemPlace} (hv : Value.okWide Tryd.prog W r b0 31 v) (h : DataW.Trod enc Tryd.prog W 0 sp held 31 v d p) : ∃ f, v = opV f ∧ rng f := by
  obtain ⟨cs, rfl, hsz⟩ := okWide_struct Tryd.underlying31 hv
  obtain ⟨fuel, hf⟩ := h
  obtain ⟨f, e, hr⟩ := op_cells hf
  refine ⟨f, ?_, hr⟩
  have e : cs.toList = (row f).toList := e
  have : cs = row f := by rw [← Array.toArray_toList (xs := cs), e]
  rw [this]
end Go.Proofs.YtfnnckbdaedlbaaDoor
