/- package graph: fresh: a new object. -/
import Derived.Test.YtlkhmfmocegekaaDoorGrA
import Derived.Test.YtlkhmfmocegekaaDoorShAll
import Derived.Test.YtlkhmfmocegekaaDoorShSizeOn
import Derived.RangeFuncBox
import Derived.Test.YtlkhmfmocegekaaDoorBsKit
import Derived.OrdersIn
import Derived.RangeFuncCalls
import Derived.TacticsIn
import Derived.Deep.RegionHeld3
set_option linter.unusedVariables false
namespace Go.Proofs.YtlkhmfmocegekaaDoor
open Go.RowKit Go.Gr Go.Sh Go.Oq
/-- So many new fields. -/
def zs : Nat → List Value
  | 0 => []
  | n + 1 => zs n ++ [.pointer none, .int .i64 0]
theorem zs_len (n : Nat) : (zs n).length = n * 2 := by
  induction n with
  | zero => rfl
  | succ n ih => simp [zs, ih]; omega
theorem zs_get (n f : Nat) (h : f < n) : (zs n)[2 * f]? = some (.pointer none) ∧ (zs n)[2 * f + 1]? = some (.int .i64 0) := by
  induction n with
  | zero => omega
  | succ n ih =>
    have hl := zs_len n
    by_cases e : f < n
    · obtain ⟨a, b⟩ := ih e
      simp only [zs]
      rw [List.getElem?_append_left (by omega), List.getElem?_append_left (by omega)]
      exact ⟨a, b⟩
    · obtain rfl : f = n := by omega
      simp only [zs]
      rw [List.getElem?_append_right (by omega), List.getElem?_append_right (by omega), hl, show 2 * f - f * 2 = 0 by omega, show 2 * f + 1 - f * 2 = 1 by omega]
      exact ⟨rfl, rfl⟩
theorem ginfo_field : (Tryd.prog.info? 86).map (fun i => (i.zero, i.size, i.bytes)) = some (some (.agg #[.pointer none, .int .i64 0]), 2, 16) := by kernel_rfl
/-- What the loop keeps: the object, the box that leads to it, the fields' own row. -/
structure FrI (w : World) (O B : Nat) (k : Int) (P : Value) (n : Nat) (v : Value) (W : World) : Prop where
  obj : W.heap[O]? = some (.cells #[.int .i64 k, v] 76)
  box : W.heap[B]? = some (.cells #[P] 60)
  own : W.ownsRow (B + 1) 86 2 v n (zs n)
  bel : Below w.heap.size w W
  ord : w.heap.size ≤ O ∧ O < B
theorem FrI.own' {w A W : World} {O B : Nat} {k : Int} {P v : Value} {n : Nat} {row : Option Nat} {C : Nat} (h : FrI w O B k P n v A) (hC : w.heap.size ≤ C) (hg : A.grownBy W row) (hr : ∀ r, row = some r → C ≤ r ∧ ∃ o : Obj, A.heap[r]? = some o ∧ o.isCells = false) : FrI w O B k P n v W := by
  have ne : ∀ {b : Nat} {cs : Array Value} {T : TypeId}, A.heap[b]? = some (.cells cs T) → some b ≠ row := fun hb e => by
    obtain ⟨_, o, ho, hc⟩ := hr _ e.symm
    rw [hb] at ho; cases ho; cases hc
  refine ⟨(hg.block _ (row_lt h.obj) (ne h.obj)).trans h.obj, (hg.block _ (row_lt h.box) (ne h.box)).trans h.box, h.own.kept hg ?_, h.bel.grown hg h.bel.size (fun k e => Nat.le_trans hC (hr k e).1), h.ord⟩
  rcases h.own.2 with ⟨rfl, _⟩ | ⟨g, cap, cur, rfl, _, hgb, _⟩
  · exact .inl rfl
  · exact .inr (fun e' => ne hgb (by simpa [Value.ownBlock] using e'))
/-- One field more. -/
theorem FrI.app {w W w7 : World} {O B : Nat} {k : Int} {P v v' : Value} {n : Nat} {tmp : Obj} (h : FrI w O B k P n v W) (hown : w7.ownsRow (B + 1) 86 2 v' (n + 1) (zs n ++ [.pointer none, .int .i64 0])) (hg : (W.alloc tmp).grownBy w7 v.ownBlock) :
    w7.heap[O]? = some (.cells #[.int .i64 k, v] 76) ∧ FrI w O B k P (n + 1) v' (w7.setCell ⟨O, 1, none⟩ v') ∧ KeepsOthers W (w7.setCell ⟨O, 1, none⟩ v') := by
  have hord := h.ord
  have hBl := row_lt h.box
  have ne : ∀ {b : Nat}, b ≤ B → some b ≠ v.ownBlock := fun hb e => by
    rcases h.own.2 with ⟨rfl, _⟩ | ⟨g, cap, cur, rfl, hlo, hgb, _⟩
    · simp [Value.ownBlock] at e
    · simp [Value.ownBlock] at e; omega
  have g1 : W.grownBy w7 v.ownBlock := (World.grownBy_alloc W tmp _).trans hg
  have hO := (g1.block O (row_lt h.obj) (ne (by omega))).trans h.obj
  have hB := (g1.block B (row_lt h.box) (ne (Nat.le_refl _))).trans h.box
  have k2 := wr_set w7 O 1 v'
  have g2 : w7.grownBy (w7.setCell ⟨O, 1, none⟩ v') (some O) := lgrown_set w7 O 1 v'
  refine ⟨hO, ⟨gset_row hO 1 v', k2.row hB (by omega), hown.kept g2 ?_, ?_, hord⟩, ?_⟩
  · rcases hown.2 with ⟨rfl, _⟩ | ⟨g, cap, cur, rfl, hlo, hgb, _⟩
    · exact .inl rfl
    · refine .inr (fun e => ?_); simp [Value.ownBlock] at e; omega
  · refine (h.bel.grown g1 h.bel.size (fun j e => ?_)).grown g2 (Nat.le_trans h.bel.size g1.size) (fun j e => by cases e; exact hord.1)
    rcases h.own.2 with ⟨rfl, _⟩ | ⟨g, cap, cur, rfl, hlo, hgb, _⟩
    · simp [Value.ownBlock] at e
    · simp [Value.ownBlock] at e; omega
  · refine (KeepsOthers.of_grownBy g1 (fun j o e ho => ?_)).trans (KeepsOthers.of_grownBy g2 (fun j o e ho => ?_))
    · rcases h.own.2 with ⟨rfl, _⟩ | ⟨g, cap, cur, rfl, hlo, hgb, _⟩
      · simp [Value.ownBlock] at e
      · simp [Value.ownBlock] at e
        subst e
        rw [hgb] at ho; cases ho; rfl
    · cases e
      rw [hO] at ho; cases ho; rfl
theorem gbel2 (w : World) (A B : Obj) : Below w.heap.size w ((w.alloc A).alloc B) := ((Below.refl _ w).alloc (Nat.le_refl _) _).alloc (by simp) _
theorem frI_start (w1 : World) (k : Nat) (z : Value) : FrI w1 w1.heap.size (w1.heap.size + 1) k (.pointer (some ⟨w1.heap.size, 0, none⟩)) 0 (.slice none 0 0) (((w1.alloc (.cells #[.int .i64 (k : Int), .slice none 0 0] 76)).alloc (.cells #[.pointer (some ⟨w1.heap.size, 0, none⟩)] 60)).alloc (.cells #[z] 49)) :=
  ⟨row3a (Below.refl _ _), row3b (Below.refl _ _), ⟨rfl, .inl ⟨rfl, rfl⟩⟩, bel3 (Below.refl _ _), Nat.le_refl _, by omega⟩
end Go.Proofs.YtlkhmfmocegekaaDoor
/- A region that draws its order, in a round of a range over a function: walked as anywhere else. -/
set_option linter.unusedVariables false
namespace Go.Proofs.YtlkhmfmocegekaaDoor
open Go.RowKit
def calm1 (o : Oper) : Bool := match o.op with
  | .defer _ => false
  | _ => true
variable {P : Program} {ops : Array Oper} {Q : Exit → Act → World → Prop} {md : Region.Mode} {S : World → Prop} {n l : Nat}
theorem oper_round {o : Oper} (hc : calm1 o = true) {a : Act} {w : World} {K : Act → World → Prop} (h : o.wp P a w K Q) : o.wpIn (Fence.wide.inRound l) n P a w K Q := by
  unfold Oper.wp at h
  unfold Oper.wpIn
  have hs : o.semAt (Fence.wide.inRound l).round a.eval = execOp a.eval o := Oper.semAt_some l _ _ (fun c e => by unfold calm1 at hc; rw [e] at hc; cases hc)
  rw [hs]
  refine ⟨fun f _ => trivial, ?_⟩
  generalize (execOp a.eval o).run P w = r at *
  cases r with
  | ok x w' =>
    cases x <;> simp only [Oper.upon, Oper.uponIn] at h ⊢
    case value => exact h
    case skip => exact h
    case defer => exact h
    case enter f args => exact ⟨(fun e => by cases e), (callsIn_wide.2 h).inRound l⟩
    case row row args =>
      refine ⟨(fun e => by cases e), fun c cs _ => ?_⟩
      obtain ⟨v, w2, h1, h2⟩ := h c cs
      exact ⟨v, w2, h1, stepsIn_wide.2 h2⟩
  | halt x w' =>
    cases x <;> simp only [Oper.upon, Oper.uponIn] at h ⊢
    case panic => exact h
theorem wpOp_round (hc : ops.all calm1 = true) (hL : ¬ LetsOut Q) {i : Nat} {K : Act → World → Prop} {a : Act} {w : World} (h : wpOp P ops Q i K a w) : wpOpIn (Fence.wide.inRound l) n P ops Q i K a w := by
  unfold wpOp at h
  unfold wpOpIn
  cases hi : ops[i]? with
  | none => rw [hi] at h; exact h
  | some o =>
    rw [hi] at h
    simp only at h ⊢
    split
    · next hw =>
      rw [if_pos hw] at h
      rcases h with h | h
      · exact oper_round (by
          obtain ⟨hl, he⟩ := Array.getElem?_eq_some_iff.1 hi
          have := (Array.all_eq_true.1 hc) i hl
          rwa [he] at this) h
      · exact absurd h.2 hL
    · next hw =>
      rw [if_neg hw] at h
      exact ⟨fun f _ => trivial, h⟩
theorem wpAny_round (hc : ops.all calm1 = true) (hL : ¬ LetsOut Q) : ∀ (fuel : Nat) (listed : Array Bool) (a : Act) (w : World), wpAny P md ops Q fuel listed a w → wpAnyIn (Fence.wide.inRound l) n P md ops Q fuel listed a w
  | 0, _, _, _, h => h
  | fuel + 1, _, _, _, h => ⟨h.1, fun i hi => wpOpIn_mono (fun a' w' h' => wpAny_round hc hL fuel _ a' w' h') (wpOp_round hc hL (h.2 i hi))⟩
/-- The beginning. -/
theorem wpIn_region_held_round {id : Nat} {a : Act} {w : World} (hm : P.follows .mixedOrders = true) (hc : ops.all calm1 = true) (hL : ¬ LetsOut Q) (hS : S w.drew)
    (h : S w.drew → wpAnyH P .any ops Q S ops.size (Array.replicate ops.size false) a w.drew) : (Code.region id ops true).wpIn (Fence.wide.inRound l) n P Q a w :=
  wpIn_region_any hm (wpAny_round hc hL _ _ _ _ (wpAny_of_held _ _ _ _ (h hS)))
end Go.Proofs.YtlkhmfmocegekaaDoor
