/- package graph: giveUp, told, caught: an operation that gives up, and the answer that it is told as. -/
import Derived.Test.YtlkhmfmocegekaaDoorBsKit
import Derived.Defers
import Derived.Recover
import Derived.Maps.AppendAt
namespace Go.Proofs.YtlkhmfmocegekaaDoor
open Go.RowKit
/-- An answer's cells. -/
abbrev goutC (e : Int) (b : Bool) (v : Int) : Array Value := #[.int .i64 e, .bool b, .int .i64 v]
abbrev goutV (e : Int) (b : Bool) (v : Int) : Value := .agg (goutC e b v)
abbrev goutO (e : Int) (b : Bool) (v : Int) : Obj := .cells (goutC e b v) 39
/-- What an operation gives up with. -/
abbrev grefV (k : Int) : Value := .iface 122 (.agg #[.int .i64 k])
abbrev gupE (k : Int) : Ending := .panicked [{ v := grefV k, recovered := false }]
theorem ggiveUp_any (k : Int) (w : World) : Calls Tryd.prog 33 #[.int .i64 k] w fun e w' => e = gupE k ∧ w' = w := by
  go_enter Tryd.func33, Tryd.ntmps33
  go_wp2
  exact ⟨rfl, rfl, rfl⟩
theorem gassert_refu (k : Int) (w : World) : (Instr.typeAssert (grefV k) 20 122 true).run Tryd.prog w = .ok (.tuple #[.agg #[.int .i64 k], .bool true]) w := by
  simp [Instr.typeAssert, run_underlying Tryd.underlying122]
set_option maxRecDepth 100000 in
theorem gtold_any (k : Int) (w : World) : Calls Tryd.prog 31 #[grefV k] w fun e w' => e = .returned (.int .i64 k) ∧ Below w.heap.size w w' := by
  have ha := gassert_refu k
  have hnot : ∀ (x : Bool) (w : World), (Op.unary .not (.bool x)).run Tryd.prog w = .ok (.bool (!x)) w := fun _ _ => rfl
  go_enter Tryd.func31, Tryd.ntmps31
  go_wp2
  go_ret
  exact ⟨rfl, below_alloc0 _ _⟩
theorem lset_row {w : World} {g : Nat} {cs : Array Value} {t : TypeId} (h : w.heap[g]? = some (.cells cs t)) (i : Nat) (v : Value) : (w.setCell ⟨g, i, none⟩ v).heap[g]? = some (.cells (cs.setIfInBounds i v) t) := by
  rw [setCell_eq_setRow w g i cs t (0, 0) v h]
  exact setRow_heap w g cs _ _ _ h
theorem lset3 {w : World} {g : Nat} {a b c : Value} {t : TypeId} (h : w.heap[g]? = some (.cells #[a, b, c] t)) (x y z : Value) : (((w.setCell ⟨g, 0, none⟩ x).setCell ⟨g, 1, none⟩ y).setCell ⟨g, 2, none⟩ z).heap[g]? = some (.cells #[x, y, z] t) :=
  lset_row (lset_row (lset_row h 0 x) 1 y) 2 z
theorem lgrown_set (W : World) (B i : Nat) (v : Value) : W.grownBy (W.setCell ⟨B, i, none⟩ v) (some B) := by
  refine ⟨rfl, rfl, rfl, by simp, fun k hk hne => ?_⟩
  have : k ≠ B := fun e => hne (by rw [e])
  simp [World.setCell, Array.getElem?_modify, Ne.symm this]
theorem grown_below' {W W' : World} (h : Below W.heap.size W W') (row : Option Nat) : W.grownBy W' row :=
  ⟨h.os, h.tape, h.output, h.size, fun k hk _ => h.block k hk⟩
/-- The deferred closure of a call that returns: it does nothing. -/
theorem gcatch_idle (p : Addr) (w : World) :
    CallsD Tryd.prog 30 #[.pointer (some p)] .returning w fun e u' w' => e = .returned (.tuple #[]) ∧ u' = .returning ∧ w' = w := by
  refine callsD_of_wpS Tryd.func30 rfl fun c₀ cs hu => ?_
  apply wpS_seq
  apply wpS_region
  simp [wpOpsS, go_sem, recoverD, hu, Tryd.ntmps30, Exit.thenS]
  refine wpS_of_wp ?_
  go_wp2
  cases c₀
  simp_all [bodyPostS, results, Tryd.results30]
/-- .. of one that gives up: the answer is laid. -/
theorem gcatch_up (g : Nat) (k : Int) (w : World) (hr : w.heap[g]? = some (goutO 0 false 0)) :
    CallsD Tryd.prog 30 #[.pointer (some ⟨g, 0, none⟩)] (.panicking [{ v := grefV k, recovered := false }]) w fun e u' w' => e = .returned (.tuple #[]) ∧ u' = .panicking [{ v := grefV k, recovered := true }] ∧ w'.heap[g]? = some (goutO k false 0) ∧ w.grownBy w' (some g) := by
  have ct := gtold_any k w
  refine callsD_of_wpS Tryd.func30 rfl fun c₀ cs hu => ?_
  apply wpS_seq
  apply wpS_region
  simp [wpOpsS, go_sem, recoverD, hu, Tryd.ntmps30, Exit.thenS]
  refine wpS_of_wp ?_
  go_wp2_with (go_at_call 31; refine ct.mono ?_)
  rintro e w1 ⟨rfl, b1⟩
  have hr1 := (b1.block g (Array.getElem?_eq_some_iff.1 hr).1).trans hr
  have h0 := at_row hr1 0 rfl
  have h1 := at_row hr1 1 rfl
  have h2 := at_row hr1 2 rfl
  have hf := fz_row hr1 0
  have hf1 := fz_row hr1 1
  have hf2 := fz_row hr1 2
  have HB := hid b1
  have HR := hid hr1
  clear b1 hr1 hr ct
  go_wp2
  refine ⟨rfl, _, rfl, .tuple #[], results_none rfl _ _ _, rfl, rfl, ?_, ?_⟩
  · have e := lset3 HR.out (.int .i64 k) (.bool false) (.int .i64 0)
    exact e
  · exact ((grown_below' HB.out (some g)).trans (lgrown_set w1 g 0 _)).trans ((lgrown_set _ g 1 _).trans (lgrown_set _ g 2 _))
set_option maxRecDepth 100000 in
/-- An operation that is done. -/
theorem gcaught_ok (fn : Nat) (d : Value) (e : Int) (b : Bool) (v : Int) (w : World) (Q : World → Prop) (hcf : ∀ w, (callFunc fn #[d]).run Tryd.prog w = .ok (.enter fn #[d]) w) (hc : Calls Tryd.prog fn #[d] (w.alloc (goutO 0 false 0)) fun e' w' => e' = .returned (goutV e b v) ∧ w'.heap[w.heap.size]? = some (goutO 0 false 0) ∧ Q w') :
    Calls Tryd.prog 19 #[.func (.func fn) #[d] #[]] w fun e' w' => e' = .returned (goutV e b v) ∧ ∃ w1, Q w1 ∧ w1.heap[w.heap.size]? = some (goutO 0 false 0) ∧ w1.grownBy w' (some w.heap.size) := by
  have hmf : ∀ (fn : Fn) (first cap : Array Value) (w : World), (Instr.makeFunc fn first cap).run Tryd.prog w = .ok (.func fn first cap) w := fun _ _ _ _ => rfl
  go_enter_defers Tryd.func19, Tryd.ntmps19
  go_wp2_with (refine hc.mono ?_)
  rintro e' w1 ⟨rfl, hr, hq⟩
  have h0 := at_row hr 0 rfl
  have h1 := at_row hr 1 rfl
  have h2 := at_row hr 2 rfl
  have hf := fz_row hr 0
  have hf1 := fz_row hr 1
  have hf2 := fz_row hr 2
  have HQ := hid hq
  have HR := hid hr
  clear hr hq hc hcf
  go_wp2
  refine leaves_cons (f := 30) (args := #[.pointer (some ⟨w.heap.size, 0, none⟩)]) (by simp) (by simp [go_sem]) ?_
  refine (gcatch_idle ⟨w.heap.size, 0, none⟩ _).mono ?_
  rintro e' u' w'' ⟨rfl, rfl, rfl⟩
  have hs := lset3 HR.out (.int .i64 e) (.bool b) (.int .i64 v)
  have hG := (lgrown_set w1 w.heap.size 0 (.int .i64 e)).trans ((lgrown_set _ w.heap.size 1 (.bool b)).trans (lgrown_set _ w.heap.size 2 (.int .i64 v)))
  have hl := HR.out
  generalize ((w1.setCell ⟨w.heap.size, 0, none⟩ (.int .i64 e)).setCell ⟨w.heap.size, 1, none⟩ (.bool b)).setCell ⟨w.heap.size, 2, none⟩ (.int .i64 v) = W at *
  have s0 := at_row hs 0 rfl
  have s1 := at_row hs 1 rfl
  have s2 := at_row hs 2 rfl
  simp [Leaves, settle, results, Tryd.results19, go_sem, s0, s1, s2]
  exact ⟨w1, HQ.out, HR.out, hG⟩
set_option maxRecDepth 100000 in
/-- An operation that gives up. -/
theorem gcaught_up (fn : Nat) (d : Value) (k : Int) (w : World) (Q : World → Prop) (hcf : ∀ w, (callFunc fn #[d]).run Tryd.prog w = .ok (.enter fn #[d]) w) (hc : Calls Tryd.prog fn #[d] (w.alloc (goutO 0 false 0)) fun e' w' => e' = gupE k ∧ w'.heap[w.heap.size]? = some (goutO 0 false 0) ∧ Q w') :
    Calls Tryd.prog 19 #[.func (.func fn) #[d] #[]] w fun e' w' => e' = .returned (goutV k false 0) ∧ ∃ w1, Q w1 ∧ w1.heap[w.heap.size]? = some (goutO 0 false 0) ∧ w1.grownBy w' (some w.heap.size) := by
  have hmf : ∀ (fn : Fn) (first cap : Array Value) (w : World), (Instr.makeFunc fn first cap).run Tryd.prog w = .ok (.func fn first cap) w := fun _ _ _ _ => rfl
  go_enter_defers Tryd.func19, Tryd.ntmps19
  go_wp2_with (refine hc.mono ?_)
  rintro e' w1 ⟨rfl, hr, hq⟩
  have HQ := hid hq
  have HR := hid hr
  clear hr hq hc hcf
  go_wp2
  refine leaves_cons (f := 30) (args := #[.pointer (some ⟨w.heap.size, 0, none⟩)]) (by simp) (by simp [go_sem]) ?_
  refine (gcatch_up w.heap.size k w1 HR.out).mono ?_
  rintro e' u' W ⟨rfl, rfl, hs, hG⟩
  have s0 := at_row hs 0 rfl
  have s1 := at_row hs 1 rfl
  have s2 := at_row hs 2 rfl
  simp [Leaves, settle, results, Tryd.results19, go_sem, s0, s1, s2]
  exact ⟨w1, HQ.out, HR.out, hG⟩
end Go.Proofs.YtlkhmfmocegekaaDoor
