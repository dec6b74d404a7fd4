/- package arena: what All hands back: the iterator's contract. -/
import Derived.Test.YtldfmlkjeniemaaDoorPkRefBOn
import Derived.RangeFuncNested
import Derived.RangeFuncBound
import Derived.RangeFuncCalls
import Derived.RangeFuncLeaves
import Derived.Shelf.Abstract
import Derived.Shelf.RegionOpen
import Derived.OwnWalkIn
import Derived.TacticsInMore
import Derived.LoopNIn
import Derived.LoopIn
namespace Go.Proofs.YtldfmlkjeniemaaDoor
open Go.RowKit Go.Shelf
attribute [local go_sem] Oper.semAt_some
abbrev encW (x : Nat × Int) : Array Value := #[Value.int .i64 (x.1 : Int), Value.int .u64 x.2]
/-- The first so many words, with their numbers. -/
def ups (xs : List Int) (k : Nat) : List (Nat × Int) := (List.range k).map fun i => (i, wat xs i)
theorem ups_length (xs : List Int) (k : Nat) : (ups xs k).length = k := by simp [ups]
theorem ups_succ (xs : List Int) (k : Nat) : ups xs (k + 1) = ups xs k ++ [(k, wat xs k)] := by simp [ups, List.range_succ]
/-- What a round must keep: the box of the words' slice, and the words. -/
def KpA (Bs B : Nat) (W W' : World) : Prop := W'.heap[Bs]? = W.heap[Bs]? ∧ W'.heap[B]? = W.heap[B]?
theorem kpA_t {Bs B : Nat} {W1 W2 W3 : World} (h : KpA Bs B W1 W2) (k : KpA Bs B W2 W3) : KpA Bs B W1 W3 := ⟨k.1.trans h.1, k.2.trans h.2⟩
theorem kpA_b {Bs B : Nat} {w : World} (hs : Bs < w.heap.size) (hb : B < w.heap.size) (W : World) (l : Nat) (o o' : Obj) (hl : w.heap.size ≤ l) (_ : W.heap[l]? = some o) (_ : o.isCells = false) (_ : o.isWalk = false) : KpA Bs B W (W.putObj l o') :=
  ⟨World.putObj_heap_other (by omega), World.putObj_heap_other (by omega)⟩
theorem kpA_set {Bs B : Nat} (W : World) {g : Nat} (h1 : g ≠ Bs) (h2 : g ≠ B) (j : Nat) (v : Value) : KpA Bs B W (W.setCell ⟨g, j, none⟩ v) := by
  refine ⟨?_, ?_⟩ <;> simp [World.setCell, Array.getElem?_modify, h1, h2]
theorem kpA_refl {Bs B : Nat} (W : World) : KpA Bs B W W := ⟨rfl, rfl⟩
end Go.Proofs.YtldfmlkjeniemaaDoor
