/- The law ShapeAll, whole. -/
import Derived.Test.YtngnjlmpmpdnjaaDoorShLawN
namespace Go.Proofs.YtngnjlmpmpdnjaaDoor
open Go.RowKit Go.Sh Go.Shelf
attribute [local go_sem] Oper.semAt_some
set_option maxRecDepth 100000 in
set_option maxHeartbeats 4000000 in
theorem shapeAll_vast (s : ByteArray) (hs : 20 < s.size) (many : Int) (w : World) :
    CallsIn Fence.wide 4 Tryd.prog 5 #[.string s, .int .i64 many] w fun e W' => e = .returned (.bool true) ∧ Below w.heap.size w W' := by
  have hs' : (20 : Int) < (s.size : Int) := by omega
  refine callsIn_of_wp_marks Tryd.func5 rfl trivial ?_ rfl
  simp only [Tryd.ntmps5, List.size_toArray, List.length_cons, List.length_nil, Nat.reduceAdd, Nat.reduceSub, Array.replicate_succ, Array.replicate_zero, List.push_toArray, List.append_toArray, List.nil_append, List.cons_append]
  gi_wp2
  refine ⟨trivial, ?_⟩
  gi_at_call 10
  refine (callsIn_wide.2 (works_any _)).mono ?_
  rintro e w1 ⟨rfl, b1⟩
  have hz := siz3 b1
  have R := row3c b1
  have k2 := at_row R 0 rfl
  have f2 := fz_row R 0
  have hB := bel3 b1
  clear b1
  gi_wp2
  refine ⟨_, ?_, rfl, hB.setCell (p := ⟨w.heap.size + 1 + 1, 0, none⟩) (by show w.heap.size ≤ w.heap.size + 1 + 1; omega) _⟩
  have hc5 := World.cell?_setCell_same' w1 ⟨w.heap.size + 1 + 1, 0, none⟩ (.bool true) (by rw [k2]; rfl)
  simp [results, Tryd.f5, go_sem, hc5]
theorem shapeAll_walk (s : ByteArray) (many : Int) (w : World) : Calls Tryd.prog 5 #[.string s, .int .i64 many] w fun e W' => e = .returned (.bool true) ∧ Below w.heap.size w W' := by
  refine (callsIn_wide (n := 4)).1 ?_
  by_cases hs : s.size ≤ 20
  · cases h1 : one s with
    | true => exact shapeAll_yes s hs h1 many w
    | false => exact shapeAll_no s hs h1 many w
  · exact shapeAll_vast s (by omega) many w
end Go.Proofs.YtngnjlmpmpdnjaaDoor
