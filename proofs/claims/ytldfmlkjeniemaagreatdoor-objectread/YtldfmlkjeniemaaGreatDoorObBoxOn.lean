/- Boxes that a call lays one behind the other. -/
import Derived.Test.YtldfmlkjeniemaaGreatDoorObHeld
import Derived.Test.YtldfmlkjeniemaaGreatDoorBsKitOn
import Derived.Test.YtldfmlkjeniemaaGreatDoorObOpenOn
namespace Go.Proofs.YtldfmlkjeniemaaGreatDoor
open Go.RowKit
theorem boxes2 (w : World) (A0 A1 : Obj) : ((w.alloc A0).alloc A1).heap[w.heap.size]? = some A0 ∧ ((w.alloc A0).alloc A1).heap[w.heap.size + 1]? = some A1 ∧ ((w.alloc A0).alloc A1).heap.size = w.heap.size + 1 + 1 ∧ Below w.heap.size w ((w.alloc A0).alloc A1) := by
  exact ⟨row2a (Below.refl _ _), row2b (Below.refl _ _), by simp, bel_two w A0 A1⟩
theorem boxes3 (w : World) (A0 A1 A2 : Obj) : (((w.alloc A0).alloc A1).alloc A2).heap[w.heap.size]? = some A0 ∧ (((w.alloc A0).alloc A1).alloc A2).heap[w.heap.size + 1]? = some A1 ∧ (((w.alloc A0).alloc A1).alloc A2).heap[w.heap.size + 1 + 1]? = some A2 ∧ (((w.alloc A0).alloc A1).alloc A2).heap.size = w.heap.size + 1 + 1 + 1 ∧ Below w.heap.size w (((w.alloc A0).alloc A1).alloc A2) := by
  obtain ⟨h0, h1, hz, hb⟩ := boxes2 w A0 A1
  refine ⟨row_below h0 (below_alloc0 _ _), row_below h1 (below_alloc0 _ _), ?_, ?_, hb.alloc hb.size _⟩
  · rw [← hz]; exact heap_alloc_last _ _
  · rw [size_alloc, hz]
theorem boxes4 (w : World) (A0 A1 A2 A3 : Obj) : ((((w.alloc A0).alloc A1).alloc A2).alloc A3).heap[w.heap.size]? = some A0 ∧ ((((w.alloc A0).alloc A1).alloc A2).alloc A3).heap[w.heap.size + 1]? = some A1 ∧ ((((w.alloc A0).alloc A1).alloc A2).alloc A3).heap[w.heap.size + 1 + 1]? = some A2 ∧ ((((w.alloc A0).alloc A1).alloc A2).alloc A3).heap[w.heap.size + 1 + 1 + 1]? = some A3 ∧ ((((w.alloc A0).alloc A1).alloc A2).alloc A3).heap.size = w.heap.size + 1 + 1 + 1 + 1 ∧ Below w.heap.size w ((((w.alloc A0).alloc A1).alloc A2).alloc A3) := by
  obtain ⟨h0, h1, h2, hz, hb⟩ := boxes3 w A0 A1 A2
  refine ⟨row_below h0 (below_alloc0 _ _), row_below h1 (below_alloc0 _ _), row_below h2 (below_alloc0 _ _), ?_, ?_, hb.alloc hb.size _⟩
  · rw [← hz]; exact heap_alloc_last _ _
  · rw [size_alloc, hz]
theorem boxes5 (w : World) (A0 A1 A2 A3 A4 : Obj) : (((((w.alloc A0).alloc A1).alloc A2).alloc A3).alloc A4).heap[w.heap.size]? = some A0 ∧ (((((w.alloc A0).alloc A1).alloc A2).alloc A3).alloc A4).heap[w.heap.size + 1]? = some A1 ∧ (((((w.alloc A0).alloc A1).alloc A2).alloc A3).alloc A4).heap[w.heap.size + 1 + 1]? = some A2 ∧ (((((w.alloc A0).alloc A1).alloc A2).alloc A3).alloc A4).heap[w.heap.size + 1 + 1 + 1]? = some A3 ∧ (((((w.alloc A0).alloc A1).alloc A2).alloc A3).alloc A4).heap[w.heap.size + 1 + 1 + 1 + 1]? = some A4 ∧ (((((w.alloc A0).alloc A1).alloc A2).alloc A3).alloc A4).heap.size = w.heap.size + 1 + 1 + 1 + 1 + 1 ∧ Below w.heap.size w (((((w.alloc A0).alloc A1).alloc A2).alloc A3).alloc A4) := by
  obtain ⟨h0, h1, h2, h3, hz, hb⟩ := boxes4 w A0 A1 A2 A3
  refine ⟨row_below h0 (below_alloc0 _ _), row_below h1 (below_alloc0 _ _), row_below h2 (below_alloc0 _ _), row_below h3 (below_alloc0 _ _), ?_, ?_, hb.alloc hb.size _⟩
  · rw [← hz]; exact heap_alloc_last _ _
  · rw [size_alloc, hz]
theorem boxes6 (w : World) (A0 A1 A2 A3 A4 A5 : Obj) : ((((((w.alloc A0).alloc A1).alloc A2).alloc A3).alloc A4).alloc A5).heap[w.heap.size]? = some A0 ∧ ((((((w.alloc A0).alloc A1).alloc A2).alloc A3).alloc A4).alloc A5).heap[w.heap.size + 1]? = some A1 ∧ ((((((w.alloc A0).alloc A1).alloc A2).alloc A3).alloc A4).alloc A5).heap[w.heap.size + 1 + 1]? = some A2 ∧ ((((((w.alloc A0).alloc A1).alloc A2).alloc A3).alloc A4).alloc A5).heap[w.heap.size + 1 + 1 + 1]? = some A3 ∧ ((((((w.alloc A0).alloc A1).alloc A2).alloc A3).alloc A4).alloc A5).heap[w.heap.size + 1 + 1 + 1 + 1]? = some A4 ∧ ((((((w.alloc A0).alloc A1).alloc A2).alloc A3).alloc A4).alloc A5).heap[w.heap.size + 1 + 1 + 1 + 1 + 1]? = some A5 ∧ ((((((w.alloc A0).alloc A1).alloc A2).alloc A3).alloc A4).alloc A5).heap.size = w.heap.size + 1 + 1 + 1 + 1 + 1 + 1 ∧ Below w.heap.size w ((((((w.alloc A0).alloc A1).alloc A2).alloc A3).alloc A4).alloc A5) := by
  obtain ⟨h0, h1, h2, h3, h4, hz, hb⟩ := boxes5 w A0 A1 A2 A3 A4
  refine ⟨row_below h0 (below_alloc0 _ _), row_below h1 (below_alloc0 _ _), row_below h2 (below_alloc0 _ _), row_below h3 (below_alloc0 _ _), row_below h4 (below_alloc0 _ _), ?_, ?_, hb.alloc hb.size _⟩
  · rw [← hz]; exact heap_alloc_last _ _
  · rw [size_alloc, hz]
theorem boxes7 (w : World) (A0 A1 A2 A3 A4 A5 A6 : Obj) : (((((((w.alloc A0).alloc A1).alloc A2).alloc A3).alloc A4).alloc A5).alloc A6).heap[w.heap.size]? = some A0 ∧ (((((((w.alloc A0).alloc A1).alloc A2).alloc A3).alloc A4).alloc A5).alloc A6).heap[w.heap.size + 1]? = some A1 ∧ (((((((w.alloc A0).alloc A1).alloc A2).alloc A3).alloc A4).alloc A5).alloc A6).heap[w.heap.size + 1 + 1]? = some A2 ∧ (((((((w.alloc A0).alloc A1).alloc A2).alloc A3).alloc A4).alloc A5).alloc A6).heap[w.heap.size + 1 + 1 + 1]? = some A3 ∧ (((((((w.alloc A0).alloc A1).alloc A2).alloc A3).alloc A4).alloc A5).alloc A6).heap[w.heap.size + 1 + 1 + 1 + 1]? = some A4 ∧ (((((((w.alloc A0).alloc A1).alloc A2).alloc A3).alloc A4).alloc A5).alloc A6).heap[w.heap.size + 1 + 1 + 1 + 1 + 1]? = some A5 ∧ (((((((w.alloc A0).alloc A1).alloc A2).alloc A3).alloc A4).alloc A5).alloc A6).heap[w.heap.size + 1 + 1 + 1 + 1 + 1 + 1]? = some A6 ∧ (((((((w.alloc A0).alloc A1).alloc A2).alloc A3).alloc A4).alloc A5).alloc A6).heap.size = w.heap.size + 1 + 1 + 1 + 1 + 1 + 1 + 1 ∧ Below w.heap.size w (((((((w.alloc A0).alloc A1).alloc A2).alloc A3).alloc A4).alloc A5).alloc A6) := by
  obtain ⟨h0, h1, h2, h3, h4, h5, hz, hb⟩ := boxes6 w A0 A1 A2 A3 A4 A5
  refine ⟨row_below h0 (below_alloc0 _ _), row_below h1 (below_alloc0 _ _), row_below h2 (below_alloc0 _ _), row_below h3 (below_alloc0 _ _), row_below h4 (below_alloc0 _ _), row_below h5 (below_alloc0 _ _), ?_, ?_, hb.alloc hb.size _⟩
  · rw [← hz]; exact heap_alloc_last _ _
  · rw [size_alloc, hz]
theorem boxes8 (w : World) (A0 A1 A2 A3 A4 A5 A6 A7 : Obj) : ((((((((w.alloc A0).alloc A1).alloc A2).alloc A3).alloc A4).alloc A5).alloc A6).alloc A7).heap[w.heap.size]? = some A0 ∧ ((((((((w.alloc A0).alloc A1).alloc A2).alloc A3).alloc A4).alloc A5).alloc A6).alloc A7).heap[w.heap.size + 1]? = some A1 ∧ ((((((((w.alloc A0).alloc A1).alloc A2).alloc A3).alloc A4).alloc A5).alloc A6).alloc A7).heap[w.heap.size + 1 + 1]? = some A2 ∧ ((((((((w.alloc A0).alloc A1).alloc A2).alloc A3).alloc A4).alloc A5).alloc A6).alloc A7).heap[w.heap.size + 1 + 1 + 1]? = some A3 ∧ ((((((((w.alloc A0).alloc A1).alloc A2).alloc A3).alloc A4).alloc A5).alloc A6).alloc A7).heap[w.heap.size + 1 + 1 + 1 + 1]? = some A4 ∧ ((((((((w.alloc A0).alloc A1).alloc A2).alloc A3).alloc A4).alloc A5).alloc A6).alloc A7).heap[w.heap.size + 1 + 1 + 1 + 1 + 1]? = some A5 ∧ ((((((((w.alloc A0).alloc A1).alloc A2).alloc A3).alloc A4).alloc A5).alloc A6).alloc A7).heap[w.heap.size + 1 + 1 + 1 + 1 + 1 + 1]? = some A6 ∧ ((((((((w.alloc A0).alloc A1).alloc A2).alloc A3).alloc A4).alloc A5).alloc A6).alloc A7).heap[w.heap.size + 1 + 1 + 1 + 1 + 1 + 1 + 1]? = some A7 ∧ ((((((((w.alloc A0).alloc A1).alloc A2).alloc A3).alloc A4).alloc A5).alloc A6).alloc A7).heap.size = w.heap.size + 1 + 1 + 1 + 1 + 1 + 1 + 1 + 1 ∧ Below w.heap.size w ((((((((w.alloc A0).alloc A1).alloc A2).alloc A3).alloc A4).alloc A5).alloc A6).alloc A7) := by
  obtain ⟨h0, h1, h2, h3, h4, h5, h6, hz, hb⟩ := boxes7 w A0 A1 A2 A3 A4 A5 A6
  refine ⟨row_below h0 (below_alloc0 _ _), row_below h1 (below_alloc0 _ _), row_below h2 (below_alloc0 _ _), row_below h3 (below_alloc0 _ _), row_below h4 (below_alloc0 _ _), row_below h5 (below_alloc0 _ _), row_below h6 (below_alloc0 _ _), ?_, ?_, hb.alloc hb.size _⟩
  · rw [← hz]; exact heap_alloc_last _ _
  · rw [size_alloc, hz]
/-- What a call leaves that gave up, or ended well: the error's own variable is another one. -/
theorem callFn {fn : Nat} (cap : Array Value) (w : World) : (callFunc fn cap).run Tryz.prog w = .ok (.enter fn cap) w ∨ True := .inr trivial
end Go.Proofs.YtldfmlkjeniemaaGreatDoor
/- package object: place; Place's closure; Place. -/
set_option linter.unusedVariables false
namespace Go.Proofs.YtldfmlkjeniemaaGreatDoor
open Go.RowKit Go.Ly Go.Hd Go.Sh Go.Ob
set_option maxRecDepth 100000 in
set_option maxHeartbeats 1000000 in
theorem place_no (t s : Int) (a : Option Addr) (n c : Nat) (ss : List ByteArray) (L A B : Nat) (xs : List Int) (q : Nat) (e f : Int) (w : World) (h : IsHp w t s a n c ss A B xs) (hL : w.heap[L]? = some (arO A)) (hq : q < xs.length) (e0 : 0 ≤ e) (e1 : e ≤ 20000) (hz : Hid (osz xs ss e q = 0)) :
    Calls Tryz.prog 45 #[objV t s a n c L (q : Int) e, .int .i64 f] w fun e' w' => e' = upE 170 ∧ Below w.heap.size w w' := by
  have bw := below_alloc0 w (objO t s a n c L (q : Int) e)
  have cm := mustStand_no t s a n c ss L A B xs q e _ (h.below bw) (row_below hL bw) hq e0 e1 hz
  clear h hL hz
  go_enter Tryz.func45, Tryz.ntmps45
  go_wp2_with (go_at_call 56; refine cm.mono ?_; rintro e w' ⟨rfl, b1⟩)
  exact ⟨rfl, rfl, bel1 b1⟩
set_option maxRecDepth 100000 in
set_option maxHeartbeats 1000000 in
theorem place_out (t s : Int) (a : Option Addr) (n c : Nat) (ss : List ByteArray) (L A B : Nat) (xs : List Int) (q : Nat) (e z f : Int) (w : World) (h : IsHp w t s a n c ss A B xs) (hL : w.heap[L]? = some (arO A)) (hq : q < xs.length) (e0 : 0 ≤ e) (e1 : e ≤ 20000) (hz : Hid (osz xs ss e q = z)) (z2 : 2 ≤ z) (z10 : z ≤ 10) (hf : f < 0 ∨ z - 2 ≤ f) :
    Calls Tryz.prog 45 #[objV t s a n c L (q : Int) e, .int .i64 f] w fun e' w' => e' = upE 131 ∧ Below w.heap.size w w' := by
  have bw := below_alloc0 w (objO t s a n c L (q : Int) e)
  have cm := mustStand_yes t s a n c ss L A B xs q e z _ (h.below bw) (row_below hL bw) hq e0 e1 hz (by rw [beq_eq_false_iff_ne]; omega)
  clear h hL hz
  rcases (show f < 0 ∨ (0 ≤ f ∧ z - 2 ≤ f) by omega) with hf | ⟨hf0, hf⟩
  all_goals
    go_enter Tryz.func45, Tryz.ntmps45
    go_wp2_with (first | (go_at_call 56; refine cm.mono ?_; rintro e w' ⟨rfl, b1⟩) | (go_at_call 51; refine (giveUp_any _ _).mono ?_; rintro e w' ⟨rfl, hw⟩; rw [hw]; clear hw))
    exact ⟨rfl, rfl, bel1 b1⟩
set_option maxRecDepth 100000 in
set_option maxHeartbeats 1000000 in
theorem place_yes (t s : Int) (a : Option Addr) (n c : Nat) (ss : List ByteArray) (L A B : Nat) (xs : List Int) (q : Nat) (e z f : Int) (w : World) (h : IsHp w t s a n c ss A B xs) (hL : w.heap[L]? = some (arO A)) (hq : q < xs.length) (e0 : 0 ≤ e) (e1 : e ≤ 20000) (hz : Hid (osz xs ss e q = z)) (z2 : 2 ≤ z) (z10 : z ≤ 10) (f0 : 0 ≤ f) (f1 : f < z - 2) :
    Calls Tryz.prog 45 #[objV t s a n c L (q : Int) e, .int .i64 f] w fun e' w' => e' = .returned (.int .i64 (q + 2 + f)) ∧ Below w.heap.size w w' := by
  have q9 : (q : Int) ≤ 20000 := by have := h.ar.le; omega
  have q0 : (0 : Int) ≤ (q : Int) := by omega
  have f9 : f ≤ 10 := by omega
  have bw := below_alloc0 w (objO t s a n c L (q : Int) e)
  have cm := mustStand_yes t s a n c ss L A B xs q e z _ (h.below bw) (row_below hL bw) hq e0 e1 hz (by rw [beq_eq_false_iff_ne]; omega)
  clear h hL hz
  go_enter Tryz.func45, Tryz.ntmps45
  go_wp2_with (go_at_call 56; refine cm.mono ?_)
  rintro e w' ⟨rfl, b1⟩
  have c4 := at_row (row1 b1) 4 rfl
  have B1 := hid (bel1 b1)
  clear b1
  go_wp2
  go_ret
  exact ⟨rfl, B1.out⟩
end Go.Proofs.YtldfmlkjeniemaaGreatDoor
