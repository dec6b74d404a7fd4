/- Boxes that a call lays one behind the other. -/
import Derived.Test.YtldfmlkjeniemaaGreatDoorObHeld
import Derived.Test.YtldfmlkjeniemaaGreatDoorBsKitOn
import Derived.Test.YtldfmlkjeniemaaGreatDoorObPlaceOn
import Derived.Test.YtldfmlkjeniemaaGreatDoorArCallOn
namespace Go.Proofs.YtldfmlkjeniemaaGreatDoor
open Go.RowKit
theorem boxes2 (w : World) (A0 A1 : Obj) : ((w.alloc A0).alloc A1).heap[w.heap.size]? = some A0 ∧ ((w.alloc A0).alloc A1).heap[w.heap.size + 1]? = some A1 ∧ ((w.alloc A0).alloc A1).heap.size = w.heap.size + 1 + 1 ∧ Below w.heap.size w ((w.alloc A0).alloc A1) := by
  exact ⟨row2a (Below.refl _ _), row2b (Below.refl _ _), by simp, bel_two w A0 A1⟩
theorem boxes3 (w : World) (A0 A1 A2 : Obj) : (((w.alloc A0).alloc A1).alloc A2).heap[w.heap.size]? = some A0 ∧ (((w.alloc A0).alloc A1).alloc A2).heap[w.heap.size + 1]? = some A1 ∧ (((w.alloc A0).alloc A1).alloc A2).heap[w.heap.size + 1 + 1]? = some A2 ∧ (((w.alloc A0).alloc A1).alloc A2).heap.size = w.heap.size + 1 + 1 + 1 ∧ Below w.heap.size w (((w.alloc A0).alloc A1).alloc A2) := by
  obtain ⟨h0, h1, hz, hb⟩ := boxes2 w A0 A1
  refine ⟨row_below h0 (below_alloc0 _ _), row_below h1 (below_alloc0 _ _), ?_, ?_, hb.alloc hb.size _⟩
  · rw [← hz]; exact heap_alloc_last _ _
  · rw [size_alloc, hz]
theorem boxes4 (w : World) (A0 A1 A2 A3 : Obj) : ((((w.alloc A0).alloc A1).alloc A2).alloc A3).heap[w.heap.size]? = some A0 ∧ ((((w.alloc A0).alloc A1).alloc A2).alloc A3).heap[w.heap.size + 1]? = some A1 ∧ ((((w.alloc A0).alloc A1).alloc A2).alloc A3).heap[w.heap.size + 1 + 1]? = some A2 ∧ ((((w.alloc A0).alloc A1).alloc A2).alloc A3).heap[w.heap.size + 1 + 1 + 1]? = some A3 ∧ ((((w.alloc A0).alloc A1).alloc A2).alloc A3).heap.size = w.heap.size + 1 + 1 + 1 + 1 ∧ Below w.heap.size w ((((w.alloc A0).alloc A1).alloc A2).alloc A3) := by
  obtain ⟨h0, h1, h2, hz, hb⟩ := boxes3 w A0 A1 A2
  refine ⟨row_below h0 (below_alloc0 _ _), row_below h1 (below_alloc0 _ _), row_below h2 (below_alloc0 _ _), ?_, ?_, hb.alloc hb.size _⟩
  · rw [← hz]; exact heap_alloc_last _ _
  · rw [size_alloc, hz]
theorem boxes5 (w : World) (A0 A1 A2 A3 A4 : Obj) : (((((w.alloc A0).alloc A1).alloc A2).alloc A3).alloc A4).heap[w.heap.size]? = some A0 ∧ (((((w.alloc A0).alloc A1).alloc A2).alloc A3).alloc A4).heap[w.heap.size + 1]? = some A1 ∧ (((((w.alloc A0).alloc A1).alloc A2).alloc A3).alloc A4).heap[w.heap.size + 1 + 1]? = some A2 ∧ (((((w.alloc A0).alloc A1).alloc A2).alloc A3).alloc A4).heap[w.heap.size + 1 + 1 + 1]? = some A3 ∧ (((((w.alloc A0).alloc A1).alloc A2).alloc A3).alloc A4).heap[w.heap.size + 1 + 1 + 1 + 1]? = some A4 ∧ (((((w.alloc A0).alloc A1).alloc A2).alloc A3).alloc A4).heap.size = w.heap.size + 1 + 1 + 1 + 1 + 1 ∧ Below w.heap.size w (((((w.alloc A0).alloc A1).alloc A2).alloc A3).alloc A4) := by
  obtain ⟨h0, h1, h2, h3, hz, hb⟩ := boxes4 w A0 A1 A2 A3
  refine ⟨row_below h0 (below_alloc0 _ _), row_below h1 (below_alloc0 _ _), row_below h2 (below_alloc0 _ _), row_below h3 (below_alloc0 _ _), ?_, ?_, hb.alloc hb.size _⟩
  · rw [← hz]; exact heap_alloc_last _ _
  · rw [size_alloc, hz]
theorem boxes6 (w : World) (A0 A1 A2 A3 A4 A5 : Obj) : ((((((w.alloc A0).alloc A1).alloc A2).alloc A3).alloc A4).alloc A5).heap[w.heap.size]? = some A0 ∧ ((((((w.alloc A0).alloc A1).alloc A2).alloc A3).alloc A4).alloc A5).heap[w.heap.size + 1]? = some A1 ∧ ((((((w.alloc A0).alloc A1).alloc A2).alloc A3).alloc A4).alloc A5).heap[w.heap.size + 1 + 1]? = some A2 ∧ ((((((w.alloc A0).alloc A1).alloc A2).alloc A3).alloc A4).alloc A5).heap[w.heap.size + 1 + 1 + 1]? = some A3 ∧ ((((((w.alloc A0).alloc A1).alloc A2).alloc A3).alloc A4).alloc A5).heap[w.heap.size + 1 + 1 + 1 + 1]? = some A4 ∧ ((((((w.alloc A0).alloc A1).alloc A2).alloc A3).alloc A4).alloc A5).heap[w.heap.size + 1 + 1 + 1 + 1 + 1]? = some A5 ∧ ((((((w.alloc A0).alloc A1).alloc A2).alloc A3).alloc A4).alloc A5).heap.size = w.heap.size + 1 + 1 + 1 + 1 + 1 + 1 ∧ Below w.heap.size w ((((((w.alloc A0).alloc A1).alloc A2).alloc A3).alloc A4).alloc A5) := by
  obtain ⟨h0, h1, h2, h3, h4, hz, hb⟩ := boxes5 w A0 A1 A2 A3 A4
  refine ⟨row_below h0 (below_alloc0 _ _), row_below h1 (below_alloc0 _ _), row_below h2 (below_alloc0 _ _), row_below h3 (below_alloc0 _ _), row_below h4 (below_alloc0 _ _), ?_, ?_, hb.alloc hb.size _⟩
  · rw [← hz]; exact heap_alloc_last _ _
  · rw [size_alloc, hz]
theorem boxes7 (w : World) (A0 A1 A2 A3 A4 A5 A6 : Obj) : (((((((w.alloc A0).alloc A1).alloc A2).alloc A3).alloc A4).alloc A5).alloc A6).heap[w.heap.size]? = some A0 ∧ (((((((w.alloc A0).alloc A1).alloc A2).alloc A3).alloc A4).alloc A5).alloc A6).heap[w.heap.size + 1]? = some A1 ∧ (((((((w.alloc A0).alloc A1).alloc A2).alloc A3).alloc A4).alloc A5).alloc A6).heap[w.heap.size + 1 + 1]? = some A2 ∧ (((((((w.alloc A0).alloc A1).alloc A2).alloc A3).alloc A4).alloc A5).alloc A6).heap[w.heap.size + 1 + 1 + 1]? = some A3 ∧ (((((((w.alloc A0).alloc A1).alloc A2).alloc A3).alloc A4).alloc A5).alloc A6).heap[w.heap.size + 1 + 1 + 1 + 1]? = some A4 ∧ (((((((w.alloc A0).alloc A1).alloc A2).alloc A3).alloc A4).alloc A5).alloc A6).heap[w.heap.size + 1 + 1 + 1 + 1 + 1]? = some A5 ∧ (((((((w.alloc A0).alloc A1).alloc A2).alloc A3).alloc A4).alloc A5).alloc A6).heap[w.heap.size + 1 + 1 + 1 + 1 + 1 + 1]? = some A6 ∧ (((((((w.alloc A0).alloc A1).alloc A2).alloc A3).alloc A4).alloc A5).alloc A6).heap.size = w.heap.size + 1 + 1 + 1 + 1 + 1 + 1 + 1 ∧ Below w.heap.size w (((((((w.alloc A0).alloc A1).alloc A2).alloc A3).alloc A4).alloc A5).alloc A6) := by
  obtain ⟨h0, h1, h2, h3, h4, h5, hz, hb⟩ := boxes6 w A0 A1 A2 A3 A4 A5
  refine ⟨row_below h0 (below_alloc0 _ _), row_below h1 (below_alloc0 _ _), row_below h2 (below_alloc0 _ _), row_below h3 (below_alloc0 _ _), row_below h4 (below_alloc0 _ _), row_below h5 (below_alloc0 _ _), ?_, ?_, hb.alloc hb.size _⟩
  · rw [← hz]; exact heap_alloc_last _ _
  · rw [size_alloc, hz]
theorem boxes8 (w : World) (A0 A1 A2 A3 A4 A5 A6 A7 : Obj) : ((((((((w.alloc A0).alloc A1).alloc A2).alloc A3).alloc A4).alloc A5).alloc A6).alloc A7).heap[w.heap.size]? = some A0 ∧ ((((((((w.alloc A0).alloc A1).alloc A2).alloc A3).alloc A4).alloc A5).alloc A6).alloc A7).heap[w.heap.size + 1]? = some A1 ∧ ((((((((w.alloc A0).alloc A1).alloc A2).alloc A3).alloc A4).alloc A5).alloc A6).alloc A7).heap[w.heap.size + 1 + 1]? = some A2 ∧ ((((((((w.alloc A0).alloc A1).alloc A2).alloc A3).alloc A4).alloc A5).alloc A6).alloc A7).heap[w.heap.size + 1 + 1 + 1]? = some A3 ∧ ((((((((w.alloc A0).alloc A1).alloc A2).alloc A3).alloc A4).alloc A5).alloc A6).alloc A7).heap[w.heap.size + 1 + 1 + 1 + 1]? = some A4 ∧ ((((((((w.alloc A0).alloc A1).alloc A2).alloc A3).alloc A4).alloc A5).alloc A6).alloc A7).heap[w.heap.size + 1 + 1 + 1 + 1 + 1]? = some A5 ∧ ((((((((w.alloc A0).alloc A1).alloc A2).alloc A3).alloc A4).alloc A5).alloc A6).alloc A7).heap[w.heap.size + 1 + 1 + 1 + 1 + 1 + 1]? = some A6 ∧ ((((((((w.alloc A0).alloc A1).alloc A2).alloc A3).alloc A4).alloc A5).alloc A6).alloc A7).heap[w.heap.size + 1 + 1 + 1 + 1 + 1 + 1 + 1]? = some A7 ∧ ((((((((w.alloc A0).alloc A1).alloc A2).alloc A3).alloc A4).alloc A5).alloc A6).alloc A7).heap.size = w.heap.size + 1 + 1 + 1 + 1 + 1 + 1 + 1 + 1 ∧ Below w.heap.size w ((((((((w.alloc A0).alloc A1).alloc A2).alloc A3).alloc A4).alloc A5).alloc A6).alloc A7) := by
  obtain ⟨h0, h1, h2, h3, h4, h5, h6, hz, hb⟩ := boxes7 w A0 A1 A2 A3 A4 A5 A6
  refine ⟨row_below h0 (below_alloc0 _ _), row_below h1 (below_alloc0 _ _), row_below h2 (below_alloc0 _ _), row_below h3 (below_alloc0 _ _), row_below h4 (below_alloc0 _ _), row_below h5 (below_alloc0 _ _), row_below h6 (below_alloc0 _ _), ?_, ?_, hb.alloc hb.size _⟩
  · rw [← hz]; exact heap_alloc_last _ _
  · rw [size_alloc, hz]
/-- What a call leaves that gave up, or ended well: the error's own variable is another one. -/
theorem callFn {fn : Nat} (cap : Array Value) (w : World) : (callFunc fn cap).run Tryz.prog w = .ok (.enter fn cap) w ∨ True := .inr trivial
end Go.Proofs.YtldfmlkjeniemaaGreatDoor
/- package object: Place. -/
set_option linter.unusedVariables false
namespace Go.Proofs.YtldfmlkjeniemaaGreatDoor
open Go.RowKit Go.Ly Go.Hd Go.Sh Go.Ob
abbrev iO (x : Int) : Obj := .cells #[.int .i64 x] 3
abbrev paO (P : Option Addr) : Obj := .cells #[.pointer P] 30
abbrev plO (t s : Int) (a : Option Addr) (n c : Nat) : Obj := .cells #[.int .i64 t, .int .i64 s, .slice a n c] 24
set_option maxRecDepth 100000 in
set_option maxHeartbeats 2000000 in
theorem Place_up (k : Int) (P : Option Addr) (t s : Int) (a : Option Addr) (n c : Nat) (x f : Int) (w : World)
    (hc : ∀ (W0 We : World) (ga gp gt gf gx : Nat), Hs6 W0 ga 0 (.pointer P) gp 0 (.int .i64 t) gp 1 (.int .i64 s) gp 2 (.slice a n c) gt 0 (.int .i64 x) gf 0 (.int .i64 f) W0 → Below W0.heap.size W0 We → Below w.heap.size w We →
      Calls Tryz.prog 44 #[.pointer (some ⟨ga, 0, none⟩), .pointer (some ⟨gp, 0, none⟩), .pointer (some ⟨gt, 0, none⟩), .pointer (some ⟨gf, 0, none⟩), .pointer (some ⟨gx, 0, none⟩)] We fun e w' => e = upE k ∧ Below We.heap.size We w') :
    Calls Tryz.prog 20 #[.pointer P, planV t s a n c, .int .i64 x, .int .i64 f] w fun e w' => e = .returned (.tuple #[.int .i64 0, .int .i64 k]) ∧ Below w.heap.size w w' := by
  have hmf : ∀ (fn : Fn) (first cap : Array Value) (w : World), (Instr.makeFunc fn first cap).run Tryz.prog w = .ok (.func fn first cap) w := fun _ _ _ _ => rfl
  go_enter Tryz.func20, Tryz.ntmps20
  go_wp2_with fail
  have hcf : ∀ (cap : Array Value) (w : World), (callFunc 44 cap).run Tryz.prog w = .ok (.enter 44 cap) w := fun _ _ => rfl
  have hr := boxes4 w (paO P) (plO t s a n c) (iO x) (iO f)
  generalize (((w.alloc (paO P)).alloc (plO t s a n c)).alloc (iO x)).alloc (iO f) = W0 at *
  obtain ⟨Ra, Rp, Rt, Rf, zW, BW⟩ := hr
  have hh := hc W0 ((W0.alloc (iO 0)).alloc (errO 0)) w.heap.size (w.heap.size + 1) (w.heap.size + 1 + 1) (w.heap.size + 1 + 1 + 1) (w.heap.size + 1 + 1 + 1 + 1)
    ⟨at_row Ra 0 rfl, at_row Rp 0 rfl, at_row Rp 1 rfl, at_row Rp 2 rfl, at_row Rt 0 rfl, at_row Rf 0 rfl, Below.refl _ _⟩ (bel_two _ _ _) (BW.trans ((bel_two _ _ _).mono BW.size))
  obtain ⟨Rn, Re, zE, BE⟩ := boxes2 W0 (iO 0) (errO 0)
  rw [← zW] at hh ⊢
  have hn1 := size_alloc W0 (iO 0)
  refine (caught_up _ _ k _ (fun w1 => Below ((W0.alloc (iO 0)).alloc (errO 0)).heap.size ((W0.alloc (iO 0)).alloc (errO 0)) w1) (hcf _) (hh.mono ?_)).mono ?_
  · rintro e w1 ⟨rfl, b⟩
    exact ⟨rfl, by rw [hn1]; exact row_below Re b, b⟩
  rintro e w' ⟨rfl, w1, w2, b1, _, b2, rfl⟩
  have Rn2 := okeep_row (i := 0) (v := .int .i64 k) (show W0.heap.size ≠ (W0.alloc (iO 0)).heap.size by omega) (row_below (row_below Rn b1) b2)
  have B2 := hid ((BW.trans ((BE.trans ((b1.trans (b2.mono b1.size)).mono BE.size)).mono BW.size)).setCell (p := ⟨(W0.alloc (iO 0)).heap.size, 0, none⟩) (by have := BW.size; show w.heap.size ≤ (W0.alloc (iO 0)).heap.size; omega) (.int .i64 k))
  have n0 := at_row Rn2 0 rfl
  clear hh hc b1 b2 Rn2 Rn Re zW zE hn1
  dsimp only
  generalize w2.setCell _ _ = W3 at *
  go_wp2

  go_ret2
  exact ⟨rfl, B2.out⟩
set_option maxRecDepth 100000 in
set_option maxHeartbeats 2000000 in
theorem Place_okc (z : Int) (P : Option Addr) (t s : Int) (a : Option Addr) (n c : Nat) (x f : Int) (w : World)
    (hc : ∀ (W0 We : World) (ga gp gt gf gx : Nat), Hs6 W0 ga 0 (.pointer P) gp 0 (.int .i64 t) gp 1 (.int .i64 s) gp 2 (.slice a n c) gt 0 (.int .i64 x) gf 0 (.int .i64 f) W0 → Below W0.heap.size W0 We → Below w.heap.size w We → W0.heap.size ≤ gx → We.heap[gx]? = some (iO 0) →
      Calls Tryz.prog 44 #[.pointer (some ⟨ga, 0, none⟩), .pointer (some ⟨gp, 0, none⟩), .pointer (some ⟨gt, 0, none⟩), .pointer (some ⟨gf, 0, none⟩), .pointer (some ⟨gx, 0, none⟩)] We fun e w' => e = .returned (.tuple #[]) ∧ ∃ w3, Below We.heap.size We w3 ∧ w' = w3.setCell ⟨gx, 0, none⟩ (.int .i64 z)) :
    Calls Tryz.prog 20 #[.pointer P, planV t s a n c, .int .i64 x, .int .i64 f] w fun e w' => e = .returned (.tuple #[.int .i64 z, .int .i64 0]) ∧ Below w.heap.size w w' := by
  have hmf : ∀ (fn : Fn) (first cap : Array Value) (w : World), (Instr.makeFunc fn first cap).run Tryz.prog w = .ok (.func fn first cap) w := fun _ _ _ _ => rfl
  go_enter Tryz.func20, Tryz.ntmps20
  go_wp2_with fail
  have hcf : ∀ (cap : Array Value) (w : World), (callFunc 44 cap).run Tryz.prog w = .ok (.enter 44 cap) w := fun _ _ => rfl
  have hr := boxes4 w (paO P) (plO t s a n c) (iO x) (iO f)
  generalize (((w.alloc (paO P)).alloc (plO t s a n c)).alloc (iO x)).alloc (iO f) = W0 at *
  obtain ⟨Ra, Rp, Rt, Rf, zW, BW⟩ := hr
  have hh := hc W0 ((W0.alloc (iO 0)).alloc (errO 0)) w.heap.size (w.heap.size + 1) (w.heap.size + 1 + 1) (w.heap.size + 1 + 1 + 1) (w.heap.size + 1 + 1 + 1 + 1)
    ⟨at_row Ra 0 rfl, at_row Rp 0 rfl, at_row Rp 1 rfl, at_row Rp 2 rfl, at_row Rt 0 rfl, at_row Rf 0 rfl, Below.refl _ _⟩ (bel_two _ _ _) (BW.trans ((bel_two _ _ _).mono BW.size)) (by omega)
  obtain ⟨Rn, Re, zE, BE⟩ := boxes2 W0 (iO 0) (errO 0)
  rw [← zW] at hh ⊢
  have hh := hh Rn
  have hn1 := size_alloc W0 (iO 0)
  refine (caught_ok _ _ _ (fun w1 => ∃ w3, Below ((W0.alloc (iO 0)).alloc (errO 0)).heap.size ((W0.alloc (iO 0)).alloc (errO 0)) w3 ∧ w1 = w3.setCell ⟨W0.heap.size, 0, none⟩ (.int .i64 z)) (hcf _) (hh.mono ?_)).mono ?_
  · rintro e w1 ⟨rfl, w3, b, rfl⟩
    exact ⟨rfl, okeep_row (by omega) (by rw [hn1]; exact row_below Re b), w3, b, rfl⟩
  rintro e w' ⟨rfl, w1, ⟨w3, b, rfl⟩, _, rfl⟩
  have Rn2 := okeep_row (i := 0) (v := .int .i64 0) (show W0.heap.size ≠ (W0.alloc (iO 0)).heap.size by omega) (set_row (row_below Rn b) (.int .i64 z) (i := 0))
  have B2 := hid (((BW.trans ((BE.trans (b.mono BE.size)).mono BW.size)).setCell (p := ⟨W0.heap.size, 0, none⟩) BW.size (.int .i64 z)).setCell (p := ⟨(W0.alloc (iO 0)).heap.size, 0, none⟩) (by have := BW.size; show w.heap.size ≤ (W0.alloc (iO 0)).heap.size; omega) (.int .i64 0))
  have n0 := at_row Rn2 0 rfl
  clear hh hc b Rn2 Rn Re zW zE hn1
  dsimp only
  generalize World.setCell (World.setCell _ _ _) _ _ = W3 at *
  go_wp2
  go_ret2
  exact ⟨rfl, B2.out⟩
/-- What Place answers. -/
def plv (t s : Int) (xs : List Int) (ss : List ByteArray) (x f : Int) : Int × Int :=
  if spc t s x = false then (0, 4) else if osz xs ss (eo t s x) x = 0 then (0, 170) else if f < 0 ∨ osz xs ss (eo t s x) x - 2 ≤ f then (0, 131) else (x + 2 + f, 0)
theorem Place_nil (P : Option Addr) (a0 : Option Addr) (c0 : Nat) (t s : Int) (a : Option Addr) (n c : Nat) (x f : Int) (w : World) (hf : Faces w (.pointer P) (.slice a0 0 c0)) :
    Calls Tryz.prog 20 #[.pointer P, planV t s a n c, .int .i64 x, .int .i64 f] w fun e w' => e = .returned (.tuple #[.int .i64 0, .int .i64 1]) ∧ Below w.heap.size w w' :=
  Place_up 1 P t s a n c x f w fun W0 We ga gp gt gf gx H0 HB HW => clop_open W0 We ga gp gt gf gx P t s a n c x f H0 HB 1 fun W hW => open_nil _ a0 c0 t s a n c W (hf.below (HW.trans (hW.mono HW.size)))
theorem Place_arg (A B : Nat) (xs : List Int) (ss : List ByteArray) (z : Int) (t s : Int) (a : Option Addr) (n c : Nat) (x f : Int) (w : World) (hT : IsTab w (.slice a n c) ss) (ha : IsAr w A B xs) (hr : rgt t s ss = true) (hz : 3 + t + t + 2 * s = z) (hl : ((z : Int) != xs.length) = true) :
    Calls Tryz.prog 20 #[.pointer (some ⟨A, 0, none⟩), planV t s a n c, .int .i64 x, .int .i64 f] w fun e w' => e = .returned (.tuple #[.int .i64 0, .int .i64 2]) ∧ Below w.heap.size w w' :=
  Place_up 2 _ t s a n c x f w fun W0 We ga gp gt gf gx H0 HB HW => clop_open W0 We ga gp gt gf gx _ t s a n c x f H0 HB 2 fun W hW => open_bad t s a n c ss A B xs z W (hT.below (Nat.le_refl _) (HW.trans (hW.mono HW.size))) (ha.below (HW.trans (hW.mono HW.size))) hr hz hl
theorem spc_in {t s x : Int} {xs : List Int} (h : spc t s x = true) (t0 : 1 ≤ t) (hl : (xs.length : Int) = 3 + t + t + 2 * s) : 0 ≤ x ∧ x < xs.length := by
  simp [spc] at h; omega
theorem Place_at (A B : Nat) (xs : List Int) (ss : List ByteArray) (t s : Int) (a : Option Addr) (n c : Nat) (x f v er : Int) (w : World) (h : IsHp w t s a n c ss A B xs) (hv : Hid (plv t s xs ss x f = (v, er))) :
    Calls Tryz.prog 20 #[.pointer (some ⟨A, 0, none⟩), planV t s a n c, .int .i64 x, .int .i64 f] w fun e w' => e = .returned (.tuple #[.int .i64 v, .int .i64 er]) ∧ Below w.heap.size w w' := by
  have hv := hv.out
  obtain ⟨t0, t1, s0, s1, hx9⟩ := h.size
  have co := fun (We : World) (HW : Below w.heap.size w We) W (hW : Below We.heap.size We W) => open_ok t s a n c ss A B xs W (h.below (HW.trans (hW.mono HW.size)))
  by_cases h1 : spc t s x = false
  · rw [plv, if_pos h1] at hv
    cases hv
    exact Place_up 4 _ t s a n c x f w fun W0 We ga gp gt gf gx H0 HB HW => clop_to W0 We ga gp gt gf gx _ t s a n c x f H0 HB 4 A (co We HW) fun L W hW hL => to_no t s a n c ss _ 0 0 x W (h.tab.below (Nat.le_refl _) (HW.trans (hW.mono HW.size))) h.rg ⟨_, _, _, rfl⟩ h1
  · rw [plv, if_neg h1] at hv
    have h1 : spc t s x = true := by simpa using h1
    obtain ⟨x0, x9⟩ := spc_in h1 t0 h.len
    have he := eo_bd s0 h1
    obtain ⟨q, rfl⟩ := Int.eq_ofNat_of_zero_le x0
    have hq : q < xs.length := by omega
    have e0 : 0 ≤ eo t s q := by omega
    have e1 : eo t s q ≤ 20000 := by omega
    have ct := fun (We : World) (HW : Below w.heap.size w We) (L : Nat) W (hW : Below We.heap.size We W) (_ : W.heap[L]? = some (arO A)) => to_ok t s a n c ss L 0 0 q W (h.tab.below (Nat.le_refl _) (HW.trans (hW.mono HW.size))) h.rg h1
    obtain ⟨z, hz⟩ : ∃ z, Hid (osz xs ss (eo t s q) q = z) := ⟨_, hid rfl⟩
    rw [hz.out] at hv
    by_cases h2 : z = 0
    · rw [if_pos h2] at hv
      cases hv
      exact Place_up 170 _ t s a n c q f w fun W0 We ga gp gt gf gx H0 HB HW => clop_last W0 We ga gp gt gf gx _ t s a n c q f H0 HB 170 _ A (co We HW) (ct We HW) fun L W hW hL => place_no t s a n c ss L A B xs q _ f W (h.below (HW.trans (hW.mono HW.size))) hL hq e0 e1 (hid (hz.out.trans h2))
    · rw [if_neg h2] at hv
      have hzz : 2 ≤ z ∧ z ≤ 10 := by
        rcases osz_cases xs ss (eo t s q) q with h3 | h3
        · rw [hz.out] at h3; exact absurd h3 h2
        · rw [hz.out] at h3; exact ⟨h3.1, h3.2.1⟩
      by_cases h3 : f < 0 ∨ z - 2 ≤ f
      · rw [if_pos h3] at hv
        cases hv
        exact Place_up 131 _ t s a n c q f w fun W0 We ga gp gt gf gx H0 HB HW => clop_last W0 We ga gp gt gf gx _ t s a n c q f H0 HB 131 _ A (co We HW) (ct We HW) fun L W hW hL => place_out t s a n c ss L A B xs q _ z f W (h.below (HW.trans (hW.mono HW.size))) hL hq e0 e1 hz hzz.1 hzz.2 h3
      · rw [if_neg h3] at hv
        cases hv
        exact Place_okc _ _ t s a n c q f w fun W0 We ga gp gt gf gx H0 HB HW hgx Rx => clop_ok W0 We ga gp gt gf gx _ t s a n c q f H0 HB _ A _ hgx Rx (co We HW) (ct We HW) fun L W hW hL => place_yes t s a n c ss L A B xs q _ z f W (h.below (HW.trans (hW.mono HW.size))) hL hq e0 e1 hz hzz.1 hzz.2 (by omega) (by omega)
end Go.Proofs.YtldfmlkjeniemaaGreatDoor
/- The document's functions (lapidaryref03): One, Right, Size, Most, Kind, Is. -/
namespace Go.Proofs.YtldfmlkjeniemaaGreatDoor
open Go.RowKit Go.Sh
theorem get_data (s : ByteArray) (k : Nat) (h : k < s.size) : s.data.toList.getD k 0 = s[k]'h := by
  have hl : k < s.data.toList.length := by rw [Array.length_toList]; exact h
  rw [List.getD_eq_getElem?_getD, List.getElem?_eq_getElem hl, Option.getD_some]
  rfl
theorem ne112 {b : UInt8} (h : ¬ b = 112) : ((b.toNat : Int) == 112) = false := by
  rw [beq_eq_false_iff_ne]
  intro e
  apply h
  apply UInt8.toNat_inj.1
  simp
  omega
theorem ne115 {b : UInt8} (h : ¬ b = 115) : ((b.toNat : Int) == 115) = false := by
  rw [beq_eq_false_iff_ne]
  intro e
  apply h
  apply UInt8.toNat_inj.1
  simp
  omega
theorem bne_of {a b : Int} (h : (a == b) = false) : (a != b) = true := by simp [bne, h]
theorem bne_no {a b : Int} (h : (a == b) = true) : (a != b) = false := by simp [bne, h]
theorem rOne_long (s : ByteArray) (w : World) (h : 8 < s.size) : Calls Tryz.prog 66 #[.string s] w fun e w' => e = .returned (.bool false) ∧ w' = w := by
  have h' : (8 : Int) < (s.size : Int) := by omega
  go_enter Tryz.func66, Tryz.ntmps66
  go_wp2
  go_ret
  exact ⟨rfl, rfl⟩
set_option maxRecDepth 100000 in
set_option maxHeartbeats 2000000 in
theorem rOne_short (s : ByteArray) (w : World) (h : s.size ≤ 8) : Calls Tryz.prog 66 #[.string s] w fun e w' => e = .returned (.bool (one s)) ∧ w' = w := by
  have h' : (s.size : Int) ≤ 8 := by omega
  go_enter Tryz.func66, Tryz.ntmps66
  go_wp2
  go_loopw [3] (fun i wr => ∃ k : Nat, k ≤ s.size ∧ i = .int .i64 k ∧ wr = w ∧ Hid (∀ j, j < k → okB (s.data.toList.getD j 0) = true)) (fun i _ => s.size - (intOf i).toNat)
  case atStart => exact ⟨0, by omega, rfl, rfl, hid (fun j hj => by omega)⟩
  case round =>
    obtain ⟨k, hk, rfl, rfl, hall⟩ := hrel
    by_cases hlt : k < s.size
    · by_cases h1 : s[k]'hlt = 112
      · have HK := hid h1
        go_wp2
        refine ⟨⟨k + 1, by omega, by simp, trivial, hid (fun j hj => ?_)⟩, by simp [intOf]; omega⟩
        by_cases hj2 : j < k
        · exact hall.out j hj2
        · obtain rfl : j = k := by omega
          rw [get_data s j hlt]; rw [HK.out]; rfl
      · have e1 := bne_of (ne112 h1)
        by_cases h2 : s[k]'hlt = 115
        · have HK := hid h2
          have e2 : (((s[k]'hlt).toNat : Int) != 115) = false := by rw [h2]; rfl
          clear h1 h2
          go_wp2
          refine ⟨⟨k + 1, by omega, by simp, trivial, hid (fun j hj => ?_)⟩, by simp [intOf]; omega⟩
          by_cases hj2 : j < k
          · exact hall.out j hj2
          · obtain rfl : j = k := by omega
            rw [get_data s j hlt]; rw [HK.out]; rfl
        · have e2 := bne_of (ne115 h2)
          have HN : Hid (one s = false) := hid (one_no s k hlt (by rw [get_data s k hlt]; simp [okB, h1, h2]))
          clear h1 h2
          go_wp2
          go_ret
          exact ⟨ret_bool HN.out.symm, rfl⟩
    · obtain rfl : k = s.size := by omega
      have HN := hid (all_upto s s.size hall.out (Nat.le_refl _) h)
      go_wp2
      go_ret
      exact ⟨ret_bool HN.out.symm, rfl⟩
theorem rOne_any (s : ByteArray) (w : World) : Calls Tryz.prog 66 #[.string s] w fun e w' => e = .returned (.bool (one s)) ∧ w' = w := by
  by_cases h : s.size ≤ 8
  · exact rOne_short s w h
  · refine (rOne_long s w (by omega)).mono ?_
    rintro e w' ⟨rfl, b⟩
    have : one s = false := by simp [one, h]
    exact ⟨by rw [this], b⟩
theorem rRight_none (a : Option Addr) (cap : Nat) (w : World) : Calls Tryz.prog 40 #[.slice a 0 cap] w fun e w' => e = .returned (.bool false) ∧ w' = w := by
  go_enter Tryz.func40, Tryz.ntmps40
  go_wp2
  go_ret
  exact ⟨rfl, rfl⟩
theorem rRight_many (a : Option Addr) (len cap : Nat) (h : 16 < len) (w : World) : Calls Tryz.prog 40 #[.slice a len cap] w fun e w' => e = .returned (.bool false) ∧ w' = w := by
  have h1 : (1 : Int) ≤ (len : Int) := by omega
  have h2 : (16 : Int) < (len : Int) := by omega
  go_enter Tryz.func40, Tryz.ntmps40
  go_wp2
  go_ret
  exact ⟨rfl, rfl⟩
set_option maxRecDepth 100000 in
set_option maxHeartbeats 2000000 in
theorem rRight_some (b off cap : Nat) (ss : List ByteArray) (w : World) (h1 : 1 ≤ ss.length) (h16 : ss.length ≤ 16) (hc : Hid (∀ i, i < ss.length → w.cell? ⟨b, off + i, none⟩ = some (.string (at' ss i)))) :
    Calls Tryz.prog 40 #[.slice (some ⟨b, off, none⟩) ss.length cap] w fun e w' => e = .returned (.bool (ss.all one)) ∧ w' = w := by
  have g1 : (1 : Int) ≤ (ss.length : Int) := by omega
  have g2 : (ss.length : Int) ≤ 16 := by omega
  obtain ⟨len, hlen⟩ : ∃ len, len = ss.length := ⟨_, rfl⟩
  have HL := hid hlen
  rw [← hlen] at h1 h16 g1 g2
  rw [← hlen]
  clear hlen
  go_enter Tryz.func40, Tryz.ntmps40
  go_wp2
  go_loopw [3] (fun i wr => ∃ k : Nat, k ≤ len ∧ i = .int .i64 k ∧ wr = w ∧ Hid (∀ j, j < k → one (at' ss j) = true)) (fun i _ => len - (intOf i).toNat)
  case atStart => exact ⟨0, by omega, rfl, rfl, hid (fun j hj => by omega)⟩
  case round =>
    obtain ⟨k, hk, rfl, rfl, hall⟩ := hrel
    by_cases hlt : k < len
    · have hcr := hc.out k (by rw [← HL.out]; exact hlt)
      obtain ⟨x, hx⟩ : ∃ x, x = at' ss k := ⟨_, rfl⟩
      rw [← hx] at hcr
      have HX := hid hx
      clear hx
      by_cases ho : one x = true
      · have c := rOne_any x wr
        rw [ho] at c
        go_wp2_with (go_at_call 66; refine c.mono ?_; rintro e w2 ⟨rfl, rfl⟩)
        refine ⟨⟨k + 1, by omega, by simp, trivial, hid (fun j hj => ?_)⟩, by simp [intOf]; omega⟩
        by_cases hj2 : j < k
        · exact hall.out j hj2
        · obtain rfl : j = k := by omega
          rw [← HX.out]; exact ho
      · have ho' : one x = false := by simpa using ho
        have c := rOne_any x wr
        rw [ho'] at c
        have HN : Hid (ss.all one = false) := hid (all_take_false (k := k) (by rw [← HL.out]; exact hlt) (by rw [← HX.out]; exact ho'))
        go_wp2_with (go_at_call 66; refine c.mono ?_; rintro e w2 ⟨rfl, rfl⟩)
        go_ret
        exact ⟨ret_bool HN.out.symm, rfl⟩
    · obtain rfl : k = len := by omega
      have HN : Hid (ss.all one = true) := hid (all_of_at (fun j hj => hall.out j (by rw [HL.out]; exact hj)))
      go_wp2
      go_ret
      exact ⟨ret_bool HN.out.symm, rfl⟩
theorem rRight_any (v : Value) (ss : List ByteArray) (w : World) (h : IsTab w v ss) :
    Calls Tryz.prog 40 #[v] w fun e w' => e = .returned (.bool (right ss)) ∧ w' = w := by
  by_cases h0 : ss.length = 0
  · obtain ⟨a, cap, rfl⟩ := h.len
    rw [h0]
    refine (rRight_none a cap w).mono ?_
    rintro e w' ⟨rfl, b⟩
    exact ⟨ret_bool (by simp [right, h0]), b⟩
  · by_cases h16 : ss.length ≤ 16
    · obtain ⟨b, off, cap, rfl, hc⟩ := h.some (by omega)
      refine (rRight_some b off cap ss w (by omega) h16 (hid hc)).mono ?_
      rintro e w' ⟨rfl, b⟩
      exact ⟨ret_bool (by simp [right, h16, show 1 ≤ ss.length by omega]), b⟩
    · obtain ⟨a, cap, rfl⟩ := h.len
      refine (rRight_many a _ cap (by omega) w).mono ?_
      rintro e w' ⟨rfl, b⟩
      exact ⟨ret_bool (by simp [right, h16]), b⟩
theorem ret_pair {p : Int × Int} {a c : Int} (h : p = (a, c)) : Ending.returned (.tuple #[.int .i64 a, .int .i64 c]) = .returned (.tuple #[.int .i64 p.1, .int .i64 p.2]) := by rw [h]
theorem rSize_any (v : Value) (ss : List ByteArray) (n : Int) (w : World) (h : IsTab w v ss) :
    Calls Tryz.prog 37 #[v, .int .i64 n] w fun e w' => e = .returned (.tuple #[.int .i64 (sz ss n).1, .int .i64 (sz ss n).2]) ∧ w' = w := by
  have c := rRight_any v ss w h
  by_cases hr : right ss = true
  · have h16 := (right_len hr).2
    rw [hr] at c
    by_cases h0 : n < 0
    · have HS := hid (sz_out (n := n) hr (by simp [inR]; omega))
      obtain ⟨a, cap, rfl⟩ := h.len
      clear h hr
      go_enter Tryz.func37, Tryz.ntmps37
      go_wp2_with (go_at_call 40; refine c.mono ?_; rintro e w1 ⟨rfl, rfl⟩)
      go_ret2
      exact ⟨ret_pair HS.out, rfl⟩
    · by_cases h1 : (ss.length : Int) ≤ n
      · have HS := hid (sz_out (n := n) hr (by simp [inR]; omega))
        obtain ⟨a, cap, rfl⟩ := h.len
        have h0' : 0 ≤ n := by omega
        clear h hr h0
        go_enter Tryz.func37, Tryz.ntmps37
        go_wp2_with (go_at_call 40; refine c.mono ?_; rintro e w1 ⟨rfl, rfl⟩)
        go_ret2
        exact ⟨ret_pair HS.out, rfl⟩
      · obtain ⟨k, rfl⟩ : ∃ k : Nat, n = k := ⟨n.toNat, by omega⟩
        have hk : k < ss.length := by omega
        have HS := hid (sz_in (n := k) hr (by simp [inR]; omega))
        have h8 := one_size (right_all hr k hk)
        obtain ⟨b, off, cap, rfl, hc⟩ := h.some (by omega)
        have hcell := hc k hk
        rw [Int.toNat_natCast] at HS
        clear h hr h0 h1 hc
        generalize at' ss k = x at *
        generalize ss.length = len at *
        go_enter Tryz.func37, Tryz.ntmps37
        go_wp2_with (go_at_call 40; refine c.mono ?_; rintro e w1 ⟨rfl, rfl⟩)
        go_ret2
        exact ⟨ret_pair HS.out, rfl⟩
  · have hr' : right ss = false := by simpa using hr
    rw [hr'] at c
    have HS := hid (sz_no (n := n) hr')
    clear hr hr' h
    go_enter Tryz.func37, Tryz.ntmps37
    go_wp2_with (go_at_call 40; refine c.mono ?_; rintro e w1 ⟨rfl, rfl⟩)
    go_ret2
    exact ⟨ret_pair HS.out, rfl⟩
theorem fd_out {s : ByteArray} {f : Int} (h : inR f s.size = false) : fd s f = (0, 131) := by simp [fd, h]
theorem fd_in {s : ByteArray} {j : Nat} (h : j < s.size) : fd s j = (kb (s[j]'h), 0) := by
  have : inR (j : Int) s.size = true := by simp [inR]; omega
  simp only [fd, this, if_true, Int.toNat_natCast, get_data s j h]
end Go.Proofs.YtldfmlkjeniemaaGreatDoor
