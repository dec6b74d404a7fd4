/- package arena: Same of arenas that are not there. -/
import Derived.Test.YtlmkbnebpaopeabArSame
namespace Go.Proofs.Ytlmkbnebpaopeab
open Go.RowKit Go.Shelf
attribute [local go_sem] Oper.semAt_some
set_option maxRecDepth 10000000 in
set_option maxHeartbeats 8000000 in
theorem unlike_none (Bs : Nat) (a1 a2 : Option Addr) (c1 n2 c2 : Nat) (most : Int) (w : World) (hBs : w.cell? ⟨Bs, 0, none⟩ = some (.slice a1 0 c1)) :
    CallsIn Fence.wide 4 Try.prog 22 #[.func (.func 27) #[] #[.pointer (some ⟨Bs, 0, none⟩)], .slice a2 n2 c2, .int .i64 most] w fun e W' =>
      e = .returned (.slice none 0 0) ∧ Below w.heap.size w W' := by
  refine callsIn_of_wp_marks Try.func22 rfl trivial ?_ rfl
  simp only [Try.ntmps22, List.size_toArray, List.length_cons, List.length_nil, Nat.reduceAdd, Nat.reduceSub, Array.replicate_succ, Array.replicate_zero, List.push_toArray, List.append_toArray, List.nil_append, List.cons_append]
  gi_wp2
  refine ascope_wide ?_
  gi_wp2
  refine wpIn_label ?_
  gi_wp2
  have H0 := uqB_start w (.slice a2 n2 c2) most
  have hBs0 := fun (W : World) (bw : Below w.heap.size w W) => (bw.cell (p := ⟨Bs, 0, none⟩) (block_lt_of_cell hBs)).trans hBs
  clear hBs
  revert H0
  generalize World.alloc (World.alloc (World.alloc w _) _) _ = w0
  intro H0
  have h0 := hid H0
  have HBs := hid (hBs0 w0 H0.2.2.2.2)
  clear H0 hBs0
  refine wpIn_rangeFunc_ownG (Q := _) rfl (by decide) (gf := 27) (lb := #[.pointer (some ⟨Bs, 0, none⟩)]) rfl trivial (enters_of Try.func27 (by kernel_rfl) rfl)
    (AllN_stops 3 Bs a1 c1 w0 HBs.out) walksK_t walksK_b (Below.refl _ _) (fun _ => rfl)
    (fun _ W => UqB w (.slice a2 n2 c2) most (.slice none 0 0) [] W)
    (fun _ _ _ => False)
    (fun pre A B row hs hg hr => hs.own (by have := h0.out.size; omega) hg hr)
    (fun _ _ _ _ _ hs _ _ => hs)
    h0.out ?a1 ?assign ?body ?done ?stop
  case assign =>
    intro l x W K hK
    dsimp only [encW]
    gi_wp2
    exact hK
  case body =>
    intro l pre x W _ hlen
    omega
  case done =>
    rintro D zs W hD rfl hA hK
    have k2 := hA.2.2.1.cell
    gi_wp2
    refine ⟨by simp, .inl ⟨_, _, rfl, run_takeDeferred hK, ?_⟩⟩
    exact ⟨_, results_tmp rfl _ _ _, rfl, hA.2.2.2.2.trans (belowK_b (w := w) (Nat.le_refl _) W D _ _ (by have := h0.out.size; omega) hK rfl rfl)⟩
  case stop =>
    rintro D cd pre W hD _ h _
    exact h.elim
theorem Same_none (p1 p2 : Value) (a1 a2 : Option Addr) (c1 c2 : Nat) (w : World) (h1 : Faces w p1 (.slice a1 0 c1)) (h2 : Faces w p2 (.slice a2 0 c2)) :
    Calls Try.prog 13 #[p1, p2] w fun e W' => e = .returned (.bool true) ∧ Below w.heap.size w W' := by
  have d1 := Len_at _ _ _ _ w h1
  have d2 := Len_at _ _ _ _ w h2
  have d3 := AllA_at _ _ _ _ w h1
  have d4 := list_at _ _ _ (h2.below (below_alloc0 w (.cells #[.slice a1 0 c1] 28)))
  have cu := callsIn_wide.1 (unlike_none w.heap.size a1 a2 c1 0 c2 1 (w.alloc (.cells #[.slice a1 0 c1] 28)) (cell_last w _ _ 0 _ rfl))
  go_enter Try.func13, Try.ntmps13
  go_wp2_with (go_at_call 11; refine d1.mono ?_)
  rintro e w' ⟨rfl, hw⟩; rw [hw]; clear hw w'
  go_wp2_with (go_at_call 11; refine d2.mono ?_)
  rintro e w' ⟨rfl, hw⟩; rw [hw]; clear hw w'
  go_wp2_with (go_at_call 8; refine d3.mono ?_)
  rintro e w' ⟨rfl, hw⟩; rw [hw]; clear hw w'
  go_wp2_with (go_at_call 19; refine d4.mono ?_)
  rintro e w' ⟨rfl, hw⟩; rw [hw]; clear hw w'
  go_wp2_with (go_at_call 22; refine cu.mono ?_; rintro e w' ⟨rfl, b1⟩)
  go_ret
  exact ⟨rfl, bel1 b1⟩
end Go.Proofs.Ytlmkbnebpaopeab
