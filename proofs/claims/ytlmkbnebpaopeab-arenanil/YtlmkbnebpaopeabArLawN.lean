/- The walk of the law ArenaNil. -/
import Derived.Test.YtlmkbnebpaopeabArSameN
import Derived.Test.YtlmkbnebpaopeabArWorks
namespace Go.Proofs.Ytlmkbnebpaopeab
open Go.RowKit Go.Shelf
attribute [local go_sem] Oper.semAt_some
/-- What ArenaNil's boxes hold: the access, a zero arena. -/
structure NlS (w : World) (xk xp xo xn : Int) (W : World) : Prop where
  x : W.heap[w.heap.size]? = some (.cells #[.int .i64 xk, .int .i64 xp, .int .u64 xo, .int .u64 xn] 25)
  z : Boxed W (w.heap.size + 1) 30 (.slice none 0 0)
  bel : Below w.heap.size w W
theorem NlS.below {w W W' : World} {xk xp xo xn : Int} (h : NlS w xk xp xo xn W) (k : Below W.heap.size W W') : NlS w xk xp xo xn W' :=
  ⟨(k.block _ (Array.getElem?_eq_some_iff.1 h.x).1).trans h.x, (k.block _ h.z.lt).trans h.z, h.bel.trans (k.mono h.bel.size)⟩
theorem NlS.faces {w W : World} {xk xp xo xn : Int} (h : NlS w xk xp xo xn W) : Faces W (.pointer (some ⟨w.heap.size + 1, 0, none⟩)) (.slice none 0 0) := .inr ⟨_, rfl, h.z.cell⟩
theorem NlS.own {w A B : World} {xk xp xo xn : Int} {row : Option Nat} {C : Nat} (h : NlS w xk xp xo xn A) (hC : w.heap.size + 2 ≤ C) (hg : A.grownBy B row) (hr : ∀ r, row = some r → C ≤ r ∧ ∃ o : Obj, A.heap[r]? = some o ∧ o.isCells = false) : NlS w xk xp xo xn B := by
  refine ⟨(hg.block _ (Array.getElem?_eq_some_iff.1 h.x).1 (fun e => ?_)).trans h.x, abox_own h.z hg (fun r e => (hr r e).2), h.bel.grown hg h.bel.size (fun k e => ?_)⟩
  · have := (hr _ e.symm).1; omega
  · have := (hr k e).1; omega
theorem nlS_start (w : World) (xk xp xo xn : Int) : NlS w xk xp xo xn ((w.alloc (.cells #[.int .i64 xk, .int .i64 xp, .int .u64 xo, .int .u64 xn] 25)).alloc (.cells #[.slice none 0 0] 30)) :=
  ⟨(Below.heap_alloc _ _ _ (by simp)).trans (heap_alloc_last w _), abox_last _ _ (by simp) _ _, bel_two w _ _⟩
theorem nil_faces (W : World) : Faces W (.pointer none) (.slice none 0 0) := .inl ⟨rfl, rfl⟩
set_option maxRecDepth 100000 in
theorem nil_leave {w W : World} {D D2 : Nat} {tmps : Array Value} (hB : Below w.heap.size w W) (ht : tmps[4]?.getD undef = .bool true) (hD : w.heap.size ≤ D) (hD2 : w.heap.size ≤ D2) (hne : D ≠ D2) (hK : W.heap[D]? = some (.deferred (some []))) (hK2 : W.heap[D2]? = some (.deferred (some []))) :
    LeavesInM Fence.wide 4 Try.prog Try.f3 tmps (fun e W' => e = .returned (.bool true) ∧ Below w.heap.size w W') [{ target := .collected D2, args := #[] }, { target := .collected D, args := #[] }] .returning W := by
  have hKb : (W.putObj D2 (.deferred none)).heap[D]? = some (.deferred (some [])) := (World.putObj_heap_other (by omega)).trans hK
  have hB1 := hB.trans (belowK_b (w := w) (Nat.le_refl _) W D2 _ (.deferred none) hD2 hK2 rfl rfl)
  have hB2 := hB1.trans (belowK_b (w := w) (Nat.le_refl _) _ D _ (.deferred none) hD hKb rfl rfl)
  refine ⟨by simp, .inl ⟨_, _, rfl, run_takeDeferred hK2, by simp, .inl ⟨_, _, rfl, run_takeDeferred hKb, ?_⟩⟩⟩
  refine ⟨.bool true, ?_, rfl, hB2⟩
  simp [results, Try.f3, go_sem, ht]
set_option maxRecDepth 10000000 in
set_option maxHeartbeats 16000000 in
theorem arenaNil_run (xk xp xo xn wd : Int) (w : World) :
    CallsIn Fence.wide 4 Try.prog 3 #[acc xk xp xo xn, .int .u64 wd] w fun e W' => e = .returned (.bool true) ∧ Below w.heap.size w W' := by
  refine callsIn_of_wp_marks Try.func3 rfl trivial ?_ rfl
  simp only [Try.ntmps3, List.size_toArray, List.length_cons, List.length_nil, Nat.reduceAdd, Nat.reduceSub, Array.replicate_succ, Array.replicate_zero, List.push_toArray, List.append_toArray, List.nil_append, List.cons_append]
  have H0 := hid (nlS_start w xk xp xo xn)
  gi_wp2_with (refine ⟨trivial, ?_⟩; gi_at_call 4; refine (callsIn_wide.2 (Load_nil _ 0 none _ _ (nil_faces _))).mono ?_)
  rintro e w1 ⟨rfl, b1⟩
  have H1 := hid (H0.out.below b1)
  clear b1 H0
  have x1 := at_row H1.out.x 1 rfl
  gi_wp2_with (refine ⟨trivial, ?_⟩; gi_at_call 5; refine (callsIn_wide.2 (Store_nil _ 0 none _ _ _ H1.out.faces)).mono ?_)
  rintro e w2 ⟨rfl, b2⟩
  have H2 := hid (H1.out.below b2)
  clear b2 H1 x1
  have x1 := at_row H2.out.x 1 rfl
  have x2 := at_row H2.out.x 2 rfl
  have x3 := at_row H2.out.x 3 rfl
  gi_wp2_with (refine ⟨trivial, ?_⟩; gi_at_call 6; refine (callsIn_wide.2 (Cas_nil _ 0 none _ _ _ _ (nil_faces _))).mono ?_)
  rintro e w3 ⟨rfl, b3⟩
  have H3 := hid (H2.out.below b3)
  clear b3 H2 x1 x2 x3
  have x0 := at_row H3.out.x 0 rfl
  have x1 := at_row H3.out.x 1 rfl
  have x2 := at_row H3.out.x 2 rfl
  have x3 := at_row H3.out.x 3 rfl
  gi_wp2_with (refine ⟨trivial, ?_⟩; gi_at_call 7; refine (callsIn_wide.2 (Do_nil _ 0 none _ _ _ _ _ H3.out.faces)).mono ?_)
  rintro e w4 ⟨rfl, b4⟩
  have H4 := hid (H3.out.below b4)
  clear b4 H3 x0 x1 x2 x3
  have hf1 := afunc_nil #[.pointer (some ⟨w4.heap.size + 1, 0, none⟩)]
  have hf2 := afunc_nil #[.pointer (some ⟨w4.heap.size + 1 + 1, 0, none⟩)]
  have c1 := AllA_at _ _ _ _ (w4.alloc (.cells #[.int .i64 0] 3)) (nil_faces _)
  have c2 := AllA_at _ _ _ _ ((w4.alloc (.cells #[.int .i64 0] 3)).alloc (.cells #[.slice none 0 0] 28)) (H4.out.below (bel_two w4 _ _)).faces
  have c3 := AllA_at _ _ _ _ (((w4.alloc (.cells #[.int .i64 0] 3)).alloc (.cells #[.slice none 0 0] 28)).alloc (.cells #[.slice none 0 0] 28)) (nil_faces _)
  simp only [size_alloc] at c1 c2 c3
  gi_wp2_with (refine ⟨trivial, ?_⟩; gi_at_call 8; refine (callsIn_wide.2 c1).mono ?_)
  rintro e w' ⟨rfl, hw⟩; rw [hw]; clear hw w'
  gi_wp2_with (refine ⟨trivial, ?_⟩; gi_at_call 8; refine (callsIn_wide.2 c2).mono ?_)
  rintro e w' ⟨rfl, hw⟩; rw [hw]; clear hw w'
  gi_wp2_with (refine ⟨trivial, ?_⟩; gi_at_call 8; refine (callsIn_wide.2 c3).mono ?_)
  rintro e w' ⟨rfl, hw⟩; rw [hw]; clear hw w'
  clear c1 c2 c3 hf1 hf2
  gi_wp2
  have H5 := hid (H4.out.below (((below_alloc0 w4 (.cells #[.int .i64 0] 3)).trans ((bel_three (w4.alloc (.cells #[.int .i64 0] 3)) (.cells #[.slice none 0 0] 28) (.cells #[.slice none 0 0] 28) (.cells #[.slice none 0 0] 28)).mono (by simp)))))
  have N5 := hid ((((Boxed.new w4 3 (.int .i64 0)).alloc (.cells #[.slice none 0 0] 28)).alloc (.cells #[.slice none 0 0] 28)).alloc (.cells #[.slice none 0 0] 28))
  have B5 := hid (abox_last (((w4.alloc (.cells #[.int .i64 0] 3)).alloc (.cells #[.slice none 0 0] 28)).alloc (.cells #[.slice none 0 0] 28)) (w4.heap.size + 1 + 1 + 1) (by simp) 28 (.slice none 0 0))
  have HG : Hid (w.heap.size + 2 ≤ w4.heap.size) := hid H4.out.z.lt
  clear H4
  revert H5 N5 B5
  generalize World.alloc (World.alloc (World.alloc (World.alloc w4 _) _) _) _ = w5
  intro H5 N5 B5
  generalize w4.heap.size = gn at *
  have Z5 := hid N5.out.lt
  refine wpIn_rangeFunc_ownG (Q := _) rfl (by decide) (gf := 27) (lb := #[.pointer (some ⟨gn + 1 + 1 + 1, 0, none⟩)]) rfl trivial (enters_of Try.func27 (by kernel_rfl) rfl)
    (AllN_stops 3 (gn + 1 + 1 + 1) none 0 w5 B5.out.cell) walksK_t walksK_b (Below.refl _ _) (fun _ => rfl)
    (fun _ W => NlS w xk xp xo xn W ∧ Boxed W gn 3 (.int .i64 0))
    (fun _ _ _ => False)
    (fun pre A B row hs hg hr => ⟨hs.1.own (by have := HG.out; have := Z5.out; omega) hg hr, abox_own hs.2 hg (fun r e => (hr r e).2)⟩)
    (fun _ _ _ _ _ hs _ _ => hs)
    ⟨H5.out, N5.out⟩ ?a1 ?assign ?body ?done ?stop
  case assign =>
    intro l x W K hK
    dsimp only [encW]
    gi_wp2
    exact hK
  case body =>
    intro l pre x W _ hlen
    omega
  case stop =>
    rintro D cd pre W hD _ h _
    exact h.elim
  case done =>
    rintro D zs W hD rfl ⟨hS, hN⟩ hK
    have HS := hid hS
    have HN := hid hN
    have HK := hid hK
    have HD := hid hD
    clear hS hN hK hD
    gi_wp2_with (refine ⟨trivial, ?_⟩; gi_at_call 8; refine (callsIn_wide.2 (AllA_at _ _ _ _ _ HS.out.faces)).mono ?_)
    rintro e w' ⟨rfl, hw⟩; rw [hw]; clear hw w'
    gi_wp2
    have S6 := hid (HS.out.below (below_alloc0 W (.cells #[.slice none 0 0] 28)))
    have N6 := hid (HN.out.alloc (.cells #[.slice none 0 0] 28))
    have K6 := hid (((below_alloc0 W (.cells #[.slice none 0 0] 28)).block D (Array.getElem?_eq_some_iff.1 HK.out).1).trans HK.out)
    have B6 := hid (Boxed.new W 28 (.slice none 0 0))
    have L6 : Hid (D < W.heap.size) := hid (Array.getElem?_eq_some_iff.1 HK.out).1
    have G6 : Hid (gn < W.heap.size) := hid HN.out.lt
    clear HS HN HK
    revert S6 N6 K6 B6
    have Z6 : Hid ((W.alloc (.cells #[.slice none 0 0] 28)).heap.size = W.heap.size + 1) := hid (by simp)
    revert Z6
    generalize World.alloc W _ = w6
    intro Z6 S6 N6 K6 B6
    generalize W.heap.size = g6 at *
    refine wpIn_rangeFunc_ownG (Q := _) rfl (by decide) (gf := 27) (lb := #[.pointer (some ⟨g6, 0, none⟩)]) rfl trivial (enters_of Try.func27 (by kernel_rfl) rfl)
      (AllN_stops 3 g6 none 0 w6 B6.out.cell) walksK_t walksK_b (Below.refl _ _) (fun _ => rfl)
      (fun _ W => (NlS w xk xp xo xn W ∧ Boxed W gn 3 (.int .i64 0)) ∧ W.heap[D]? = some (.deferred (some [])))
      (fun _ _ _ => False)
      (fun pre A B row hs hg hr => ⟨⟨hs.1.1.own (by have := HG.out; have := G6.out; have := Z6.out; omega) hg hr, abox_own hs.1.2 hg (fun r e => (hr r e).2)⟩, (hg.block D (Array.getElem?_eq_some_iff.1 hs.2).1 (fun e => by have := (hr D e.symm).1; have := L6.out; have := Z6.out; omega)).trans hs.2⟩)
      (fun _ _ _ _ _ hs _ _ => hs)
      ⟨⟨S6.out, N6.out⟩, K6.out⟩ ?a2 ?assign ?body ?done ?stop
    case assign =>
      intro l x W K hK
      dsimp only [encW]
      gi_wp2
      exact hK
    case body =>
      intro l pre x W _ hlen
      omega
    case stop =>
      rintro D cd pre W hD _ h _
      exact h.elim
    case done =>
      rintro D2 zs W2 hD2 rfl ⟨⟨hS, hN⟩, hK⟩ hK2
      have cn := New_yes 1 W2 (by omega) (by omega)
      have a7 := made_ar W2 (List.replicate 1 0) (InW.zeros _) (by decide) (by decide)
      have b7 := made_below W2 (List.replicate 1 0)
      generalize made W2 (List.replicate 1 0) = w7 at *
      have S7 := hid (hS.below b7)
      have A7 := hid a7
      have k7 := (show Boxed w7 gn 3 (.int .i64 0) from (b7.block gn hN.lt).trans hN).cell
      have K7 := hid ((b7.block D (Array.getElem?_eq_some_iff.1 hK).1).trans hK)
      have L7 := hid ((b7.block D2 (Array.getElem?_eq_some_iff.1 hK2).1).trans hK2)
      clear hS hN hK hK2 a7 b7
      gi_wp2_with (refine ⟨trivial, ?_⟩; gi_at_call 9; refine (callsIn_wide.2 (cn)).mono ?_)
      rintro e w' ⟨rfl, hw⟩; rw [hw]; clear hw w'
      gi_wp2_with (first | (refine ⟨trivial, ?_⟩; gi_at_call 10; refine (callsIn_wide.2 (anum_any _ _)).mono ?_; rintro e w' ⟨rfl, hw⟩; rw [hw]; clear hw) | (refine ⟨trivial, ?_⟩; gi_at_call 11; refine (callsIn_wide.2 (Len_at _ _ _ _ w7 (nil_faces _))).mono ?_))
      rintro e w' ⟨rfl, hw⟩; rw [hw]; clear hw w'
      gi_wp2_with (refine ⟨trivial, ?_⟩; gi_at_call 11; refine (callsIn_wide.2 (Len_at _ _ _ _ w7 S7.out.faces)).mono ?_)
      rintro e w' ⟨rfl, hw⟩; rw [hw]; clear hw w'
      gi_wp2_with (refine ⟨trivial, ?_⟩; gi_at_call 12; refine (callsIn_wide.2 (Copy_nil _ _ _ w7 (nil_faces _))).mono ?_)
      rintro e w' ⟨rfl, hw⟩; rw [hw]; clear hw w'
      gi_wp2_with (refine ⟨trivial, ?_⟩; gi_at_call 12; refine (callsIn_wide.2 (Copy_nil _ _ _ w7 S7.out.faces)).mono ?_)
      rintro e w' ⟨rfl, hw⟩; rw [hw]; clear hw w'
      gi_wp2_with (refine ⟨trivial, ?_⟩; gi_at_call 13; refine (callsIn_wide.2 (Same_none _ _ _ _ _ _ w7 (nil_faces _) S7.out.faces)).mono ?_)
      rintro e w8 ⟨rfl, b8⟩
      have S8 := hid (S7.out.below b8)
      have A8 := hid (A7.out.below b8)
      have K8 := hid ((b8.block D (Array.getElem?_eq_some_iff.1 K7.out).1).trans K7.out)
      have L8 := hid ((b8.block D2 (Array.getElem?_eq_some_iff.1 L7.out).1).trans L7.out)
      clear b8
      gi_wp2_with (refine ⟨trivial, ?_⟩; gi_at_call 13; refine (callsIn_wide.2 (Same_no _ _ _ _ _ _ _ _ w8 (nil_faces _) A8.out.faces (by decide))).mono ?_)
      rintro e w' ⟨rfl, hw⟩; rw [hw]; clear hw w'
      gi_wp2_with (refine ⟨trivial, ?_⟩; gi_at_call 13; refine (callsIn_wide.2 (Same_no _ _ _ _ _ _ _ _ w8 A8.out.faces S8.out.faces (by decide))).mono ?_)
      rintro e w' ⟨rfl, hw⟩; rw [hw]; clear hw w'
      gi_wp2_with (refine ⟨trivial, ?_⟩; gi_at_call 14; refine (callsIn_wide.2 (Unlike_no _ _ _ _ _ _ _ _ w8 (nil_faces _) A8.out.faces (by decide))).mono ?_)
      rintro e w' ⟨rfl, hw⟩; rw [hw]; clear hw w'
      gi_wp2_with (refine ⟨trivial, ?_⟩; gi_at_call 15; refine (callsIn_wide.2 (aworks_any _)).mono ?_; rintro e w9 ⟨rfl, b9⟩)
      exact nil_leave (S8.out.below b9).bel rfl (by have := HD.out; have := HG.out; have := Z5.out; omega) (by have := Z6.out; have := G6.out; have := HG.out; omega) (by have := L6.out; have := Z6.out; omega) ((b9.block D (Array.getElem?_eq_some_iff.1 K8.out).1).trans K8.out) ((b9.block D2 (Array.getElem?_eq_some_iff.1 L8.out).1).trans L8.out)
theorem arenaNil_walk (xk xp xo xn wd : Int) (w : World) :
    Calls Try.prog 3 #[acc xk xp xo xn, .int .u64 wd] w fun e W' => e = .returned (.bool true) ∧ Below w.heap.size w W' :=
  callsIn_wide.1 (arenaNil_run xk xp xo xn wd w)
end Go.Proofs.Ytlmkbnebpaopeab
