/- The law ShapeAll. -/
import Derived.Test.YtngnjlmpmpdnjaaDoorShWorks
namespace Go.Proofs.YtngnjlmpmpdnjaaDoor
open Go.RowKit Go.Sh Go.Shelf
attribute [local go_sem] Oper.semAt_some
theorem func_nil (lb : Array Value) (w : World) : (binOp .eql 44 (.func (.func 33) #[] lb) .nilFunc).run Tryd.prog w = .ok (.bool false) w := by
  have h := run_underlying (w := w) Tryd.underlying44
  have e : (Op.equalIn Op.maxDepth 44 (Value.func (Fn.func 33) #[] lb) Value.nilFunc).run Tryd.prog w = .ok false w := by
    show (Op.equalIn (9999 + 1) 44 (Value.func (Fn.func 33) #[] lb) Value.nilFunc).run Tryd.prog w = .ok false w
    unfold Op.equalIn
    simp [h, Result.andThen]
  simp [binOp, Op.equal, go_sem, Result.andThen, e]
theorem beq_run (a b : Bool) (w : World) : (binOp .eql 4 (.bool a) (.bool b)).run Tryd.prog w = .ok (.bool (a == b)) w := by
  have h := run_equal_bool (P := Tryd.prog) w 4 a b Tryd.underlying4
  simp only [binOp]
  simp [h]
/-- What the law's boxes hold: the shape, so many, the answer, the shape again, how many there should be, how many there were. -/
def AllB (w : World) (s : ByteArray) (many F n : Int) (W : World) : Prop :=
  Boxed W w.heap.size 42 (.string s) ∧ Boxed W (w.heap.size + 1) 3 (.int .i64 many) ∧ (∃ v, Boxed W (w.heap.size + 1 + 1) 4 v) ∧ Boxed W (w.heap.size + 1 + 1 + 1) 42 (.string s) ∧
  Boxed W (w.heap.size + 1 + 1 + 1 + 1) 3 (.int .i64 F) ∧ Boxed W (w.heap.size + 1 + 1 + 1 + 1 + 1) 3 (.int .i64 n) ∧ Below w.heap.size w W
theorem AllB.own {w A B : World} {s : ByteArray} {many F n : Int} {row : Option Nat} {C : Nat} (h : AllB w s many F n A) (hC : w.heap.size ≤ C) (hg : A.grownBy B row) (hr : ∀ r, row = some r → C ≤ r ∧ ∃ o : Obj, A.heap[r]? = some o ∧ o.isCells = false) : AllB w s many F n B := by
  obtain ⟨h0, h1, ⟨v2, h2⟩, h3, h4, h5, hb⟩ := h
  have hr' := fun r e => (hr r e).2
  exact ⟨box_own h0 hg hr', box_own h1 hg hr', ⟨_, box_own h2 hg hr'⟩, box_own h3 hg hr', box_own h4 hg hr', box_own h5 hg hr', hb.grown hg hb.size (fun k e => Nat.le_trans hC (hr k e).1)⟩
theorem AllB.alloc {w A : World} {s : ByteArray} {many F n : Int} (h : AllB w s many F n A) (O : Obj) : AllB w s many F n (A.alloc O) := by
  obtain ⟨h0, h1, ⟨v2, h2⟩, h3, h4, h5, hb⟩ := h
  exact ⟨h0.alloc _, h1.alloc _, ⟨_, h2.alloc _⟩, h3.alloc _, h4.alloc _, h5.alloc _, hb.alloc hb.size _⟩
theorem AllB.setN {w A : World} {s : ByteArray} {many F n : Int} (h : AllB w s many F n A) (m : Int) : AllB w s many F m (A.setCell ⟨w.heap.size + 1 + 1 + 1 + 1 + 1, 0, none⟩ (.int .i64 m)) := by
  obtain ⟨h0, h1, ⟨v2, h2⟩, h3, h4, h5, hb⟩ := h
  exact ⟨h0.other (by omega) _, h1.other (by omega) _, ⟨_, h2.other (by omega) _⟩, h3.other (by omega) _, h4.other (by omega) _, h5.set _, hb.setCell (p := ⟨w.heap.size + 1 + 1 + 1 + 1 + 1, 0, none⟩) (by show w.heap.size ≤ w.heap.size + 1 + 1 + 1 + 1 + 1; omega) _⟩
theorem AllB.setR {w A : World} {s : ByteArray} {many F n : Int} (h : AllB w s many F n A) (v : Value) : AllB w s many F n (A.setCell ⟨w.heap.size + 1 + 1, 0, none⟩ v) := by
  obtain ⟨h0, h1, ⟨v2, h2⟩, h3, h4, h5, hb⟩ := h
  exact ⟨h0.other (by omega) _, h1.other (by omega) _, ⟨_, h2.set _⟩, h3.other (by omega) _, h4.other (by omega) _, h5.other (by omega) _, hb.setCell (p := ⟨w.heap.size + 1 + 1, 0, none⟩) (by show w.heap.size ≤ w.heap.size + 1 + 1; omega) _⟩
theorem AllB.setFar {w A : World} {s : ByteArray} {many F n : Int} (h : AllB w s many F n A) {g : Nat} (hg : w.heap.size + 6 ≤ g) (v : Value) : AllB w s many F n (A.setCell ⟨g, 0, none⟩ v) := by
  obtain ⟨h0, h1, ⟨v2, h2⟩, h3, h4, h5, hb⟩ := h
  exact ⟨h0.other (by omega) _, h1.other (by omega) _, ⟨_, h2.other (by omega) _⟩, h3.other (by omega) _, h4.other (by omega) _, h5.other (by omega) _, hb.setCell (p := ⟨g, 0, none⟩) (by show w.heap.size ≤ g; omega) _⟩
theorem AllB.size {w A : World} {s : ByteArray} {many F n : Int} (h : AllB w s many F n A) : w.heap.size + 6 ≤ A.heap.size := h.2.2.2.2.2.1.lt
/-- The world ahead of the law's first loop. -/
def W0 (w : World) (s : ByteArray) (many F : Int) : World :=
  (((((w.alloc (.cells #[.string s] 42)).alloc (.cells #[.int .i64 many] 3)).alloc (.cells #[.bool false] 4)).alloc (.cells #[.string s] 42)).alloc (.cells #[.int .i64 F] 3)).alloc (.cells #[.int .i64 0] 3)
theorem W0_size (w : World) (s : ByteArray) (many F : Int) : (W0 w s many F).heap.size = w.heap.size + 6 := by
  simp [W0]
theorem box_last (w : World) (g : Nat) (hg : g = w.heap.size) (t : TypeId) (v : Value) : Boxed (w.alloc (.cells #[v] t)) g t v := by
  subst hg; exact Boxed.new w t v
theorem W0_all (w : World) (s : ByteArray) (many F : Int) : AllB w s many F 0 (W0 w s many F) := by
  unfold W0
  refine ⟨((((((Boxed.new w _ _).alloc _).alloc _).alloc _).alloc _).alloc _), (((((box_last _ _ (by simp) _ _).alloc _).alloc _).alloc _).alloc _), ⟨_, ((((box_last _ _ (by simp) _ _).alloc _).alloc _).alloc _)⟩, (((box_last _ _ (by simp) _ _).alloc _).alloc _), ((box_last _ _ (by simp) _ _).alloc _), box_last _ _ (by simp) _ _, ?_⟩
  exact ((((((Below.refl _ w).alloc (Nat.le_refl _) _).alloc (by simp) _).alloc (by simp; omega) _).alloc (by simp; omega) _).alloc (by simp; omega) _).alloc (by simp; omega) _
/-- .. and, behind the first loop, how many were gone over before it was left. -/
def LeftB (w : World) (s : ByteArray) (many F : Int) (g D : Nat) (n : Int) (W : World) : Prop :=
  AllB w s many F F W ∧ Boxed W g 3 (.int .i64 n) ∧ W.heap[D]? = some (.deferred (some [])) ∧ w.heap.size + 6 ≤ g ∧ D < g ∧ w.heap.size + 6 ≤ D
theorem LeftB.own {w A B : World} {s : ByteArray} {many F n : Int} {g D : Nat} {row : Option Nat} {C : Nat} (h : LeftB w s many F g D n A) (hC : g < C) (hg : A.grownBy B row) (hr : ∀ r, row = some r → C ≤ r ∧ ∃ o : Obj, A.heap[r]? = some o ∧ o.isCells = false) : LeftB w s many F g D n B := by
  obtain ⟨h0, h1, h2, h3, h4, h5⟩ := h
  exact ⟨h0.own (by omega) hg hr, box_own h1 hg (fun r e => (hr r e).2), (hg.block D (Array.getElem?_eq_some_iff.1 h2).1 (fun e => by have := (hr D e.symm).1; omega)).trans h2, h3, h4, h5⟩
theorem LeftB.setN {w A : World} {s : ByteArray} {many F n : Int} {g D : Nat} (h : LeftB w s many F g D n A) (m : Int) : LeftB w s many F g D m (A.setCell ⟨g, 0, none⟩ (.int .i64 m)) := by
  obtain ⟨h0, h1, h2, h3, h4, h5⟩ := h
  exact ⟨h0.setFar h3 _, h1.set _, (KeepsOthers.setCell A ⟨g, 0, none⟩ (.int .i64 m)).same D _ h2 rfl, h3, h4, h5⟩
theorem LeftB.start {w A : World} {s : ByteArray} {many F : Int} {D : Nat} (h : AllB w s many F F A) (hD : A.heap[D]? = some (.deferred (some []))) (h5 : w.heap.size + 6 ≤ D) : LeftB w s many F A.heap.size D 0 (A.alloc (.cells #[.int .i64 0] 3)) :=
  ⟨h.alloc _, Boxed.new A _ _, (Below.heap_alloc A _ D (Array.getElem?_eq_some_iff.1 hD).1).trans hD, h.size, (Array.getElem?_eq_some_iff.1 hD).1, h5⟩
theorem LeftB.below {w A B : World} {s : ByteArray} {many F n : Int} {g D : Nat} (h : LeftB w s many F g D n A) (b : Below A.heap.size A B) : LeftB w s many F g D n B :=
  h.own (Nat.lt_succ_self g) (grown_of_below b) (fun r e => by cases e)
theorem LeftB.drew {w A : World} {s : ByteArray} {many F n : Int} {g D : Nat} (h : LeftB w s many F g D n A) : LeftB w s many F g D n A.drew := by
  obtain ⟨⟨h0, h1, ⟨v2, h2⟩, h3, h4, h5, hb⟩, r⟩ := h
  exact ⟨⟨h0, h1, ⟨v2, h2⟩, h3, h4, h5, hb.drew⟩, r⟩
def curV (W : World) (b : Nat) : Value := (W.cell? ⟨b, 0, none⟩).getD undef
theorem curV_eq {W : World} {b : Nat} {t : TypeId} (h : ∃ v, Boxed W b t v) : W.cell? ⟨b, 0, none⟩ = some (curV W b) ∧ W.frozen? ⟨b, 0, none⟩ = false := by
  obtain ⟨v, hv⟩ := h
  refine ⟨?_, hv.frozen⟩
  rw [curV, hv.cell]; rfl
/-- All that stands behind both loops, beside the cells that are read. -/
def Rest (w : World) (s : ByteArray) (many F : Int) (g D D2 : Nat) (n : Int) (W : World) : Prop := LeftB w s many F g D n W ∧ W.heap[D2]? = some (.deferred (some [])) ∧ w.heap.size + 6 ≤ D2
abbrev TlS (w : World) (s : ByteArray) (many F : Int) (g D D2 : Nat) (n : Int) : World → Prop := fun W =>
  W.cell? ⟨w.heap.size + 1 + 1 + 1 + 1 + 1, 0, none⟩ = some (.int .i64 F) ∧ W.cell? ⟨w.heap.size + 1 + 1 + 1 + 1, 0, none⟩ = some (.int .i64 F) ∧ W.cell? ⟨g, 0, none⟩ = some (.int .i64 n) ∧ W.cell? ⟨w.heap.size + 1, 0, none⟩ = some (.int .i64 many) ∧
  W.cell? ⟨w.heap.size, 0, none⟩ = some (.string s) ∧ W.cell? ⟨w.heap.size + 1 + 1, 0, none⟩ = some (curV W (w.heap.size + 1 + 1)) ∧ W.frozen? ⟨w.heap.size + 1 + 1, 0, none⟩ = false ∧ Rest w s many F g D D2 n W
theorem Rest.tl {w : World} {s : ByteArray} {many F : Int} {g D D2 : Nat} {n : Int} {W : World} (h : Rest w s many F g D D2 n W) : TlS w s many F g D D2 n W := by
  have hA := h.1.1
  exact ⟨hA.2.2.2.2.2.1.cell, hA.2.2.2.2.1.cell, h.1.2.1.cell, hA.2.1.cell, hA.1.cell, (curV_eq hA.2.2.1).1, (curV_eq hA.2.2.1).2, h⟩
theorem tlS_call {w : World} {s : ByteArray} {many F : Int} {g D D2 : Nat} {n : Int} {W W' : World} (h : TlS w s many F g D D2 n W) (b : Below W.heap.size W W') : TlS w s many F g D D2 n W' := by
  obtain ⟨_, _, _, _, _, _, _, h1, h2, h3⟩ := h
  exact Rest.tl ⟨h1.below b, (b.block D2 (Array.getElem?_eq_some_iff.1 h2).1).trans h2, h3⟩
theorem tlS_drew {w : World} {s : ByteArray} {many F : Int} {g D D2 : Nat} {n : Int} {W : World} (h : TlS w s many F g D D2 n W) : TlS w s many F g D D2 n W.drew := by
  obtain ⟨_, _, _, _, _, _, _, h1, h2, h3⟩ := h
  exact Rest.tl ⟨h1.drew, h2, h3⟩
theorem tlS_set {w : World} {s : ByteArray} {many F : Int} {g D D2 : Nat} {n : Int} {W : World} (h : TlS w s many F g D D2 n W) (v : Value) : TlS w s many F g D D2 n (W.setCell ⟨w.heap.size + 1 + 1, 0, none⟩ v) := by
  obtain ⟨_, _, _, _, _, _, _, ⟨h0, h1, h2, h3, h4, h5⟩, h6, h7⟩ := h
  exact Rest.tl ⟨⟨h0.setR _, h1.other (by omega) _, (KeepsOthers.setCell W ⟨w.heap.size + 1 + 1, 0, none⟩ v).same D _ h2 rfl, h3, h4, h5⟩, (KeepsOthers.setCell W ⟨w.heap.size + 1 + 1, 0, none⟩ v).same D2 _ h6 rfl, h7⟩
set_option maxRecDepth 100000 in
/-- How the law is left behind both loops: the two marks are taken, the answer is read. -/
theorem leave_two {w W : World} {s : ByteArray} {many F n : Int} {g D D2 : Nat} {tmps : Array Value} (h : Rest w s many F g D D2 n W) (hc : W.cell? ⟨w.heap.size + 1 + 1, 0, none⟩ = some (.bool true)) (ht : tmps[4]?.getD undef = .pointer (some ⟨w.heap.size + 1 + 1, 0, none⟩)) (hne : D ≠ D2) :
    LeavesInM Fence.wide 4 Tryd.prog Tryd.f5 tmps (fun e W' => e = .returned (.bool true) ∧ Below w.heap.size w W') [{ target := .collected D2, args := #[] }, { target := .collected D, args := #[] }] .returning W := by
  obtain ⟨⟨hA, _, hK, h3, h4, h5⟩, hK2, h6⟩ := h
  have hB := hA.2.2.2.2.2.2
  have hKb : (W.putObj D2 (.deferred none)).heap[D]? = some (.deferred (some [])) := (World.putObj_heap_other (by omega)).trans hK
  have hc1 := cell_kept hc (grownBy_putObj' _ D2 (.deferred none)) (fun r e => by cases e; exact ⟨_, hK2, rfl⟩)
  have hc2 := cell_kept hc1 (grownBy_putObj' _ D (.deferred none)) (fun r e => by cases e; exact ⟨_, hKb, rfl⟩)
  have hB1 := hB.trans (belowK_b (w := w) (Nat.le_refl _) W D2 _ (.deferred none) (by omega) hK2 rfl rfl)
  have hB2 := hB1.trans (belowK_b (w := w) (Nat.le_refl _) _ D _ (.deferred none) (by omega) hKb rfl rfl)
  refine ⟨by simp, .inl ⟨_, _, rfl, run_takeDeferred hK2, by simp, .inl ⟨_, _, rfl, run_takeDeferred hKb, ?_⟩⟩⟩
  refine ⟨.bool true, ?_, rfl, hB2⟩
  simp [results, Tryd.f5, go_sem, ht, hc2]
theorem one_tab (w : World) (s : ByteArray) : IsTab (w.alloc (.cells #[.string s] 42)) (.slice (some ⟨w.heap.size, 0, none⟩) 1 1) [s] := by
  refine .inr ⟨w.heap.size, 0, 1, rfl, fun i hi => ?_⟩
  obtain rfl : i = 0 := by simp at hi; omega
  exact cell_last w _ _ 0 _ rfl
/-- A loop is left where a field is not the one that it should be. -/
def Bad (s : ByteArray) (pre : List (Nat × Int)) : Prop := ∃ ini last, pre = ini ++ [last] ∧ last ≠ fieldAt s ini.length
theorem Bad.no {s : ByteArray} {k : Nat} (h : Bad s (upto (fieldAt s) k)) : False := by
  obtain ⟨ini, last, e1, e2⟩ := h
  cases k with
  | zero => simp [upto] at e1
  | succ k =>
    rw [upto_succ] at e1
    obtain ⟨rfl, e5⟩ := List.append_inj' e1 rfl
    rw [upto_length] at e2
    exact e2 (by simpa using e5.symm)
set_option maxRecDepth 10000000 in
set_option maxHeartbeats 40000000 in
theorem shapeAll_yes (s : ByteArray) (hs : s.size ≤ 20) (h1 : one s = true) (many : Int) (w : World) :
    CallsIn Fence.wide 4 Tryd.prog 5 #[.string s, .int .i64 many] w fun e W' => e = .returned (.bool true) ∧ Below w.heap.size w W' := by
  have hs' : (s.size : Int) ≤ 20 := by omega
  have hfn := func_nil #[.pointer (some ⟨w.heap.size + 1 + 1 + 1, 0, none⟩)]
  refine callsIn_of_wp_marks Tryd.func5 rfl trivial ?_ rfl
  simp only [Tryd.ntmps5, List.size_toArray, List.length_cons, List.length_nil, Nat.reduceAdd, Nat.reduceSub, Array.replicate_succ, Array.replicate_zero, List.push_toArray, List.append_toArray, List.nil_append, List.cons_append]
  have co := fun W => rOne_any s W
  rw [h1] at co
  gi_wp2_with (first | (refine ⟨trivial, ?_⟩; gi_at_call 22; refine (callsIn_wide.2 (All_any _ _)).mono ?_; rintro e w' ⟨rfl, rfl⟩) | (refine ⟨trivial, ?_⟩; gi_at_call 23; refine (callsIn_wide.2 (co _)).mono ?_; rintro e w' ⟨rfl, hw⟩; rw [hw]; clear hw))
  clear hfn
  have H1 := hid h1
  have hF := fields_one h1
  have h8 := one_size h1
  have HSZ : Hid (sz [s] 0 = (2 + (s.size : Int), 0)) := hid (by simp [sz, right, h1, inR, at'])
  have hA0 := hid (W0_all w s many (s.size : Int))
  have hZ0 := hid (W0_size w s many (s.size : Int))
  change Code.wpIn _ _ _ _ _ _ (W0 w s many (s.size : Int))
  generalize hW0 : W0 w s many (s.size : Int) = w0 at *
  clear hW0
  refine wpIn_rangeFunc_ownG (Q := _) rfl (by decide) (gf := 33) (lb := #[.pointer (some ⟨w.heap.size + 1 + 1 + 1, 0, none⟩)]) rfl trivial (enters_of Tryd.func33 (by kernel_rfl) rfl)
    (All_stops 3 (by omega) (w.heap.size + 1 + 1 + 1) s w0 hA0.out.2.2.2.1.cell) walksK_t walksK_b (Below.refl _ _) (fun _ => rfl)
    (fun pre W => pre.length ≤ 8 ∧ AllB w s many (s.size : Int) (pre.length : Int) W)
    (fun c pre _ => c = .ret ∧ Bad s pre)
    (fun pre A B row hs hg hr => ⟨hs.1, hs.2.own (by have := hZ0.out; omega) hg hr⟩)
    (fun _ _ _ _ _ hs _ _ => hs)
    ⟨by simp, hA0.out⟩ ?a1 ?assign ?body ?done ?stop
  case assign =>
    intro l x W K hK
    dsimp only [encF]
    gi_wp2
    exact hK
  case body =>
    rintro l pre x W ⟨hl8, hA⟩ hlen
    rw [hF] at hlen
    have hkl : pre.length < s.size := hlen
    have HA := hid hA
    have k0 := hA.1.cell
    have k4 := hA.2.2.2.2.1.cell
    have k5 := hA.2.2.2.2.2.1.cell
    have f5 := hA.2.2.2.2.2.1.frozen
    obtain ⟨rv, hrv⟩ := hA.2.2.1
    have k2 := hrv.cell
    have f2 := hrv.frozen
    clear hA hrv
    obtain ⟨x1, x2⟩ := x
    have Hfa : Hid (fieldAt s pre.length = (pre.length, kb (s[pre.length]'hkl))) := hid (by rw [fieldAt, get_data s _ hkl])
    by_cases hx : x1 = pre.length
    · subst hx
      have hge : ((pre.length : Int)) < (s.size : Int) := by omega
      have hee : ((pre.length : Int) != (pre.length : Int)) = false := by simp
      by_cases hc : s[pre.length]'hkl = 115
      · have hcc : (((s[pre.length]'hkl).toNat : Int) == 115) = true := by rw [hc]; rfl
        by_cases h2 : x2 = 1
        · have h2' : (x2 == 1) = true := by simpa using h2
          have h2n : (x2 != 1) = false := by simp [h2]
          have hw : (pre.length : Int) + 1 = ((pre ++ [(pre.length, x2)]).length : Int) := by simp
          have HW := hid hw
          clear hw hc h2
          gi_wp2
          refine ⟨(KeepsOthers.setCell _ _ _).from _, (KeepsOthers.setCell _ _ _).walks, by simp; omega, ?_⟩
          rw [← HW.out]
          exact HA.out.setN _
        · have h2' : (x2 == 1) = false := by simpa using h2
          have HB : Hid (((pre.length, x2) : Nat × Int) ≠ fieldAt s pre.length) := hid (by
            rw [Hfa.out, hc]
            intro e
            exact h2 (congrArg Prod.snd e))
          clear hc h2
          gi_wp2
          exact ⟨(KeepsOthers.setCell _ _ _).from _, rfl, pre, _, rfl, HB.out⟩
      · have hcc := ne115 hc
        have Hk : Hid (kb (s[pre.length]'hkl) = 0) := hid (by simp [kb, hc])
        by_cases h2 : x2 = 1
        · have h2' : (x2 == 1) = true := by simpa using h2
          have HB : Hid (((pre.length, x2) : Nat × Int) ≠ fieldAt s pre.length) := hid (by
            rw [Hfa.out, Hk.out]
            intro e
            have := congrArg Prod.snd e
            simp at this
            omega)
          clear hc h2
          gi_wp2
          exact ⟨(KeepsOthers.setCell _ _ _).from _, rfl, pre, _, rfl, HB.out⟩
        · have h2' : (x2 == 1) = false := by simpa using h2
          have h2n : (x2 != 1) = true := bne_of h2'
          by_cases h3 : x2 = 0
          · have h3n : (x2 != 0) = false := by simp [h3]
            have hw : (pre.length : Int) + 1 = ((pre ++ [(pre.length, x2)]).length : Int) := by simp
            have HW := hid hw
            clear hw hc h2 h3
            gi_wp2
            refine ⟨(KeepsOthers.setCell _ _ _).from _, (KeepsOthers.setCell _ _ _).walks, by simp; omega, ?_⟩
            rw [← HW.out]
            exact HA.out.setN _
          · have h3n : (x2 != 0) = true := bne_of (by simpa using h3)
            have HB : Hid (((pre.length, x2) : Nat × Int) ≠ fieldAt s pre.length) := hid (by
              rw [Hfa.out, Hk.out]
              intro e
              exact h3 (congrArg Prod.snd e))
            clear hc h2 h3
            gi_wp2
            exact ⟨(KeepsOthers.setCell _ _ _).from _, rfl, pre, _, rfl, HB.out⟩
    · have hee : ((x1 : Int) != (pre.length : Int)) = true := bne_of (by rw [beq_eq_false_iff_ne]; omega)
      have HB : Hid (((x1, x2) : Nat × Int) ≠ fieldAt s pre.length) := hid (fun e => hx (by
        have := congrArg Prod.fst e
        exact this))
      clear hx
      gi_wp2
      exact ⟨(KeepsOthers.setCell _ _ _).from _, rfl, pre, _, rfl, HB.out⟩
  case done =>
    rintro D ys W hD rfl ⟨_, hA⟩ hK
    rw [upto_length, hF] at hA
    have HK := hid hK
    have HD := hid hD
    have HA := hid hA
    clear hK hD hA
    gi_wp2
    have HS := hid (LeftB.start HA.out HK.out (by have := HD.out; have := hZ0.out; omega))
    generalize hgg : W.heap.size = g at *
    have hW1 : (W.alloc (.cells #[.int .i64 0] 3)).heap.size = g + 1 := by rw [size_alloc, hgg]
    have HW1 := hid hW1
    clear hW1 hgg HA HK HD
    generalize W.alloc (.cells #[.int .i64 0] 3) = w1 at *
    refine wpIn_rangeFunc_ownG (Q := _) rfl (by decide) (gf := 33) (lb := #[.pointer (some ⟨w.heap.size + 1 + 1 + 1, 0, none⟩)]) rfl trivial (enters_of Tryd.func33 (by kernel_rfl) rfl)
      (All_stops 3 (by omega) (w.heap.size + 1 + 1 + 1) s w1 HS.out.1.2.2.2.1.cell) walksK_t walksK_b (Below.refl _ _) (fun _ => rfl)
      (fun pre W => pre.length ≤ 8 ∧ (pre.length = 0 ∨ (pre.length : Int) < many) ∧ LeftB w s many (s.size : Int) g D (pre.length : Int) W)
      (fun c pre W => c = .exit 2 ∧ many ≤ (pre.length : Int) ∧ 1 ≤ pre.length ∧ (pre.length = 1 ∨ (pre.length : Int) - 1 < many) ∧ LeftB w s many (s.size : Int) g D (pre.length : Int) W)
      (fun pre A B row hs hg hr => ⟨hs.1, hs.2.1, hs.2.2.own (by have := HW1.out; omega) hg hr⟩)
      (fun c pre A B row hs hg hr => ⟨hs.1, hs.2.1, hs.2.2.1, hs.2.2.2.1, hs.2.2.2.2.own (by have := HW1.out; omega) hg hr⟩)
      ⟨by simp, .inl (by simp), HS.out⟩ ?a2 ?assign2 ?body2 ?done2 ?stop2
    case assign2 =>
      intro l x W K hK
      dsimp only [encF]
      gi_wp2
      simpa using hK
    case body2 =>
      rintro l pre x W ⟨hl8, hor, hA⟩ hlen
      have hl9 : (pre ++ [x]).length = pre.length + 1 := by simp
      have HL9 := hid hl9
      have HO := hid hor
      have HA := hid hA
      have hlt8 : pre.length < 8 := Nat.lt_of_lt_of_le hlen (fields_le s)
      have kg := hA.2.1.cell
      have fg := hA.2.1.frozen
      have k1 := hA.1.2.1.cell
      have hne := hA.2.2.2.1
      have hneq : w.heap.size + 1 ≠ g := by omega
      clear hA hl9 hor
      by_cases hm : many ≤ (pre.length : Int) + 1
      · have HM := hid hm
        gi_wp2
        have e9 : (((pre ++ [x]).length : Nat) : Int) = (pre.length : Int) + 1 := by rw [HL9.out]; omega
        refine ⟨(KeepsOthers.setCell _ _ _).from _, rfl, ?_, ?_, ?_, ?_⟩
        · rw [e9]; exact HM.out
        · rw [HL9.out]; omega
        · rw [e9, HL9.out]
          rcases HO.out with h | h
          · left; omega
          · right; omega
        · rw [e9]; exact HA.out.setN _
      · have hm' : (pre.length : Int) + 1 < many := by omega
        have HM := hid hm'
        clear hm
        gi_wp2
        have e9 : (((pre ++ [x]).length : Nat) : Int) = (pre.length : Int) + 1 := by rw [HL9.out]; omega
        refine ⟨(KeepsOthers.setCell _ _ _).from _, (KeepsOthers.setCell _ _ _).walks, ?_, ?_, ?_⟩
        · rw [HL9.out]; omega
        · right; rw [e9]; exact HM.out
        · rw [e9]; exact HA.out.setN _
    case done2 =>
      rintro D2 ys W2 hD2 rfl ⟨_, hor, hA⟩ hK2
      rw [upto_length, hF] at hA hor
      have HMin : Hid (min (s.size : Int) (max 1 many) = (s.size : Int)) := hid (by
        rcases hor with h | h <;> omega)
      obtain ⟨L, hLL⟩ : ∃ L : Int, (s.size : Int) = L := ⟨_, rfl⟩
      have hA' : LeftB w s many (s.size : Int) g D L W2 := by rw [← hLL]; exact hA
      have HMin' : Hid (min (s.size : Int) (max 1 many) = L) := hid (HMin.out.trans hLL)
      clear hLL hor hA HMin
      have hA := hA'
      have HMin := HMin'
      clear hA' HMin'
      have HR := hid (show Rest w s many (s.size : Int) g D D2 L W2 from ⟨hA, hK2, by have := HW1.out; have := hA.2.2.2.1; omega⟩)
      have HNE : Hid (D ≠ D2) := hid (by have := HW1.out; have := hA.2.2.2.2.1; omega)
      have ks := hA.1.1.cell
      clear hA hK2 hD2
      gi_wp2
      refine ⟨trivial, ?_⟩
      gi_at_call 11
      refine (callsIn_wide.2 (Size_at _ [s] 0 (2 + (s.size : Int)) 0 _ (one_tab W2 s) HSZ.out)).mono ?_
      rintro e w3 ⟨rfl, b3⟩
      have HS3 := hid (tlS_call (Rest.tl HR.out) (bel1 b3))
      clear b3 HR ks
      gi_wp2
      refine wpIn_wide.2 ?_
      have Hco := hid co
      have hwr : IntKind.i64.wrap (2 + (s.size : Int)) = 2 + (s.size : Int) := by rw [IntKind.wrap_i64]; omega
      clear co h1 hs hs' h8 hA0 hZ0 hF
      have hbe := beq_run
      have hmin : (L == min (s.size : Int) (max 1 many)) = true := by rw [HMin.out]; simp
      have HS3d := hid (tlS_drew HS3.out)
      go_region_held3 (TlS w s many (s.size : Int) g D D2 L) ((with_reducible (first | assumption | exact HS3.out | exact HS3d.out | (refine tlS_call (W := ?w1) ?hf ?hb; (case hb => assumption); (case hf => assumption)) | (refine tlS_set ?_ _; assumption) | (refine tlS_set (tlS_call (W := ?w1) ?hf ?hb) _; (case hb => assumption); (case hf => assumption))))) (first | (go_at_call 15; refine (num_any _ _).mono ?_; rintro e w9 ⟨rfl, rfl⟩; dsimp only) | (go_at_call 23; refine (Hco.out _).mono ?_; rintro e w9 ⟨rfl, rfl⟩; dsimp only) | (go_at_call 10; refine (works_any _).mono ?_; rintro e w9 ⟨rfl, b9⟩; dsimp only))
      have hfin := tlS_set (tlS_call HS3d.out b9) (.bool true)
      have hcc : (w9.setCell ⟨w.heap.size + 1 + 1, 0, none⟩ (.bool true)).cell? ⟨w.heap.size + 1 + 1, 0, none⟩ = some (.bool true) := World.cell?_setCell_same' _ _ _ (by rw [(tlS_call HS3d.out b9).2.2.2.2.2.1]; rfl)
      have HF := hid hfin.2.2.2.2.2.2.2
      have HC := hid hcc
      have HN := hid HNE.out
      clear hfin hcc
      generalize w9.setCell ⟨w.heap.size + 1 + 1, 0, none⟩ (.bool true) = wf at *
      gi_wp2
      exact leave_two HF.out HC.out rfl HN.out
    case stop2 =>
      rintro D2 c pre W2 hD2 ⟨k, hk, rfl⟩ ⟨rfl, hm1, hm2, hm3, hA⟩ hK2
      rw [upto_length] at hm1 hm2 hm3 hA
      rw [hF] at hk
      have HMin : Hid (min (s.size : Int) (max 1 many) = (k : Int)) := hid (by
        rcases hm3 with h | h <;> omega)
      obtain ⟨L, hLL⟩ : ∃ L : Int, (k : Int) = L := ⟨_, rfl⟩
      rw [hLL] at hA HMin
      clear hLL hm1 hm2 hm3
      have HR := hid (show Rest w s many (s.size : Int) g D D2 L W2 from ⟨hA, hK2, by have := HW1.out; have := hA.2.2.2.1; omega⟩)
      have HNE : Hid (D ≠ D2) := hid (by have := HW1.out; have := hA.2.2.2.2.1; omega)
      have ks := hA.1.1.cell
      clear hA hK2 hD2
      gi_wp2
      refine ⟨trivial, ?_⟩
      gi_at_call 11
      refine (callsIn_wide.2 (Size_at _ [s] 0 (2 + (s.size : Int)) 0 _ (one_tab W2 s) HSZ.out)).mono ?_
      rintro e w3 ⟨rfl, b3⟩
      have HS3 := hid (tlS_call (Rest.tl HR.out) (bel1 b3))
      clear b3 HR ks
      gi_wp2
      refine wpIn_wide.2 ?_
      have Hco := hid co
      have hwr : IntKind.i64.wrap (2 + (s.size : Int)) = 2 + (s.size : Int) := by rw [IntKind.wrap_i64]; omega
      clear co h1 hs hs' h8 hk hA0 hZ0 hF
      have hbe := beq_run
      have hmin : (L == min (s.size : Int) (max 1 many)) = true := by rw [HMin.out]; simp
      have HS3d := hid (tlS_drew HS3.out)
      go_region_held3 (TlS w s many (s.size : Int) g D D2 L) ((with_reducible (first | assumption | exact HS3.out | exact HS3d.out | (refine tlS_call (W := ?w2) ?hf2 ?hb2; (case hb2 => assumption); (case hf2 => assumption)) | (refine tlS_set ?_ _; assumption) | (refine tlS_set (tlS_call (W := ?w2) ?hf2 ?hb2) _; (case hb2 => assumption); (case hf2 => assumption))))) (first | (go_at_call 15; refine (num_any _ _).mono ?_; rintro e w9 ⟨rfl, rfl⟩; dsimp only) | (go_at_call 23; refine (Hco.out _).mono ?_; rintro e w9 ⟨rfl, rfl⟩; dsimp only) | (go_at_call 10; refine (works_any _).mono ?_; rintro e w9 ⟨rfl, b9⟩; dsimp only))
      have hfin := tlS_set (tlS_call HS3d.out b9) (.bool true)
      have hcc : (w9.setCell ⟨w.heap.size + 1 + 1, 0, none⟩ (.bool true)).cell? ⟨w.heap.size + 1 + 1, 0, none⟩ = some (.bool true) := World.cell?_setCell_same' _ _ _ (by rw [(tlS_call HS3d.out b9).2.2.2.2.2.1]; rfl)
      have HF := hid hfin.2.2.2.2.2.2.2
      have HC := hid hcc
      have HN := hid HNE.out
      clear hfin hcc
      generalize w9.setCell ⟨w.heap.size + 1 + 1, 0, none⟩ (.bool true) = wf at *
      gi_wp2
      exact leave_two HF.out HC.out rfl HN.out
  case stop =>
    rintro D c pre W hD ⟨k, hk, rfl⟩ ⟨rfl, hbad⟩ hK
    exact hbad.no.elim
end Go.Proofs.YtngnjlmpmpdnjaaDoor
