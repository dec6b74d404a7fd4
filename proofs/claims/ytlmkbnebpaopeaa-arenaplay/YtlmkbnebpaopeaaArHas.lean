/- The laws' own has: an arena has just these words. -/
import Derived.Test.YtlmkbnebpaopeaaArAll
namespace Go.Proofs.Ytlmkbnebpaopeaa
open Go.RowKit Go.Shelf
attribute [local go_sem] Oper.semAt_some
theorem abox_own {A B : World} {row : Option Nat} {b : Nat} {t : TypeId} {v : Value} (h : Boxed A b t v) (hg : A.grownBy B row) (hr : ∀ r, row = some r → ∃ o : Obj, A.heap[r]? = some o ∧ o.isCells = false) : Boxed B b t v :=
  boxed_own (β := Unit) b t (fun _ => v) () A B row h hg hr
theorem abox_last (w : World) (g : Nat) (hg : g = w.heap.size) (t : TypeId) (v : Value) : Boxed (w.alloc (.cells #[v] t)) g t v := by
  subst hg; exact Boxed.new w t v
theorem afunc_nil (lb : Array Value) (w : World) : (binOp .eql 58 (.func (.func 40) #[] lb) .nilFunc).run Try.prog w = .ok (.bool false) w := by
  have h := run_underlying (w := w) Try.underlying58
  have e : (Op.equalIn Op.maxDepth 58 (Value.func (Fn.func 40) #[] lb) Value.nilFunc).run Try.prog w = .ok false w := by
    show (Op.equalIn (9999 + 1) 58 (Value.func (Fn.func 40) #[] lb) Value.nilFunc).run Try.prog w = .ok false w
    unfold Op.equalIn
    simp [h, Result.andThen]
  simp [binOp, Op.equal, go_sem, Result.andThen, e]
/-- A loop is left where a word is not the one that it should be. -/
def BadW (xs : List Int) (pre : List (Nat × Int)) : Prop := ∃ ini last, pre = ini ++ [last] ∧ last ≠ (ini.length, wat xs ini.length)
theorem BadW.no {xs : List Int} {k : Nat} (h : BadW xs (ups xs k)) : False := by
  obtain ⟨ini, last, e1, e2⟩ := h
  cases k with
  | zero => simp [ups] at e1
  | succ k =>
    rw [ups_succ] at e1
    obtain ⟨rfl, e5⟩ := List.append_inj' e1 rfl
    rw [ups_length] at e2
    exact e2 (by simpa using e5.symm)
/-- What has' boxes hold: the list, the answer, the arena's words, how many were met. -/
def HasB (w : World) (l s : Value) (n : Int) (W : World) : Prop :=
  Boxed W w.heap.size 33 l ∧ (∃ v, Boxed W (w.heap.size + 1) 4 v) ∧ Boxed W (w.heap.size + 1 + 1) 62 s ∧ Boxed W (w.heap.size + 1 + 1 + 1) 3 (.int .i64 n) ∧ Below w.heap.size w W
theorem HasB.own {w A B : World} {l s : Value} {n : Int} {row : Option Nat} {C : Nat} (h : HasB w l s n A) (hC : w.heap.size ≤ C) (hg : A.grownBy B row) (hr : ∀ r, row = some r → C ≤ r ∧ ∃ o : Obj, A.heap[r]? = some o ∧ o.isCells = false) : HasB w l s n B := by
  obtain ⟨h0, ⟨v1, h1⟩, h2, h3, hb⟩ := h
  have hr' := fun r e => (hr r e).2
  exact ⟨abox_own h0 hg hr', ⟨_, abox_own h1 hg hr'⟩, abox_own h2 hg hr', abox_own h3 hg hr', hb.grown hg hb.size (fun k e => Nat.le_trans hC (hr k e).1)⟩
theorem HasB.setN {w A : World} {l s : Value} {n : Int} (h : HasB w l s n A) (m : Int) : HasB w l s m (A.setCell ⟨w.heap.size + 1 + 1 + 1, 0, none⟩ (.int .i64 m)) := by
  obtain ⟨h0, ⟨v1, h1⟩, h2, h3, hb⟩ := h
  exact ⟨h0.other (by omega) _, ⟨_, h1.other (by omega) _⟩, h2.other (by omega) _, h3.set _, hb.setCell (p := ⟨w.heap.size + 1 + 1 + 1, 0, none⟩) (by show w.heap.size ≤ w.heap.size + 1 + 1 + 1; omega) _⟩
theorem HasB.setR {w A : World} {l s : Value} {n : Int} (h : HasB w l s n A) (v : Value) : HasB w l s n (A.setCell ⟨w.heap.size + 1, 0, none⟩ v) := by
  obtain ⟨h0, ⟨v1, h1⟩, h2, h3, hb⟩ := h
  exact ⟨h0.other (by omega) _, ⟨_, h1.set _⟩, h2.other (by omega) _, h3.other (by omega) _, hb.setCell (p := ⟨w.heap.size + 1, 0, none⟩) (by show w.heap.size ≤ w.heap.size + 1; omega) _⟩
theorem HasB.size {w A : World} {l s : Value} {n : Int} (h : HasB w l s n A) : w.heap.size + 4 ≤ A.heap.size := h.2.2.2.1.lt
theorem hasB_start (w : World) (l s : Value) (nq : Nat) : HasB w l s 0 (((((w.alloc (.cells #[l] 33)).alloc (.cells #[.bool false] 4)).alloc (.cells #[s] 62)).drewN nq).alloc (.cells #[.int .i64 0] 3)) := by
  have k : ∀ {W : World} {g : Nat} {t : TypeId} {v : Value}, Boxed W g t v → Boxed (W.drewN nq) g t v := fun h => h
  refine ⟨(k (((Boxed.new w _ _).alloc _).alloc _)).alloc _, ⟨_, (k ((abox_last _ _ (by simp) _ _).alloc _)).alloc _⟩, (k (abox_last _ _ (by simp) _ _)).alloc _, abox_last _ _ (by simp [World.drewN]) _ _, ?_⟩
  exact (bdrewN ((((Below.refl _ w).alloc (Nat.le_refl _) _).alloc (by simp) _).alloc (by simp; omega) _) nq).alloc (by simp [World.drewN]; omega) _
set_option maxRecDepth 100000 in
theorem has_leave {w W : World} {l s : Value} {n : Int} {D : Nat} {tmps : Array Value} (h : HasB w l s n W) (hc : W.cell? ⟨w.heap.size + 1, 0, none⟩ = some (.bool true)) (ht : tmps[4]?.getD undef = .pointer (some ⟨w.heap.size + 1, 0, none⟩)) (hD : w.heap.size ≤ D) (hK : W.heap[D]? = some (.deferred (some []))) :
    LeavesInM Fence.wide 4 Try.prog Try.f15 tmps (fun e W' => e = .returned (.bool true) ∧ Below w.heap.size w W') [{ target := .collected D, args := #[] }] .returning W := by
  obtain ⟨h0, h1, h2, h3, hB⟩ := h
  have hc1 := cell_kept hc (grownBy_putObj' _ D (.deferred none)) (fun r e => by cases e; exact ⟨_, hK, rfl⟩)
  have hB1 := hB.trans (belowK_b (w := w) (Nat.le_refl _) W D _ (.deferred none) hD hK rfl rfl)
  refine ⟨by simp, .inl ⟨_, _, rfl, run_takeDeferred hK, ?_⟩⟩
  refine ⟨.bool true, ?_, rfl, hB1⟩
  simp [results, Try.f15, go_sem, ht, hc1]
set_option maxRecDepth 10000000 in
set_option maxHeartbeats 8000000 in
theorem has_in (A B b off c : Nat) (xs : List Int) (w : World) (ha : IsAr w A B xs) (hx : Ws w b off xs) :
    CallsIn Fence.wide 4 Try.prog 15 #[.pointer (some ⟨A, 0, none⟩), .slice (some ⟨b, off, none⟩) xs.length c] w fun e W' => e = .returned (.bool true) ∧ Below w.heap.size w W' := by
  have ca := fun (W : World) (bw : Below w.heap.size w W) => AllA_at _ _ _ _ W (ha.below bw).faces
  have cl := fun (W : World) (bw : Below w.heap.size w W) => Len_at _ _ _ _ W (ha.below bw).faces
  have hfn := afunc_nil #[.pointer (some ⟨w.heap.size + 1 + 1, 0, none⟩)]
  have hle := ha.le
  refine callsIn_of_wp_marks Try.func15 rfl trivial ?_ rfl
  simp only [Try.ntmps15, List.size_toArray, List.length_cons, List.length_nil, Nat.reduceAdd, Nat.reduceSub, Array.replicate_succ, Array.replicate_zero, List.push_toArray, List.append_toArray, List.nil_append, List.cons_append]
  gi_wp2_with (refine ⟨trivial, ?_⟩; gi_at_call 28; refine (callsIn_wide.2 (ca _ (bel_two w _ _))).mono ?_; rintro e w' ⟨rfl, rfl⟩)
  refine wpIn_wide.2 ?_
  go_quiet ((go_at_call 29; exact Calls.quiet_of_same (cl _ (bdrewN (bel_three w _ _ _) _))))
  gi_wp2
  clear ca cl hfn
  have H0 := hasB_start w (.slice (some ⟨b, off, none⟩) xs.length c) (.slice (some ⟨B, 0, none⟩) xs.length xs.length) nq
  have HR : Hid (∀ W, Below w.heap.size w W → IsAr W A B xs) := hid (fun W bw => ha.below bw)
  have HX : Hid (∀ W, Below w.heap.size w W → Ws W b off xs) := hid (fun W bw => hx.below bw)
  have HLB := hid ha.ltB
  clear ha hx
  revert H0
  generalize World.alloc (World.drewN _ nq) _ = w0
  intro H0
  have h0 := hid H0
  clear H0
  refine wpIn_rangeFunc_ownG (Q := _) rfl (by decide) (gf := 40) (lb := #[.pointer (some ⟨w.heap.size + 1 + 1, 0, none⟩)]) rfl trivial (enters_of Try.func40 (by kernel_rfl) rfl)
    (AllA_stops 3 (by omega) (w.heap.size + 1 + 1) B xs (by omega) w0 h0.out.2.2.1 (HR.out w0 h0.out.2.2.2.2).row) kpA_t (kpA_b h0.out.2.2.1.lt (HR.out w0 h0.out.2.2.2.2).ltB) (Below.refl _ _) (fun _ => rfl)
    (fun pre W => pre.length ≤ xs.length ∧ HasB w (.slice (some ⟨b, off, none⟩) xs.length c) (.slice (some ⟨B, 0, none⟩) xs.length xs.length) (pre.length : Int) W)
    (fun c pre _ => c = .ret ∧ BadW xs pre)
    (fun pre A B row hs hg hr => ⟨hs.1, hs.2.own (by have := h0.out.size; omega) hg hr⟩)
    (fun _ _ _ _ _ hs _ _ => hs)
    ⟨by simp, h0.out⟩ ?a1 ?assign ?body ?done ?stop
  case assign =>
    intro l x W K hK
    dsimp only [encW]
    gi_wp2
    exact hK
  case body =>
    rintro l pre x W ⟨hl8, hA⟩ hlen
    have HA := hid hA
    have k0 := hA.1.cell
    obtain ⟨rv, hrv⟩ := hA.2.1
    have k1 := hrv.cell
    have f1 := hrv.frozen
    have k3 := hA.2.2.2.1.cell
    have f3 := hA.2.2.2.1.frozen
    have hc := HX.out W hA.2.2.2.2 pre.length hlen
    clear hA hrv
    obtain ⟨x1, x2⟩ := x
    by_cases hx1 : x1 = pre.length
    · subst hx1
      have hlt : (pre.length : Int) < xs.length := by omega
      have hee : ((pre.length : Int) != (pre.length : Int)) = false := by simp
      by_cases hx2 : x2 = wat xs pre.length
      · have h2n : (x2 != wat xs pre.length) = false := by simp [hx2]
        have HW : Hid ((pre.length : Int) + 1 = ((pre ++ [(pre.length, x2)]).length : Int)) := hid (by simp)
        have HL : Hid ((pre ++ [(pre.length, x2)]).length ≤ xs.length) := hid (by simp; omega)
        clear hx2
        generalize wat xs pre.length = y at *
        gi_wp2
        refine ⟨(KeepsOthers.setCell _ _ _).from _, kpA_set W (by omega) (by have := HLB.out; omega) _ _, HL.out, ?_⟩
        rw [← HW.out]
        exact HA.out.setN _
      · have h2n : (x2 != wat xs pre.length) = true := by simpa using hx2
        have HBad : Hid (BadW xs (pre ++ [(pre.length, x2)])) := hid ⟨pre, _, rfl, fun e => hx2 (by cases e; rfl)⟩
        clear hx2
        generalize wat xs pre.length = y at *
        gi_wp2
        exact ⟨(KeepsOthers.setCell _ _ _).from _, rfl, HBad.out⟩
    · have h1n : ((x1 : Int) != (pre.length : Int)) = true := by simp; omega
      have HBad : Hid (BadW xs (pre ++ [(x1, x2)])) := hid ⟨pre, _, rfl, fun e => hx1 (by cases e; rfl)⟩
      clear hx1
      gi_wp2
      exact ⟨(KeepsOthers.setCell _ _ _).from _, rfl, HBad.out⟩
  case done =>
    rintro D ys W hD rfl ⟨_, hA⟩ hK
    rw [ups_length] at hA
    have HA := hid hA
    have k0 := hA.1.cell
    obtain ⟨rv, hrv⟩ := hA.2.1
    have k1 := hrv.cell
    have f1 := hrv.frozen
    have k3 := hA.2.2.2.1.cell
    clear hA hrv
    gi_wp2
    exact has_leave (HA.out.setR (.bool true)) (World.cell?_setCell_same' _ _ _ (by rw [k1]; rfl)) rfl (by have := h0.out.size; omega) ((KeepsOthers.setCell W ⟨w.heap.size + 1, 0, none⟩ (.bool true)).same D _ hK rfl)
  case stop =>
    rintro D c pre W hD ⟨k, hk, rfl⟩ ⟨rfl, hb⟩ hK
    exact hb.no.elim
theorem has_at (A B b off c : Nat) (xs : List Int) (w : World) (ha : IsAr w A B xs) (hx : Ws w b off xs) :
    Calls Try.prog 15 #[.pointer (some ⟨A, 0, none⟩), .slice (some ⟨b, off, none⟩) xs.length c] w fun e W' => e = .returned (.bool true) ∧ Below w.heap.size w W' :=
  callsIn_wide.1 (has_in A B b off c xs w ha hx)
end Go.Proofs.Ytlmkbnebpaopeaa
