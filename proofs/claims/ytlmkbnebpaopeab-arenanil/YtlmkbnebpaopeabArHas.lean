/- The laws' own has: an arena has just these words. -/
import Derived.Test.YtlmkbnebpaopeabArAll
namespace Go.Proofs.Ytlmkbnebpaopeab
open Go.RowKit Go.Shelf
attribute [local go_sem] Oper.semAt_some
theorem abox_own {A B : World} {row : Option Nat} {b : Nat} {t : TypeId} {v : Value} (h : Boxed A b t v) (hg : A.grownBy B row) (hr : ∀ r, row = some r → ∃ o : Obj, A.heap[r]? = some o ∧ o.isCells = false) : Boxed B b t v :=
  boxed_own (β := Unit) b t (fun _ => v) () A B row h hg hr
theorem abox_last (w : World) (g : Nat) (hg : g = w.heap.size) (t : TypeId) (v : Value) : Boxed (w.alloc (.cells #[v] t)) g t v := by
  subst hg; exact Boxed.new w t v
theorem afunc_nil (lb : Array Value) (w : World) : (binOp .eql 38 (.func (.func 27) #[] lb) .nilFunc).run Try.prog w = .ok (.bool false) w := by
  have h := run_underlying (w := w) Try.underlying38
  have e : (Op.equalIn Op.maxDepth 38 (Value.func (Fn.func 27) #[] lb) Value.nilFunc).run Try.prog w = .ok false w := by
    show (Op.equalIn (9999 + 1) 38 (Value.func (Fn.func 27) #[] lb) Value.nilFunc).run Try.prog w = .ok false w
    unfold Op.equalIn
    simp [h, Result.andThen]
  simp [binOp, Op.equal, go_sem, Result.andThen, e]
/-- A loop is left where a word is not the one that it should be. -/
def BadW (xs : List Int) (pre : List (Nat × Int)) : Prop := ∃ ini last, pre = ini ++ [last] ∧ last ≠ (ini.length, wat xs ini.length)
theorem BadW.no {xs : List Int} {k : Nat} (h : BadW xs (ups xs k)) : False := by
  obtain ⟨ini, last, e1, e2⟩ := h
  cases k with
  | zero => simp [ups] at e1
  | succ k =>
    rw [ups_succ] at e1
    obtain ⟨rfl, e5⟩ := List.append_inj' e1 rfl
    rw [ups_length] at e2
    exact e2 (by simpa using e5.symm)
/-- What has' boxes hold: the list, the answer, the arena's words, how many were met. -/
def HasB (w : World) (l s : Value) (n : Int) (W : World) : Prop :=
  Boxed W w.heap.size 27 l ∧ (∃ v, Boxed W (w.heap.size + 1) 4 v) ∧ Boxed W (w.heap.size + 1 + 1) 28 s ∧ Boxed W (w.heap.size + 1 + 1 + 1) 3 (.int .i64 n) ∧ Below w.heap.size w W
theorem HasB.own {w A B : World} {l s : Value} {n : Int} {row : Option Nat} {C : Nat} (h : HasB w l s n A) (hC : w.heap.size ≤ C) (hg : A.grownBy B row) (hr : ∀ r, row = some r → C ≤ r ∧ ∃ o : Obj, A.heap[r]? = some o ∧ o.isCells = false) : HasB w l s n B := by
  obtain ⟨h0, ⟨v1, h1⟩, h2, h3, hb⟩ := h
  have hr' := fun r e => (hr r e).2
  exact ⟨abox_own h0 hg hr', ⟨_, abox_own h1 hg hr'⟩, abox_own h2 hg hr', abox_own h3 hg hr', hb.grown hg hb.size (fun k e => Nat.le_trans hC (hr k e).1)⟩
theorem HasB.setN {w A : World} {l s : Value} {n : Int} (h : HasB w l s n A) (m : Int) : HasB w l s m (A.setCell ⟨w.heap.size + 1 + 1 + 1, 0, none⟩ (.int .i64 m)) := by
  obtain ⟨h0, ⟨v1, h1⟩, h2, h3, hb⟩ := h
  exact ⟨h0.other (by omega) _, ⟨_, h1.other (by omega) _⟩, h2.other (by omega) _, h3.set _, hb.setCell (p := ⟨w.heap.size + 1 + 1 + 1, 0, none⟩) (by show w.heap.size ≤ w.heap.size + 1 + 1 + 1; omega) _⟩
theorem HasB.setR {w A : World} {l s : Value} {n : Int} (h : HasB w l s n A) (v : Value) : HasB w l s n (A.setCell ⟨w.heap.size + 1, 0, none⟩ v) := by
  obtain ⟨h0, ⟨v1, h1⟩, h2, h3, hb⟩ := h
  exact ⟨h0.other (by omega) _, ⟨_, h1.set _⟩, h2.other (by omega) _, h3.other (by omega) _, hb.setCell (p := ⟨w.heap.size + 1, 0, none⟩) (by show w.heap.size ≤ w.heap.size + 1; omega) _⟩
theorem HasB.size {w A : World} {l s : Value} {n : Int} (h : HasB w l s n A) : w.heap.size + 4 ≤ A.heap.size := h.2.2.2.1.lt
theorem hasB_start (w : World) (l s : Value) (nq : Nat) : HasB w l s 0 (((((w.alloc (.cells #[l] 27)).alloc (.cells #[.bool false] 4)).alloc (.cells #[s] 28)).drewN nq).alloc (.cells #[.int .i64 0] 3)) := by
  have k : ∀ {W : World} {g : Nat} {t : TypeId} {v : Value}, Boxed W g t v → Boxed (W.drewN nq) g t v := fun h => h
  refine ⟨(k (((Boxed.new w _ _).alloc _).alloc _)).alloc _, ⟨_, (k ((abox_last _ _ (by simp) _ _).alloc _)).alloc _⟩, (k (abox_last _ _ (by simp) _ _)).alloc _, abox_last _ _ (by simp [World.drewN]) _ _, ?_⟩
  exact (bdrewN ((((Below.refl _ w).alloc (Nat.le_refl _) _).alloc (by simp) _).alloc (by simp; omega) _) nq).alloc (by simp [World.drewN]; omega) _
end Go.Proofs.Ytlmkbnebpaopeab
