/- package arena: what All hands back: the iterator's contract. -/
import Derived.Test.YtldfmlkjeniemaaGreatDoorArLeafOn
import Derived.RangeFuncNested
import Derived.RangeFuncBound
import Derived.RangeFuncCalls
import Derived.RangeFuncLeaves
import Derived.Shelf.Abstract
import Derived.Shelf.RegionOpen
import Derived.OwnWalkIn
import Derived.TacticsInMore
import Derived.LoopNIn
import Derived.LoopIn
namespace Go.Proofs.YtldfmlkjeniemaaGreatDoor
open Go.RowKit Go.Shelf
attribute [local go_sem] Oper.semAt_some
abbrev encW (x : Nat × Int) : Array Value := #[Value.int .i64 (x.1 : Int), Value.int .u64 x.2]
/-- The first so many words, with their numbers. -/
def ups (xs : List Int) (k : Nat) : List (Nat × Int) := (List.range k).map fun i => (i, wat xs i)
theorem ups_length (xs : List Int) (k : Nat) : (ups xs k).length = k := by simp [ups]
theorem ups_succ (xs : List Int) (k : Nat) : ups xs (k + 1) = ups xs k ++ [(k, wat xs k)] := by simp [ups, List.range_succ]
/-- What a round must keep: the box of the words' slice, and the words. -/
def KpA (Bs B : Nat) (W W' : World) : Prop := W'.heap[Bs]? = W.heap[Bs]? ∧ W'.heap[B]? = W.heap[B]?
theorem kpA_t {Bs B : Nat} {W1 W2 W3 : World} (h : KpA Bs B W1 W2) (k : KpA Bs B W2 W3) : KpA Bs B W1 W3 := ⟨k.1.trans h.1, k.2.trans h.2⟩
theorem kpA_b {Bs B : Nat} {w : World} (hs : Bs < w.heap.size) (hb : B < w.heap.size) (W : World) (l : Nat) (o o' : Obj) (hl : w.heap.size ≤ l) (_ : W.heap[l]? = some o) (_ : o.isCells = false) (_ : o.isWalk = false) : KpA Bs B W (W.putObj l o') :=
  ⟨World.putObj_heap_other (by omega), World.putObj_heap_other (by omega)⟩
theorem kpA_set {Bs B : Nat} (W : World) {g : Nat} (h1 : g ≠ Bs) (h2 : g ≠ B) (j : Nat) (v : Value) : KpA Bs B W (W.setCell ⟨g, j, none⟩ v) := by
  refine ⟨?_, ?_⟩ <;> simp [World.setCell, Array.getElem?_modify, h1, h2]
theorem kpA_refl {Bs B : Nat} (W : World) : KpA Bs B W W := ⟨rfl, rfl⟩
set_option maxRecDepth 100000 in
set_option maxHeartbeats 2000000 in
theorem wall1_yes (n l Bs B : Nat) (xs : List Int) (hxs : xs.length ≤ 20000) (J Jx : List (Nat × Int) → World → Prop) (W : World) (hn : 1 ≤ n)
    (hY : ∀ pre x W1, J pre W1 → pre.length < xs.length → YieldAt Fence.wide (n - 1) Tryz.prog l (encW x) W1 fun e W' =>
      (e = .returned (.bool true) ∧ J (pre ++ [x]) W' ∧ KpA Bs B W1 W') ∨ (e = .returned (.bool false) ∧ Jx (pre ++ [x]) W'))
    (hBs : W.heap[Bs]? = some (.cells #[.slice (some ⟨B, 0, none⟩) xs.length xs.length] 57)) (hB : W.heap[B]? = some (.cells (wds xs) 39)) (h0 : J [] W) :
    CallsIn Fence.wide n Tryz.prog 91 #[.func (.yield l) #[] #[], .pointer (some ⟨Bs, 0, none⟩)] W fun e W' => (∃ v, e = .returned v) ∧
      ((∃ ys, ys = ups xs xs.length ∧ J ys W') ∨ (∃ pre, (∃ k, k ≤ xs.length ∧ pre = ups xs k) ∧ Jx pre W')) := by
  have hc0 := at_row hBs 0 rfl
  refine callsIn_of_wp Tryz.func91 rfl trivial ?_ rfl
  simp only [Tryz.ntmps91, List.size_toArray, List.length_cons, List.length_nil, Nat.reduceAdd, Nat.reduceSub, Array.replicate_succ, Array.replicate_zero, List.push_toArray, List.append_toArray, List.nil_append, List.cons_append]
  gi_wp2
  clear hc0
  gi_loopw [6] (fun i wr => ∃ k : Nat, k ≤ xs.length ∧ i = .int .i64 k ∧ KpA Bs B W wr ∧ J (ups xs k) wr) (fun i _ => xs.length - (intOf i).toNat)
  case atStart => exact ⟨0, Nat.zero_le _, rfl, kpA_refl W, h0⟩
  case round =>
    obtain ⟨k, hk, rfl, hK, hJ⟩ := hrel
    have hBs1 := hK.1.trans hBs
    have hB1 := hK.2.trans hB
    have hc1 := at_row hBs1 0 rfl
    by_cases hlt : k < xs.length
    · have hlt' : (k : Int) < xs.length := by omega
      have hc2 := at_row hB1 k (wds_get xs k hlt)
      obtain ⟨fn, tmps, assign, body, hy, hR⟩ := hY _ (k, wat xs k) _ hJ (by rw [ups_length]; exact hlt)
      dsimp only [encW] at hy
      have HUP := hid (ups_succ xs k)
      have HK := hid hK
      clear hK
      generalize wat xs k = x at *
      clear hBs1 hB1
      gi_wp2
      refine hR.mono ?_
      rintro e W3 (⟨rfl, hJ3, hk3⟩ | ⟨rfl, hJx3⟩)
      · gi_wp2
        go_roundw
        case rel => exact ⟨k + 1, by omega, by go_num, kpA_t HK.out hk3, by rw [HUP.out]; exact hJ3⟩
        case measure => simp [intOf]; omega
      · gi_wp2
        refine bodyPost_ret (results_none rfl _ _ _) rfl ?_
        exact ⟨⟨_, rfl⟩, .inr ⟨_, ⟨k + 1, by omega, HUP.out.symm⟩, hJx3⟩⟩
    · obtain rfl : k = xs.length := by omega
      gi_wp2
      go_end0
      exact ⟨⟨_, rfl⟩, .inl ⟨_, rfl, hJ⟩⟩
/-- What All hands back goes over the words, each with its number; it may be left. -/
theorem AllA_stops (n : Nat) (hn : 1 ≤ n) (Bs B : Nat) (xs : List Int) (hxs : xs.length ≤ 20000) (w : World) (hBs : w.heap[Bs]? = some (.cells #[.slice (some ⟨B, 0, none⟩) xs.length xs.length] 57)) (hB : w.heap[B]? = some (.cells (wds xs) 39)) :
    SeqStopsK Fence.wide n Tryz.prog 91 #[.pointer (some ⟨Bs, 0, none⟩)] encW (KpA Bs B) (fun ys => ys = ups xs xs.length)
      (fun pre => ∃ k, k ≤ xs.length ∧ pre = ups xs k) xs.length w := fun l J Jx W hW _ _ hY h0 =>
  wall1_yes n l Bs B xs hxs J Jx W hn hY ((hW.block Bs (Array.getElem?_eq_some_iff.1 hBs).1).trans hBs) ((hW.block B (Array.getElem?_eq_some_iff.1 hB).1).trans hB) h0
set_option maxRecDepth 100000 in
set_option maxHeartbeats 2000000 in
theorem wall1_nil (n l Bs : Nat) (a : Option Addr) (c : Nat) (J Jx : List (Nat × Int) → World → Prop) (W : World)
    (hBs : W.cell? ⟨Bs, 0, none⟩ = some (.slice a 0 c)) (h0 : J [] W) :
    CallsIn Fence.wide n Tryz.prog 91 #[.func (.yield l) #[] #[], .pointer (some ⟨Bs, 0, none⟩)] W fun e W' => (∃ v, e = .returned v) ∧
      ((∃ ys, ys = ([] : List (Nat × Int)) ∧ J ys W') ∨ (∃ pre, pre = ([] : List (Nat × Int)) ∧ Jx pre W')) := by
  refine callsIn_of_wp Tryz.func91 rfl trivial ?_ rfl
  simp only [Tryz.ntmps91, List.size_toArray, List.length_cons, List.length_nil, Nat.reduceAdd, Nat.reduceSub, Array.replicate_succ, Array.replicate_zero, List.push_toArray, List.append_toArray, List.nil_append, List.cons_append]
  gi_wp2
  gi_loopw [6] (fun i wr => i = .int .i64 0 ∧ wr = W) (fun _ _ => 0)
  case atStart => exact ⟨rfl, rfl⟩
  case round =>
    obtain ⟨rfl, rfl⟩ := hrel
    gi_wp2
    go_end0
    exact ⟨⟨_, rfl⟩, .inl ⟨_, rfl, h0⟩⟩
/-- .. of no words: nothing. -/
theorem AllN_stops (n : Nat) (Bs : Nat) (a : Option Addr) (c : Nat) (w : World) (hBs : w.cell? ⟨Bs, 0, none⟩ = some (.slice a 0 c)) :
    SeqStopsK Fence.wide n Tryz.prog 91 #[.pointer (some ⟨Bs, 0, none⟩)] encW KeepsWalks (fun ys => ys = []) (fun pre => pre = []) 0 w := fun l J Jx W hW _ _ _ h0 =>
  wall1_nil n l Bs a c J Jx W ((hW.cell (p := ⟨Bs, 0, none⟩) (block_lt_of_cell hBs)).trans hBs) h0
end Go.Proofs.YtldfmlkjeniemaaGreatDoor
/- The laws' own has: an arena has just these words. -/
namespace Go.Proofs.YtldfmlkjeniemaaGreatDoor
open Go.RowKit Go.Shelf
attribute [local go_sem] Oper.semAt_some
theorem abox_own {A B : World} {row : Option Nat} {b : Nat} {t : TypeId} {v : Value} (h : Boxed A b t v) (hg : A.grownBy B row) (hr : ∀ r, row = some r → ∃ o : Obj, A.heap[r]? = some o ∧ o.isCells = false) : Boxed B b t v :=
  boxed_own (β := Unit) b t (fun _ => v) () A B row h hg hr
theorem abox_last (w : World) (g : Nat) (hg : g = w.heap.size) (t : TypeId) (v : Value) : Boxed (w.alloc (.cells #[v] t)) g t v := by
  subst hg; exact Boxed.new w t v
theorem afunc_nil (lb : Array Value) (w : World) : (binOp .eql 108 (.func (.func 91) #[] lb) .nilFunc).run Tryz.prog w = .ok (.bool false) w := by
  have h := run_underlying (w := w) Tryz.underlying108
  have e : (Op.equalIn Op.maxDepth 108 (Value.func (Fn.func 91) #[] lb) Value.nilFunc).run Tryz.prog w = .ok false w := by
    show (Op.equalIn (9999 + 1) 108 (Value.func (Fn.func 91) #[] lb) Value.nilFunc).run Tryz.prog w = .ok false w
    unfold Op.equalIn
    simp [h, Result.andThen]
  simp [binOp, Op.equal, go_sem, Result.andThen, e]
/-- A loop is left where a word is not the one that it should be. -/
def BadW (xs : List Int) (pre : List (Nat × Int)) : Prop := ∃ ini last, pre = ini ++ [last] ∧ last ≠ (ini.length, wat xs ini.length)
theorem BadW.no {xs : List Int} {k : Nat} (h : BadW xs (ups xs k)) : False := by
  obtain ⟨ini, last, e1, e2⟩ := h
  cases k with
  | zero => simp [ups] at e1
  | succ k =>
    rw [ups_succ] at e1
    obtain ⟨rfl, e5⟩ := List.append_inj' e1 rfl
    rw [ups_length] at e2
    exact e2 (by simpa using e5.symm)
/-- What has' boxes hold: the list, the answer, the arena's words, how many were met. -/
def HasB (w : World) (l s : Value) (n : Int) (W : World) : Prop :=
  Boxed W w.heap.size 25 l ∧ (∃ v, Boxed W (w.heap.size + 1) 4 v) ∧ Boxed W (w.heap.size + 1 + 1) 57 s ∧ Boxed W (w.heap.size + 1 + 1 + 1) 3 (.int .i64 n) ∧ Below w.heap.size w W
theorem HasB.own {w A B : World} {l s : Value} {n : Int} {row : Option Nat} {C : Nat} (h : HasB w l s n A) (hC : w.heap.size ≤ C) (hg : A.grownBy B row) (hr : ∀ r, row = some r → C ≤ r ∧ ∃ o : Obj, A.heap[r]? = some o ∧ o.isCells = false) : HasB w l s n B := by
  obtain ⟨h0, ⟨v1, h1⟩, h2, h3, hb⟩ := h
  have hr' := fun r e => (hr r e).2
  exact ⟨abox_own h0 hg hr', ⟨_, abox_own h1 hg hr'⟩, abox_own h2 hg hr', abox_own h3 hg hr', hb.grown hg hb.size (fun k e => Nat.le_trans hC (hr k e).1)⟩
theorem HasB.setN {w A : World} {l s : Value} {n : Int} (h : HasB w l s n A) (m : Int) : HasB w l s m (A.setCell ⟨w.heap.size + 1 + 1 + 1, 0, none⟩ (.int .i64 m)) := by
  obtain ⟨h0, ⟨v1, h1⟩, h2, h3, hb⟩ := h
  exact ⟨h0.other (by omega) _, ⟨_, h1.other (by omega) _⟩, h2.other (by omega) _, h3.set _, hb.setCell (p := ⟨w.heap.size + 1 + 1 + 1, 0, none⟩) (by show w.heap.size ≤ w.heap.size + 1 + 1 + 1; omega) _⟩
theorem HasB.setR {w A : World} {l s : Value} {n : Int} (h : HasB w l s n A) (v : Value) : HasB w l s n (A.setCell ⟨w.heap.size + 1, 0, none⟩ v) := by
  obtain ⟨h0, ⟨v1, h1⟩, h2, h3, hb⟩ := h
  exact ⟨h0.other (by omega) _, ⟨_, h1.set _⟩, h2.other (by omega) _, h3.other (by omega) _, hb.setCell (p := ⟨w.heap.size + 1, 0, none⟩) (by show w.heap.size ≤ w.heap.size + 1; omega) _⟩
theorem HasB.size {w A : World} {l s : Value} {n : Int} (h : HasB w l s n A) : w.heap.size + 4 ≤ A.heap.size := h.2.2.2.1.lt
theorem hasB_start (w : World) (l s : Value) (nq : Nat) : HasB w l s 0 (((((w.alloc (.cells #[l] 25)).alloc (.cells #[.bool false] 4)).alloc (.cells #[s] 57)).drewN nq).alloc (.cells #[.int .i64 0] 3)) := by
  have k : ∀ {W : World} {g : Nat} {t : TypeId} {v : Value}, Boxed W g t v → Boxed (W.drewN nq) g t v := fun h => h
  refine ⟨(k (((Boxed.new w _ _).alloc _).alloc _)).alloc _, ⟨_, (k ((abox_last _ _ (by simp) _ _).alloc _)).alloc _⟩, (k (abox_last _ _ (by simp) _ _)).alloc _, abox_last _ _ (by simp [World.drewN]) _ _, ?_⟩
  exact (bdrewN ((((Below.refl _ w).alloc (Nat.le_refl _) _).alloc (by simp) _).alloc (by simp; omega) _) nq).alloc (by simp [World.drewN]; omega) _
end Go.Proofs.YtldfmlkjeniemaaGreatDoor
