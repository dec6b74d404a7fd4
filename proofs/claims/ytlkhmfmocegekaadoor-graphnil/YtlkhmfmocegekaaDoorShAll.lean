/- package shape: All: the iterator's contract. -/
import Derived.Test.YtlkhmfmocegekaaDoorShLeafOn
import Derived.RangeFuncNested
import Derived.RangeFuncBound
import Derived.RangeFuncCalls
import Derived.RangeFuncLeaves
import Derived.Shelf.Abstract
import Derived.Shelf.RegionOpen
import Derived.OwnWalkIn
import Derived.TacticsInMore
import Derived.LoopNIn
import Derived.LoopIn
namespace Go.Proofs.YtlkhmfmocegekaaDoor
open Go.RowKit Go.Sh Go.Shelf
attribute [local go_sem] Oper.semAt_some
theorem cell_al {w : World} {p : Addr} {v : Value} (O : Obj) (h : w.cell? p = some v) : (w.alloc O).cell? p = some v :=
  ((below_alloc0 w O).cell (p := p) (block_lt_of_cell h)).trans h
theorem grown_of_below {W W' : World} (h : Below W.heap.size W W') : W.grownBy W' none :=
  ⟨h.os, h.tape, h.output, h.size, fun k hk _ => h.block k hk⟩
theorem grown_iterAt (W : World) (k : Nat) (s : ByteArray) (pos : Nat) : W.grownBy (W.iterAt k s pos) (some k) :=
  ⟨rfl, rfl, rfl, by rw [Lib.iterAt_size]; exact Nat.le_refl _, fun i _ hi => Lib.iterAt_other W k i s pos (fun e => hi (by rw [e]))⟩
theorem All_any (s : ByteArray) (w : World) : Calls Tryd.prog 29 #[.string s] w fun e w' => e = .returned (.func (.func 48) #[] #[.pointer (some ⟨w.heap.size, 0, none⟩)]) ∧ w' = w.alloc (.cells #[.string s] 49) := by
  go_enter Tryd.func29, Tryd.ntmps29
  go_wp2
  go_ret
  exact ⟨rfl, rfl⟩
abbrev encF (x : Nat × Int) : Array Value := #[Value.int .i64 (x.1 : Int), Value.int .i64 x.2]
set_option maxRecDepth 100000 in
set_option maxHeartbeats 2000000 in
theorem all1_no (n l Bs : Nat) (s : ByteArray) (h1 : one s = false) (J : List (Nat × Int) → World → Prop) (W : World) (hJ : AbidesFrom W.heap.size J)
    (hBs : W.cell? ⟨Bs, 0, none⟩ = some (.string s)) (h0 : J [] W) (hn : 1 ≤ n) :
    CallsIn Fence.wide n Tryd.prog 48 #[.func (.yield l) #[] #[], .pointer (some ⟨Bs, 0, none⟩)] W fun e W' => (∃ v, e = .returned v) ∧ J [] W' := by
  have c := (callsIn_wide (n := n - 1)).2 (may_any s W)
  rw [h1] at c
  refine callsIn_of_wp Tryd.func48 rfl trivial ?_ rfl
  simp only [Tryd.ntmps48, List.size_toArray, List.length_cons, List.length_nil, Nat.reduceAdd, Nat.reduceSub, Array.replicate_succ, Array.replicate_zero, List.push_toArray, List.append_toArray, List.nil_append, List.cons_append]
  gi_wp2_with (refine ⟨trivial, ?_⟩; gi_at_call 49; refine c.mono ?_; rintro e w1 ⟨rfl, b1⟩)
  refine bodyPost_ret (results_none rfl _ _ _) rfl ?_
  exact ⟨⟨_, rfl⟩, hJ _ _ _ none h0 (grown_of_below b1) (fun r e => by cases e)⟩
set_option maxRecDepth 100000 in
set_option maxHeartbeats 2000000 in
theorem all1_yes (n l Bs : Nat) (s : ByteArray) (h1 : one s = true) (J Jx : List (Nat × Int) → World → Prop) (W : World) (hJ : AbidesFrom W.heap.size J)
    (hY : ∀ pre x W1, J pre W1 → pre.length < fields s → YieldAt Fence.wide (n - 1) Tryd.prog l (encF x) W1 fun e W' =>
      (e = .returned (.bool true) ∧ J (pre ++ [x]) W' ∧ KeepsWalks W1 W') ∨ (e = .returned (.bool false) ∧ Jx (pre ++ [x]) W'))
    (hBs : W.cell? ⟨Bs, 0, none⟩ = some (.string s)) (h0 : J [] W) (hn : 1 ≤ n) :
    CallsIn Fence.wide n Tryd.prog 48 #[.func (.yield l) #[] #[], .pointer (some ⟨Bs, 0, none⟩)] W fun e W' => (∃ v, e = .returned v) ∧
      ((∃ ys, ys = upto (fieldAt s) (fields s) ∧ J ys W') ∨ (∃ pre, (∃ k, k ≤ fields s ∧ pre = upto (fieldAt s) k) ∧ Jx pre W')) := by
  have c := (callsIn_wide (n := n - 1)).2 (may_any s W)
  rw [h1] at c
  have hfs := fields_one h1
  rw [hfs] at hY ⊢
  have hlt := block_lt_of_cell hBs
  refine callsIn_of_wp Tryd.func48 rfl trivial ?_ rfl
  simp only [Tryd.ntmps48, List.size_toArray, List.length_cons, List.length_nil, Nat.reduceAdd, Nat.reduceSub, Array.replicate_succ, Array.replicate_zero, List.push_toArray, List.append_toArray, List.nil_append, List.cons_append]
  gi_wp2
  refine ⟨trivial, ?_⟩
  gi_at_call 49
  refine c.mono ?_
  rintro e w1 ⟨rfl, b1⟩
  have hBs1 := (b1.cell (p := ⟨Bs, 0, none⟩) hlt).trans hBs
  have hBs2 := cell_al lettersObj hBs1
  gi_wp2
  refine ⟨trivial, ?_⟩
  gi_at_call 50
  refine (callsIn_wide.2 (letters_any _)).mono ?_
  rintro e w2 ⟨rfl, rfl⟩
  gi_wp2
  have hg0 : W.heap.size ≤ w1.heap.size := b1.size
  have hJ1 : J [] w1 := hJ _ _ _ none h0 (grown_of_below b1) (fun r e => by cases e)
  generalize hG : w1.heap.size = g at *
  gi_loopw [] (fun wr => ∃ k : Nat, k ≤ s.size ∧ wr.heap[g]? = some lettersObj ∧ wr.heap[g + 1]? = some (.stringIter s k) ∧ J (upto (fieldAt s) k) wr)
    (fun wr => s.size - wr.iterPos (g + 1))
  case atStart =>
    refine ⟨0, Nat.zero_le _, ?_, ?_, ?_⟩
    · rw [← hG]; exact (Below.heap_alloc _ _ _ (by simp)).trans (heap_alloc_last w1 _)
    · have := World.iter_heap (w1.alloc lettersObj) s 0
      rw [← hG]; simpa using this
    · have h2 := hJ _ _ _ none hJ1 (World.grownBy_alloc w1 lettersObj none) (fun r e => by cases e)
      exact hJ _ _ _ none h2 (World.grownBy_alloc (w1.alloc lettersObj) (.stringIter s 0) none) (fun r e => by cases e)
  case round =>
    obtain ⟨k, hk, hm, hit, hJs⟩ := hrel
    by_cases hp : k < s.size
    · have hb : okB (s.data.toList.getD k 0) = true := by
        have hl : k < s.data.toList.length := by rw [Array.length_toList]; exact hp
        have := one_all h1 k hl
        rwa [List.getD_eq_getElem?_getD, List.getElem?_eq_getElem hl]
      obtain ⟨hw1, hlk⟩ := decode_okB s k hp hb
      have hnx0 : ∀ ty, (Instr.next (.pointer (some ⟨g + 1, 0, none⟩)) true ty).run Tryd.prog wr = .ok (.tuple #[.bool true, .int .i64 k, .int .i32 (Utf8.decode s k).1]) (wr.iterAt (g + 1) s (k + 1)) := fun ty => by
        have := Lib.run_next_any_at (P := Tryd.prog) wr (g + 1) s k ty hit hp
        rwa [hw1] at this
      have hm2 : (wr.iterAt (g + 1) s (k + 1)).heap[g]? = some lettersObj := (Lib.iterAt_other wr _ _ s _ (by omega)).trans hm
      have hit2 := Lib.iterAt_heap wr (g + 1) s k (k + 1) hit
      have hlo := lookup_plain _ _ hm2 ((Utf8.decode s k).1 : Int)
      rw [hlk] at hlo
      have hJ2 : J (upto (fieldAt s) k) (wr.iterAt (g + 1) s (k + 1)) := hJ _ _ _ (some (g + 1)) hJs (grown_iterAt wr (g + 1) s (k + 1)) (fun r e => by cases e; exact ⟨by omega, _, hit, rfl⟩)
      obtain ⟨fn, tmps, assign, body, hy, hR⟩ := hY _ (fieldAt s k) _ hJ2 (by rw [upto_length]; exact hp)
      dsimp only [encF, fieldAt] at hy
      clear hw1 hlk hb
      obtain ⟨kk, hkk⟩ : ∃ kk, kk = kb (s.data.toList.getD k 0) := ⟨_, rfl⟩
      rw [← hkk] at hlo hy
      clear hkk
      gi_wp2
      refine hR.mono ?_
      rintro e W3 (⟨rfl, hJ3, hk3⟩ | ⟨rfl, hJx3⟩)
      · gi_wp2
        go_roundw
        case rel => exact ⟨k + 1, by omega, hk3.same _ _ hm2 rfl, hk3.same _ _ hit2 rfl, by rw [upto_succ]; exact hJ3⟩
        case measure =>
          simp only [World.iterPos, hk3.same _ _ hit2 rfl, hit]
          omega
      · gi_wp2
        refine bodyPost_ret (results_none rfl _ _ _) rfl ?_
        exact ⟨⟨_, rfl⟩, .inr ⟨_, ⟨k + 1, by omega, (upto_succ _ _).symm⟩, hJx3⟩⟩
    · obtain rfl : k = s.size := by omega
      have hnx0 : ∀ ty, (Instr.next (.pointer (some ⟨g + 1, 0, none⟩)) true ty).run Tryd.prog wr = _ := fun ty => Lib.run_next_end_at wr (g + 1) s _ ty hit hp
      gi_wp2
      go_end0
      exact ⟨⟨_, rfl⟩, .inl ⟨_, rfl, hJs⟩⟩
/-- What All hands back goes over the fields, each with its kind; it may be left. -/
theorem All_stops (n : Nat) (hn : 1 ≤ n) (Bs : Nat) (s : ByteArray) (w : World) (hc : w.cell? ⟨Bs, 0, none⟩ = some (.string s)) :
    SeqStopsK Fence.wide n Tryd.prog 48 #[.pointer (some ⟨Bs, 0, none⟩)] encF KeepsWalks (fun ys => ys = upto (fieldAt s) (fields s))
      (fun pre => ∃ k, k ≤ fields s ∧ pre = upto (fieldAt s) k) (fields s) w := fun l J Jx W hW hJ _ hY h0 => by
  have hc' := (hW.cell (p := ⟨Bs, 0, none⟩) (block_lt_of_cell hc)).trans hc
  by_cases h1 : one s = true
  · exact all1_yes n l Bs s h1 J Jx W hJ hY hc' h0 hn
  · have h1' : one s = false := by simpa using h1
    refine (all1_no n l Bs s h1' J W hJ hc' h0 hn).mono ?_
    rintro e W' ⟨he, hj⟩
    refine ⟨he, .inl ⟨[], ?_, hj⟩⟩
    simp [fields, h1', upto]
end Go.Proofs.YtlkhmfmocegekaaDoor
