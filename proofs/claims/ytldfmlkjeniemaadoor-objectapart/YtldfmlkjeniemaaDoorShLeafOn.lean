/- package shape's leaves: letters (a map made anew), may (a range over a text). -/
import Derived.Test.YtldfmlkjeniemaaDoorObMathOn
import Derived.Test.YtldfmlkjeniemaaDoorShMathOn
import Derived.Lib.OthersKept
import Derived.MapKept
import Derived.RangeFuncNested
import Derived.RangeFuncBound
import Derived.RangeFuncCalls
import Derived.RangeFuncLeaves
import Derived.Shelf.Abstract
import Derived.Shelf.RegionOpen
import Derived.OwnWalkIn
import Derived.TacticsInMore
import Derived.LoopNIn
import Derived.LoopIn
namespace Go.Proofs.YtldfmlkjeniemaaDoor
open Go.RowKit
/-- The map that letters makes. -/
def lettersObj : Obj := .map #[{ key := .int .i32 112, val := .int .i64 0, born := 0 }, { key := .int .i32 115, val := .int .i64 1, born := 1 }] 2
theorem set_alloc_new (w : World) (o o' : Obj) : ({ w.alloc o with heap := (w.alloc o).heap.setIfInBounds w.heap.size o' } : World) = w.alloc o' := by
  have e : (w.heap.push o).setIfInBounds w.heap.size o' = w.heap.push o' := by
    apply Array.ext_getElem?
    intro i
    by_cases h : i = w.heap.size
    · subst h; simp
    · simp [Array.getElem?_push, h, Ne.symm h]
  show ({ w with heap := (w.heap.push o).setIfInBounds w.heap.size o' } : World) = { w with heap := w.heap.push o' }
  rw [e]
theorem mapUpdate_new (w : World) (es : Array MapEntry) (c : Nat) (k : Int) (x : Value) (hf : Instr.findNow (.int .i32) (.int .i32 k) es.toList 0 = some none) :
    (Instr.mapUpdate 158 (.map (some w.heap.size)) (.int .i32 k) x).run Tryd.prog (w.alloc (.map es c)) = .ok () (w.alloc (.map (es.push { key := .int .i32 k, val := x, born := c }) (c + 1))) := by
  have hm := Tryd.underlying158
  have hk := Tryd.underlying21
  have hb := heap_alloc_last w (.map es c)
  have hc : (Instr.checkKey false 10000 21 (.int .i32 k)).run Tryd.prog (w.alloc (.map es c)) = .ok () (w.alloc (.map es c)) := MapKept.run_checkKey (k := .int .i32 k) hk (by simp [MapKept.IsKey]) false 9999
  simp [Instr.mapUpdate, run_underlying hm, MapKept.run_getObj_map hb, hc, MapKept.run_findKey hk hf, MapKept.run_setObj_map _ hb, Result.andThen]
  exact set_alloc_new w _ _
theorem letters_any (w : World) : Calls Tryd.prog 102 #[] w fun e w' => e = .returned (.map (some w.heap.size)) ∧ w' = w.alloc lettersObj := by
  have hmm := @run_makeMap Tryd.prog
  have u1 := mapUpdate_new w #[] 0 112 (.int .i64 0) rfl
  have u2 := mapUpdate_new w #[{ key := .int .i32 112, val := .int .i64 0, born := 0 }] 1 115 (.int .i64 1) rfl
  simp only [List.push_toArray, List.nil_append, List.cons_append] at u1 u2
  go_enter Tryd.func102, Tryd.ntmps102
  go_wp2
  go_ret
  exact ⟨rfl, rfl⟩
/-- What a letter's kind is in that map; none is 0, false. -/
def lk (r : Int) : Int := if r = 115 then 1 else 0
def lok (r : Int) : Bool := r == 112 || r == 115
theorem find_letters (r : Int) : Instr.findNow (.int .i32) (.int .i32 r) [{ key := .int .i32 112, val := .int .i64 0, born := 0 }, { key := .int .i32 115, val := .int .i64 1, born := 1 }] 0
    = some (if r = 112 then some (0, .int .i64 0) else if r = 115 then some (1, .int .i64 1) else none) := by
  by_cases h1 : r = 112
  · subst h1; rfl
  · by_cases h2 : r = 115
    · subst h2; rfl
    · have e1 : (r == 112) = false := by simpa using h1
      have e2 : (r == 115) = false := by simpa using h2
      simp [Instr.findNow, Instr.sameNow, h1, h2, e1, e2]
theorem lookup_ok (w : World) (g : Nat) (hb : w.heap[g]? = some lettersObj) (r : Int) :
    (Instr.lookup 158 (.map (some g)) (.int .i32 r) true).run Tryd.prog w = .ok (.tuple #[.int .i64 (lk r), .bool (lok r)]) w := by
  have hm := Tryd.underlying158
  have hk := Tryd.underlying21
  have hc : (Instr.checkKey false 10000 21 (.int .i32 r)).run Tryd.prog w = .ok () w := MapKept.run_checkKey (k := .int .i32 r) hk (by simp [MapKept.IsKey]) false 9999
  have hf := MapKept.run_findKey (P := Tryd.prog) (w := w) hk (find_letters r)
  have hz := Tryd.zeroValue160 w
  by_cases h1 : r = 112
  · subst h1
    simp [Instr.lookup, run_underlying hm, MapKept.run_getObj_map hb, hc, hf, Result.andThen, lk, lok]
  · by_cases h2 : r = 115
    · subst h2
      simp [Instr.lookup, run_underlying hm, MapKept.run_getObj_map hb, hc, hf, Result.andThen, lk, lok]
    · simp [Instr.lookup, run_underlying hm, MapKept.run_getObj_map hb, hc, hf, Result.andThen, lk, lok, h1, h2, hz]
theorem lookup_plain (w : World) (g : Nat) (hb : w.heap[g]? = some lettersObj) (r : Int) :
    (Instr.lookup 158 (.map (some g)) (.int .i32 r) false).run Tryd.prog w = .ok (.int .i64 (lk r)) w := by
  have hm := Tryd.underlying158
  have hk := Tryd.underlying21
  have hc : (Instr.checkKey false 10000 21 (.int .i32 r)).run Tryd.prog w = .ok () w := MapKept.run_checkKey (k := .int .i32 r) hk (by simp [MapKept.IsKey]) false 9999
  have hf := MapKept.run_findKey (P := Tryd.prog) (w := w) hk (find_letters r)
  have hz := Tryd.zeroValue160 w
  by_cases h1 : r = 112
  · subst h1
    simp [Instr.lookup, run_underlying hm, MapKept.run_getObj_map hb, hc, hf, Result.andThen, lk]
  · by_cases h2 : r = 115
    · subst h2
      simp [Instr.lookup, run_underlying hm, MapKept.run_getObj_map hb, hc, hf, Result.andThen, lk]
    · simp [Instr.lookup, run_underlying hm, MapKept.run_getObj_map hb, hc, hf, Result.andThen, lk, h1, h2, hz]
end Go.Proofs.YtldfmlkjeniemaaDoor
/- package shape: may: a range over a text, a map asked at each letter. -/
namespace Go.Proofs.YtldfmlkjeniemaaDoor
open Go.RowKit Go.Sh
theorem may_long (s : ByteArray) (w : World) (h : 8 < s.size) : Calls Tryd.prog 93 #[.string s] w fun e w' => e = .returned (.bool false) ∧ Below w.heap.size w w' := by
  have h' : (8 : Int) < (s.size : Int) := by omega
  go_enter Tryd.func93, Tryd.ntmps93
  go_wp2
  go_ret
  exact ⟨rfl, Below.refl _ _⟩
/-- What the letters are, from a place on: the decoded one is a letter just if the byte is. -/
theorem lok_decode (s : ByteArray) (pos : Nat) (h : pos < s.size) : lok ((Utf8.decode s pos).1 : Int) = okB (s.data.toList.getD pos 0) := by
  have hl : pos < s.data.toList.length := by rw [Array.length_toList]; exact h
  have hg : s.data.toList.getD pos 0 = s[pos]'h := by
    rw [List.getD_eq_getElem?_getD, List.getElem?_eq_getElem hl, Option.getD_some]
    rfl
  rw [hg]
  by_cases ha : (s[pos]'h).toNat < 128
  · rw [decode_ascii s pos h ha]
    generalize s[pos]'h = b
    simp only [lok, okB]
    rw [Bool.eq_iff_iff]
    simp only [Bool.or_eq_true, beq_iff_eq]
    constructor
    · rintro (h | h)
      · left; apply UInt8.toNat_inj.1; simp; omega
      · right; apply UInt8.toNat_inj.1; simp; omega
    · rintro (h | h) <;> subst h <;> simp
  · have hd := (decode_high s pos h (by omega)).1
    generalize hb : s[pos]'h = b
    rw [hb] at ha
    have e1 : lok ((Utf8.decode s pos).1 : Int) = false := by
      simp only [lok, Bool.or_eq_false_iff, beq_eq_false_iff_ne]
      constructor <;> omega
    have e2 : okB b = false := by
      simp only [okB, Bool.or_eq_false_iff, beq_eq_false_iff_ne]
      constructor <;> (rintro rfl; simp at ha)
    rw [e1, e2]
/-- Where the byte is a letter, it is decoded as itself. -/
theorem decode_okB (s : ByteArray) (pos : Nat) (h : pos < s.size) (hb : okB (s.data.toList.getD pos 0) = true) : (Utf8.decode s pos).2 = 1 ∧ lk ((Utf8.decode s pos).1 : Int) = kb (s.data.toList.getD pos 0) := by
  have hl : pos < s.data.toList.length := by rw [Array.length_toList]; exact h
  have hg : s.data.toList.getD pos 0 = s[pos]'h := by
    rw [List.getD_eq_getElem?_getD, List.getElem?_eq_getElem hl, Option.getD_some]
    rfl
  rw [hg] at hb ⊢
  simp only [okB, Bool.or_eq_true, beq_iff_eq] at hb
  have ha : (s[pos]'h).toNat < 128 := by
    rcases hb with hb | hb <;> rw [hb] <;> decide
  rw [decode_ascii s pos h ha]
  refine ⟨rfl, ?_⟩
  rcases hb with hb | hb <;> rw [hb] <;> decide
theorem all_upto (s : ByteArray) (pos : Nat) (h : ∀ j, j < pos → okB (s.data.toList.getD j 0) = true) (hp : s.size ≤ pos) (h8 : s.size ≤ 8) : one s = true := by
  simp only [one, Bool.and_eq_true, decide_eq_true_eq, List.all_eq_true]
  refine ⟨h8, fun x hx => ?_⟩
  obtain ⟨i, hi, rfl⟩ := List.mem_iff_getElem.1 hx
  have hl : i < s.size := by rw [Array.length_toList] at hi; exact hi
  have := h i (by omega)
  rwa [List.getD_eq_getElem?_getD, List.getElem?_eq_getElem hi] at this
theorem one_no (s : ByteArray) (pos : Nat) (hp : pos < s.size) (h : okB (s.data.toList.getD pos 0) = false) : one s = false := by
  simp only [one, Bool.and_eq_false_iff, List.all_eq_false]
  right
  have hl : pos < s.data.toList.length := by rw [Array.length_toList]; exact hp
  refine ⟨_, List.getElem_mem hl, ?_⟩
  rw [List.getD_eq_getElem?_getD, List.getElem?_eq_getElem hl, Option.getD_some] at h
  simpa using h
set_option maxRecDepth 100000 in
set_option maxHeartbeats 2000000 in
theorem may_short (s : ByteArray) (w : World) (h : s.size ≤ 8) : Calls Tryd.prog 93 #[.string s] w fun e w' => e = .returned (.bool (one s)) ∧ Below w.heap.size w w' := by
  have h' : (s.size : Int) ≤ 8 := by omega
  go_enter Tryd.func93, Tryd.ntmps93
  go_wp2_with (go_at_call 102; refine (letters_any _).mono ?_; rintro e w' ⟨rfl, rfl⟩)
  go_loopw [] (fun wr => ∃ (pos : Nat), wr.heap[w.heap.size]? = some lettersObj ∧ wr.heap[w.heap.size + 1]? = some (.stringIter s pos) ∧ Below w.heap.size w wr ∧ ∀ j, j < pos → okB (s.data.toList.getD j 0) = true) (fun wr => s.size - wr.iterPos (w.heap.size + 1))
  case atStart =>
    refine ⟨0, ?_, ?_, ((Below.refl _ w).alloc (Nat.le_refl _) _).alloc (by simp) _, fun j hj => by omega⟩
    · exact (Below.heap_alloc _ _ _ (by simp)).trans (heap_alloc_last w _)
    · have := World.iter_heap (w.alloc lettersObj) s 0
      simpa using this
  case round =>
    obtain ⟨pos, hm, hit, hbw, hall⟩ := hrel
    by_cases hp : pos < s.size
    · have hnx : ∀ ty, (Instr.next (.pointer (some ⟨w.heap.size + 1, 0, none⟩)) true ty).run Tryd.prog wr = _ := fun ty => Lib.run_next_any_at wr (w.heap.size + 1) s pos ty hit hp
      have hm2 : (wr.iterAt (w.heap.size + 1) s (pos + (Utf8.decode s pos).2)).heap[w.heap.size]? = some lettersObj := (Lib.iterAt_other wr _ _ s _ (by omega)).trans hm
      have hit2 := Lib.iterAt_heap wr (w.heap.size + 1) s pos (pos + (Utf8.decode s pos).2) hit
      have hbw2 := Lib.below_iterAt hbw (k := w.heap.size + 1) (by omega) s (pos + (Utf8.decode s pos).2)
      have hlk := lookup_ok _ _ hm2 ((Utf8.decode s pos).1 : Int)
      have hlo := lok_decode s pos hp
      by_cases hb : okB (s.data.toList.getD pos 0) = true
      · rw [hlo, hb] at hlk
        go_wp2
        obtain ⟨hw1, _⟩ := decode_okB s pos hp hb
        go_roundw
        case rel =>
          refine ⟨pos + (Utf8.decode s pos).2, hm2, hit2, hbw2, fun j hj => ?_⟩
          rw [hw1] at hj
          by_cases hj2 : j < pos
          · exact hall j hj2
          · obtain rfl : j = pos := by omega
            exact hb
        case measure =>
          simp only [World.iterPos, hit2, hit]
          omega
      · have hb' : okB (s.data.toList.getD pos 0) = false := by simpa using hb
        rw [hlo, hb'] at hlk
        go_wp2
        go_ret
        exact ⟨ret_bool (one_no s pos hp hb').symm, hbw2⟩
    · have hnx : ∀ ty, (Instr.next (.pointer (some ⟨w.heap.size + 1, 0, none⟩)) true ty).run Tryd.prog wr = _ := fun ty => Lib.run_next_end_at wr (w.heap.size + 1) s pos ty hit hp
      go_wp2
      go_ret
      exact ⟨ret_bool (all_upto s pos hall (by omega) h).symm, hbw⟩
theorem may_any (s : ByteArray) (w : World) : Calls Tryd.prog 93 #[.string s] w fun e w' => e = .returned (.bool (one s)) ∧ Below w.heap.size w w' := by
  by_cases h : s.size ≤ 8
  · exact may_short s w h
  · refine (may_long s w (by omega)).mono ?_
    rintro e w' ⟨rfl, b⟩
    have : one s = false := by simp [one, h]
    exact ⟨by rw [this], b⟩
end Go.Proofs.YtldfmlkjeniemaaDoor
/- package shape: All: the iterator's contract. -/
namespace Go.Proofs.YtldfmlkjeniemaaDoor
open Go.RowKit Go.Sh Go.Shelf
attribute [local go_sem] Oper.semAt_some
theorem cell_al {w : World} {p : Addr} {v : Value} (O : Obj) (h : w.cell? p = some v) : (w.alloc O).cell? p = some v :=
  ((below_alloc0 w O).cell (p := p) (block_lt_of_cell h)).trans h
theorem grown_of_below {W W' : World} (h : Below W.heap.size W W') : W.grownBy W' none :=
  ⟨h.os, h.tape, h.output, h.size, fun k hk _ => h.block k hk⟩
theorem grown_iterAt (W : World) (k : Nat) (s : ByteArray) (pos : Nat) : W.grownBy (W.iterAt k s pos) (some k) :=
  ⟨rfl, rfl, rfl, by rw [Lib.iterAt_size]; exact Nat.le_refl _, fun i _ hi => Lib.iterAt_other W k i s pos (fun e => hi (by rw [e]))⟩
theorem All_any (s : ByteArray) (w : World) : Calls Tryd.prog 101 #[.string s] w fun e w' => e = .returned (.func (.func 103) #[] #[.pointer (some ⟨w.heap.size, 0, none⟩)]) ∧ w' = w.alloc (.cells #[.string s] 63) := by
  go_enter Tryd.func101, Tryd.ntmps101
  go_wp2
  go_ret
  exact ⟨rfl, rfl⟩
abbrev encF (x : Nat × Int) : Array Value := #[Value.int .i64 (x.1 : Int), Value.int .i64 x.2]
set_option maxRecDepth 100000 in
set_option maxHeartbeats 2000000 in
theorem all1_no (n l Bs : Nat) (s : ByteArray) (h1 : one s = false) (J : List (Nat × Int) → World → Prop) (W : World) (hJ : AbidesFrom W.heap.size J)
    (hBs : W.cell? ⟨Bs, 0, none⟩ = some (.string s)) (h0 : J [] W) (hn : 1 ≤ n) :
    CallsIn Fence.wide n Tryd.prog 103 #[.func (.yield l) #[] #[], .pointer (some ⟨Bs, 0, none⟩)] W fun e W' => (∃ v, e = .returned v) ∧ J [] W' := by
  have c := (callsIn_wide (n := n - 1)).2 (may_any s W)
  rw [h1] at c
  refine callsIn_of_wp Tryd.func103 rfl trivial ?_ rfl
  simp only [Tryd.ntmps103, List.size_toArray, List.length_cons, List.length_nil, Nat.reduceAdd, Nat.reduceSub, Array.replicate_succ, Array.replicate_zero, List.push_toArray, List.append_toArray, List.nil_append, List.cons_append]
  gi_wp2_with (refine ⟨trivial, ?_⟩; gi_at_call 93; refine c.mono ?_; rintro e w1 ⟨rfl, b1⟩)
  refine bodyPost_ret (results_none rfl _ _ _) rfl ?_
  exact ⟨⟨_, rfl⟩, hJ _ _ _ none h0 (grown_of_below b1) (fun r e => by cases e)⟩
set_option maxRecDepth 100000 in
set_option maxHeartbeats 2000000 in
theorem all1_yes (n l Bs : Nat) (s : ByteArray) (h1 : one s = true) (J Jx : List (Nat × Int) → World → Prop) (W : World) (hJ : AbidesFrom W.heap.size J)
    (hY : ∀ pre x W1, J pre W1 → pre.length < fields s → YieldAt Fence.wide (n - 1) Tryd.prog l (encF x) W1 fun e W' =>
      (e = .returned (.bool true) ∧ J (pre ++ [x]) W' ∧ KeepsWalks W1 W') ∨ (e = .returned (.bool false) ∧ Jx (pre ++ [x]) W'))
    (hBs : W.cell? ⟨Bs, 0, none⟩ = some (.string s)) (h0 : J [] W) (hn : 1 ≤ n) :
    CallsIn Fence.wide n Tryd.prog 103 #[.func (.yield l) #[] #[], .pointer (some ⟨Bs, 0, none⟩)] W fun e W' => (∃ v, e = .returned v) ∧
      ((∃ ys, ys = upto (fieldAt s) (fields s) ∧ J ys W') ∨ (∃ pre, (∃ k, k ≤ fields s ∧ pre = upto (fieldAt s) k) ∧ Jx pre W')) := by
  have c := (callsIn_wide (n := n - 1)).2 (may_any s W)
  rw [h1] at c
  have hfs := fields_one h1
  rw [hfs] at hY ⊢
  have hlt := block_lt_of_cell hBs
  refine callsIn_of_wp Tryd.func103 rfl trivial ?_ rfl
  simp only [Tryd.ntmps103, List.size_toArray, List.length_cons, List.length_nil, Nat.reduceAdd, Nat.reduceSub, Array.replicate_succ, Array.replicate_zero, List.push_toArray, List.append_toArray, List.nil_append, List.cons_append]
  gi_wp2
  refine ⟨trivial, ?_⟩
  gi_at_call 93
  refine c.mono ?_
  rintro e w1 ⟨rfl, b1⟩
  have hBs1 := (b1.cell (p := ⟨Bs, 0, none⟩) hlt).trans hBs
  have hBs2 := cell_al lettersObj hBs1
  gi_wp2
  refine ⟨trivial, ?_⟩
  gi_at_call 102
  refine (callsIn_wide.2 (letters_any _)).mono ?_
  rintro e w2 ⟨rfl, rfl⟩
  gi_wp2
  have hg0 : W.heap.size ≤ w1.heap.size := b1.size
  have hJ1 : J [] w1 := hJ _ _ _ none h0 (grown_of_below b1) (fun r e => by cases e)
  generalize hG : w1.heap.size = g at *
  gi_loopw [] (fun wr => ∃ k : Nat, k ≤ s.size ∧ wr.heap[g]? = some lettersObj ∧ wr.heap[g + 1]? = some (.stringIter s k) ∧ J (upto (fieldAt s) k) wr)
    (fun wr => s.size - wr.iterPos (g + 1))
  case atStart =>
    refine ⟨0, Nat.zero_le _, ?_, ?_, ?_⟩
    · rw [← hG]; exact (Below.heap_alloc _ _ _ (by simp)).trans (heap_alloc_last w1 _)
    · have := World.iter_heap (w1.alloc lettersObj) s 0
      rw [← hG]; simpa using this
    · have h2 := hJ _ _ _ none hJ1 (World.grownBy_alloc w1 lettersObj none) (fun r e => by cases e)
      exact hJ _ _ _ none h2 (World.grownBy_alloc (w1.alloc lettersObj) (.stringIter s 0) none) (fun r e => by cases e)
  case round =>
    obtain ⟨k, hk, hm, hit, hJs⟩ := hrel
    by_cases hp : k < s.size
    · have hb : okB (s.data.toList.getD k 0) = true := by
        have hl : k < s.data.toList.length := by rw [Array.length_toList]; exact hp
        have := one_all h1 k hl
        rwa [List.getD_eq_getElem?_getD, List.getElem?_eq_getElem hl]
      obtain ⟨hw1, hlk⟩ := decode_okB s k hp hb
      have hnx0 : ∀ ty, (Instr.next (.pointer (some ⟨g + 1, 0, none⟩)) true ty).run Tryd.prog wr = .ok (.tuple #[.bool true, .int .i64 k, .int .i32 (Utf8.decode s k).1]) (wr.iterAt (g + 1) s (k + 1)) := fun ty => by
        have := Lib.run_next_any_at (P := Tryd.prog) wr (g + 1) s k ty hit hp
        rwa [hw1] at this
      have hm2 : (wr.iterAt (g + 1) s (k + 1)).heap[g]? = some lettersObj := (Lib.iterAt_other wr _ _ s _ (by omega)).trans hm
      have hit2 := Lib.iterAt_heap wr (g + 1) s k (k + 1) hit
      have hlo := lookup_plain _ _ hm2 ((Utf8.decode s k).1 : Int)
      rw [hlk] at hlo
      have hJ2 : J (upto (fieldAt s) k) (wr.iterAt (g + 1) s (k + 1)) := hJ _ _ _ (some (g + 1)) hJs (grown_iterAt wr (g + 1) s (k + 1)) (fun r e => by cases e; exact ⟨by omega, _, hit, rfl⟩)
      obtain ⟨fn, tmps, assign, body, hy, hR⟩ := hY _ (fieldAt s k) _ hJ2 (by rw [upto_length]; exact hp)
      dsimp only [encF, fieldAt] at hy
      clear hw1 hlk hb
      obtain ⟨kk, hkk⟩ : ∃ kk, kk = kb (s.data.toList.getD k 0) := ⟨_, rfl⟩
      rw [← hkk] at hlo hy
      clear hkk
      gi_wp2
      refine hR.mono ?_
      rintro e W3 (⟨rfl, hJ3, hk3⟩ | ⟨rfl, hJx3⟩)
      · gi_wp2
        go_roundw
        case rel => exact ⟨k + 1, by omega, hk3.same _ _ hm2 rfl, hk3.same _ _ hit2 rfl, by rw [upto_succ]; exact hJ3⟩
        case measure =>
          simp only [World.iterPos, hk3.same _ _ hit2 rfl, hit]
          omega
      · gi_wp2
        refine bodyPost_ret (results_none rfl _ _ _) rfl ?_
        exact ⟨⟨_, rfl⟩, .inr ⟨_, ⟨k + 1, by omega, (upto_succ _ _).symm⟩, hJx3⟩⟩
    · obtain rfl : k = s.size := by omega
      have hnx0 : ∀ ty, (Instr.next (.pointer (some ⟨g + 1, 0, none⟩)) true ty).run Tryd.prog wr = _ := fun ty => Lib.run_next_end_at wr (g + 1) s _ ty hit hp
      gi_wp2
      go_end0
      exact ⟨⟨_, rfl⟩, .inl ⟨_, rfl, hJs⟩⟩
/-- What All hands back goes over the fields, each with its kind; it may be left. -/
theorem All_stops (n : Nat) (hn : 1 ≤ n) (Bs : Nat) (s : ByteArray) (w : World) (hc : w.cell? ⟨Bs, 0, none⟩ = some (.string s)) :
    SeqStopsK Fence.wide n Tryd.prog 103 #[.pointer (some ⟨Bs, 0, none⟩)] encF KeepsWalks (fun ys => ys = upto (fieldAt s) (fields s))
      (fun pre => ∃ k, k ≤ fields s ∧ pre = upto (fieldAt s) k) (fields s) w := fun l J Jx W hW hJ _ hY h0 => by
  have hc' := (hW.cell (p := ⟨Bs, 0, none⟩) (block_lt_of_cell hc)).trans hc
  by_cases h1 : one s = true
  · exact all1_yes n l Bs s h1 J Jx W hJ hY hc' h0 hn
  · have h1' : one s = false := by simpa using h1
    refine (all1_no n l Bs s h1' J W hJ hc' h0 hn).mono ?_
    rintro e W' ⟨he, hj⟩
    refine ⟨he, .inl ⟨[], ?_, hj⟩⟩
    simp [fields, h1', upto]
end Go.Proofs.YtldfmlkjeniemaaDoor
/- package shape: All: the iterator's contract, with the elements told by another type (so that a loop's body need not answer for kinds that are none). -/
namespace Go.Proofs.YtldfmlkjeniemaaDoor
open Go.RowKit Go.Sh Go.Shelf
attribute [local go_sem] Oper.semAt_some
set_option maxRecDepth 100000 in
set_option maxHeartbeats 2000000 in
theorem allB_yes {α : Type} (enc : α → Array Value) (el : Nat → α) (n l Bs : Nat) (s : ByteArray) (h1 : one s = true) (hel : ∀ k, k < s.size → enc (el k) = encF (fieldAt s k)) (J Jx : List α → World → Prop) (W : World) (hJ : AbidesFrom W.heap.size J)
    (hY : ∀ pre x W1, J pre W1 → pre.length < s.size → YieldAt Fence.wide (n - 1) Tryd.prog l (enc x) W1 fun e W' =>
      (e = .returned (.bool true) ∧ J (pre ++ [x]) W' ∧ KeepsWalks W1 W') ∨ (e = .returned (.bool false) ∧ Jx (pre ++ [x]) W'))
    (hBs : W.cell? ⟨Bs, 0, none⟩ = some (.string s)) (h0 : J [] W) (hn : 1 ≤ n) :
    CallsIn Fence.wide n Tryd.prog 103 #[.func (.yield l) #[] #[], .pointer (some ⟨Bs, 0, none⟩)] W fun e W' => (∃ v, e = .returned v) ∧
      ((∃ ys, ys = upto el s.size ∧ J ys W') ∨ (∃ pre, (∃ k, k ≤ s.size ∧ pre = upto el k) ∧ Jx pre W')) := by
  have c := (callsIn_wide (n := n - 1)).2 (may_any s W)
  rw [h1] at c
  have hlt := block_lt_of_cell hBs
  refine callsIn_of_wp Tryd.func103 rfl trivial ?_ rfl
  simp only [Tryd.ntmps103, List.size_toArray, List.length_cons, List.length_nil, Nat.reduceAdd, Nat.reduceSub, Array.replicate_succ, Array.replicate_zero, List.push_toArray, List.append_toArray, List.nil_append, List.cons_append]
  gi_wp2
  refine ⟨trivial, ?_⟩
  gi_at_call 93
  refine c.mono ?_
  rintro e w1 ⟨rfl, b1⟩
  have hBs1 := (b1.cell (p := ⟨Bs, 0, none⟩) hlt).trans hBs
  have hBs2 := cell_al lettersObj hBs1
  gi_wp2
  refine ⟨trivial, ?_⟩
  gi_at_call 102
  refine (callsIn_wide.2 (letters_any _)).mono ?_
  rintro e w2 ⟨rfl, rfl⟩
  gi_wp2
  have hg0 : W.heap.size ≤ w1.heap.size := b1.size
  have hJ1 : J [] w1 := hJ _ _ _ none h0 (grown_of_below b1) (fun r e => by cases e)
  generalize hG : w1.heap.size = g at *
  gi_loopw [] (fun wr => ∃ k : Nat, k ≤ s.size ∧ wr.heap[g]? = some lettersObj ∧ wr.heap[g + 1]? = some (.stringIter s k) ∧ J (upto el k) wr)
    (fun wr => s.size - wr.iterPos (g + 1))
  case atStart =>
    refine ⟨0, Nat.zero_le _, ?_, ?_, ?_⟩
    · rw [← hG]; exact (Below.heap_alloc _ _ _ (by simp)).trans (heap_alloc_last w1 _)
    · have := World.iter_heap (w1.alloc lettersObj) s 0
      rw [← hG]; simpa using this
    · have h2 := hJ _ _ _ none hJ1 (World.grownBy_alloc w1 lettersObj none) (fun r e => by cases e)
      exact hJ _ _ _ none h2 (World.grownBy_alloc (w1.alloc lettersObj) (.stringIter s 0) none) (fun r e => by cases e)
  case round =>
    obtain ⟨k, hk, hm, hit, hJs⟩ := hrel
    by_cases hp : k < s.size
    · have hb : okB (s.data.toList.getD k 0) = true := by
        have hl : k < s.data.toList.length := by rw [Array.length_toList]; exact hp
        have := one_all h1 k hl
        rwa [List.getD_eq_getElem?_getD, List.getElem?_eq_getElem hl]
      obtain ⟨hw1, hlk⟩ := decode_okB s k hp hb
      have hnx0 : ∀ ty, (Instr.next (.pointer (some ⟨g + 1, 0, none⟩)) true ty).run Tryd.prog wr = .ok (.tuple #[.bool true, .int .i64 k, .int .i32 (Utf8.decode s k).1]) (wr.iterAt (g + 1) s (k + 1)) := fun ty => by
        have := Lib.run_next_any_at (P := Tryd.prog) wr (g + 1) s k ty hit hp
        rwa [hw1] at this
      have hm2 : (wr.iterAt (g + 1) s (k + 1)).heap[g]? = some lettersObj := (Lib.iterAt_other wr _ _ s _ (by omega)).trans hm
      have hit2 := Lib.iterAt_heap wr (g + 1) s k (k + 1) hit
      have hlo := lookup_plain _ _ hm2 ((Utf8.decode s k).1 : Int)
      rw [hlk] at hlo
      have hJ2 : J (upto el k) (wr.iterAt (g + 1) s (k + 1)) := hJ _ _ _ (some (g + 1)) hJs (grown_iterAt wr (g + 1) s (k + 1)) (fun r e => by cases e; exact ⟨by omega, _, hit, rfl⟩)
      obtain ⟨fn, tmps, assign, body, hy, hR⟩ := hY _ (el k) _ hJ2 (by rw [upto_length]; exact hp)
      rw [hel k hp] at hy
      dsimp only [encF, fieldAt] at hy
      clear hw1 hlk hb
      obtain ⟨kk, hkk⟩ : ∃ kk, kk = kb (s.data.toList.getD k 0) := ⟨_, rfl⟩
      rw [← hkk] at hlo hy
      clear hkk
      gi_wp2
      refine hR.mono ?_
      rintro e W3 (⟨rfl, hJ3, hk3⟩ | ⟨rfl, hJx3⟩)
      · gi_wp2
        go_roundw
        case rel => exact ⟨k + 1, by omega, hk3.same _ _ hm2 rfl, hk3.same _ _ hit2 rfl, by rw [upto_succ]; exact hJ3⟩
        case measure =>
          simp only [World.iterPos, hk3.same _ _ hit2 rfl, hit]
          omega
      · gi_wp2
        refine bodyPost_ret (results_none rfl _ _ _) rfl ?_
        exact ⟨⟨_, rfl⟩, .inr ⟨_, ⟨k + 1, by omega, (upto_succ _ _).symm⟩, hJx3⟩⟩
    · obtain rfl : k = s.size := by omega
      have hnx0 : ∀ ty, (Instr.next (.pointer (some ⟨g + 1, 0, none⟩)) true ty).run Tryd.prog wr = _ := fun ty => Lib.run_next_end_at wr (g + 1) s _ ty hit hp
      gi_wp2
      go_end0
      exact ⟨⟨_, rfl⟩, .inl ⟨_, rfl, hJs⟩⟩
/-- What All hands back of a shape goes over the fields, each with its kind; it may be left. -/
theorem AllB_stops {α : Type} (enc : α → Array Value) (el : Nat → α) (n : Nat) (hn : 1 ≤ n) (Bs : Nat) (s : ByteArray) (h1 : one s = true) (hel : ∀ k, k < s.size → enc (el k) = encF (fieldAt s k)) (w : World) (hc : w.cell? ⟨Bs, 0, none⟩ = some (.string s)) :
    SeqStopsK Fence.wide n Tryd.prog 103 #[.pointer (some ⟨Bs, 0, none⟩)] enc KeepsWalks (fun ys => ys = upto el s.size)
      (fun pre => ∃ k, k ≤ s.size ∧ pre = upto el k) s.size w := fun l J Jx W hW hJ _ hY h0 =>
  allB_yes enc el n l Bs s h1 hel J Jx W hJ hY ((hW.cell (p := ⟨Bs, 0, none⟩) (block_lt_of_cell hc)).trans hc) h0 hn
end Go.Proofs.YtldfmlkjeniemaaDoor
