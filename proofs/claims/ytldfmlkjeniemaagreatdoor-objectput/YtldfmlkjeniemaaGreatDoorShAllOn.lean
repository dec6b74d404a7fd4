/- package shape: All: the iterator's contract. -/
import Derived.Test.YtldfmlkjeniemaaGreatDoorLyBaseOn
import Derived.RangeFuncNested
import Derived.RangeFuncBound
import Derived.RangeFuncCalls
import Derived.RangeFuncLeaves
import Derived.Shelf.Abstract
import Derived.Shelf.RegionOpen
import Derived.OwnWalkIn
import Derived.TacticsInMore
import Derived.LoopNIn
import Derived.LoopIn
namespace Go.Proofs.YtldfmlkjeniemaaGreatDoor
open Go.RowKit Go.Sh Go.Shelf
attribute [local go_sem] Oper.semAt_some
theorem cell_al {w : World} {p : Addr} {v : Value} (O : Obj) (h : w.cell? p = some v) : (w.alloc O).cell? p = some v :=
  ((below_alloc0 w O).cell (p := p) (block_lt_of_cell h)).trans h
theorem grown_of_below {W W' : World} (h : Below W.heap.size W W') : W.grownBy W' none :=
  ⟨h.os, h.tape, h.output, h.size, fun k hk _ => h.block k hk⟩
theorem grown_iterAt (W : World) (k : Nat) (s : ByteArray) (pos : Nat) : W.grownBy (W.iterAt k s pos) (some k) :=
  ⟨rfl, rfl, rfl, by rw [Lib.iterAt_size]; exact Nat.le_refl _, fun i _ hi => Lib.iterAt_other W k i s pos (fun e => hi (by rw [e]))⟩
theorem All_any (s : ByteArray) (w : World) : Calls Tryz.prog 108 #[.string s] w fun e w' => e = .returned (.func (.func 111) #[] #[.pointer (some ⟨w.heap.size, 0, none⟩)]) ∧ w' = w.alloc (.cells #[.string s] 60) := by
  go_enter Tryz.func108, Tryz.ntmps108
  go_wp2
  go_ret
  exact ⟨rfl, rfl⟩
abbrev encF (x : Nat × Int) : Array Value := #[Value.int .i64 (x.1 : Int), Value.int .i64 x.2]
set_option maxRecDepth 100000 in
set_option maxHeartbeats 2000000 in
theorem all1_no (n l Bs : Nat) (s : ByteArray) (h1 : one s = false) (J : List (Nat × Int) → World → Prop) (W : World) (hJ : AbidesFrom W.heap.size J)
    (hBs : W.cell? ⟨Bs, 0, none⟩ = some (.string s)) (h0 : J [] W) (hn : 1 ≤ n) :
    CallsIn Fence.wide n Tryz.prog 111 #[.func (.yield l) #[] #[], .pointer (some ⟨Bs, 0, none⟩)] W fun e W' => (∃ v, e = .returned v) ∧ J [] W' := by
  have c := (callsIn_wide (n := n - 1)).2 (may_any s W)
  rw [h1] at c
  refine callsIn_of_wp Tryz.func111 rfl trivial ?_ rfl
  simp only [Tryz.ntmps111, List.size_toArray, List.length_cons, List.length_nil, Nat.reduceAdd, Nat.reduceSub, Array.replicate_succ, Array.replicate_zero, List.push_toArray, List.append_toArray, List.nil_append, List.cons_append]
  gi_wp2_with (refine ⟨trivial, ?_⟩; gi_at_call 101; refine c.mono ?_; rintro e w1 ⟨rfl, b1⟩)
  refine bodyPost_ret (results_none rfl _ _ _) rfl ?_
  exact ⟨⟨_, rfl⟩, hJ _ _ _ none h0 (grown_of_below b1) (fun r e => by cases e)⟩
set_option maxRecDepth 100000 in
set_option maxHeartbeats 2000000 in
theorem all1_yes (n l Bs : Nat) (s : ByteArray) (h1 : one s = true) (J Jx : List (Nat × Int) → World → Prop) (W : World) (hJ : AbidesFrom W.heap.size J)
    (hY : ∀ pre x W1, J pre W1 → pre.length < fields s → YieldAt Fence.wide (n - 1) Tryz.prog l (encF x) W1 fun e W' =>
      (e = .returned (.bool true) ∧ J (pre ++ [x]) W' ∧ KeepsWalks W1 W') ∨ (e = .returned (.bool false) ∧ Jx (pre ++ [x]) W'))
    (hBs : W.cell? ⟨Bs, 0, none⟩ = some (.string s)) (h0 : J [] W) (hn : 1 ≤ n) :
    CallsIn Fence.wide n Tryz.prog 111 #[.func (.yield l) #[] #[], .pointer (some ⟨Bs, 0, none⟩)] W fun e W' => (∃ v, e = .returned v) ∧
      ((∃ ys, ys = upto (fieldAt s) (fields s) ∧ J ys W') ∨ (∃ pre, (∃ k, k ≤ fields s ∧ pre = upto (fieldAt s) k) ∧ Jx pre W')) := by
  have c := (callsIn_wide (n := n - 1)).2 (may_any s W)
  rw [h1] at c
  have hfs := fields_one h1
  rw [hfs] at hY ⊢
  have hlt := block_lt_of_cell hBs
  refine callsIn_of_wp Tryz.func111 rfl trivial ?_ rfl
  simp only [Tryz.ntmps111, List.size_toArray, List.length_cons, List.length_nil, Nat.reduceAdd, Nat.reduceSub, Array.replicate_succ, Array.replicate_zero, List.push_toArray, List.append_toArray, List.nil_append, List.cons_append]
  gi_wp2
  refine ⟨trivial, ?_⟩
  gi_at_call 101
  refine c.mono ?_
  rintro e w1 ⟨rfl, b1⟩
  have hBs1 := (b1.cell (p := ⟨Bs, 0, none⟩) hlt).trans hBs
  have hBs2 := cell_al lettersObj hBs1
  gi_wp2
  refine ⟨trivial, ?_⟩
  gi_at_call 110
  refine (callsIn_wide.2 (letters_any _)).mono ?_
  rintro e w2 ⟨rfl, rfl⟩
  gi_wp2
  have hg0 : W.heap.size ≤ w1.heap.size := b1.size
  have hJ1 : J [] w1 := hJ _ _ _ none h0 (grown_of_below b1) (fun r e => by cases e)
  generalize hG : w1.heap.size = g at *
  gi_loopw [] (fun wr => ∃ k : Nat, k ≤ s.size ∧ wr.heap[g]? = some lettersObj ∧ wr.heap[g + 1]? = some (.stringIter s k) ∧ J (upto (fieldAt s) k) wr)
    (fun wr => s.size - wr.iterPos (g + 1))
  case atStart =>
    refine ⟨0, Nat.zero_le _, ?_, ?_, ?_⟩
    · rw [← hG]; exact (Below.heap_alloc _ _ _ (by simp)).trans (heap_alloc_last w1 _)
    · have := World.iter_heap (w1.alloc lettersObj) s 0
      rw [← hG]; simpa using this
    · have h2 := hJ _ _ _ none hJ1 (World.grownBy_alloc w1 lettersObj none) (fun r e => by cases e)
      exact hJ _ _ _ none h2 (World.grownBy_alloc (w1.alloc lettersObj) (.stringIter s 0) none) (fun r e => by cases e)
  case round =>
    obtain ⟨k, hk, hm, hit, hJs⟩ := hrel
    by_cases hp : k < s.size
    · have hb : okB (s.data.toList.getD k 0) = true := by
        have hl : k < s.data.toList.length := by rw [Array.length_toList]; exact hp
        have := one_all h1 k hl
        rwa [List.getD_eq_getElem?_getD, List.getElem?_eq_getElem hl]
      obtain ⟨hw1, hlk⟩ := decode_okB s k hp hb
      have hnx0 : ∀ ty, (Instr.next (.pointer (some ⟨g + 1, 0, none⟩)) true ty).run Tryz.prog wr = .ok (.tuple #[.bool true, .int .i64 k, .int .i32 (Utf8.decode s k).1]) (wr.iterAt (g + 1) s (k + 1)) := fun ty => by
        have := Lib.run_next_any_at (P := Tryz.prog) wr (g + 1) s k ty hit hp
        rwa [hw1] at this
      have hm2 : (wr.iterAt (g + 1) s (k + 1)).heap[g]? = some lettersObj := (Lib.iterAt_other wr _ _ s _ (by omega)).trans hm
      have hit2 := Lib.iterAt_heap wr (g + 1) s k (k + 1) hit
      have hlo := lookup_plain _ _ hm2 ((Utf8.decode s k).1 : Int)
      rw [hlk] at hlo
      have hJ2 : J (upto (fieldAt s) k) (wr.iterAt (g + 1) s (k + 1)) := hJ _ _ _ (some (g + 1)) hJs (grown_iterAt wr (g + 1) s (k + 1)) (fun r e => by cases e; exact ⟨by omega, _, hit, rfl⟩)
      obtain ⟨fn, tmps, assign, body, hy, hR⟩ := hY _ (fieldAt s k) _ hJ2 (by rw [upto_length]; exact hp)
      dsimp only [encF, fieldAt] at hy
      clear hw1 hlk hb
      obtain ⟨kk, hkk⟩ : ∃ kk, kk = kb (s.data.toList.getD k 0) := ⟨_, rfl⟩
      rw [← hkk] at hlo hy
      clear hkk
      gi_wp2
      refine hR.mono ?_
      rintro e W3 (⟨rfl, hJ3, hk3⟩ | ⟨rfl, hJx3⟩)
      · gi_wp2
        go_roundw
        case rel => exact ⟨k + 1, by omega, hk3.same _ _ hm2 rfl, hk3.same _ _ hit2 rfl, by rw [upto_succ]; exact hJ3⟩
        case measure =>
          simp only [World.iterPos, hk3.same _ _ hit2 rfl, hit]
          omega
      · gi_wp2
        refine bodyPost_ret (results_none rfl _ _ _) rfl ?_
        exact ⟨⟨_, rfl⟩, .inr ⟨_, ⟨k + 1, by omega, (upto_succ _ _).symm⟩, hJx3⟩⟩
    · obtain rfl : k = s.size := by omega
      have hnx0 : ∀ ty, (Instr.next (.pointer (some ⟨g + 1, 0, none⟩)) true ty).run Tryz.prog wr = _ := fun ty => Lib.run_next_end_at wr (g + 1) s _ ty hit hp
      gi_wp2
      go_end0
      exact ⟨⟨_, rfl⟩, .inl ⟨_, rfl, hJs⟩⟩
/-- What All hands back goes over the fields, each with its kind; it may be left. -/
theorem All_stops (n : Nat) (hn : 1 ≤ n) (Bs : Nat) (s : ByteArray) (w : World) (hc : w.cell? ⟨Bs, 0, none⟩ = some (.string s)) :
    SeqStopsK Fence.wide n Tryz.prog 111 #[.pointer (some ⟨Bs, 0, none⟩)] encF KeepsWalks (fun ys => ys = upto (fieldAt s) (fields s))
      (fun pre => ∃ k, k ≤ fields s ∧ pre = upto (fieldAt s) k) (fields s) w := fun l J Jx W hW hJ _ hY h0 => by
  have hc' := (hW.cell (p := ⟨Bs, 0, none⟩) (block_lt_of_cell hc)).trans hc
  by_cases h1 : one s = true
  · exact all1_yes n l Bs s h1 J Jx W hJ hY hc' h0 hn
  · have h1' : one s = false := by simpa using h1
    refine (all1_no n l Bs s h1' J W hJ hc' h0 hn).mono ?_
    rintro e W' ⟨he, hj⟩
    refine ⟨he, .inl ⟨[], ?_, hj⟩⟩
    simp [fields, h1', upto]
end Go.Proofs.YtldfmlkjeniemaaGreatDoor
/- package shape: size$1 (what All goes over is counted), findField. -/
namespace Go.Proofs.YtldfmlkjeniemaaGreatDoor
open Go.RowKit Go.Sh Go.Shelf
attribute [local go_sem] Oper.semAt_some
theorem box_own {A B : World} {row : Option Nat} {b : Nat} {t : TypeId} {v : Value} (h : Boxed A b t v) (hg : A.grownBy B row) (hr : ∀ r, row = some r → ∃ o : Obj, A.heap[r]? = some o ∧ o.isCells = false) : Boxed B b t v :=
  boxed_own (β := Unit) b t (fun _ => v) () A B row h hg hr
theorem wpIn_scope_wide {n : Nat} {P : Program} {Q : Exit → Act → World → Prop} {a : Act} {w : World} {c : Code} (h : c.wpIn Fence.wide n P (Exit.noGoto Q) a w) : (Code.scope c).wpIn Fence.wide n P Q a w :=
  wpIn_wide.2 (wp_scope_straight (wpIn_wide.1 h))
set_option maxRecDepth 100000 in
set_option maxHeartbeats 2000000 in
theorem size1_in (n : Nat) (hn : 3 ≤ n) (s : ByteArray) (w : World) :
    CallsIn Fence.wide n Tryz.prog 107 #[.string s] w fun e W' => e = .returned (.int .i64 (2 + (fields s : Int))) ∧ Below w.heap.size w W' := by
  have h1 : 1 ≤ n := by omega
  refine callsIn_of_wp_marks Tryz.func107 rfl trivial ?_ rfl
  simp only [Tryz.ntmps107, List.size_toArray, List.length_cons, List.length_nil, Nat.reduceAdd, Nat.reduceSub, Array.replicate_succ, Array.replicate_zero, List.push_toArray, List.append_toArray, List.nil_append, List.cons_append]
  gi_wp2_with (refine ⟨trivial, ?_⟩; gi_at_call 108; refine (callsIn_wide.2 (All_any _ _)).mono ?_; rintro e w' ⟨rfl, rfl⟩)
  have bS := Boxed.new w 3 (.int .i64 2)
  have bN := Boxed.new (w.alloc (.cells #[.int .i64 2] 3)) 60 (.string s)
  rw [World.size_alloc] at bN
  have hB0 : Below w.heap.size w ((w.alloc (.cells #[.int .i64 2] 3)).alloc (.cells #[.string s] 60)) := ((Below.refl _ w).alloc (Nat.le_refl _) _).alloc (by simp) _
  have hfs := fields_le s
  refine wpIn_rangeFunc_ownG rfl h1 (gf := 111) (lb := #[.pointer (some ⟨w.heap.size + 1, 0, none⟩)]) rfl trivial (enters_of Tryz.func111 (by kernel_rfl) rfl)
    (All_stops (n - 1) (by omega) (w.heap.size + 1) s _ bN.cell) walksK_t walksK_b (Below.refl _ _) (fun _ => rfl)
    (fun pre W => (pre.length ≤ 8 ∧ W.cell? ⟨w.heap.size, 0, none⟩ = some (.int .i64 (2 + (pre.length : Int))) ∧ W.frozen? ⟨w.heap.size, 0, none⟩ = false) ∧ Below w.heap.size w W)
    (fun _ _ _ => False)
    (OwnFrom.and (Own.from (fun s A B row hs hg hr => ⟨hs.1, cell_kept hs.2.1 hg hr, (frozen_kept hs.2.1 hg hr).trans hs.2.2⟩) _) (ownFrom_below (Nat.le_refl _) (by simp; omega)))
    (fun _ _ _ _ _ hs _ _ => hs)
    ⟨⟨by simp, (bS.alloc _).cell, (bS.alloc _).frozen⟩, hB0⟩
    (fun x => { tmps := #[.string s, undef, .int .i64 0, .pointer (some ⟨w.heap.size, 0, none⟩), .string s, .func (.func 111) #[] #[.pointer (some ⟨w.heap.size + 1, 0, none⟩)], .int .i64 (x.1 : Int), .int .i64 x.2, undef, undef, undef], defers := [] }) ?assign ?body ?done ?stop
  case assign =>
    intro l x W K hK
    dsimp only [encF]
    gi_wp2
    simpa using hK
  case body =>
    rintro l pre x W ⟨⟨hl8, hc, hf⟩, hB⟩ hlen
    have hw : 2 + (pre.length : Int) + 1 = 2 + ((pre ++ [x]).length : Int) := by
      rw [List.length_append]; simp; omega
    gi_wp2
    refine ⟨(KeepsOthers.setCell _ _ _).from _, (KeepsOthers.setCell _ _ _).walks, ⟨by simp; omega, ?_, by rw [World.frozen?_setCell]; exact hf⟩, hB.setCell (p := ⟨w.heap.size, 0, none⟩) (Nat.le_refl _) _⟩
    rw [← hw]
    exact World.cell?_setCell_same' _ _ _ (by rw [hc]; rfl)
  case done =>
    rintro D ys W hD rfl ⟨⟨_, hc, _⟩, hB⟩ hK
    rw [upto_length] at hc
    gi_wp2
    refine ⟨by simp, .inl ⟨_, _, rfl, run_takeDeferred hK, ?_⟩⟩
    exact ⟨_, results_tmp rfl _ _ _, rfl, hB.trans (belowK_b (w := w) (Nat.le_refl _) W D _ _ (by simp at hD; omega) hK rfl rfl)⟩
  case stop =>
    rintro D c pre W _ _ h _
    exact h.elim
theorem size1_any (s : ByteArray) (w : World) : Calls Tryz.prog 107 #[.string s] w fun e W' => e = .returned (.int .i64 (2 + (fields s : Int))) ∧ Below w.heap.size w W' :=
  callsIn_wide.1 (size1_in 3 (by omega) s w)
end Go.Proofs.YtldfmlkjeniemaaGreatDoor
/- Tables of shapes in memory; Check. -/
namespace Go.Proofs.YtldfmlkjeniemaaGreatDoor
open Go.RowKit Go.Sh
/-- A table that lies in memory: none of its shapes, or so many cells that each hold a text. -/
def IsTab (w : World) (v : Value) (ss : List ByteArray) : Prop :=
  (ss = [] ∧ ∃ a cap, v = .slice a 0 cap) ∨ ∃ b off cap, v = .slice (some ⟨b, off, none⟩) ss.length cap ∧ ∀ i, i < ss.length → w.cell? ⟨b, off + i, none⟩ = some (.string (at' ss i))
theorem IsTab.below {w w' : World} {v : Value} {ss : List ByteArray} (h : IsTab w v ss) {B : Nat} (hB : w.heap.size ≤ B) (b : Below B w w') : IsTab w' v ss := by
  rcases h with h | ⟨bb, off, cap, rfl, hc⟩
  · exact .inl h
  · exact .inr ⟨bb, off, cap, rfl, fun i hi => (b.cell (p := ⟨bb, off + i, none⟩) (Nat.lt_of_lt_of_le (block_lt_of_cell (hc i hi)) hB)).trans (hc i hi)⟩
theorem IsTab.len {w : World} {v : Value} {ss : List ByteArray} (h : IsTab w v ss) : ∃ a cap, v = .slice a ss.length cap := by
  rcases h with ⟨rfl, a, cap, rfl⟩ | ⟨bb, off, cap, rfl, _⟩
  · exact ⟨a, cap, rfl⟩
  · exact ⟨_, cap, rfl⟩
theorem IsTab.some {w : World} {v : Value} {ss : List ByteArray} (h : IsTab w v ss) (h0 : 1 ≤ ss.length) : ∃ b off cap, v = .slice (some ⟨b, off, none⟩) ss.length cap ∧ ∀ i, i < ss.length → w.cell? ⟨b, off + i, none⟩ = some (.string (at' ss i)) := by
  rcases h with ⟨rfl, _⟩ | h
  · simp at h0
  · exact h
theorem jump_ret {l : Nat} {J : Act → World → Prop} {Q : Exit → Act → World → Prop} {a : Act} {w : World} : Exit.jump l J Q .ret a w = Q .ret a w := rfl
def er (b : Bool) : Int := if b then 0 else 2
set_option maxHeartbeats 2000000 in
theorem check_none (a : Option Addr) (cap : Nat) (w : World) :
    Calls Tryz.prog 86 #[.slice a 0 cap] w fun e w' => e = .returned (.int .i64 2) ∧ Below w.heap.size w w' := by
  go_enter Tryz.func86, Tryz.ntmps86
  go_wp2
  refine wp_scope_once 0 rfl ?_
  go_wp2
  go_step3
  refine ⟨rfl, ?_⟩
  go_wp2
  rw [Exit.noGoto_ret]
  go_ret
  exact ⟨rfl, Below.refl _ _⟩
set_option maxHeartbeats 2000000 in
theorem check_many (a : Option Addr) (len cap : Nat) (h : 16 < len) (w : World) :
    Calls Tryz.prog 86 #[.slice a len cap] w fun e w' => e = .returned (.int .i64 2) ∧ Below w.heap.size w w' := by
  have h1 : (1 : Int) ≤ (len : Int) := by omega
  have h2 : (16 : Int) < (len : Int) := by omega
  go_enter Tryz.func86, Tryz.ntmps86
  go_wp2
  refine wp_scope_once 0 rfl ?_
  go_wp2
  go_step3
  refine ⟨rfl, ?_⟩
  go_wp2
  rw [Exit.noGoto_ret]
  go_ret
  exact ⟨rfl, Below.refl _ _⟩
set_option maxRecDepth 100000 in
set_option maxHeartbeats 2000000 in
theorem check_some (b off cap : Nat) (ss : List ByteArray) (w : World) (h1 : 1 ≤ ss.length) (h16 : ss.length ≤ 16) (hc : Hid (∀ i, i < ss.length → w.cell? ⟨b, off + i, none⟩ = some (.string (at' ss i)))) :
    Calls Tryz.prog 86 #[.slice (some ⟨b, off, none⟩) ss.length cap] w fun e w' => e = .returned (.int .i64 (er (ss.all one))) ∧ Below w.heap.size w w' := by
  have g1 : (1 : Int) ≤ (ss.length : Int) := by omega
  have g2 : (ss.length : Int) ≤ 16 := by omega
  obtain ⟨len, hlen⟩ : ∃ len, len = ss.length := ⟨_, rfl⟩
  have HL := hid hlen
  rw [← hlen] at h1 h16 g1 g2
  rw [← hlen]
  clear hlen
  go_enter Tryz.func86, Tryz.ntmps86
  go_wp2
  refine wp_scope_once 0 rfl ?_
  go_wp2
  go_loopw [15] (fun i wr => ∃ k : Nat, k ≤ len ∧ i = .int .i64 k ∧ Below w.heap.size w wr ∧ Hid (∀ j, j < k → one (at' ss j) = true)) (fun i _ => len - (intOf i).toNat)
  case atStart => exact ⟨0, by omega, rfl, Below.refl _ _, hid (fun j hj => by omega)⟩
  case round =>
    obtain ⟨k, hk, rfl, ar, hall⟩ := hrel
    by_cases hlt : k < len
    · have hcell := hc.out k (by rw [← HL.out]; exact hlt)
      have hbk := block_lt_of_cell hcell
      have hcr : wr.cell? ⟨b, off + k, none⟩ = some (.string (at' ss k)) := (ar.cell (p := ⟨b, off + k, none⟩) hbk).trans hcell
      have Hcell := hid hcell
      clear hcell
      obtain ⟨x, hx⟩ : ∃ x, x = at' ss k := ⟨_, rfl⟩
      rw [← hx] at hcr
      have HX := hid hx
      clear hx
      by_cases ho : one x = true
      · have c := may_any x wr
        rw [ho] at c
        go_wp2_with (go_at_call 101; refine c.mono ?_; rintro e w2 ⟨rfl, b2⟩)
        go_roundw
        case rel =>
          refine ⟨k + 1, by omega, by simp, ar.trans (b2.mono ar.size), hid (fun j hj => ?_)⟩
          by_cases hj2 : j < k
          · exact hall.out j hj2
          · obtain rfl : j = k := by omega
            rw [← HX.out]; exact ho
        case measure => simp [intOf]; omega
      · have ho' : one x = false := by simpa using ho
        have c := may_any x wr
        rw [ho'] at c
        have HN : Hid (ss.all one = false) := hid (all_take_false (k := k) (by rw [← HL.out]; exact hlt) (by rw [← HX.out]; exact ho'))
        go_wp2_with (go_at_call 101; refine c.mono ?_; rintro e w2 ⟨rfl, b2⟩)
        go_step3
        refine ⟨rfl, ?_⟩
        go_wp2
        rw [Exit.noGoto_ret]
        go_ret
        exact ⟨ret_int (by rw [HN.out]; rfl), ar.trans (b2.mono ar.size)⟩
    · obtain rfl : k = len := by omega
      have HN : Hid (ss.all one = true) := hid (all_of_at (fun j hj => hall.out j (by rw [HL.out]; exact hj)))
      go_wp2
      rw [jump_ret]
      go_ret
      exact ⟨ret_int (by rw [HN.out]; rfl), ar⟩
theorem check_any (v : Value) (ss : List ByteArray) (w : World) (h : IsTab w v ss) :
    Calls Tryz.prog 86 #[v] w fun e w' => e = .returned (.int .i64 (er (right ss))) ∧ Below w.heap.size w w' := by
  by_cases h0 : ss.length = 0
  · obtain ⟨a, cap, rfl⟩ := h.len
    rw [h0]
    refine (check_none a cap w).mono ?_
    rintro e w' ⟨rfl, b⟩
    exact ⟨ret_int (by simp [right, h0, er]), b⟩
  · by_cases h16 : ss.length ≤ 16
    · obtain ⟨b, off, cap, rfl, hc⟩ := h.some (by omega)
      refine (check_some b off cap ss w (by omega) h16 (hid hc)).mono ?_
      rintro e w' ⟨rfl, b⟩
      exact ⟨ret_int (by simp [right, h16, show 1 ≤ ss.length by omega]), b⟩
    · obtain ⟨a, cap, rfl⟩ := h.len
      refine (check_many a _ cap (by omega) w).mono ?_
      rintro e w' ⟨rfl, b⟩
      exact ⟨ret_int (by simp [right, h16, er]), b⟩
end Go.Proofs.YtldfmlkjeniemaaGreatDoor
