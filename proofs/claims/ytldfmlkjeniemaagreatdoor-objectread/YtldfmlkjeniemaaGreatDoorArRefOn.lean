/- The document's functions of layer 5 (lapidaryref05): Check, Put, Do, Load, Store, Cas. -/
import Derived.Test.YtldfmlkjeniemaaGreatDoorArCallOn
import Derived.OwnWalk
import Derived.Test.YtldfmlkjeniemaaGreatDoorArUnl
import Derived.Test.YtldfmlkjeniemaaGreatDoorObReadT
import Derived.Test.YtldfmlkjeniemaaGreatDoorShAllOn
namespace Go.Proofs.YtldfmlkjeniemaaGreatDoor
open Go.RowKit
theorem nz {x : Int} (h : x ≠ 0) : (x != 0) = true := by simpa using h
theorem info_u64 : (Tryz.prog.info? 39).map (fun i => (i.zero, i.size, i.bytes)) = some (some (.int .u64 0), 1, 8) := by kernel_rfl
/-- A row that begins with so many words, one of them set. -/
theorem ws_row {W : World} {g : Nat} {cur : Array Value} {xs : List Int} {t : TypeId} (hg : W.heap[g]? = some (.cells cur t)) (ht : cur.toList.take xs.length = (wds xs).toList) (p : Nat) (n : Int) : Ws (W.setCell ⟨g, p, none⟩ (.int .u64 n)) g 0 (xs.set p n) := by
  have e := setCell_eq_setRow W g p cur t (0, 0) (.int .u64 n) hg
  intro i hi
  rw [List.length_set] at hi
  rw [e, Nat.zero_add, at_row (setRow_heap W g cur _ _ _ hg) i]
  rw [Array.getElem?_setIfInBounds]
  have hc : cur[i]? = some (.int .u64 (wat xs i)) := by
    have h1 : (cur.toList.take xs.length)[i]? = (wds xs).toList[i]? := by rw [ht]
    rw [List.getElem?_take, if_pos hi] at h1
    have h2 := wds_get xs i hi
    simp only [Array.getElem?_toList] at h1
    rw [h1, h2]
  have hs : i < cur.size := (Array.getElem?_eq_some_iff.1 hc).1
  by_cases hpi : p = i
  · subst hpi
    rw [if_pos rfl, if_pos hs]
    simp [wat, List.getD, hi]
  · rw [if_neg hpi, hc]
    simp [wat, List.getD, List.getElem?_set_ne hpi]
theorem own_row {W : World} {base m : Nat} {e : TypeId} {v : Value} {vs : List Value} (h : W.ownsRow base e 1 v (0 + m) ([] ++ vs)) (hm : 1 ≤ m) : ∃ g c cur, v = .slice (some ⟨g, 0, none⟩) m c ∧ base ≤ g ∧ W.heap[g]? = some (.cells cur e) ∧ cur.toList.take m = vs ∧ m ≤ cur.size := by
  rcases h.2 with ⟨_, h0⟩ | ⟨g, cap, cur, h1, h2, h3, h4, h5, h6, h7⟩
  · omega
  · refine ⟨g, cap, cur, by rw [h1, Nat.zero_add], h2, h3, ?_, by omega⟩
    simpa using h7
end Go.Proofs.YtldfmlkjeniemaaGreatDoor
/- package arena: Unlike, Same; the document's Same. -/
namespace Go.Proofs.YtldfmlkjeniemaaGreatDoor
open Go.RowKit Go.Shelf
attribute [local go_sem] Oper.semAt_some
/-- The numbers below k of words that are unlike. -/
def pl (xs ys : List Int) (k : Nat) : List Value := ((List.range k).filter fun i => dif xs ys i).map fun (i : Nat) => Value.int .i64 (i : Int)
theorem pl_hit {xs ys : List Int} {k : Nat} (h : dif xs ys k = true) : pl xs ys (k + 1) = pl xs ys k ++ [.int .i64 (k : Int)] := by simp [pl, List.range_succ, h]
theorem pl_miss {xs ys : List Int} {k : Nat} (h : dif xs ys k = false) : pl xs ys (k + 1) = pl xs ys k := by simp [pl, List.range_succ, h]
theorem pl_le (xs ys : List Int) (k : Nat) : (pl xs ys k).length ≤ k := by
  simp only [pl, List.length_map]
  have := List.length_filter_le (fun i => dif xs ys i) (List.range k)
  simpa using this
theorem told_pl (xs ys : List Int) : ∀ k, k ≤ xs.length → told xs ys (fus xs.length k) = pl xs ys k
  | 0, _ => by simp [fus, told, pl]
  | k + 1, h => by
    have ih := told_pl xs ys k (by omega)
    rw [fus_succ (show k < xs.length by omega)]
    by_cases hd : dif xs ys k = true
    · rw [told_hit _ (by exact hd), pl_hit hd, ih]
    · have hd' : dif xs ys k = false := by simpa using hd
      rw [told_miss _ (by exact hd'), pl_miss hd', ih]
theorem pl_mono (xs ys : List Int) (k : Nat) : ∀ j, (pl xs ys k).length ≤ (pl xs ys (k + j)).length
  | 0 => Nat.le_refl _
  | j + 1 => by
    have ih := pl_mono xs ys k j
    rw [← Nat.add_assoc]
    by_cases hd : dif xs ys (k + j) = true
    · rw [pl_hit hd]; simp; omega
    · rw [pl_miss (by simpa using hd)]; exact ih
theorem pl_same (xs : List Int) (k : Nat) : pl xs xs k = [] := by
  induction k with
  | zero => rfl
  | succ k ih => rw [pl_miss (by simp [dif]), ih]
theorem ownsRow_low {W : World} {b b' k : Nat} {e : TypeId} {size : Nat} {v : Value} {vs : List Value} (h : W.ownsRow b e size v k vs) (hb : b' ≤ b) : W.ownsRow b' e size v k vs := by
  refine ⟨h.1, ?_⟩
  rcases h.2 with h | ⟨g, cap, cur, h1, h2, h3⟩
  · exact .inl h
  · exact .inr ⟨g, cap, cur, h1, Nat.le_trans hb h2, h3⟩
theorem own_shape {W : World} {b k : Nat} {e : TypeId} {size : Nat} {v : Value} {vs : List Value} (h : W.ownsRow b e size v k vs) : ∃ a c, v = .slice a k c := by
  rcases h.2 with ⟨e, h0⟩ | ⟨g, cap, cur, e, _⟩
  · exact ⟨none, 0, by rw [e, h0]⟩
  · exact ⟨_, _, e⟩
/-- unlike, over an arena's words, behind All. -/
theorem unlike_at (A B b off c : Nat) (xs ys : List Int) (most : Int) (w : World) (ha : IsAr w A B xs) (hl : ys.length = xs.length) (hy : Ws w b off ys) :
    Calls Tryz.prog 59 #[.func (.func 91) #[] #[.pointer (some ⟨w.heap.size, 0, none⟩)], .slice (some ⟨b, off, none⟩) xs.length c, .int .i64 most] (w.alloc (.cells #[.slice (some ⟨B, 0, none⟩) xs.length xs.length] 57)) fun e W' =>
      ∃ a m c' k, e = .returned (.slice a m c') ∧ k ≤ xs.length ∧ m = (pl xs ys k).length ∧ W'.ownsRow w.heap.size 3 1 (.slice a m c') m (pl xs ys k) ∧ (k = xs.length ∨ (m : Int) = most) ∧ Below w.heap.size w W' := by
  refine (callsIn_wide.1 (unlike_in w.heap.size B b off c xs ys most _ ha.le hl (heap_alloc_last w _) (ha.alloc _).row (hy.below (below_alloc0 w _)))).mono ?_
  rintro e W' ⟨v, k, rfl, hk, ho, hm, hb⟩
  rw [told_pl xs ys k hk] at ho hm
  obtain ⟨a, c', rfl⟩ := own_shape ho
  exact ⟨a, _, c', k, rfl, hk, rfl, ownsRow_low ho (by simp; omega), hm, bel1 hb⟩
theorem Same_yes (A B A2 B2 : Nat) (xs ys : List Int) (r : Bool) (w : World) (ha : IsAr w A B xs) (hb : IsAr w A2 B2 ys) (hl : ys.length = xs.length) (hr : Hid (((pl xs ys xs.length).length == 0) = r)) :
    Calls Tryz.prog 31 #[.pointer (some ⟨A, 0, none⟩), .pointer (some ⟨A2, 0, none⟩)] w fun e W' => e = .returned (.bool r) ∧ Below w.heap.size w W' := by
  have c1 := Len_at _ _ _ _ w ha.faces
  have c2 := Len_at _ _ _ _ w hb.faces
  have c3 := AllA_at _ _ _ _ w ha.faces
  have c4 := list_at _ _ _ (hb.alloc (.cells #[.slice (some ⟨B, 0, none⟩) xs.length xs.length] 57)).faces
  rw [hl] at c2 c4
  have cu := unlike_at A B B2 0 xs.length xs ys 1 w ha hl hb.ws
  have hne : ((xs.length : Int) == (xs.length : Int)) = true := by simp
  go_enter Tryz.func31, Tryz.ntmps31
  go_wp2_with (go_at_call 50; refine c1.mono ?_)
  rintro e w' ⟨rfl, hw⟩; rw [hw]; clear hw w'
  go_wp2_with (go_at_call 50; refine c2.mono ?_)
  rintro e w' ⟨rfl, hw⟩; rw [hw]; clear hw w'
  go_wp2_with (go_at_call 60; refine c3.mono ?_)
  rintro e w' ⟨rfl, hw⟩; rw [hw]; clear hw w'
  go_wp2_with (go_at_call 61; refine c4.mono ?_)
  rintro e w' ⟨rfl, hw⟩; rw [hw]; clear hw w'
  go_wp2_with (go_at_call 59; refine cu.mono ?_)
  rintro e w' ⟨a, m, c', k, rfl, hk, hm, ho, hq, hB⟩
  have HR : Hid (((m : Int) == 0) = r) := hid (by
    rw [← hr.out, hm]
    rcases hq with h | h
    · subst h
      rw [Bool.eq_iff_iff]; simp
    · have e := pl_mono xs ys k (xs.length - k)
      rw [show k + (xs.length - k) = xs.length by omega] at e
      have e2 : (pl xs ys k).length = 1 := by omega
      have e3 : ((pl xs ys xs.length).length == 0) = false := by rw [beq_eq_false_iff_ne]; omega
      rw [e3, e2]; rfl)
  clear hm ho hq
  go_wp2
  go_ret
  exact ⟨ret_bool HR.out, hB⟩
theorem Same_no (p1 p2 : Value) (a1 a2 : Option Addr) (n1 n2 c1 c2 : Nat) (w : World) (h1 : Faces w p1 (.slice a1 n1 c1)) (h2 : Faces w p2 (.slice a2 n2 c2)) (hn : n1 ≠ n2) :
    Calls Tryz.prog 31 #[p1, p2] w fun e W' => e = .returned (.bool false) ∧ W' = w := by
  have d1 := Len_at _ _ _ _ w h1
  have d2 := Len_at _ _ _ _ w h2
  have hne : ((n1 : Int) == (n2 : Int)) = false := by simp; omega
  go_enter Tryz.func31, Tryz.ntmps31
  go_wp2_with (go_at_call 50; refine d1.mono ?_)
  rintro e w' ⟨rfl, hw⟩; rw [hw]; clear hw w'
  go_wp2_with (go_at_call 50; refine d2.mono ?_)
  rintro e w' ⟨rfl, hw⟩; rw [hw]; clear hw w'
  go_wp2
  go_ret
  exact ⟨rfl, rfl⟩
end Go.Proofs.YtldfmlkjeniemaaGreatDoor
/- Objects that are alike: the document's Same, and the object's. -/
set_option linter.unusedVariables false
namespace Go.Proofs.YtldfmlkjeniemaaGreatDoor
open Go.RowKit Go.Ly Go.Hd Go.Sh Go.Ob
theorem FsAt.cellk {lo : Nat} {W : World} {a : Option Addr} {n c : Nat} {zs : List Int} (h : FsAt lo W (.slice a n c) zs) (k : Nat) (hk : k < zs.length) : ∃ b off, a = some ⟨b, off, none⟩ ∧ W.cell? ⟨b, off + k, none⟩ = some (.int .u64 (wat zs k)) := by
  obtain ⟨a', c', e, h⟩ := h
  cases e
  rcases h with rfl | ⟨b, off, rfl, _, h⟩
  · simp at hk
  · exact ⟨b, off, rfl, h k hk⟩
theorem FsAt.len {lo : Nat} {W : World} {a : Option Addr} {n c : Nat} {zs : List Int} (h : FsAt lo W (.slice a n c) zs) : n = zs.length := by
  obtain ⟨a', c', e, h⟩ := h
  cases e
  rfl
set_option maxRecDepth 100000 in
set_option maxHeartbeats 4000000 in
theorem alike_yes (fa ga : Option Addr) (fn fc gn gc : Nat) (zs : List Int) (w : World) (hf : FsAt 0 w (.slice fa fn fc) zs) (hg : FsAt 0 w (.slice ga gn gc) zs) (hl : zs.length ≤ 100) :
    Calls Tryz.prog 30 #[.slice fa fn fc, .slice ga gn gc] w fun e w' => e = .returned (.bool true) ∧ Below w.heap.size w w' := by
  obtain rfl := hf.len
  obtain rfl := hg.len
  have HF := hid hf
  have HG := hid hg
  clear hf hg
  have n0 : ((zs.length : Int) != (zs.length : Int)) = false := by simp
  go_enter Tryz.func30, Tryz.ntmps30
  go_wp2
  go_loopw [14] (fun i wr => ∃ k : Nat, k ≤ zs.length ∧ i = .int .i64 k ∧ Hid (Below w.heap.size w wr)) (fun i _ => zs.length - (intOf i).toNat)
  case atStart => exact ⟨0, by omega, rfl, hid (Below.refl _ _)⟩
  case round =>
    obtain ⟨k, hk, rfl, HB⟩ := hrel
    by_cases hlt : k < zs.length
    · have hlt' : (k : Int) < zs.length := by omega
      obtain ⟨b, off, rfl, hc1⟩ := (HF.out.below HB.out).cellk k hlt
      obtain ⟨b2, off2, rfl, hc2⟩ := (HG.out.below HB.out).cellk k hlt
      generalize wat zs k = p at *
      have hp : (p != p) = false := by simp
      go_wp2
      go_roundw
      case rel => exact ⟨k + 1, by omega, by go_num, hid HB.out⟩
      case measure => simp [intOf]; omega
    · obtain rfl : k = zs.length := by omega
      go_wp2
      go_ret
      exact ⟨rfl, HB.out⟩
set_option maxRecDepth 100000 in
set_option maxHeartbeats 4000000 in
theorem oobSame_yes (x sh mk_ lk : Int) (fa ga : Option Addr) (fn fc gn gc : Nat) (zs : List Int) (w : World) (hf : FsAt 0 w (.slice fa fn fc) zs) (hg : FsAt 0 w (.slice ga gn gc) zs) (hl : zs.length ≤ 100) :
    Calls Tryz.prog 12 #[obV x sh mk_ lk (.slice fa fn fc), obV x sh mk_ lk (.slice ga gn gc)] w fun e w' => e = .returned (.bool true) ∧ Below w.heap.size w w' := by
  obtain ⟨R0, R1, z1, B1⟩ := boxes2 w (obO x sh mk_ lk (.slice fa fn fc)) (obO x sh mk_ lk (.slice ga gn gc))
  have B2 := hid B1
  have ca := alike_yes fa ga fn fc gn gc zs _ (hf.below B1) (hg.below B1) hl
  have c0 := at_row R0 0 rfl
  have c1 := at_row R0 1 rfl
  have c2 := at_row R0 2 rfl
  have c3 := at_row R0 3 rfl
  have c4 := at_row R0 4 rfl
  have d0 := at_row R1 0 rfl
  have d1 := at_row R1 1 rfl
  have d2 := at_row R1 2 rfl
  have d3 := at_row R1 3 rfl
  have d4 := at_row R1 4 rfl
  have e0 : (x == x) = true := by simp
  have e1 : (sh == sh) = true := by simp
  have e2 : (mk_ == mk_) = true := by simp
  have e3 : (lk == lk) = true := by simp
  clear hf hg B1 R0 R1
  go_enter Tryz.func12, Tryz.ntmps12
  go_wp2_with (go_at_call 30; refine ca.mono ?_)
  rintro e w1 ⟨rfl, b1⟩
  go_wp2
  go_ret
  exact ⟨rfl, B2.out.trans (b1.mono B2.out.size)⟩
set_option maxRecDepth 100000 in
set_option maxHeartbeats 4000000 in
theorem orefSame_yes (x sh mk_ lk : Int) (fa ga : Option Addr) (fn fc gn gc : Nat) (zs : List Int) (w : World) (hf : FsAt 0 w (.slice fa fn fc) zs) (hg : FsAt 0 w (.slice ga gn gc) zs) (hl : zs.length ≤ 100) :
    Calls Tryz.prog 11 #[obV x sh mk_ lk (.slice fa fn fc), obV x sh mk_ lk (.slice ga gn gc)] w fun e w' => e = .returned (.bool true) ∧ Below w.heap.size w w' := by
  obtain rfl := hf.len
  obtain rfl := hg.len
  obtain ⟨R0, R1, z1, B1⟩ := boxes2 w (obO x sh mk_ lk (.slice fa zs.length fc)) (obO x sh mk_ lk (.slice ga zs.length gc))
  have B2 := hid B1
  have HF := hid (hf.below B1)
  have HG := hid (hg.below B1)
  have H0 := hid R0
  have H1 := hid R1
  have c0 := at_row R0 0 rfl
  have c1 := at_row R0 1 rfl
  have c2 := at_row R0 2 rfl
  have c3 := at_row R0 3 rfl
  have c4 := at_row R0 4 rfl
  have d0 := at_row R1 0 rfl
  have d1 := at_row R1 1 rfl
  have d2 := at_row R1 2 rfl
  have d3 := at_row R1 3 rfl
  have d4 := at_row R1 4 rfl
  have e0 : (x != x) = false := by simp
  have e1 : (sh == sh) = true := by simp
  have e2 : (mk_ == mk_) = true := by simp
  have e3 : (lk != lk) = false := by simp
  have e4 : ((zs.length : Int) != (zs.length : Int)) = false := by simp
  clear hf hg B1 R0 R1
  go_enter Tryz.func11, Tryz.ntmps11
  go_wp2
  clear c0 c1 c2 c3 c4 d0 d1 d2 d3 d4
  generalize (w.alloc (obO x sh mk_ lk (.slice fa zs.length fc))).alloc (obO x sh mk_ lk (.slice ga zs.length gc)) = W0 at *
  go_loopw [5] (fun i wr => ∃ k : Nat, k ≤ zs.length ∧ i = .int .i64 k ∧ Hid (Below W0.heap.size W0 wr)) (fun i _ => zs.length - (intOf i).toNat)
  case atStart => exact ⟨0, by omega, rfl, hid (Below.refl _ _)⟩
  case round =>
    obtain ⟨k, hk, rfl, HB⟩ := hrel
    have c4 := at_row (row_below H0.out HB.out) 4 rfl
    have d4 := at_row (row_below H1.out HB.out) 4 rfl
    by_cases hlt : k < zs.length
    · have hlt' : (k : Int) < zs.length := by omega
      obtain ⟨b, off, rfl, hc1⟩ := (HF.out.below HB.out).cellk k hlt
      obtain ⟨b2, off2, rfl, hc2⟩ := (HG.out.below HB.out).cellk k hlt
      generalize wat zs k = p at *
      have hp : (p != p) = false := by simp
      go_wp2
      go_quiet (fail)
      go_wp2
      go_roundw
      case rel => exact ⟨k + 1, by omega, by go_num, hid (bdrewN HB.out _)⟩
      case measure => simp [intOf]; omega
    · obtain rfl : k = zs.length := by omega
      go_wp2
      go_ret
      exact ⟨rfl, B2.out.trans (HB.out.mono B2.out.size)⟩
end Go.Proofs.YtldfmlkjeniemaaGreatDoor
/- package shape: All: the iterator's contract, with the elements told by another type (so that a loop's body need not answer for kinds that are none). -/
namespace Go.Proofs.YtldfmlkjeniemaaGreatDoor
open Go.RowKit Go.Sh Go.Shelf
attribute [local go_sem] Oper.semAt_some
set_option maxRecDepth 100000 in
set_option maxHeartbeats 2000000 in
theorem allB_yes {α : Type} (enc : α → Array Value) (el : Nat → α) (n l Bs : Nat) (s : ByteArray) (h1 : one s = true) (hel : ∀ k, k < s.size → enc (el k) = encF (fieldAt s k)) (J Jx : List α → World → Prop) (W : World) (hJ : AbidesFrom W.heap.size J)
    (hY : ∀ pre x W1, J pre W1 → pre.length < s.size → YieldAt Fence.wide (n - 1) Tryz.prog l (enc x) W1 fun e W' =>
      (e = .returned (.bool true) ∧ J (pre ++ [x]) W' ∧ KeepsWalks W1 W') ∨ (e = .returned (.bool false) ∧ Jx (pre ++ [x]) W'))
    (hBs : W.cell? ⟨Bs, 0, none⟩ = some (.string s)) (h0 : J [] W) (hn : 1 ≤ n) :
    CallsIn Fence.wide n Tryz.prog 111 #[.func (.yield l) #[] #[], .pointer (some ⟨Bs, 0, none⟩)] W fun e W' => (∃ v, e = .returned v) ∧
      ((∃ ys, ys = upto el s.size ∧ J ys W') ∨ (∃ pre, (∃ k, k ≤ s.size ∧ pre = upto el k) ∧ Jx pre W')) := by
  have c := (callsIn_wide (n := n - 1)).2 (may_any s W)
  rw [h1] at c
  have hlt := block_lt_of_cell hBs
  refine callsIn_of_wp Tryz.func111 rfl trivial ?_ rfl
  simp only [Tryz.ntmps111, List.size_toArray, List.length_cons, List.length_nil, Nat.reduceAdd, Nat.reduceSub, Array.replicate_succ, Array.replicate_zero, List.push_toArray, List.append_toArray, List.nil_append, List.cons_append]
  gi_wp2
  refine ⟨trivial, ?_⟩
  gi_at_call 101
  refine c.mono ?_
  rintro e w1 ⟨rfl, b1⟩
  have hBs1 := (b1.cell (p := ⟨Bs, 0, none⟩) hlt).trans hBs
  have hBs2 := cell_al lettersObj hBs1
  gi_wp2
  refine ⟨trivial, ?_⟩
  gi_at_call 110
  refine (callsIn_wide.2 (letters_any _)).mono ?_
  rintro e w2 ⟨rfl, rfl⟩
  gi_wp2
  have hg0 : W.heap.size ≤ w1.heap.size := b1.size
  have hJ1 : J [] w1 := hJ _ _ _ none h0 (grown_of_below b1) (fun r e => by cases e)
  generalize hG : w1.heap.size = g at *
  gi_loopw [] (fun wr => ∃ k : Nat, k ≤ s.size ∧ wr.heap[g]? = some lettersObj ∧ wr.heap[g + 1]? = some (.stringIter s k) ∧ J (upto el k) wr)
    (fun wr => s.size - wr.iterPos (g + 1))
  case atStart =>
    refine ⟨0, Nat.zero_le _, ?_, ?_, ?_⟩
    · rw [← hG]; exact (Below.heap_alloc _ _ _ (by simp)).trans (heap_alloc_last w1 _)
    · have := World.iter_heap (w1.alloc lettersObj) s 0
      rw [← hG]; simpa using this
    · have h2 := hJ _ _ _ none hJ1 (World.grownBy_alloc w1 lettersObj none) (fun r e => by cases e)
      exact hJ _ _ _ none h2 (World.grownBy_alloc (w1.alloc lettersObj) (.stringIter s 0) none) (fun r e => by cases e)
  case round =>
    obtain ⟨k, hk, hm, hit, hJs⟩ := hrel
    by_cases hp : k < s.size
    · have hb : okB (s.data.toList.getD k 0) = true := by
        have hl : k < s.data.toList.length := by rw [Array.length_toList]; exact hp
        have := one_all h1 k hl
        rwa [List.getD_eq_getElem?_getD, List.getElem?_eq_getElem hl]
      obtain ⟨hw1, hlk⟩ := decode_okB s k hp hb
      have hnx0 : ∀ ty, (Instr.next (.pointer (some ⟨g + 1, 0, none⟩)) true ty).run Tryz.prog wr = .ok (.tuple #[.bool true, .int .i64 k, .int .i32 (Utf8.decode s k).1]) (wr.iterAt (g + 1) s (k + 1)) := fun ty => by
        have := Lib.run_next_any_at (P := Tryz.prog) wr (g + 1) s k ty hit hp
        rwa [hw1] at this
      have hm2 : (wr.iterAt (g + 1) s (k + 1)).heap[g]? = some lettersObj := (Lib.iterAt_other wr _ _ s _ (by omega)).trans hm
      have hit2 := Lib.iterAt_heap wr (g + 1) s k (k + 1) hit
      have hlo := lookup_plain _ _ hm2 ((Utf8.decode s k).1 : Int)
      rw [hlk] at hlo
      have hJ2 : J (upto el k) (wr.iterAt (g + 1) s (k + 1)) := hJ _ _ _ (some (g + 1)) hJs (grown_iterAt wr (g + 1) s (k + 1)) (fun r e => by cases e; exact ⟨by omega, _, hit, rfl⟩)
      obtain ⟨fn, tmps, assign, body, hy, hR⟩ := hY _ (el k) _ hJ2 (by rw [upto_length]; exact hp)
      rw [hel k hp] at hy
      dsimp only [encF, fieldAt] at hy
      clear hw1 hlk hb
      obtain ⟨kk, hkk⟩ : ∃ kk, kk = kb (s.data.toList.getD k 0) := ⟨_, rfl⟩
      rw [← hkk] at hlo hy
      clear hkk
      gi_wp2
      refine hR.mono ?_
      rintro e W3 (⟨rfl, hJ3, hk3⟩ | ⟨rfl, hJx3⟩)
      · gi_wp2
        go_roundw
        case rel => exact ⟨k + 1, by omega, hk3.same _ _ hm2 rfl, hk3.same _ _ hit2 rfl, by rw [upto_succ]; exact hJ3⟩
        case measure =>
          simp only [World.iterPos, hk3.same _ _ hit2 rfl, hit]
          omega
      · gi_wp2
        refine bodyPost_ret (results_none rfl _ _ _) rfl ?_
        exact ⟨⟨_, rfl⟩, .inr ⟨_, ⟨k + 1, by omega, (upto_succ _ _).symm⟩, hJx3⟩⟩
    · obtain rfl : k = s.size := by omega
      have hnx0 : ∀ ty, (Instr.next (.pointer (some ⟨g + 1, 0, none⟩)) true ty).run Tryz.prog wr = _ := fun ty => Lib.run_next_end_at wr (g + 1) s _ ty hit hp
      gi_wp2
      go_end0
      exact ⟨⟨_, rfl⟩, .inl ⟨_, rfl, hJs⟩⟩
/-- What All hands back of a shape goes over the fields, each with its kind; it may be left. -/
theorem AllB_stops {α : Type} (enc : α → Array Value) (el : Nat → α) (n : Nat) (hn : 1 ≤ n) (Bs : Nat) (s : ByteArray) (h1 : one s = true) (hel : ∀ k, k < s.size → enc (el k) = encF (fieldAt s k)) (w : World) (hc : w.cell? ⟨Bs, 0, none⟩ = some (.string s)) :
    SeqStopsK Fence.wide n Tryz.prog 111 #[.pointer (some ⟨Bs, 0, none⟩)] enc KeepsWalks (fun ys => ys = upto el s.size)
      (fun pre => ∃ k, k ≤ s.size ∧ pre = upto el k) s.size w := fun l J Jx W hW hJ _ hY h0 =>
  allB_yes enc el n l Bs s h1 hel J Jx W hJ hY ((hW.cell (p := ⟨Bs, 0, none⟩) (block_lt_of_cell hc)).trans hc) h0 hn
end Go.Proofs.YtldfmlkjeniemaaGreatDoor
