/- package arena: Unlike, Same; the document's Same. -/
import Derived.Test.YtldfmlkjeniemaaGreatDoorArUnl
import Derived.Test.YtldfmlkjeniemaaGreatDoorObPutTOn
import Derived.Test.YtldfmlkjeniemaaGreatDoorObReadTOn
namespace Go.Proofs.YtldfmlkjeniemaaGreatDoor
open Go.RowKit Go.Shelf
attribute [local go_sem] Oper.semAt_some
/-- The numbers below k of words that are unlike. -/
def pl (xs ys : List Int) (k : Nat) : List Value := ((List.range k).filter fun i => dif xs ys i).map fun (i : Nat) => Value.int .i64 (i : Int)
theorem pl_hit {xs ys : List Int} {k : Nat} (h : dif xs ys k = true) : pl xs ys (k + 1) = pl xs ys k ++ [.int .i64 (k : Int)] := by simp [pl, List.range_succ, h]
theorem pl_miss {xs ys : List Int} {k : Nat} (h : dif xs ys k = false) : pl xs ys (k + 1) = pl xs ys k := by simp [pl, List.range_succ, h]
theorem pl_le (xs ys : List Int) (k : Nat) : (pl xs ys k).length ≤ k := by
  simp only [pl, List.length_map]
  have := List.length_filter_le (fun i => dif xs ys i) (List.range k)
  simpa using this
theorem told_pl (xs ys : List Int) : ∀ k, k ≤ xs.length → told xs ys (fus xs.length k) = pl xs ys k
  | 0, _ => by simp [fus, told, pl]
  | k + 1, h => by
    have ih := told_pl xs ys k (by omega)
    rw [fus_succ (show k < xs.length by omega)]
    by_cases hd : dif xs ys k = true
    · rw [told_hit _ (by exact hd), pl_hit hd, ih]
    · have hd' : dif xs ys k = false := by simpa using hd
      rw [told_miss _ (by exact hd'), pl_miss hd', ih]
theorem pl_mono (xs ys : List Int) (k : Nat) : ∀ j, (pl xs ys k).length ≤ (pl xs ys (k + j)).length
  | 0 => Nat.le_refl _
  | j + 1 => by
    have ih := pl_mono xs ys k j
    rw [← Nat.add_assoc]
    by_cases hd : dif xs ys (k + j) = true
    · rw [pl_hit hd]; simp; omega
    · rw [pl_miss (by simpa using hd)]; exact ih
theorem pl_same (xs : List Int) (k : Nat) : pl xs xs k = [] := by
  induction k with
  | zero => rfl
  | succ k ih => rw [pl_miss (by simp [dif]), ih]
theorem ownsRow_low {W : World} {b b' k : Nat} {e : TypeId} {size : Nat} {v : Value} {vs : List Value} (h : W.ownsRow b e size v k vs) (hb : b' ≤ b) : W.ownsRow b' e size v k vs := by
  refine ⟨h.1, ?_⟩
  rcases h.2 with h | ⟨g, cap, cur, h1, h2, h3⟩
  · exact .inl h
  · exact .inr ⟨g, cap, cur, h1, Nat.le_trans hb h2, h3⟩
theorem own_shape {W : World} {b k : Nat} {e : TypeId} {size : Nat} {v : Value} {vs : List Value} (h : W.ownsRow b e size v k vs) : ∃ a c, v = .slice a k c := by
  rcases h.2 with ⟨e, h0⟩ | ⟨g, cap, cur, e, _⟩
  · exact ⟨none, 0, by rw [e, h0]⟩
  · exact ⟨_, _, e⟩
/-- unlike, over an arena's words, behind All. -/
theorem unlike_at (A B b off c : Nat) (xs ys : List Int) (most : Int) (w : World) (ha : IsAr w A B xs) (hl : ys.length = xs.length) (hy : Ws w b off ys) :
    Calls Tryz.prog 59 #[.func (.func 91) #[] #[.pointer (some ⟨w.heap.size, 0, none⟩)], .slice (some ⟨b, off, none⟩) xs.length c, .int .i64 most] (w.alloc (.cells #[.slice (some ⟨B, 0, none⟩) xs.length xs.length] 57)) fun e W' =>
      ∃ a m c' k, e = .returned (.slice a m c') ∧ k ≤ xs.length ∧ m = (pl xs ys k).length ∧ W'.ownsRow w.heap.size 3 1 (.slice a m c') m (pl xs ys k) ∧ (k = xs.length ∨ (m : Int) = most) ∧ Below w.heap.size w W' := by
  refine (callsIn_wide.1 (unlike_in w.heap.size B b off c xs ys most _ ha.le hl (heap_alloc_last w _) (ha.alloc _).row (hy.below (below_alloc0 w _)))).mono ?_
  rintro e W' ⟨v, k, rfl, hk, ho, hm, hb⟩
  rw [told_pl xs ys k hk] at ho hm
  obtain ⟨a, c', rfl⟩ := own_shape ho
  exact ⟨a, _, c', k, rfl, hk, rfl, ownsRow_low ho (by simp; omega), hm, bel1 hb⟩
theorem Same_yes (A B A2 B2 : Nat) (xs ys : List Int) (r : Bool) (w : World) (ha : IsAr w A B xs) (hb : IsAr w A2 B2 ys) (hl : ys.length = xs.length) (hr : Hid (((pl xs ys xs.length).length == 0) = r)) :
    Calls Tryz.prog 31 #[.pointer (some ⟨A, 0, none⟩), .pointer (some ⟨A2, 0, none⟩)] w fun e W' => e = .returned (.bool r) ∧ Below w.heap.size w W' := by
  have c1 := Len_at _ _ _ _ w ha.faces
  have c2 := Len_at _ _ _ _ w hb.faces
  have c3 := AllA_at _ _ _ _ w ha.faces
  have c4 := list_at _ _ _ (hb.alloc (.cells #[.slice (some ⟨B, 0, none⟩) xs.length xs.length] 57)).faces
  rw [hl] at c2 c4
  have cu := unlike_at A B B2 0 xs.length xs ys 1 w ha hl hb.ws
  have hne : ((xs.length : Int) == (xs.length : Int)) = true := by simp
  go_enter Tryz.func31, Tryz.ntmps31
  go_wp2_with (go_at_call 50; refine c1.mono ?_)
  rintro e w' ⟨rfl, hw⟩; rw [hw]; clear hw w'
  go_wp2_with (go_at_call 50; refine c2.mono ?_)
  rintro e w' ⟨rfl, hw⟩; rw [hw]; clear hw w'
  go_wp2_with (go_at_call 60; refine c3.mono ?_)
  rintro e w' ⟨rfl, hw⟩; rw [hw]; clear hw w'
  go_wp2_with (go_at_call 61; refine c4.mono ?_)
  rintro e w' ⟨rfl, hw⟩; rw [hw]; clear hw w'
  go_wp2_with (go_at_call 59; refine cu.mono ?_)
  rintro e w' ⟨a, m, c', k, rfl, hk, hm, ho, hq, hB⟩
  have HR : Hid (((m : Int) == 0) = r) := hid (by
    rw [← hr.out, hm]
    rcases hq with h | h
    · subst h
      rw [Bool.eq_iff_iff]; simp
    · have e := pl_mono xs ys k (xs.length - k)
      rw [show k + (xs.length - k) = xs.length by omega] at e
      have e2 : (pl xs ys k).length = 1 := by omega
      have e3 : ((pl xs ys xs.length).length == 0) = false := by rw [beq_eq_false_iff_ne]; omega
      rw [e3, e2]; rfl)
  clear hm ho hq
  go_wp2
  go_ret
  exact ⟨ret_bool HR.out, hB⟩
theorem Same_no (p1 p2 : Value) (a1 a2 : Option Addr) (n1 n2 c1 c2 : Nat) (w : World) (h1 : Faces w p1 (.slice a1 n1 c1)) (h2 : Faces w p2 (.slice a2 n2 c2)) (hn : n1 ≠ n2) :
    Calls Tryz.prog 31 #[p1, p2] w fun e W' => e = .returned (.bool false) ∧ W' = w := by
  have d1 := Len_at _ _ _ _ w h1
  have d2 := Len_at _ _ _ _ w h2
  have hne : ((n1 : Int) == (n2 : Int)) = false := by simp; omega
  go_enter Tryz.func31, Tryz.ntmps31
  go_wp2_with (go_at_call 50; refine d1.mono ?_)
  rintro e w' ⟨rfl, hw⟩; rw [hw]; clear hw w'
  go_wp2_with (go_at_call 50; refine d2.mono ?_)
  rintro e w' ⟨rfl, hw⟩; rw [hw]; clear hw w'
  go_wp2
  go_ret
  exact ⟨rfl, rfl⟩
end Go.Proofs.YtldfmlkjeniemaaGreatDoor
/- Objects that are alike: the document's Same, and the object's. -/
set_option linter.unusedVariables false
namespace Go.Proofs.YtldfmlkjeniemaaGreatDoor
open Go.RowKit Go.Ly Go.Hd Go.Sh Go.Ob
theorem FsAt.cellk {lo : Nat} {W : World} {a : Option Addr} {n c : Nat} {zs : List Int} (h : FsAt lo W (.slice a n c) zs) (k : Nat) (hk : k < zs.length) : ∃ b off, a = some ⟨b, off, none⟩ ∧ W.cell? ⟨b, off + k, none⟩ = some (.int .u64 (wat zs k)) := by
  obtain ⟨a', c', e, h⟩ := h
  cases e
  rcases h with rfl | ⟨b, off, rfl, _, h⟩
  · simp at hk
  · exact ⟨b, off, rfl, h k hk⟩
theorem FsAt.len {lo : Nat} {W : World} {a : Option Addr} {n c : Nat} {zs : List Int} (h : FsAt lo W (.slice a n c) zs) : n = zs.length := by
  obtain ⟨a', c', e, h⟩ := h
  cases e
  rfl
set_option maxRecDepth 100000 in
set_option maxHeartbeats 4000000 in
theorem alike_yes (fa ga : Option Addr) (fn fc gn gc : Nat) (zs : List Int) (w : World) (hf : FsAt 0 w (.slice fa fn fc) zs) (hg : FsAt 0 w (.slice ga gn gc) zs) (hl : zs.length ≤ 100) :
    Calls Tryz.prog 30 #[.slice fa fn fc, .slice ga gn gc] w fun e w' => e = .returned (.bool true) ∧ Below w.heap.size w w' := by
  obtain rfl := hf.len
  obtain rfl := hg.len
  have HF := hid hf
  have HG := hid hg
  clear hf hg
  have n0 : ((zs.length : Int) != (zs.length : Int)) = false := by simp
  go_enter Tryz.func30, Tryz.ntmps30
  go_wp2
  go_loopw [14] (fun i wr => ∃ k : Nat, k ≤ zs.length ∧ i = .int .i64 k ∧ Hid (Below w.heap.size w wr)) (fun i _ => zs.length - (intOf i).toNat)
  case atStart => exact ⟨0, by omega, rfl, hid (Below.refl _ _)⟩
  case round =>
    obtain ⟨k, hk, rfl, HB⟩ := hrel
    by_cases hlt : k < zs.length
    · have hlt' : (k : Int) < zs.length := by omega
      obtain ⟨b, off, rfl, hc1⟩ := (HF.out.below HB.out).cellk k hlt
      obtain ⟨b2, off2, rfl, hc2⟩ := (HG.out.below HB.out).cellk k hlt
      generalize wat zs k = p at *
      have hp : (p != p) = false := by simp
      go_wp2
      go_roundw
      case rel => exact ⟨k + 1, by omega, by go_num, hid HB.out⟩
      case measure => simp [intOf]; omega
    · obtain rfl : k = zs.length := by omega
      go_wp2
      go_ret
      exact ⟨rfl, HB.out⟩
set_option maxRecDepth 100000 in
set_option maxHeartbeats 4000000 in
theorem oobSame_yes (x sh mk_ lk : Int) (fa ga : Option Addr) (fn fc gn gc : Nat) (zs : List Int) (w : World) (hf : FsAt 0 w (.slice fa fn fc) zs) (hg : FsAt 0 w (.slice ga gn gc) zs) (hl : zs.length ≤ 100) :
    Calls Tryz.prog 12 #[obV x sh mk_ lk (.slice fa fn fc), obV x sh mk_ lk (.slice ga gn gc)] w fun e w' => e = .returned (.bool true) ∧ Below w.heap.size w w' := by
  obtain ⟨R0, R1, z1, B1⟩ := boxes2 w (obO x sh mk_ lk (.slice fa fn fc)) (obO x sh mk_ lk (.slice ga gn gc))
  have B2 := hid B1
  have ca := alike_yes fa ga fn fc gn gc zs _ (hf.below B1) (hg.below B1) hl
  have c0 := at_row R0 0 rfl
  have c1 := at_row R0 1 rfl
  have c2 := at_row R0 2 rfl
  have c3 := at_row R0 3 rfl
  have c4 := at_row R0 4 rfl
  have d0 := at_row R1 0 rfl
  have d1 := at_row R1 1 rfl
  have d2 := at_row R1 2 rfl
  have d3 := at_row R1 3 rfl
  have d4 := at_row R1 4 rfl
  have e0 : (x == x) = true := by simp
  have e1 : (sh == sh) = true := by simp
  have e2 : (mk_ == mk_) = true := by simp
  have e3 : (lk == lk) = true := by simp
  clear hf hg B1 R0 R1
  go_enter Tryz.func12, Tryz.ntmps12
  go_wp2_with (go_at_call 30; refine ca.mono ?_)
  rintro e w1 ⟨rfl, b1⟩
  go_wp2
  go_ret
  exact ⟨rfl, B2.out.trans (b1.mono B2.out.size)⟩
set_option maxRecDepth 100000 in
set_option maxHeartbeats 4000000 in
theorem orefSame_yes (x sh mk_ lk : Int) (fa ga : Option Addr) (fn fc gn gc : Nat) (zs : List Int) (w : World) (hf : FsAt 0 w (.slice fa fn fc) zs) (hg : FsAt 0 w (.slice ga gn gc) zs) (hl : zs.length ≤ 100) :
    Calls Tryz.prog 11 #[obV x sh mk_ lk (.slice fa fn fc), obV x sh mk_ lk (.slice ga gn gc)] w fun e w' => e = .returned (.bool true) ∧ Below w.heap.size w w' := by
  obtain rfl := hf.len
  obtain rfl := hg.len
  obtain ⟨R0, R1, z1, B1⟩ := boxes2 w (obO x sh mk_ lk (.slice fa zs.length fc)) (obO x sh mk_ lk (.slice ga zs.length gc))
  have B2 := hid B1
  have HF := hid (hf.below B1)
  have HG := hid (hg.below B1)
  have H0 := hid R0
  have H1 := hid R1
  have c0 := at_row R0 0 rfl
  have c1 := at_row R0 1 rfl
  have c2 := at_row R0 2 rfl
  have c3 := at_row R0 3 rfl
  have c4 := at_row R0 4 rfl
  have d0 := at_row R1 0 rfl
  have d1 := at_row R1 1 rfl
  have d2 := at_row R1 2 rfl
  have d3 := at_row R1 3 rfl
  have d4 := at_row R1 4 rfl
  have e0 : (x != x) = false := by simp
  have e1 : (sh == sh) = true := by simp
  have e2 : (mk_ == mk_) = true := by simp
  have e3 : (lk != lk) = false := by simp
  have e4 : ((zs.length : Int) != (zs.length : Int)) = false := by simp
  clear hf hg B1 R0 R1
  go_enter Tryz.func11, Tryz.ntmps11
  go_wp2
  clear c0 c1 c2 c3 c4 d0 d1 d2 d3 d4
  generalize (w.alloc (obO x sh mk_ lk (.slice fa zs.length fc))).alloc (obO x sh mk_ lk (.slice ga zs.length gc)) = W0 at *
  go_loopw [5] (fun i wr => ∃ k : Nat, k ≤ zs.length ∧ i = .int .i64 k ∧ Hid (Below W0.heap.size W0 wr)) (fun i _ => zs.length - (intOf i).toNat)
  case atStart => exact ⟨0, by omega, rfl, hid (Below.refl _ _)⟩
  case round =>
    obtain ⟨k, hk, rfl, HB⟩ := hrel
    have c4 := at_row (row_below H0.out HB.out) 4 rfl
    have d4 := at_row (row_below H1.out HB.out) 4 rfl
    by_cases hlt : k < zs.length
    · have hlt' : (k : Int) < zs.length := by omega
      obtain ⟨b, off, rfl, hc1⟩ := (HF.out.below HB.out).cellk k hlt
      obtain ⟨b2, off2, rfl, hc2⟩ := (HG.out.below HB.out).cellk k hlt
      generalize wat zs k = p at *
      have hp : (p != p) = false := by simp
      go_wp2
      go_quiet (fail)
      go_wp2
      go_roundw
      case rel => exact ⟨k + 1, by omega, by go_num, hid (bdrewN HB.out _)⟩
      case measure => simp [intOf]; omega
    · obtain rfl : k = zs.length := by omega
      go_wp2
      go_ret
      exact ⟨rfl, B2.out.trans (HB.out.mono B2.out.size)⟩
end Go.Proofs.YtldfmlkjeniemaaGreatDoor
/- The document's Put (lapidaryref07), where it puts. -/
set_option linter.unusedVariables false
namespace Go.Proofs.YtldfmlkjeniemaaGreatDoor
open Go.RowKit Go.Ly Go.Hd Go.Sh Go.Ob Go.Sort
/-- A list of one's own that begins with so many words. -/
def OutR (W : World) (G : Nat) (ys : List Int) : Prop := ∃ cur, W.heap[G]? = some (.cells cur 39) ∧ cur.toList.take ys.length = (wds ys).toList
theorem OutR.get {W : World} {G : Nat} {ys : List Int} (h : OutR W G ys) (i : Nat) (hi : i < ys.length) : W.cell? ⟨G, i, none⟩ = some (.int .u64 (wat ys i)) := by
  obtain ⟨cur, h1, h2⟩ := h
  refine at_row h1 i ?_
  have e : (cur.toList.take ys.length)[i]? = (wds ys).toList[i]? := by rw [h2]
  rw [List.getElem?_take, if_pos hi] at e
  have := wds_get ys i hi
  simp only [Array.getElem?_toList] at e
  rw [e, this]
theorem OutR.fz {W : World} {G : Nat} {ys : List Int} (h : OutR W G ys) (i : Nat) : W.frozen? ⟨G, i, none⟩ = false := by
  obtain ⟨cur, h1, h2⟩ := h
  exact fz_row h1 i
theorem OutR.ws {W : World} {G : Nat} {ys : List Int} (h : OutR W G ys) : Ws W G 0 ys := fun i hi => by rw [Nat.zero_add]; exact h.get i hi
theorem OutR.set {W : World} {G : Nat} {ys : List Int} (h : OutR W G ys) (i : Nat) (hi : i < ys.length) (v : Int) : OutR (W.setCell ⟨G, i, none⟩ (.int .u64 v)) G (ys.set i v) := by
  obtain ⟨cur, h1, h2⟩ := h
  have e := setCell_eq_setRow W G i cur 39 (0, 0) (.int .u64 v) h1
  refine ⟨cur.setIfInBounds i (.int .u64 v), ?_, ?_⟩
  · rw [e]; exact setRow_heap W G cur _ _ _ h1
  · rw [List.length_set, ← wds_set, Array.toList_setIfInBounds, Array.toList_setIfInBounds, ← h2, List.take_set]
theorem OutR.below {W W' : World} {G : Nat} {ys : List Int} (h : OutR W G ys) (k : Below W.heap.size W W') : OutR W' G ys := by
  obtain ⟨cur, h1, h2⟩ := h
  exact ⟨cur, row_below h1 k, h2⟩
theorem OutR.lt {W : World} {G : Nat} {ys : List Int} (h : OutR W G ys) : G < W.heap.size := by
  obtain ⟨cur, h1, h2⟩ := h
  exact (Array.getElem?_eq_some_iff.1 h1).1
set_option maxRecDepth 100000 in
set_option maxHeartbeats 8000000 in
theorem oPut_in (t s : Int) (a : Option Addr) (n c : Nat) (lb lo lc : Nat) (xs : List Int) (p : Nat) (sh mk_ lk wv q b : Int) (fa : Option Addr) (fc : Nat) (zs : List Int) (w : World)
    (cm : ∀ W, Calls Tryz.prog 35 #[.agg #[.int .i64 sh, .int .i64 mk_]] W fun e w' => e = .returned (.tuple #[.int .u64 wv, .int .i64 0]) ∧ Below W.heap.size W w')
    (cr : ∀ W, Below w.heap.size w W → Calls Tryz.prog 36 #[.slice (some ⟨lb, lo, none⟩) xs.length lc, planV t s a n c] W fun e w' => e = .returned (.bool true) ∧ Below W.heap.size W w')
    (cs : ∀ W, Below w.heap.size w W → Calls Tryz.prog 37 #[.slice a n c, .int .i64 sh] W fun e w' => e = .returned (.tuple #[.int .i64 ((zs.length : Int) + 2), .int .i64 0]) ∧ w' = W)
    (cp : ∀ W, Calls Tryz.prog 38 #[planV t s a n c, .int .i64 (p : Int)] W fun e w' => e = .returned (.int .i64 q) ∧ Below W.heap.size W w')
    (cb : ∀ W, Calls Tryz.prog 39 #[planV t s a n c, .int .i64 q] W fun e w' => e = .returned (.int .i64 b) ∧ Below W.heap.size W w')
    (hx : Ws w lb lo xs) (hv : FsAt 0 w (.slice fa zs.length fc) zs) (h9 : xs.length ≤ 9000) (z8 : zs.length ≤ 8) (hp : p + (zs.length + 2) ≤ xs.length)
    (q0 : 0 ≤ q) (b0 : 0 ≤ b) (b9 : b ≤ 10000) (hfit : (p : Int) - b + ((zs.length : Int) + 2) ≤ s) :
    Calls Tryz.prog 15 #[.slice (some ⟨lb, lo, none⟩) xs.length lc, planV t s a n c, obV (p : Int) sh mk_ lk (.slice fa zs.length fc)] w fun e w' => ∃ G c', e = .returned (.tuple #[.slice (some ⟨G, 0, none⟩) xs.length c', .int .i64 0]) ∧ Ws w' G 0 (putK xs p (wv :: lk :: zs) (zs.length + 2)) ∧ w.heap.size ≤ G ∧ Below w.heap.size w w' := by
  obtain ⟨i0, hi, hz0, hz1, hz2⟩ := info_parts info_u64
  obtain ⟨R0, R1, z1, B1⟩ := boxes2 w (plO t s a n c) (obO (p : Int) sh mk_ lk (.slice fa zs.length fc))
  have B2 := hid B1
  have R0 := hid R0
  have x1 := at_row R1 1 rfl
  have x2 := at_row R1 2 rfl
  have R1 := hid R1
  have hd0 : decide (q < 0) = false := by rw [decide_eq_false_iff_not]; omega
  have HX := hid hx
  have HV := hid hv
  clear B1 z1 hx hv
  generalize hZ : zs.length = Z at *
  generalize hN : xs.length = N at *
  have HZ := hid hZ
  have HN := hid hN
  clear hZ hN
  have z8' : (Z : Int) ≤ 8 := by omega
  have h9' : (N : Int) ≤ 9000 := by omega
  have hp' : (p : Int) + ((Z : Int) + 2) ≤ (N : Int) := by omega
  have hzz : ((Z : Int) != (Z : Int) + 2 - 2) = false := by rw [bne_eq_false_iff_eq]; omega
  go_enter Tryz.func15, Tryz.ntmps15
  go_wp2_with (go_at_call 35; refine (cm _).mono ?_)
  rintro e w1 ⟨rfl, b1⟩
  have B3 := hid (B2.out.trans (b1.mono B2.out.size))
  have R2 := hid (row_below R0.out b1)
  have R3 := hid (row_below R1.out b1)
  have d0 := at_row R2.out 0 rfl
  have d1 := at_row R2.out 1 rfl
  have d2 := at_row R2.out 2 rfl
  have cr2 := cr _ B3.out
  clear cr cm x1 x2 b1 R0 R1 B2
  go_wp2_with (go_at_call 36; refine cr2.mono ?_)
  rintro e w2 ⟨rfl, b2⟩
  have B4 := hid (B3.out.trans (b2.mono B3.out.size))
  have R4 := hid (row_below R2.out b2)
  have R5 := hid (row_below R3.out b2)
  have d0 := at_row R4.out 0 rfl
  have d1 := at_row R4.out 1 rfl
  have d2 := at_row R4.out 2 rfl
  have x0 := at_row R5.out 0 rfl
  have x1 := at_row R5.out 1 rfl
  have x4 := at_row R5.out 4 rfl
  have cs2 := cs _ B4.out
  clear cr2 cs b2 R2 R3 B3
  go_wp2_with (first | (go_at_call 37; refine cs2.mono ?_; rintro e w' ⟨rfl, hw⟩; rw [hw]; clear hw) | (go_at_call 38; refine (cp _).mono ?_))
  rintro e w3 ⟨rfl, b3⟩
  have B5 := hid (B4.out.trans (b3.mono B4.out.size))
  have R6 := hid (row_below R5.out b3)
  have c0 := cell_regrown (at_row (row_below R4.out b3) 0 rfl)
  have c1 := cell_regrown (at_row (row_below R4.out b3) 1 rfl)
  have c2 := cell_regrown (at_row (row_below R4.out b3) 2 rfl)
  have y0 := cell_regrown (at_row R6.out 0 rfl)
  have y4 := cell_regrown (at_row R6.out 4 rfl)
  have cb2 := fun d os => Calls.regrown_of (cb (grow (redrawn w3 d) os))
  clear cs2 cp cb d0 d1 d2 x0 x1 x4 R4 R5
  go_wp2_with fail
  refine wp_region_quiet_below (by kernel_rfl) (by kernel_rfl) ?_
  repeat (go_big_quiet_step ((first | (go_at_call 39; exact cb2 _ _))))
  refine wpQuiet_nil ?_
  intro _ hw'
  obtain ⟨⟨dq, osq⟩, hw''⟩ := hw'
  subst hw''
  have bg := below_regrown w3 dq osq
  have B6 := hid (B5.out.trans (bg.mono B5.out.size))
  have R7 := hid (row_below R6.out bg)
  clear c0 c1 c2 y0 y4 cb2 b3 bg R6
  generalize grow (redrawn w3 dq) osq = W6 at *
  have hlw := (HX.out.bel B6.out).list
  have how := wds_one xs
  have hlen : (wds xs).toList.length = N * 1 := by rw [← HN.out]; simp [wds]
  revert hlw how hlen
  generalize hvs : (wds xs).toList = vs
  have HVS := hid hvs
  clear hvs
  intro hlw how hlen
  have N1 : 1 ≤ N := by omega
  go_wp2_with (at_builtin; refine wpList_append_own_at _ rfl _ _ 25 rfl W6.heap.size 39 i0 (.int .u64 0) 1 8 Tryz.underlying25 hi hz0 hz1 hz2 rfl (by decide) (.slice none 0 0) 0 [] rfl (World.ownsRow_nil _ _ _ _) ⟨lb, lo, none⟩ N lc vs rfl hlen hlw how (by unfold maxLen; omega) (by omega) (Nat.le_refl _) ?_; intro v' w7 hown hgrow hnil hloc; obtain ⟨G, c', cur, hv, hgb, hg, ht, hm⟩ := own_row hown (by omega); subst hv; clear hnil hloc hown)
  have hO : OutR w7 G xs := ⟨cur, hg, by rw [HN.out, HVS.out]; exact ht⟩
  have b7 : Below W6.heap.size W6 w7 := ⟨hgrow.os, hgrow.tape, hgrow.output, hgrow.size, fun k hk => hgrow.block k hk (by simp [Value.ownBlock])⟩
  have HO := hid hO
  have B7 := hid (B6.out.trans (b7.mono B6.out.size))
  have R8 := hid (row_below R7.out b7)
  have hXl := (Array.getElem?_eq_some_iff.1 R7.out).1
  have hG : w.heap.size + 1 < G := by omega
  clear hO b7 hgrow ht hm hg hlw how hlen HVS R7 hgb hXl B6 HX
  have y0 := at_row R8.out 0 rfl
  have y3 := at_row R8.out 3 rfl
  have oc0 := HO.out.get p (by have := HN.out; omega)
  have oc1 := HO.out.get (p + 1) (by have := HN.out; omega)
  have of0 := HO.out.fz p
  have of1 := HO.out.fz (p + 1)
  have hpN : (p : Int) < (N : Int) := by omega
  have hpN1 : (p : Int) + 1 < (N : Int) := by omega
  have hw1 : IntKind.i64.wrap ((p : Int) + 1) = (p : Int) + 1 := IntWalk.i64_in _ ⟨by omega, by omega⟩
  go_region
  have O9 : OutR (((w7.setCell ⟨G, p, none⟩ (.int .u64 wv)).setCell ⟨G, p + 1, none⟩ (.int .u64 lk)).drew) G (putK xs p (wv :: lk :: zs) 2) :=
    (HO.out.set p (by have := HN.out; omega) wv).set (p + 1) (by rw [List.length_set]; have := HN.out; omega) lk
  have B9 : Below w.heap.size w (((w7.setCell ⟨G, p, none⟩ (.int .u64 wv)).setCell ⟨G, p + 1, none⟩ (.int .u64 lk)).drew) :=
    ((B7.out.setCell (p := ⟨G, p, none⟩) (by show w.heap.size ≤ G; omega) _).setCell (p := ⟨G, p + 1, none⟩) (by show w.heap.size ≤ G; omega) _).drew
  have bX : Below (w.heap.size + 1 + 1) w7 (((w7.setCell ⟨G, p, none⟩ (.int .u64 wv)).setCell ⟨G, p + 1, none⟩ (.int .u64 lk)).drew) :=
    (((Below.refl (w.heap.size + 1 + 1) w7).setCell (p := ⟨G, p, none⟩) (by show w.heap.size + 1 + 1 ≤ G; omega) _).setCell (p := ⟨G, p + 1, none⟩) (by show w.heap.size + 1 + 1 ≤ G; omega) _).drew
  have R9 := (bX.block (w.heap.size + 1) (by omega)).trans R8.out
  have O9 := hid O9
  have B9 := hid B9
  have R9 := hid R9
  clear bX y0 y3 oc0 oc1 of0 of1 R8 HO B7
  generalize (((w7.setCell ⟨G, p, none⟩ (.int .u64 wv)).setCell ⟨G, p + 1, none⟩ (.int .u64 lk)).drew) = w9 at *
  go_wp2
  go_loopw [13] (fun i wr => ∃ k : Nat, k ≤ Z ∧ i = .int .i64 k ∧ Hid (OutR wr G (putK xs p (wv :: lk :: zs) (k + 2))) ∧ Hid (wr.heap[w.heap.size + 1]? = some (obO (p : Int) sh mk_ lk (.slice fa Z fc))) ∧ Hid (Below w.heap.size w wr)) (fun i _ => Z - (intOf i).toNat)
  case atStart => exact ⟨0, by omega, rfl, O9, R9, B9⟩
  case round =>
    obtain ⟨k, hk, rfl, HO, HR, HB⟩ := hrel
    clear O9 R9 B9
    by_cases hlt : k < Z
    · have hlt' : (k : Int) < (Z : Int) := by omega
      obtain ⟨bf, off, rfl, hcf⟩ := (HV.out.below HB.out).cellk k (by rw [HZ.out]; exact hlt)
      have hlen : (putK xs p (wv :: lk :: zs) (k + 2)).length = N := by rw [putK_len]; exact HN.out
      have y0 := at_row HR.out 0 rfl
      have y4 := at_row HR.out 4 rfl
      have oc0 := HO.out.get (p + 2 + k) (by omega)
      have of0 := HO.out.fz (p + 2 + k)
      have hw2 : IntKind.i64.wrap ((p : Int) + 2) = (p : Int) + 2 := IntWalk.i64_in _ ⟨by omega, by omega⟩
      have hw3 : IntKind.i64.wrap ((p : Int) + 2 + k) = (p : Int) + 2 + k := IntWalk.i64_in _ ⟨by omega, by omega⟩
      have hin : (p : Int) + 2 + k < (N : Int) := by omega
      have hnx : putK xs p (wv :: lk :: zs) (k + 1 + 2) = (putK xs p (wv :: lk :: zs) (k + 2)).set (p + 2 + k) (wat zs k) := by
        show (putK xs p (wv :: lk :: zs) (k + 2)).set (p + (k + 2)) _ = _
        rw [show p + (k + 2) = p + 2 + k by omega]
        rfl
      have HNX := hid hnx
      have HLN := hid hlen
      clear hnx hlen
      generalize wat (putK xs p (wv :: lk :: zs) (k + 2)) (p + 2 + k) = y at *
      generalize hy : wat zs k = v at *
      clear hy
      go_wp2
      go_region
      have O8 : OutR ((wr.setCell ⟨G, p + 2 + k, none⟩ (.int .u64 v)).drew) G (putK xs p (wv :: lk :: zs) (k + 1 + 2)) := by
        rw [HNX.out]
        exact HO.out.set (p + 2 + k) (by rw [HLN.out]; omega) v
      have B8 : Below w.heap.size w ((wr.setCell ⟨G, p + 2 + k, none⟩ (.int .u64 v)).drew) := (HB.out.setCell (p := ⟨G, p + 2 + k, none⟩) (by show w.heap.size ≤ G; omega) _).drew
      have bX : Below (w.heap.size + 1 + 1) wr ((wr.setCell ⟨G, p + 2 + k, none⟩ (.int .u64 v)).drew) := ((Below.refl (w.heap.size + 1 + 1) wr).setCell (p := ⟨G, p + 2 + k, none⟩) (by show w.heap.size + 1 + 1 ≤ G; omega) _).drew
      have R8 := (bX.block (w.heap.size + 1) (by omega)).trans HR.out
      have O8 := hid O8
      have B8 := hid B8
      have R8 := hid R8
      clear bX y0 y4 oc0 of0 hcf HO HR HB
      generalize ((wr.setCell ⟨G, p + 2 + k, none⟩ (.int .u64 v)).drew) = w8 at *
      go_wp2
      go_roundw
      case rel => exact ⟨k + 1, by omega, by go_num, O8, R8, B8⟩
      case measure => simp [intOf]; omega
    · obtain rfl : k = Z := by omega
      go_wp2
      go_ret2
      exact ⟨G, c', rfl, HO.out.ws, by omega, HB.out⟩
end Go.Proofs.YtldfmlkjeniemaaGreatDoor
