/- package layout: firstObject: the words of the object that stands in the first space at the start. -/
import Derived.Test.YtjfegimgpkeleaaDoorShAllBOn
import Derived.Test.YtjfegimgpkeleaaDoorShTabOn
import Derived.Test.YtjfegimgpkeleaaDoorWdMake
import Derived.Test.YtjfegimgpkeleaaDoorLyFace
import Derived.RangeFuncBox
import Derived.Maps.AppendAt
namespace Go.Proofs.YtjfegimgpkeleaaDoor
open Go.RowKit Go.Ly Go.Sh Go.Shelf
attribute [local go_sem] Oper.semAt_some
/-- The table of what fields hold at the start stands as it was laid. -/
def LFirst (w : World) : Prop := w.cell? ⟨2, 0, none⟩ = some (.int .i64 1) ∧ w.cell? ⟨2, 1, none⟩ = some (.int .i64 3)
theorem LFirst.below {w w' : World} (h : LFirst w) (hb : Below w.heap.size w w') : LFirst w' :=
  ⟨(hb.cell (p := ⟨2, 0, none⟩) (block_lt_of_cell h.1)).trans h.1, (hb.cell (p := ⟨2, 1, none⟩) (block_lt_of_cell h.2)).trans h.2⟩
/-- A field and whether it is a scalar's. -/
def bI (b : Bool) : Int := if b then 1 else 0
theorem bI_t : bI true = 1 := rfl
theorem bI_f : bI false = 0 := rfl
abbrev encB (x : Nat × Bool) : Array Value := #[Value.int .i64 (x.1 : Int), Value.int .i64 (bI x.2)]
def elB (s : ByteArray) (i : Nat) : Nat × Bool := (i, s.data.toList.getD i 0 == 115)
theorem elB_enc (s : ByteArray) (i : Nat) : encB (elB s i) = encF (fieldAt s i) := by
  simp only [encB, elB, encF, fieldAt, kb, bI, beq_iff_eq]
/-- What a field holds at the start. -/
def fwd (b : Bool) : Int := if b then 4611686018427387908 else 0
def vals (pre : List (Nat × Bool)) : List Value := .int .u64 6 :: .int .u64 0 :: pre.map fun x => .int .u64 (fwd x.2)
theorem vals_len (pre : List (Nat × Bool)) : (vals pre).length = 2 + pre.length := by simp [vals]; omega
theorem vals_snoc (pre : List (Nat × Bool)) (x : Nat × Bool) : vals (pre ++ [x]) = vals pre ++ [.int .u64 (fwd x.2)] := by simp [vals]
theorem linfo_u64 : (Tryd.prog.info? 37).map (fun i => (i.zero, i.size, i.bytes)) = some (some (.int .u64 0), 1, 8) := by kernel_rfl
/-- What the loop keeps: the box of the list, the list's own row. -/
def FiB (w : World) (B : Nat) (v : Value) (pre : List (Nat × Bool)) (W : World) : Prop :=
  Boxed W B 30 v ∧ W.ownsRow w.heap.size 37 1 v (2 + pre.length) (vals pre) ∧ Below w.heap.size w W
theorem fown_kept {A B : World} {row : Option Nat} {base k : Nat} {e : TypeId} {size : Nat} {v : Value} {vs : List Value} (hr : A.ownsRow base e size v k vs) (hg : A.grownBy B row) (hrow : ∀ r, row = some r → ∃ o : Obj, A.heap[r]? = some o ∧ o.isCells = false) : B.ownsRow base e size v k vs := by
  refine hr.kept hg ?_
  rcases hr.2 with ⟨rfl, _⟩ | ⟨g, cap, cur, rfl, _, hgb, _⟩
  · exact .inl rfl
  · refine .inr fun e' => ?_
    obtain ⟨o, ho, hc⟩ := hrow g (by simpa [Value.ownBlock] using e'.symm)
    rw [hgb] at ho; cases ho; cases hc
theorem FiB.own {w A B : World} {X : Nat} {v : Value} {pre : List (Nat × Bool)} {row : Option Nat} {C : Nat} (h : FiB w X v pre A) (hC : w.heap.size ≤ C) (hg : A.grownBy B row) (hr : ∀ r, row = some r → C ≤ r ∧ ∃ o : Obj, A.heap[r]? = some o ∧ o.isCells = false) : FiB w X v pre B :=
  ⟨box_own h.1 hg (fun r e => (hr r e).2), fown_kept h.2.1 hg (fun r e => (hr r e).2), h.2.2.grown hg h.2.2.size (fun k e => Nat.le_trans hC (hr k e).1)⟩
theorem FiB.below {w A B : World} {X : Nat} {v : Value} {pre : List (Nat × Bool)} (h : FiB w X v pre A) (b : Below A.heap.size A B) : FiB w X v pre B :=
  ⟨(b.block X h.1.lt).trans h.1, fown_kept (row := none) h.2.1 (grown_of_below b) (fun r e => by cases e), h.2.2.trans (b.mono h.2.2.size)⟩
theorem fiB_start (w w1 : World) (z : Value) (hb : Below w.heap.size w w1) : FiB w (w1.heap.size + 1) (.slice (some ⟨w1.heap.size, 0, none⟩) 2 2) [] (((w1.alloc (.cells #[.int .u64 (Hd.wd 0 0), .int .u64 0] 37)).alloc (.cells #[.slice (some ⟨w1.heap.size, 0, none⟩) 2 2] 30)).alloc (.cells #[z] 58)) := by
  have hs := hb.size
  refine ⟨?_, ⟨by simp [vals], .inr ⟨w1.heap.size, 2, #[.int .u64 (Hd.wd 0 0), .int .u64 0], rfl, hs, ?_, by simp, by unfold maxLen; omega, by simp, rfl⟩⟩, ((hb.alloc hs _).alloc (by simp; omega) _).alloc (by simp; omega) _⟩
  · have := (Boxed.new (w1.alloc (.cells #[.int .u64 (Hd.wd 0 0), .int .u64 0] 37)) 30 (.slice (some ⟨w1.heap.size, 0, none⟩) 2 2)).alloc (.cells #[z] 58)
    rwa [World.size_alloc] at this
  · exact row3a (Below.refl _ _)
theorem mkW_null : Wd.mkW 1 false 0 = 0 := by decide
theorem mkW_scal : Wd.mkW 3 false 0 = 4611686018427387908 := by decide
set_option maxRecDepth 10000000 in
set_option maxHeartbeats 8000000 in
theorem firstObject_in (t s : Int) (b off n c : Nat) (x : ByteArray) (w : World) (h1 : one x = true) (hn : 1 ≤ n) (hc : w.cell? ⟨b, off, none⟩ = some (.string x)) (hF : LFirst w) :
    CallsIn Fence.wide 4 Tryd.prog 48 #[planV t s (some ⟨b, off, none⟩) n c] w fun e W' =>
      ∃ v, e = .returned v ∧ W'.ownsRow w.heap.size 37 1 v (2 + x.size) (vals (upto (elB x) x.size)) ∧ Below w.heap.size w W' := by
  obtain ⟨i0, hi, hz0, hz1, hz2⟩ := info_parts linfo_u64
  have hx8 := one_size h1
  have HC := hid hc
  have HF := hid hF
  clear hc hF
  refine callsIn_of_wp_marks Tryd.func48 rfl trivial ?_ rfl
  simp only [Tryd.ntmps48, List.size_toArray, List.length_cons, List.length_nil, Nat.reduceAdd, Nat.reduceSub, Array.replicate_succ, Array.replicate_zero, List.push_toArray, List.append_toArray, List.nil_append, List.cons_append]
  gi_wp2_with (refine ⟨trivial, ?_⟩; gi_at_call 62; refine (callsIn_wide.2 (make_yes 0 0 _ rfl)).mono ?_)
  rintro e w1 ⟨rfl, b1⟩
  have B1 := hid (bel1 b1)
  have p2 := at_row (row1 b1) 2 rfl
  have z1 := siz1 b1
  have hc1 := (bel1 b1).cell (p := ⟨b, off, none⟩) (block_lt_of_cell HC.out) |>.trans HC.out
  have hblt := block_lt_of_cell hc1
  clear b1
  gi_wp2_with (refine ⟨trivial, ?_⟩; gi_at_call 63; refine (callsIn_wide.2 (All_any _ _)).mono ?_; rintro e w2 ⟨rfl, rfl⟩)
  have H0 := fiB_start w w1 (.string x) B1.out
  have bS := Boxed.new ((w1.alloc (.cells #[.int .u64 (Hd.wd 0 0), .int .u64 0] 37)).alloc (.cells #[.slice (some ⟨w1.heap.size, 0, none⟩) 2 2] 30)) 58 (.string x)
  simp only [World.size_alloc] at bS
  revert H0 bS
  generalize World.alloc (World.alloc (World.alloc w1 _) _) _ = w0
  intro H0 bS
  have h0 := hid H0
  have hz : w.heap.size ≤ w0.heap.size := H0.2.2.size
  clear H0
  refine wpIn_rangeFunc_ownG (Q := _) rfl (by decide) (gf := 77) (lb := #[.pointer (some ⟨w1.heap.size + 1 + 1, 0, none⟩)]) rfl trivial (enters_of Tryd.func77 (by kernel_rfl) rfl)
    (AllB_stops encB (elB x) 3 (by omega) (w1.heap.size + 1 + 1) x h1 (fun k _ => elB_enc x k) w0 bS.cell) walksK_t walksK_b (Below.refl _ _) (fun _ => rfl)
    (fun pre W => pre.length ≤ 8 ∧ ∃ v, FiB w (w1.heap.size + 1) v pre W)
    (fun _ _ _ => False)
    (fun pre A B row hs hg hr => by obtain ⟨h1, v, h2⟩ := hs; exact ⟨h1, v, h2.own hz hg hr⟩)
    (fun _ _ _ _ _ hs _ _ => hs)
    ⟨by simp, _, h0.out⟩ ?a1 ?assign ?body ?done ?stop
  case assign =>
    intro l x W K hK
    dsimp only [encB]
    gi_wp2
    exact hK
  case body =>
    rintro l pre y W ⟨hl8, v, hA⟩ hlen
    have HA := hid hA
    obtain ⟨g, cap, hv⟩ := ownsRow_succ (k := 1 + pre.length) (by have := hA.2.1; rwa [show 2 + pre.length = 1 + pre.length + 1 by omega] at this)
    rw [show 1 + pre.length + 1 = 2 + pre.length by omega] at hv
    subst hv
    have HL : Hid ((pre ++ [y]).length ≤ 8) := hid (by simp; omega)
    have hf := HF.out.below hA.2.2
    have f0 := hf.1
    have f1 := hf.2
    clear hA hf
    obtain ⟨y1, y2⟩ := y
    cases y2
    · dsimp only
      rw [bI_f]
      gi_wp2_with (refine ⟨trivial, ?_⟩; gi_at_call 64; refine (callsIn_wide.2 (make_any 1 false 0 _)).mono ?_)
      rintro e w2 ⟨rfl, b2⟩
      have HA2 := hid (HA.out.below b2)
      have HKb := hid (show KeepsOthers W w2 from KeepsOthers.of_grownBy (row := none) (grown_of_below b2) (fun j o e _ => by cases e))
      clear HA b2 f0 f1
      have hc1 := HA2.out.1.cell
      have hf1 := HA2.out.1.frozen
      have hz2' : w.heap.size ≤ w2.heap.size := HA2.out.2.2.size
      rw [mkW_null]
      gi_wp2_with (gi_at_builtin; refine wpListIn_append_own _ rfl _ _ 30 rfl w.heap.size 37 i0 (.int .u64 0) 1 8 Tryd.underlying30 hi hz0 hz1 hz2 rfl (by decide) (.slice (some ⟨g, 0, none⟩) (2 + pre.length) cap) (2 + pre.length) (vals pre) rfl (HA2.out.2.1.alloc (.cells #[.int .u64 0] 37)) ⟨w2.heap.size, 0, none⟩ 1 1 [.int .u64 0] rfl rfl (cell_one_new _ _ _) (by simp [Value.oneCell']) (by unfold maxLen; omega) (by omega) (by simp; omega) ?_; intro v' w3 hown' hgrow _; obtain ⟨g', cap', rfl⟩ := ownsRow_succ hown'; obtain ⟨hv1, hu2, hu3, hk2, hb2⟩ := HA2.out.1.appended (e := 37) (by decide) HA2.out.2.1 hz2' (by omega) hown' hgrow; have hc3 := hv1.cell; have hf3 := hv1.frozen)
      refine ⟨(HKb.out.trans hk2).from _, (HKb.out.trans hk2).walks, HL.out, _, hu2, ?_, HA2.out.2.2.trans hb2⟩
      rw [vals_snoc, List.length_append]
      exact hu3
    · dsimp only
      rw [bI_t]
      gi_wp2_with (refine ⟨trivial, ?_⟩; gi_at_call 64; refine (callsIn_wide.2 (make_any 3 false 0 _)).mono ?_)
      rintro e w2 ⟨rfl, b2⟩
      have HA2 := hid (HA.out.below b2)
      have HKb := hid (show KeepsOthers W w2 from KeepsOthers.of_grownBy (row := none) (grown_of_below b2) (fun j o e _ => by cases e))
      clear HA b2 f0 f1
      have hc1 := HA2.out.1.cell
      have hf1 := HA2.out.1.frozen
      have hz2' : w.heap.size ≤ w2.heap.size := HA2.out.2.2.size
      rw [mkW_scal]
      gi_wp2_with (gi_at_builtin; refine wpListIn_append_own _ rfl _ _ 30 rfl w.heap.size 37 i0 (.int .u64 0) 1 8 Tryd.underlying30 hi hz0 hz1 hz2 rfl (by decide) (.slice (some ⟨g, 0, none⟩) (2 + pre.length) cap) (2 + pre.length) (vals pre) rfl (HA2.out.2.1.alloc (.cells #[.int .u64 4611686018427387908] 37)) ⟨w2.heap.size, 0, none⟩ 1 1 [.int .u64 4611686018427387908] rfl rfl (cell_one_new _ _ _) (by simp [Value.oneCell']) (by unfold maxLen; omega) (by omega) (by simp; omega) ?_; intro v' w3 hown' hgrow _; obtain ⟨g', cap', rfl⟩ := ownsRow_succ hown'; obtain ⟨hv1, hu2, hu3, hk2, hb2⟩ := HA2.out.1.appended (e := 37) (by decide) HA2.out.2.1 hz2' (by omega) hown' hgrow; have hc3 := hv1.cell; have hf3 := hv1.frozen)
      refine ⟨(HKb.out.trans hk2).from _, (HKb.out.trans hk2).walks, HL.out, _, hu2, ?_, HA2.out.2.2.trans hb2⟩
      rw [vals_snoc, List.length_append]
      exact hu3
  case done =>
    rintro D zs W hD rfl ⟨_, v, hA⟩ hK
    have k2 := hA.1.cell
    gi_wp2
    refine ⟨by simp, .inl ⟨_, _, rfl, run_takeDeferred hK, ?_⟩⟩
    refine ⟨_, results_tmp rfl _ _ _, v, rfl, ?_, hA.2.2.trans (belowK_b (w := w) (Nat.le_refl _) W D _ _ (by omega) hK rfl rfl)⟩
    have h2 := hA.2.1
    rw [upto_length] at h2
    exact ownsRow_putObj h2 _ hK rfl
  case stop =>
    rintro D c pre W _ _ h _
    exact h.elim
/-- The words of the first object. -/
def fobj (x : ByteArray) : List Int := 6 :: 0 :: upto (fun i => fwd (x.data.toList.getD i 0 == 115)) x.size
theorem fobj_len (x : ByteArray) : (fobj x).length = 2 + x.size := by simp [fobj, upto_length]; omega
theorem fobj_vals (x : ByteArray) : vals (upto (elB x) x.size) = (fobj x).map (Value.int .u64) := by simp [vals, fobj, upto, elB]
theorem firstObject_at (t s : Int) (b off n c : Nat) (x : ByteArray) (w : World) (h1 : one x = true) (hn : 1 ≤ n) (hc : w.cell? ⟨b, off, none⟩ = some (.string x)) (hF : LFirst w) :
    Calls Tryd.prog 48 #[planV t s (some ⟨b, off, none⟩) n c] w fun e W' =>
      ∃ g cap, e = .returned (.slice (some ⟨g, 0, none⟩) (2 + x.size) cap) ∧ w.heap.size ≤ g ∧ (∀ i, i < 2 + x.size → W'.cell? ⟨g, i, none⟩ = some (.int .u64 ((fobj x).getD i 0))) ∧ Below w.heap.size w W' := by
  refine (callsIn_wide.1 (firstObject_in t s b off n c x w h1 hn hc hF)).mono ?_
  rintro e W' ⟨v, rfl, ho, hb⟩
  rw [fobj_vals] at ho
  rcases ho.2 with ⟨_, h0⟩ | ⟨g, cap, cur, rfl, hg, hrow, _, _, _, htk⟩
  · omega
  · refine ⟨g, cap, rfl, hg, fun i hi => ?_, hb⟩
    refine at_row hrow i ?_
    rw [Nat.mul_one] at htk
    have h2 : i < (fobj x).length := by rw [fobj_len]; exact hi
    have e1 : (cur.toList.take (2 + x.size))[i]? = some (.int .u64 ((fobj x).getD i 0)) := by
      rw [htk, List.getElem?_map, List.getElem?_eq_getElem h2, List.getD_eq_getElem?_getD, List.getElem?_eq_getElem h2]; rfl
    rw [List.getElem?_take_of_lt hi, Array.getElem?_toList] at e1
    exact e1
end Go.Proofs.YtjfegimgpkeleaaDoor
