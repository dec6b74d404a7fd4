/- package arena: unlike. -/
import Derived.Test.YtldfmlkjeniemaaGreatDoorObReadTOn
import Derived.RangeFuncBox
namespace Go.Proofs.YtldfmlkjeniemaaGreatDoor
open Go.RowKit Go.Shelf
attribute [local go_sem] Oper.semAt_some
/-- A word's number, with the word. -/
abbrev encX (xs : List Int) (x : Fin xs.length) : Array Value := #[Value.int .i64 (x.val : Int), Value.int .u64 (wat xs x.val)]
/-- The first so many numbers. -/
def fus (n k : Nat) : List (Fin n) := (List.finRange n).take k
theorem fus_len {n k : Nat} (h : k ≤ n) : (fus n k).length = k := by simp [fus]; omega
theorem fus_succ {n k : Nat} (h : k < n) : fus n (k + 1) = fus n k ++ [⟨k, h⟩] := by
  unfold fus
  rw [List.take_succ_eq_append_getElem (by simpa using h)]
  simp
theorem fus_all (n : Nat) : fus n n = List.finRange n := List.take_of_length_le (by simp)
set_option maxRecDepth 100000 in
set_option maxHeartbeats 2000000 in
theorem wall1_fin (n l Bs B : Nat) (xs : List Int) (hxs : xs.length ≤ 20000) (J Jx : List (Fin xs.length) → World → Prop) (W : World) (hn : 1 ≤ n)
    (hY : ∀ pre x W1, J pre W1 → pre.length < xs.length → YieldAt Fence.wide (n - 1) Tryz.prog l (encX xs x) W1 fun e W' =>
      (e = .returned (.bool true) ∧ J (pre ++ [x]) W' ∧ KpA Bs B W1 W') ∨ (e = .returned (.bool false) ∧ Jx (pre ++ [x]) W'))
    (hBs : W.heap[Bs]? = some (.cells #[.slice (some ⟨B, 0, none⟩) xs.length xs.length] 57)) (hB : W.heap[B]? = some (.cells (wds xs) 39)) (h0 : J [] W) :
    CallsIn Fence.wide n Tryz.prog 91 #[.func (.yield l) #[] #[], .pointer (some ⟨Bs, 0, none⟩)] W fun e W' => (∃ v, e = .returned v) ∧
      ((∃ ys, ys = fus xs.length xs.length ∧ J ys W') ∨ (∃ pre, (∃ k, k ≤ xs.length ∧ pre = fus xs.length k) ∧ Jx pre W')) := by
  have hc0 := at_row hBs 0 rfl
  refine callsIn_of_wp Tryz.func91 rfl trivial ?_ rfl
  simp only [Tryz.ntmps91, List.size_toArray, List.length_cons, List.length_nil, Nat.reduceAdd, Nat.reduceSub, Array.replicate_succ, Array.replicate_zero, List.push_toArray, List.append_toArray, List.nil_append, List.cons_append]
  gi_wp2
  clear hc0
  gi_loopw [6] (fun i wr => ∃ k : Nat, k ≤ xs.length ∧ i = .int .i64 k ∧ KpA Bs B W wr ∧ J (fus xs.length k) wr) (fun i _ => xs.length - (intOf i).toNat)
  case atStart => exact ⟨0, Nat.zero_le _, rfl, kpA_refl W, h0⟩
  case round =>
    obtain ⟨k, hk, rfl, hK, hJ⟩ := hrel
    have hBs1 := hK.1.trans hBs
    have hB1 := hK.2.trans hB
    have hc1 := at_row hBs1 0 rfl
    by_cases hlt : k < xs.length
    · have hlt' : (k : Int) < xs.length := by omega
      have hc2 := at_row hB1 k (wds_get xs k hlt)
      obtain ⟨fn, tmps, assign, body, hy, hR⟩ := hY _ ⟨k, hlt⟩ _ hJ (by rw [fus_len hk]; exact hlt)
      dsimp only [encX] at hy
      have HUP := hid (fus_succ hlt)
      have HK := hid hK
      clear hK
      generalize wat xs k = x at *
      clear hBs1 hB1
      gi_wp2
      refine hR.mono ?_
      rintro e W3 (⟨rfl, hJ3, hk3⟩ | ⟨rfl, hJx3⟩)
      · gi_wp2
        go_roundw
        case rel => exact ⟨k + 1, by omega, by go_num, kpA_t HK.out hk3, by rw [HUP.out]; exact hJ3⟩
        case measure => simp [intOf]; omega
      · gi_wp2
        refine bodyPost_ret (results_none rfl _ _ _) rfl ?_
        exact ⟨⟨_, rfl⟩, .inr ⟨_, ⟨k + 1, by omega, HUP.out.symm⟩, hJx3⟩⟩
    · obtain rfl : k = xs.length := by omega
      gi_wp2
      go_end0
      exact ⟨⟨_, rfl⟩, .inl ⟨_, rfl, hJ⟩⟩
theorem AllF_stops (n : Nat) (hn : 1 ≤ n) (Bs B : Nat) (xs : List Int) (hxs : xs.length ≤ 20000) (w : World) (hBs : w.heap[Bs]? = some (.cells #[.slice (some ⟨B, 0, none⟩) xs.length xs.length] 57)) (hB : w.heap[B]? = some (.cells (wds xs) 39)) :
    SeqStopsK Fence.wide n Tryz.prog 91 #[.pointer (some ⟨Bs, 0, none⟩)] (encX xs) (KpA Bs B) (fun ys => ys = fus xs.length xs.length)
      (fun pre => ∃ k, k ≤ xs.length ∧ pre = fus xs.length k) xs.length w := fun l J Jx W hW _ _ hY h0 =>
  wall1_fin n l Bs B xs hxs J Jx W hn hY ((hW.block Bs (Array.getElem?_eq_some_iff.1 hBs).1).trans hBs) ((hW.block B (Array.getElem?_eq_some_iff.1 hB).1).trans hB) h0
/-- Are the words of that number unlike? -/
def dif (xs ys : List Int) (i : Nat) : Bool := wat xs i != wat ys i
/-- The numbers that are told. -/
def told (xs ys : List Int) (l : List (Fin xs.length)) : List Value := (l.filter fun i => dif xs ys i.val).map fun i => Value.int .i64 (i.val : Int)
theorem told_le (xs ys : List Int) (l : List (Fin xs.length)) : (told xs ys l).length ≤ l.length := by
  simp only [told, List.length_map]; exact List.length_filter_le _ _
theorem told_hit {xs ys : List Int} (l : List (Fin xs.length)) {x : Fin xs.length} (h : dif xs ys x.val = true) : told xs ys (l ++ [x]) = told xs ys l ++ [.int .i64 (x.val : Int)] := by simp [told, h]
theorem told_miss {xs ys : List Int} (l : List (Fin xs.length)) {x : Fin xs.length} (h : dif xs ys x.val = false) : told xs ys (l ++ [x]) = told xs ys l := by simp [told, h]
theorem info_int : (Tryz.prog.info? 3).map (fun i => (i.zero, i.size, i.bytes)) = some (some (.int .i64 0), 1, 8) := by kernel_rfl
/-- What unlike's boxes hold: the other list, so many, the places. -/
def UqB (w : World) (mv : Value) (most : Int) (v : Value) (vs : List Value) (W : World) : Prop :=
  Boxed W w.heap.size 25 mv ∧ Boxed W (w.heap.size + 1) 3 (.int .i64 most) ∧ Boxed W (w.heap.size + 1 + 1) 28 v ∧ W.ownsRow (w.heap.size + 1 + 1 + 1) 3 1 v vs.length vs ∧ Below w.heap.size w W
theorem own_kept {A B : World} {row : Option Nat} {base k : Nat} {e : TypeId} {size : Nat} {v : Value} {vs : List Value} (hr : A.ownsRow base e size v k vs) (hg : A.grownBy B row) (hrow : ∀ r, row = some r → ∃ o : Obj, A.heap[r]? = some o ∧ o.isCells = false) : B.ownsRow base e size v k vs := by
  refine hr.kept hg ?_
  rcases hr.2 with ⟨rfl, _⟩ | ⟨g, cap, cur, rfl, _, hgb, _⟩
  · exact .inl rfl
  · refine .inr fun e' => ?_
    obtain ⟨o, ho, hc⟩ := hrow g (by simpa [Value.ownBlock] using e'.symm)
    rw [hgb] at ho; cases ho; cases hc
theorem UqB.own {w A B : World} {mv v : Value} {most : Int} {vs : List Value} {row : Option Nat} {C : Nat} (h : UqB w mv most v vs A) (hC : w.heap.size ≤ C) (hg : A.grownBy B row) (hr : ∀ r, row = some r → C ≤ r ∧ ∃ o : Obj, A.heap[r]? = some o ∧ o.isCells = false) : UqB w mv most v vs B := by
  obtain ⟨h0, h1, h2, h3, hb⟩ := h
  have hr' := fun r e => (hr r e).2
  exact ⟨abox_own h0 hg hr', abox_own h1 hg hr', abox_own h2 hg hr', own_kept h3 hg hr', hb.grown hg hb.size (fun k e => Nat.le_trans hC (hr k e).1)⟩
theorem UqB.size {w A : World} {mv v : Value} {most : Int} {vs : List Value} (h : UqB w mv most v vs A) : w.heap.size + 3 ≤ A.heap.size := h.2.2.1.lt
theorem UqB.shape {w A : World} {mv v : Value} {most : Int} {vs : List Value} (h : UqB w mv most v vs A) : ∃ a c, v = .slice a vs.length c := by
  rcases h.2.2.2.1.2 with ⟨e, h0⟩ | ⟨g, cap, cur, e, _⟩
  · exact ⟨none, 0, by rw [e, h0]⟩
  · exact ⟨_, _, e⟩
/-- Behind an append and its store. -/
theorem UqB.app {w W w1 : World} {mv v v' : Value} {most : Int} {vs ws : List Value} {tmp : Obj} (h : UqB w mv most v vs W) (hown : w1.ownsRow (w.heap.size + 1 + 1 + 1) 3 1 v' ws.length ws) (hgrow : (W.alloc tmp).grownBy w1 v.ownBlock) :
    (Boxed w1 (w.heap.size + 1 + 1) 28 v) ∧ UqB w mv most v' ws (w1.setCell ⟨w.heap.size + 1 + 1, 0, none⟩ v') ∧ KeepsOthers W (w1.setCell ⟨w.heap.size + 1 + 1, 0, none⟩ v') ∧ Below w.heap.size W (w1.setCell ⟨w.heap.size + 1 + 1, 0, none⟩ v') := by
  have hz := h.size
  obtain ⟨h0, h1, h2, h3, hb⟩ := h
  have hne : ∀ k, k < w.heap.size + 1 + 1 + 1 → some k ≠ v.ownBlock := fun k hk e => by
    have := (h3.lt k e.symm).1; omega
  have hne' : ∀ k, k < w.heap.size + 1 + 1 + 1 → k ≠ w.heap.size + 1 + 1 → some k ≠ some (w.heap.size + 1 + 1) := fun k _ hk e => hk (by cases e; rfl)
  have b0 := (h0.alloc tmp).kept hgrow (hne _ (by omega))
  have b1 := (h1.alloc tmp).kept hgrow (hne _ (by omega))
  have b2 := (h2.alloc tmp).kept hgrow (hne _ (by omega))
  have hBW : Below w.heap.size W w1 := ⟨hgrow.os, hgrow.tape, hgrow.output, Nat.le_trans (by simp) hgrow.size, fun k hk => (hgrow.block k (by simp; omega) (hne k (by omega))).trans (Below.heap_alloc W tmp k (by omega))⟩
  have hBS := hBW.setCell (p := ⟨w.heap.size + 1 + 1, 0, none⟩) (by show w.heap.size ≤ w.heap.size + 1 + 1; omega) v'
  refine ⟨b2, ⟨b0.other (by omega) _, b1.other (by omega) _, b2.set _, hown.kept (grownBy_setCell' w1 _ v') (.inr fun e => ?_), hb.trans hBS⟩, ?_, hBS⟩
  · have := (hown.lt _ e).1; omega
  · refine ((KeepsOthers.alloc W tmp).trans (KeepsOthers.of_grownBy hgrow fun j o ej hj => ?_)).trans (KeepsOthers.setCell _ _ _)
    rcases (h3.alloc tmp).2 with ⟨rfl, _⟩ | ⟨g, cap, cur, rfl, _, hgb, _⟩
    · simp [Value.ownBlock] at ej
    · obtain rfl : g = j := by simpa [Value.ownBlock] using ej
      rw [hgb] at hj; cases hj; rfl
theorem uqB_start (w : World) (mv : Value) (most : Int) : UqB w mv most (.slice none 0 0) [] (((w.alloc (.cells #[mv] 25)).alloc (.cells #[.int .i64 most] 3)).alloc (.cells #[.slice none 0 0] 28)) :=
  ⟨((Boxed.new w _ _).alloc _).alloc _, (abox_last _ _ (by simp) _ _).alloc _, abox_last _ _ (by simp) _ _, World.ownsRow_nil _ _ _ _, bel_three w _ _ _⟩
theorem ascope_wide {n : Nat} {P : Program} {Q : Exit → Act → World → Prop} {a : Act} {w : World} {c : Code} (h : c.wpIn Fence.wide n P (Exit.noGoto Q) a w) : (Code.scope c).wpIn Fence.wide n P Q a w :=
  wpIn_wide.2 (wp_scope_straight (wpIn_wide.1 h))
set_option maxRecDepth 10000000 in
set_option maxHeartbeats 8000000 in
/-- The places where two lists are unlike: all of them, or the first so many. -/
theorem unlike_in (Bs B b off c : Nat) (xs ys : List Int) (most : Int) (w : World) (hle : xs.length ≤ 16384) (hl : ys.length = xs.length)
    (hBs : w.heap[Bs]? = some (.cells #[.slice (some ⟨B, 0, none⟩) xs.length xs.length] 57)) (hB : w.heap[B]? = some (.cells (wds xs) 39)) (hy : Ws w b off ys) :
    CallsIn Fence.wide 4 Tryz.prog 59 #[.func (.func 91) #[] #[.pointer (some ⟨Bs, 0, none⟩)], .slice (some ⟨b, off, none⟩) xs.length c, .int .i64 most] w fun e W' =>
      ∃ v k, e = .returned v ∧ k ≤ xs.length ∧ W'.ownsRow (w.heap.size + 1 + 1 + 1) 3 1 v (told xs ys (fus xs.length k)).length (told xs ys (fus xs.length k)) ∧ (k = xs.length ∨ ((told xs ys (fus xs.length k)).length : Int) = most) ∧ Below w.heap.size w W' := by
  obtain ⟨i0, hi, hz0, hz1, hz2⟩ := info_parts info_int
  refine callsIn_of_wp_marks Tryz.func59 rfl trivial ?_ rfl
  simp only [Tryz.ntmps59, List.size_toArray, List.length_cons, List.length_nil, Nat.reduceAdd, Nat.reduceSub, Array.replicate_succ, Array.replicate_zero, List.push_toArray, List.append_toArray, List.nil_append, List.cons_append]
  gi_wp2
  refine ascope_wide ?_
  gi_wp2
  refine wpIn_label ?_
  gi_wp2
  have H0 := uqB_start w (.slice (some ⟨b, off, none⟩) xs.length c) most
  have HR : Hid (∀ W, Below w.heap.size w W → Ws W b off ys) := hid (fun W bw => hy.below bw)
  have hBs0 := fun (W : World) (bw : Below w.heap.size w W) => (bw.block Bs (Array.getElem?_eq_some_iff.1 hBs).1).trans hBs
  have hB0 := fun (W : World) (bw : Below w.heap.size w W) => (bw.block B (Array.getElem?_eq_some_iff.1 hB).1).trans hB
  have HLs : Hid (Bs < w.heap.size) := hid (Array.getElem?_eq_some_iff.1 hBs).1
  have HLb : Hid (B < w.heap.size) := hid (Array.getElem?_eq_some_iff.1 hB).1
  clear hBs hB hy
  revert H0
  generalize World.alloc (World.alloc (World.alloc w _) _) _ = w0
  intro H0
  have h0 := hid H0
  have HBs := hid (hBs0 w0 H0.2.2.2.2)
  have HBb := hid (hB0 w0 H0.2.2.2.2)
  clear H0 hBs0 hB0
  refine wpIn_rangeFunc_ownG (Q := _) rfl (by decide) (gf := 91) (lb := #[.pointer (some ⟨Bs, 0, none⟩)]) rfl trivial (enters_of Tryz.func91 (by kernel_rfl) rfl)
    (AllF_stops 3 (by omega) Bs B xs (by omega) w0 HBs.out HBb.out) kpA_t (kpA_b (by have := HLs.out; have := h0.out.size; omega) (by have := HLb.out; have := h0.out.size; omega)) (Below.refl _ _) (fun _ => rfl)
    (fun pre W => pre.length ≤ xs.length ∧ ∃ v, UqB w (.slice (some ⟨b, off, none⟩) xs.length c) most v (told xs ys pre) W)
    (fun cd pre W => cd = .exit 0 ∧ ∃ ini last v, pre = ini ++ [last] ∧ ((told xs ys ini).length : Int) = most ∧ UqB w (.slice (some ⟨b, off, none⟩) xs.length c) most v (told xs ys ini) W)
    (fun pre A B row hs hg hr => by obtain ⟨h1, v, h2⟩ := hs; exact ⟨h1, v, h2.own (by have := h0.out.size; omega) hg hr⟩)
    (fun cd pre A B row hs hg hr => by obtain ⟨h1, ini, last, v, h2, h3, h4⟩ := hs; exact ⟨h1, ini, last, v, h2, h3, h4.own (by have := h0.out.size; omega) hg hr⟩)
    ⟨by simp, _, h0.out⟩ ?a1 ?assign ?body ?done ?stop
  case assign =>
    intro l x W K hK
    dsimp only [encX]
    gi_wp2
    exact hK
  case body =>
    rintro l pre x W ⟨hl8, v, hA⟩ hlen
    have HA := hid hA
    obtain ⟨av, cv, hv⟩ := hA.shape
    subst hv
    have k0 := hA.1.cell
    have k1 := hA.2.1.cell
    have k2 := hA.2.2.1.cell
    have f2 := hA.2.2.1.frozen
    have hrow := hid hA.2.2.2.1
    have hc := HR.out W hA.2.2.2.2 x.val (by rw [hl]; exact x.isLt)
    have hxl : (x.val : Int) < xs.length := by have := x.isLt; omega
    have htl := told_le xs ys pre
    have HL : Hid ((pre ++ [x]).length ≤ xs.length) := hid (by simp; omega)
    have HBs3 := hid (show w.heap.size + 1 + 1 + 1 ≤ W.heap.size from hA.size)
    clear hA
    by_cases hm : ((told xs ys pre).length : Int) = most
    · have hm' : (((told xs ys pre).length : Int) == most) = true := by simpa using hm
      have HMo := hid hm
      clear hm
      gi_wp2
      exact ⟨KeepsFrom.refl _ _, rfl, pre, x, _, rfl, HMo.out, HA.out⟩
    · have hm' : (((told xs ys pre).length : Int) == most) = false := by simpa using hm
      clear hm
      by_cases hd : dif xs ys x.val = true
      · have HT := hid (told_hit pre hd)
        have hne : (wat xs x.val != wat ys x.val) = true := hd
        clear hd
        generalize hw1 : wat xs x.val = p1 at *
        generalize hw2 : wat ys x.val = p2 at *
        clear hw1 hw2
        generalize hval : x.val = xv at *
        clear hval
        generalize told xs ys pre = vs at *
        gi_wp2_with (gi_at_builtin; refine wpListIn_append_own _ rfl _ _ 28 rfl (w.heap.size + 1 + 1 + 1) 3 i0 (.int .i64 0) 1 8 Tryz.underlying28 hi hz0 hz1 hz2 rfl (by decide) (.slice av vs.length cv) vs.length vs rfl (hrow.out.alloc (.cells #[.int .i64 (xv : Int)] 3)) ⟨W.heap.size, 0, none⟩ 1 1 [.int .i64 (xv : Int)] rfl rfl (cell_one_new _ _ _) (by simp [Value.oneCell']) (by unfold maxLen; omega) (by omega) (by have := HBs3.out; simp; omega) ?_; intro v' w1 hown' hgrow _; obtain ⟨g', cap', rfl⟩ := ownsRow_succ hown'; obtain ⟨hv1, hu2, hk2, hb2⟩ := HA.out.app (ws := vs ++ [.int .i64 (xv : Int)]) (by simpa using hown') hgrow; have hc1 := hv1.cell; have hf1 := hv1.frozen)
        refine ⟨hk2.from _, ⟨hb2.block _ HLs.out, hb2.block _ HLb.out⟩, HL.out, .slice (some ⟨g', 0, none⟩) (vs.length + 1) cap', ?_⟩
        rw [HT.out]
        exact hu2
      · have hd' : dif xs ys x.val = false := by simpa using hd
        have HT := hid (told_miss pre hd')
        have hne : (wat xs x.val != wat ys x.val) = false := hd'
        clear hd hd'
        generalize hw1 : wat xs x.val = p1 at *
        generalize hw2 : wat ys x.val = p2 at *
        clear hw1 hw2
        generalize hval : x.val = xv at *
        clear hval
        gi_wp2
        exact ⟨KeepsFrom.refl _ _, kpA_refl _, HL.out, _, by rw [HT.out]; exact HA.out⟩
  case done =>
    rintro D zs W hD rfl ⟨_, v, hA⟩ hK
    have k2 := hA.2.2.1.cell
    gi_wp2
    refine ⟨by simp, .inl ⟨_, _, rfl, run_takeDeferred hK, ?_⟩⟩
    exact ⟨_, results_tmp rfl _ _ _, v, xs.length, rfl, Nat.le_refl _, ownsRow_putObj hA.2.2.2.1 _ hK rfl, .inl rfl, hA.2.2.2.2.trans (belowK_b (w := w) (Nat.le_refl _) W D _ _ (by have := h0.out.size; omega) hK rfl rfl)⟩
  case stop =>
    rintro D cd pre W hD ⟨k, hk, rfl⟩ ⟨rfl, ini, last, v, h2, h3, hA⟩ hK
    have k2 := hA.2.2.1.cell
    obtain ⟨j, rfl⟩ : ∃ j, k = j + 1 := by
      cases k with
      | zero => simp [fus] at h2
      | succ j => exact ⟨j, rfl⟩
    rw [fus_succ (show j < xs.length by omega)] at h2
    obtain ⟨rfl, _⟩ := List.append_inj' h2 rfl
    clear h2
    gi_wp2
    refine ⟨by simp, .inl ⟨_, _, rfl, run_takeDeferred hK, ?_⟩⟩
    exact ⟨_, results_tmp rfl _ _ _, v, j, rfl, by omega, ownsRow_putObj hA.2.2.2.1 _ hK rfl, .inr h3, hA.2.2.2.2.trans (belowK_b (w := w) (Nat.le_refl _) W D _ _ (by have := h0.out.size; omega) hK rfl rfl)⟩
end Go.Proofs.YtldfmlkjeniemaaGreatDoor
