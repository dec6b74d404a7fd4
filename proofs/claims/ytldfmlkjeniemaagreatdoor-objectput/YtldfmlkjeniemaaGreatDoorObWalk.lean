/- package object: walk. -/
import Derived.Test.YtldfmlkjeniemaaGreatDoorObOnward
import Derived.Test.YtldfmlkjeniemaaGreatDoorLyFaceOn
import Derived.Test.YtldfmlkjeniemaaGreatDoorObHeld
import Derived.Test.YtldfmlkjeniemaaGreatDoorObBoxOn
set_option linter.unusedVariables false
namespace Go.Proofs.YtldfmlkjeniemaaGreatDoor
open Go.RowKit Go.Ly Go.Hd Go.Sh Go.Ob Go.Shelf
attribute [local go_sem] Oper.semAt_some
/-- The words that are told among those that were come to. -/
def twd (f : Int → Int) (E : Nat) (pre : List Nat) : List Int := (pre.filter fun x => decide (0 < f ((x % E : Nat) : Int))).map fun x => ((x % E : Nat) : Int)
theorem twd_hit {f : Int → Int} {E : Nat} {x : Nat} (pre : List Nat) (h : 0 < f ((x % E : Nat) : Int)) : twd f E (pre ++ [x]) = twd f E pre ++ [((x % E : Nat) : Int)] := by simp only [twd, List.filter_append, List.map_append]; rw [List.filter_cons_of_pos (by simpa using h)]; simp
theorem twd_miss {f : Int → Int} {E : Nat} {x : Nat} (pre : List Nat) (h : ¬ 0 < f ((x % E : Nat) : Int)) : twd f E (pre ++ [x]) = twd f E pre := by simp only [twd, List.filter_append, List.map_append]; rw [List.filter_cons_of_neg (by simpa using h)]; simp
theorem twd_le (f : Int → Int) (E : Nat) (pre : List Nat) : (twd f E pre).length ≤ pre.length := by simp only [twd, List.length_map]; exact List.length_filter_le _ _
theorem vis_mod {f : Int → Int} {p0 : Nat} {E k : Nat} (h : vis f p0 k < E) : (((vis f p0 k).toNat % E : Nat) : Int) = vis f p0 k := by
  have := vis_ge f p0 k
  rw [Nat.mod_eq_of_lt (by omega)]
  omega
theorem twd_visL (f : Int → Int) (p0 E : Nat) : ∀ k, (∀ j, j < k → vis f p0 j < E) → twd f E (visL f p0 k) = tol f p0 k
  | 0, _ => rfl
  | k + 1, h => by
    have ih := twd_visL f p0 E k (fun j hj => h j (by omega))
    have hm := vis_mod (h k (by omega))
    rw [visL_succ]
    by_cases hp : 0 < f (vis f p0 k)
    · rw [twd_hit _ (by rw [hm]; exact hp), ih, tol_hit hp, hm]
    · rw [twd_miss _ (by rw [hm]; exact hp), ih, tol_miss hp]
/-- What walk's boxes hold: up to which word, the space's first word, the words told. -/
structure WkB (w : World) (gb gl base : Nat) (bv u : Int) (a' : Option Addr) (c' : Nat) (zs : List Int) (W : World) : Prop where
  un : W.heap[w.heap.size + 1]? = some (.cells #[.int .i64 u] 3)
  bs : W.heap[gb]? = some (.cells #[.int .i64 bv] 3)
  li : W.heap[gl]? = some (.cells #[.slice a' zs.length c'] 28)
  own : W.ownsRow base 3 1 (.slice a' zs.length c') zs.length (zs.map (Value.int .i64))
  bel : Below w.heap.size w W
  lu : w.heap.size + 1 < gl
  lb : gb < gl
  ll : gl < base
theorem WkB.stays {w A A' : World} {gb gl base C G : Nat} {bv u : Int} {a' : Option Addr} {c' : Nat} {zs : List Int} {row : Option Nat} (h : WkB w gb gl base bv u a' c' zs A) (hg : A.grownBy A' row) (ht : Turns C G A row) (hC : gl < C) (hw : w.heap.size ≤ C) (hG : G < base) : WkB w gb gl base bv u a' c' zs A' := by
  have old : ∀ (j : Nat) (o : Obj), j < C → A.heap[j]? = some o → A'.heap[j]? = some o := fun j o hj ho => (hg.block j (Array.getElem?_eq_some_iff.1 ho).1 (fun e => by have := (ht j e.symm).1; omega)).trans ho
  have lu := h.lu
  have lb := h.lb
  refine ⟨old _ _ (by omega) h.un, old _ _ (by omega) h.bs, old _ _ hC h.li, ?_, ?_, h.lu, h.lb, h.ll⟩
  · refine h.own.kept hg ?_
    rcases h.own.2 with ⟨e, _⟩ | ⟨k, cap, cur, e, hk, hkb, _⟩
    · rw [e]; exact .inl rfl
    · rw [e]
      refine .inr fun e' => ?_
      have e2 : row = some k := by simpa [Value.ownBlock] using e'.symm
      rcases (ht k e2).2 with h3 | ⟨o, ho, hc⟩
      · omega
      · rw [hkb] at ho; cases ho; cases hc
  · exact h.bel.grown hg h.bel.size (fun k e => Nat.le_trans hw (ht k e).1)
theorem WkB.below {w A A' : World} {gb gl base : Nat} {bv u : Int} {a' : Option Addr} {c' : Nat} {zs : List Int} (h : WkB w gb gl base bv u a' c' zs A) (b : Below A.heap.size A A') : WkB w gb gl base bv u a' c' zs A' :=
  ⟨row_below h.un b, row_below h.bs b, row_below h.li b, h.own.kept (row := none) (grown_below b none) (by cases hv : (Value.slice a' zs.length c').ownBlock with | none => exact .inl rfl | some k => exact .inr (fun e => by cases e)), h.bel.trans (b.mono h.bel.size), h.lu, h.lb, h.ll⟩
/-- Behind an append and its store. -/
theorem WkB.app {w W w1 : World} {gb gl base G : Nat} {bv u p : Int} {a' a2 : Option Addr} {c' c2 : Nat} {zs : List Int} {tmp : Obj} (h : WkB w gb gl base bv u a' c' zs W) (hG : G < base) (hGl : gl < G) (hGW : G < W.heap.size)
    (hown : w1.ownsRow base 3 1 (.slice a2 (zs.length + 1) c2) (zs.length + 1) (zs.map (Value.int .i64) ++ [.int .i64 p])) (hgrow : (W.alloc tmp).grownBy w1 (Value.slice a' zs.length c').ownBlock) :
    w1.heap[gl]? = some (.cells #[.slice a' zs.length c'] 28) ∧ WkB w gb gl base bv u a2 c2 (zs ++ [p]) (w1.setCell ⟨gl, 0, none⟩ (.slice a2 (zs.length + 1) c2)) ∧ KpO w.heap.size G W (w1.setCell ⟨gl, 0, none⟩ (.slice a2 (zs.length + 1) c2)) ∧ KeepsOthers W (w1.setCell ⟨gl, 0, none⟩ (.slice a2 (zs.length + 1) c2)) := by
  have lu := h.lu
  have lb := h.lb
  have ll := h.ll
  have hne : ∀ j, j < base → some j ≠ (Value.slice a' zs.length c').ownBlock := fun j hj e => by have := (h.own.lt j e.symm).1; omega
  have get : ∀ j, j < base → j < W.heap.size → w1.heap[j]? = W.heap[j]? := fun j hj hl => (hgrow.block j (by simp; omega) (hne j hj)).trans (Below.heap_alloc W tmp j hl)
  have hgl := (Array.getElem?_eq_some_iff.1 h.li).1
  have r1 := (get gl ll hgl).trans h.li
  have hz := h.bel.size
  have sz1 : W.heap.size ≤ w1.heap.size := Nat.le_trans (by simp) hgrow.size
  have bW : Below w.heap.size W w1 := ⟨hgrow.os, hgrow.tape, hgrow.output, sz1, fun j hj => get j (by omega) (by omega)⟩
  have hl1 : (zs ++ [p]).length = zs.length + 1 := by simp
  refine ⟨r1, ⟨okeep_row (by omega) ((get _ (by omega) (by omega)).trans h.un), okeep_row (by omega) ((get _ (by omega) (by omega)).trans h.bs), ?_, ?_, (h.bel.trans bW).setCell (p := ⟨gl, 0, none⟩) (by show w.heap.size ≤ gl; omega) _, lu, lb, ll⟩, ⟨bW.setCell (p := ⟨gl, 0, none⟩) (by show w.heap.size ≤ gl; omega) _, ?_⟩, ?_⟩
  · rw [hl1]; exact set_row r1 _ (i := 0)
  · rw [hl1]
    have := hown.kept (grown_setCell w1 gl 0 (.slice a2 (zs.length + 1) c2)) (.inr (fun e => by have := (hown.lt gl e).1; omega))
    simpa using this
  · rw [← get G hG hGW]
    simp [World.setCell, Array.getElem?_modify, show gl ≠ G by omega]
  · refine (KeepsOthers.alloc W tmp).trans ((KeepsOthers.of_grownBy hgrow (fun j o e ho => ?_)).trans (KeepsOthers.setCell w1 _ _))
    rcases h.own.2 with ⟨e', _⟩ | ⟨k, cap, cur, e', hk, hkb, _⟩
    · rw [e'] at e; simp [Value.ownBlock] at e
    · rw [e'] at e
      have e2 : k = j := by simpa [Value.ownBlock] using e
      subst e2
      have := (Below.heap_alloc W tmp k (Array.getElem?_eq_some_iff.1 hkb).1).trans hkb
      rw [this] at ho; cases ho; rfl
theorem oinfo_int : (Tryz.prog.info? 3).map (fun i => (i.zero, i.size, i.bytes)) = some (some (.int .i64 0), 1, 8) := by kernel_rfl
abbrev WkS (g gb : Nat) (s b : Int) (W : World) : Prop := W.cell? ⟨g, 1, none⟩ = some (.int .i64 s) ∧ W.cell? ⟨gb, 0, none⟩ = some (.int .i64 b)
theorem wkS_set {g gb j : Nat} {s b : Int} {W : World} {v : Value} (h : WkS g gb s b W) (hg : g ≠ gb) (hj : j ≠ 1) : WkS g gb s b (W.setCell ⟨g, j, none⟩ v) :=
  ⟨(World.cell?_setCell_other W _ _ v (fun e => hj (by cases e; rfl))).trans h.1, (World.cell?_setCell_other W _ _ v (fun e => hg (by cases e; rfl))).trans h.2⟩
set_option maxRecDepth 10000000 in
set_option maxHeartbeats 8000000 in
theorem walk_in (t s : Int) (a : Option Addr) (n c : Nat) (ss : List ByteArray) (L A B : Nat) (xs : List Int) (q b from_ until_ p e : Int) (P0 E K : Nat) (w : World) (h : IsHp w t s a n c ss A B xs) (hL : w.heap[L]? = some (arO A))
    (hb : Hid (atv t s ss 6 q 0 = (b, 0))) (b0 : 0 ≤ b) (b9 : b ≤ 10000) (f0 : 0 ≤ from_) (fu : from_ ≤ until_) (us : until_ ≤ s) (hP : b + from_ = (P0 : Int)) (hE : b + s = (E : Int)) (hEl : E ≤ xs.length) (hK : Go.Ob.Ends (osz xs ss (E : Int)) P0 (b + until_) K) :
    CallsIn Fence.wide 4 Tryz.prog 47 #[objV t s a n c L p e, .int .i64 q, .int .i64 from_, .int .i64 until_] w fun e W' => ∃ v base, e = .returned v ∧ w.heap.size ≤ base ∧ W'.ownsRow base 3 1 v (tol (osz xs ss (E : Int)) P0 K).length ((tol (osz xs ss (E : Int)) P0 K).map (Value.int .i64)) ∧ Below w.heap.size w W' := by
  obtain ⟨t0, t1, s0, s1, hx9⟩ := h.size
  have cb := fun W (bw : Below w.heap.size w W) => Base_at t s q b 0 a n c ss W (h.tab.below (Nat.le_refl _) bw) (h.nums.below bw) hb
  have hfu : (from_ > until_) = False := by simp; omega
  refine callsIn_of_wp_marks Tryz.func47 rfl trivial ?_ rfl
  simp only [Tryz.ntmps47, List.size_toArray, List.length_cons, List.length_nil, Nat.reduceAdd, Nat.reduceSub, Array.replicate_succ, Array.replicate_zero, List.push_toArray, List.append_toArray, List.nil_append, List.cons_append]
  have HH := hid h
  have HLL := hid hL
  clear h hL
  gi_wp2
  refine wpIn_scope_wide ?_
  gi_wp2
  refine ⟨trivial, ?_⟩
  gi_at_call 69
  refine (callsIn_wide.2 (cb _ (bel_two _ _ _))).mono ?_
  rintro e1 w1 ⟨rfl, b1⟩
  have R1 := hid (row2a b1)
  have R2 := hid (row2b b1)
  have B1 := hid (bel2 b1)
  have z1 := siz2 b1
  have u0 := at_row R2.out 0 rfl
  have d1 := at_row R1.out 1 rfl
  have z0 : w.heap.size < w1.heap.size := by omega
  have hfl : decide (from_ < 0) = false := by simp; omega
  clear b1 cb
  gi_wp2
  have RB := hid (heap_alloc_last w1 (.cells #[.int .i64 b] 3))
  have R1' := hid (row_below R1.out (below_alloc0 w1 (.cells #[.int .i64 b] 3)))
  have R2' := hid (row_below R2.out (below_alloc0 w1 (.cells #[.int .i64 b] 3)))
  have B2 := hid (B1.out.trans ((below_alloc0 w1 (.cells #[.int .i64 b] 3)).mono B1.out.size))
  have hne : w.heap.size ≠ w1.heap.size := by omega
  have hgb : w.heap.size + 1 < w1.heap.size := z1
  have hsz : (w1.alloc (.cells #[.int .i64 b] 3)).heap.size = w1.heap.size + 1 := size_alloc _ _
  clear R1 R2 B1 z1 z0 u0 d1
  generalize w1.alloc (.cells #[.int .i64 b] 3) = W at *
  generalize w1.heap.size = gb at *
  have HS := hid (show WkS w.heap.size gb s b W from ⟨at_row R1'.out 1 rfl, at_row RB.out 0 rfl⟩)
  have c4 := at_row R1'.out 4 rfl
  have c5 := at_row R1'.out 5 rfl
  have f4 := fz_row R1'.out 4
  have f5 := fz_row R1'.out 5
  have HP := hid hP
  have HE := hid hE
  have b1 : b + from_ ≤ 20000 := by omega
  have b2 : b + s ≤ 20000 := by omega
  clear hP hE
  refine wpIn_wide.2 ?_
  go_region_held3 (WkS w.heap.size gb s b) (first | assumption | exact HS.out | (refine wkS_set ?_ hne (by decide); first | assumption | exact HS.out)) (fail)
  have hw1 : IntKind.i64.wrap (b + from_) = (P0 : Int) := by rw [IntWalk.i64_in _ ⟨by omega, by omega⟩, HP.out]
  have hw2 : IntKind.i64.wrap (b + s) = (E : Int) := by rw [IntWalk.i64_in _ ⟨by omega, by omega⟩, HE.out]
  rw [hw1, hw2]
  have Rg := row_drew (set_row (set_row R1'.out (.int .i64 (P0 : Int)) (i := 4)) (.int .i64 (E : Int)) (i := 5))
  have R2n := row_drew (okeep_row (i := 5) (v := .int .i64 (E : Int)) (show w.heap.size + 1 ≠ w.heap.size by omega) (okeep_row (i := 4) (v := .int .i64 (P0 : Int)) (show w.heap.size + 1 ≠ w.heap.size by omega) R2'.out))
  have RBn := row_drew (okeep_row (i := 5) (v := .int .i64 (E : Int)) (show gb ≠ w.heap.size by omega) (okeep_row (i := 4) (v := .int .i64 (P0 : Int)) (show gb ≠ w.heap.size by omega) RB.out))
  have B3 := hid ((two_sets B2.out (by omega) (.int .i64 (P0 : Int)) (.int .i64 (E : Int)) (i := 4) (j := 5) (g := w.heap.size)).drew)
  have hsz3 : (((W.setCell ⟨w.heap.size, 4, none⟩ (.int .i64 (P0 : Int))).setCell ⟨w.heap.size, 5, none⟩ (.int .i64 (E : Int))).drew).heap.size = gb + 1 := by rw [← hsz]; simp [World.setCell, World.drew]
  clear hw1 hw2 c4 c5 f4 f5 HS RB R1' R2' B2 hsz
  rename_i hH
  clear hH
  generalize ((W.setCell ⟨w.heap.size, 4, none⟩ (.int .i64 (P0 : Int))).setCell ⟨w.heap.size, 5, none⟩ (.int .i64 (E : Int))).drew = W3 at *
  have HRg := hid Rg
  have HR2 := hid R2n
  have HRB := hid RBn
  have HZ3 := hid hsz3
  have d0 := at_row Rg 0 rfl
  have d1 := at_row Rg 1 rfl
  have d2 := at_row Rg 2 rfl
  have d3 := at_row Rg 3 rfl
  have d4 := at_row Rg 4 rfl
  have d5 := at_row Rg 5 rfl
  have zz : w.heap.size < W3.heap.size := by omega
  clear Rg R2n RBn hsz3
  gi_wp2
  refine wpIn_label ?_
  gi_wp2
  refine ⟨trivial, ?_⟩
  gi_at_call 70
  refine (callsIn_wide.2 (onward_any _ _ _ _ _ _ _ _ _)).mono ?_
  rintro e4 w4 ⟨rfl, rfl⟩
  gi_wp2
  obtain ⟨Ll, LG, Lz, LB⟩ := boxes2 W3 (.cells #[.slice none 0 0] 28) (objO t s a n c L (P0 : Int) (E : Int))
  have HLl := hid Ll
  have HLG := hid LG
  have HLz := hid Lz
  have HLB := hid LB
  clear Ll LG Lz LB
  generalize (W3.alloc (.cells #[.slice none 0 0] 28)).alloc (objO t s a n c L (P0 : Int) (E : Int)) = W5 at *
  have HB5 := hid (B3.out.trans (HLB.out.mono B3.out.size))
  have HX := hid hEl
  have HE2 := hid hK
  have Ip := HH.out
  have hst : WkB w gb W3.heap.size (W5.heap.size + 3) b until_ none 0 [] W5 := ⟨row_below HR2.out HLB.out, row_below HRB.out HLB.out, HLl.out, World.ownsRow_nil _ _ _ _, HB5.out, by have := HZ3.out; omega, by have := HZ3.out; omega, by have := HLz.out; omega⟩
  have HST := hid hst
  have hGz : W3.heap.size < W5.heap.size := by have := HLz.out; omega
  have hwz : w.heap.size ≤ W5.heap.size := HB5.out.size
  clear hst d0 d1 d2 d3 d4 d5 Ip
  refine wpIn_rangeFunc_boxed (Q := _) (Kp := KpO w.heap.size (W5.heap.size + 2)) rfl (by decide) (gf := 85) (lb := #[.pointer (some ⟨W3.heap.size + 1, 0, none⟩)]) rfl trivial (enters_of Tryz.func85 (by kernel_rfl) rfl)
    (onward_owns 3 (by omega) (W3.heap.size + 1) L A B t s a n c ss xs P0 E (W5.heap.size + 2) w W5 HH.out HLL.out HB5.out HLG.out HX.out) kpO_t
    (fun W o' => ⟨⟨rfl, rfl, rfl, by simp, fun k hk => World.putObj_heap_other (by omega)⟩, World.putObj_heap_other (by omega)⟩)
    (fun W o hW => ⟨(below_alloc0 W o).mono (by omega), Below.heap_alloc W o _ hW⟩) (Below.refl _ _) (fun _ => rfl)
    (fun pre W => (∀ x ∈ pre, ((x % E : Nat) : Int) < b + until_) ∧ pre.length ≤ E ∧ ∃ a' c', WkB w gb W3.heap.size (W5.heap.size + 3) b until_ a' c' (twd (osz xs ss (E : Int)) E pre) W)
    (fun c pre W => c = .exit 0 ∧ ∃ pre' x, pre = pre' ++ [x] ∧ (∀ x ∈ pre', ((x % E : Nat) : Int) < b + until_) ∧ b + until_ ≤ ((x % E : Nat) : Int) ∧ ∃ a' c', WkB w gb W3.heap.size (W5.heap.size + 3) b until_ a' c' (twd (osz xs ss (E : Int)) E pre') W)
    ?sI ?sX ⟨fun x hx => by simp at hx, by simp, none, 0, HST.out⟩
    (fun x => objC t s a n c L ((x % E : Nat) : Int) (E : Int)) 69 ?a1 ?assign ?body ?done ?stop
  case sI =>
    rintro pre A A' row ⟨h1, h2, a', c', h3⟩ hg ht
    exact ⟨h1, h2, a', c', h3.stays hg ht hGz hwz (by omega)⟩
  case sX =>
    rintro cc pre A A' row ⟨h1, pre', x, h2, h3, h4, a', c', h5⟩ hg ht
    exact ⟨h1, pre', x, h2, h3, h4, a', c', h5.stays hg ht hGz hwz (by omega)⟩
  case assign =>
    intro l x W K hK
    have hk := hK _ rfl
    clear hK
    dsimp only [encO]
    generalize hp : ((x % E : Nat) : Int) = pp at *
    gi_wp2
    subst hp
    revert hk
    generalize W.heap.size = g
    intro hk
    exact hk
  case body =>
    rintro l pre x g W ⟨hall, hlen, a', c', hA⟩ hit hgG hGW hlt
    have HA := hid hA
    have hp : x % E < E := Nat.mod_lt _ (by omega)
    obtain ⟨z, HZ⟩ : ∃ z, Hid (osz xs ss (E : Int) ((x % E : Nat) : Int) = z) := ⟨_, hid rfl⟩
    have hz0 := osz_le xs ss (E : Int) ((x % E : Nat) : Int)
    rw [HZ.out] at hz0
    have HH1 := hid (fun (h0 : 0 < osz xs ss (E : Int) ((x % E : Nat) : Int)) => twd_hit (f := osz xs ss (E : Int)) (E := E) (x := x) pre h0)
    have HM1 := hid (fun (h0 : ¬ 0 < osz xs ss (E : Int) ((x % E : Nat) : Int)) => twd_miss (f := osz xs ss (E : Int)) (E := E) (x := x) pre h0)
    rw [HZ.out] at HH1 HM1
    have hE9 : (E : Int) ≤ 20000 := by omega
    have cw := words_any t s a n c ss L A B xs (x % E) (E : Int) z W (HH.out.below hA.bel) (row_below HLL.out hA.bel) (by omega) (by omega) hE9 HZ
    have HLE := hid (show (pre ++ [x]).length ≤ E by simp; omega)
    have HALL := hid hall
    have htl := twd_le (osz xs ss (E : Int)) E pre
    have HIX : Hid (b + until_ ≤ ((x % E : Nat) : Int) → ∃ pre' x', pre ++ [x] = pre' ++ [x'] ∧ (∀ y ∈ pre', ((y % E : Nat) : Int) < b + until_) ∧ b + until_ ≤ ((x' % E : Nat) : Int) ∧ ∃ a' c', WkB w gb W3.heap.size (W5.heap.size + 3) b until_ a' c' (twd (osz xs ss (E : Int)) E pre') W) := hid fun hh => ⟨pre, x, rfl, hall, hh, a', c', hA⟩
    have HAN : Hid (((x % E : Nat) : Int) < b + until_ → ∀ y ∈ pre ++ [x], ((y % E : Nat) : Int) < b + until_) := hid fun hh y hy => by
      rcases List.mem_append.1 hy with h1 | h1
      · exact hall y h1
      · simp at h1; subst h1; exact hh
    generalize x % E = pp at *
    have pp0 : (0 : Int) ≤ (pp : Int) := by omega
    have pp9 : (pp : Int) ≤ 20000 := by omega
    have i0 := at_row hit 0 rfl
    have i1 := at_row hit 1 rfl
    have i2 := at_row hit 2 rfl
    have i3 := at_row hit 3 rfl
    have i4 := at_row hit 4 rfl
    have i5 := at_row hit 5 rfl
    have k1 := at_row hA.un 0 rfl
    have k2 := at_row hA.bs 0 rfl
    have k3 := at_row hA.li 0 rfl
    have bu : b + until_ ≤ 20000 := by omega
    have bu0 : 0 ≤ b + until_ := by omega
    have hgl3 : W3.heap.size < W.heap.size := by omega
    clear hA hall hit HST
    by_cases hge : b + until_ ≤ (pp : Int)
    · gi_wp2
      exact ⟨(KeepsOthers.refl W).from _, rfl, HIX.out hge⟩
    · have hge' : (pp : Int) < b + until_ := by omega
      have HAN2 := hid (HAN.out hge')
      clear hge HAN
      have HKO : Hid (∀ w6, Below W.heap.size W w6 → KeepsOthers W w6 ∧ KpO w.heap.size (W5.heap.size + 2) W w6) := hid fun w6 b6 => ⟨KeepsOthers.of_grownBy (row := none) (grown_below b6 none) (fun j o e _ => by cases e), b6.mono (by have := HA.out.bel.size; omega), b6.block _ hGW⟩
      by_cases hzp : 0 < z
      · have HTW := hid (HH1.out hzp)
        have zne : z ≠ 0 := by omega
        clear HH1 HM1 HIX
        generalize twd (osz xs ss (E : Int)) E pre = ZS at *
        gi_wp2_with (refine ⟨trivial, ?_⟩; gi_at_call 71; refine (callsIn_wide.2 cw).mono ?_)
        rintro e6 w6 ⟨rfl, b6⟩
        have HA6 := hid (HA.out.below b6)
        have HK6 := hid (HKO.out w6 b6)
        have k36 := at_row HA6.out.li 0 rfl
        have i46 := hcell_below i4 b6
        have hs6 := b6.size
        obtain ⟨ii, hi, hzz0, hzz1, hzz2⟩ := info_parts oinfo_int
        have HOW := hid HA6.out.own
        obtain ⟨VS, hVS⟩ : ∃ VS, VS = ZS.map (Value.int .i64) := ⟨_, rfl⟩
        rw [← hVS] at HOW
        have HVS := hid hVS
        clear k1 k2 k3 i0 i1 i2 i3 i4 i5 b6 cw hVS
        gi_wp2_with (gi_at_builtin; refine wpListIn_append_own _ rfl _ _ 28 rfl (W5.heap.size + 3) 3 ii (.int .i64 0) 1 8 Tryz.underlying28 hi hzz0 hzz1 hzz2 rfl (by decide) (.slice a' ZS.length c') ZS.length VS rfl (HOW.out.alloc _) ⟨w6.heap.size, 0, none⟩ 1 1 [.int .i64 (pp : Int)] rfl rfl (cell_one_new _ _ _) (by simp [Value.oneCell']) (by unfold maxLen; omega) (by omega) (by simp; omega) ?_; intro v' w7 hown hgrow _; obtain ⟨g', cap', rfl⟩ := ownsRow_succ hown; have happ := hid (HA6.out.app (G := W5.heap.size + 2) (p := (pp : Int)) (by omega) (by omega) (by omega) (by rw [← HVS.out]; exact hown) hgrow); have hc3 := at_row happ.out.1 0 rfl; have hf3 := fz_row happ.out.1 0; clear hown hgrow k36)
        refine ⟨(HK6.out.1.trans happ.out.2.2.2).from _, kpO_t HK6.out.2 happ.out.2.2.1, HAN2.out, HLE.out, some ⟨g', 0, none⟩, cap', ?_⟩
        rw [HTW.out]
        have := happ.out.2.1
        simpa using this
      · have hz3 : z = 0 := by omega
        subst hz3
        have HTW := hid (HM1.out (by omega))
        clear HH1 HM1 HIX hzp
        gi_wp2_with (refine ⟨trivial, ?_⟩; gi_at_call 71; refine (callsIn_wide.2 cw).mono ?_)
        rintro e6 w6 ⟨rfl, b6⟩
        have HA6 := hid (HA.out.below b6)
        have HK6 := hid (HKO.out w6 b6)
        clear b6 k1 k2 k3 i0 i1 i2 i3 i4 i5 cw
        gi_wp2
        exact ⟨HK6.out.1.from _, HK6.out.2, HAN2.out, HLE.out, _, _, by rw [HTW.out]; exact HA6.out⟩
  case done =>
    rintro D ys W hD ⟨K', hK', rfl⟩ ⟨hall, hlen, a', c', hA⟩ hKd
    have hm := fun j (hj : j < K') => vis_mod (hK'.2 j hj)
    have hKK : K = K' := by
      refine hK.uniq ⟨by have := hK'.1; have := HE.out; omega, fun j hj => ?_⟩
      rw [← hm j hj]
      exact hall _ (by simp only [visL, List.mem_map, List.mem_range]; exact ⟨j, hj, rfl⟩)
    have htw := twd_visL (osz xs ss (E : Int)) P0 E K' hK'.2
    subst hKK
    rw [htw] at hA
    have k3 := at_row hA.li 0 rfl
    have HA := hid hA
    clear hA htw hall hK' hm hlen HST
    gi_wp2
    refine ⟨by simp, .inl ⟨_, _, rfl, run_takeDeferred hKd, ?_⟩⟩
    exact ⟨_, results_tmp rfl _ _ _, _, W5.heap.size + 3, rfl, by omega, ownsRow_putObj HA.out.own _ hKd rfl, HA.out.bel.trans (belowK_b (w := w) (Nat.le_refl _) W D _ _ (by omega) hKd rfl rfl)⟩
  case stop =>
    rintro D cc pre W hD ⟨k, hk, rfl⟩ ⟨rfl, pre', x, hpx, hall, hxx, a', c', hA⟩ hKd
    cases k with
    | zero => simp [visL] at hpx
    | succ k =>
      rw [visL_succ] at hpx
      obtain ⟨rfl, hx1⟩ := List.append_inj' hpx rfl
      have hx2 : (vis (osz xs ss (E : Int)) P0 k).toNat = x := by simpa using hx1
      have hm := fun j (hj : j < k + 1) => vis_mod (hk j hj)
      rw [← hx2, hm k (by omega)] at hxx
      have hKK : K = k := by
        refine hK.uniq ⟨hxx, fun j hj => ?_⟩
        rw [← hm j (by omega)]
        exact hall _ (by simp only [visL, List.mem_map, List.mem_range]; exact ⟨j, hj, rfl⟩)
      have htw := twd_visL (osz xs ss (E : Int)) P0 E k (fun j hj => hk j (by omega))
      subst hKK
      rw [htw] at hA
      have k3 := at_row hA.li 0 rfl
      have HA := hid hA
      clear hA htw hall hk hm hpx hx1 hx2 hxx HST
      gi_wp2
      refine ⟨by simp, .inl ⟨_, _, rfl, run_takeDeferred hKd, ?_⟩⟩
      exact ⟨_, results_tmp rfl _ _ _, _, W5.heap.size + 3, rfl, by omega, ownsRow_putObj HA.out.own _ hKd rfl, HA.out.bel.trans (belowK_b (w := w) (Nat.le_refl _) W D _ _ (by omega) hKd rfl rfl)⟩
end Go.Proofs.YtldfmlkjeniemaaGreatDoor
