/- package graph: New. -/
import Derived.Test.YtlkhmfmocegekaaDoorGrQ
set_option linter.unusedVariables false
namespace Go.Gr
/-- A graph without objects. -/
def bare0 (ss : List ByteArray) (n : Nat) : Gr := { ss := ss, rt := List.replicate n [0, 0, 0, 0, 0, 0], sh := [], fl := [] }
/-- .. with its first object, which so many threads have. -/
def startG (ss : List ByteArray) (n k : Nat) : Gr := { ss := ss, rt := List.replicate k [1, 0, 0, 0, 0, 0] ++ List.replicate (n - k) [0, 0, 0, 0, 0, 0], sh := [0], fl := [List.replicate (Sh.at' ss 0).size 0] }
theorem bare0_new (ss : List ByteArray) (n : Nat) : (bare0 ss n).new 0 = startG ss n 0 := by simp [bare0, startG, Gr.new]
theorem start_end (ss : List ByteArray) (n : Nat) : startG ss n n = first ss n := by simp [startG, first]
theorem start_set (ss : List ByteArray) (n k : Nat) (h : k < n) : (startG ss n k).setS k 0 1 = startG ss n (k + 1) := by
  have hr : (startG ss n k).row k = [0, 0, 0, 0, 0, 0] := by
    simp only [startG, Gr.row, List.getD_eq_getElem?_getD]
    rw [List.getElem?_append_right (by simp), List.length_replicate, Nat.sub_self, List.getElem?_replicate, if_pos (by omega)]
    rfl
  unfold Gr.setS
  rw [hr]
  have : (List.replicate k [1, 0, 0, 0, 0, 0] ++ List.replicate (n - k) [0, 0, 0, 0, 0, 0]).set k [1, 0, 0, 0, 0, 0] = (List.replicate (k + 1) [1, 0, 0, 0, 0, 0] ++ List.replicate (n - (k + 1)) [0, 0, 0, 0, 0, 0] : List (List Nat)) := by
    rw [List.set_append_right _ _ (by simp), List.length_replicate, Nat.sub_self, show n - k = (n - (k + 1)) + 1 by omega, List.replicate_succ, List.set_cons_zero, List.replicate_succ', List.append_assoc]
    rfl
  show ({ startG ss n k with rt := _ } : Gr) = _
  simp only [startG, List.set_cons_zero]
  rw [this]
theorem bare0_ok {ss : List ByteArray} {n : Nat} (h : Sh.right ss = true) (h1 : 1 ≤ n) (h8 : n ≤ 8) : (bare0 ss n).Ok where
  rgt := h
  len := rfl
  big := by simp [bare0]
  shs := fun x a b => by simp [bare0, Gr.m] at b; omega
  fls := fun x a b => by simp [bare0, Gr.m] at b; omega
  six := fun t ht => by
    simp only [bare0, List.length_replicate] at ht
    simp [bare0, Gr.row, List.getD_eq_getElem?_getD, ht]
  slo := fun t s => by
    simp only [bare0, Gr.slot, Gr.row, Gr.m, List.getD_eq_getElem?_getD, List.getElem?_replicate]
    split
    · rcases s with _ | _ | _ | _ | _ | _ | s <;> simp
    · simp
  ptr := fun x f a b => by simp [bare0, Gr.m] at b; omega
  bnd := fun x f => by simp [bare0, Gr.fld, Gr.fls]
  thr := by simp [bare0]; omega
theorem bare0_slot (ss : List ByteArray) (n t s : Nat) : (bare0 ss n).slot t s = 0 := by
  simp only [bare0, Gr.slot, Gr.row, List.getD_eq_getElem?_getD, List.getElem?_replicate]
  split
  · rcases s with _ | _ | _ | _ | _ | _ | s <;> simp
  · simp
end Go.Gr
namespace Go.Proofs.YtlkhmfmocegekaaDoor
open Go.RowKit Go.Gr Go.Sh Go.Oq Go.Ly
theorem ginfo_slots : (Tryd.prog.info? 63).map (fun i => (i.zero, i.size, i.bytes)) = some (some (.agg #[.pointer none, .pointer none, .pointer none, .pointer none, .pointer none, .pointer none]), 6, 48) := by kernel_rfl
abbrev nils (n : Nat) : Array Value := madeCells #[.pointer none, .pointer none, .pointer none, .pointer none, .pointer none, .pointer none] (n * 6)
theorem nils_get (n i : Nat) (h : i < n * 6) : (nils n)[i]? = some (.pointer none) := by
  have hm : i % 6 < 6 := Nat.mod_lt _ (by decide)
  have h6 : i % 6 = 0 ∨ i % 6 = 1 ∨ i % 6 = 2 ∨ i % 6 = 3 ∨ i % 6 = 4 ∨ i % 6 = 5 := by omega
  simp only [nils, madeCells, Array.getElem?_map, Array.getElem?_range, h, if_true, Option.map_some]
  have hsz : (#[Value.pointer none, Value.pointer none, Value.pointer none, Value.pointer none, Value.pointer none, Value.pointer none] : Array Value).size = 6 := rfl
  rw [hsz]
  rcases h6 with e | e | e | e | e | e <;> rw [e] <;> rfl
theorem make_slots (n : Nat) (h : n ≤ 8) (u : World) : (Instr.makeSlice 46 (.int .i64 (n : Int)) (.int .i64 (n : Int))).run Tryd.prog u = .ok (.slice (some ⟨u.heap.size, 0, none⟩) n n) (u.alloc (.cells (nils n) 63)) := by
  obtain ⟨i0, hi, hz0, hz1, hz2⟩ := info_parts ginfo_slots
  have := run_make (P := Tryd.prog) u 46 63 i0 _ Tryd.underlying46 hi hz0 .i64 .i64 n n (by omega) (Int.le_refl _) (by rw [hz2]; omega) (by omega)
  rw [hz1] at this
  simpa [Value.cells] using this
/-- Where a graph without objects lies. -/
abbrev gh0 (G R S : Nat) (sp : Int) (sc : Nat) : Gh := ⟨G, R, S, sp, sc, fun _ => 0, fun _ => none, fun _ => False⟩
theorem bare_rts (G R S : Nat) (sp : Int) (sc : Nat) (ss : List ByteArray) (n : Nat) (hr : right ss = true) (h1 : 1 ≤ n) (h8 : n ≤ 8) : rtsC (gh0 G R S sp sc) (bare0 ss n) = nils n := by
  have ok := bare0_ok hr h1 h8
  have hl : (bare0 ss n).rt.length = n := by simp [bare0]
  apply Array.ext_getElem?
  intro i
  by_cases hi : i < 6 * n
  · obtain ⟨t, s, ht, hs, rfl⟩ : ∃ t s, t < n ∧ s < 6 ∧ i = 6 * t + s := ⟨i / 6, i % 6, by omega, by omega, by omega⟩
    rw [rtsC_get _ _ ok t s (by omega) hs, bare0_slot, nils_get n _ (by omega)]
    rfl
  · rw [Array.getElem?_eq_none (by rw [rtsC_size _ _ ok, hl]; omega), Array.getElem?_eq_none (by rw [size_madeCells]; omega)]
theorem isG_bare {W : World} {G R S : Nat} {t s : Int} {sc n : Nat} {ss : List ByteArray} (hr : right ss = true) (h1 : 1 ≤ n) (h8 : n ≤ 8) (ht : t = (n : Int)) {cur : Array Value}
    (hface : W.heap[G]? = some (.cells #[.int .i64 t, .int .i64 s, .slice (some ⟨S, 0, none⟩) ss.length sc, .slice (some ⟨R, 0, none⟩) n n, .int .i64 0] 48))
    (hR : W.heap[R]? = some (.cells (nils n) 63)) (hS : W.heap[S]? = some (.cells cur 49)) (hc : cur.toList.take ss.length = txs ss) : IsG W (gh0 G R S s sc) (bare0 ss n) := by
  subst ht
  have hl : (bare0 ss n).rt.length = n := by simp [bare0]
  refine ⟨bare0_ok hr h1 h8, ?_, ⟨cur, hS, fun i hi => ?_⟩, ?_, fun t s h0 => absurd (bare0_slot _ _ _ _) h0, fun x hx => hx.elim, fun x y hx => hx.elim, fun x y F hx => hx.elim⟩
  · rw [hface]
    unfold faceC
    rw [hl]
    rfl
  · have hi' : i < ss.length := hi
    have e1 : (cur.toList.take ss.length)[i]? = some (.string (at' ss i)) := by
      rw [hc, txs, List.getElem?_map, List.getElem?_eq_getElem hi', at', List.getD_eq_getElem?_getD, List.getElem?_eq_getElem hi']; rfl
    rw [List.getElem?_take_of_lt hi', Array.getElem?_toList] at e1
    exact e1
  · rw [bare_rts _ _ _ _ _ ss n hr h1 h8]; exact hR
end Go.Proofs.YtlkhmfmocegekaaDoor
/- package graph: New: the walk. -/
set_option linter.unusedVariables false
namespace Go.Proofs.YtlkhmfmocegekaaDoor
open Go.RowKit Go.Gr Go.Sh Go.Oq Go.Ly
abbrev PS (b : Nat) (t s : Int) (a : Option Addr) (n c : Nat) (W : World) : Prop := W.cell? ⟨b, 0, none⟩ = some (.int .i64 t) ∧ W.cell? ⟨b, 1, none⟩ = some (.int .i64 s) ∧ W.cell? ⟨b, 2, none⟩ = some (.slice a n c)
theorem pS_row {b : Nat} {t s : Int} {a : Option Addr} {n c : Nat} {W : World} (h : W.heap[b]? = some (.cells #[.int .i64 t, .int .i64 s, .slice a n c] 24)) : PS b t s a n c W := ⟨at_row h 0 rfl, at_row h 1 rfl, at_row h 2 rfl⟩
theorem pS_bel {b : Nat} {t s : Int} {a : Option Addr} {n c : Nat} {W W' : World} (h : PS b t s a n c W) (hb : Below W.heap.size W W') : PS b t s a n c W' := ⟨hcell_below' h.1 hb, hcell_below' h.2.1 hb, hcell_below' h.2.2 hb⟩
set_option maxRecDepth 100000 in
theorem New_no (t s : Int) (a : Option Addr) (n c : Nat) (ss : List ByteArray) (w : World) (hT : IsTab w (.slice a n c) ss) (hr : rgt t s ss = false) :
    Calls Tryd.prog 5 #[planV t s a n c] w fun e W => e = .returned (.tuple #[.pointer none, .int .i64 2]) ∧ Below w.heap.size w W := by
  have cc := fun O => Check_at t s a n c ss (w.alloc O) false (hT.below (Nat.le_refl _) (below_alloc0 w O)) (hid hr)
  clear hT hr
  go_enter Tryd.func5, Tryd.ntmps5
  go_wp2_with (go_at_call 15; refine (cc _).mono ?_; rintro e w1 ⟨rfl, b1⟩)
  go_ret2
  exact ⟨rfl, bel1 b1⟩
theorem start_len (ss : List ByteArray) (n k : Nat) (h : k ≤ n) : (startG ss n k).rt.length = n := by simp [startG]; omega
theorem IsG.rootsc {W : World} {γ : Gh} {g : Gr} (h : IsG W γ g) {N : Nat} (hn : g.rt.length = N) : W.cell? ⟨γ.G, 3, none⟩ = some (.slice (some ⟨γ.R, 0, none⟩) N N) := by
  subst hn
  exact at_row h.face 3 rfl
/-- What the first region leaves: a graph without objects. -/
def NewI (w : World) (s : Int) (ss : List ByteArray) (n : Nat) (p : Value) (W : World) : Prop := ∃ G R S sc, p = .pointer (some ⟨G, 0, none⟩) ∧ IsG W (gh0 G R S s sc) (bare0 ss n) ∧ Below w.heap.size w W ∧ w.heap.size ≤ G ∧ w.heap.size ≤ R ∧ w.heap.size ≤ S
theorem newI_a {w W w3 : World} {t s : Int} {ss : List ByteArray} {n : Nat} {v : Value} (hr : right ss = true) (h1 : 1 ≤ n) (h8 : n ≤ 8) (ht : t = (n : Int)) (b1 : Below w.heap.size w W) (hown : w3.ownsRow W.heap.size 49 1 v ss.length (txs ss)) (b3 : Below W.heap.size W w3) :
    NewI w s ss n (.pointer (some ⟨w3.heap.size + 1, 0, none⟩)) ((w3.alloc (.cells (nils n) 63)).alloc (.cells #[.int .i64 t, .int .i64 s, v, .slice (some ⟨w3.heap.size, 0, none⟩) n n, .int .i64 0] 48)) := by
  have hl := (right_len hr).1
  rcases hown.2 with ⟨_, h0⟩ | ⟨S, sc, cur, rfl, hlo, hrow, _, _, _, htk⟩
  · omega
  · have hb := gbel2 w3 (.cells (nils n) 63) (.cells #[.int .i64 t, .int .i64 s, .slice (some ⟨S, 0, none⟩) ss.length sc, .slice (some ⟨w3.heap.size, 0, none⟩) n n, .int .i64 0] 48)
    have hs1 := b1.size
    have hs3 := b3.size
    rw [Nat.mul_one] at htk
    refine ⟨w3.heap.size + 1, w3.heap.size, S, sc, rfl, isG_bare hr h1 h8 ht (by have := row2b (Below.refl _ ((w3.alloc (.cells (nils n) 63)).alloc (.cells #[.int .i64 t, .int .i64 s, .slice (some ⟨S, 0, none⟩) ss.length sc, .slice (some ⟨w3.heap.size, 0, none⟩) n n, .int .i64 0] 48))); exact this) (row2a (Below.refl _ _)) ((hb.block S (row_lt hrow)).trans hrow) htk, b1.trans ((b3.trans (hb.mono hs3)).mono hs1), by omega, by omega, by omega⟩
theorem newI_b {w W w3 : World} {t s : Int} {ss : List ByteArray} {n : Nat} {v : Value} (hr : right ss = true) (h1 : 1 ≤ n) (h8 : n ≤ 8) (ht : t = (n : Int)) (b1 : Below w.heap.size w W) (hown : w3.ownsRow (W.alloc (.cells (nils n) 63)).drew.heap.size 49 1 v ss.length (txs ss)) (b3 : Below (W.alloc (.cells (nils n) 63)).heap.size (W.alloc (.cells (nils n) 63)) w3) :
    NewI w s ss n (.pointer (some ⟨w3.heap.size, 0, none⟩)) (w3.alloc (.cells #[.int .i64 t, .int .i64 s, v, .slice (some ⟨W.heap.size, 0, none⟩) n n, .int .i64 0] 48)) := by
  have hl := (right_len hr).1
  have hz : (W.alloc (.cells (nils n) 63)).drew.heap.size = W.heap.size + 1 := size_alloc W _
  rw [hz] at hown
  rcases hown.2 with ⟨_, h0⟩ | ⟨S, sc, cur, rfl, hlo, hrow, _, _, _, htk⟩
  · omega
  · have hb := below_alloc0 w3 (.cells #[.int .i64 t, .int .i64 s, .slice (some ⟨S, 0, none⟩) ss.length sc, .slice (some ⟨W.heap.size, 0, none⟩) n n, .int .i64 0] 48)
    have hs1 := b1.size
    have hs3 := b3.size
    have hR := (b3.block W.heap.size (by simp)).trans (heap_alloc_last W _)
    rw [Nat.mul_one] at htk
    simp at hs3
    have bb := (below_alloc0 W (.cells (nils n) 63)).trans (b3.mono (by simp))
    refine ⟨w3.heap.size, W.heap.size, S, sc, rfl, isG_bare hr h1 h8 ht (heap_alloc_last w3 _) ((hb.block _ (row_lt hR)).trans hR) ((hb.block S (row_lt hrow)).trans hrow) htk, b1.trans ((bb.trans (hb.mono (by omega))).mono hs1), by omega, by omega, by omega⟩
set_option maxRecDepth 100000 in
set_option maxHeartbeats 4000000 in
theorem New_ok (t s : Int) (a : Option Addr) (n c : Nat) (ss : List ByteArray) (w : World) (hT : IsTab w (.slice a n c) ss) (hr : rgt t s ss = true) :
    Calls Tryd.prog 5 #[planV t s a n c] w fun e W => ∃ γ, e = .returned (.tuple #[.pointer (some ⟨γ.G, 0, none⟩), .int .i64 0]) ∧ IsG W γ (first ss t.toNat) ∧ Below w.heap.size w W ∧ (∀ b, foot γ b → w.heap.size ≤ b) ∧ w.heap.size ≤ γ.S ∧ γ.sp = s := by
  obtain ⟨_, _, hlv⟩ := hT.len
  have hln : n = ss.length := by injection hlv
  subst hln
  have cc := fun O => Check_at t s a ss.length c ss (w.alloc O) true (hT.below (Nat.le_refl _) (below_alloc0 w O)) (hid hr)
  obtain ⟨t1, t8, _, _, hrr⟩ := rgt_yes hr
  obtain ⟨N, hN⟩ := int_nat (x := t) (by omega)
  have HR := hid hrr
  have hN1 : 1 ≤ N := by omega
  have hN8 : N ≤ 8 := by omega
  have HT := hid hT
  have hmk := make_slots N hN8
  rw [← hN] at hmk
  have HN := hid hN
  clear hr hT hrr hN
  go_enter Tryd.func5, Tryd.ntmps5
  go_wp2_with (go_at_call 15; refine (cc _).mono ?_; rintro e w1 ⟨rfl, b1⟩; have hr1 := row1 b1; have p0 := at_row hr1 0 rfl; have p1 := at_row hr1 1 rfl; have p2 := at_row hr1 2 rfl)
  have B1 := hid (bel1 b1)
  have HT1 := hid (HT.out.below (Nat.le_refl _) B1.out)
  have HD := hid (pS_bel (pS_row hr1) (Below.refl _ _).drew)
  have HE := hid (show PS w.heap.size t s a ss.length c (w1.alloc (.cells (nils N) 63)).drew from pS_bel (pS_row hr1) (below_alloc0 _ _).drew)
  have cP := fun W (b_ : Below w1.heap.size w1 W) => planOf_at t s a ss.length c ss W (HT1.out.below (Nat.le_refl _) b_) HR.out
  clear b1 hr1 p0 p1 p2 cc
  go_region_held3 (PS w.heap.size t s a ss.length c) (with_reducible (first | assumption | exact HD.out | exact pS_bel HD.out b3 | exact pS_bel (pS_bel HD.out b3) (below_alloc0 _ _) | exact pS_bel (pS_bel (pS_bel HD.out b3) (below_alloc0 _ _)) (below_alloc0 _ _) | exact HE.out | exact pS_bel HE.out b3 | exact pS_bel (pS_bel HE.out b3) (below_alloc0 _ _))) (first | (go_at_call 16; refine (cP _ ?hb1).mono ?_; (case hb1 => first | exact (Below.refl _ _).drew | exact (below_alloc0 _ _).drew | exact (Below.refl _ _).drew.trans (below_alloc0 _ _)); rintro e w3 ⟨v, rfl, hown, b3⟩))
  all_goals
    first
      | (have HI := newI_a (s := s) HR.out hN1 hN8 HN.out B1.out hown (bel_undrew b3); clear hown b3; revert HI; generalize w3.heap.size + 1 = G0; generalize w3.heap.size = R0; generalize World.alloc _ _ = W5; intro HI)
      | (have HI := newI_b (s := s) HR.out hN1 hN8 HN.out B1.out hown ⟨b3.os, b3.tape, b3.output, b3.size, b3.block⟩; clear hown b3; revert HI; generalize w3.heap.size = G0; generalize World.alloc w3 _ = W5; intro HI)
  all_goals
    have HP : ∃ R S sc, Hid (IsG W5 (gh0 G0 R S s sc) (bare0 ss N)) ∧ Hid (Below w.heap.size w W5) ∧ Hid (w.heap.size ≤ G0 ∧ w.heap.size ≤ R ∧ w.heap.size ≤ S) := by
      obtain ⟨G', R, S, sc, hp, hI, b5, q1, q2, q3⟩ := HI
      have : G0 = G' := by injection hp with hp; injection hp with hp; injection hp
      subst this
      exact ⟨R, S, sc, hid hI, hid b5, hid ⟨q1, q2, q3⟩⟩
    clear HI HD HE HT1 cP hmk HT B1
    obtain ⟨R, S, sc, HI, B5, HQ⟩ := HP
    have hm0 : (bare0 ss N).m = 0 := rfl
    have cf := fresh_at (gh0 G0 R S s sc) (bare0 ss N) 0 (right_len HR.out).1 (by rw [hm0]; omega) W5 HI.out
    rw [bare0_new, hm0] at cf
    go_wp2_with (go_at_call 17; refine cf.mono ?_; rintro e w6 ⟨γ', rfl, hl, h6, k6, x6⟩; have g3 := h6.rootsc (start_len ss N 0 (Nat.zero_le _)); rw [x6.G] at g3)
    have H6 := hid h6
    have HL := hid hl
    have HG' := hid (show γ'.G = G0 from x6.G)
    have B6 := hid (Wr.belowN B5.out B5.out.size k6 (fun i hi e => by have := HQ.out.1; have e : i = G0 := e; omega))
    have HF := hid (fun b hb => (x6.foot b hb).elim (fun q => (show w.heap.size ≤ b from by
      rcases q with q | q | ⟨x, hx, _⟩
      · have q : b = G0 := q; have := HQ.out.1; omega
      · have q : b = R := q; have := HQ.out.2.1; omega
      · exact hx.elim)) (fun q => Nat.le_trans B5.out.size q))
    have HS := hid (show w.heap.size ≤ γ'.S from by rw [x6.S]; exact HQ.out.2.2)
    have HSP := hid (show γ'.sp = s from x6.sp)
    clear h6 k6 x6 cf HI B5 HQ hl g3
    go_loopw [27] (fun i wr => ∃ k : Nat, k ≤ N ∧ i = .int .i64 k ∧ Hid (IsG wr γ' (startG ss N k)) ∧ Hid (Below w.heap.size w wr)) (fun i _ => N - (intOf i).toNat)
    case atStart => exact ⟨0, Nat.zero_le _, rfl, H6, B6⟩
    case round =>
      obtain ⟨k, hk, rfl, HA, HB⟩ := hrel
      clear H6 B6
      have hln := start_len ss N k hk
      by_cases hlt : k < N
      · have hlt' : (k : Int) < (N : Int) := by omega
        have k0 : (0 : Int) ≤ (k : Int) := by omega
        have g3 := HA.out.rootsc hln
        rw [HG'.out] at g3
        have hc := HA.out.slotc (t := k) (s := 0) (by omega) (by omega)
        have hf := fz_row HA.out.rts (6 * k + 0)
        rw [show 6 * k + 0 = k * 6 by omega] at hc hf
        have HN2 := hid (HA.out.setS (t := k) (s := 0) (x := 1) (by omega) (by omega) (by show 1 ≤ 1; omega) (fun _ => HL.out))
        rw [start_set ss N k hlt, show 6 * k + 0 = k * 6 by omega] at HN2
        have HP1 := hid (pp_pos γ'.at_ (x := 1) (by decide))
        rw [HP1.out] at HN2
        have HKB := hid (Wr.belowN HB.out HB.out.size (wr_set wr γ'.R (k * 6) (.pointer (some ⟨γ'.at_ 1, 0, none⟩))) (fun i hi e => by have := HF.out γ'.R (.inr (.inl rfl)); omega))
        generalize γ'.at_ 1 = O1 at *
        go_wp2
        go_roundw
        case rel => exact ⟨k + 1, by omega, by go_num, HN2, HKB⟩
        case measure => simp [intOf]; omega
      · have : k = N := by omega
        subst this
        have hE := HA.out
        rw [start_end] at hE
        go_wp2
        go_ret2
        have hNt : t.toNat = k := by have := HN.out; omega
        exact ⟨γ', by rw [HG'.out]; rfl, by rw [hNt]; exact hE, HB.out, HF.out, HS.out, HSP.out⟩
end Go.Proofs.YtlkhmfmocegekaaDoor
