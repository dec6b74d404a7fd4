/- package layout: start, Start: the words of an arena at the start. -/
import Derived.Test.YtjfegimgpkeleaaDoorLyFirst
import Derived.Test.YtjfegimgpkeleaaDoorLyRefB
import Derived.Test.YtjfegimgpkeleaaDoorPkRefBOn
set_option linter.unusedVariables false
namespace Go.Proofs.YtjfegimgpkeleaaDoor
open Go.RowKit Go.Ly Go.Sh
/-- The word at the start, by its number: F the frontier, B the first word of the first space. -/
def stf (F : Int) (B : Nat) (x : ByteArray) (i : Nat) : Int := if i = 1 then F else if B ≤ i then (fobj x).getD (i - B) 0 else 0
/-- A world in which an arena's words are laid: the plan's box, the words' row, the first object. -/
structure StW (w : World) (P G g : Nat) (O : Obj) (zs : List Int) (x : ByteArray) (W : World) : Prop where
  row : W.heap[G]? = some (.cells (wds zs) 37)
  pln : W.heap[P]? = some O
  obj : ∀ i, i < 2 + x.size → W.cell? ⟨g, i, none⟩ = some (.int .u64 ((fobj x).getD i 0))
  bel : Below w.heap.size w W
  neG : g ≠ G
  neP : P ≠ G
  leG : w.heap.size ≤ G
theorem StW.below {w W W' : World} {P G g : Nat} {O : Obj} {zs : List Int} {x : ByteArray} (h : StW w P G g O zs x W) (b : Below W.heap.size W W') : StW w P G g O zs x W' :=
  ⟨row_below h.row b, row_below h.pln b, fun i hi => (b.cell (p := ⟨g, i, none⟩) (block_lt_of_cell (h.obj i hi))).trans (h.obj i hi), h.bel.trans (b.mono h.bel.size), h.neG, h.neP, h.leG⟩
theorem StW.set {w W : World} {P G g : Nat} {O : Obj} {zs : List Int} {x : ByteArray} (h : StW w P G g O zs x W) (i : Nat) (v : Int) : StW w P G g O (zs.set i v) x (W.setCell ⟨G, i, none⟩ (.int .u64 v)) := by
  have e := setCell_eq_setRow W G i (wds zs) 37 (0, 0) (.int .u64 v) h.row
  rw [wds_set] at e
  refine ⟨?_, other_row h.neP h.pln, fun j hj => grown_cell (grown_setCell W G i _) h.neG (h.obj j hj), h.bel.setCell (p := ⟨G, i, none⟩) h.leG _, h.neG, h.neP, h.leG⟩
  rw [e]
  exact setRow_heap W G (wds zs) _ _ _ h.row
theorem StW.cell {w W : World} {P G g : Nat} {O : Obj} {zs : List Int} {x : ByteArray} (h : StW w P G g O zs x W) (i : Nat) (hi : i < zs.length) : W.cell? ⟨G, i, none⟩ = some (.int .u64 (wat zs i)) := at_row h.row i (wds_get zs i hi)
theorem wat_stf (N B : Nat) (F : Int) (x : ByteArray) (b5 : 5 ≤ B) (hN : B + (2 + x.size) ≤ N) (i : Nat) (hi : i < N) :
    wat ((((List.replicate N 0).set 0 0).set 1 F).take B ++ fobj x ++ (((List.replicate N 0).set 0 0).set 1 F).drop (B + (fobj x).length)) i = stf F B x i := by
  have hl := fobj_len x
  unfold wat stf
  rw [List.getD_eq_getElem?_getD]
  by_cases h1 : i < B
  · rw [List.append_assoc, List.getElem?_append_left (by simp; omega), List.getElem?_take_of_lt h1, List.getElem?_set]
    by_cases e1 : i = 1
    · subst e1; simp [hi]
    · rw [if_neg (by omega), if_neg e1, if_neg (by omega), List.getElem?_set]
      split
      · simp; split <;> rfl
      · simp [List.getElem?_replicate]; split <;> rfl
  · have hlen : ((((List.replicate N (0 : Int)).set 0 0).set 1 F).take B).length = B := by simp; omega
    rw [if_neg (by omega), if_pos (by omega)]
    rw [List.append_assoc, List.getElem?_append_right (by rw [hlen]; omega), hlen, List.getD_eq_getElem?_getD]
    by_cases h2 : i - B < (fobj x).length
    · rw [List.getElem?_append_left h2]
    · rw [List.getElem?_append_right (by omega), List.getElem?_drop, List.getElem?_eq_none (l := fobj x) (by omega), List.getElem?_set, if_neg (by omega), List.getElem?_set, if_neg (by omega), List.getElem?_replicate]
      split <;> rfl
theorem st_copy {w W : World} {P G g : Nat} {O : Obj} {zs : List Int} {x : ByteArray} (ty : TypeId) (B N cap : Nat) (h : StW w P G g O zs x W) (hl : zs.length = N) (hB : B + (2 + x.size) ≤ N) :
    (Builtin.copy_ #[30, 30] ty #[.slice (some ⟨G, B, none⟩) (N - B) (N - B), .slice (some ⟨g, 0, none⟩) (2 + x.size) cap]).run Tryd.prog W = .ok (goInt (2 + x.size)) (W.setRow G (wds (zs.take B ++ fobj x ++ zs.drop (B + (fobj x).length)))) := by
  have hfl := fobj_len x
  have := run_copy_row Tryd.prog W 30 30 ty 37 G B (N - B) (N - B) ⟨g, 0, none⟩ (2 + x.size) cap (wds zs) 37 (wds (fobj x)).toList Tryd.underlying30 (by kernel_rfl) h.row
    (by rw [show (wds (fobj x)).toList.length = 2 + x.size by simp [wds, hfl]]; exact (Nat.min_eq_left (by omega)).symm) (Ws.list (off := 0) (fun i hi => by rw [Nat.zero_add]; exact h.obj i (by omega))) (by simp [wds, hfl, hl]; omega) (wds_one _)
  rw [this]
  have e0 : ((wds zs).toList.take B ++ (wds (fobj x)).toList ++ (wds zs).toList.drop (B + (wds (fobj x)).toList.length)).toArray = wds (zs.take B ++ fobj x ++ zs.drop (B + (fobj x).length)) := by
    simp [wds]
  rw [e0]
  simp [wds, hfl]
set_option maxRecDepth 100000 in
set_option maxHeartbeats 4000000 in
theorem start_at (t s : Int) (b off n c N B : Nat) (F er : Int) (x : ByteArray) (w : World) (t0 : 1 ≤ t) (t1 : t ≤ 8) (s0 : 32 ≤ s) (s1 : s ≤ 4096) (hN : (N : Int) = 3 + t + t + 2 * s) (hB : (B : Int) = 3 + t + t)
    (h1 : one x = true) (hn : 1 ≤ n) (hc : w.cell? ⟨b, off, none⟩ = some (.string x)) (hL : LFirst w) (hF : Hid (Pk.fw 0 (2 + (x.size : Int)) s 0 = (F, er))) :
    Calls Tryd.prog 31 #[planV t s (some ⟨b, off, none⟩) n c] w fun e W' =>
      ∃ G, e = .returned (.slice (some ⟨G, 0, none⟩) N N) ∧ (∀ i, i < N → W'.cell? ⟨G, i, none⟩ = some (.int .u64 (stf F B x i))) ∧ Below w.heap.size w W' := by
  have hx8 := one_size h1
  have cs := fun W => size_at t s (some ⟨b, off, none⟩) n c W t0 t1 s0 s1
  rw [← hN] at cs
  have cb := fun W => base_at t s (some ⟨b, off, none⟩) n c 6 W t0 t1 s0 s1 (by omega)
  rw [bs6, ← hB] at cb
  have cf := fun W h h' => firstObject_at t s b off n c x W h1 hn h h'
  have hmk := make_words 30 Tryd.underlying30 N (by omega)
  have HC := hid hc
  have HL := hid hL
  have b5 : 5 ≤ B := by omega
  have HS := hid (fun i hi => wat_stf N B F x b5 (by omega) i hi)
  have n1 : (N : Int) ≤ 9000 := by omega
  have n0 : 69 ≤ (N : Int) := by omega
  have nb : B + 60 ≤ N := by omega
  clear hc hL hN hB h1
  generalize hz : wds (List.replicate N 0) = ZA at hmk
  have HZ := hid hz
  clear hz
  go_enter Tryd.func31, Tryd.ntmps31
  go_wp2_with (go_at_call 30; refine (cs _).mono ?_)
  rintro e w1 ⟨rfl, b1⟩
  have B1 := hid (bel1 b1)
  have R1 := row1 b1
  have z1 := siz1 b1
  clear b1
  have HR1 := hid R1
  have p0 := at_row R1 0 rfl
  have p1 := at_row R1 1 rfl
  have p2 := at_row R1 2 rfl
  clear R1
  have Bz := hid (B1.out.alloc B1.out.size (.cells ZA 37))
  have hc2 := hid ((Bz.out.cell (p := ⟨b, off, none⟩) (block_lt_of_cell HC.out)).trans HC.out)
  have hl2 := hid (HL.out.below Bz.out)
  go_wp2_with (go_at_call 48; refine (cf _ hc2.out hl2.out).mono ?_)
  rintro e w2 ⟨g, cap, rfl, hg, ho, b2⟩
  have S2 : Hid (StW w w.heap.size w1.heap.size g (.cells #[.int .i64 t, .int .i64 s, .slice (some ⟨b, off, none⟩) n c] 60) (List.replicate N 0) x w2) :=
    hid ⟨by rw [HZ.out]; exact row1 b2, row_below (row_below HR1.out (below_alloc0 w1 _)) b2, ho, B1.out.trans ((bel1 b2).mono B1.out.size), by simp at hg; omega, by omega, by omega⟩
  clear b2 ho hg hl2 hc2 Bz p0 p1 p2 HR1 B1 cf cs
  go_wp2_with (go_at_call 49; refine (request_at 0 0 0 0 _ (hid rfl)).mono ?_)
  rintro e w3 ⟨rfl, b3⟩
  have S3 := hid (S2.out.below b3)
  clear S2 b3
  have hc0 := S3.out.cell 0 (by simp; omega)
  have hf0 := fz_row S3.out.row 0
  have S4 := hid (S3.out.set 0 0)
  have q1 := at_row S4.out.pln 1 rfl
  clear S3
  go_wp2_with (go_at_call 50; refine (front_at 0 _ s 0 F er _ hF).mono ?_)
  rintro e w4 ⟨rfl, b4⟩
  have S5 := hid (S4.out.below b4)
  clear S4 b4 hc0 hf0 q1
  have hc1 := S5.out.cell 1 (by simp; omega)
  have hf1 := fz_row S5.out.row 1
  have S6 := hid (S5.out.set 1 F)
  clear S5
  have q0 := at_row S6.out.pln 0 rfl
  have q1 := at_row S6.out.pln 1 rfl
  have q2 := at_row S6.out.pln 2 rfl
  go_wp2_with (go_at_call 47; refine (cb _).mono ?_)
  rintro e w5 ⟨rfl, b5'⟩
  have S7 := hid (S6.out.below b5')
  clear S6 b5' hc1 hf1 q0 q1 q2
  have hcp := fun ty => st_copy ty B N cap S7.out (by simp) (by omega)
  have hlen : (((((List.replicate N 0).set 0 0).set 1 F).take B ++ fobj x ++ (((List.replicate N 0).set 0 0).set 1 F).drop (B + (fobj x).length))).length = N := by
    have := fobj_len x
    simp
    omega
  generalize (((List.replicate N 0).set 0 0).set 1 F).take B ++ fobj x ++ (((List.replicate N 0).set 0 0).set 1 F).drop (B + (fobj x).length) = ys at *
  have HY := hid hlen
  clear hlen
  generalize hy : wds ys = YA at *
  have HYA := hid hy
  clear hy
  go_wp2
  go_ret
  refine ⟨_, rfl, fun i hi => ?_, below_setRow S7.out.bel S7.out.leG _⟩
  rw [cell_setRow_same w5 w1.heap.size i _ YA _ _ S7.out.row, ← HYA.out, wds_get ys i (by rw [HY.out]; exact hi), HS.out i hi]
set_option maxRecDepth 100000 in
set_option maxHeartbeats 4000000 in
theorem Start_no (t s : Int) (a : Option Addr) (n c : Nat) (ss : List ByteArray) (w : World) (hT : IsTab w (.slice a n c) ss) (hr : rgt t s ss = false) :
    Calls Tryd.prog 11 #[planV t s a n c] w fun e w' => e = .returned (.tuple #[.slice none 0 0, .int .i64 2]) ∧ Below w.heap.size w w' := by
  have cm := fun W h => lpmay_any t s a n c ss W h
  simp only [hr] at cm
  have HT := hid hT
  clear hT
  go_enter Tryd.func11, Tryd.ntmps11
  go_wp2_with (go_at_call 29; refine (cm _ (HT.out.below (Nat.le_refl _) (bel2 (Below.refl _ _)))).mono ?_; rintro e w1 ⟨rfl, b1⟩)
  go_ret2
  exact ⟨rfl, bel2 b1⟩
set_option maxRecDepth 100000 in
set_option maxHeartbeats 4000000 in
theorem Start_yes (t s : Int) (a : Option Addr) (n c N B : Nat) (F er : Int) (ss : List ByteArray) (w : World) (hT : IsTab w (.slice a n c) ss) (hL : LFirst w) (hr : rgt t s ss = true) (hN : (N : Int) = 3 + t + t + 2 * s) (hB : (B : Int) = 3 + t + t)
    (hF : Hid (Pk.fw 0 (2 + ((at' ss 0).size : Int)) s 0 = (F, er))) :
    Calls Tryd.prog 11 #[planV t s a n c] w fun e w' => ∃ G, e = .returned (.tuple #[.slice (some ⟨G, 0, none⟩) N N, .int .i64 0]) ∧ (∀ i, i < N → w'.cell? ⟨G, i, none⟩ = some (.int .u64 (stf F B (at' ss 0) i))) ∧ Below w.heap.size w w' := by
  obtain ⟨t0, t1, s0, s1, hrr⟩ := rgt_yes hr
  have hs1 := (right_len hrr).1
  have h1 : one (at' ss 0) = true := right_all hrr 0 (by omega)
  obtain ⟨b, off, cap, e0, hc⟩ := hT.some (by omega)
  obtain ⟨rfl, rfl, rfl⟩ := Value.slice.inj e0
  have cm := fun W h => lpmay_any t s (some ⟨b, off, none⟩) ss.length c ss W h
  simp only [hr] at cm
  have cs := fun W h h' => start_at t s b off ss.length c N B F er (at' ss 0) W t0 t1 s0 s1 hN hB h1 (by omega) h h' hF
  have HT := hid hT
  have HL := hid hL
  have HC := hid (show w.cell? ⟨b, off, none⟩ = some (.string (at' ss 0)) from hc 0 (by omega))
  generalize at' ss 0 = x at *
  clear hT hL hc hF hrr hr e0 h1 hN hB
  go_enter Tryd.func11, Tryd.ntmps11
  go_wp2_with (go_at_call 29; refine (cm _ (HT.out.below (Nat.le_refl _) (bel2 (Below.refl _ _)))).mono ?_)
  rintro e w1 ⟨rfl, b1⟩
  have B1 := hid (bel2 b1)
  have Rp := row2b b1
  clear b1
  have p0 := at_row Rp 0 rfl
  have p1 := at_row Rp 1 rfl
  have p2 := at_row Rp 2 rfl
  clear Rp
  go_wp2_with (go_at_call 31; refine (cs _ ((B1.out.cell (p := ⟨b, off, none⟩) (block_lt_of_cell HC.out)).trans HC.out) (HL.out.below B1.out)).mono ?_)
  rintro e w2 ⟨G, rfl, hG, b2⟩
  have HG := hid hG
  clear hG
  go_wp2
  go_ret2
  exact ⟨G, rfl, HG.out, B1.out.trans (b2.mono B1.out.size)⟩
end Go.Proofs.YtjfegimgpkeleaaDoor
