/- package object: Put. -/
import Derived.Test.YtldfmlkjeniemaaGreatDoorObLayOn
import Derived.Test.YtldfmlkjeniemaaGreatDoorObBoxOn
import Derived.Test.YtldfmlkjeniemaaGreatDoorObRefOn
import Derived.Test.YtldfmlkjeniemaaGreatDoorLyRefOn
import Derived.Test.YtldfmlkjeniemaaGreatDoorArCallOn
import Derived.OwnWalk
set_option linter.unusedVariables false
namespace Go.Proofs.YtldfmlkjeniemaaGreatDoor
open Go.RowKit Go.Ly Go.Hd Go.Sh Go.Ob
set_option maxRecDepth 100000 in
set_option maxHeartbeats 2000000 in
theorem Put_up (k : Int) (P : Option Addr) (t s : Int) (a : Option Addr) (n c : Nat) (at_ sh mk_ lk : Int) (fa : Option Addr) (fn fc : Nat) (w : World)
    (hc : ∀ (W0 We : World) (ga gp gx : Nat), Hs9 W0 ga 0 (.pointer P) gp 0 (.int .i64 t) gp 1 (.int .i64 s) gp 2 (.slice a n c) gx 0 (.int .i64 at_) gx 1 (.int .i64 sh) gx 2 (.int .i64 mk_) gx 3 (.int .u64 lk) gx 4 (.slice fa fn fc) W0 → Below W0.heap.size W0 We → Below w.heap.size w We →
      Calls Tryz.prog 32 #[.pointer (some ⟨ga, 0, none⟩), .pointer (some ⟨gp, 0, none⟩), .pointer (some ⟨gx, 0, none⟩)] We fun e w' => e = upE k ∧ Below We.heap.size We w') :
    Calls Tryz.prog 14 #[.pointer P, planV t s a n c, obV at_ sh mk_ lk (.slice fa fn fc)] w fun e w' => e = .returned (.int .i64 k) ∧ Below w.heap.size w w' := by
  have hmf : ∀ (fn : Fn) (first cap : Array Value) (w : World), (Instr.makeFunc fn first cap).run Tryz.prog w = .ok (.func fn first cap) w := fun _ _ _ _ => rfl
  go_enter Tryz.func14, Tryz.ntmps14
  go_wp2_with fail
  have hcf : ∀ (cap : Array Value) (w : World), (callFunc 32 cap).run Tryz.prog w = .ok (.enter 32 cap) w := fun _ _ => rfl
  have hr := boxes3 w (paO P) (plO t s a n c) (obO at_ sh mk_ lk (.slice fa fn fc))
  generalize ((w.alloc (paO P)).alloc (plO t s a n c)).alloc (obO at_ sh mk_ lk (.slice fa fn fc)) = W0 at *
  obtain ⟨Ra, Rp, Rx, zW, BW⟩ := hr
  have hh := hc W0 (W0.alloc (errO 0)) w.heap.size (w.heap.size + 1) (w.heap.size + 1 + 1)
    ⟨at_row Ra 0 rfl, at_row Rp 0 rfl, at_row Rp 1 rfl, at_row Rp 2 rfl, at_row Rx 0 rfl, at_row Rx 1 rfl, at_row Rx 2 rfl, at_row Rx 3 rfl, at_row Rx 4 rfl, Below.refl _ _⟩ (below_alloc0 _ _) (BW.trans ((below_alloc0 _ _).mono BW.size))
  refine (caught_up _ _ k _ (fun w1 => Below (W0.alloc (errO 0)).heap.size (W0.alloc (errO 0)) w1) (hcf _) (hh.mono ?_)).mono ?_
  · rintro e w1 ⟨rfl, b⟩
    exact ⟨rfl, row_below (heap_alloc_last W0 _) b, b⟩
  rintro e w' ⟨rfl, w1, w2, b1, _, b2, rfl⟩
  have B2 := hid ((BW.trans (((below_alloc0 W0 (errO 0)).trans ((b1.trans (b2.mono b1.size)).mono (by simp))).mono BW.size)).setCell (p := ⟨W0.heap.size, 0, none⟩) BW.size (.int .i64 k))
  clear hh hc b1 b2 zW
  dsimp only
  generalize w2.setCell _ _ = W3 at *
  go_wp2
  go_ret
  exact ⟨rfl, B2.out⟩
set_option maxRecDepth 100000 in
set_option maxHeartbeats 2000000 in
theorem Put_okc (A B : Nat) (ys : List Int) (t s : Int) (a : Option Addr) (n c : Nat) (at_ sh mk_ lk : Int) (fa : Option Addr) (fn fc : Nat) (w : World) (hA : A < w.heap.size) (hBl : B < w.heap.size)
    (hc : ∀ (W0 We : World) (ga gp gx : Nat), Hs9 W0 ga 0 (.pointer (some ⟨A, 0, none⟩)) gp 0 (.int .i64 t) gp 1 (.int .i64 s) gp 2 (.slice a n c) gx 0 (.int .i64 at_) gx 1 (.int .i64 sh) gx 2 (.int .i64 mk_) gx 3 (.int .u64 lk) gx 4 (.slice fa fn fc) W0 → Below W0.heap.size W0 We → Below w.heap.size w We → ga ≠ B → gx ≠ B →
      Calls Tryz.prog 32 #[.pointer (some ⟨ga, 0, none⟩), .pointer (some ⟨gp, 0, none⟩), .pointer (some ⟨gx, 0, none⟩)] We fun e w' => e = .returned (.tuple #[]) ∧ IsAr w' A B ys ∧ We.grownBy w' (some B)) :
    Calls Tryz.prog 14 #[.pointer (some ⟨A, 0, none⟩), planV t s a n c, obV at_ sh mk_ lk (.slice fa fn fc)] w fun e w' => e = .returned (.int .i64 0) ∧ IsAr w' A B ys ∧ w.grownBy w' (some B) := by
  have hmf : ∀ (fn : Fn) (first cap : Array Value) (w : World), (Instr.makeFunc fn first cap).run Tryz.prog w = .ok (.func fn first cap) w := fun _ _ _ _ => rfl
  go_enter Tryz.func14, Tryz.ntmps14
  go_wp2_with fail
  have hcf : ∀ (cap : Array Value) (w : World), (callFunc 32 cap).run Tryz.prog w = .ok (.enter 32 cap) w := fun _ _ => rfl
  have hr := boxes3 w (paO (some ⟨A, 0, none⟩)) (plO t s a n c) (obO at_ sh mk_ lk (.slice fa fn fc))
  generalize ((w.alloc (paO (some ⟨A, 0, none⟩))).alloc (plO t s a n c)).alloc (obO at_ sh mk_ lk (.slice fa fn fc)) = W0 at *
  obtain ⟨Ra, Rp, Rx, zW, BW⟩ := hr
  have hz := BW.size
  have hh := hc W0 (W0.alloc (errO 0)) w.heap.size (w.heap.size + 1) (w.heap.size + 1 + 1)
    ⟨at_row Ra 0 rfl, at_row Rp 0 rfl, at_row Rp 1 rfl, at_row Rp 2 rfl, at_row Rx 0 rfl, at_row Rx 1 rfl, at_row Rx 2 rfl, at_row Rx 3 rfl, at_row Rx 4 rfl, Below.refl _ _⟩ (below_alloc0 _ _) (BW.trans ((below_alloc0 _ _).mono BW.size)) (by omega) (by omega)
  refine (caught_ok _ _ _ (fun w1 => IsAr w1 A B ys ∧ (W0.alloc (errO 0)).grownBy w1 (some B)) (hcf _) (hh.mono ?_)).mono ?_
  · rintro e w1 ⟨rfl, a1, g1⟩
    exact ⟨rfl, (g1.block _ (by simp) (fun e => by cases e; omega)).trans (heap_alloc_last W0 _), a1, g1⟩
  rintro e w' ⟨rfl, w1, ⟨a1, g1⟩, _, rfl⟩
  have A2 := hid (show IsAr (w1.setCell ⟨W0.heap.size, 0, none⟩ (.int .i64 0)) A B ys from ⟨okeep_row (by omega) a1.face, okeep_row (by omega) a1.row, a1.ne, a1.bnd, a1.pos, a1.le⟩)
  have G2 := hid (show w.grownBy (w1.setCell ⟨W0.heap.size, 0, none⟩ (.int .i64 0)) (some B) from by
    have g2 := grown_trans (grown_below (BW.trans ((below_alloc0 W0 (errO 0)).mono BW.size)) (some B)) g1
    refine ⟨g2.os, g2.tape, g2.output, Nat.le_trans g2.size (by simp [World.setCell]), fun k hk hne => ?_⟩
    rw [← g2.block k hk hne]
    simp [World.setCell, Array.getElem?_modify, show W0.heap.size ≠ k by omega])
  clear hh hc a1 g1 zW
  dsimp only
  generalize w1.setCell _ _ = W3 at *
  go_wp2
  go_ret
  exact ⟨rfl, A2.out, G2.out⟩
theorem Put_nil (P : Option Addr) (a0 : Option Addr) (c0 : Nat) (t s : Int) (a : Option Addr) (n c : Nat) (at_ sh mk_ lk : Int) (fa : Option Addr) (fn fc : Nat) (w : World) (hf : Faces w (.pointer P) (.slice a0 0 c0)) :
    Calls Tryz.prog 14 #[.pointer P, planV t s a n c, obV at_ sh mk_ lk (.slice fa fn fc)] w fun e w' => e = .returned (.int .i64 1) ∧ Below w.heap.size w w' :=
  Put_up 1 P t s a n c at_ sh mk_ lk fa fn fc w fun W0 We ga gp gx H0 HB HW => clou_open W0 We ga gp gx P t s a n c at_ sh mk_ lk fa fn fc H0 HB 1 fun W hW => open_nil _ a0 c0 t s a n c W (hf.below (HW.trans (hW.mono HW.size)))
theorem Put_bad (A B : Nat) (xs : List Int) (ss : List ByteArray) (z : Int) (t s : Int) (a : Option Addr) (n c : Nat) (at_ sh mk_ lk : Int) (fa : Option Addr) (fn fc : Nat) (w : World) (hT : IsTab w (.slice a n c) ss) (ha : IsAr w A B xs) (hr : rgt t s ss = true) (hz : 3 + t + t + 2 * s = z) (hl : ((z : Int) != xs.length) = true) :
    Calls Tryz.prog 14 #[.pointer (some ⟨A, 0, none⟩), planV t s a n c, obV at_ sh mk_ lk (.slice fa fn fc)] w fun e w' => e = .returned (.int .i64 2) ∧ Below w.heap.size w w' :=
  Put_up 2 _ t s a n c at_ sh mk_ lk fa fn fc w fun W0 We ga gp gx H0 HB HW => clou_open W0 We ga gp gx _ t s a n c at_ sh mk_ lk fa fn fc H0 HB 2 fun W hW => open_bad t s a n c ss A B xs z W (hT.below (Nat.le_refl _) (HW.trans (hW.mono HW.size))) (ha.below (HW.trans (hW.mono HW.size))) hr hz hl
/-- The error of an object that is put. -/
def ptE (t s : Int) (ss : List ByteArray) (at_ sh mk_ : Int) (l : Nat) : Int :=
  if ok sh mk_ = false then 2 else if (sz ss sh).2 ≠ 0 ∨ (l : Int) ≠ (sz ss sh).1 - 2 then 2 else if spc t s at_ = false ∨ eo t s at_ - at_ < (sz ss sh).1 then 4 else 0
theorem sz_bd {ss : List ByteArray} {sh : Int} (h : (sz ss sh).2 = 0) : 2 ≤ (sz ss sh).1 ∧ (sz ss sh).1 ≤ 10 := by
  unfold sz at h ⊢
  by_cases hr : right ss = true
  · rw [if_pos hr] at h ⊢
    by_cases hn : inR sh ss.length = true
    · rw [if_pos hn]
      have hl : sh.toNat < ss.length := by simp [inR] at hn; omega
      have := one_size (right_all hr _ hl)
      simp only
      omega
    · rw [if_neg hn] at h; cases h
  · rw [if_neg hr] at h; cases h
theorem Put_err (A B : Nat) (xs : List Int) (ss : List ByteArray) (t s : Int) (a : Option Addr) (n c : Nat) (at_ sh mk_ lk er : Int) (fa : Option Addr) (fn fc : Nat) (w : World) (h : IsHp w t s a n c ss A B xs) (he : Hid (ptE t s ss at_ sh mk_ fn = er)) (hne : er ≠ 0) :
    Calls Tryz.prog 14 #[.pointer (some ⟨A, 0, none⟩), planV t s a n c, obV at_ sh mk_ lk (.slice fa fn fc)] w fun e w' => e = .returned (.int .i64 er) ∧ Below w.heap.size w w' := by
  have he := he.out
  unfold ptE at he
  have co := fun (We : World) (HW : Below w.heap.size w We) W (hW : Below We.heap.size We W) => open_ok t s a n c ss A B xs W (h.below (HW.trans (hW.mono HW.size)))
  by_cases h1 : ok sh mk_ = false
  · rw [if_pos h1] at he
    subst he
    exact Put_up 2 _ t s a n c at_ sh mk_ lk fa fn fc w fun W0 We ga gp gx H0 HB HW => clou_last W0 We ga gp gx _ t s a n c at_ sh mk_ lk fa fn fc H0 HB 2 A (co We HW) fun L W hW hL => lay_head t s a n c L 0 0 at_ sh mk_ lk fa fn fc W h1
  · rw [if_neg h1] at he
    have h1 : ok sh mk_ = true := by simpa using h1
    by_cases h2 : (sz ss sh).2 ≠ 0 ∨ (fn : Int) ≠ (sz ss sh).1 - 2
    · rw [if_pos h2] at he
      subst he
      exact Put_up 2 _ t s a n c at_ sh mk_ lk fa fn fc w fun W0 We ga gp gx H0 HB HW => clou_last W0 We ga gp gx _ t s a n c at_ sh mk_ lk fa fn fc H0 HB 2 A (co We HW) fun L W hW hL => lay_arg t s a n c L ss 0 0 at_ sh mk_ lk (sz ss sh).1 (sz ss sh).2 fa fn fc W (h.tab.below (Nat.le_refl _) (HW.trans (hW.mono HW.size))) h1 (hid rfl) (by
        by_cases h3 : (sz ss sh).2 = 0
        · have := sz_bd h3
          exact .inr ⟨h3, this.1, this.2, by simpa [h3] using h2⟩
        · exact .inl (by simpa using h3))
    · rw [if_neg h2] at he
      have h2' : (sz ss sh).2 = 0 ∧ (fn : Int) = (sz ss sh).1 - 2 := by simpa using h2
      have hb := sz_bd h2'.1
      by_cases h3 : spc t s at_ = false ∨ eo t s at_ - at_ < (sz ss sh).1
      · rw [if_pos h3] at he
        subst he
        exact Put_up 4 _ t s a n c at_ sh mk_ lk fa fn fc w fun W0 We ga gp gx H0 HB HW => clou_last W0 We ga gp gx _ t s a n c at_ sh mk_ lk fa fn fc H0 HB 4 A (co We HW) fun L W hW hL => lay_range t s a n c L ss 0 0 at_ sh mk_ lk _ fa fn fc W (h.tab.below (Nat.le_refl _) (HW.trans (hW.mono HW.size))) h.rg h1 (hid (Prod.ext rfl h2'.1)) hb.1 hb.2 h2'.2 (by
          by_cases h4 : spc t s at_ = false
          · exact .inl h4
          · exact .inr ⟨by simpa using h4, by rcases h3 with h3 | h3; exact absurd h3 h4; exact h3⟩)
      · rw [if_neg h3] at he
        exact absurd he.symm hne
theorem Put_ok (A B : Nat) (xs : List Int) (ss : List ByteArray) (t s : Int) (a : Option Addr) (n c : Nat) (q : Nat) (sh mk_ lk : Int) (fv : Value) (zs : List Int) (w : World) (h : IsHp w t s a n c ss A B xs) (he : Hid (ptE t s ss q sh mk_ zs.length = 0)) (hv : FsAt 0 w fv zs) (hW : InW (lk :: zs)) :
    Calls Tryz.prog 14 #[.pointer (some ⟨A, 0, none⟩), planV t s a n c, obV q sh mk_ lk fv] w fun e w' => e = .returned (.int .i64 0) ∧ IsAr w' A B (putK xs q (wd sh mk_ :: lk :: zs) (zs.length + 2)) ∧ w.grownBy w' (some B) := by
  have he := he.out
  unfold ptE at he
  obtain ⟨t0, t1, s0, s1, hx9⟩ := h.size
  have hl := h.len
  have h1 : ok sh mk_ = true := by by_cases h1 : ok sh mk_ = false; (rw [if_pos h1] at he; cases he); simpa using h1
  rw [if_neg (by simp [h1])] at he
  by_cases h2 : (sz ss sh).2 ≠ 0 ∨ (zs.length : Int) ≠ (sz ss sh).1 - 2
  · rw [if_pos h2] at he; cases he
  rw [if_neg h2] at he
  by_cases h3 : spc t s q = false ∨ eo t s q - q < (sz ss sh).1
  · rw [if_pos h3] at he; cases he
  have h2' : (sz ss sh).2 = 0 ∧ (zs.length : Int) = (sz ss sh).1 - 2 := by simpa using h2
  have hb := sz_bd h2'.1
  have h3' : spc t s q = true ∧ (sz ss sh).1 ≤ eo t s q - q := by
    have := h3
    simp only [not_or] at this
    exact ⟨by simpa using this.1, by omega⟩
  have heo := eo_bd s0 h3'.1
  obtain ⟨_, _, _, hw0, hw1⟩ := isH_wd h1
  obtain ⟨fa, fc, rfl, hv'⟩ := hv
  have hv : FsAt 0 w (.slice fa zs.length fc) zs := ⟨fa, fc, rfl, hv'⟩
  refine Put_okc A B _ t s a n c q sh mk_ lk fa zs.length fc w h.ar.ltA h.ar.ltB fun W0 We ga gp gx H0 HB HW hga hgx => ?_
  exact clou_ok A W0 We ga gp gx t s a n c q sh mk_ lk fa zs.length fc H0 HB B xs (wd sh mk_ :: lk :: zs) (h.ar.below HW) hga hgx (by simp) (by simp; omega) (by simp; omega)
    (by intro x hx; rcases List.mem_cons.1 hx with rfl | hx; exact ⟨hw0, by omega⟩; exact hW x hx)
    (fun W hW => open_ok t s a n c ss A B xs W (h.below (HW.trans (hW.mono HW.size))))
    fun L W hW hL => lay_ok t s a n c L ss 0 0 q sh mk_ lk _ _ zs W (h.tab.below (Nat.le_refl _) (HW.trans (hW.mono HW.size))) h.rg h1 (hid (Prod.ext rfl h2'.1)) hb.1 hb.2 h2'.2 h3'.1 h3'.2 (hv.below (HW.trans (hW.mono HW.size)))
end Go.Proofs.YtldfmlkjeniemaaGreatDoor
/- Plain: the words of an arena behind an object that was put; what is read there then. -/
set_option linter.unusedVariables false
namespace Go.Proofs.YtldfmlkjeniemaaGreatDoor
open Go.RowKit Go.Ly Go.Hd Go.Sh Go.Ob
theorem wat_set (xs : List Int) (i j : Nat) (v : Int) (hi : i < xs.length) : wat (xs.set i v) j = if i = j then v else wat xs j := by
  unfold wat
  rw [List.getD_eq_getElem?_getD, List.getElem?_set]
  by_cases h : i = j
  · subst h; simp [hi]
  · simp [h, List.getD_eq_getElem?_getD]
theorem putK_get (xs : List Int) (q : Nat) (ws : List Int) (j : Nat) : ∀ k, q + k ≤ xs.length → wat (putK xs q ws k) j = if q ≤ j ∧ j < q + k then wat ws (j - q) else wat xs j
  | 0, _ => by rw [if_neg (by omega)]; rfl
  | k + 1, h => by
    rw [putK, wat_set _ _ _ _ (by rw [putK_len]; omega), putK_get xs q ws j k (by omega)]
    by_cases h1 : q + k = j
    · subst h1
      rw [if_pos rfl, if_pos (by omega), show q + k - q = k by omega]
    · rw [if_neg h1]
      by_cases h2 : q ≤ j ∧ j < q + k
      · rw [if_pos h2, if_pos (by omega)]
      · rw [if_neg h2, if_neg (by omega)]
theorem wat_eq {xs ys : List Int} (hl : xs.length = ys.length) (h : ∀ i, i < xs.length → wat xs i = wat ys i) : xs = ys := by
  refine List.ext_getElem hl fun i h1 h2 => ?_
  have := h i h1
  simpa [wat, List.getD_eq_getElem?_getD, h1, h2] using this
theorem wat_cons (x : Int) (xs : List Int) (i : Nat) : wat (x :: xs) (i + 1) = wat xs i := rfl
/-- .. the fields that are read are those that were put. -/
theorem flw_put (xs : List Int) (q : Nat) (h lk : Int) (zs : List Int) (hq : q + (zs.length + 2) ≤ xs.length) : flw (putK xs q (h :: lk :: zs) (zs.length + 2)) q zs.length = zs := by
  refine wat_eq (flw_len _ _ _) fun i hi => ?_
  rw [flw_len] at hi
  rw [flw_get _ _ _ _ hi, putK_get _ _ _ _ _ hq, if_pos (by omega), show q + 2 + i - q = i + 1 + 1 by omega, wat_cons, wat_cons]
theorem head_put (xs : List Int) (q : Nat) (h lk : Int) (zs : List Int) (hq : q + (zs.length + 2) ≤ xs.length) : wat (putK xs q (h :: lk :: zs) (zs.length + 2)) q = h := by
  rw [putK_get _ _ _ _ _ hq, if_pos (by omega), Nat.sub_self]; rfl
theorem link_put (xs : List Int) (q : Nat) (h lk : Int) (zs : List Int) (hq : q + (zs.length + 2) ≤ xs.length) : wat (putK xs q (h :: lk :: zs) (zs.length + 2)) (q + 1) = lk := by
  rw [putK_get _ _ _ _ _ hq, if_pos (by omega), show q + 1 - q = 0 + 1 by omega]; rfl
/-- What an object that may be put is. -/
theorem ptE_ok {t s : Int} {ss : List ByteArray} {at_ sh mk_ : Int} {l : Nat} (h : ptE t s ss at_ sh mk_ l = 0) : ok sh mk_ = true ∧ (sz ss sh).2 = 0 ∧ (l : Int) = (sz ss sh).1 - 2 ∧ spc t s at_ = true ∧ (sz ss sh).1 ≤ eo t s at_ - at_ := by
  unfold ptE at h
  by_cases h1 : ok sh mk_ = false
  · rw [if_pos h1] at h; cases h
  · rw [if_neg h1] at h
    by_cases h2 : (sz ss sh).2 ≠ 0 ∨ (l : Int) ≠ (sz ss sh).1 - 2
    · rw [if_pos h2] at h; cases h
    · rw [if_neg h2] at h
      by_cases h3 : spc t s at_ = false ∨ eo t s at_ - at_ < (sz ss sh).1
      · rw [if_pos h3] at h; cases h
      · refine ⟨by simpa using h1, ?_, ?_, ?_, ?_⟩
        · exact Classical.byContradiction fun e => h2 (.inl e)
        · exact Classical.byContradiction fun e => h2 (.inr e)
        · have : ¬ spc t s at_ = false := fun e => h3 (.inl e)
          simpa using this
        · exact Classical.byContradiction fun e => h3 (.inr (by omega))
/-- .. it stands there then. -/
theorem put_stands {t s : Int} {ss : List ByteArray} {q : Nat} {sh mk_ lk : Int} {zs xs : List Int} (h : ptE t s ss q sh mk_ zs.length = 0) (hq : q + (zs.length + 2) ≤ xs.length) : osz (putK xs q (wd sh mk_ :: lk :: zs) (zs.length + 2)) ss (eo t s q) q = (zs.length : Int) + 2 := by
  obtain ⟨h1, h2, h3, h4, h5⟩ := ptE_ok h
  obtain ⟨e1, e2, _⟩ := isH_wd h1
  have hw : wat (putK xs q (wd sh mk_ :: lk :: zs) (zs.length + 2)) ((q : Int)).toNat = wd sh mk_ := head_put xs q _ lk zs hq
  have hz : szH (wd sh mk_) ss = sz ss sh := by unfold szH; rw [if_pos e1, e2]
  rw [osz_yes (by rw [hw, hz]; exact h2) (by rw [hw, hz]; exact h5), hw, hz]
  omega
theorem ofv_wd {sh mk_ : Int} (h : ok sh mk_ = true) : ofv (wd sh mk_) = (sh, mk_, true) := by
  obtain ⟨e1, e2, e3, _⟩ := isH_wd h
  unfold ofv; rw [if_pos e1, e2, e3]
end Go.Proofs.YtldfmlkjeniemaaGreatDoor
/- The document's Put (lapidaryref07), where it answers an error. -/
set_option linter.unusedVariables false
namespace Go.Proofs.YtldfmlkjeniemaaGreatDoor
open Go.RowKit Go.Ly Go.Hd Go.Sh Go.Ob Go.Sort
/-- What it answers where it refuses: the words that were handed in. -/
abbrev rpNo (la : Option Addr) (N lc : Nat) (er : Int) : Ending := .returned (.tuple #[.slice la N lc, .int .i64 er])
set_option maxRecDepth 100000 in
set_option maxHeartbeats 2000000 in
theorem oPut_no1 (t s : Int) (a : Option Addr) (n c : Nat) (la : Option Addr) (N lc : Nat) (at_ sh mk_ lk wv e0 : Int) (fv : Value) (r : Bool) (w : World)
    (cm : ∀ W, Calls Tryz.prog 35 #[.agg #[.int .i64 sh, .int .i64 mk_]] W fun e w' => e = .returned (.tuple #[.int .u64 wv, .int .i64 e0]) ∧ Below W.heap.size W w')
    (cr : ∀ W, Below w.heap.size w W → Calls Tryz.prog 36 #[.slice la N lc, planV t s a n c] W fun e w' => e = .returned (.bool r) ∧ Below W.heap.size W w')
    (hno : r = false ∨ (r = true ∧ (e0 != 0) = true)) :
    Calls Tryz.prog 15 #[.slice la N lc, planV t s a n c, obV at_ sh mk_ lk fv] w fun e w' => e = rpNo la N lc 2 ∧ Below w.heap.size w w' := by
  obtain ⟨R0, R1, z1, B1⟩ := boxes2 w (plO t s a n c) (obO at_ sh mk_ lk fv)
  have B2 := hid B1
  have R0 := hid R0
  have x1 := at_row R1 1 rfl
  have x2 := at_row R1 2 rfl
  clear B1 R1 z1
  rcases hno with rfl | ⟨rfl, h⟩
  all_goals
    go_enter Tryz.func15, Tryz.ntmps15
    go_wp2_with (go_at_call 35; refine (cm _).mono ?_)
    rintro e w1 ⟨rfl, b1⟩
    have B3 := hid (B2.out.trans (b1.mono B2.out.size))
    have R2 := row_below R0.out b1
    have d0 := at_row R2 0 rfl
    have d1 := at_row R2 1 rfl
    have d2 := at_row R2 2 rfl
    have cr2 := cr _ B3.out
    clear cr cm x1 x2 b1 R2 R0 B2
    go_wp2_with (go_at_call 36; refine cr2.mono ?_)
    rintro e w2 ⟨rfl, b2⟩
    go_wp2
    go_ret2
    exact ⟨rfl, B3.out.trans (b2.mono B3.out.size)⟩
set_option maxRecDepth 100000 in
set_option maxHeartbeats 2000000 in
theorem oPut_no2 (t s : Int) (a : Option Addr) (n c : Nat) (la : Option Addr) (N lc : Nat) (at_ sh mk_ lk wv z e1 : Int) (fa : Option Addr) (fn fc : Nat) (w : World)
    (cm : ∀ W, Calls Tryz.prog 35 #[.agg #[.int .i64 sh, .int .i64 mk_]] W fun e w' => e = .returned (.tuple #[.int .u64 wv, .int .i64 0]) ∧ Below W.heap.size W w')
    (cr : ∀ W, Below w.heap.size w W → Calls Tryz.prog 36 #[.slice la N lc, planV t s a n c] W fun e w' => e = .returned (.bool true) ∧ Below W.heap.size W w')
    (cs : ∀ W, Below w.heap.size w W → Calls Tryz.prog 37 #[.slice a n c, .int .i64 sh] W fun e w' => e = .returned (.tuple #[.int .i64 z, .int .i64 e1]) ∧ w' = W)
    (hno : (e1 != 0) = true ∨ (e1 = 0 ∧ 2 ≤ z ∧ z ≤ 10 ∧ ((fn : Int) != z - 2) = true)) :
    Calls Tryz.prog 15 #[.slice la N lc, planV t s a n c, obV at_ sh mk_ lk (.slice fa fn fc)] w fun e w' => e = rpNo la N lc 2 ∧ Below w.heap.size w w' := by
  obtain ⟨R0, R1, z1, B1⟩ := boxes2 w (plO t s a n c) (obO at_ sh mk_ lk (.slice fa fn fc))
  have B2 := hid B1
  have R0 := hid R0
  have x1 := at_row R1 1 rfl
  have x2 := at_row R1 2 rfl
  have R1 := hid R1
  clear B1 z1
  rcases hno with h | ⟨rfl, z2, z9, h⟩
  all_goals
    go_enter Tryz.func15, Tryz.ntmps15
    go_wp2_with (go_at_call 35; refine (cm _).mono ?_)
    rintro e w1 ⟨rfl, b1⟩
    have B3 := hid (B2.out.trans (b1.mono B2.out.size))
    have R2 := hid (row_below R0.out b1)
    have R3 := hid (row_below R1.out b1)
    have d0 := at_row R2.out 0 rfl
    have d1 := at_row R2.out 1 rfl
    have d2 := at_row R2.out 2 rfl
    have cr2 := cr _ B3.out
    clear cr cm x1 x2 b1 R0 R1 B2
    go_wp2_with (go_at_call 36; refine cr2.mono ?_)
    rintro e w2 ⟨rfl, b2⟩
    have B4 := hid (B3.out.trans (b2.mono B3.out.size))
    have R4 := row_below R2.out b2
    have R5 := row_below R3.out b2
    have d2 := at_row R4 2 rfl
    have x1 := at_row R5 1 rfl
    have x4 := at_row R5 4 rfl
    have cs2 := cs _ B4.out
    clear cr2 cs d0 d1 b2 R2 R3 B3 R4 R5
    go_wp2_with (go_at_call 37; refine cs2.mono ?_; rintro e w' ⟨rfl, hw⟩; rw [hw]; clear hw)
    go_ret2
    exact ⟨rfl, B4.out⟩
set_option maxRecDepth 100000 in
set_option maxHeartbeats 4000000 in
theorem oPut_no3 (t s : Int) (a : Option Addr) (n c : Nat) (la : Option Addr) (N lc : Nat) (at_ sh mk_ lk wv z q b : Int) (fa : Option Addr) (fn fc : Nat) (w : World)
    (cm : ∀ W, Calls Tryz.prog 35 #[.agg #[.int .i64 sh, .int .i64 mk_]] W fun e w' => e = .returned (.tuple #[.int .u64 wv, .int .i64 0]) ∧ Below W.heap.size W w')
    (cr : ∀ W, Below w.heap.size w W → Calls Tryz.prog 36 #[.slice la N lc, planV t s a n c] W fun e w' => e = .returned (.bool true) ∧ Below W.heap.size W w')
    (cs : ∀ W, Below w.heap.size w W → Calls Tryz.prog 37 #[.slice a n c, .int .i64 sh] W fun e w' => e = .returned (.tuple #[.int .i64 z, .int .i64 0]) ∧ w' = W)
    (cp : ∀ W, Calls Tryz.prog 38 #[planV t s a n c, .int .i64 at_] W fun e w' => e = .returned (.int .i64 q) ∧ Below W.heap.size W w')
    (cb : 0 ≤ q → ∀ W, Calls Tryz.prog 39 #[planV t s a n c, .int .i64 q] W fun e w' => e = .returned (.int .i64 b) ∧ Below W.heap.size W w')
    (z2 : 2 ≤ z) (z9 : z ≤ 10) (hfn : (fn : Int) = z - 2)
    (hno : q < 0 ∨ (0 ≤ q ∧ 0 ≤ b ∧ b ≤ 10000 ∧ 0 ≤ at_ ∧ at_ ≤ 10000 ∧ s < at_ - b + z)) :
    Calls Tryz.prog 15 #[.slice la N lc, planV t s a n c, obV at_ sh mk_ lk (.slice fa fn fc)] w fun e w' => e = rpNo la N lc 4 ∧ Below w.heap.size w w' := by
  obtain ⟨R0, R1, z1, B1⟩ := boxes2 w (plO t s a n c) (obO at_ sh mk_ lk (.slice fa fn fc))
  have B2 := hid B1
  have R0 := hid R0
  have x1 := at_row R1 1 rfl
  have x2 := at_row R1 2 rfl
  have R1 := hid R1
  have hfn' : ((fn : Int) != z - 2) = false := by rw [hfn]; simp
  clear B1 z1 hfn
  have hno : decide (q < 0) = true ∨ (decide (q < 0) = false ∧ 0 ≤ b ∧ b ≤ 10000 ∧ 0 ≤ at_ ∧ at_ ≤ 10000 ∧ s < at_ - b + z) := by
    rcases hno with h | ⟨h, h2⟩
    · exact .inl (by simpa using h)
    · exact .inr ⟨by simpa using h, h2⟩
  rcases hno with h | ⟨h, b0, b9, a0, a9, h2⟩
  all_goals
    go_enter Tryz.func15, Tryz.ntmps15
    go_wp2_with (go_at_call 35; refine (cm _).mono ?_)
    rintro e w1 ⟨rfl, b1⟩
    have B3 := hid (B2.out.trans (b1.mono B2.out.size))
    have R2 := hid (row_below R0.out b1)
    have R3 := hid (row_below R1.out b1)
    have d0 := at_row R2.out 0 rfl
    have d1 := at_row R2.out 1 rfl
    have d2 := at_row R2.out 2 rfl
    have cr2 := cr _ B3.out
    clear cr cm x1 x2 b1 R0 R1 B2
    go_wp2_with (go_at_call 36; refine cr2.mono ?_)
    rintro e w2 ⟨rfl, b2⟩
    have B4 := hid (B3.out.trans (b2.mono B3.out.size))
    have R4 := hid (row_below R2.out b2)
    have R5 := hid (row_below R3.out b2)
    have d0 := at_row R4.out 0 rfl
    have d1 := at_row R4.out 1 rfl
    have d2 := at_row R4.out 2 rfl
    have x0 := at_row R5.out 0 rfl
    have x1 := at_row R5.out 1 rfl
    have x4 := at_row R5.out 4 rfl
    have cs2 := cs _ B4.out
    clear cr2 cs b2 R2 R3 B3
    go_wp2_with (first | (go_at_call 37; refine cs2.mono ?_; rintro e w' ⟨rfl, hw⟩; rw [hw]; clear hw) | (go_at_call 38; refine (cp _).mono ?_))
    rintro e w3 ⟨rfl, b3⟩
    have B5 := hid (B4.out.trans (b3.mono B4.out.size))
    have c0 := cell_regrown (at_row (row_below R4.out b3) 0 rfl)
    have c1 := cell_regrown (at_row (row_below R4.out b3) 1 rfl)
    have c2 := cell_regrown (at_row (row_below R4.out b3) 2 rfl)
    have y0 := cell_regrown (at_row (row_below R5.out b3) 0 rfl)
    have y4 := cell_regrown (at_row (row_below R5.out b3) 4 rfl)
    have cb2 := fun d os (h0 : 0 ≤ q) => Calls.regrown_of (cb h0 (grow (redrawn w3 d) os))
    clear cs2 cp cb d0 d1 d2 x0 x1 x4 R4 R5
    go_wp2_with fail
    refine wp_region_quiet_below (by kernel_rfl) (by kernel_rfl) ?_
    repeat (go_big_quiet_step ((first | (go_at_call 39; exact cb2 _ _ (by simpa using h)))))
    refine wpQuiet_nil ?_
    intro _ hw'
    obtain ⟨⟨dq, osq⟩, hw''⟩ := hw'
    subst hw''
    have B6 := hid (B5.out.trans ((below_regrown w3 dq osq).mono B5.out.size))
    clear c0 c1 c2 y0 y4 cb2 b3
    generalize grow (redrawn w3 dq) osq = W6 at *
    go_wp2
    go_ret2
    exact ⟨rfl, B6.out⟩
end Go.Proofs.YtldfmlkjeniemaaGreatDoor
/- The document's functions of layer 5 (lapidaryref05): Check, Put, Do, Load, Store, Cas. -/
namespace Go.Proofs.YtldfmlkjeniemaaGreatDoor
open Go.RowKit
theorem nz {x : Int} (h : x ≠ 0) : (x != 0) = true := by simpa using h
theorem info_u64 : (Tryz.prog.info? 39).map (fun i => (i.zero, i.size, i.bytes)) = some (some (.int .u64 0), 1, 8) := by kernel_rfl
/-- A row that begins with so many words, one of them set. -/
theorem ws_row {W : World} {g : Nat} {cur : Array Value} {xs : List Int} {t : TypeId} (hg : W.heap[g]? = some (.cells cur t)) (ht : cur.toList.take xs.length = (wds xs).toList) (p : Nat) (n : Int) : Ws (W.setCell ⟨g, p, none⟩ (.int .u64 n)) g 0 (xs.set p n) := by
  have e := setCell_eq_setRow W g p cur t (0, 0) (.int .u64 n) hg
  intro i hi
  rw [List.length_set] at hi
  rw [e, Nat.zero_add, at_row (setRow_heap W g cur _ _ _ hg) i]
  rw [Array.getElem?_setIfInBounds]
  have hc : cur[i]? = some (.int .u64 (wat xs i)) := by
    have h1 : (cur.toList.take xs.length)[i]? = (wds xs).toList[i]? := by rw [ht]
    rw [List.getElem?_take, if_pos hi] at h1
    have h2 := wds_get xs i hi
    simp only [Array.getElem?_toList] at h1
    rw [h1, h2]
  have hs : i < cur.size := (Array.getElem?_eq_some_iff.1 hc).1
  by_cases hpi : p = i
  · subst hpi
    rw [if_pos rfl, if_pos hs]
    simp [wat, List.getD, hi]
  · rw [if_neg hpi, hc]
    simp [wat, List.getD, List.getElem?_set_ne hpi]
theorem own_row {W : World} {base m : Nat} {e : TypeId} {v : Value} {vs : List Value} (h : W.ownsRow base e 1 v (0 + m) ([] ++ vs)) (hm : 1 ≤ m) : ∃ g c cur, v = .slice (some ⟨g, 0, none⟩) m c ∧ base ≤ g ∧ W.heap[g]? = some (.cells cur e) ∧ cur.toList.take m = vs ∧ m ≤ cur.size := by
  rcases h.2 with ⟨_, h0⟩ | ⟨g, cap, cur, h1, h2, h3, h4, h5, h6, h7⟩
  · omega
  · refine ⟨g, cap, cur, by rw [h1, Nat.zero_add], h2, h3, ?_, by omega⟩
    simpa using h7
end Go.Proofs.YtldfmlkjeniemaaGreatDoor
