/- package object: Put. -/
import Derived.Test.YtldfmlkjeniemaaDoorObLayOn
import Derived.Test.YtldfmlkjeniemaaDoorObPlaceTOn
set_option linter.unusedVariables false
namespace Go.Proofs.YtldfmlkjeniemaaDoor
open Go.RowKit Go.Ly Go.Hd Go.Sh Go.Ob
set_option maxRecDepth 100000 in
set_option maxHeartbeats 2000000 in
theorem Put_up (k : Int) (P : Option Addr) (t s : Int) (a : Option Addr) (n c : Nat) (at_ sh mk_ lk : Int) (fa : Option Addr) (fn fc : Nat) (w : World)
    (hc : ∀ (W0 We : World) (ga gp gx : Nat), Hs9 W0 ga 0 (.pointer P) gp 0 (.int .i64 t) gp 1 (.int .i64 s) gp 2 (.slice a n c) gx 0 (.int .i64 at_) gx 1 (.int .i64 sh) gx 2 (.int .i64 mk_) gx 3 (.int .u64 lk) gx 4 (.slice fa fn fc) W0 → Below W0.heap.size W0 We → Below w.heap.size w We →
      Calls Tryd.prog 34 #[.pointer (some ⟨ga, 0, none⟩), .pointer (some ⟨gp, 0, none⟩), .pointer (some ⟨gx, 0, none⟩)] We fun e w' => e = upE k ∧ Below We.heap.size We w') :
    Calls Tryd.prog 17 #[.pointer P, planV t s a n c, obV at_ sh mk_ lk (.slice fa fn fc)] w fun e w' => e = .returned (.int .i64 k) ∧ Below w.heap.size w w' := by
  have hmf : ∀ (fn : Fn) (first cap : Array Value) (w : World), (Instr.makeFunc fn first cap).run Tryd.prog w = .ok (.func fn first cap) w := fun _ _ _ _ => rfl
  go_enter Tryd.func17, Tryd.ntmps17
  go_wp2_with fail
  have hcf : ∀ (cap : Array Value) (w : World), (callFunc 34 cap).run Tryd.prog w = .ok (.enter 34 cap) w := fun _ _ => rfl
  have hr := boxes3 w (paO P) (plO t s a n c) (obO at_ sh mk_ lk (.slice fa fn fc))
  generalize ((w.alloc (paO P)).alloc (plO t s a n c)).alloc (obO at_ sh mk_ lk (.slice fa fn fc)) = W0 at *
  obtain ⟨Ra, Rp, Rx, zW, BW⟩ := hr
  have hh := hc W0 (W0.alloc (errO 0)) w.heap.size (w.heap.size + 1) (w.heap.size + 1 + 1)
    ⟨at_row Ra 0 rfl, at_row Rp 0 rfl, at_row Rp 1 rfl, at_row Rp 2 rfl, at_row Rx 0 rfl, at_row Rx 1 rfl, at_row Rx 2 rfl, at_row Rx 3 rfl, at_row Rx 4 rfl, Below.refl _ _⟩ (below_alloc0 _ _) (BW.trans ((below_alloc0 _ _).mono BW.size))
  refine (caught_up _ _ k _ (fun w1 => Below (W0.alloc (errO 0)).heap.size (W0.alloc (errO 0)) w1) (hcf _) (hh.mono ?_)).mono ?_
  · rintro e w1 ⟨rfl, b⟩
    exact ⟨rfl, row_below (heap_alloc_last W0 _) b, b⟩
  rintro e w' ⟨rfl, w1, w2, b1, _, b2, rfl⟩
  have B2 := hid ((BW.trans (((below_alloc0 W0 (errO 0)).trans ((b1.trans (b2.mono b1.size)).mono (by simp))).mono BW.size)).setCell (p := ⟨W0.heap.size, 0, none⟩) BW.size (.int .i64 k))
  clear hh hc b1 b2 zW
  dsimp only
  generalize w2.setCell _ _ = W3 at *
  go_wp2
  go_ret
  exact ⟨rfl, B2.out⟩
set_option maxRecDepth 100000 in
set_option maxHeartbeats 2000000 in
theorem Put_okc (A B : Nat) (ys : List Int) (t s : Int) (a : Option Addr) (n c : Nat) (at_ sh mk_ lk : Int) (fa : Option Addr) (fn fc : Nat) (w : World) (hA : A < w.heap.size) (hBl : B < w.heap.size)
    (hc : ∀ (W0 We : World) (ga gp gx : Nat), Hs9 W0 ga 0 (.pointer (some ⟨A, 0, none⟩)) gp 0 (.int .i64 t) gp 1 (.int .i64 s) gp 2 (.slice a n c) gx 0 (.int .i64 at_) gx 1 (.int .i64 sh) gx 2 (.int .i64 mk_) gx 3 (.int .u64 lk) gx 4 (.slice fa fn fc) W0 → Below W0.heap.size W0 We → Below w.heap.size w We → ga ≠ B → gx ≠ B →
      Calls Tryd.prog 34 #[.pointer (some ⟨ga, 0, none⟩), .pointer (some ⟨gp, 0, none⟩), .pointer (some ⟨gx, 0, none⟩)] We fun e w' => e = .returned (.tuple #[]) ∧ IsAr w' A B ys ∧ We.grownBy w' (some B)) :
    Calls Tryd.prog 17 #[.pointer (some ⟨A, 0, none⟩), planV t s a n c, obV at_ sh mk_ lk (.slice fa fn fc)] w fun e w' => e = .returned (.int .i64 0) ∧ IsAr w' A B ys ∧ w.grownBy w' (some B) := by
  have hmf : ∀ (fn : Fn) (first cap : Array Value) (w : World), (Instr.makeFunc fn first cap).run Tryd.prog w = .ok (.func fn first cap) w := fun _ _ _ _ => rfl
  go_enter Tryd.func17, Tryd.ntmps17
  go_wp2_with fail
  have hcf : ∀ (cap : Array Value) (w : World), (callFunc 34 cap).run Tryd.prog w = .ok (.enter 34 cap) w := fun _ _ => rfl
  have hr := boxes3 w (paO (some ⟨A, 0, none⟩)) (plO t s a n c) (obO at_ sh mk_ lk (.slice fa fn fc))
  generalize ((w.alloc (paO (some ⟨A, 0, none⟩))).alloc (plO t s a n c)).alloc (obO at_ sh mk_ lk (.slice fa fn fc)) = W0 at *
  obtain ⟨Ra, Rp, Rx, zW, BW⟩ := hr
  have hz := BW.size
  have hh := hc W0 (W0.alloc (errO 0)) w.heap.size (w.heap.size + 1) (w.heap.size + 1 + 1)
    ⟨at_row Ra 0 rfl, at_row Rp 0 rfl, at_row Rp 1 rfl, at_row Rp 2 rfl, at_row Rx 0 rfl, at_row Rx 1 rfl, at_row Rx 2 rfl, at_row Rx 3 rfl, at_row Rx 4 rfl, Below.refl _ _⟩ (below_alloc0 _ _) (BW.trans ((below_alloc0 _ _).mono BW.size)) (by omega) (by omega)
  refine (caught_ok _ _ _ (fun w1 => IsAr w1 A B ys ∧ (W0.alloc (errO 0)).grownBy w1 (some B)) (hcf _) (hh.mono ?_)).mono ?_
  · rintro e w1 ⟨rfl, a1, g1⟩
    exact ⟨rfl, (g1.block _ (by simp) (fun e => by cases e; omega)).trans (heap_alloc_last W0 _), a1, g1⟩
  rintro e w' ⟨rfl, w1, ⟨a1, g1⟩, _, rfl⟩
  have A2 := hid (show IsAr (w1.setCell ⟨W0.heap.size, 0, none⟩ (.int .i64 0)) A B ys from ⟨okeep_row (by omega) a1.face, okeep_row (by omega) a1.row, a1.ne, a1.bnd, a1.pos, a1.le⟩)
  have G2 := hid (show w.grownBy (w1.setCell ⟨W0.heap.size, 0, none⟩ (.int .i64 0)) (some B) from by
    have g2 := grown_trans (grown_below (BW.trans ((below_alloc0 W0 (errO 0)).mono BW.size)) (some B)) g1
    refine ⟨g2.os, g2.tape, g2.output, Nat.le_trans g2.size (by simp [World.setCell]), fun k hk hne => ?_⟩
    rw [← g2.block k hk hne]
    simp [World.setCell, Array.getElem?_modify, show W0.heap.size ≠ k by omega])
  clear hh hc a1 g1 zW
  dsimp only
  generalize w1.setCell _ _ = W3 at *
  go_wp2
  go_ret
  exact ⟨rfl, A2.out, G2.out⟩
theorem Put_nil (P : Option Addr) (a0 : Option Addr) (c0 : Nat) (t s : Int) (a : Option Addr) (n c : Nat) (at_ sh mk_ lk : Int) (fa : Option Addr) (fn fc : Nat) (w : World) (hf : Faces w (.pointer P) (.slice a0 0 c0)) :
    Calls Tryd.prog 17 #[.pointer P, planV t s a n c, obV at_ sh mk_ lk (.slice fa fn fc)] w fun e w' => e = .returned (.int .i64 1) ∧ Below w.heap.size w w' :=
  Put_up 1 P t s a n c at_ sh mk_ lk fa fn fc w fun W0 We ga gp gx H0 HB HW => clou_open W0 We ga gp gx P t s a n c at_ sh mk_ lk fa fn fc H0 HB 1 fun W hW => open_nil _ a0 c0 t s a n c W (hf.below (HW.trans (hW.mono HW.size)))
theorem Put_bad (A B : Nat) (xs : List Int) (ss : List ByteArray) (z : Int) (t s : Int) (a : Option Addr) (n c : Nat) (at_ sh mk_ lk : Int) (fa : Option Addr) (fn fc : Nat) (w : World) (hT : IsTab w (.slice a n c) ss) (ha : IsAr w A B xs) (hr : rgt t s ss = true) (hz : 3 + t + t + 2 * s = z) (hl : ((z : Int) != xs.length) = true) :
    Calls Tryd.prog 17 #[.pointer (some ⟨A, 0, none⟩), planV t s a n c, obV at_ sh mk_ lk (.slice fa fn fc)] w fun e w' => e = .returned (.int .i64 2) ∧ Below w.heap.size w w' :=
  Put_up 2 _ t s a n c at_ sh mk_ lk fa fn fc w fun W0 We ga gp gx H0 HB HW => clou_open W0 We ga gp gx _ t s a n c at_ sh mk_ lk fa fn fc H0 HB 2 fun W hW => open_bad t s a n c ss A B xs z W (hT.below (Nat.le_refl _) (HW.trans (hW.mono HW.size))) (ha.below (HW.trans (hW.mono HW.size))) hr hz hl
/-- The error of an object that is put. -/
def ptE (t s : Int) (ss : List ByteArray) (at_ sh mk_ : Int) (l : Nat) : Int :=
  if ok sh mk_ = false then 2 else if (sz ss sh).2 ≠ 0 ∨ (l : Int) ≠ (sz ss sh).1 - 2 then 2 else if spc t s at_ = false ∨ eo t s at_ - at_ < (sz ss sh).1 then 4 else 0
theorem sz_bd {ss : List ByteArray} {sh : Int} (h : (sz ss sh).2 = 0) : 2 ≤ (sz ss sh).1 ∧ (sz ss sh).1 ≤ 10 := by
  unfold sz at h ⊢
  by_cases hr : right ss = true
  · rw [if_pos hr] at h ⊢
    by_cases hn : inR sh ss.length = true
    · rw [if_pos hn]
      have hl : sh.toNat < ss.length := by simp [inR] at hn; omega
      have := one_size (right_all hr _ hl)
      simp only
      omega
    · rw [if_neg hn] at h; cases h
  · rw [if_neg hr] at h; cases h
theorem Put_err (A B : Nat) (xs : List Int) (ss : List ByteArray) (t s : Int) (a : Option Addr) (n c : Nat) (at_ sh mk_ lk er : Int) (fa : Option Addr) (fn fc : Nat) (w : World) (h : IsHp w t s a n c ss A B xs) (he : Hid (ptE t s ss at_ sh mk_ fn = er)) (hne : er ≠ 0) :
    Calls Tryd.prog 17 #[.pointer (some ⟨A, 0, none⟩), planV t s a n c, obV at_ sh mk_ lk (.slice fa fn fc)] w fun e w' => e = .returned (.int .i64 er) ∧ Below w.heap.size w w' := by
  have he := he.out
  unfold ptE at he
  have co := fun (We : World) (HW : Below w.heap.size w We) W (hW : Below We.heap.size We W) => open_ok t s a n c ss A B xs W (h.below (HW.trans (hW.mono HW.size)))
  by_cases h1 : ok sh mk_ = false
  · rw [if_pos h1] at he
    subst he
    exact Put_up 2 _ t s a n c at_ sh mk_ lk fa fn fc w fun W0 We ga gp gx H0 HB HW => clou_last W0 We ga gp gx _ t s a n c at_ sh mk_ lk fa fn fc H0 HB 2 A (co We HW) fun L W hW hL => lay_head t s a n c L 0 0 at_ sh mk_ lk fa fn fc W h1
  · rw [if_neg h1] at he
    have h1 : ok sh mk_ = true := by simpa using h1
    by_cases h2 : (sz ss sh).2 ≠ 0 ∨ (fn : Int) ≠ (sz ss sh).1 - 2
    · rw [if_pos h2] at he
      subst he
      exact Put_up 2 _ t s a n c at_ sh mk_ lk fa fn fc w fun W0 We ga gp gx H0 HB HW => clou_last W0 We ga gp gx _ t s a n c at_ sh mk_ lk fa fn fc H0 HB 2 A (co We HW) fun L W hW hL => lay_arg t s a n c L ss 0 0 at_ sh mk_ lk (sz ss sh).1 (sz ss sh).2 fa fn fc W (h.tab.below (Nat.le_refl _) (HW.trans (hW.mono HW.size))) h1 (hid rfl) (by
        by_cases h3 : (sz ss sh).2 = 0
        · have := sz_bd h3
          exact .inr ⟨h3, this.1, this.2, by simpa [h3] using h2⟩
        · exact .inl (by simpa using h3))
    · rw [if_neg h2] at he
      have h2' : (sz ss sh).2 = 0 ∧ (fn : Int) = (sz ss sh).1 - 2 := by simpa using h2
      have hb := sz_bd h2'.1
      by_cases h3 : spc t s at_ = false ∨ eo t s at_ - at_ < (sz ss sh).1
      · rw [if_pos h3] at he
        subst he
        exact Put_up 4 _ t s a n c at_ sh mk_ lk fa fn fc w fun W0 We ga gp gx H0 HB HW => clou_last W0 We ga gp gx _ t s a n c at_ sh mk_ lk fa fn fc H0 HB 4 A (co We HW) fun L W hW hL => lay_range t s a n c L ss 0 0 at_ sh mk_ lk _ fa fn fc W (h.tab.below (Nat.le_refl _) (HW.trans (hW.mono HW.size))) h.rg h1 (hid (Prod.ext rfl h2'.1)) hb.1 hb.2 h2'.2 (by
          by_cases h4 : spc t s at_ = false
          · exact .inl h4
          · exact .inr ⟨by simpa using h4, by rcases h3 with h3 | h3; exact absurd h3 h4; exact h3⟩)
      · rw [if_neg h3] at he
        exact absurd he.symm hne
theorem Put_ok (A B : Nat) (xs : List Int) (ss : List ByteArray) (t s : Int) (a : Option Addr) (n c : Nat) (q : Nat) (sh mk_ lk : Int) (fv : Value) (zs : List Int) (w : World) (h : IsHp w t s a n c ss A B xs) (he : Hid (ptE t s ss q sh mk_ zs.length = 0)) (hv : FsAt 0 w fv zs) (hW : InW (lk :: zs)) :
    Calls Tryd.prog 17 #[.pointer (some ⟨A, 0, none⟩), planV t s a n c, obV q sh mk_ lk fv] w fun e w' => e = .returned (.int .i64 0) ∧ IsAr w' A B (putK xs q (wd sh mk_ :: lk :: zs) (zs.length + 2)) ∧ w.grownBy w' (some B) := by
  have he := he.out
  unfold ptE at he
  obtain ⟨t0, t1, s0, s1, hx9⟩ := h.size
  have hl := h.len
  have h1 : ok sh mk_ = true := by by_cases h1 : ok sh mk_ = false; (rw [if_pos h1] at he; cases he); simpa using h1
  rw [if_neg (by simp [h1])] at he
  by_cases h2 : (sz ss sh).2 ≠ 0 ∨ (zs.length : Int) ≠ (sz ss sh).1 - 2
  · rw [if_pos h2] at he; cases he
  rw [if_neg h2] at he
  by_cases h3 : spc t s q = false ∨ eo t s q - q < (sz ss sh).1
  · rw [if_pos h3] at he; cases he
  have h2' : (sz ss sh).2 = 0 ∧ (zs.length : Int) = (sz ss sh).1 - 2 := by simpa using h2
  have hb := sz_bd h2'.1
  have h3' : spc t s q = true ∧ (sz ss sh).1 ≤ eo t s q - q := by
    have := h3
    simp only [not_or] at this
    exact ⟨by simpa using this.1, by omega⟩
  have heo := eo_bd s0 h3'.1
  obtain ⟨_, _, _, hw0, hw1⟩ := isH_wd h1
  obtain ⟨fa, fc, rfl, hv'⟩ := hv
  have hv : FsAt 0 w (.slice fa zs.length fc) zs := ⟨fa, fc, rfl, hv'⟩
  refine Put_okc A B _ t s a n c q sh mk_ lk fa zs.length fc w h.ar.ltA h.ar.ltB fun W0 We ga gp gx H0 HB HW hga hgx => ?_
  exact clou_ok A W0 We ga gp gx t s a n c q sh mk_ lk fa zs.length fc H0 HB B xs (wd sh mk_ :: lk :: zs) (h.ar.below HW) hga hgx (by simp) (by simp; omega) (by simp; omega)
    (by intro x hx; rcases List.mem_cons.1 hx with rfl | hx; exact ⟨hw0, by omega⟩; exact hW x hx)
    (fun W hW => open_ok t s a n c ss A B xs W (h.below (HW.trans (hW.mono HW.size))))
    fun L W hW hL => lay_ok t s a n c L ss 0 0 q sh mk_ lk _ _ zs W (h.tab.below (Nat.le_refl _) (HW.trans (hW.mono HW.size))) h.rg h1 (hid (Prod.ext rfl h2'.1)) hb.1 hb.2 h2'.2 h3'.1 h3'.2 (hv.below (HW.trans (hW.mono HW.size)))
end Go.Proofs.YtldfmlkjeniemaaDoor
