/- package object: Read. -/
import Derived.Test.YtldfmlkjeniemaaDoorObCloR
import Derived.Test.YtldfmlkjeniemaaDoorObToOn
import Derived.Test.YtldfmlkjeniemaaDoorObPlaceTOn
set_option linter.unusedVariables false
namespace Go.Proofs.YtldfmlkjeniemaaDoor
open Go.RowKit Go.Ly Go.Hd Go.Sh Go.Ob
set_option maxRecDepth 100000 in
set_option maxHeartbeats 2000000 in
theorem Read_up (k : Int) (P : Option Addr) (t s : Int) (a : Option Addr) (n c : Nat) (x : Int) (w : World)
    (hc : ∀ (W0 We : World) (ga gp gt gx : Nat), Hs5 W0 ga 0 (.pointer P) gp 0 (.int .i64 t) gp 1 (.int .i64 s) gp 2 (.slice a n c) gt 0 (.int .i64 x) W0 → Below W0.heap.size W0 We → Below w.heap.size w We →
      Calls Tryd.prog 32 #[.pointer (some ⟨ga, 0, none⟩), .pointer (some ⟨gp, 0, none⟩), .pointer (some ⟨gt, 0, none⟩), .pointer (some ⟨gx, 0, none⟩)] We fun e w' => e = upE k ∧ Below We.heap.size We w') :
    Calls Tryd.prog 16 #[.pointer P, planV t s a n c, .int .i64 x] w fun e w' => e = .returned (.tuple #[obV 0 0 0 0 (.slice none 0 0), .int .i64 k]) ∧ Below w.heap.size w w' := by
  have hmf : ∀ (fn : Fn) (first cap : Array Value) (w : World), (Instr.makeFunc fn first cap).run Tryd.prog w = .ok (.func fn first cap) w := fun _ _ _ _ => rfl
  go_enter Tryd.func16, Tryd.ntmps16
  go_wp2_with fail
  have hcf : ∀ (cap : Array Value) (w : World), (callFunc 32 cap).run Tryd.prog w = .ok (.enter 32 cap) w := fun _ _ => rfl
  have hr := boxes3 w (paO P) (plO t s a n c) (iO x)
  generalize ((w.alloc (paO P)).alloc (plO t s a n c)).alloc (iO x) = W0 at *
  obtain ⟨Ra, Rp, Rt, zW, BW⟩ := hr
  obtain ⟨Rr, Rn, Re, zE, BE⟩ := boxes3 W0 (obO 0 0 0 0 (.slice none 0 0)) (obO 0 0 0 0 (.slice none 0 0)) (errO 0)
  have hh := hc W0 (((W0.alloc (obO 0 0 0 0 (.slice none 0 0))).alloc (obO 0 0 0 0 (.slice none 0 0))).alloc (errO 0)) w.heap.size (w.heap.size + 1) (w.heap.size + 1 + 1) (w.heap.size + 1 + 1 + 1 + 1)
    ⟨at_row Ra 0 rfl, at_row Rp 0 rfl, at_row Rp 1 rfl, at_row Rp 2 rfl, at_row Rt 0 rfl, Below.refl _ _⟩ BE (BW.trans (BE.mono BW.size))
  rw [← zW] at hh ⊢
  have hn1 : ((W0.alloc (obO 0 0 0 0 (.slice none 0 0))).alloc (obO 0 0 0 0 (.slice none 0 0))).heap.size = W0.heap.size + 1 + 1 := by simp
  refine (caught_up _ _ k _ (fun w1 => Below (((W0.alloc (obO 0 0 0 0 (.slice none 0 0))).alloc (obO 0 0 0 0 (.slice none 0 0))).alloc (errO 0)).heap.size (((W0.alloc (obO 0 0 0 0 (.slice none 0 0))).alloc (obO 0 0 0 0 (.slice none 0 0))).alloc (errO 0)) w1) (hcf _) (hh.mono ?_)).mono ?_
  · rintro e w1 ⟨rfl, b⟩
    exact ⟨rfl, by rw [hn1]; exact row_below Re b, b⟩
  rintro e w' ⟨rfl, w1, w2, b1, _, b2, rfl⟩
  rw [hn1]
  have Rn2 := okeep_row (i := 0) (v := .int .i64 k) (show W0.heap.size + 1 ≠ W0.heap.size + 1 + 1 by omega) (row_below (row_below Rn b1) b2)
  have Rr2 := hid (okeep_row (i := 0) (v := .int .i64 k) (show W0.heap.size ≠ W0.heap.size + 1 + 1 by omega) (row_below (row_below Rr b1) b2))
  have B2 := hid ((BW.trans ((BE.trans ((b1.trans (b2.mono b1.size)).mono BE.size)).mono BW.size)).setCell (p := ⟨W0.heap.size + 1 + 1, 0, none⟩) (by have := BW.size; show w.heap.size ≤ W0.heap.size + 1 + 1; omega) (.int .i64 k))
  have zz := BW.size
  clear hh hc b1 b2 Rn Re Rr zW zE hn1 BE
  dsimp only
  generalize w2.setCell _ _ = W3 at *
  have d0 := at_row Rn2 0 rfl
  have d1 := at_row Rn2 1 rfl
  have d2 := at_row Rn2 2 rfl
  have d3 := at_row Rn2 3 rfl
  have d4 := at_row Rn2 4 rfl
  have e0 := at_row Rr2.out 0 rfl
  have e1 := at_row Rr2.out 1 rfl
  have e2 := at_row Rr2.out 2 rfl
  have e3 := at_row Rr2.out 3 rfl
  have e4 := at_row Rr2.out 4 rfl
  have f0 := fz_row Rr2.out 0
  have f1 := fz_row Rr2.out 1
  have f2 := fz_row Rr2.out 2
  have f3 := fz_row Rr2.out 3
  have f4 := fz_row Rr2.out 4
  clear Rn2
  go_wp2
  have Rf := set5_row Rr2.out (.int .i64 0) (.int .i64 0) (.int .i64 0) (.int .u64 0) (.slice none 0 0)
  generalize hWf : World.setCell (World.setCell (World.setCell (World.setCell (World.setCell W3 _ _) _ _) _ _) _ _) _ _ = Wf at *
  have g0 := at_row Rf 0 rfl
  have g1 := at_row Rf 1 rfl
  have g2 := at_row Rf 2 rfl
  have g3 := at_row Rf 3 rfl
  have g4 := at_row Rf 4 rfl
  refine bodyPost_ret (v := .tuple #[obV 0 0 0 0 (.slice none 0 0), .int .i64 k]) (by simp [results, Tryd.results16, go_sem, g0, g1, g2, g3, g4]) rfl ?_
  subst hWf
  exact ⟨rfl, five_set B2.out zz _ _ _ _ _⟩
set_option maxRecDepth 100000 in
set_option maxHeartbeats 2000000 in
theorem Read_okc (sh mk_ lk : Int) (zs : List Int) (P : Option Addr) (t s : Int) (a : Option Addr) (n c : Nat) (x : Int) (w : World)
    (hc : ∀ (W0 We : World) (ga gp gt gx : Nat), Hs5 W0 ga 0 (.pointer P) gp 0 (.int .i64 t) gp 1 (.int .i64 s) gp 2 (.slice a n c) gt 0 (.int .i64 x) W0 → Below W0.heap.size W0 We → Below w.heap.size w We → W0.heap.size ≤ gx → We.heap[gx]? = some (obO 0 0 0 0 (.slice none 0 0)) →
      Calls Tryd.prog 32 #[.pointer (some ⟨ga, 0, none⟩), .pointer (some ⟨gp, 0, none⟩), .pointer (some ⟨gt, 0, none⟩), .pointer (some ⟨gx, 0, none⟩)] We fun e w' => e = .returned (.tuple #[]) ∧ ∃ w3 v, Below We.heap.size We w3 ∧ FsAt We.heap.size w3 v zs ∧ w' = ((((w3.setCell ⟨gx, 0, none⟩ (.int .i64 x)).setCell ⟨gx, 1, none⟩ (.int .i64 sh)).setCell ⟨gx, 2, none⟩ (.int .i64 mk_)).setCell ⟨gx, 3, none⟩ (.int .u64 lk)).setCell ⟨gx, 4, none⟩ v) :
    Calls Tryd.prog 16 #[.pointer P, planV t s a n c, .int .i64 x] w fun e w' => ∃ v, e = .returned (.tuple #[obV x sh mk_ lk v, .int .i64 0]) ∧ FsAt w.heap.size w' v zs ∧ Below w.heap.size w w' := by
  have hmf : ∀ (fn : Fn) (first cap : Array Value) (w : World), (Instr.makeFunc fn first cap).run Tryd.prog w = .ok (.func fn first cap) w := fun _ _ _ _ => rfl
  go_enter Tryd.func16, Tryd.ntmps16
  go_wp2_with fail
  have hcf : ∀ (cap : Array Value) (w : World), (callFunc 32 cap).run Tryd.prog w = .ok (.enter 32 cap) w := fun _ _ => rfl
  have hr := boxes3 w (paO P) (plO t s a n c) (iO x)
  generalize ((w.alloc (paO P)).alloc (plO t s a n c)).alloc (iO x) = W0 at *
  obtain ⟨Ra, Rp, Rt, zW, BW⟩ := hr
  obtain ⟨Rr, Rn, Re, zE, BE⟩ := boxes3 W0 (obO 0 0 0 0 (.slice none 0 0)) (obO 0 0 0 0 (.slice none 0 0)) (errO 0)
  have hh := hc W0 (((W0.alloc (obO 0 0 0 0 (.slice none 0 0))).alloc (obO 0 0 0 0 (.slice none 0 0))).alloc (errO 0)) w.heap.size (w.heap.size + 1) (w.heap.size + 1 + 1) (w.heap.size + 1 + 1 + 1 + 1)
    ⟨at_row Ra 0 rfl, at_row Rp 0 rfl, at_row Rp 1 rfl, at_row Rp 2 rfl, at_row Rt 0 rfl, Below.refl _ _⟩ BE (BW.trans (BE.mono BW.size)) (by omega)
  rw [← zW] at hh ⊢
  have hh := hh Rn
  have hn1 : ((W0.alloc (obO 0 0 0 0 (.slice none 0 0))).alloc (obO 0 0 0 0 (.slice none 0 0))).heap.size = W0.heap.size + 1 + 1 := by simp
  refine (caught_ok _ _ _ (fun w1 => ∃ w3 v, Below (((W0.alloc (obO 0 0 0 0 (.slice none 0 0))).alloc (obO 0 0 0 0 (.slice none 0 0))).alloc (errO 0)).heap.size (((W0.alloc (obO 0 0 0 0 (.slice none 0 0))).alloc (obO 0 0 0 0 (.slice none 0 0))).alloc (errO 0)) w3 ∧ FsAt (((W0.alloc (obO 0 0 0 0 (.slice none 0 0))).alloc (obO 0 0 0 0 (.slice none 0 0))).alloc (errO 0)).heap.size w3 v zs ∧ w1 = ((((w3.setCell ⟨W0.heap.size + 1, 0, none⟩ (.int .i64 x)).setCell ⟨W0.heap.size + 1, 1, none⟩ (.int .i64 sh)).setCell ⟨W0.heap.size + 1, 2, none⟩ (.int .i64 mk_)).setCell ⟨W0.heap.size + 1, 3, none⟩ (.int .u64 lk)).setCell ⟨W0.heap.size + 1, 4, none⟩ v) (hcf _) (hh.mono ?_)).mono ?_
  · rintro e w1 ⟨rfl, w3, v, b, hf, rfl⟩
    exact ⟨rfl, keep5 (by omega) (by rw [hn1]; exact row_below Re b) _ _ _ _ _, w3, v, b, hf, rfl⟩
  rintro e w' ⟨rfl, w1, ⟨w3, v, b, hf, rfl⟩, _, rfl⟩
  rw [hn1]
  obtain ⟨av, cv, rfl, hf⟩ := hf
  have hF := hid (((((((show FsAt (W0.heap.size + 1 + 1 + 1) w3 (.slice av zs.length cv) zs from FsAt.lower ⟨av, cv, rfl, hf⟩ (by omega)).set (g := W0.heap.size + 1) (by omega) 0 (.int .i64 x)).set (g := W0.heap.size + 1) (by omega) 1 (.int .i64 sh)).set (g := W0.heap.size + 1) (by omega) 2 (.int .i64 mk_)).set (g := W0.heap.size + 1) (by omega) 3 (.int .u64 lk)).set (g := W0.heap.size + 1) (by omega) 4 (.slice av zs.length cv)).set (g := W0.heap.size + 1 + 1) (by omega) 0 (.int .i64 0))
  have Rn2 := okeep_row (i := 0) (v := .int .i64 0) (show W0.heap.size + 1 ≠ W0.heap.size + 1 + 1 by omega) (set5_row (row_below Rn b) (.int .i64 x) (.int .i64 sh) (.int .i64 mk_) (.int .u64 lk) (.slice av zs.length cv))
  have Rr2 := hid (okeep_row (i := 0) (v := .int .i64 0) (show W0.heap.size ≠ W0.heap.size + 1 + 1 by omega) (keep5 (show W0.heap.size ≠ W0.heap.size + 1 by omega) (row_below Rr b) (.int .i64 x) (.int .i64 sh) (.int .i64 mk_) (.int .u64 lk) (.slice av zs.length cv)))
  have B2 := hid ((five_set (g := W0.heap.size + 1) (BW.trans ((BE.trans (b.mono BE.size)).mono BW.size)) (by have := BW.size; omega) (.int .i64 x) (.int .i64 sh) (.int .i64 mk_) (.int .u64 lk) (.slice av zs.length cv)).setCell (p := ⟨W0.heap.size + 1 + 1, 0, none⟩) (by have := BW.size; show w.heap.size ≤ W0.heap.size + 1 + 1; omega) (.int .i64 0))
  have zz := BW.size
  clear hh hc b hf Rn Re Rr zW zE hn1 BE
  dsimp only
  generalize World.setCell (World.setCell (World.setCell _ _ _) _ _) _ _ = W3 at *
  have d0 := at_row Rn2 0 rfl
  have d1 := at_row Rn2 1 rfl
  have d2 := at_row Rn2 2 rfl
  have d3 := at_row Rn2 3 rfl
  have d4 := at_row Rn2 4 rfl
  have e0 := at_row Rr2.out 0 rfl
  have e1 := at_row Rr2.out 1 rfl
  have e2 := at_row Rr2.out 2 rfl
  have e3 := at_row Rr2.out 3 rfl
  have e4 := at_row Rr2.out 4 rfl
  have f0 := fz_row Rr2.out 0
  have f1 := fz_row Rr2.out 1
  have f2 := fz_row Rr2.out 2
  have f3 := fz_row Rr2.out 3
  have f4 := fz_row Rr2.out 4
  clear Rn2
  go_wp2
  have Rf := set5_row Rr2.out (.int .i64 x) (.int .i64 sh) (.int .i64 mk_) (.int .u64 lk) (.slice av zs.length cv)
  generalize hWf : World.setCell (World.setCell (World.setCell (World.setCell (World.setCell W3 _ _) _ _) _ _) _ _) _ _ = Wf at *
  have g0 := at_row Rf 0 rfl
  have g1 := at_row Rf 1 rfl
  have g2 := at_row Rf 2 rfl
  have g3 := at_row Rf 3 rfl
  have g4 := at_row Rf 4 rfl
  refine bodyPost_ret (v := .tuple #[obV x sh mk_ lk (.slice av zs.length cv), .int .i64 0]) (by simp [results, Tryd.results16, go_sem, g0, g1, g2, g3, g4]) rfl ?_
  subst hWf
  exact ⟨_, rfl, (((((hF.out.set (by omega) _ _).set (by omega) _ _).set (by omega) _ _).set (by omega) _ _).set (by omega) _ _).lower (by omega), five_set B2.out zz _ _ _ _ _⟩
theorem Read_nil (P : Option Addr) (a0 : Option Addr) (c0 : Nat) (t s : Int) (a : Option Addr) (n c : Nat) (x : Int) (w : World) (hf : Faces w (.pointer P) (.slice a0 0 c0)) :
    Calls Tryd.prog 16 #[.pointer P, planV t s a n c, .int .i64 x] w fun e w' => e = .returned (.tuple #[obV 0 0 0 0 (.slice none 0 0), .int .i64 1]) ∧ Below w.heap.size w w' :=
  Read_up 1 P t s a n c x w fun W0 We ga gp gt gx H0 HB HW => clor_open W0 We ga gp gt gx P t s a n c x H0 HB 1 fun W hW => open_nil _ a0 c0 t s a n c W (hf.below (HW.trans (hW.mono HW.size)))
theorem Read_arg (A B : Nat) (xs : List Int) (ss : List ByteArray) (z : Int) (t s : Int) (a : Option Addr) (n c : Nat) (x : Int) (w : World) (hT : IsTab w (.slice a n c) ss) (ha : IsAr w A B xs) (hr : rgt t s ss = true) (hz : 3 + t + t + 2 * s = z) (hl : ((z : Int) != xs.length) = true) :
    Calls Tryd.prog 16 #[.pointer (some ⟨A, 0, none⟩), planV t s a n c, .int .i64 x] w fun e w' => e = .returned (.tuple #[obV 0 0 0 0 (.slice none 0 0), .int .i64 2]) ∧ Below w.heap.size w w' :=
  Read_up 2 _ t s a n c x w fun W0 We ga gp gt gx H0 HB HW => clor_open W0 We ga gp gt gx _ t s a n c x H0 HB 2 fun W hW => open_bad t s a n c ss A B xs z W (hT.below (Nat.le_refl _) (HW.trans (hW.mono HW.size))) (ha.below (HW.trans (hW.mono HW.size))) hr hz hl
theorem Read_range (A B : Nat) (xs : List Int) (ss : List ByteArray) (t s : Int) (a : Option Addr) (n c : Nat) (x : Int) (w : World) (h : IsHp w t s a n c ss A B xs) (h1 : spc t s x = false) :
    Calls Tryd.prog 16 #[.pointer (some ⟨A, 0, none⟩), planV t s a n c, .int .i64 x] w fun e w' => e = .returned (.tuple #[obV 0 0 0 0 (.slice none 0 0), .int .i64 4]) ∧ Below w.heap.size w w' :=
  Read_up 4 _ t s a n c x w fun W0 We ga gp gt gx H0 HB HW => clor_to W0 We ga gp gt gx _ t s a n c x H0 HB 4 A (fun W hW => open_ok t s a n c ss A B xs W (h.below (HW.trans (hW.mono HW.size)))) fun L W hW hL => to_no t s a n c ss _ 0 0 x W (h.tab.below (Nat.le_refl _) (HW.trans (hW.mono HW.size))) h.rg ⟨_, _, _, rfl⟩ h1
theorem Read_none (A B : Nat) (xs : List Int) (ss : List ByteArray) (t s : Int) (a : Option Addr) (n c : Nat) (q : Nat) (w : World) (h : IsHp w t s a n c ss A B xs) (h1 : spc t s q = true) (hz : Hid (osz xs ss (eo t s q) q = 0)) :
    Calls Tryd.prog 16 #[.pointer (some ⟨A, 0, none⟩), planV t s a n c, .int .i64 (q : Int)] w fun e w' => e = .returned (.tuple #[obV 0 0 0 0 (.slice none 0 0), .int .i64 170]) ∧ Below w.heap.size w w' := by
  obtain ⟨t0, t1, s0, s1, hx9⟩ := h.size
  obtain ⟨x0, x9⟩ := spc_in h1 t0 h.len
  have he := eo_bd s0 h1
  exact Read_up 170 _ t s a n c q w fun W0 We ga gp gt gx H0 HB HW => clor_last W0 We ga gp gt gx _ t s a n c q H0 HB 170 _ A (fun W hW => open_ok t s a n c ss A B xs W (h.below (HW.trans (hW.mono HW.size)))) (fun L W hW _ => to_ok t s a n c ss L 0 0 q W (h.tab.below (Nat.le_refl _) (HW.trans (hW.mono HW.size))) h.rg h1) fun L W hW hL => read_no t s a n c ss L A B xs q _ W (h.below (HW.trans (hW.mono HW.size))) hL (by omega) (by omega) (by omega) hz
theorem Read_ok (A B : Nat) (xs : List Int) (ss : List ByteArray) (t s : Int) (a : Option Addr) (n c : Nat) (q m : Nat) (sh mk_ lk : Int) (w : World) (h : IsHp w t s a n c ss A B xs) (h1 : spc t s q = true) (hz : Hid (osz xs ss (eo t s q) q = (m : Int) + 2)) (ho : Hid (ofv (wat xs q) = (sh, mk_, true))) (hl : Hid (wat xs (q + 1) = lk)) :
    Calls Tryd.prog 16 #[.pointer (some ⟨A, 0, none⟩), planV t s a n c, .int .i64 (q : Int)] w fun e w' => ∃ v, e = .returned (.tuple #[obV q sh mk_ lk v, .int .i64 0]) ∧ FsAt w.heap.size w' v (flw xs q m) ∧ Below w.heap.size w w' := by
  obtain ⟨t0, t1, s0, s1, hx9⟩ := h.size
  obtain ⟨x0, x9⟩ := spc_in h1 t0 h.len
  have he := eo_bd s0 h1
  have hl2 := h.len
  have h8 : osz xs ss (eo t s q) q ≤ 10 ∧ osz xs ss (eo t s q) q ≤ eo t s q - q := by
    rcases osz_cases xs ss (eo t s q) q with h3 | h3
    · rw [hz.out] at h3; omega
    · exact ⟨h3.2.1, h3.2.2.1⟩
  rw [hz.out] at h8
  exact Read_okc sh mk_ lk (flw xs q m) _ t s a n c q w fun W0 We ga gp gt gx H0 HB HW hgx Rx => clor_ok W0 We ga gp gt gx _ t s a n c q H0 HB _ A sh mk_ lk (flw xs q m) hgx Rx (fun W hW => open_ok t s a n c ss A B xs W (h.below (HW.trans (hW.mono HW.size)))) (fun L W hW _ => to_ok t s a n c ss L 0 0 q W (h.tab.below (Nat.le_refl _) (HW.trans (hW.mono HW.size))) h.rg h1) fun L W hW hL => read_yes t s a n c ss L A B xs q m _ _ sh mk_ lk W (h.below (HW.trans (hW.mono HW.size))) hL (by omega) (by omega) (by omega) hz rfl (by omega) ho hl
end Go.Proofs.YtldfmlkjeniemaaDoor
