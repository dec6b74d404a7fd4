/- package object: Read. -/
import Derived.Test.YtldfmlkjeniemaaGreatDoorObCloR
import Derived.Test.YtldfmlkjeniemaaGreatDoorObBoxOn
import Derived.Test.YtldfmlkjeniemaaGreatDoorArLeafOn
import Derived.RangeFuncNested
import Derived.RangeFuncBound
import Derived.RangeFuncCalls
import Derived.RangeFuncLeaves
import Derived.Shelf.Abstract
import Derived.Shelf.RegionOpen
import Derived.OwnWalkIn
import Derived.TacticsInMore
import Derived.LoopNIn
import Derived.LoopIn
set_option linter.unusedVariables false
namespace Go.Proofs.YtldfmlkjeniemaaGreatDoor
open Go.RowKit Go.Ly Go.Hd Go.Sh Go.Ob
set_option maxRecDepth 100000 in
set_option maxHeartbeats 2000000 in
theorem Read_up (k : Int) (P : Option Addr) (t s : Int) (a : Option Addr) (n c : Nat) (x : Int) (w : World)
    (hc : ∀ (W0 We : World) (ga gp gt gx : Nat), Hs5 W0 ga 0 (.pointer P) gp 0 (.int .i64 t) gp 1 (.int .i64 s) gp 2 (.slice a n c) gt 0 (.int .i64 x) W0 → Below W0.heap.size W0 We → Below w.heap.size w We →
      Calls Tryz.prog 23 #[.pointer (some ⟨ga, 0, none⟩), .pointer (some ⟨gp, 0, none⟩), .pointer (some ⟨gt, 0, none⟩), .pointer (some ⟨gx, 0, none⟩)] We fun e w' => e = upE k ∧ Below We.heap.size We w') :
    Calls Tryz.prog 9 #[.pointer P, planV t s a n c, .int .i64 x] w fun e w' => e = .returned (.tuple #[obV 0 0 0 0 (.slice none 0 0), .int .i64 k]) ∧ Below w.heap.size w w' := by
  have hmf : ∀ (fn : Fn) (first cap : Array Value) (w : World), (Instr.makeFunc fn first cap).run Tryz.prog w = .ok (.func fn first cap) w := fun _ _ _ _ => rfl
  go_enter Tryz.func9, Tryz.ntmps9
  go_wp2_with fail
  have hcf : ∀ (cap : Array Value) (w : World), (callFunc 23 cap).run Tryz.prog w = .ok (.enter 23 cap) w := fun _ _ => rfl
  have hr := boxes3 w (paO P) (plO t s a n c) (iO x)
  generalize ((w.alloc (paO P)).alloc (plO t s a n c)).alloc (iO x) = W0 at *
  obtain ⟨Ra, Rp, Rt, zW, BW⟩ := hr
  obtain ⟨Rr, Rn, Re, zE, BE⟩ := boxes3 W0 (obO 0 0 0 0 (.slice none 0 0)) (obO 0 0 0 0 (.slice none 0 0)) (errO 0)
  have hh := hc W0 (((W0.alloc (obO 0 0 0 0 (.slice none 0 0))).alloc (obO 0 0 0 0 (.slice none 0 0))).alloc (errO 0)) w.heap.size (w.heap.size + 1) (w.heap.size + 1 + 1) (w.heap.size + 1 + 1 + 1 + 1)
    ⟨at_row Ra 0 rfl, at_row Rp 0 rfl, at_row Rp 1 rfl, at_row Rp 2 rfl, at_row Rt 0 rfl, Below.refl _ _⟩ BE (BW.trans (BE.mono BW.size))
  rw [← zW] at hh ⊢
  have hn1 : ((W0.alloc (obO 0 0 0 0 (.slice none 0 0))).alloc (obO 0 0 0 0 (.slice none 0 0))).heap.size = W0.heap.size + 1 + 1 := by simp
  refine (caught_up _ _ k _ (fun w1 => Below (((W0.alloc (obO 0 0 0 0 (.slice none 0 0))).alloc (obO 0 0 0 0 (.slice none 0 0))).alloc (errO 0)).heap.size (((W0.alloc (obO 0 0 0 0 (.slice none 0 0))).alloc (obO 0 0 0 0 (.slice none 0 0))).alloc (errO 0)) w1) (hcf _) (hh.mono ?_)).mono ?_
  · rintro e w1 ⟨rfl, b⟩
    exact ⟨rfl, by rw [hn1]; exact row_below Re b, b⟩
  rintro e w' ⟨rfl, w1, w2, b1, _, b2, rfl⟩
  rw [hn1]
  have Rn2 := okeep_row (i := 0) (v := .int .i64 k) (show W0.heap.size + 1 ≠ W0.heap.size + 1 + 1 by omega) (row_below (row_below Rn b1) b2)
  have Rr2 := hid (okeep_row (i := 0) (v := .int .i64 k) (show W0.heap.size ≠ W0.heap.size + 1 + 1 by omega) (row_below (row_below Rr b1) b2))
  have B2 := hid ((BW.trans ((BE.trans ((b1.trans (b2.mono b1.size)).mono BE.size)).mono BW.size)).setCell (p := ⟨W0.heap.size + 1 + 1, 0, none⟩) (by have := BW.size; show w.heap.size ≤ W0.heap.size + 1 + 1; omega) (.int .i64 k))
  have zz := BW.size
  clear hh hc b1 b2 Rn Re Rr zW zE hn1 BE
  dsimp only
  generalize w2.setCell _ _ = W3 at *
  have d0 := at_row Rn2 0 rfl
  have d1 := at_row Rn2 1 rfl
  have d2 := at_row Rn2 2 rfl
  have d3 := at_row Rn2 3 rfl
  have d4 := at_row Rn2 4 rfl
  have e0 := at_row Rr2.out 0 rfl
  have e1 := at_row Rr2.out 1 rfl
  have e2 := at_row Rr2.out 2 rfl
  have e3 := at_row Rr2.out 3 rfl
  have e4 := at_row Rr2.out 4 rfl
  have f0 := fz_row Rr2.out 0
  have f1 := fz_row Rr2.out 1
  have f2 := fz_row Rr2.out 2
  have f3 := fz_row Rr2.out 3
  have f4 := fz_row Rr2.out 4
  clear Rn2
  go_wp2
  have Rf := set5_row Rr2.out (.int .i64 0) (.int .i64 0) (.int .i64 0) (.int .u64 0) (.slice none 0 0)
  generalize hWf : World.setCell (World.setCell (World.setCell (World.setCell (World.setCell W3 _ _) _ _) _ _) _ _) _ _ = Wf at *
  have g0 := at_row Rf 0 rfl
  have g1 := at_row Rf 1 rfl
  have g2 := at_row Rf 2 rfl
  have g3 := at_row Rf 3 rfl
  have g4 := at_row Rf 4 rfl
  refine bodyPost_ret (v := .tuple #[obV 0 0 0 0 (.slice none 0 0), .int .i64 k]) (by simp [results, Tryz.results9, go_sem, g0, g1, g2, g3, g4]) rfl ?_
  subst hWf
  exact ⟨rfl, five_set B2.out zz _ _ _ _ _⟩
set_option maxRecDepth 100000 in
set_option maxHeartbeats 2000000 in
theorem Read_okc (sh mk_ lk : Int) (zs : List Int) (P : Option Addr) (t s : Int) (a : Option Addr) (n c : Nat) (x : Int) (w : World)
    (hc : ∀ (W0 We : World) (ga gp gt gx : Nat), Hs5 W0 ga 0 (.pointer P) gp 0 (.int .i64 t) gp 1 (.int .i64 s) gp 2 (.slice a n c) gt 0 (.int .i64 x) W0 → Below W0.heap.size W0 We → Below w.heap.size w We → W0.heap.size ≤ gx → We.heap[gx]? = some (obO 0 0 0 0 (.slice none 0 0)) →
      Calls Tryz.prog 23 #[.pointer (some ⟨ga, 0, none⟩), .pointer (some ⟨gp, 0, none⟩), .pointer (some ⟨gt, 0, none⟩), .pointer (some ⟨gx, 0, none⟩)] We fun e w' => e = .returned (.tuple #[]) ∧ ∃ w3 v, Below We.heap.size We w3 ∧ FsAt We.heap.size w3 v zs ∧ w' = ((((w3.setCell ⟨gx, 0, none⟩ (.int .i64 x)).setCell ⟨gx, 1, none⟩ (.int .i64 sh)).setCell ⟨gx, 2, none⟩ (.int .i64 mk_)).setCell ⟨gx, 3, none⟩ (.int .u64 lk)).setCell ⟨gx, 4, none⟩ v) :
    Calls Tryz.prog 9 #[.pointer P, planV t s a n c, .int .i64 x] w fun e w' => ∃ v, e = .returned (.tuple #[obV x sh mk_ lk v, .int .i64 0]) ∧ FsAt w.heap.size w' v zs ∧ Below w.heap.size w w' := by
  have hmf : ∀ (fn : Fn) (first cap : Array Value) (w : World), (Instr.makeFunc fn first cap).run Tryz.prog w = .ok (.func fn first cap) w := fun _ _ _ _ => rfl
  go_enter Tryz.func9, Tryz.ntmps9
  go_wp2_with fail
  have hcf : ∀ (cap : Array Value) (w : World), (callFunc 23 cap).run Tryz.prog w = .ok (.enter 23 cap) w := fun _ _ => rfl
  have hr := boxes3 w (paO P) (plO t s a n c) (iO x)
  generalize ((w.alloc (paO P)).alloc (plO t s a n c)).alloc (iO x) = W0 at *
  obtain ⟨Ra, Rp, Rt, zW, BW⟩ := hr
  obtain ⟨Rr, Rn, Re, zE, BE⟩ := boxes3 W0 (obO 0 0 0 0 (.slice none 0 0)) (obO 0 0 0 0 (.slice none 0 0)) (errO 0)
  have hh := hc W0 (((W0.alloc (obO 0 0 0 0 (.slice none 0 0))).alloc (obO 0 0 0 0 (.slice none 0 0))).alloc (errO 0)) w.heap.size (w.heap.size + 1) (w.heap.size + 1 + 1) (w.heap.size + 1 + 1 + 1 + 1)
    ⟨at_row Ra 0 rfl, at_row Rp 0 rfl, at_row Rp 1 rfl, at_row Rp 2 rfl, at_row Rt 0 rfl, Below.refl _ _⟩ BE (BW.trans (BE.mono BW.size)) (by omega)
  rw [← zW] at hh ⊢
  have hh := hh Rn
  have hn1 : ((W0.alloc (obO 0 0 0 0 (.slice none 0 0))).alloc (obO 0 0 0 0 (.slice none 0 0))).heap.size = W0.heap.size + 1 + 1 := by simp
  refine (caught_ok _ _ _ (fun w1 => ∃ w3 v, Below (((W0.alloc (obO 0 0 0 0 (.slice none 0 0))).alloc (obO 0 0 0 0 (.slice none 0 0))).alloc (errO 0)).heap.size (((W0.alloc (obO 0 0 0 0 (.slice none 0 0))).alloc (obO 0 0 0 0 (.slice none 0 0))).alloc (errO 0)) w3 ∧ FsAt (((W0.alloc (obO 0 0 0 0 (.slice none 0 0))).alloc (obO 0 0 0 0 (.slice none 0 0))).alloc (errO 0)).heap.size w3 v zs ∧ w1 = ((((w3.setCell ⟨W0.heap.size + 1, 0, none⟩ (.int .i64 x)).setCell ⟨W0.heap.size + 1, 1, none⟩ (.int .i64 sh)).setCell ⟨W0.heap.size + 1, 2, none⟩ (.int .i64 mk_)).setCell ⟨W0.heap.size + 1, 3, none⟩ (.int .u64 lk)).setCell ⟨W0.heap.size + 1, 4, none⟩ v) (hcf _) (hh.mono ?_)).mono ?_
  · rintro e w1 ⟨rfl, w3, v, b, hf, rfl⟩
    exact ⟨rfl, keep5 (by omega) (by rw [hn1]; exact row_below Re b) _ _ _ _ _, w3, v, b, hf, rfl⟩
  rintro e w' ⟨rfl, w1, ⟨w3, v, b, hf, rfl⟩, _, rfl⟩
  rw [hn1]
  obtain ⟨av, cv, rfl, hf⟩ := hf
  have hF := hid (((((((show FsAt (W0.heap.size + 1 + 1 + 1) w3 (.slice av zs.length cv) zs from FsAt.lower ⟨av, cv, rfl, hf⟩ (by omega)).set (g := W0.heap.size + 1) (by omega) 0 (.int .i64 x)).set (g := W0.heap.size + 1) (by omega) 1 (.int .i64 sh)).set (g := W0.heap.size + 1) (by omega) 2 (.int .i64 mk_)).set (g := W0.heap.size + 1) (by omega) 3 (.int .u64 lk)).set (g := W0.heap.size + 1) (by omega) 4 (.slice av zs.length cv)).set (g := W0.heap.size + 1 + 1) (by omega) 0 (.int .i64 0))
  have Rn2 := okeep_row (i := 0) (v := .int .i64 0) (show W0.heap.size + 1 ≠ W0.heap.size + 1 + 1 by omega) (set5_row (row_below Rn b) (.int .i64 x) (.int .i64 sh) (.int .i64 mk_) (.int .u64 lk) (.slice av zs.length cv))
  have Rr2 := hid (okeep_row (i := 0) (v := .int .i64 0) (show W0.heap.size ≠ W0.heap.size + 1 + 1 by omega) (keep5 (show W0.heap.size ≠ W0.heap.size + 1 by omega) (row_below Rr b) (.int .i64 x) (.int .i64 sh) (.int .i64 mk_) (.int .u64 lk) (.slice av zs.length cv)))
  have B2 := hid ((five_set (g := W0.heap.size + 1) (BW.trans ((BE.trans (b.mono BE.size)).mono BW.size)) (by have := BW.size; omega) (.int .i64 x) (.int .i64 sh) (.int .i64 mk_) (.int .u64 lk) (.slice av zs.length cv)).setCell (p := ⟨W0.heap.size + 1 + 1, 0, none⟩) (by have := BW.size; show w.heap.size ≤ W0.heap.size + 1 + 1; omega) (.int .i64 0))
  have zz := BW.size
  clear hh hc b hf Rn Re Rr zW zE hn1 BE
  dsimp only
  generalize World.setCell (World.setCell (World.setCell _ _ _) _ _) _ _ = W3 at *
  have d0 := at_row Rn2 0 rfl
  have d1 := at_row Rn2 1 rfl
  have d2 := at_row Rn2 2 rfl
  have d3 := at_row Rn2 3 rfl
  have d4 := at_row Rn2 4 rfl
  have e0 := at_row Rr2.out 0 rfl
  have e1 := at_row Rr2.out 1 rfl
  have e2 := at_row Rr2.out 2 rfl
  have e3 := at_row Rr2.out 3 rfl
  have e4 := at_row Rr2.out 4 rfl
  have f0 := fz_row Rr2.out 0
  have f1 := fz_row Rr2.out 1
  have f2 := fz_row Rr2.out 2
  have f3 := fz_row Rr2.out 3
  have f4 := fz_row Rr2.out 4
  clear Rn2
  go_wp2
  have Rf := set5_row Rr2.out (.int .i64 x) (.int .i64 sh) (.int .i64 mk_) (.int .u64 lk) (.slice av zs.length cv)
  generalize hWf : World.setCell (World.setCell (World.setCell (World.setCell (World.setCell W3 _ _) _ _) _ _) _ _) _ _ = Wf at *
  have g0 := at_row Rf 0 rfl
  have g1 := at_row Rf 1 rfl
  have g2 := at_row Rf 2 rfl
  have g3 := at_row Rf 3 rfl
  have g4 := at_row Rf 4 rfl
  refine bodyPost_ret (v := .tuple #[obV x sh mk_ lk (.slice av zs.length cv), .int .i64 0]) (by simp [results, Tryz.results9, go_sem, g0, g1, g2, g3, g4]) rfl ?_
  subst hWf
  exact ⟨_, rfl, (((((hF.out.set (by omega) _ _).set (by omega) _ _).set (by omega) _ _).set (by omega) _ _).set (by omega) _ _).lower (by omega), five_set B2.out zz _ _ _ _ _⟩
theorem Read_nil (P : Option Addr) (a0 : Option Addr) (c0 : Nat) (t s : Int) (a : Option Addr) (n c : Nat) (x : Int) (w : World) (hf : Faces w (.pointer P) (.slice a0 0 c0)) :
    Calls Tryz.prog 9 #[.pointer P, planV t s a n c, .int .i64 x] w fun e w' => e = .returned (.tuple #[obV 0 0 0 0 (.slice none 0 0), .int .i64 1]) ∧ Below w.heap.size w w' :=
  Read_up 1 P t s a n c x w fun W0 We ga gp gt gx H0 HB HW => clor_open W0 We ga gp gt gx P t s a n c x H0 HB 1 fun W hW => open_nil _ a0 c0 t s a n c W (hf.below (HW.trans (hW.mono HW.size)))
theorem Read_arg (A B : Nat) (xs : List Int) (ss : List ByteArray) (z : Int) (t s : Int) (a : Option Addr) (n c : Nat) (x : Int) (w : World) (hT : IsTab w (.slice a n c) ss) (ha : IsAr w A B xs) (hr : rgt t s ss = true) (hz : 3 + t + t + 2 * s = z) (hl : ((z : Int) != xs.length) = true) :
    Calls Tryz.prog 9 #[.pointer (some ⟨A, 0, none⟩), planV t s a n c, .int .i64 x] w fun e w' => e = .returned (.tuple #[obV 0 0 0 0 (.slice none 0 0), .int .i64 2]) ∧ Below w.heap.size w w' :=
  Read_up 2 _ t s a n c x w fun W0 We ga gp gt gx H0 HB HW => clor_open W0 We ga gp gt gx _ t s a n c x H0 HB 2 fun W hW => open_bad t s a n c ss A B xs z W (hT.below (Nat.le_refl _) (HW.trans (hW.mono HW.size))) (ha.below (HW.trans (hW.mono HW.size))) hr hz hl
theorem Read_range (A B : Nat) (xs : List Int) (ss : List ByteArray) (t s : Int) (a : Option Addr) (n c : Nat) (x : Int) (w : World) (h : IsHp w t s a n c ss A B xs) (h1 : spc t s x = false) :
    Calls Tryz.prog 9 #[.pointer (some ⟨A, 0, none⟩), planV t s a n c, .int .i64 x] w fun e w' => e = .returned (.tuple #[obV 0 0 0 0 (.slice none 0 0), .int .i64 4]) ∧ Below w.heap.size w w' :=
  Read_up 4 _ t s a n c x w fun W0 We ga gp gt gx H0 HB HW => clor_to W0 We ga gp gt gx _ t s a n c x H0 HB 4 A (fun W hW => open_ok t s a n c ss A B xs W (h.below (HW.trans (hW.mono HW.size)))) fun L W hW hL => to_no t s a n c ss _ 0 0 x W (h.tab.below (Nat.le_refl _) (HW.trans (hW.mono HW.size))) h.rg ⟨_, _, _, rfl⟩ h1
theorem Read_none (A B : Nat) (xs : List Int) (ss : List ByteArray) (t s : Int) (a : Option Addr) (n c : Nat) (q : Nat) (w : World) (h : IsHp w t s a n c ss A B xs) (h1 : spc t s q = true) (hz : Hid (osz xs ss (eo t s q) q = 0)) :
    Calls Tryz.prog 9 #[.pointer (some ⟨A, 0, none⟩), planV t s a n c, .int .i64 (q : Int)] w fun e w' => e = .returned (.tuple #[obV 0 0 0 0 (.slice none 0 0), .int .i64 170]) ∧ Below w.heap.size w w' := by
  obtain ⟨t0, t1, s0, s1, hx9⟩ := h.size
  obtain ⟨x0, x9⟩ := spc_in h1 t0 h.len
  have he := eo_bd s0 h1
  exact Read_up 170 _ t s a n c q w fun W0 We ga gp gt gx H0 HB HW => clor_last W0 We ga gp gt gx _ t s a n c q H0 HB 170 _ A (fun W hW => open_ok t s a n c ss A B xs W (h.below (HW.trans (hW.mono HW.size)))) (fun L W hW _ => to_ok t s a n c ss L 0 0 q W (h.tab.below (Nat.le_refl _) (HW.trans (hW.mono HW.size))) h.rg h1) fun L W hW hL => read_no t s a n c ss L A B xs q _ W (h.below (HW.trans (hW.mono HW.size))) hL (by omega) (by omega) (by omega) hz
theorem Read_ok (A B : Nat) (xs : List Int) (ss : List ByteArray) (t s : Int) (a : Option Addr) (n c : Nat) (q m : Nat) (sh mk_ lk : Int) (w : World) (h : IsHp w t s a n c ss A B xs) (h1 : spc t s q = true) (hz : Hid (osz xs ss (eo t s q) q = (m : Int) + 2)) (ho : Hid (ofv (wat xs q) = (sh, mk_, true))) (hl : Hid (wat xs (q + 1) = lk)) :
    Calls Tryz.prog 9 #[.pointer (some ⟨A, 0, none⟩), planV t s a n c, .int .i64 (q : Int)] w fun e w' => ∃ v, e = .returned (.tuple #[obV q sh mk_ lk v, .int .i64 0]) ∧ FsAt w.heap.size w' v (flw xs q m) ∧ Below w.heap.size w w' := by
  obtain ⟨t0, t1, s0, s1, hx9⟩ := h.size
  obtain ⟨x0, x9⟩ := spc_in h1 t0 h.len
  have he := eo_bd s0 h1
  have hl2 := h.len
  have h8 : osz xs ss (eo t s q) q ≤ 10 ∧ osz xs ss (eo t s q) q ≤ eo t s q - q := by
    rcases osz_cases xs ss (eo t s q) q with h3 | h3
    · rw [hz.out] at h3; omega
    · exact ⟨h3.2.1, h3.2.2.1⟩
  rw [hz.out] at h8
  exact Read_okc sh mk_ lk (flw xs q m) _ t s a n c q w fun W0 We ga gp gt gx H0 HB HW hgx Rx => clor_ok W0 We ga gp gt gx _ t s a n c q H0 HB _ A sh mk_ lk (flw xs q m) hgx Rx (fun W hW => open_ok t s a n c ss A B xs W (h.below (HW.trans (hW.mono HW.size)))) (fun L W hW _ => to_ok t s a n c ss L 0 0 q W (h.tab.below (Nat.le_refl _) (HW.trans (hW.mono HW.size))) h.rg h1) fun L W hW hL => read_yes t s a n c ss L A B xs q m _ _ sh mk_ lk W (h.below (HW.trans (hW.mono HW.size))) hL (by omega) (by omega) (by omega) hz rfl (by omega) ho hl
end Go.Proofs.YtldfmlkjeniemaaGreatDoor
/- package arena: what All hands back: the iterator's contract. -/
namespace Go.Proofs.YtldfmlkjeniemaaGreatDoor
open Go.RowKit Go.Shelf
attribute [local go_sem] Oper.semAt_some
abbrev encW (x : Nat × Int) : Array Value := #[Value.int .i64 (x.1 : Int), Value.int .u64 x.2]
/-- The first so many words, with their numbers. -/
def ups (xs : List Int) (k : Nat) : List (Nat × Int) := (List.range k).map fun i => (i, wat xs i)
theorem ups_length (xs : List Int) (k : Nat) : (ups xs k).length = k := by simp [ups]
theorem ups_succ (xs : List Int) (k : Nat) : ups xs (k + 1) = ups xs k ++ [(k, wat xs k)] := by simp [ups, List.range_succ]
/-- What a round must keep: the box of the words' slice, and the words. -/
def KpA (Bs B : Nat) (W W' : World) : Prop := W'.heap[Bs]? = W.heap[Bs]? ∧ W'.heap[B]? = W.heap[B]?
theorem kpA_t {Bs B : Nat} {W1 W2 W3 : World} (h : KpA Bs B W1 W2) (k : KpA Bs B W2 W3) : KpA Bs B W1 W3 := ⟨k.1.trans h.1, k.2.trans h.2⟩
theorem kpA_b {Bs B : Nat} {w : World} (hs : Bs < w.heap.size) (hb : B < w.heap.size) (W : World) (l : Nat) (o o' : Obj) (hl : w.heap.size ≤ l) (_ : W.heap[l]? = some o) (_ : o.isCells = false) (_ : o.isWalk = false) : KpA Bs B W (W.putObj l o') :=
  ⟨World.putObj_heap_other (by omega), World.putObj_heap_other (by omega)⟩
theorem kpA_set {Bs B : Nat} (W : World) {g : Nat} (h1 : g ≠ Bs) (h2 : g ≠ B) (j : Nat) (v : Value) : KpA Bs B W (W.setCell ⟨g, j, none⟩ v) := by
  refine ⟨?_, ?_⟩ <;> simp [World.setCell, Array.getElem?_modify, h1, h2]
theorem kpA_refl {Bs B : Nat} (W : World) : KpA Bs B W W := ⟨rfl, rfl⟩
set_option maxRecDepth 100000 in
set_option maxHeartbeats 2000000 in
theorem wall1_yes (n l Bs B : Nat) (xs : List Int) (hxs : xs.length ≤ 20000) (J Jx : List (Nat × Int) → World → Prop) (W : World) (hn : 1 ≤ n)
    (hY : ∀ pre x W1, J pre W1 → pre.length < xs.length → YieldAt Fence.wide (n - 1) Tryz.prog l (encW x) W1 fun e W' =>
      (e = .returned (.bool true) ∧ J (pre ++ [x]) W' ∧ KpA Bs B W1 W') ∨ (e = .returned (.bool false) ∧ Jx (pre ++ [x]) W'))
    (hBs : W.heap[Bs]? = some (.cells #[.slice (some ⟨B, 0, none⟩) xs.length xs.length] 57)) (hB : W.heap[B]? = some (.cells (wds xs) 39)) (h0 : J [] W) :
    CallsIn Fence.wide n Tryz.prog 91 #[.func (.yield l) #[] #[], .pointer (some ⟨Bs, 0, none⟩)] W fun e W' => (∃ v, e = .returned v) ∧
      ((∃ ys, ys = ups xs xs.length ∧ J ys W') ∨ (∃ pre, (∃ k, k ≤ xs.length ∧ pre = ups xs k) ∧ Jx pre W')) := by
  have hc0 := at_row hBs 0 rfl
  refine callsIn_of_wp Tryz.func91 rfl trivial ?_ rfl
  simp only [Tryz.ntmps91, List.size_toArray, List.length_cons, List.length_nil, Nat.reduceAdd, Nat.reduceSub, Array.replicate_succ, Array.replicate_zero, List.push_toArray, List.append_toArray, List.nil_append, List.cons_append]
  gi_wp2
  clear hc0
  gi_loopw [6] (fun i wr => ∃ k : Nat, k ≤ xs.length ∧ i = .int .i64 k ∧ KpA Bs B W wr ∧ J (ups xs k) wr) (fun i _ => xs.length - (intOf i).toNat)
  case atStart => exact ⟨0, Nat.zero_le _, rfl, kpA_refl W, h0⟩
  case round =>
    obtain ⟨k, hk, rfl, hK, hJ⟩ := hrel
    have hBs1 := hK.1.trans hBs
    have hB1 := hK.2.trans hB
    have hc1 := at_row hBs1 0 rfl
    by_cases hlt : k < xs.length
    · have hlt' : (k : Int) < xs.length := by omega
      have hc2 := at_row hB1 k (wds_get xs k hlt)
      obtain ⟨fn, tmps, assign, body, hy, hR⟩ := hY _ (k, wat xs k) _ hJ (by rw [ups_length]; exact hlt)
      dsimp only [encW] at hy
      have HUP := hid (ups_succ xs k)
      have HK := hid hK
      clear hK
      generalize wat xs k = x at *
      clear hBs1 hB1
      gi_wp2
      refine hR.mono ?_
      rintro e W3 (⟨rfl, hJ3, hk3⟩ | ⟨rfl, hJx3⟩)
      · gi_wp2
        go_roundw
        case rel => exact ⟨k + 1, by omega, by go_num, kpA_t HK.out hk3, by rw [HUP.out]; exact hJ3⟩
        case measure => simp [intOf]; omega
      · gi_wp2
        refine bodyPost_ret (results_none rfl _ _ _) rfl ?_
        exact ⟨⟨_, rfl⟩, .inr ⟨_, ⟨k + 1, by omega, HUP.out.symm⟩, hJx3⟩⟩
    · obtain rfl : k = xs.length := by omega
      gi_wp2
      go_end0
      exact ⟨⟨_, rfl⟩, .inl ⟨_, rfl, hJ⟩⟩
/-- What All hands back goes over the words, each with its number; it may be left. -/
theorem AllA_stops (n : Nat) (hn : 1 ≤ n) (Bs B : Nat) (xs : List Int) (hxs : xs.length ≤ 20000) (w : World) (hBs : w.heap[Bs]? = some (.cells #[.slice (some ⟨B, 0, none⟩) xs.length xs.length] 57)) (hB : w.heap[B]? = some (.cells (wds xs) 39)) :
    SeqStopsK Fence.wide n Tryz.prog 91 #[.pointer (some ⟨Bs, 0, none⟩)] encW (KpA Bs B) (fun ys => ys = ups xs xs.length)
      (fun pre => ∃ k, k ≤ xs.length ∧ pre = ups xs k) xs.length w := fun l J Jx W hW _ _ hY h0 =>
  wall1_yes n l Bs B xs hxs J Jx W hn hY ((hW.block Bs (Array.getElem?_eq_some_iff.1 hBs).1).trans hBs) ((hW.block B (Array.getElem?_eq_some_iff.1 hB).1).trans hB) h0
set_option maxRecDepth 100000 in
set_option maxHeartbeats 2000000 in
theorem wall1_nil (n l Bs : Nat) (a : Option Addr) (c : Nat) (J Jx : List (Nat × Int) → World → Prop) (W : World)
    (hBs : W.cell? ⟨Bs, 0, none⟩ = some (.slice a 0 c)) (h0 : J [] W) :
    CallsIn Fence.wide n Tryz.prog 91 #[.func (.yield l) #[] #[], .pointer (some ⟨Bs, 0, none⟩)] W fun e W' => (∃ v, e = .returned v) ∧
      ((∃ ys, ys = ([] : List (Nat × Int)) ∧ J ys W') ∨ (∃ pre, pre = ([] : List (Nat × Int)) ∧ Jx pre W')) := by
  refine callsIn_of_wp Tryz.func91 rfl trivial ?_ rfl
  simp only [Tryz.ntmps91, List.size_toArray, List.length_cons, List.length_nil, Nat.reduceAdd, Nat.reduceSub, Array.replicate_succ, Array.replicate_zero, List.push_toArray, List.append_toArray, List.nil_append, List.cons_append]
  gi_wp2
  gi_loopw [6] (fun i wr => i = .int .i64 0 ∧ wr = W) (fun _ _ => 0)
  case atStart => exact ⟨rfl, rfl⟩
  case round =>
    obtain ⟨rfl, rfl⟩ := hrel
    gi_wp2
    go_end0
    exact ⟨⟨_, rfl⟩, .inl ⟨_, rfl, h0⟩⟩
/-- .. of no words: nothing. -/
theorem AllN_stops (n : Nat) (Bs : Nat) (a : Option Addr) (c : Nat) (w : World) (hBs : w.cell? ⟨Bs, 0, none⟩ = some (.slice a 0 c)) :
    SeqStopsK Fence.wide n Tryz.prog 91 #[.pointer (some ⟨Bs, 0, none⟩)] encW KeepsWalks (fun ys => ys = []) (fun pre => pre = []) 0 w := fun l J Jx W hW _ _ _ h0 =>
  wall1_nil n l Bs a c J Jx W ((hW.cell (p := ⟨Bs, 0, none⟩) (block_lt_of_cell hBs)).trans hBs) h0
end Go.Proofs.YtldfmlkjeniemaaGreatDoor
/- The laws' own has: an arena has just these words. -/
namespace Go.Proofs.YtldfmlkjeniemaaGreatDoor
open Go.RowKit Go.Shelf
attribute [local go_sem] Oper.semAt_some
theorem abox_own {A B : World} {row : Option Nat} {b : Nat} {t : TypeId} {v : Value} (h : Boxed A b t v) (hg : A.grownBy B row) (hr : ∀ r, row = some r → ∃ o : Obj, A.heap[r]? = some o ∧ o.isCells = false) : Boxed B b t v :=
  boxed_own (β := Unit) b t (fun _ => v) () A B row h hg hr
theorem abox_last (w : World) (g : Nat) (hg : g = w.heap.size) (t : TypeId) (v : Value) : Boxed (w.alloc (.cells #[v] t)) g t v := by
  subst hg; exact Boxed.new w t v
theorem afunc_nil (lb : Array Value) (w : World) : (binOp .eql 108 (.func (.func 91) #[] lb) .nilFunc).run Tryz.prog w = .ok (.bool false) w := by
  have h := run_underlying (w := w) Tryz.underlying108
  have e : (Op.equalIn Op.maxDepth 108 (Value.func (Fn.func 91) #[] lb) Value.nilFunc).run Tryz.prog w = .ok false w := by
    show (Op.equalIn (9999 + 1) 108 (Value.func (Fn.func 91) #[] lb) Value.nilFunc).run Tryz.prog w = .ok false w
    unfold Op.equalIn
    simp [h, Result.andThen]
  simp [binOp, Op.equal, go_sem, Result.andThen, e]
/-- A loop is left where a word is not the one that it should be. -/
def BadW (xs : List Int) (pre : List (Nat × Int)) : Prop := ∃ ini last, pre = ini ++ [last] ∧ last ≠ (ini.length, wat xs ini.length)
theorem BadW.no {xs : List Int} {k : Nat} (h : BadW xs (ups xs k)) : False := by
  obtain ⟨ini, last, e1, e2⟩ := h
  cases k with
  | zero => simp [ups] at e1
  | succ k =>
    rw [ups_succ] at e1
    obtain ⟨rfl, e5⟩ := List.append_inj' e1 rfl
    rw [ups_length] at e2
    exact e2 (by simpa using e5.symm)
/-- What has' boxes hold: the list, the answer, the arena's words, how many were met. -/
def HasB (w : World) (l s : Value) (n : Int) (W : World) : Prop :=
  Boxed W w.heap.size 25 l ∧ (∃ v, Boxed W (w.heap.size + 1) 4 v) ∧ Boxed W (w.heap.size + 1 + 1) 57 s ∧ Boxed W (w.heap.size + 1 + 1 + 1) 3 (.int .i64 n) ∧ Below w.heap.size w W
theorem HasB.own {w A B : World} {l s : Value} {n : Int} {row : Option Nat} {C : Nat} (h : HasB w l s n A) (hC : w.heap.size ≤ C) (hg : A.grownBy B row) (hr : ∀ r, row = some r → C ≤ r ∧ ∃ o : Obj, A.heap[r]? = some o ∧ o.isCells = false) : HasB w l s n B := by
  obtain ⟨h0, ⟨v1, h1⟩, h2, h3, hb⟩ := h
  have hr' := fun r e => (hr r e).2
  exact ⟨abox_own h0 hg hr', ⟨_, abox_own h1 hg hr'⟩, abox_own h2 hg hr', abox_own h3 hg hr', hb.grown hg hb.size (fun k e => Nat.le_trans hC (hr k e).1)⟩
theorem HasB.setN {w A : World} {l s : Value} {n : Int} (h : HasB w l s n A) (m : Int) : HasB w l s m (A.setCell ⟨w.heap.size + 1 + 1 + 1, 0, none⟩ (.int .i64 m)) := by
  obtain ⟨h0, ⟨v1, h1⟩, h2, h3, hb⟩ := h
  exact ⟨h0.other (by omega) _, ⟨_, h1.other (by omega) _⟩, h2.other (by omega) _, h3.set _, hb.setCell (p := ⟨w.heap.size + 1 + 1 + 1, 0, none⟩) (by show w.heap.size ≤ w.heap.size + 1 + 1 + 1; omega) _⟩
theorem HasB.setR {w A : World} {l s : Value} {n : Int} (h : HasB w l s n A) (v : Value) : HasB w l s n (A.setCell ⟨w.heap.size + 1, 0, none⟩ v) := by
  obtain ⟨h0, ⟨v1, h1⟩, h2, h3, hb⟩ := h
  exact ⟨h0.other (by omega) _, ⟨_, h1.set _⟩, h2.other (by omega) _, h3.other (by omega) _, hb.setCell (p := ⟨w.heap.size + 1, 0, none⟩) (by show w.heap.size ≤ w.heap.size + 1; omega) _⟩
theorem HasB.size {w A : World} {l s : Value} {n : Int} (h : HasB w l s n A) : w.heap.size + 4 ≤ A.heap.size := h.2.2.2.1.lt
theorem hasB_start (w : World) (l s : Value) (nq : Nat) : HasB w l s 0 (((((w.alloc (.cells #[l] 25)).alloc (.cells #[.bool false] 4)).alloc (.cells #[s] 57)).drewN nq).alloc (.cells #[.int .i64 0] 3)) := by
  have k : ∀ {W : World} {g : Nat} {t : TypeId} {v : Value}, Boxed W g t v → Boxed (W.drewN nq) g t v := fun h => h
  refine ⟨(k (((Boxed.new w _ _).alloc _).alloc _)).alloc _, ⟨_, (k ((abox_last _ _ (by simp) _ _).alloc _)).alloc _⟩, (k (abox_last _ _ (by simp) _ _)).alloc _, abox_last _ _ (by simp [World.drewN]) _ _, ?_⟩
  exact (bdrewN ((((Below.refl _ w).alloc (Nat.le_refl _) _).alloc (by simp) _).alloc (by simp; omega) _) nq).alloc (by simp [World.drewN]; omega) _
end Go.Proofs.YtldfmlkjeniemaaGreatDoor
