/- package object: Place. -/
import Derived.Test.YtldfmlkjeniemaaDoorObCloP
import Derived.Test.YtldfmlkjeniemaaDoorObToOn
import Derived.Test.YtldfmlkjeniemaaDoorObWalkNOn
set_option linter.unusedVariables false
namespace Go.Proofs.YtldfmlkjeniemaaDoor
open Go.RowKit Go.Ly Go.Hd Go.Sh Go.Ob
abbrev iO (x : Int) : Obj := .cells #[.int .i64 x] 3
abbrev paO (P : Option Addr) : Obj := .cells #[.pointer P] 29
abbrev plO (t s : Int) (a : Option Addr) (n c : Nat) : Obj := .cells #[.int .i64 t, .int .i64 s, .slice a n c] 24
set_option maxRecDepth 100000 in
set_option maxHeartbeats 2000000 in
theorem Place_up (k : Int) (P : Option Addr) (t s : Int) (a : Option Addr) (n c : Nat) (x f : Int) (w : World)
    (hc : ∀ (W0 We : World) (ga gp gt gf gx : Nat), Hs6 W0 ga 0 (.pointer P) gp 0 (.int .i64 t) gp 1 (.int .i64 s) gp 2 (.slice a n c) gt 0 (.int .i64 x) gf 0 (.int .i64 f) W0 → Below W0.heap.size W0 We → Below w.heap.size w We →
      Calls Tryd.prog 23 #[.pointer (some ⟨ga, 0, none⟩), .pointer (some ⟨gp, 0, none⟩), .pointer (some ⟨gt, 0, none⟩), .pointer (some ⟨gf, 0, none⟩), .pointer (some ⟨gx, 0, none⟩)] We fun e w' => e = upE k ∧ Below We.heap.size We w') :
    Calls Tryd.prog 11 #[.pointer P, planV t s a n c, .int .i64 x, .int .i64 f] w fun e w' => e = .returned (.tuple #[.int .i64 0, .int .i64 k]) ∧ Below w.heap.size w w' := by
  have hmf : ∀ (fn : Fn) (first cap : Array Value) (w : World), (Instr.makeFunc fn first cap).run Tryd.prog w = .ok (.func fn first cap) w := fun _ _ _ _ => rfl
  go_enter Tryd.func11, Tryd.ntmps11
  go_wp2_with fail
  have hcf : ∀ (cap : Array Value) (w : World), (callFunc 23 cap).run Tryd.prog w = .ok (.enter 23 cap) w := fun _ _ => rfl
  have hr := boxes4 w (paO P) (plO t s a n c) (iO x) (iO f)
  generalize (((w.alloc (paO P)).alloc (plO t s a n c)).alloc (iO x)).alloc (iO f) = W0 at *
  obtain ⟨Ra, Rp, Rt, Rf, zW, BW⟩ := hr
  have hh := hc W0 ((W0.alloc (iO 0)).alloc (errO 0)) w.heap.size (w.heap.size + 1) (w.heap.size + 1 + 1) (w.heap.size + 1 + 1 + 1) (w.heap.size + 1 + 1 + 1 + 1)
    ⟨at_row Ra 0 rfl, at_row Rp 0 rfl, at_row Rp 1 rfl, at_row Rp 2 rfl, at_row Rt 0 rfl, at_row Rf 0 rfl, Below.refl _ _⟩ (bel_two _ _ _) (BW.trans ((bel_two _ _ _).mono BW.size))
  obtain ⟨Rn, Re, zE, BE⟩ := boxes2 W0 (iO 0) (errO 0)
  rw [← zW] at hh ⊢
  have hn1 := size_alloc W0 (iO 0)
  refine (caught_up _ _ k _ (fun w1 => Below ((W0.alloc (iO 0)).alloc (errO 0)).heap.size ((W0.alloc (iO 0)).alloc (errO 0)) w1) (hcf _) (hh.mono ?_)).mono ?_
  · rintro e w1 ⟨rfl, b⟩
    exact ⟨rfl, by rw [hn1]; exact row_below Re b, b⟩
  rintro e w' ⟨rfl, w1, w2, b1, _, b2, rfl⟩
  have Rn2 := okeep_row (i := 0) (v := .int .i64 k) (show W0.heap.size ≠ (W0.alloc (iO 0)).heap.size by omega) (row_below (row_below Rn b1) b2)
  have B2 := hid ((BW.trans ((BE.trans ((b1.trans (b2.mono b1.size)).mono BE.size)).mono BW.size)).setCell (p := ⟨(W0.alloc (iO 0)).heap.size, 0, none⟩) (by have := BW.size; show w.heap.size ≤ (W0.alloc (iO 0)).heap.size; omega) (.int .i64 k))
  have n0 := at_row Rn2 0 rfl
  clear hh hc b1 b2 Rn2 Rn Re zW zE hn1
  dsimp only
  generalize w2.setCell _ _ = W3 at *
  go_wp2

  go_ret2
  exact ⟨rfl, B2.out⟩
set_option maxRecDepth 100000 in
set_option maxHeartbeats 2000000 in
theorem Place_okc (z : Int) (P : Option Addr) (t s : Int) (a : Option Addr) (n c : Nat) (x f : Int) (w : World)
    (hc : ∀ (W0 We : World) (ga gp gt gf gx : Nat), Hs6 W0 ga 0 (.pointer P) gp 0 (.int .i64 t) gp 1 (.int .i64 s) gp 2 (.slice a n c) gt 0 (.int .i64 x) gf 0 (.int .i64 f) W0 → Below W0.heap.size W0 We → Below w.heap.size w We → W0.heap.size ≤ gx → We.heap[gx]? = some (iO 0) →
      Calls Tryd.prog 23 #[.pointer (some ⟨ga, 0, none⟩), .pointer (some ⟨gp, 0, none⟩), .pointer (some ⟨gt, 0, none⟩), .pointer (some ⟨gf, 0, none⟩), .pointer (some ⟨gx, 0, none⟩)] We fun e w' => e = .returned (.tuple #[]) ∧ ∃ w3, Below We.heap.size We w3 ∧ w' = w3.setCell ⟨gx, 0, none⟩ (.int .i64 z)) :
    Calls Tryd.prog 11 #[.pointer P, planV t s a n c, .int .i64 x, .int .i64 f] w fun e w' => e = .returned (.tuple #[.int .i64 z, .int .i64 0]) ∧ Below w.heap.size w w' := by
  have hmf : ∀ (fn : Fn) (first cap : Array Value) (w : World), (Instr.makeFunc fn first cap).run Tryd.prog w = .ok (.func fn first cap) w := fun _ _ _ _ => rfl
  go_enter Tryd.func11, Tryd.ntmps11
  go_wp2_with fail
  have hcf : ∀ (cap : Array Value) (w : World), (callFunc 23 cap).run Tryd.prog w = .ok (.enter 23 cap) w := fun _ _ => rfl
  have hr := boxes4 w (paO P) (plO t s a n c) (iO x) (iO f)
  generalize (((w.alloc (paO P)).alloc (plO t s a n c)).alloc (iO x)).alloc (iO f) = W0 at *
  obtain ⟨Ra, Rp, Rt, Rf, zW, BW⟩ := hr
  have hh := hc W0 ((W0.alloc (iO 0)).alloc (errO 0)) w.heap.size (w.heap.size + 1) (w.heap.size + 1 + 1) (w.heap.size + 1 + 1 + 1) (w.heap.size + 1 + 1 + 1 + 1)
    ⟨at_row Ra 0 rfl, at_row Rp 0 rfl, at_row Rp 1 rfl, at_row Rp 2 rfl, at_row Rt 0 rfl, at_row Rf 0 rfl, Below.refl _ _⟩ (bel_two _ _ _) (BW.trans ((bel_two _ _ _).mono BW.size)) (by omega)
  obtain ⟨Rn, Re, zE, BE⟩ := boxes2 W0 (iO 0) (errO 0)
  rw [← zW] at hh ⊢
  have hh := hh Rn
  have hn1 := size_alloc W0 (iO 0)
  refine (caught_ok _ _ _ (fun w1 => ∃ w3, Below ((W0.alloc (iO 0)).alloc (errO 0)).heap.size ((W0.alloc (iO 0)).alloc (errO 0)) w3 ∧ w1 = w3.setCell ⟨W0.heap.size, 0, none⟩ (.int .i64 z)) (hcf _) (hh.mono ?_)).mono ?_
  · rintro e w1 ⟨rfl, w3, b, rfl⟩
    exact ⟨rfl, okeep_row (by omega) (by rw [hn1]; exact row_below Re b), w3, b, rfl⟩
  rintro e w' ⟨rfl, w1, ⟨w3, b, rfl⟩, _, rfl⟩
  have Rn2 := okeep_row (i := 0) (v := .int .i64 0) (show W0.heap.size ≠ (W0.alloc (iO 0)).heap.size by omega) (set_row (row_below Rn b) (.int .i64 z) (i := 0))
  have B2 := hid (((BW.trans ((BE.trans (b.mono BE.size)).mono BW.size)).setCell (p := ⟨W0.heap.size, 0, none⟩) BW.size (.int .i64 z)).setCell (p := ⟨(W0.alloc (iO 0)).heap.size, 0, none⟩) (by have := BW.size; show w.heap.size ≤ (W0.alloc (iO 0)).heap.size; omega) (.int .i64 0))
  have n0 := at_row Rn2 0 rfl
  clear hh hc b Rn2 Rn Re zW zE hn1
  dsimp only
  generalize World.setCell (World.setCell _ _ _) _ _ = W3 at *
  go_wp2
  go_ret2
  exact ⟨rfl, B2.out⟩
/-- What Place answers. -/
def plv (t s : Int) (xs : List Int) (ss : List ByteArray) (x f : Int) : Int × Int :=
  if spc t s x = false then (0, 4) else if osz xs ss (eo t s x) x = 0 then (0, 170) else if f < 0 ∨ osz xs ss (eo t s x) x - 2 ≤ f then (0, 131) else (x + 2 + f, 0)
theorem Place_nil (P : Option Addr) (a0 : Option Addr) (c0 : Nat) (t s : Int) (a : Option Addr) (n c : Nat) (x f : Int) (w : World) (hf : Faces w (.pointer P) (.slice a0 0 c0)) :
    Calls Tryd.prog 11 #[.pointer P, planV t s a n c, .int .i64 x, .int .i64 f] w fun e w' => e = .returned (.tuple #[.int .i64 0, .int .i64 1]) ∧ Below w.heap.size w w' :=
  Place_up 1 P t s a n c x f w fun W0 We ga gp gt gf gx H0 HB HW => clop_open W0 We ga gp gt gf gx P t s a n c x f H0 HB 1 fun W hW => open_nil _ a0 c0 t s a n c W (hf.below (HW.trans (hW.mono HW.size)))
theorem Place_arg (A B : Nat) (xs : List Int) (ss : List ByteArray) (z : Int) (t s : Int) (a : Option Addr) (n c : Nat) (x f : Int) (w : World) (hT : IsTab w (.slice a n c) ss) (ha : IsAr w A B xs) (hr : rgt t s ss = true) (hz : 3 + t + t + 2 * s = z) (hl : ((z : Int) != xs.length) = true) :
    Calls Tryd.prog 11 #[.pointer (some ⟨A, 0, none⟩), planV t s a n c, .int .i64 x, .int .i64 f] w fun e w' => e = .returned (.tuple #[.int .i64 0, .int .i64 2]) ∧ Below w.heap.size w w' :=
  Place_up 2 _ t s a n c x f w fun W0 We ga gp gt gf gx H0 HB HW => clop_open W0 We ga gp gt gf gx _ t s a n c x f H0 HB 2 fun W hW => open_bad t s a n c ss A B xs z W (hT.below (Nat.le_refl _) (HW.trans (hW.mono HW.size))) (ha.below (HW.trans (hW.mono HW.size))) hr hz hl
theorem spc_in {t s x : Int} {xs : List Int} (h : spc t s x = true) (t0 : 1 ≤ t) (hl : (xs.length : Int) = 3 + t + t + 2 * s) : 0 ≤ x ∧ x < xs.length := by
  simp [spc] at h; omega
theorem Place_at (A B : Nat) (xs : List Int) (ss : List ByteArray) (t s : Int) (a : Option Addr) (n c : Nat) (x f v er : Int) (w : World) (h : IsHp w t s a n c ss A B xs) (hv : Hid (plv t s xs ss x f = (v, er))) :
    Calls Tryd.prog 11 #[.pointer (some ⟨A, 0, none⟩), planV t s a n c, .int .i64 x, .int .i64 f] w fun e w' => e = .returned (.tuple #[.int .i64 v, .int .i64 er]) ∧ Below w.heap.size w w' := by
  have hv := hv.out
  obtain ⟨t0, t1, s0, s1, hx9⟩ := h.size
  have co := fun (We : World) (HW : Below w.heap.size w We) W (hW : Below We.heap.size We W) => open_ok t s a n c ss A B xs W (h.below (HW.trans (hW.mono HW.size)))
  by_cases h1 : spc t s x = false
  · rw [plv, if_pos h1] at hv
    cases hv
    exact Place_up 4 _ t s a n c x f w fun W0 We ga gp gt gf gx H0 HB HW => clop_to W0 We ga gp gt gf gx _ t s a n c x f H0 HB 4 A (co We HW) fun L W hW hL => to_no t s a n c ss _ 0 0 x W (h.tab.below (Nat.le_refl _) (HW.trans (hW.mono HW.size))) h.rg ⟨_, _, _, rfl⟩ h1
  · rw [plv, if_neg h1] at hv
    have h1 : spc t s x = true := by simpa using h1
    obtain ⟨x0, x9⟩ := spc_in h1 t0 h.len
    have he := eo_bd s0 h1
    obtain ⟨q, rfl⟩ := Int.eq_ofNat_of_zero_le x0
    have hq : q < xs.length := by omega
    have e0 : 0 ≤ eo t s q := by omega
    have e1 : eo t s q ≤ 20000 := by omega
    have ct := fun (We : World) (HW : Below w.heap.size w We) (L : Nat) W (hW : Below We.heap.size We W) (_ : W.heap[L]? = some (arO A)) => to_ok t s a n c ss L 0 0 q W (h.tab.below (Nat.le_refl _) (HW.trans (hW.mono HW.size))) h.rg h1
    obtain ⟨z, hz⟩ : ∃ z, Hid (osz xs ss (eo t s q) q = z) := ⟨_, hid rfl⟩
    rw [hz.out] at hv
    by_cases h2 : z = 0
    · rw [if_pos h2] at hv
      cases hv
      exact Place_up 170 _ t s a n c q f w fun W0 We ga gp gt gf gx H0 HB HW => clop_last W0 We ga gp gt gf gx _ t s a n c q f H0 HB 170 _ A (co We HW) (ct We HW) fun L W hW hL => place_no t s a n c ss L A B xs q _ f W (h.below (HW.trans (hW.mono HW.size))) hL hq e0 e1 (hid (hz.out.trans h2))
    · rw [if_neg h2] at hv
      have hzz : 2 ≤ z ∧ z ≤ 10 := by
        rcases osz_cases xs ss (eo t s q) q with h3 | h3
        · rw [hz.out] at h3; exact absurd h3 h2
        · rw [hz.out] at h3; exact ⟨h3.1, h3.2.1⟩
      by_cases h3 : f < 0 ∨ z - 2 ≤ f
      · rw [if_pos h3] at hv
        cases hv
        exact Place_up 131 _ t s a n c q f w fun W0 We ga gp gt gf gx H0 HB HW => clop_last W0 We ga gp gt gf gx _ t s a n c q f H0 HB 131 _ A (co We HW) (ct We HW) fun L W hW hL => place_out t s a n c ss L A B xs q _ z f W (h.below (HW.trans (hW.mono HW.size))) hL hq e0 e1 hz hzz.1 hzz.2 h3
      · rw [if_neg h3] at hv
        cases hv
        exact Place_okc _ _ t s a n c q f w fun W0 We ga gp gt gf gx H0 HB HW hgx Rx => clop_ok W0 We ga gp gt gf gx _ t s a n c q f H0 HB _ A _ hgx Rx (co We HW) (ct We HW) fun L W hW hL => place_yes t s a n c ss L A B xs q _ z f W (h.below (HW.trans (hW.mono HW.size))) hL hq e0 e1 hz hzz.1 hzz.2 (by omega) (by omega)
end Go.Proofs.YtldfmlkjeniemaaDoor
/- package object: Walk. -/
set_option linter.unusedVariables false
namespace Go.Proofs.YtldfmlkjeniemaaDoor
open Go.RowKit Go.Ly Go.Hd Go.Sh Go.Ob
abbrev nO : Obj := .cells #[.slice none 0 0] 40
set_option maxRecDepth 100000 in
set_option maxHeartbeats 2000000 in
theorem Walk_up (k : Int) (P : Option Addr) (t s : Int) (a : Option Addr) (n c : Nat) (q f u : Int) (w : World)
    (hc : ∀ (W0 We : World) (ga gp gs gf gu gx : Nat), Hs7 W0 ga 0 (.pointer P) gp 0 (.int .i64 t) gp 1 (.int .i64 s) gp 2 (.slice a n c) gs 0 (.int .i64 q) gf 0 (.int .i64 f) gu 0 (.int .i64 u) W0 → Below W0.heap.size W0 We → Below w.heap.size w We →
      Calls Tryd.prog 29 #[.pointer (some ⟨ga, 0, none⟩), .pointer (some ⟨gp, 0, none⟩), .pointer (some ⟨gs, 0, none⟩), .pointer (some ⟨gf, 0, none⟩), .pointer (some ⟨gu, 0, none⟩), .pointer (some ⟨gx, 0, none⟩)] We fun e w' => e = upE k ∧ Below We.heap.size We w') :
    Calls Tryd.prog 13 #[.pointer P, planV t s a n c, .int .i64 q, .int .i64 f, .int .i64 u] w fun e w' => e = .returned (.tuple #[.slice none 0 0, .int .i64 k]) ∧ Below w.heap.size w w' := by
  have hmf : ∀ (fn : Fn) (first cap : Array Value) (w : World), (Instr.makeFunc fn first cap).run Tryd.prog w = .ok (.func fn first cap) w := fun _ _ _ _ => rfl
  go_enter Tryd.func13, Tryd.ntmps13
  go_wp2_with fail
  have hcf : ∀ (cap : Array Value) (w : World), (callFunc 29 cap).run Tryd.prog w = .ok (.enter 29 cap) w := fun _ _ => rfl
  have hr := boxes5 w (paO P) (plO t s a n c) (iO q) (iO f) (iO u)
  generalize ((((w.alloc (paO P)).alloc (plO t s a n c)).alloc (iO q)).alloc (iO f)).alloc (iO u) = W0 at *
  obtain ⟨Ra, Rp, Rt, Rf, Ru, zW, BW⟩ := hr
  have hh := hc W0 ((W0.alloc (nO)).alloc (errO 0)) w.heap.size (w.heap.size + 1) (w.heap.size + 1 + 1) (w.heap.size + 1 + 1 + 1) (w.heap.size + 1 + 1 + 1 + 1) (w.heap.size + 1 + 1 + 1 + 1 + 1)
    ⟨at_row Ra 0 rfl, at_row Rp 0 rfl, at_row Rp 1 rfl, at_row Rp 2 rfl, at_row Rt 0 rfl, at_row Rf 0 rfl, at_row Ru 0 rfl, Below.refl _ _⟩ (bel_two _ _ _) (BW.trans ((bel_two _ _ _).mono BW.size))
  obtain ⟨Rn, Re, zE, BE⟩ := boxes2 W0 (nO) (errO 0)
  rw [← zW] at hh ⊢
  have hn1 := size_alloc W0 (nO)
  refine (caught_up _ _ k _ (fun w1 => Below ((W0.alloc (nO)).alloc (errO 0)).heap.size ((W0.alloc (nO)).alloc (errO 0)) w1) (hcf _) (hh.mono ?_)).mono ?_
  · rintro e w1 ⟨rfl, b⟩
    exact ⟨rfl, by rw [hn1]; exact row_below Re b, b⟩
  rintro e w' ⟨rfl, w1, w2, b1, _, b2, rfl⟩
  have Rn2 := okeep_row (i := 0) (v := .int .i64 k) (show W0.heap.size ≠ (W0.alloc (nO)).heap.size by omega) (row_below (row_below Rn b1) b2)
  have B2 := hid ((BW.trans ((BE.trans ((b1.trans (b2.mono b1.size)).mono BE.size)).mono BW.size)).setCell (p := ⟨(W0.alloc (nO)).heap.size, 0, none⟩) (by have := BW.size; show w.heap.size ≤ (W0.alloc (nO)).heap.size; omega) (.int .i64 k))
  have n0 := at_row Rn2 0 rfl
  clear hh hc b1 b2 Rn2 Rn Re zW zE hn1
  dsimp only
  generalize w2.setCell _ _ = W3 at *
  go_wp2

  go_ret2
  exact ⟨rfl, B2.out⟩
set_option maxRecDepth 100000 in
set_option maxHeartbeats 2000000 in
theorem Walk_okc (zs : List Int) (P : Option Addr) (t s : Int) (a : Option Addr) (n c : Nat) (q f u : Int) (w : World)
    (hc : ∀ (W0 We : World) (ga gp gs gf gu gx : Nat), Hs7 W0 ga 0 (.pointer P) gp 0 (.int .i64 t) gp 1 (.int .i64 s) gp 2 (.slice a n c) gs 0 (.int .i64 q) gf 0 (.int .i64 f) gu 0 (.int .i64 u) W0 → Below W0.heap.size W0 We → Below w.heap.size w We → W0.heap.size ≤ gx → We.heap[gx]? = some (nO) →
      Calls Tryd.prog 29 #[.pointer (some ⟨ga, 0, none⟩), .pointer (some ⟨gp, 0, none⟩), .pointer (some ⟨gs, 0, none⟩), .pointer (some ⟨gf, 0, none⟩), .pointer (some ⟨gu, 0, none⟩), .pointer (some ⟨gx, 0, none⟩)] We fun e w' => e = .returned (.tuple #[]) ∧ ∃ w3 v, Below We.heap.size We w3 ∧ IfAt We.heap.size w3 v zs ∧ w' = w3.setCell ⟨gx, 0, none⟩ v) :
    Calls Tryd.prog 13 #[.pointer P, planV t s a n c, .int .i64 q, .int .i64 f, .int .i64 u] w fun e w' => ∃ v, e = .returned (.tuple #[v, .int .i64 0]) ∧ IfAt w.heap.size w' v zs ∧ Below w.heap.size w w' := by
  have hmf : ∀ (fn : Fn) (first cap : Array Value) (w : World), (Instr.makeFunc fn first cap).run Tryd.prog w = .ok (.func fn first cap) w := fun _ _ _ _ => rfl
  go_enter Tryd.func13, Tryd.ntmps13
  go_wp2_with fail
  have hcf : ∀ (cap : Array Value) (w : World), (callFunc 29 cap).run Tryd.prog w = .ok (.enter 29 cap) w := fun _ _ => rfl
  have hr := boxes5 w (paO P) (plO t s a n c) (iO q) (iO f) (iO u)
  generalize ((((w.alloc (paO P)).alloc (plO t s a n c)).alloc (iO q)).alloc (iO f)).alloc (iO u) = W0 at *
  obtain ⟨Ra, Rp, Rt, Rf, Ru, zW, BW⟩ := hr
  have hh := hc W0 ((W0.alloc (nO)).alloc (errO 0)) w.heap.size (w.heap.size + 1) (w.heap.size + 1 + 1) (w.heap.size + 1 + 1 + 1) (w.heap.size + 1 + 1 + 1 + 1) (w.heap.size + 1 + 1 + 1 + 1 + 1)
    ⟨at_row Ra 0 rfl, at_row Rp 0 rfl, at_row Rp 1 rfl, at_row Rp 2 rfl, at_row Rt 0 rfl, at_row Rf 0 rfl, at_row Ru 0 rfl, Below.refl _ _⟩ (bel_two _ _ _) (BW.trans ((bel_two _ _ _).mono BW.size)) (by omega)
  obtain ⟨Rn, Re, zE, BE⟩ := boxes2 W0 (nO) (errO 0)
  rw [← zW] at hh ⊢
  have hh := hh Rn
  have hn1 := size_alloc W0 (nO)
  refine (caught_ok _ _ _ (fun w1 => ∃ w3 v, Below ((W0.alloc (nO)).alloc (errO 0)).heap.size ((W0.alloc (nO)).alloc (errO 0)) w3 ∧ IfAt ((W0.alloc (nO)).alloc (errO 0)).heap.size w3 v zs ∧ w1 = w3.setCell ⟨W0.heap.size, 0, none⟩ v) (hcf _) (hh.mono ?_)).mono ?_
  · rintro e w1 ⟨rfl, w3, v, b, hf, rfl⟩
    exact ⟨rfl, okeep_row (by omega) (by rw [hn1]; exact row_below Re b), w3, v, b, hf, rfl⟩
  rintro e w' ⟨rfl, w1, ⟨w3, v, b, hf, rfl⟩, _, rfl⟩
  obtain ⟨av, cv, rfl, hf⟩ := hf
  have hF := hid (((show IfAt (W0.heap.size + 1 + 1) w3 (.slice av zs.length cv) zs from IfAt.lower ⟨av, cv, rfl, hf⟩ (by omega)).set (g := W0.heap.size) (by omega) 0 (.slice av zs.length cv)).set (g := (W0.alloc (nO)).heap.size) (by omega) 0 (.int .i64 0))
  have zz := BW.size
  have Rn2 := okeep_row (i := 0) (v := .int .i64 0) (show W0.heap.size ≠ (W0.alloc (nO)).heap.size by omega) (set_row (row_below Rn b) (.slice av zs.length cv) (i := 0))
  have B2 := hid (((BW.trans ((BE.trans (b.mono BE.size)).mono BW.size)).setCell (p := ⟨W0.heap.size, 0, none⟩) BW.size (.slice av zs.length cv)).setCell (p := ⟨(W0.alloc (nO)).heap.size, 0, none⟩) (by have := BW.size; show w.heap.size ≤ (W0.alloc (nO)).heap.size; omega) (.int .i64 0))
  have n0 := at_row Rn2 0 rfl
  clear hh hc b hf Rn2 Rn Re zW zE hn1
  dsimp only
  generalize World.setCell (World.setCell _ _ _) _ _ = W3 at *
  go_wp2
  go_ret2
  exact ⟨_, rfl, hF.out.lower (by omega), B2.out⟩
theorem Walk_nil (P : Option Addr) (a0 : Option Addr) (c0 : Nat) (t s : Int) (a : Option Addr) (n c : Nat) (q f u : Int) (w : World) (hf : Faces w (.pointer P) (.slice a0 0 c0)) :
    Calls Tryd.prog 13 #[.pointer P, planV t s a n c, .int .i64 q, .int .i64 f, .int .i64 u] w fun e w' => e = .returned (.tuple #[.slice none 0 0, .int .i64 1]) ∧ Below w.heap.size w w' :=
  Walk_up 1 P t s a n c q f u w fun W0 We ga gp gs gf gu gx H0 HB HW => clow_open W0 We ga gp gs gf gu gx P t s a n c q f u H0 HB 1 fun W hW => open_nil _ a0 c0 t s a n c W (hf.below (HW.trans (hW.mono HW.size)))
theorem Walk_arg (A B : Nat) (xs : List Int) (ss : List ByteArray) (z : Int) (t s : Int) (a : Option Addr) (n c : Nat) (q f u : Int) (w : World) (hT : IsTab w (.slice a n c) ss) (ha : IsAr w A B xs) (hr : rgt t s ss = true) (hz : 3 + t + t + 2 * s = z) (hl : ((z : Int) != xs.length) = true) :
    Calls Tryd.prog 13 #[.pointer (some ⟨A, 0, none⟩), planV t s a n c, .int .i64 q, .int .i64 f, .int .i64 u] w fun e w' => e = .returned (.tuple #[.slice none 0 0, .int .i64 2]) ∧ Below w.heap.size w w' :=
  Walk_up 2 _ t s a n c q f u w fun W0 We ga gp gs gf gu gx H0 HB HW => clow_open W0 We ga gp gs gf gu gx _ t s a n c q f u H0 HB 2 fun W hW => open_bad t s a n c ss A B xs z W (hT.below (Nat.le_refl _) (HW.trans (hW.mono HW.size))) (ha.below (HW.trans (hW.mono HW.size))) hr hz hl
/-- May it be walked so? -/
def wlk (s q f u : Int) : Bool := (decide (q = 0) || decide (q = 1)) && (decide (0 ≤ f) && decide (f ≤ u) && decide (u ≤ s))
theorem base_is {t s q : Int} {ss : List ByteArray} (hr : rgt t s ss = true) : atv t s ss 6 q 0 = if q = 0 ∨ q = 1 then (3 + t + t + q * s, 0) else (0, 4) := by
  obtain ⟨t0, t1, s0, s1, _⟩ := rgt_yes hr
  rw [atv, if_pos hr]
  have hm : mayP 6 q 0 = true := by simp [mayP]
  unfold av
  rw [if_pos hm]
  by_cases hq : q = 0 ∨ q = 1
  · rw [if_pos hq, if_pos (by simp [hasP, prt, wrd]; omega)]
    show (bs t s 6 + q * wrd s 6 + 0, (0 : Int)) = _
    rw [bs6]; simp [wrd]
  · rw [if_neg hq, if_neg (by simp [hasP, prt, wrd]; omega)]
theorem Walk_range (A B : Nat) (xs : List Int) (ss : List ByteArray) (t s : Int) (a : Option Addr) (n c : Nat) (q f u : Int) (w : World) (h : IsHp w t s a n c ss A B xs) (h1 : wlk s q f u = false) :
    Calls Tryd.prog 13 #[.pointer (some ⟨A, 0, none⟩), planV t s a n c, .int .i64 q, .int .i64 f, .int .i64 u] w fun e w' => e = .returned (.tuple #[.slice none 0 0, .int .i64 4]) ∧ Below w.heap.size w w' := by
  have hb := base_is (q := q) h.rg
  refine Walk_up 4 _ t s a n c q f u w fun W0 We ga gp gs gf gu gx H0 HB HW => clow_last W0 We ga gp gs gf gu gx _ t s a n c q f u H0 HB 4 0 A (fun W hW => open_ok t s a n c ss A B xs W (h.below (HW.trans (hW.mono HW.size)))) fun L W hW hL => ?_
  have hT := h.tab.below (Nat.le_refl _) (HW.trans (hW.mono HW.size))
  have hN := h.nums.below (HW.trans (hW.mono HW.size))
  by_cases hq : q = 0 ∨ q = 1
  · rw [if_pos hq] at hb
    exact walk_no t s a n c ss L q _ 0 f u 0 0 W hT hN (hid hb) (.inr ⟨rfl, by simp [wlk] at h1; omega⟩)
  · rw [if_neg hq] at hb
    exact walk_no t s a n c ss L q _ 4 f u 0 0 W hT hN (hid hb) (.inl rfl)
theorem Walk_ok (A B : Nat) (xs : List Int) (ss : List ByteArray) (t s : Int) (a : Option Addr) (n c : Nat) (q f u : Int) (P0 E K : Nat) (w : World) (h : IsHp w t s a n c ss A B xs) (h1 : wlk s q f u = true) (hP : 3 + t + t + q * s + f = (P0 : Int)) (hE : 3 + t + t + q * s + s = (E : Int)) (hK : Go.Ob.Ends (osz xs ss (E : Int)) P0 (3 + t + t + q * s + u) K) :
    Calls Tryd.prog 13 #[.pointer (some ⟨A, 0, none⟩), planV t s a n c, .int .i64 q, .int .i64 f, .int .i64 u] w fun e w' => ∃ v, e = .returned (.tuple #[v, .int .i64 0]) ∧ IfAt w.heap.size w' v (tol (osz xs ss (E : Int)) P0 K) ∧ Below w.heap.size w w' := by
  have hb := base_is (q := q) h.rg
  obtain ⟨t0, t1, s0, s1, hx9⟩ := h.size
  have hl := h.len
  have hq : (q = 0 ∨ q = 1) ∧ 0 ≤ f ∧ f ≤ u ∧ u ≤ s := by simpa [wlk, and_assoc] using h1
  rw [if_pos hq.1] at hb
  have hqs : 0 ≤ q * s ∧ q * s ≤ s := by rcases hq.1 with rfl | rfl <;> omega
  exact Walk_okc _ _ t s a n c q f u w fun W0 We ga gp gs gf gu gx H0 HB HW hgx Rx => clow_ok W0 We ga gp gs gf gu gx _ t s a n c q f u H0 HB 0 A _ hgx Rx (fun W hW => open_ok t s a n c ss A B xs W (h.below (HW.trans (hW.mono HW.size)))) fun L W hW hL => walk_yes t s a n c ss L A B xs q _ f u 0 0 P0 E K W (h.below (HW.trans (hW.mono HW.size))) hL (hid hb) (by omega) (by omega) hq.2.1 hq.2.2.1 hq.2.2.2 hP hE (by omega) hK
end Go.Proofs.YtldfmlkjeniemaaDoor
