/- The law ObjectWalk. -/
import Derived.Test.YtldfmlkjeniemaaDoorObNilOn
import Derived.Test.YtldfmlkjeniemaaDoorObRWalk
import Derived.Test.YtldfmlkjeniemaaDoorHdLeafOn
import Derived.SliceStrings
import Derived.Test.YtldfmlkjeniemaaDoorObMadeOn
import Derived.LaidLaws
import Derived.ChangeArms
import Derived.Lib.LaidTab
import Derived.MakeChecks
import Derived.LaidMore
import Derived.ProofKit
import Derived.OpenShut
import Derived.Stop.Joined
import Derived.Lib.SmallJoins
set_option linter.unusedVariables false
namespace Go.Proofs.YtldfmlkjeniemaaDoor
open Go.RowKit Go.Ly Go.Hd Go.Sh Go.Ob
theorem IfAt.cellk {lo : Nat} {W : World} {a : Option Addr} {n c : Nat} {zs : List Int} (h : IfAt lo W (.slice a n c) zs) (k : Nat) (hk : k < zs.length) : ∃ b off, a = some ⟨b, off, none⟩ ∧ W.cell? ⟨b, off + k, none⟩ = some (.int .i64 (wat zs k)) := by
  obtain ⟨a', c', e, h⟩ := h
  cases e
  rcases h with rfl | ⟨b, off, rfl, _, h⟩
  · simp at hk
  · exact ⟨b, off, rfl, h k hk⟩
theorem ifAt_nil (W : World) : IfAt 0 W (.slice none 0 0) [] := ⟨none, 0, rfl, .inl rfl⟩
/-- What a walk answers, the program's and the document's: one and the same. -/
theorem walk_both (t s : Int) (a : Option Addr) (n c : Nat) (ss : List ByteArray) (xs : List Int) (m q f u : Int) (w : World) (hT : IsTab w (.slice a n c) ss) (hL : LNums w) (hr : rgt t s ss = true) (hxi : InW xs) (hl : (xs.length : Int) = 3 + t + t + 2 * s + m) :
    ∃ er zs, zs.length ≤ 9000 ∧ (∀ A B W, Below w.heap.size w W → IsAr W A B xs → Calls Tryd.prog 13 #[.pointer (some ⟨A, 0, none⟩), planV t s a n c, .int .i64 q, .int .i64 f, .int .i64 u] W fun e w' => ∃ a1 c1, e = .returned (.tuple #[.slice a1 zs.length c1, .int .i64 er]) ∧ IfAt 0 w' (.slice a1 zs.length c1) zs ∧ Below W.heap.size W w') ∧
      (∀ b lc W, Below w.heap.size w W → Ws W b 0 xs → Calls Tryd.prog 14 #[.slice (some ⟨b, 0, none⟩) xs.length lc, planV t s a n c, .int .i64 q, .int .i64 f, .int .i64 u] W fun e w' => ∃ a1 c1, e = .returned (.tuple #[.slice a1 zs.length c1, .int .i64 er]) ∧ IfAt 0 w' (.slice a1 zs.length c1) zs ∧ Below W.heap.size W w') := by
  obtain ⟨t0, t1, s0, s1, _⟩ := rgt_yes hr
  by_cases hm : m = 0
  · have hl2 : (xs.length : Int) = 3 + t + t + 2 * s := by omega
    by_cases h1 : wlk s q f u = true
    · have hq : (q = 0 ∨ q = 1) ∧ 0 ≤ f ∧ f ≤ u ∧ u ≤ s := by simpa [wlk, and_assoc] using h1
      have hqs : 0 ≤ q * s ∧ q * s ≤ s := by rcases hq.1 with rfl | rfl <;> omega
      obtain ⟨P0, hP⟩ := Int.eq_ofNat_of_zero_le (show 0 ≤ 3 + t + t + q * s + f by omega)
      obtain ⟨E, hE⟩ := Int.eq_ofNat_of_zero_le (show 0 ≤ 3 + t + t + q * s + s by omega)
      obtain ⟨K, hK⟩ := ends_exist (osz xs ss (E : Int)) P0 (3 + t + t + q * s + u) (by omega)
      have hKl := hK.le (by omega)
      have htl := tol_le (osz xs ss (E : Int)) (P0 : Int) K
      refine ⟨0, tol (osz xs ss (E : Int)) P0 K, by omega, fun A B W hW hA => ?_, fun b lc W hW hx => ?_⟩
      · refine (Walk_ok A B xs ss t s a n c q f u P0 E K W ⟨hT.below (Nat.le_refl _) hW, hL.below hW, hA, hr, hl2⟩ h1 hP hE hK).mono ?_
        rintro e w' ⟨v, rfl, hv, hb⟩
        obtain ⟨a1, c1, rfl, hv2⟩ := hv
        exact ⟨a1, c1, rfl, IfAt.lower ⟨a1, c1, rfl, hv2⟩ (Nat.zero_le _), hb⟩
      · refine (oWalk_ok t s a n c ss b 0 lc xs q f u P0 E K W (hT.below (Nat.le_refl _) hW) hr hx hxi hl2 h1 hP hE hK).mono ?_
        rintro e w' ⟨v, rfl, hv, hb⟩
        obtain ⟨a1, c1, rfl, hv2⟩ := hv
        exact ⟨a1, c1, rfl, IfAt.lower ⟨a1, c1, rfl, hv2⟩ (Nat.zero_le _), hb⟩
    · have h1 : wlk s q f u = false := by simpa using h1
      refine ⟨4, [], by simp, fun A B W hW hA => ?_, fun b lc W hW hx => ?_⟩
      · refine (Walk_range A B xs ss t s a n c q f u W ⟨hT.below (Nat.le_refl _) hW, hL.below hW, hA, hr, hl2⟩ h1).mono ?_
        rintro e w' ⟨rfl, hb⟩
        exact ⟨none, 0, rfl, ifAt_nil _, hb⟩
      · refine (oWalk_range t s a n c ss _ _ lc q f u W (hT.below (Nat.le_refl _) hW) hr hl2 h1).mono ?_
        rintro e w' ⟨rfl, hb⟩
        exact ⟨none, 0, rfl, ifAt_nil _, hb⟩
  · refine ⟨2, [], by simp, fun A B W hW hA => ?_, fun b lc W hW hx => ?_⟩
    · refine (Walk_arg A B xs ss _ t s a n c q f u W (hT.below (Nat.le_refl _) hW) hA hr rfl (by simp; omega)).mono ?_
      rintro e w' ⟨rfl, hb⟩
      exact ⟨none, 0, rfl, ifAt_nil _, hb⟩
    · refine (oWalk_arg t s a n c ss _ _ lc _ q f u W (hT.below (Nat.le_refl _) hW) hr rfl (by rw [beq_eq_false_iff_ne]; omega)).mono ?_
      rintro e w' ⟨rfl, hb⟩
      exact ⟨none, 0, rfl, ifAt_nil _, hb⟩
set_option maxRecDepth 100000 in
set_option maxHeartbeats 4000000 in
theorem objectWalk_any (t s : Int) (a : Option Addr) (n c : Nat) (ss : List ByteArray) (wa : Option Addr) (wc : Nat) (ws : List Int) (m q f u : Int) (w : World) (hT : IsTab w (.slice a n c) ss) (hL : LNums w) (hws : WsA w wa wc ws) (hi : InW ws) :
    Calls Tryd.prog 4 #[hpV t s a n c wa ws.length wc m, .int .i64 q, .int .i64 f, .int .i64 u] w fun e w' => e = .returned (.bool true) ∧ Below w.heap.size w w' := by
  have B0 := hid (below_alloc0 w (hpO t s a n c wa ws.length wc m))
  have R0 := heap_alloc_last w (hpO t s a n c wa ws.length wc m)
  have cw := fun W (h : Below w.heap.size w W) => oworks_any W (hL.below h)
  by_cases h : mdOk t s ss ws.length m = true
  · obtain ⟨hr, s9, _, m0, m9⟩ := md_yes h
    obtain ⟨t0, t1, s0, s1, _⟩ := rgt_yes hr
    obtain ⟨N, hN⟩ := Int.eq_ofNat_of_zero_le (show 0 ≤ 3 + t + t + 2 * s + m by omega)
    have cm := made_yes t s a n c ss wa wc ws m N _ (hT.below (Nat.le_refl _) B0.out) h (hws.below B0.out) hN.symm
    have hl := mdW_len ws N
    have hxi := mdW_in hi N
    generalize mdW ws N = xs at *
    subst hl
    have n0 : ((xs.length : Int) == 0) = false := by rw [beq_eq_false_iff_ne]; omega
    obtain ⟨er, zs, z9, cp, cr⟩ := walk_both t s a n c ss xs m q f u w hT hL hr hxi hN.symm
    have h1 : 1 ≤ xs.length := by omega
    have h2 : xs.length ≤ 16384 := by omega
    clear hT hL hws h hr s9 m0 m9 t0 t1 s0 s1 hN hi
    generalize ws.length = wn at *
    go_enter Tryd.func4, Tryd.ntmps4
    go_wp2_with (go_at_call 7; refine cm.mono ?_)
    rintro e w1 ⟨G, rfl, hx, _, b1⟩
    have R1 := hid (row_below R0 b1)
    have B1 := hid (B0.out.trans (b1.mono B0.out.size))
    have cO := Of_yes G 0 xs.length xs w1 hx h1 h2
    have A2 := hid (made_ar w1 xs hxi h1 h2)
    have M2 := made_below w1 xs
    have X2 := hid (hx.bel M2)
    have R2 := hid (row_below R1.out M2)
    have B2 := hid (B1.out.trans (M2.mono B1.out.size))
    clear cm b1 R0 B0 hx R1 B1 M2 h1 h2 hxi
    generalize made w1 xs = w2 at *
    go_wp2_with (go_at_call 8; refine cO.mono ?_; rintro e w' ⟨rfl, hw⟩; rw [hw]; clear hw)
    have P2 := cp _ _ w2 B2.out A2.out
    have d0 := at_row R2.out 0 rfl
    have d1 := at_row R2.out 1 rfl
    have d2 := at_row R2.out 2 rfl
    clear cO A2 cp
    go_wp2_with (go_at_call 9; refine (onum_any _ _).mono ?_)
    rintro e w' ⟨rfl, rfl⟩
    go_wp2_with (go_at_call 13; refine P2.mono ?_)
    rintro e w3 ⟨a1, c1, rfl, F1, b3⟩
    have R3 := hid (row_below R2.out b3)
    have B3 := hid (B2.out.trans (b3.mono B2.out.size))
    have P3 := cr G xs.length w3 B3.out (X2.out.bel b3)
    have F1 := hid F1
    clear P2 d0 d1 d2 b3 R2 B2 X2 cr
    have d0 := at_row R3.out 0 rfl
    have d1 := at_row R3.out 1 rfl
    have d2 := at_row R3.out 2 rfl
    go_wp2_with (go_at_call 14; refine P3.mono ?_)
    rintro e w4 ⟨a2, c2, rfl, F2, b4⟩
    have B4 := hid (B3.out.trans (b4.mono B3.out.size))
    have F1' := hid (F1.out.below b4)
    have F2 := hid F2
    clear P3 d0 d1 d2 b4 R3 B3 F1
    have he : (er != er) = false := by simp
    have hz : ((zs.length : Int) != (zs.length : Int)) = false := by simp
    go_wp2_with (go_at_call 9; refine (onum_any _ _).mono ?_; rintro e w' ⟨rfl, hw⟩; rw [hw]; clear hw)
    go_loopw [16] (fun i wr => ∃ k : Nat, k ≤ zs.length ∧ i = .int .i64 k ∧ Hid (Below w4.heap.size w4 wr)) (fun i _ => zs.length - (intOf i).toNat)
    case atStart => exact ⟨0, by omega, rfl, hid (Below.refl _ _)⟩
    case round =>
      obtain ⟨k, hk, rfl, HB⟩ := hrel
      by_cases hlt : k < zs.length
      · have hlt' : (k : Int) < zs.length := by omega
        obtain ⟨b1, off1, rfl, hc1⟩ := (F1'.out.below HB.out).cellk k hlt
        obtain ⟨b2, off2, rfl, hc2⟩ := (F2.out.below HB.out).cellk k hlt
        generalize wat zs k = p at *
        have hp : (p != p) = false := by simp
        go_wp2
        go_quiet (fail)
        go_wp2
        go_roundw
        case rel => exact ⟨k + 1, by omega, by go_num, hid (bdrewN HB.out _)⟩
        case measure => simp [intOf]; omega
      · obtain rfl : k = zs.length := by omega
        have B5 := hid (B4.out.trans (HB.out.mono B4.out.size))
        have cw2 := cw _ B5.out
        go_wp2_with (go_at_call 10; refine cw2.mono ?_; rintro e w7 ⟨rfl, b7⟩)
        go_ret
        exact ⟨rfl, B5.out.trans (b7.mono B5.out.size)⟩
  · have cm := made_no t s a n c ss wa ws.length wc m _ (hT.below (Nat.le_refl _) B0.out) (by simpa using h)
    clear hT hL hws h
    generalize ws.length = wn at *
    go_enter Tryd.func4, Tryd.ntmps4
    go_wp2_with (go_at_call 7; refine cm.mono ?_)
    rintro e w1 ⟨rfl, b1⟩
    have B1 := hid (B0.out.trans (b1.mono B0.out.size))
    have cw2 := cw _ B1.out
    clear cm cw b1 R0 B0
    go_wp2_with (first | (go_at_call 8; refine (of_none _).mono ?_; rintro e w' ⟨rfl, rfl⟩) | (go_at_call 10; refine cw2.mono ?_; rintro e w7 ⟨rfl, b7⟩))
    go_ret
    exact ⟨rfl, B1.out.trans (b7.mono B1.out.size)⟩
end Go.Proofs.YtldfmlkjeniemaaDoor
/- The slice of shapes that a law is handed, opened. -/
namespace Go.Proofs.YtldfmlkjeniemaaDoor
open Go.RowKit Go.Sh
theorem tab_open {H : Type} {enc : TypeId × Value → H} {W : World} {sp : Nat → Bool} {held : Bool} {a : Option Addr} {len cap fuel : Nat} {x : DataW H × List MemPlace}
    (h : DataW.trod enc Tryd.prog W 0 sp held fuel 22 (Value.slice a len cap).cells.toList = some x) : ∃ ss, IsTab W (.slice a len cap) ss := by
  rcases Go.ChangeShapes.open_strings Tryd.underlying22 Tryd.underlying63 (by kernel_rfl) h with ⟨hcs, _⟩ | ⟨ad, l, c, ss, hcs, _, hl, hm, hss, _, hel, _⟩
  · simp [Value.cells] at hcs
    obtain ⟨rfl, rfl, rfl⟩ := hcs
    exact ⟨[], .inl ⟨rfl, _, _, rfl⟩⟩
  · simp [Value.cells] at hcs
    obtain ⟨rfl, rfl, rfl⟩ := hcs
    by_cases h0 : len = 0
    · subst h0
      exact ⟨[], .inl ⟨rfl, _, _, rfl⟩⟩
    · have hlen : len ≤ ss.length := by rw [hss]; split <;> omega
      have hc0 := hel 0 (by omega)
      obtain ⟨b, off, spot⟩ := ad
      have hspot : spot = none := by simpa [Addr.add] using World.cell?_spot hc0
      subst hspot
      have ha : ∀ j, (⟨b, off, none⟩ : Addr).add j = ⟨b, off + j, none⟩ := fun j => by unfold Addr.add; split <;> simp_all
      have htl : (ss.take len).length = len := by rw [List.length_take]; omega
      refine ⟨ss.take len, .inr ⟨b, off, cap, by rw [htl], fun i hi => ?_⟩⟩
      rw [htl] at hi
      have := hel i (by omega)
      rw [ha] at this
      rw [this, at', List.getD_eq_getElem?_getD, List.getD_eq_getElem?_getD, List.getElem?_take, if_pos hi]
end Go.Proofs.YtldfmlkjeniemaaDoor
/- From the rows' listed table of layout to what the walks ask; a heap of layer 7's laws, as it comes in. -/
set_option linter.unusedVariables false
namespace Go.Proofs.YtldfmlkjeniemaaDoor
open Go.RowKit Go.Ly Go.Sh
theorem lnums_of7 {W : World} {rest : List (String × DataW Unit)} (h : laidMet Tryd.prog (("lapidary/layout.partNumbers", Lib.tabData .i64 [0, 0, 0, 0, 1, 1, 2]) :: rest) W) : LNums W := by
  have hg : Tryd.prog.globalNamed "lapidary/layout.partNumbers" = some 0 := by kernel_rfl
  have ht := Lib.tabIs_of_head (k := .i64) (zs := [0, 0, 0, 0, 1, 1, 2]) (n := 7) (e := 3) (t := 162) hg (by kernel_rfl) Tryd.underlying162 Tryd.underlying3 (by kernel_rfl) (by kernel_rfl) h
  intro i hi
  rw [ht.cell hg i (by simpa using hi)]
  have hcs : i = 0 ∨ i = 1 ∨ i = 2 ∨ i = 3 ∨ i = 4 ∨ i = 5 ∨ i = 6 := by omega
  rcases hcs with rfl | rfl | rfl | rfl | rfl | rfl | rfl <;> rfl
/-- A table that stands in a struct's cell, opened. -/
theorem tab_open7 {H : Type} {enc : TypeId × Value → H} {W : World} {sp : Nat → Bool} {held : Bool} {v : Value} {fuel : Nat} {x : DataW H × List MemPlace}
    (h : DataW.trod enc Tryd.prog W 0 sp held fuel 22 [v] = some x) : ∃ a n c ss, v = .slice a n c ∧ IsTab W (.slice a n c) ss := by
  rcases Go.ChangeShapes.open_strings Tryd.underlying22 Tryd.underlying63 (by kernel_rfl) h with ⟨hcs, _⟩ | ⟨ad, l, c, ss, hcs, _⟩
  · simp at hcs
    subst hcs
    obtain ⟨ss, h1⟩ := tab_open (a := none) (len := 0) (cap := 0) (by simpa [Value.cells] using h)
    exact ⟨_, _, _, ss, rfl, h1⟩
  · simp at hcs
    subst hcs
    obtain ⟨ss, h1⟩ := tab_open (a := some ad) (len := l) (cap := c) (by simpa [Value.cells] using h)
    exact ⟨_, _, _, ss, rfl, h1⟩
open Go.ChangeShapes Go.WideShapes Go.ChangeAt Go.WideMaps Go.WideElems Go.RowKit Go.Joins Go.Ly Go.Hd Go.Sh Go.Ob
theorem oarray5 {α : Type} {cs : Array α} (h : cs.size = 5) : ∃ c0 c1 c2 c3 c4, cs = #[c0, c1, c2, c3, c4] := by
  obtain ⟨l⟩ := cs
  match l, h with
  | [c0, c1, c2, c3, c4], _ => exact ⟨c0, c1, c2, c3, c4, rfl⟩
set_option maxRecDepth 100000 in
theorem heap_open {H : Type} {enc : TypeId × Value → H} {W : World} {base : Nat} {held : Bool} {v : Value} {d : DataW H} {p : List MemPlace}
    (hv : Value.okWide Tryd.prog W .any base 27 v) (h : DataW.Trod enc Tryd.prog W 0 (fun _ => true) held 27 v d p) :
    ∃ t s a n c ss wa wc ws m, v = hpV t s a n c wa ws.length wc m ∧ IsTab W (.slice a n c) ss ∧ WsA W wa wc ws ∧ InW ws := by
  obtain ⟨cs, rfl, hsz⟩ := okWide_struct Tryd.underlying27 hv
  obtain ⟨c0, c1, c2, c3, c4, rfl⟩ := oarray5 (hsz.trans (by kernel_rfl))
  obtain ⟨fuel, hf⟩ := h
  obtain ⟨y0, y1, y2, k, hx, _, h0, h1, h2⟩ := Go.Deep.trod_struct3 Tryd.underlying27 hf
  have j0 : DataW.trod enc Tryd.prog W 0 (fun _ => true) held k 24 [c0, c1, c2] = some y0 := h0
  have j1 : DataW.trod enc Tryd.prog W 0 (fun _ => true) held k 25 [c3] = some y1 := h1
  have j2 : DataW.trod enc Tryd.prog W 0 (fun _ => true) held k 3 [c4] = some y2 := h2
  obtain ⟨x0, x1, x2, k2, _, _, g0, g1, g2⟩ := Go.Deep.trod_struct3 Tryd.underlying24 j0
  have g0 : DataW.trod enc Tryd.prog W 0 (fun _ => true) held k2 3 [c0] = some x0 := g0
  have g1 : DataW.trod enc Tryd.prog W 0 (fun _ => true) held k2 3 [c1] = some x1 := g1
  have g2 : DataW.trod enc Tryd.prog W 0 (fun _ => true) held k2 22 [c2] = some x2 := g2
  obtain ⟨t, e0, _, _⟩ := DataW.trod_int Tryd.underlying3 g0
  obtain ⟨s, e1, _, _⟩ := DataW.trod_int Tryd.underlying3 g1
  obtain ⟨m, e2, _, _⟩ := DataW.trod_int Tryd.underlying3 j2
  obtain ⟨a, n, c, ss, rfl, hT⟩ := tab_open7 g2
  simp at e0 e1 e2
  subst e0 e1 e2
  obtain ⟨wa, wn, wc, zs, rfl, hr⟩ : ∃ wa wn wc zs, c3 = .slice wa wn wc ∧ IsRow W wa wn wc zs := by
    rcases open_ints Tryd.underlying25 Tryd.underlying50 (by kernel_rfl) j1 with ⟨hcs, _⟩ | ⟨x, l, c, zs, hcs, _, hl, hm, hz, _, hcell, hwz⟩
    · simp at hcs
      exact ⟨_, _, _, [], hcs, .inl ⟨rfl, rfl, rfl, rfl⟩⟩
    · simp at hcs
      exact ⟨_, _, _, zs, hcs, .inr ⟨_, rfl, hl, hm, by simpa using hz, hcell, hwz⟩⟩
  obtain ⟨ws, rfl, hws, hi⟩ := wsA_of_row hr
  exact ⟨t, s, a, n, c, ss, wa, wc, ws, m, rfl, hT, hws, hi⟩
end Go.Proofs.YtldfmlkjeniemaaDoor
