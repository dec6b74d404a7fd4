/- The law ObjectNil. -/
import Derived.Test.YtldfmlkjeniemaaDoorObMade
import Derived.Test.YtldfmlkjeniemaaDoorObWalkT
import Derived.Test.YtldfmlkjeniemaaDoorHdLeafOn
import Derived.SliceStrings
import Derived.LaidLaws
import Derived.ChangeArms
import Derived.Lib.LaidTab
import Derived.MakeChecks
import Derived.LaidMore
import Derived.ProofKit
import Derived.OpenShut
import Derived.Stop.Joined
import Derived.Lib.SmallJoins
set_option linter.unusedVariables false
namespace Go.Proofs.YtldfmlkjeniemaaDoor
open Go.RowKit Go.Ly Go.Hd Go.Sh Go.Ob
theorem md_yes {t s m : Int} {ss : List ByteArray} {wn : Nat} (h : mdOk t s ss wn m = true) : rgt t s ss = true ∧ s ≤ 100 ∧ wn ≤ 300 ∧ -3 ≤ m ∧ m ≤ 3 := by simpa [mdOk, and_assoc] using h
set_option maxRecDepth 100000 in
set_option maxHeartbeats 2000000 in
theorem objectNil_any (t s : Int) (a : Option Addr) (n c : Nat) (ss : List ByteArray) (wa : Option Addr) (wc : Nat) (ws : List Int) (m x : Int) (w : World) (hT : IsTab w (.slice a n c) ss) (hL : LNums w) (hws : WsA w wa wc ws) :
    Calls Tryd.prog 6 #[hpV t s a n c wa ws.length wc m, .int .i64 x] w fun e w' => e = .returned (.bool true) ∧ Below w.heap.size w w' := by
  have B0 := hid (below_alloc0 w (hpO t s a n c wa ws.length wc m))
  have R0 := heap_alloc_last w (hpO t s a n c wa ws.length wc m)
  have L0 := hid (hL.below B0.out)
  have cw := fun W (h : Below w.heap.size w W) => oworks_any W (hL.below h)
  by_cases h : mdOk t s ss ws.length m = true
  · obtain ⟨hr, s9, _, m0, m9⟩ := md_yes h
    obtain ⟨t0, t1, s0, s1, _⟩ := rgt_yes hr
    obtain ⟨N, hN⟩ := Int.eq_ofNat_of_zero_le (show 0 ≤ 3 + t + t + 2 * s + m by omega)
    have cm := made_yes t s a n c ss wa wc ws m N _ (hT.below (Nat.le_refl _) B0.out) h (hws.below B0.out) hN.symm
    have n0 : ((N : Int) == 0) = false := by rw [beq_eq_false_iff_ne]; omega
    have cr := fun W => Read_nil none none 0 t s a n c x W (.inl ⟨rfl, rfl⟩)
    have cu := fun P W hf => Put_nil P none 0 t s a n c x 0 0 0 none 0 0 W hf
    have cp := fun W => Place_nil none none 0 t s a n c x 0 W (.inl ⟨rfl, rfl⟩)
    have cl := fun W => Walk_nil none none 0 t s a n c 0 0 1 W (.inl ⟨rfl, rfl⟩)
    clear hT hL hws h hr s9 m0 m9 t0 t1 s0 s1 hN
    generalize ws.length = wn at *
    go_enter Tryd.func6, Tryd.ntmps6
    go_wp2_with (go_at_call 7; refine cm.mono ?_)
    rintro e w1 ⟨G, rfl, _, _, b1⟩
    have R1 := hid (row_below R0 b1)
    have B1 := hid (B0.out.trans (b1.mono B0.out.size))
    have d0 := at_row R1.out 0 rfl
    have d1 := at_row R1.out 1 rfl
    have d2 := at_row R1.out 2 rfl
    clear cm b1 R0 B0 L0
    go_wp2_with (go_at_call 16; refine (cr _).mono ?_)
    rintro e w2 ⟨rfl, b2⟩
    have B2 := hid ((B1.out.trans (b2.mono B1.out.size)).alloc (by have := (B1.out.trans (b2.mono B1.out.size)).size; exact this) (obO 0 0 0 0 (.slice none 0 0)))
    have R2 := hid (row_below (row_below R1.out b2) (below_alloc0 w2 (obO 0 0 0 0 (.slice none 0 0))))
    clear b2 B1 R1 d0 d1 d2 cr
    have hA : (((w2.alloc (obO 0 0 0 0 (.slice none 0 0))).alloc (.cells #[.slice none 0 0] 58))).cell? ⟨(w2.alloc (obO 0 0 0 0 (.slice none 0 0))).heap.size, 0, none⟩ = some (.slice none 0 0) := at_row (heap_alloc_last _ _) 0 rfl
    have b2 := below_alloc0 (w2.alloc (obO 0 0 0 0 (.slice none 0 0))) (.cells #[.slice none 0 0] 58)
    have B3 := hid (B2.out.trans (b2.mono B2.out.size))
    have R3 := hid (row_below R2.out b2)
    have d0 := at_row R2.out 0 rfl
    have d1 := at_row R2.out 1 rfl
    have d2 := at_row R2.out 2 rfl
    have e0 := at_row R3.out 0 rfl
    have e1 := at_row R3.out 1 rfl
    have e2 := at_row R3.out 2 rfl
    have cu2 := cu _ _ (.inr ⟨_, rfl, hA⟩)
    rw [size_alloc] at cu2
    clear b2 hA cu B2 R2
    go_wp2_with (go_at_call 17; refine cu2.mono ?_)
    rintro e w3 ⟨rfl, b3⟩
    have R4 := hid (row_below R3.out b3)
    have B4 := hid (B3.out.trans (b3.mono B3.out.size))
    clear cu2 d0 d1 d2 e0 e1 e2 R3 B3 b3
    have d0 := at_row R4.out 0 rfl
    have d1 := at_row R4.out 1 rfl
    have d2 := at_row R4.out 2 rfl
    go_wp2_with (go_at_call 11; refine (cp _).mono ?_)
    rintro e w5 ⟨rfl, b5⟩
    have R5 := hid (row_below R4.out b5)
    have B5 := hid (B4.out.trans (b5.mono B4.out.size))
    clear cp d0 d1 d2 R4 B4 b5
    have d0 := at_row R5.out 0 rfl
    have d1 := at_row R5.out 1 rfl
    have d2 := at_row R5.out 2 rfl
    go_wp2_with (go_at_call 13; refine (cl _).mono ?_)
    rintro e w6 ⟨rfl, b6⟩
    have B6 := hid (B5.out.trans (b6.mono B5.out.size))
    have cw2 := cw _ B6.out
    clear cl cw d0 d1 d2 R5 B5 b6
    go_wp2_with (first | (go_at_call 9; refine (onum_any _ _).mono ?_; rintro e w' ⟨rfl, rfl⟩) | (go_at_call 10; refine cw2.mono ?_; rintro e w7 ⟨rfl, b7⟩))
    go_ret
    exact ⟨rfl, B6.out.trans (b7.mono B6.out.size)⟩
  · have cm := made_no t s a n c ss wa ws.length wc m _ (hT.below (Nat.le_refl _) B0.out) (by simpa using h)
    clear hT hL hws h
    generalize ws.length = wn at *
    go_enter Tryd.func6, Tryd.ntmps6
    go_wp2_with (go_at_call 7; refine cm.mono ?_)
    rintro e w1 ⟨rfl, b1⟩
    have B1 := hid (B0.out.trans (b1.mono B0.out.size))
    have cw2 := cw _ B1.out
    clear cm cw b1 R0 B0 L0
    go_wp2_with (go_at_call 10; refine cw2.mono ?_; rintro e w7 ⟨rfl, b7⟩)
    go_ret
    exact ⟨rfl, B1.out.trans (b7.mono B1.out.size)⟩
end Go.Proofs.YtldfmlkjeniemaaDoor
/- The slice of shapes that a law is handed, opened. -/
namespace Go.Proofs.YtldfmlkjeniemaaDoor
open Go.RowKit Go.Sh
theorem tab_open {H : Type} {enc : TypeId × Value → H} {W : World} {sp : Nat → Bool} {held : Bool} {a : Option Addr} {len cap fuel : Nat} {x : DataW H × List MemPlace}
    (h : DataW.trod enc Tryd.prog W 0 sp held fuel 22 (Value.slice a len cap).cells.toList = some x) : ∃ ss, IsTab W (.slice a len cap) ss := by
  rcases Go.ChangeShapes.open_strings Tryd.underlying22 Tryd.underlying63 (by kernel_rfl) h with ⟨hcs, _⟩ | ⟨ad, l, c, ss, hcs, _, hl, hm, hss, _, hel, _⟩
  · simp [Value.cells] at hcs
    obtain ⟨rfl, rfl, rfl⟩ := hcs
    exact ⟨[], .inl ⟨rfl, _, _, rfl⟩⟩
  · simp [Value.cells] at hcs
    obtain ⟨rfl, rfl, rfl⟩ := hcs
    by_cases h0 : len = 0
    · subst h0
      exact ⟨[], .inl ⟨rfl, _, _, rfl⟩⟩
    · have hlen : len ≤ ss.length := by rw [hss]; split <;> omega
      have hc0 := hel 0 (by omega)
      obtain ⟨b, off, spot⟩ := ad
      have hspot : spot = none := by simpa [Addr.add] using World.cell?_spot hc0
      subst hspot
      have ha : ∀ j, (⟨b, off, none⟩ : Addr).add j = ⟨b, off + j, none⟩ := fun j => by unfold Addr.add; split <;> simp_all
      have htl : (ss.take len).length = len := by rw [List.length_take]; omega
      refine ⟨ss.take len, .inr ⟨b, off, cap, by rw [htl], fun i hi => ?_⟩⟩
      rw [htl] at hi
      have := hel i (by omega)
      rw [ha] at this
      rw [this, at', List.getD_eq_getElem?_getD, List.getD_eq_getElem?_getD, List.getElem?_take, if_pos hi]
end Go.Proofs.YtldfmlkjeniemaaDoor
/- From the rows' listed table of layout to what the walks ask; a heap of layer 7's laws, as it comes in. -/
set_option linter.unusedVariables false
namespace Go.Proofs.YtldfmlkjeniemaaDoor
open Go.RowKit Go.Ly Go.Sh
theorem lnums_of7 {W : World} {rest : List (String × DataW Unit)} (h : laidMet Tryd.prog (("lapidary/layout.partNumbers", Lib.tabData .i64 [0, 0, 0, 0, 1, 1, 2]) :: rest) W) : LNums W := by
  have hg : Tryd.prog.globalNamed "lapidary/layout.partNumbers" = some 0 := by kernel_rfl
  have ht := Lib.tabIs_of_head (k := .i64) (zs := [0, 0, 0, 0, 1, 1, 2]) (n := 7) (e := 3) (t := 162) hg (by kernel_rfl) Tryd.underlying162 Tryd.underlying3 (by kernel_rfl) (by kernel_rfl) h
  intro i hi
  rw [ht.cell hg i (by simpa using hi)]
  have hcs : i = 0 ∨ i = 1 ∨ i = 2 ∨ i = 3 ∨ i = 4 ∨ i = 5 ∨ i = 6 := by omega
  rcases hcs with rfl | rfl | rfl | rfl | rfl | rfl | rfl <;> rfl
/-- A table that stands in a struct's cell, opened. -/
theorem tab_open7 {H : Type} {enc : TypeId × Value → H} {W : World} {sp : Nat → Bool} {held : Bool} {v : Value} {fuel : Nat} {x : DataW H × List MemPlace}
    (h : DataW.trod enc Tryd.prog W 0 sp held fuel 22 [v] = some x) : ∃ a n c ss, v = .slice a n c ∧ IsTab W (.slice a n c) ss := by
  rcases Go.ChangeShapes.open_strings Tryd.underlying22 Tryd.underlying63 (by kernel_rfl) h with ⟨hcs, _⟩ | ⟨ad, l, c, ss, hcs, _⟩
  · simp at hcs
    subst hcs
    obtain ⟨ss, h1⟩ := tab_open (a := none) (len := 0) (cap := 0) (by simpa [Value.cells] using h)
    exact ⟨_, _, _, ss, rfl, h1⟩
  · simp at hcs
    subst hcs
    obtain ⟨ss, h1⟩ := tab_open (a := some ad) (len := l) (cap := c) (by simpa [Value.cells] using h)
    exact ⟨_, _, _, ss, rfl, h1⟩
open Go.ChangeShapes Go.WideShapes Go.ChangeAt Go.WideMaps Go.WideElems Go.RowKit Go.Joins Go.Ly Go.Hd Go.Sh Go.Ob
theorem oarray5 {α : Type} {cs : Array α} (h : cs.size = 5) : ∃ c0 c1 c2 c3 c4, cs = #[c0, c1, c2, c3, c4] := by
  obtain ⟨l⟩ := cs
  match l, h with
  | [c0, c1, c2, c3, c4], _ => exact ⟨c0, c1, c2, c3, c4, rfl⟩
set_option maxRecDepth 100000 in
theorem heap_open {H : Type} {enc : TypeId × Value → H} {W : World} {base : Nat} {held : Bool} {v : Value} {d : DataW H} {p : List MemPlace}
    (hv : Value.okWide Tryd.prog W .any base 27 v) (h : DataW.Trod enc Tryd.prog W 0 (fun _ => true) held 27 v d p) :
    ∃ t s a n c ss wa wc ws m, v = hpV t s a n c wa ws.length wc m ∧ IsTab W (.slice a n c) ss ∧ WsA W wa wc ws ∧ InW ws := by
  obtain ⟨cs, rfl, hsz⟩ := okWide_struct Tryd.underlying27 hv
  obtain ⟨c0, c1, c2, c3, c4, rfl⟩ := oarray5 (hsz.trans (by kernel_rfl))
  obtain ⟨fuel, hf⟩ := h
  obtain ⟨y0, y1, y2, k, hx, _, h0, h1, h2⟩ := Go.Deep.trod_struct3 Tryd.underlying27 hf
  have j0 : DataW.trod enc Tryd.prog W 0 (fun _ => true) held k 24 [c0, c1, c2] = some y0 := h0
  have j1 : DataW.trod enc Tryd.prog W 0 (fun _ => true) held k 25 [c3] = some y1 := h1
  have j2 : DataW.trod enc Tryd.prog W 0 (fun _ => true) held k 3 [c4] = some y2 := h2
  obtain ⟨x0, x1, x2, k2, _, _, g0, g1, g2⟩ := Go.Deep.trod_struct3 Tryd.underlying24 j0
  have g0 : DataW.trod enc Tryd.prog W 0 (fun _ => true) held k2 3 [c0] = some x0 := g0
  have g1 : DataW.trod enc Tryd.prog W 0 (fun _ => true) held k2 3 [c1] = some x1 := g1
  have g2 : DataW.trod enc Tryd.prog W 0 (fun _ => true) held k2 22 [c2] = some x2 := g2
  obtain ⟨t, e0, _, _⟩ := DataW.trod_int Tryd.underlying3 g0
  obtain ⟨s, e1, _, _⟩ := DataW.trod_int Tryd.underlying3 g1
  obtain ⟨m, e2, _, _⟩ := DataW.trod_int Tryd.underlying3 j2
  obtain ⟨a, n, c, ss, rfl, hT⟩ := tab_open7 g2
  simp at e0 e1 e2
  subst e0 e1 e2
  obtain ⟨wa, wn, wc, zs, rfl, hr⟩ : ∃ wa wn wc zs, c3 = .slice wa wn wc ∧ IsRow W wa wn wc zs := by
    rcases open_ints Tryd.underlying25 Tryd.underlying50 (by kernel_rfl) j1 with ⟨hcs, _⟩ | ⟨x, l, c, zs, hcs, _, hl, hm, hz, _, hcell, hwz⟩
    · simp at hcs
      exact ⟨_, _, _, [], hcs, .inl ⟨rfl, rfl, rfl, rfl⟩⟩
    · simp at hcs
      exact ⟨_, _, _, zs, hcs, .inr ⟨_, rfl, hl, hm, by simpa using hz, hcell, hwz⟩⟩
  obtain ⟨ws, rfl, hws, hi⟩ := wsA_of_row hr
  exact ⟨t, s, a, n, c, ss, wa, wc, ws, m, rfl, hT, hws, hi⟩
end Go.Proofs.YtldfmlkjeniemaaDoor
