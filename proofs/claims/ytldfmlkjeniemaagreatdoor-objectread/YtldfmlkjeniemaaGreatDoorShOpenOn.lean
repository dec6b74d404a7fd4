/- The slice of shapes that a law is handed, opened. -/
import Derived.Test.YtldfmlkjeniemaaGreatDoorShAllOn
import Derived.SliceStrings
import Derived.Test.YtldfmlkjeniemaaGreatDoorObWorksOn
import Derived.LaidLaws
import Derived.ChangeArms
import Derived.Lib.LaidTab
import Derived.MakeChecks
import Derived.LaidMore
import Derived.ProofKit
import Derived.OpenShut
import Derived.Stop.Joined
import Derived.Lib.SmallJoins
namespace Go.Proofs.YtldfmlkjeniemaaGreatDoor
open Go.RowKit Go.Sh
theorem tab_open {H : Type} {enc : TypeId × Value → H} {W : World} {sp : Nat → Bool} {held : Bool} {a : Option Addr} {len cap fuel : Nat} {x : DataW H × List MemPlace}
    (h : DataW.trod enc Tryz.prog W 0 sp held fuel 22 (Value.slice a len cap).cells.toList = some x) : ∃ ss, IsTab W (.slice a len cap) ss := by
  rcases Go.ChangeShapes.open_strings Tryz.underlying22 Tryz.underlying60 (by kernel_rfl) h with ⟨hcs, _⟩ | ⟨ad, l, c, ss, hcs, _, hl, hm, hss, _, hel, _⟩
  · simp [Value.cells] at hcs
    obtain ⟨rfl, rfl, rfl⟩ := hcs
    exact ⟨[], .inl ⟨rfl, _, _, rfl⟩⟩
  · simp [Value.cells] at hcs
    obtain ⟨rfl, rfl, rfl⟩ := hcs
    by_cases h0 : len = 0
    · subst h0
      exact ⟨[], .inl ⟨rfl, _, _, rfl⟩⟩
    · have hlen : len ≤ ss.length := by rw [hss]; split <;> omega
      have hc0 := hel 0 (by omega)
      obtain ⟨b, off, spot⟩ := ad
      have hspot : spot = none := by simpa [Addr.add] using World.cell?_spot hc0
      subst hspot
      have ha : ∀ j, (⟨b, off, none⟩ : Addr).add j = ⟨b, off + j, none⟩ := fun j => by unfold Addr.add; split <;> simp_all
      have htl : (ss.take len).length = len := by rw [List.length_take]; omega
      refine ⟨ss.take len, .inr ⟨b, off, cap, by rw [htl], fun i hi => ?_⟩⟩
      rw [htl] at hi
      have := hel i (by omega)
      rw [ha] at this
      rw [this, at', List.getD_eq_getElem?_getD, List.getD_eq_getElem?_getD, List.getElem?_take, if_pos hi]
end Go.Proofs.YtldfmlkjeniemaaGreatDoor
/- From the rows' listed table of layout to what the walks ask; a heap of layer 7's laws, as it comes in. -/
set_option linter.unusedVariables false
namespace Go.Proofs.YtldfmlkjeniemaaGreatDoor
open Go.RowKit Go.Ly Go.Sh
theorem lnums_of7 {W : World} {rest : List (String × DataW Unit)} (h : laidMet Tryz.prog (("lapidary/layout.partNumbers", Lib.tabData .i64 [0, 0, 0, 0, 1, 1, 2]) :: rest) W) : LNums W := by
  have hg : Tryz.prog.globalNamed "lapidary/layout.partNumbers" = some 0 := by kernel_rfl
  have ht := Lib.tabIs_of_head (k := .i64) (zs := [0, 0, 0, 0, 1, 1, 2]) (n := 7) (e := 3) (t := 174) hg (by kernel_rfl) Tryz.underlying174 Tryz.underlying3 (by kernel_rfl) (by kernel_rfl) h
  intro i hi
  rw [ht.cell hg i (by simpa using hi)]
  have hcs : i = 0 ∨ i = 1 ∨ i = 2 ∨ i = 3 ∨ i = 4 ∨ i = 5 ∨ i = 6 := by omega
  rcases hcs with rfl | rfl | rfl | rfl | rfl | rfl | rfl <;> rfl
/-- A table that stands in a struct's cell, opened. -/
theorem tab_open7 {H : Type} {enc : TypeId × Value → H} {W : World} {sp : Nat → Bool} {held : Bool} {v : Value} {fuel : Nat} {x : DataW H × List MemPlace}
    (h : DataW.trod enc Tryz.prog W 0 sp held fuel 22 [v] = some x) : ∃ a n c ss, v = .slice a n c ∧ IsTab W (.slice a n c) ss := by
  rcases Go.ChangeShapes.open_strings Tryz.underlying22 Tryz.underlying60 (by kernel_rfl) h with ⟨hcs, _⟩ | ⟨ad, l, c, ss, hcs, _⟩
  · simp at hcs
    subst hcs
    obtain ⟨ss, h1⟩ := tab_open (a := none) (len := 0) (cap := 0) (by simpa [Value.cells] using h)
    exact ⟨_, _, _, ss, rfl, h1⟩
  · simp at hcs
    subst hcs
    obtain ⟨ss, h1⟩ := tab_open (a := some ad) (len := l) (cap := c) (by simpa [Value.cells] using h)
    exact ⟨_, _, _, ss, rfl, h1⟩
open Go.ChangeShapes Go.WideShapes Go.ChangeAt Go.WideMaps Go.WideElems Go.RowKit Go.Joins Go.Ly Go.Hd Go.Sh Go.Ob
theorem oarray5 {α : Type} {cs : Array α} (h : cs.size = 5) : ∃ c0 c1 c2 c3 c4, cs = #[c0, c1, c2, c3, c4] := by
  obtain ⟨l⟩ := cs
  match l, h with
  | [c0, c1, c2, c3, c4], _ => exact ⟨c0, c1, c2, c3, c4, rfl⟩
set_option maxRecDepth 100000 in
theorem heap_open {H : Type} {enc : TypeId × Value → H} {W : World} {base : Nat} {held : Bool} {v : Value} {d : DataW H} {p : List MemPlace}
    (hv : Value.okWide Tryz.prog W .any base 27 v) (h : DataW.Trod enc Tryz.prog W 0 (fun _ => true) held 27 v d p) :
    ∃ t s a n c ss wa wc ws m, v = hpV t s a n c wa ws.length wc m ∧ IsTab W (.slice a n c) ss ∧ WsA W wa wc ws ∧ InW ws := by
  obtain ⟨cs, rfl, hsz⟩ := okWide_struct Tryz.underlying27 hv
  obtain ⟨c0, c1, c2, c3, c4, rfl⟩ := oarray5 (hsz.trans (by kernel_rfl))
  obtain ⟨fuel, hf⟩ := h
  obtain ⟨y0, y1, y2, k, hx, _, h0, h1, h2⟩ := Go.Deep.trod_struct3 Tryz.underlying27 hf
  have j0 : DataW.trod enc Tryz.prog W 0 (fun _ => true) held k 24 [c0, c1, c2] = some y0 := h0
  have j1 : DataW.trod enc Tryz.prog W 0 (fun _ => true) held k 25 [c3] = some y1 := h1
  have j2 : DataW.trod enc Tryz.prog W 0 (fun _ => true) held k 3 [c4] = some y2 := h2
  obtain ⟨x0, x1, x2, k2, _, _, g0, g1, g2⟩ := Go.Deep.trod_struct3 Tryz.underlying24 j0
  have g0 : DataW.trod enc Tryz.prog W 0 (fun _ => true) held k2 3 [c0] = some x0 := g0
  have g1 : DataW.trod enc Tryz.prog W 0 (fun _ => true) held k2 3 [c1] = some x1 := g1
  have g2 : DataW.trod enc Tryz.prog W 0 (fun _ => true) held k2 22 [c2] = some x2 := g2
  obtain ⟨t, e0, _, _⟩ := DataW.trod_int Tryz.underlying3 g0
  obtain ⟨s, e1, _, _⟩ := DataW.trod_int Tryz.underlying3 g1
  obtain ⟨m, e2, _, _⟩ := DataW.trod_int Tryz.underlying3 j2
  obtain ⟨a, n, c, ss, rfl, hT⟩ := tab_open7 g2
  simp at e0 e1 e2
  subst e0 e1 e2
  obtain ⟨wa, wn, wc, zs, rfl, hr⟩ : ∃ wa wn wc zs, c3 = .slice wa wn wc ∧ IsRow W wa wn wc zs := by
    rcases open_ints Tryz.underlying25 Tryz.underlying39 (by kernel_rfl) j1 with ⟨hcs, _⟩ | ⟨x, l, c, zs, hcs, _, hl, hm, hz, _, hcell, hwz⟩
    · simp at hcs
      exact ⟨_, _, _, [], hcs, .inl ⟨rfl, rfl, rfl, rfl⟩⟩
    · simp at hcs
      exact ⟨_, _, _, zs, hcs, .inr ⟨_, rfl, hl, hm, by simpa using hz, hcell, hwz⟩⟩
  obtain ⟨ws, rfl, hws, hi⟩ := wsA_of_row hr
  exact ⟨t, s, a, n, c, ss, wa, wc, ws, m, rfl, hT, hws, hi⟩
end Go.Proofs.YtldfmlkjeniemaaGreatDoor
/- A list of numbers that a law of layer 7 is handed. -/
set_option linter.unusedVariables false
namespace Go.Proofs.YtldfmlkjeniemaaGreatDoor
theorem ints_of7 {w : World} {x : Addr} {len cap : Nat} {zs : List Int} (hl : len ≤ cap) (hz : zs.length = cap) (hcell : ∀ i, i < zs.length → w.cell? (x.add i) = some (.int .i64 (zs.getD i 0))) :
    ∀ i, i < len → ∃ b off, some x = some (⟨b, off, none⟩ : Addr) ∧ w.cell? ⟨b, off + i, none⟩ = some (.int .i64 (zs.getD i 0)) := by
  intro i hi
  obtain ⟨b, off, spot⟩ := x
  have hspot : spot = none := by simpa [Addr.add] using World.cell?_spot (hcell 0 (by omega))
  subst hspot
  have hci : w.cell? ⟨b, off + i, none⟩ = some (.int .i64 (zs.getD i 0)) := by
    have := hcell i (by omega)
    have ha : (⟨b, off, none⟩ : Addr).add i = ⟨b, off + i, none⟩ := by unfold Addr.add; split <;> simp_all
    rwa [ha] at this
  exact ⟨b, off, rfl, hci⟩
end Go.Proofs.YtldfmlkjeniemaaGreatDoor
