/- The slice of shapes that a law is handed, opened. -/
import Derived.Test.YtldfmlkjeniemaaGreatDoorShAllOn
import Derived.SliceStrings
import Derived.Test.YtldfmlkjeniemaaGreatDoorObWorksOn
import Derived.LaidLaws
import Derived.ChangeArms
import Derived.Lib.LaidTab
import Derived.MakeChecks
import Derived.LaidMore
import Derived.ProofKit
import Derived.OpenShut
import Derived.Stop.Joined
import Derived.Lib.SmallJoins
import Derived.Test.YtldfmlkjeniemaaGreatDoorObPutBOn
namespace Go.Proofs.YtldfmlkjeniemaaGreatDoor
open Go.RowKit Go.Sh
theorem tab_open {H : Type} {enc : TypeId × Value → H} {W : World} {sp : Nat → Bool} {held : Bool} {a : Option Addr} {len cap fuel : Nat} {x : DataW H × List MemPlace}
    (h : DataW.trod enc Tryz.prog W 0 sp held fuel 22 (Value.slice a len cap).cells.toList = some x) : ∃ ss, IsTab W (.slice a len cap) ss := by
  rcases Go.ChangeShapes.open_strings Tryz.underlying22 Tryz.underlying60 (by kernel_rfl) h with ⟨hcs, _⟩ | ⟨ad, l, c, ss, hcs, _, hl, hm, hss, _, hel, _⟩
  · simp [Value.cells] at hcs
    obtain ⟨rfl, rfl, rfl⟩ := hcs
    exact ⟨[], .inl ⟨rfl, _, _, rfl⟩⟩
  · simp [Value.cells] at hcs
    obtain ⟨rfl, rfl, rfl⟩ := hcs
    by_cases h0 : len = 0
    · subst h0
      exact ⟨[], .inl ⟨rfl, _, _, rfl⟩⟩
    · have hlen : len ≤ ss.length := by rw [hss]; split <;> omega
      have hc0 := hel 0 (by omega)
      obtain ⟨b, off, spot⟩ := ad
      have hspot : spot = none := by simpa [Addr.add] using World.cell?_spot hc0
      subst hspot
      have ha : ∀ j, (⟨b, off, none⟩ : Addr).add j = ⟨b, off + j, none⟩ := fun j => by unfold Addr.add; split <;> simp_all
      have htl : (ss.take len).length = len := by rw [List.length_take]; omega
      refine ⟨ss.take len, .inr ⟨b, off, cap, by rw [htl], fun i hi => ?_⟩⟩
      rw [htl] at hi
      have := hel i (by omega)
      rw [ha] at this
      rw [this, at', List.getD_eq_getElem?_getD, List.getD_eq_getElem?_getD, List.getElem?_take, if_pos hi]
end Go.Proofs.YtldfmlkjeniemaaGreatDoor
/- From the rows' listed table of layout to what the walks ask; a heap of layer 7's laws, as it comes in. -/
set_option linter.unusedVariables false
namespace Go.Proofs.YtldfmlkjeniemaaGreatDoor
open Go.RowKit Go.Ly Go.Sh
theorem lnums_of7 {W : World} {rest : List (String × DataW Unit)} (h : laidMet Tryz.prog (("lapidary/layout.partNumbers", Lib.tabData .i64 [0, 0, 0, 0, 1, 1, 2]) :: rest) W) : LNums W := by
  have hg : Tryz.prog.globalNamed "lapidary/layout.partNumbers" = some 0 := by kernel_rfl
  have ht := Lib.tabIs_of_head (k := .i64) (zs := [0, 0, 0, 0, 1, 1, 2]) (n := 7) (e := 3) (t := 174) hg (by kernel_rfl) Tryz.underlying174 Tryz.underlying3 (by kernel_rfl) (by kernel_rfl) h
  intro i hi
  rw [ht.cell hg i (by simpa using hi)]
  have hcs : i = 0 ∨ i = 1 ∨ i = 2 ∨ i = 3 ∨ i = 4 ∨ i = 5 ∨ i = 6 := by omega
  rcases hcs with rfl | rfl | rfl | rfl | rfl | rfl | rfl <;> rfl
/-- A table that stands in a struct's cell, opened. -/
theorem tab_open7 {H : Type} {enc : TypeId × Value → H} {W : World} {sp : Nat → Bool} {held : Bool} {v : Value} {fuel : Nat} {x : DataW H × List MemPlace}
    (h : DataW.trod enc Tryz.prog W 0 sp held fuel 22 [v] = some x) : ∃ a n c ss, v = .slice a n c ∧ IsTab W (.slice a n c) ss := by
  rcases Go.ChangeShapes.open_strings Tryz.underlying22 Tryz.underlying60 (by kernel_rfl) h with ⟨hcs, _⟩ | ⟨ad, l, c, ss, hcs, _⟩
  · simp at hcs
    subst hcs
    obtain ⟨ss, h1⟩ := tab_open (a := none) (len := 0) (cap := 0) (by simpa [Value.cells] using h)
    exact ⟨_, _, _, ss, rfl, h1⟩
  · simp at hcs
    subst hcs
    obtain ⟨ss, h1⟩ := tab_open (a := some ad) (len := l) (cap := c) (by simpa [Value.cells] using h)
    exact ⟨_, _, _, ss, rfl, h1⟩
open Go.ChangeShapes Go.WideShapes Go.ChangeAt Go.WideMaps Go.WideElems Go.RowKit Go.Joins Go.Ly Go.Hd Go.Sh Go.Ob
theorem oarray5 {α : Type} {cs : Array α} (h : cs.size = 5) : ∃ c0 c1 c2 c3 c4, cs = #[c0, c1, c2, c3, c4] := by
  obtain ⟨l⟩ := cs
  match l, h with
  | [c0, c1, c2, c3, c4], _ => exact ⟨c0, c1, c2, c3, c4, rfl⟩
set_option maxRecDepth 100000 in
theorem heap_open {H : Type} {enc : TypeId × Value → H} {W : World} {base : Nat} {held : Bool} {v : Value} {d : DataW H} {p : List MemPlace}
    (hv : Value.okWide Tryz.prog W .any base 27 v) (h : DataW.Trod enc Tryz.prog W 0 (fun _ => true) held 27 v d p) :
    ∃ t s a n c ss wa wc ws m, v = hpV t s a n c wa ws.length wc m ∧ IsTab W (.slice a n c) ss ∧ WsA W wa wc ws ∧ InW ws := by
  obtain ⟨cs, rfl, hsz⟩ := okWide_struct Tryz.underlying27 hv
  obtain ⟨c0, c1, c2, c3, c4, rfl⟩ := oarray5 (hsz.trans (by kernel_rfl))
  obtain ⟨fuel, hf⟩ := h
  obtain ⟨y0, y1, y2, k, hx, _, h0, h1, h2⟩ := Go.Deep.trod_struct3 Tryz.underlying27 hf
  have j0 : DataW.trod enc Tryz.prog W 0 (fun _ => true) held k 24 [c0, c1, c2] = some y0 := h0
  have j1 : DataW.trod enc Tryz.prog W 0 (fun _ => true) held k 25 [c3] = some y1 := h1
  have j2 : DataW.trod enc Tryz.prog W 0 (fun _ => true) held k 3 [c4] = some y2 := h2
  obtain ⟨x0, x1, x2, k2, _, _, g0, g1, g2⟩ := Go.Deep.trod_struct3 Tryz.underlying24 j0
  have g0 : DataW.trod enc Tryz.prog W 0 (fun _ => true) held k2 3 [c0] = some x0 := g0
  have g1 : DataW.trod enc Tryz.prog W 0 (fun _ => true) held k2 3 [c1] = some x1 := g1
  have g2 : DataW.trod enc Tryz.prog W 0 (fun _ => true) held k2 22 [c2] = some x2 := g2
  obtain ⟨t, e0, _, _⟩ := DataW.trod_int Tryz.underlying3 g0
  obtain ⟨s, e1, _, _⟩ := DataW.trod_int Tryz.underlying3 g1
  obtain ⟨m, e2, _, _⟩ := DataW.trod_int Tryz.underlying3 j2
  obtain ⟨a, n, c, ss, rfl, hT⟩ := tab_open7 g2
  simp at e0 e1 e2
  subst e0 e1 e2
  obtain ⟨wa, wn, wc, zs, rfl, hr⟩ : ∃ wa wn wc zs, c3 = .slice wa wn wc ∧ IsRow W wa wn wc zs := by
    rcases open_ints Tryz.underlying25 Tryz.underlying39 (by kernel_rfl) j1 with ⟨hcs, _⟩ | ⟨x, l, c, zs, hcs, _, hl, hm, hz, _, hcell, hwz⟩
    · simp at hcs
      exact ⟨_, _, _, [], hcs, .inl ⟨rfl, rfl, rfl, rfl⟩⟩
    · simp at hcs
      exact ⟨_, _, _, zs, hcs, .inr ⟨_, rfl, hl, hm, by simpa using hz, hcell, hwz⟩⟩
  obtain ⟨ws, rfl, hws, hi⟩ := wsA_of_row hr
  exact ⟨t, s, a, n, c, ss, wa, wc, ws, m, rfl, hT, hws, hi⟩
end Go.Proofs.YtldfmlkjeniemaaGreatDoor
/- From the rows' data to a list of objects. -/
set_option linter.unusedVariables false
namespace Go.Proofs.YtldfmlkjeniemaaGreatDoor
open Go.ChangeShapes Go.WideShapes Go.ChangeAt Go.WideMaps Go.WideElems Go.RowKit Go.Joins Go.Ly Go.Hd Go.Sh Go.Ob
theorem ou64_bounds {n : Int} (h : (Lit.int .u64 n).wf = true) : 0 ≤ n ∧ n ≤ 18446744073709551615 := by
  simp [Lit.wf, IntKind.min, IntKind.max, IntKind.signed, IntKind.bits] at h
  omega
/-- Words that a row leads to, as a slice's fields. -/
theorem fsAt_of_row {W : World} {wa : Option Addr} {wn wc : Nat} {zs : List Int} (h : IsRow W wa wn wc zs) : ∃ ws, ws.length = wn ∧ FsAt 0 W (.slice wa wn wc) ws ∧ InW ws := by
  rcases h with ⟨rfl, rfl, rfl, rfl⟩ | ⟨ad, rfl, hl, hm, hz, hcell, hw⟩
  · exact ⟨[], rfl, ⟨none, 0, rfl, .inl rfl⟩, fun x hx => by simp at hx⟩
  · by_cases h0 : wn = 0
    · subst h0
      exact ⟨[], rfl, ⟨_, _, rfl, .inl rfl⟩, fun x hx => by simp at hx⟩
    · obtain ⟨b, off, e, hc⟩ := IsRow.cells (by omega : 0 < wn) hl hz hcell hw
      subst e
      have hlen : (zs.take wn).length = wn := by simp; omega
      refine ⟨zs.take wn, hlen, ⟨_, _, by rw [hlen], .inr ⟨b, off, rfl, Nat.zero_le _, fun i hi => ?_⟩⟩, fun x hx => ?_⟩
      · have hi' : i < wn := by omega
        rw [(hc i hi').2.1]
        simp [wat, List.getD, hi']
      · obtain ⟨i, hi, rfl⟩ := List.getElem_of_mem hx
        have hi' : i < wn := by omega
        have := (hc i hi').2.2
        have e : zs.getD i 0 = (zs.take wn)[i] := by simp [List.getD, List.getElem?_eq_getElem (show i < zs.length by omega)]
        rwa [e] at this
set_option maxRecDepth 100000 in
theorem obs_open {H : Type} {enc : TypeId × Value → H} {W : World} {held : Bool} {a : Option Addr} {len cap fuel : Nat} {x : DataW H × List MemPlace}
    (h : DataW.trod enc Tryz.prog W 0 (fun _ => true) held fuel 49 (Value.slice a len cap).cells.toList = some x) : IsObs W a len := by
  rcases Deep.open_slice Tryz.underlying49 h with ⟨hcs, _⟩ | ⟨ad, len', cap', m, n, D, Pl, hcs, _, hl, _, hm, _, hel⟩
  · simp [Value.cells] at hcs
    intro i hi
    omega
  · simp [Value.cells] at hcs
    obtain ⟨rfl, rfl, rfl⟩ := hcs
    intro i hi
    rw [if_pos rfl] at hm
    subst hm
    have hsp : ∃ v, W.cell? ((ad.add 0).add 0) = some v := by
      obtain ⟨cs0, h1, _⟩ := hel 0 (by omega)
      obtain ⟨_, hlen, hcell⟩ := World.cells?_some h1
      rw [Nat.zero_mul] at hcell
      have ce : Tryz.prog.cellsOf 41 = 5 := by kernel_rfl
      rw [ce] at hlen hcell
      exact ⟨cs0[0]'(by omega), by rw [hcell 0 (by omega)]; exact List.getElem?_eq_getElem _⟩
    have ce : Tryz.prog.cellsOf 41 = 5 := by kernel_rfl
    obtain ⟨cs', h1, h2⟩ := hel i (by omega)
    rw [ce] at h1
    obtain ⟨_, hlen, hcell⟩ := World.cells?_some h1
    obtain ⟨xs, k, hk, hxy, _, hxl, hf⟩ := DataW.trod_struct Tryz.underlying41 h2
    match xs, hxl, cs', hlen with
    | [y0, y1, y2, y3], _, [v0, v1, v2, v3, v4], _ =>
      have g0 := hf 0 _ rfl
      have g1 := hf 1 _ rfl
      have g2 := hf 2 _ rfl
      have g3 := hf 3 _ rfl
      have s0 : Tryz.prog.cellsOf 3 = 1 := by kernel_rfl
      have s1 : Tryz.prog.cellsOf 38 = 2 := by kernel_rfl
      have s2 : Tryz.prog.cellsOf 39 = 1 := by kernel_rfl
      have s3 : Tryz.prog.cellsOf 25 = 1 := by kernel_rfl
      simp [s0, s1, s2, s3] at g0 g1 g2 g3
      have e0 := hcell 0 (by omega)
      have e1 := hcell 1 (by omega)
      have e2 := hcell 2 (by omega)
      have e3 := hcell 3 (by omega)
      have e4 := hcell 4 (by omega)
      rw [Deep.add_add] at e0 e1 e2 e3 e4
      obtain ⟨z0, hz0, _, _⟩ := DataW.trod_int Tryz.underlying3 g0
      obtain ⟨z3, hz3, _, w3⟩ := DataW.trod_int Tryz.underlying39 g2
      obtain ⟨ys, k2, _, _, _, hyl, hf2⟩ := DataW.trod_struct Tryz.underlying38 g1
      match ys, hyl with
      | [y4, y5], _ =>
        have m0 := hf2 0 _ rfl
        have m1 := hf2 1 _ rfl
        have s4 : Tryz.prog.cellsOf 36 = 1 := by kernel_rfl
        simp [s0, s4] at m0 m1
        obtain ⟨z1, hz1, _, _⟩ := DataW.trod_int Tryz.underlying3 m0
        obtain ⟨z2, hz2, _, _⟩ := DataW.trod_int Tryz.underlying36 m1
        simp at hz0 hz1 hz2 hz3
        subst hz0 hz1 hz2 hz3
        obtain ⟨fa, fn, fc, zs, rfl, hr⟩ : ∃ fa fn fc zs, v4 = .slice fa fn fc ∧ IsRow W fa fn fc zs := by
          rcases open_ints Tryz.underlying25 Tryz.underlying39 (by kernel_rfl) g3 with ⟨hcs, _⟩ | ⟨x, l, c, zs, hcs, _, hl, hm, hz, _, hcell, hwz⟩
          · simp at hcs
            exact ⟨_, _, _, [], hcs, .inl ⟨rfl, rfl, rfl, rfl⟩⟩
          · simp at hcs
            exact ⟨_, _, _, zs, hcs, .inr ⟨_, rfl, hl, hm, by simpa using hz, hcell, hwz⟩⟩
        obtain ⟨ws, rfl, hws, hi⟩ := fsAt_of_row hr
        obtain ⟨b, off, spot⟩ := ad
        obtain ⟨_, hsp⟩ := hsp
        have hspot : spot = none := by simpa [Addr.add] using World.cell?_spot hsp
        subst hspot
        have ha : ∀ j, (⟨b, off, none⟩ : Addr).add j = ⟨b, off + j, none⟩ := fun j => by unfold Addr.add; split <;> simp_all
        rw [ha] at e0 e1 e2 e3 e4
        refine ⟨b, off, z0, z1, z2, z3, fa, fc, ws, rfl, ⟨by simpa using e0, by rw [Nat.add_assoc]; exact e1, by rw [Nat.add_assoc]; exact e2, by rw [Nat.add_assoc]; exact e3, by rw [Nat.add_assoc]; exact e4⟩, hws, fun y hy => ?_⟩
        rcases List.mem_cons.1 hy with rfl | hy
        · exact ou64_bounds w3
        · exact hi y hy
end Go.Proofs.YtldfmlkjeniemaaGreatDoor
