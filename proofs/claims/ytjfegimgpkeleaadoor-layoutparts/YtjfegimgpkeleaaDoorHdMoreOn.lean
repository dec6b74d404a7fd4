/- package head: Of by what is answered, Marked, Size, Name. -/
import Derived.Test.YtjfegimgpkeleaaDoorHdLeafOn
import Derived.LaidLaws
import Derived.ChangeArms
import Derived.Lib.LaidTab
import Derived.MakeChecks
import Derived.LaidMore
import Derived.Test.YtjfegimgpkeleaaDoorShSizeOn
import Derived.SliceStrings
import Derived.Test.YtjfegimgpkeleaaDoorLyWorks
namespace Go.Hd
/-- What Of answers. -/
def ofv (x : Int) : Int × Int × Bool := if isH x then (x / 32, x / 8 % 4, true) else (0, 0, false)
theorem isH_ok {x : Int} (h : isH x = true) (m : Int) : ok (x / 32) m = mk m := by
  obtain ⟨h1, _, _⟩ := isH_is h
  obtain ⟨a, b, _, _⟩ := ok_yes h1
  simp [ok, a, b]
theorem mkd_no {x m : Int} (h : isH x = false) : mkd x m = (0, 2) := by simp [mkd, h]
theorem mkd_out {x m : Int} (h : mk m = false) : mkd x m = (0, 2) := by simp [mkd, h]
theorem mkd_in {x m : Int} (h : isH x = true) (hm : mk m = true) : mkd x m = (wd (x / 32) m, 0) := by simp [mkd, h, hm]
/-- What Size answers. -/
def szH (x : Int) (ss : List ByteArray) : Int × Int := if isH x then Sh.sz ss (x / 32) else (0, 2)
/-- The marks' names. -/
def nm : Nat → ByteArray
  | 0 => ⟨#[119, 104, 105, 116, 101]⟩
  | 1 => ⟨#[103, 114, 101, 121]⟩
  | 2 => ⟨#[98, 108, 97, 99, 107]⟩
  | _ => ⟨#[]⟩
end Go.Hd
namespace Go.Proofs.YtjfegimgpkeleaaDoor
open Go.RowKit Go.Hd Go.Sh
end Go.Proofs.YtjfegimgpkeleaaDoor
/- From the row's listed table of marks' names to what the walks ask. -/
namespace Go.Proofs.YtjfegimgpkeleaaDoor
open Go.RowKit Go.Hd
/-- An array of texts that reads as listed holds those texts, cell for cell. -/
theorem hcells_of_strs {H : Type} {enc : TypeId × Value → H} {P : Program} {w : World} {base : Nat} {sp : Nat → Bool} {held : Bool} {fuel : Nat} {t e : TypeId} {n : Nat} {cs : List Value} {ss : List (List UInt8)} {p : List MemPlace}
    (ht : P.underlying t = some (.array n e)) (he : P.underlying e = some .string) (hce : P.cellsOf e = 1) (hct : P.cellsOf t = n)
    (h : DataW.trod enc P w base sp held fuel t cs = some (.agg (ss.map fun s => .lit (.string s)), p)) : cs = ss.map fun s => Value.string ⟨s.toArray⟩ := by
  cases fuel with
  | zero => simp [DataW.trod] at h
  | succ fuel =>
    simp only [DataW.trod, ht, hce, hct, Nat.mul_one] at h
    split at h
    · rename_i hl
      obtain ⟨xs, hm, hx⟩ := Option.map_eq_some_iff.1 h
      have hxs : xs.map (·.1) = ss.map fun s => (DataW.lit (.string s) : DataW H) := by
        have := congrArg Prod.fst hx
        simpa using this
      have hxl : xs.length = n := by simpa using Lib.mapM_length hm
      have hzl : ss.length = n := by
        have := congrArg List.length hxs
        simp at this
        omega
      apply List.ext_getElem?
      intro i
      by_cases hi : i < n
      · obtain ⟨b, hb, hf⟩ := Lib.mapM_at hm i i (by simp [hi])
        obtain ⟨z, hc, rfl, _⟩ := DataW.trod_string he hf
        have h1 : cs[i]? = some (.string z) := by
          have := congrArg (·[0]?) hc
          simpa [List.getElem?_take, List.getElem?_drop] using this
        have h2 : (xs.map (·.1))[i]? = some (DataW.lit (.string z.data.toList) : DataW H) := by simp [hb]
        rw [hxs] at h2
        simp only [List.getElem?_map, Option.map_eq_some_iff, DataW.lit.injEq, Lit.string.injEq] at h2
        obtain ⟨z', hz', hz2⟩ := h2
        have hz3 : z = ⟨z'.toArray⟩ := by cases z; simp at hz2; subst hz2; simp
        simp [h1, hz', hz3]
      · rw [List.getElem?_eq_none (by omega), List.getElem?_eq_none (by simp; omega)]
    · cases h
/-- The names' bytes, as the row lists them. -/
def hBytes : List (List UInt8) := [[119, 104, 105, 116, 101], [103, 114, 101, 121], [98, 108, 97, 99, 107]]
end Go.Proofs.YtjfegimgpkeleaaDoor
/- The slice of shapes that a law is handed, opened. -/
namespace Go.Proofs.YtjfegimgpkeleaaDoor
open Go.RowKit Go.Sh
theorem tab_open {H : Type} {enc : TypeId × Value → H} {W : World} {sp : Nat → Bool} {held : Bool} {a : Option Addr} {len cap fuel : Nat} {x : DataW H × List MemPlace}
    (h : DataW.trod enc Tryd.prog W 0 sp held fuel 22 (Value.slice a len cap).cells.toList = some x) : ∃ ss, IsTab W (.slice a len cap) ss := by
  rcases Go.ChangeShapes.open_strings Tryd.underlying22 Tryd.underlying58 (by kernel_rfl) h with ⟨hcs, _⟩ | ⟨ad, l, c, ss, hcs, _, hl, hm, hss, _, hel, _⟩
  · simp [Value.cells] at hcs
    obtain ⟨rfl, rfl, rfl⟩ := hcs
    exact ⟨[], .inl ⟨rfl, _, _, rfl⟩⟩
  · simp [Value.cells] at hcs
    obtain ⟨rfl, rfl, rfl⟩ := hcs
    by_cases h0 : len = 0
    · subst h0
      exact ⟨[], .inl ⟨rfl, _, _, rfl⟩⟩
    · have hlen : len ≤ ss.length := by rw [hss]; split <;> omega
      have hc0 := hel 0 (by omega)
      obtain ⟨b, off, spot⟩ := ad
      have hspot : spot = none := by simpa [Addr.add] using World.cell?_spot hc0
      subst hspot
      have ha : ∀ j, (⟨b, off, none⟩ : Addr).add j = ⟨b, off + j, none⟩ := fun j => by unfold Addr.add; split <;> simp_all
      have htl : (ss.take len).length = len := by rw [List.length_take]; omega
      refine ⟨ss.take len, .inr ⟨b, off, cap, by rw [htl], fun i hi => ?_⟩⟩
      rw [htl] at hi
      have := hel i (by omega)
      rw [ha] at this
      rw [this, at', List.getD_eq_getElem?_getD, List.getD_eq_getElem?_getD, List.getElem?_take, if_pos hi]
end Go.Proofs.YtjfegimgpkeleaaDoor
/- From the rows' listed tables of layout to what the walks ask; a plan that a law is handed, opened. -/
namespace Go.Proofs.YtjfegimgpkeleaaDoor
open Go.RowKit Go.Ly Go.Sh
/-- The names' bytes, as the row lists them. -/
def pnBytes : List (List UInt8) := [[], [114, 101, 113, 117, 101, 115, 116], [102, 114, 111, 110, 116, 105, 101, 114], [116, 114, 105, 103, 103, 101, 114], [97, 99, 107], [108, 105, 115, 116], [115, 112, 97, 99, 101]]
theorem lnames_of_laid {W : World} {rest : List (String × DataW Unit)} (h : laidMet Tryd.prog (("lapidary/layout.partNames", .agg (pnBytes.map fun s => .lit (.string s))) :: rest) W) : LNames W := by
  obtain ⟨ps, ⟨g', t', cs, fuel, p, q, hg', ht', hvar, hd, _, _⟩, _⟩ := h
  have hg : Tryd.prog.globalNamed "lapidary/layout.partNames" = some 0 := by kernel_rfl
  have hty : (Tryd.prog.globals[0]?).map (·.type) = some 73 := by kernel_rfl
  obtain rfl := Option.some.inj (hg.symm.trans hg')
  obtain rfl := Option.some.inj (hty.symm.trans ht')
  have hc := hcells_of_strs Tryd.underlying73 Tryd.underlying9 (by kernel_rfl) (by kernel_rfl) hd
  intro i hi
  have := World.var?_cell hg hvar i
  rw [this]
  rw [← Array.getElem?_toList, hc]
  have hcs : i = 0 ∨ i = 1 ∨ i = 2 ∨ i = 3 ∨ i = 4 ∨ i = 5 ∨ i = 6 := by omega
  rcases hcs with rfl | rfl | rfl | rfl | rfl | rfl | rfl <;> rfl
theorem lnums_of_laid {W : World} {rest : List (String × DataW Unit)} (h : laidMet Tryd.prog (("lapidary/layout.partNumbers", Lib.tabData .i64 [0, 0, 0, 0, 1, 1, 2]) :: rest) W) : LNums W := by
  have hg : Tryd.prog.globalNamed "lapidary/layout.partNumbers" = some 1 := by kernel_rfl
  have ht := Lib.tabIs_of_head (k := .i64) (zs := [0, 0, 0, 0, 1, 1, 2]) (n := 7) (e := 3) (t := 100) hg (by kernel_rfl) Tryd.underlying100 Tryd.underlying3 (by kernel_rfl) (by kernel_rfl) h
  intro i hi
  rw [ht.cell hg i (by simpa using hi)]
  have hcs : i = 0 ∨ i = 1 ∨ i = 2 ∨ i = 3 ∨ i = 4 ∨ i = 5 ∨ i = 6 := by omega
  rcases hcs with rfl | rfl | rfl | rfl | rfl | rfl | rfl <;> rfl
theorem tab6_of_laid {W : World} {rest : List (String × DataW Unit)} (h : laidMet Tryd.prog (("internal/strconv.uint64pow10", Lib.tabData .u64 Lib.pow10Tab) :: rest) W) : Tab W :=
  Lib.tabIs_of_head (k := .u64) (zs := Lib.pow10Tab) (n := 20) (e := 37) (t := 163) (show Tryd.prog.globalNamed "internal/strconv.uint64pow10" = some 3 by kernel_rfl) (by kernel_rfl) Tryd.underlying163 Tryd.underlying37 (by kernel_rfl) (by kernel_rfl) h
/-- A table that stands in a struct's cell, opened. -/
theorem tab_open1 {H : Type} {enc : TypeId × Value → H} {W : World} {sp : Nat → Bool} {held : Bool} {v : Value} {fuel : Nat} {x : DataW H × List MemPlace}
    (h : DataW.trod enc Tryd.prog W 0 sp held fuel 22 [v] = some x) : ∃ a n c ss, v = .slice a n c ∧ IsTab W (.slice a n c) ss := by
  rcases Go.ChangeShapes.open_strings Tryd.underlying22 Tryd.underlying58 (by kernel_rfl) h with ⟨hcs, _⟩ | ⟨ad, l, c, ss, hcs, _⟩
  · simp at hcs
    subst hcs
    obtain ⟨ss, h1⟩ := tab_open (a := none) (len := 0) (cap := 0) (by simpa [Value.cells] using h)
    exact ⟨_, _, _, ss, rfl, h1⟩
  · simp at hcs
    subst hcs
    obtain ⟨ss, h1⟩ := tab_open (a := some ad) (len := l) (cap := c) (by simpa [Value.cells] using h)
    exact ⟨_, _, _, ss, rfl, h1⟩
end Go.Proofs.YtjfegimgpkeleaaDoor
