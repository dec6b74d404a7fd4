/- The slice of shapes that a law is handed, opened. -/
import Derived.Test.YtjfegimgpkeleaaDoorShTab
import Derived.SliceStrings
namespace Go.Proofs.YtjfegimgpkeleaaDoor
open Go.RowKit Go.Sh
theorem tab_open {H : Type} {enc : TypeId × Value → H} {W : World} {sp : Nat → Bool} {held : Bool} {a : Option Addr} {len cap fuel : Nat} {x : DataW H × List MemPlace}
    (h : DataW.trod enc Tryd.prog W 0 sp held fuel 22 (Value.slice a len cap).cells.toList = some x) : ∃ ss, IsTab W (.slice a len cap) ss := by
  rcases Go.ChangeShapes.open_strings Tryd.underlying22 Tryd.underlying58 (by kernel_rfl) h with ⟨hcs, _⟩ | ⟨ad, l, c, ss, hcs, _, hl, hm, hss, _, hel, _⟩
  · simp [Value.cells] at hcs
    obtain ⟨rfl, rfl, rfl⟩ := hcs
    exact ⟨[], .inl ⟨rfl, _, _, rfl⟩⟩
  · simp [Value.cells] at hcs
    obtain ⟨rfl, rfl, rfl⟩ := hcs
    by_cases h0 : len = 0
    · subst h0
      exact ⟨[], .inl ⟨rfl, _, _, rfl⟩⟩
    · have hlen : len ≤ ss.length := by rw [hss]; split <;> omega
      have hc0 := hel 0 (by omega)
      obtain ⟨b, off, spot⟩ := ad
      have hspot : spot = none := by simpa [Addr.add] using World.cell?_spot hc0
      subst hspot
      have ha : ∀ j, (⟨b, off, none⟩ : Addr).add j = ⟨b, off + j, none⟩ := fun j => by unfold Addr.add; split <;> simp_all
      have htl : (ss.take len).length = len := by rw [List.length_take]; omega
      refine ⟨ss.take len, .inr ⟨b, off, cap, by rw [htl], fun i hi => ?_⟩⟩
      rw [htl] at hi
      have := hel i (by omega)
      rw [ha] at this
      rw [this, at', List.getD_eq_getElem?_getD, List.getD_eq_getElem?_getD, List.getElem?_take, if_pos hi]
end Go.Proofs.YtjfegimgpkeleaaDoor
