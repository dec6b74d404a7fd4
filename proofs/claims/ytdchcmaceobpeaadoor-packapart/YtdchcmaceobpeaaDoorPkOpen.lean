/- The slice of claims that a law is handed, opened. -/
import Derived.Test.YtdchcmaceobpeaaDoorPkLawA
import Derived.Deep.SlicePairs
namespace Go.Proofs.YtdchcmaceobpeaaDoor
open Go.RowKit
theorem claims_open {H : Type} {enc : TypeId × Value → H} {W : World} {sp : Nat → Bool} {held : Bool} {a : Option Addr} {len cap fuel : Nat} {x : DataW H × List MemPlace}
    (h : DataW.trod enc Tryd.prog W 0 sp held fuel 60 (Value.slice a len cap).cells.toList = some x) (hsp : ∀ b, sp b = true) : IsClaims W a len := by
  rcases Deep.open_slice_pairs Tryd.underlying60 Tryd.underlying63 (by kernel_rfl) rfl rfl (by kernel_rfl) (by kernel_rfl) h with ⟨hcs, _⟩ | ⟨ad, len', cap', m, n, V0, V1, D0, D1, P0, P1, hcs, _, hl, _, hm, _, hel⟩
  · simp [Value.cells] at hcs
    exact .inl hcs.2.1
  · simp [Value.cells] at hcs
    obtain ⟨rfl, rfl, rfl⟩ := hcs
    by_cases h0 : len = 0
    · exact .inl h0
    · right
      rw [hsp, if_pos rfl] at hm
      subst hm
      have each : ∀ i, i < len → ∃ q : Int × Int, W.cell? (ad.add (i * 2)) = some (.int .i64 q.1) ∧ W.cell? (ad.add (i * 2 + 1)) = some (.int .i64 q.2) := by
        intro i hi
        obtain ⟨e0, e1, t0, t1⟩ := hel i (by omega)
        obtain ⟨z0, hz0, _, _⟩ := DataW.trod_int Tryd.underlying3 t0
        obtain ⟨z1, hz1, _, _⟩ := DataW.trod_int Tryd.underlying3 t1
        simp at hz0 hz1
        exact ⟨(z0, z1), by rw [e0, hz0], by rw [e1, hz1]⟩
      obtain ⟨q, hq⟩ := Deep.choose_lt each
      obtain ⟨b, off, spot⟩ := ad
      have hc0 := (hq 0 (by omega)).1
      have hspot : spot = none := by simpa [Addr.add] using World.cell?_spot hc0
      subst hspot
      refine ⟨b, off, (List.range len).map fun i => (q i).1, (List.range len).map fun i => (q i).2, rfl, fun i hi => ?_⟩
      have ha : ∀ j, (⟨b, off, none⟩ : Addr).add j = ⟨b, off + j, none⟩ := fun j => by unfold Addr.add; split <;> simp_all
      obtain ⟨e0, e1⟩ := hq i hi
      rw [ha] at e0 e1
      have g0 : ((List.range len).map fun i => (q i).1).getD i 0 = (q i).1 := by simp [List.getD, hi]
      have g1 : ((List.range len).map fun i => (q i).2).getD i 0 = (q i).2 := by simp [List.getD, hi]
      rw [g0, g1]
      exact ⟨block_lt_of_cell e0, e0, by rw [Nat.add_assoc]; exact e1⟩
end Go.Proofs.YtdchcmaceobpeaaDoor
