/- The slices of accesses and of words that a law is handed, opened. -/
import Derived.Test.YtlmkbnebpaopeaaArLawC
import Derived.Deep.SlicePairs
namespace Go.Proofs.Ytlmkbnebpaopeaa
open Go.RowKit
theorem u64_bounds {n : Int} (h : (Lit.int .u64 n).wf = true) : 0 ≤ n ∧ n ≤ 18446744073709551615 := by
  simp [Lit.wf, IntKind.min, IntKind.max, IntKind.signed, IntKind.bits] at h
  omega
theorem accs_open {H : Type} {enc : TypeId × Value → H} {W : World} {sp : Nat → Bool} {held : Bool} {a : Option Addr} {len cap fuel : Nat} {x : DataW H × List MemPlace}
    (h : DataW.trod enc Try.prog W 0 sp held fuel 22 (Value.slice a len cap).cells.toList = some x) (hsp : ∀ b, sp b = true) : IsAccs W a len := by
  rcases Deep.open_slice Try.underlying22 h with ⟨hcs, _⟩ | ⟨ad, len', cap', m, n, D, Pl, hcs, _, hl, _, hm, _, hel⟩
  · simp [Value.cells] at hcs
    exact .inl hcs.2.1
  · simp [Value.cells] at hcs
    obtain ⟨rfl, rfl, rfl⟩ := hcs
    by_cases h0 : len = 0
    · exact .inl h0
    · right
      rw [hsp, if_pos rfl] at hm
      subst hm
      have ce : Try.prog.cellsOf 30 = 4 := by kernel_rfl
      have each : ∀ i, i < len → ∃ q : Acs, (W.cell? (ad.add (i * 4)) = some (.int .i64 q.k) ∧ W.cell? (ad.add (i * 4 + 1)) = some (.int .i64 q.p) ∧ W.cell? (ad.add (i * 4 + 2)) = some (.int .u64 q.o) ∧ W.cell? (ad.add (i * 4 + 3)) = some (.int .u64 q.n)) ∧ 0 ≤ q.n ∧ q.n ≤ 18446744073709551615 := by
        intro i hi
        obtain ⟨cs', h1, h2⟩ := hel i (by omega)
        rw [ce] at h1
        obtain ⟨_, hlen, hcell⟩ := World.cells?_some h1
        obtain ⟨xs, k, hk, hxy, _, hxl, hf⟩ := DataW.trod_struct Try.underlying30 h2
        match xs, hxl, cs', hlen with
        | [y0, y1, y2, y3], _, [v0, v1, v2, v3], _ =>
          have g0 := hf 0 _ rfl
          have g1 := hf 1 _ rfl
          have g2 := hf 2 _ rfl
          have g3 := hf 3 _ rfl
          have s0 : Try.prog.cellsOf 27 = 1 := by kernel_rfl
          have s1 : Try.prog.cellsOf 3 = 1 := by kernel_rfl
          have s2 : Try.prog.cellsOf 28 = 1 := by kernel_rfl
          simp [s0, s1, s2] at g0 g1 g2 g3
          have e0 := hcell 0 (by omega)
          have e1 := hcell 1 (by omega)
          have e2 := hcell 2 (by omega)
          have e3 := hcell 3 (by omega)
          rw [Deep.add_add] at e0 e1 e2 e3
          obtain ⟨z0, hz0, _, _⟩ := DataW.trod_int Try.underlying27 g0
          obtain ⟨z1, hz1, _, _⟩ := DataW.trod_int Try.underlying3 g1
          obtain ⟨z2, hz2, _, _⟩ := DataW.trod_int Try.underlying28 g2
          obtain ⟨z3, hz3, _, w3⟩ := DataW.trod_int Try.underlying28 g3
          simp at hz0 hz1 hz2 hz3
          subst hz0 hz1 hz2 hz3
          exact ⟨⟨z0, z1, z2, z3⟩, ⟨by simpa using e0, by simpa using e1, by simpa using e2, by simpa using e3⟩, u64_bounds w3⟩
      haveI : Inhabited Acs := ⟨⟨0, 0, 0, 0⟩⟩
      obtain ⟨q, hq⟩ := Deep.choose_lt each
      obtain ⟨b, off, spot⟩ := ad
      have hc0 := (hq 0 (by omega)).1.1
      have hspot : spot = none := by simpa [Addr.add] using World.cell?_spot hc0
      subst hspot
      refine ⟨b, off, q, rfl, fun i hi => ?_⟩
      have ha : ∀ j, (⟨b, off, none⟩ : Addr).add j = ⟨b, off + j, none⟩ := fun j => by unfold Addr.add; split <;> simp_all
      obtain ⟨⟨e0, e1, e2, e3⟩, hn⟩ := hq i hi
      rw [ha] at e0 e1 e2 e3
      exact ⟨⟨e0, by rw [Nat.add_assoc]; exact e1, by rw [Nat.add_assoc]; exact e2, by rw [Nat.add_assoc]; exact e3⟩, hn⟩
end Go.Proofs.Ytlmkbnebpaopeaa
