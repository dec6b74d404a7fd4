/- From the rows' data to a list of operations, to an answer. -/
import Derived.Test.YtfnnckbdaedlbaaDoorOpLawT
import Derived.Test.YtfnnckbdaedlbaaDoorOpLaid
set_option linter.unusedVariables false
namespace Go.Proofs.YtfnnckbdaedlbaaDoor
open Go.ChangeShapes Go.WideShapes Go.ChangeAt Go.WideMaps Go.WideElems Go.RowKit Go.Joins Go.Oq
set_option maxRecDepth 100000 in
theorem ops_open {H : Type} {enc : TypeId × Value → H} {W : World} {held : Bool} {a : Option Addr} {len cap fuel : Nat} {x : DataW H × List MemPlace}
    (h : DataW.trod enc Tryd.prog W 0 (fun _ => true) held fuel 23 (Value.slice a len cap).cells.toList = some x) : IsOps W a len := by
  rcases Deep.open_slice Tryd.underlying23 h with ⟨hcs, _⟩ | ⟨ad, len', cap', m, n, D, Pl, hcs, _, hl, _, hm, _, hel⟩
  · simp [Value.cells] at hcs
    intro i hi
    omega
  · simp [Value.cells] at hcs
    obtain ⟨rfl, rfl, rfl⟩ := hcs
    intro i hi
    rw [if_pos rfl] at hm
    subst hm
    have ce : Tryd.prog.cellsOf 31 = 8 := by kernel_rfl
    obtain ⟨cs', h1, h2⟩ := hel i (by omega)
    rw [ce] at h1
    obtain ⟨_, hlen, hcell⟩ := World.cells?_some h1
    obtain ⟨f, rfl, hr⟩ := op_cells h2
    have e0 := hcell 0 (by omega)
    have e1 := hcell 1 (by omega)
    have e2 := hcell 2 (by omega)
    have e3 := hcell 3 (by omega)
    have e4 := hcell 4 (by omega)
    have e5 := hcell 5 (by omega)
    have e6 := hcell 6 (by omega)
    have e7 := hcell 7 (by omega)
    rw [Deep.add_add] at e0 e1 e2 e3 e4 e5 e6 e7
    have hsp : ∃ v, W.cell? ((ad.add 0).add 0) = some v := by
      obtain ⟨cs0, h1, _⟩ := hel 0 (by omega)
      obtain ⟨_, hlen, hcell⟩ := World.cells?_some h1
      rw [Nat.zero_mul] at hcell
      rw [ce] at hlen hcell
      exact ⟨cs0[0]'(by omega), by rw [hcell 0 (by omega)]; exact List.getElem?_eq_getElem _⟩
    obtain ⟨b, off, spot⟩ := ad
    obtain ⟨_, hsp⟩ := hsp
    have hspot : spot = none := by simpa [Addr.add] using World.cell?_spot hsp
    subst hspot
    have ha : ∀ j, (⟨b, off, none⟩ : Addr).add j = ⟨b, off + j, none⟩ := fun j => by unfold Addr.add; split <;> simp_all
    rw [ha] at e0 e1 e2 e3 e4 e5 e6 e7
    exact ⟨b, off, f, rfl, ⟨e0.trans rfl, by rw [Nat.add_assoc]; exact e1.trans rfl, by rw [Nat.add_assoc]; exact e2.trans rfl, by rw [Nat.add_assoc]; exact e3.trans rfl, by rw [Nat.add_assoc]; exact e4.trans rfl, by rw [Nat.add_assoc]; exact e5.trans rfl, by rw [Nat.add_assoc]; exact e6.trans rfl, by rw [Nat.add_assoc]; exact e7.trans rfl⟩, hr⟩
end Go.Proofs.YtfnnckbdaedlbaaDoor
