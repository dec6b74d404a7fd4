/- The document's functions of layer 5 (lapidaryref05): Check, Put, Do, Load, Store, Cas. -/
import Derived.Test.YtlmkbnebpaopeabArCall
import Derived.OwnWalk
namespace Go.Proofs.Ytlmkbnebpaopeab
open Go.RowKit
theorem nz {x : Int} (h : x ≠ 0) : (x != 0) = true := by simpa using h
theorem info_u64 : (Try.prog.info? 23).map (fun i => (i.zero, i.size, i.bytes)) = some (some (.int .u64 0), 1, 8) := by kernel_rfl
/-- A row that begins with so many words, one of them set. -/
theorem ws_row {W : World} {g : Nat} {cur : Array Value} {xs : List Int} {t : TypeId} (hg : W.heap[g]? = some (.cells cur t)) (ht : cur.toList.take xs.length = (wds xs).toList) (p : Nat) (n : Int) : Ws (W.setCell ⟨g, p, none⟩ (.int .u64 n)) g 0 (xs.set p n) := by
  have e := setCell_eq_setRow W g p cur t (0, 0) (.int .u64 n) hg
  intro i hi
  rw [List.length_set] at hi
  rw [e, Nat.zero_add, at_row (setRow_heap W g cur _ _ _ hg) i]
  rw [Array.getElem?_setIfInBounds]
  have hc : cur[i]? = some (.int .u64 (wat xs i)) := by
    have h1 : (cur.toList.take xs.length)[i]? = (wds xs).toList[i]? := by rw [ht]
    rw [List.getElem?_take, if_pos hi] at h1
    have h2 := wds_get xs i hi
    simp only [Array.getElem?_toList] at h1
    rw [h1, h2]
  have hs : i < cur.size := (Array.getElem?_eq_some_iff.1 hc).1
  by_cases hpi : p = i
  · subst hpi
    rw [if_pos rfl, if_pos hs]
    simp [wat, List.getD, hi]
  · rw [if_neg hpi, hc]
    simp [wat, List.getD, List.getElem?_set_ne hpi]
theorem own_row {W : World} {base m : Nat} {e : TypeId} {v : Value} {vs : List Value} (h : W.ownsRow base e 1 v (0 + m) ([] ++ vs)) (hm : 1 ≤ m) : ∃ g c cur, v = .slice (some ⟨g, 0, none⟩) m c ∧ base ≤ g ∧ W.heap[g]? = some (.cells cur e) ∧ cur.toList.take m = vs ∧ m ≤ cur.size := by
  rcases h.2 with ⟨_, h0⟩ | ⟨g, cap, cur, h1, h2, h3, h4, h5, h6, h7⟩
  · omega
  · refine ⟨g, cap, cur, by rw [h1, Nat.zero_add], h2, h3, ?_, by omega⟩
    simpa using h7
end Go.Proofs.Ytlmkbnebpaopeab
