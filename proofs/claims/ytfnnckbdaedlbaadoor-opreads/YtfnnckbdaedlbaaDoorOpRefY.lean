/- the document's functions of layer 8: Words. -/
import Derived.Test.YtfnnckbdaedlbaaDoorOpRefXOn
import Derived.Test.YtfnnckbdaedlbaaDoorShTab
set_option linter.unusedVariables false
namespace Go.Proofs.YtfnnckbdaedlbaaDoor
open Go.RowKit Go.Oq Go.Sort Go.Sh
theorem qne32 {b : UInt8} (h : ¬ b = 32) : ((b.toNat : Int) == 32) = false := by
  rw [beq_eq_false_iff_ne]
  intro e
  apply h
  apply UInt8.toNat_inj.1
  simp
  omega
theorem qext_data (s : ByteArray) (b i : Nat) : (s.extract b i).data.toList = (s.data.toList.drop b).take (i - b) := by
  rw [Lib.extract_data]
theorem qown_tab {w : World} {base : Nat} {e : TypeId} {v : Value} {ss : List ByteArray} (h : w.ownsRow base e 1 v ss.length (ss.map Value.string)) : IsTab w v ss := by
  rcases h.2 with ⟨rfl, h0⟩ | ⟨g, cap, cur, rfl, _, hg, _, _, _, ht⟩
  · exact .inl ⟨List.eq_nil_of_length_eq_zero h0, _, _, rfl⟩
  · refine .inr ⟨g, 0, cap, rfl, fun i hi => ?_⟩
    rw [Nat.zero_add]
    refine at_row hg i ?_
    have : (cur.toList.take (ss.length * 1))[i]? = some (.string (at' ss i)) := by
      rw [ht, List.getElem?_map, List.getElem?_eq_getElem hi, at', List.getD_eq_getElem?_getD, List.getElem?_eq_getElem hi]
      rfl
    rw [List.getElem?_take, if_pos (by omega)] at this
    rw [← Array.getElem?_toList]
    exact this
def strsOf (dn : List (List UInt8)) : List ByteArray := dn.map bs
theorem strsOf_snoc (dn : List (List UInt8)) (x : ByteArray) : strsOf (dn ++ [x.data.toList]) = strsOf dn ++ [x] := by
  simp only [strsOf, List.map_append, List.map_cons, List.map_nil]
  rfl
set_option maxRecDepth 100000 in
set_option maxHeartbeats 8000000 in
theorem rWords_any (s : ByteArray) (w : World) (hs : s.size ≤ 1000) :
    Calls Tryd.prog 43 #[.string s] w fun e w' => ∃ v, e = .returned v ∧ IsTab w' v (spB s) ∧ Below w.heap.size w w' := by
  obtain ⟨i0, hi, hz0, hz1, hz2⟩ := info_parts qstr_info
  have h' : (s.size : Int) ≤ 1000 := by omega
  go_enter Tryd.func43, Tryd.ntmps43
  go_wp2
  go_loopw [3, 4, 5] (fun v bg i wr => ∃ (b k : Nat) (dn : List (List UInt8)), bg = .int .i64 b ∧ i = .int .i64 k ∧ k ≤ s.size + 1 ∧ dn.length ≤ k ∧ wr.ownsRow w.heap.size 9 1 v dn.length ((strsOf dn).map Value.string) ∧ Below w.heap.size w wr ∧ Hid ((k ≤ s.size ∧ RI s.data.toList b k dn) ∨ (k = s.size + 1 ∧ sp s.data.toList = dn))) (fun _ _ i _ => s.size + 1 - (intOf i).toNat)
  case atStart => exact ⟨0, 0, [], rfl, rfl, by omega, by simp, ⟨by simp [strsOf], .inl ⟨rfl, rfl⟩⟩, Below.refl _ _, hid (.inl ⟨by omega, RI_start _⟩)⟩
  case round =>
    obtain ⟨b, k, dn, rfl, rfl, hk, hdn, hown, ar, HRI⟩ := hrel
    have hsz := ar.size
    by_cases hlt : k < s.size
    · obtain ⟨hks, hRI⟩ : k ≤ s.size ∧ RI s.data.toList b k dn := by
        rcases HRI.out with h | h
        · exact h
        · omega
      have hbk := hRI.1
      have HR2 := hid hRI
      have hll : k < s.data.toList.length := by rw [Array.length_toList]; exact hlt
      have Hget : Hid (s.data.toList[k] = s[k]'hlt) := hid rfl
      clear hRI HRI hks
      by_cases hc : s[k]'hlt = 32
      · have HNb := hid (RI_blank HR2.out hll (Hget.out.trans hc))
        have e1 : (((s[k]'hlt).toNat : Int) == 32) = true := by rw [hc]; rfl
        have HXd := hid (qext_data s b k)
        have HSN := hid (strsOf_snoc dn (s.extract b k))
        clear hc
        have HNx : Hid ((k + 1 ≤ s.size ∧ RI s.data.toList (k + 1) (k + 1) (dn ++ [(s.extract b k).data.toList])) ∨ (k + 1 = s.size + 1 ∧ sp s.data.toList = dn ++ [(s.extract b k).data.toList])) := hid (.inl ⟨hlt, by rw [HXd.out]; exact HNb.out⟩)
        clear Hget hll HXd HNb
        go_wp2_with (at_builtin; refine wpList_append_own _ rfl _ _ 78 rfl w.heap.size 9 i0 (.string ⟨#[]⟩) 1 16 Tryd.underlying78 hi hz0 hz1 hz2 rfl (by decide) _ _ _ rfl (hown.alloc _) ⟨wr.heap.size, 0, none⟩ 1 1 [.string (s.extract b k)] rfl rfl (qcell_new1 _ _ _) (fun u hu => by simp at hu; subst hu; rfl) (by unfold maxLen; omega) (by omega) (by simp; omega) ?_; intro v' w3 own3 hgrow _)
        have own4 : w3.ownsRow w.heap.size 9 1 v' (dn ++ [(s.extract b k).data.toList]).length ((strsOf (dn ++ [(s.extract b k).data.toList])).map Value.string) := by
          rw [HSN.out, List.map_append, List.length_append, List.map_cons, List.map_nil]
          exact own3
        exact ⟨⟨k + 1, k + 1, dn ++ [(s.extract b k).data.toList], by simp, by simp, by omega, by simp; omega, own4, (ar.alloc hsz _).grown hgrow (by simp; omega) (fun j hj => (hown.lt j hj).1), HNx⟩, by simp [intOf]; omega⟩
      · have e1 := qne32 hc
        have HNx := hid (RI_step HR2.out hll (by rw [Hget.out]; exact hc))
        clear hc Hget hll
        go_wp2
        exact ⟨⟨b, k + 1, dn, rfl, by simp, by omega, by omega, hown, ar, hid (.inl ⟨hlt, HNx.out⟩)⟩, by simp [intOf]; omega⟩
    · by_cases heq : k = s.size
      · subst heq
        obtain ⟨hks, hRI⟩ : s.size ≤ s.size ∧ RI s.data.toList b s.size dn := by
          rcases HRI.out with h | h
          · exact h
          · omega
        have hbk := hRI.1
        have HR2 := hid hRI
        clear hRI HRI hks
        have HXd := hid (qext_data s b s.size)
        have HSN := hid (strsOf_snoc dn (s.extract b s.size))
        have HNx : Hid ((s.size + 1 ≤ s.size ∧ RI s.data.toList (s.size + 1) (s.size + 1) (dn ++ [(s.extract b s.size).data.toList])) ∨ (s.size + 1 = s.size + 1 ∧ sp s.data.toList = dn ++ [(s.extract b s.size).data.toList])) := hid (.inr ⟨rfl, by
          rw [HXd.out]
          exact RI_end HR2.out⟩)
        clear HXd
        go_wp2_with (at_builtin; refine wpList_append_own _ rfl _ _ 78 rfl w.heap.size 9 i0 (.string ⟨#[]⟩) 1 16 Tryd.underlying78 hi hz0 hz1 hz2 rfl (by decide) _ _ _ rfl (hown.alloc _) ⟨wr.heap.size, 0, none⟩ 1 1 [.string (s.extract b s.size)] rfl rfl (qcell_new1 _ _ _) (fun u hu => by simp at hu; subst hu; rfl) (by unfold maxLen; omega) (by omega) (by simp; omega) ?_; intro v' w3 own3 hgrow _)
        have own4 : w3.ownsRow w.heap.size 9 1 v' (dn ++ [(s.extract b s.size).data.toList]).length ((strsOf (dn ++ [(s.extract b s.size).data.toList])).map Value.string) := by
          rw [HSN.out, List.map_append, List.length_append, List.map_cons, List.map_nil]
          exact own3
        exact ⟨⟨s.size + 1, s.size + 1, dn ++ [(s.extract b s.size).data.toList], by simp, by simp, by omega, by simp; omega, own4, (ar.alloc hsz _).grown hgrow (by simp; omega) (fun j hj => (hown.lt j hj).1), HNx⟩, by simp [intOf]⟩
      · obtain rfl : k = s.size + 1 := by omega
        have HSP : Hid (sp s.data.toList = dn) := hid (by
          rcases HRI.out with h | h
          · omega
          · exact h.2)
        clear HRI
        have hlen : (strsOf dn).length = dn.length := by simp [strsOf]
        have HT : Hid (IsTab wr u3 (spB s)) := hid (by
          have : spB s = strsOf dn := by rw [spB, HSP.out]; rfl
          rw [this]
          exact qown_tab (by rw [hlen]; exact hown))
        clear hown hlen
        go_wp2
        go_ret
        exact ⟨_, rfl, HT.out, ar⟩
end Go.Proofs.YtfnnckbdaedlbaaDoor
