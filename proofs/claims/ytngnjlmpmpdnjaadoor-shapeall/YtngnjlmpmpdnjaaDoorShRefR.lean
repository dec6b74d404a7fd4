/- The document's Read (lapidaryref03). -/
import Derived.Test.YtngnjlmpmpdnjaaDoorShRefB
namespace Go.Proofs.YtngnjlmpmpdnjaaDoor
open Go.RowKit Go.Sh
theorem ne32 {b : UInt8} (h : ¬ b = 32) : ((b.toNat : Int) == 32) = false := by
  rw [beq_eq_false_iff_ne]
  intro e
  apply h
  apply UInt8.toNat_inj.1
  simp
  omega
theorem ext_data (s : ByteArray) (b i : Nat) : (s.extract b i).data.toList = (s.data.toList.drop b).take (i - b) := by
  rw [Lib.extract_data]
theorem next_mem {s x : ByteArray} {b k : Nat} {dn : List (List UInt8)} (h : (k ≤ s.size ∧ RI s.data.toList b k (dn ++ [x.data.toList])) ∨ (k = s.size + 1 ∧ sp s.data.toList = dn ++ [x.data.toList])) : x ∈ spB s := by
  have hm : x.data.toList ∈ sp s.data.toList := by
    rcases h with ⟨_, h⟩ | ⟨_, h⟩
    · rw [h.2.2.1]; simp
    · rw [h]; simp
  exact List.mem_map.2 ⟨_, hm, rfl⟩
theorem ne_snoc {dn : List (List UInt8)} {x : List UInt8} (h : ∀ p ∈ dn, p ≠ []) (hx : x ≠ []) : ∀ p ∈ dn ++ [x], p ≠ [] := by
  intro p hp
  simp only [List.mem_append, List.mem_singleton] at hp
  rcases hp with hp | rfl
  · exact h p hp
  · exact hx
def tabOf (dn : List (List UInt8)) : List ByteArray := dn.map (fun p => vT (bs p))
theorem tabOf_snoc (dn : List (List UInt8)) (x : ByteArray) : tabOf (dn ++ [x.data.toList]) = tabOf dn ++ [vT x] := by
  simp only [tabOf, List.map_append, List.map_cons, List.map_nil]
  rfl
set_option maxHeartbeats 2000000 in
theorem rRead_long (s : ByteArray) (w : World) (h : 200 < s.size) :
    Calls Tryd.prog 28 #[.string s] w fun e w' => e = .returned (.tuple #[.slice none 0 0, .int .i64 2]) ∧ Below w.heap.size w w' := by
  have h' : (200 : Int) < (s.size : Int) := by omega
  go_enter Tryd.func28, Tryd.ntmps28
  go_wp2
  go_ret2
  exact ⟨rfl, Below.refl _ _⟩
set_option maxRecDepth 100000 in
set_option maxHeartbeats 8000000 in
theorem rRead_short (s : ByteArray) (w : World) (hs : s.size ≤ 200) :
    Calls Tryd.prog 28 #[.string s] w fun e w' => ∃ v, e = .returned (.tuple #[v, .int .i64 (er (rdOk s))]) ∧ IsTab w' v (rdT s) ∧ Below w.heap.size w w' := by
  obtain ⟨i0, hi, hz0, hz1, hz2⟩ := info_parts shape_info
  have h' : (s.size : Int) ≤ 200 := by omega
  go_enter Tryd.func28, Tryd.ntmps28
  go_wp2
  go_loopw [4, 5, 6] (fun v bg i wr => ∃ (b k : Nat) (dn : List (List UInt8)), bg = .int .i64 b ∧ i = .int .i64 k ∧ k ≤ s.size + 1 ∧ dn.length ≤ k ∧ wr.ownsRow w.heap.size 42 1 v dn.length ((tabOf dn).map Value.string) ∧ Below w.heap.size w wr ∧ Hid ((k ≤ s.size ∧ RI s.data.toList b k dn) ∨ (k = s.size + 1 ∧ sp s.data.toList = dn)) ∧ Hid (∀ p ∈ dn, p ≠ [])) (fun _ _ i _ => s.size + 1 - (intOf i).toNat)
  case atStart => exact ⟨0, 0, [], rfl, rfl, by omega, by simp, ⟨by simp [tabOf], .inl ⟨rfl, rfl⟩⟩, Below.refl _ _, hid (.inl ⟨by omega, RI_start _⟩), hid (by simp)⟩
  case round =>
    obtain ⟨b, k, dn, rfl, rfl, hk, hdn, hown, ar, HRI, HNE⟩ := hrel
    have hsz := ar.size
    by_cases hlt : k < s.size
    · obtain ⟨hks, hRI⟩ : k ≤ s.size ∧ RI s.data.toList b k dn := by
        rcases HRI.out with h | h
        · exact h
        · omega
      have hbk := hRI.1
      have HR2 := hid hRI
      have hll : k < s.data.toList.length := by rw [Array.length_toList]; exact hlt
      have Hget : Hid (s.data.toList[k] = s[k]'hlt) := hid rfl
      clear hRI HRI hks
      by_cases hc : s[k]'hlt = 32
      · have HNb := hid (RI_blank HR2.out hll (Hget.out.trans hc))
        have e1 : (((s[k]'hlt).toNat : Int) != 32) = false := by rw [hc]; rfl
        have HXd := hid (ext_data s b k)
        clear hc
        obtain ⟨x, hx⟩ : ∃ x, x = s.extract b k := ⟨_, rfl⟩
        rw [← hx] at HXd
        have HXX := hid hx
        have HNx : Hid ((k + 1 ≤ s.size ∧ RI s.data.toList (k + 1) (k + 1) (dn ++ [x.data.toList])) ∨ (k + 1 = s.size + 1 ∧ sp s.data.toList = dn ++ [x.data.toList])) := hid (.inl ⟨hlt, by rw [HXd.out]; exact HNb.out⟩)
        have HM := hid (next_mem HNx.out)
        by_cases h45 : x.data.toList = [45]
        · have hb : (x.toList == [45]) = true := by rw [toL, h45]; rfl
          have Hv : Hid (vT x = ⟨#[]⟩) := hid (by simp [vT, h45]; rfl)
          have Hne : Hid (x.data.toList ≠ []) := hid (by rw [h45]; simp)
          rw [hx] at hb
          clear h45 hx
          go_wp2_with (at_builtin; refine wpList_append_own _ rfl _ _ 22 rfl w.heap.size 42 i0 (.string ByteArray.empty) 1 16 Tryd.underlying22 hi hz0 hz1 hz2 rfl (by decide) _ _ _ rfl (hown.alloc _) ⟨wr.heap.size, 0, none⟩ 1 1 [.string ⟨#[]⟩] rfl rfl (cell_one_new _ _ _) (fun u hu => by simp at hu; subst hu; rfl) (by unfold maxLen; omega) (by omega) (by simp; omega) ?_; intro v' w3 own3 hgrow _)
          have own4 : w3.ownsRow w.heap.size 42 1 v' (dn ++ [x.data.toList]).length ((tabOf (dn ++ [x.data.toList])).map Value.string) := by
            rw [tabOf_snoc, List.map_append, List.length_append, List.map_cons, List.map_nil, Hv.out]
            exact own3
          exact ⟨⟨k + 1, k + 1, dn ++ [x.data.toList], by simp, by simp, by omega, by simp; omega, own4, (ar.alloc hsz _).grown hgrow (by simp; omega) (fun j hj => (hown.lt j hj).1), HNx, hid (ne_snoc HNE.out Hne.out)⟩, by simp [intOf]; omega⟩
        · have hb : (x.toList == [45]) = false := by rw [toL, beq_eq_false_iff_ne]; exact h45
          by_cases hz : x.size = 0
          · have hem : x.toList.isEmpty = true := by rw [toL, empty_data hz]; rfl
            have HN := hid (rdOk_empty HM.out hz)
            rw [hx] at hb hem
            clear h45 hz hx
            go_wp2
            go_ret2
            refine ⟨_, ret_ve (by rw [HN.out]; rfl), ?_, ar⟩
            rw [rdT, HN.out]
            exact .inl ⟨rfl, _, _, rfl⟩
          · have hem := isEmpty_no hz
            have Hv : Hid (vT x = x) := hid (by simp [vT, h45])
            have Hne : Hid (x.data.toList ≠ []) := hid (fun e => hz (by
              have := congrArg List.length e
              rw [Array.length_toList] at this
              exact this))
            rw [hx] at hb hem
            clear h45 hz hx
            have Hv2 : Hid (vT x = s.extract b k) := hid (Hv.out.trans HXX.out)
            go_wp2_with (at_builtin; refine wpList_append_own _ rfl _ _ 22 rfl w.heap.size 42 i0 (.string ByteArray.empty) 1 16 Tryd.underlying22 hi hz0 hz1 hz2 rfl (by decide) _ _ _ rfl (hown.alloc _) ⟨wr.heap.size, 0, none⟩ 1 1 [.string (s.extract b k)] rfl rfl (cell_one_new _ _ _) (fun u hu => by simp at hu; subst hu; rfl) (by unfold maxLen; omega) (by omega) (by simp; omega) ?_; intro v' w3 own3 hgrow _)
            have own4 : w3.ownsRow w.heap.size 42 1 v' (dn ++ [x.data.toList]).length ((tabOf (dn ++ [x.data.toList])).map Value.string) := by
              rw [tabOf_snoc, List.map_append, List.length_append, List.map_cons, List.map_nil, Hv2.out]
              exact own3
            exact ⟨⟨k + 1, k + 1, dn ++ [x.data.toList], by simp, by simp, by omega, by simp; omega, own4, (ar.alloc hsz _).grown hgrow (by simp; omega) (fun j hj => (hown.lt j hj).1), HNx, hid (ne_snoc HNE.out Hne.out)⟩, by simp [intOf]; omega⟩
      · have e1 := bne_of (ne32 hc)
        have HNx := hid (RI_step HR2.out hll (by rw [Hget.out]; exact hc))
        clear hc
        go_wp2
        exact ⟨⟨b, k + 1, dn, rfl, by simp, by omega, by omega, hown, ar, hid (.inl ⟨hlt, HNx.out⟩), HNE⟩, by simp [intOf]; omega⟩
    · by_cases heq : k = s.size
      · subst heq
        obtain ⟨hks, hRI⟩ : s.size ≤ s.size ∧ RI s.data.toList b s.size dn := by
          rcases HRI.out with h | h
          · exact h
          · omega
        have hbk := hRI.1
        have HR2 := hid hRI
        clear hRI HRI hks
        have HXd := hid (ext_data s b s.size)
        obtain ⟨x, hx⟩ : ∃ x, x = s.extract b s.size := ⟨_, rfl⟩
        rw [← hx] at HXd
        have HXX := hid hx
        have HNx : Hid ((s.size + 1 ≤ s.size ∧ RI s.data.toList (s.size + 1) (s.size + 1) (dn ++ [x.data.toList])) ∨ (s.size + 1 = s.size + 1 ∧ sp s.data.toList = dn ++ [x.data.toList])) := hid (.inr ⟨rfl, by
          rw [HXd.out]
          exact RI_end HR2.out⟩)
        have HM := hid (next_mem HNx.out)
        by_cases h45 : x.data.toList = [45]
        · have hb : (x.toList == [45]) = true := by rw [toL, h45]; rfl
          have Hv : Hid (vT x = ⟨#[]⟩) := hid (by simp [vT, h45]; rfl)
          have Hne : Hid (x.data.toList ≠ []) := hid (by rw [h45]; simp)
          rw [hx] at hb
          clear h45 hx
          go_wp2_with (at_builtin; refine wpList_append_own _ rfl _ _ 22 rfl w.heap.size 42 i0 (.string ByteArray.empty) 1 16 Tryd.underlying22 hi hz0 hz1 hz2 rfl (by decide) _ _ _ rfl (hown.alloc _) ⟨wr.heap.size, 0, none⟩ 1 1 [.string ⟨#[]⟩] rfl rfl (cell_one_new _ _ _) (fun u hu => by simp at hu; subst hu; rfl) (by unfold maxLen; omega) (by omega) (by simp; omega) ?_; intro v' w3 own3 hgrow _)
          have own4 : w3.ownsRow w.heap.size 42 1 v' (dn ++ [x.data.toList]).length ((tabOf (dn ++ [x.data.toList])).map Value.string) := by
            rw [tabOf_snoc, List.map_append, List.length_append, List.map_cons, List.map_nil, Hv.out]
            exact own3
          exact ⟨⟨s.size + 1, s.size + 1, dn ++ [x.data.toList], by simp, by simp, by omega, by simp; omega, own4, (ar.alloc hsz _).grown hgrow (by simp; omega) (fun j hj => (hown.lt j hj).1), HNx, hid (ne_snoc HNE.out Hne.out)⟩, by simp [intOf]⟩
        · have hb : (x.toList == [45]) = false := by rw [toL, beq_eq_false_iff_ne]; exact h45
          by_cases hz : x.size = 0
          · have hem : x.toList.isEmpty = true := by rw [toL, empty_data hz]; rfl
            have HN := hid (rdOk_empty HM.out hz)
            rw [hx] at hb hem
            clear h45 hz hx
            go_wp2
            go_ret2
            refine ⟨_, ret_ve (by rw [HN.out]; rfl), ?_, ar⟩
            rw [rdT, HN.out]
            exact .inl ⟨rfl, _, _, rfl⟩
          · have hem := isEmpty_no hz
            have Hv : Hid (vT x = x) := hid (by simp [vT, h45])
            have Hne : Hid (x.data.toList ≠ []) := hid (fun e => hz (by
              have := congrArg List.length e
              rw [Array.length_toList] at this
              exact this))
            rw [hx] at hb hem
            clear h45 hz hx
            have Hv2 : Hid (vT x = s.extract b s.size) := hid (Hv.out.trans HXX.out)
            go_wp2_with (at_builtin; refine wpList_append_own _ rfl _ _ 22 rfl w.heap.size 42 i0 (.string ByteArray.empty) 1 16 Tryd.underlying22 hi hz0 hz1 hz2 rfl (by decide) _ _ _ rfl (hown.alloc _) ⟨wr.heap.size, 0, none⟩ 1 1 [.string (s.extract b s.size)] rfl rfl (cell_one_new _ _ _) (fun u hu => by simp at hu; subst hu; rfl) (by unfold maxLen; omega) (by omega) (by simp; omega) ?_; intro v' w3 own3 hgrow _)
            have own4 : w3.ownsRow w.heap.size 42 1 v' (dn ++ [x.data.toList]).length ((tabOf (dn ++ [x.data.toList])).map Value.string) := by
              rw [tabOf_snoc, List.map_append, List.length_append, List.map_cons, List.map_nil, Hv2.out]
              exact own3
            exact ⟨⟨s.size + 1, s.size + 1, dn ++ [x.data.toList], by simp, by simp, by omega, by simp; omega, own4, (ar.alloc hsz _).grown hgrow (by simp; omega) (fun j hj => (hown.lt j hj).1), HNx, hid (ne_snoc HNE.out Hne.out)⟩, by simp [intOf]⟩
      · obtain rfl : k = s.size + 1 := by omega
        have HSP : Hid (sp s.data.toList = dn) := hid (by
          rcases HRI.out with h | h
          · omega
          · exact h.2)
        clear HRI
        have HV : Hid (rdV s = tabOf dn) := hid (by rw [rdV, spB, HSP.out, List.map_map]; rfl)
        have HO : Hid (rdOk s = right (tabOf dn)) := hid (by
          rw [← HV.out]
          refine rdOk_right (fun p hp => ?_)
          obtain ⟨q, hq, rfl⟩ := List.mem_map.1 hp
          rw [HSP.out] at hq
          have := HNE.out q hq
          show 1 ≤ q.length
          cases q with
          | nil => exact absurd rfl this
          | cons a r => simp)
        have hlen : (tabOf dn).length = dn.length := by simp [tabOf]
        have htab : IsTab wr u4 (tabOf dn) := own_tab (by rw [hlen]; exact hown)
        have c := rRight_any u4 (tabOf dn) wr htab
        have HT := hid htab
        clear htab hown hlen
        by_cases hr : right (tabOf dn) = true
        · rw [hr] at c
          have HN := hid (HO.out.trans hr)
          clear hr
          go_wp2_with (go_at_call 14; refine c.mono ?_; rintro e w2 ⟨rfl, rfl⟩)
          go_ret2
          refine ⟨_, ret_ve (by rw [HN.out]; rfl), ?_, ar⟩
          rw [rdT, if_pos HN.out, HV.out]
          exact HT.out
        · have hr' : right (tabOf dn) = false := by simpa using hr
          rw [hr'] at c
          have HN := hid (HO.out.trans hr')
          clear hr hr'
          go_wp2_with (go_at_call 14; refine c.mono ?_; rintro e w2 ⟨rfl, rfl⟩)
          go_ret2
          refine ⟨_, ret_ve (by rw [HN.out]; rfl), ?_, ar⟩
          rw [rdT, HN.out]
          exact .inl ⟨rfl, _, _, rfl⟩
theorem rRead_any (s : ByteArray) (w : World) :
    Calls Tryd.prog 28 #[.string s] w fun e w' => ∃ v, e = .returned (.tuple #[v, .int .i64 (er (rdOk s))]) ∧ IsTab w' v (rdT s) ∧ Below w.heap.size w w' := by
  by_cases h : s.size ≤ 200
  · exact rRead_short s w h
  · have hr : rdOk s = false := by
      cases hb : rdOk s with
      | false => rfl
      | true => have := rdOk_short hb; omega
    refine (rRead_long s w (by omega)).mono ?_
    rintro e w' ⟨rfl, b⟩
    refine ⟨_, ret_ve (by rw [hr]; rfl), ?_, b⟩
    rw [rdT, hr]
    exact .inl ⟨rfl, _, _, rfl⟩
end Go.Proofs.YtngnjlmpmpdnjaaDoor
