/- package op: firstWords. -/
import Derived.Test.YtfnnckbdaedlbaaDoorOpWords
import Derived.Test.YtfnnckbdaedlbaaDoorOpText
import Derived.Test.YtfnnckbdaedlbaaDoorShSize
import Derived.RangeFuncBox
import Derived.Maps.AppendAt
namespace Go.Proofs.YtfnnckbdaedlbaaDoor
open Go.RowKit Go.Oq Go.Sh Go.Shelf
attribute [local go_sem] Oper.semAt_some
theorem oown_kept {A B : World} {row : Option Nat} {base k : Nat} {e : TypeId} {size : Nat} {v : Value} {vs : List Value} (hr : A.ownsRow base e size v k vs) (hg : A.grownBy B row) (hrow : ∀ r, row = some r → ∃ o : Obj, A.heap[r]? = some o ∧ o.isCells = false) : B.ownsRow base e size v k vs := by
  refine hr.kept hg ?_
  rcases hr.2 with ⟨rfl, _⟩ | ⟨g, cap, cur, rfl, _, hgb, _⟩
  · exact .inl rfl
  · refine .inr fun e' => ?_
    obtain ⟨o, ho, hc⟩ := hrow g (by simpa [Value.ownBlock] using e'.symm)
    rw [hgb] at ho; cases ho; cases hc
/-- The words up to now stand in a list of one's own, that a box leads to. -/
def FwB (w : World) (v : Value) (pre : List ByteArray) (W : World) : Prop :=
  Boxed W w.heap.size 78 v ∧ W.ownsRow w.heap.size 9 1 v pre.length (pre.map Value.string) ∧ Below w.heap.size w W
theorem FwB.own {w A B : World} {v : Value} {pre : List ByteArray} {row : Option Nat} {C : Nat} (h : FwB w v pre A) (hC : w.heap.size ≤ C) (hg : A.grownBy B row) (hr : ∀ r, row = some r → C ≤ r ∧ ∃ o : Obj, A.heap[r]? = some o ∧ o.isCells = false) : FwB w v pre B :=
  ⟨box_own h.1 hg (fun r e => (hr r e).2), oown_kept h.2.1 hg (fun r e => (hr r e).2), h.2.2.grown hg h.2.2.size (fun k e => Nat.le_trans hC (hr k e).1)⟩
theorem own_slice {w : World} {B : Nat} {t : TypeId} {v : Value} {k : Nat} {vs : List Value} (h : w.ownsRow B t 1 v k vs) : ∃ a n c, v = .slice a n c := by
  rcases h.2 with ⟨rfl, _⟩ | ⟨g, cap, cur, rfl, _⟩
  · exact ⟨_, _, _, rfl⟩
  · exact ⟨_, _, _, rfl⟩
set_option maxRecDepth 10000000 in
set_option maxHeartbeats 8000000 in
theorem firstWords_in (s : ByteArray) (w : World) (hs : s.size ≤ 100000) :
    CallsIn Fence.wide 4 Tryd.prog 38 #[.string s] w fun e W' =>
      ∃ v, e = .returned v ∧ W'.ownsRow w.heap.size 9 1 v ((spB s).take 6).length (((spB s).take 6).map Value.string) ∧ Below w.heap.size w W' := by
  obtain ⟨i0, hi, hz0, hz1, hz2⟩ := info_parts qstr_info
  refine callsIn_of_wp_marks Tryd.func38 rfl trivial ?_ rfl
  simp only [Tryd.ntmps38, List.size_toArray, List.length_cons, List.length_nil, Nat.reduceAdd, Nat.reduceSub, Array.replicate_succ, Array.replicate_zero, List.push_toArray, List.append_toArray, List.nil_append, List.cons_append]
  gi_wp2
  refine wpIn_scope_wide ?_
  gi_wp2
  refine wpIn_label ?_
  gi_wp2_with (refine ⟨trivial, ?_⟩; gi_at_call 58; refine (callsIn_wide.2 (words_any _ _)).mono ?_; rintro e w' ⟨rfl, rfl⟩)
  have bL := Boxed.new w 78 (.slice none 0 0)
  have bN := Boxed.new (w.alloc (.cells #[.slice none 0 0] 78)) 9 (.string s)
  rw [World.size_alloc] at bN
  have hB0 : Below w.heap.size w ((w.alloc (.cells #[.slice none 0 0] 78)).alloc (.cells #[.string s] 9)) := ((Below.refl _ w).alloc (Nat.le_refl _) _).alloc (by simp) _
  refine wpIn_rangeFunc_ownG (Q := _) rfl (by decide) (gf := 79) (lb := #[.pointer (some ⟨w.heap.size + 1, 0, none⟩)]) rfl trivial (enters_of Tryd.func79 (by kernel_rfl) rfl)
    (words_stops 3 (by omega) (w.heap.size + 1) s hs _ bN.cell) walksK_t walksK_b (Below.refl _ _) (fun _ => rfl)
    (fun pre W => pre.length ≤ 5 ∧ ∃ v, FwB w v pre W)
    (fun c pre W => c = .exit 0 ∧ pre.length = 6 ∧ ∃ v, FwB w v pre W)
    (fun pre A B row hs hg hr => by obtain ⟨h1, v, h2⟩ := hs; exact ⟨h1, v, h2.own (by simp; omega) hg hr⟩)
    (fun c pre A B row hs hg hr => by obtain ⟨h0, h1, v, h2⟩ := hs; exact ⟨h0, h1, v, h2.own (by simp; omega) hg hr⟩)
    ⟨by simp, _, bL.alloc _, ⟨by simp, .inl ⟨rfl, rfl⟩⟩, hB0⟩ ?a1 ?assign ?body ?done ?stop
  case assign =>
    intro l x W K hK
    dsimp only [encW]
    gi_wp2
    exact hK
  case body =>
    rintro l pre y W ⟨hl5, v, hA⟩ hlen
    have HA := hid hA
    obtain ⟨a, n, c, rfl⟩ := own_slice hA.2.1
    have hc1 := hA.1.cell
    have hf1 := hA.1.frozen
    have hzW : w.heap.size ≤ W.heap.size := hA.2.2.size
    have HL : Hid ((pre ++ [y]).length = pre.length + 1) := hid (by simp)
    clear hA
    by_cases h5 : pre.length + 1 ≤ 5
    · gi_wp2_with (gi_at_builtin; refine wpListIn_append_own _ rfl _ _ 78 rfl w.heap.size 9 i0 (.string ⟨#[]⟩) 1 16 Tryd.underlying78 hi hz0 hz1 hz2 rfl (by decide) (.slice a n c) pre.length (pre.map Value.string) rfl (HA.out.2.1.alloc (.cells #[.string y] 9)) ⟨W.heap.size, 0, none⟩ 1 1 [.string y] rfl rfl (qcell_new1 _ _ _) (by simp [Value.oneCell']) (by unfold maxLen; omega) (by omega) (by simp; omega) ?_; intro v' w3 hown' hgrow _; obtain ⟨g', cap', rfl⟩ := ownsRow_succ hown'; obtain ⟨hv1, hu2, hu3, hk2, hb2⟩ := HA.out.1.appended (e := 9) (by decide) HA.out.2.1 hzW (Nat.le_refl _) hown' hgrow; have hc3 := hv1.cell; have hf3 := hv1.frozen; have hc4 := hu2.cell)
      refine ⟨hk2.from _, hk2.walks, by rw [HL.out]; exact h5, _, hu2, ?_, HA.out.2.2.trans hb2⟩
      rw [List.map_append, List.length_append]
      exact hu3
    · have h6 : 5 < (pre.length : Int) + 1 := by omega
      have H6 : Hid (pre.length + 1 = 6) := hid (by omega)
      clear h5
      gi_wp2_with (gi_at_builtin; refine wpListIn_append_own _ rfl _ _ 78 rfl w.heap.size 9 i0 (.string ⟨#[]⟩) 1 16 Tryd.underlying78 hi hz0 hz1 hz2 rfl (by decide) (.slice a n c) pre.length (pre.map Value.string) rfl (HA.out.2.1.alloc (.cells #[.string y] 9)) ⟨W.heap.size, 0, none⟩ 1 1 [.string y] rfl rfl (qcell_new1 _ _ _) (by simp [Value.oneCell']) (by unfold maxLen; omega) (by omega) (by simp; omega) ?_; intro v' w3 hown' hgrow _; obtain ⟨g', cap', rfl⟩ := ownsRow_succ hown'; obtain ⟨hv1, hu2, hu3, hk2, hb2⟩ := HA.out.1.appended (e := 9) (by decide) HA.out.2.1 hzW (Nat.le_refl _) hown' hgrow; have hc3 := hv1.cell; have hf3 := hv1.frozen; have hc4 := hu2.cell)
      refine ⟨hk2.from _, rfl, by rw [HL.out]; exact H6.out, _, hu2, ?_, HA.out.2.2.trans hb2⟩
      rw [List.map_append, List.length_append]
      exact hu3
  case done =>
    rintro D zs W hD rfl ⟨h5, v, hA⟩ hK
    have hT : (spB s).take 6 = spB s := List.take_of_length_le (by omega)
    obtain ⟨a, n, c, rfl⟩ := own_slice hA.2.1
    have k2 := hA.1.cell
    have HA : Hid (FwB w (.slice a n c) ((spB s).take 6) W) := hid (by rw [hT]; exact hA)
    clear hA hT
    gi_wp2
    refine ⟨by simp, .inl ⟨_, _, rfl, run_takeDeferred hK, ?_⟩⟩
    exact ⟨_, results_tmp rfl _ _ _, _, rfl, ownsRow_putObj HA.out.2.1 _ hK rfl, HA.out.2.2.trans (belowK_b (w := w) (Nat.le_refl _) W D _ _ (by simp at hD; omega) hK rfl rfl)⟩
  case stop =>
    rintro D c pre W hD ⟨k, hk, rfl⟩ ⟨rfl, h6, v, hA⟩ hK
    have hT : (spB s).take 6 = (spB s).take k := by
      rw [List.length_take] at h6
      have : k = 6 := by omega
      rw [this]
    obtain ⟨a, n, c, rfl⟩ := own_slice hA.2.1
    have k2 := hA.1.cell
    have HA : Hid (FwB w (.slice a n c) ((spB s).take 6) W) := hid (by rw [hT]; exact hA)
    clear hA hT h6
    gi_wp2
    refine ⟨by simp, .inl ⟨_, _, rfl, run_takeDeferred hK, ?_⟩⟩
    exact ⟨_, results_tmp rfl _ _ _, _, rfl, ownsRow_putObj HA.out.2.1 _ hK rfl, HA.out.2.2.trans (belowK_b (w := w) (Nat.le_refl _) W D _ _ (by simp at hD; omega) hK rfl rfl)⟩
/-- The first words of a text, as a list that stands. -/
theorem firstWords_at (s : ByteArray) (w : World) (hs : s.size ≤ 100000) :
    Calls Tryd.prog 38 #[.string s] w fun e W' =>
      ∃ g cap, e = .returned (.slice (some ⟨g, 0, none⟩) ((spB s).take 6).length cap) ∧ ((spB s).take 6).length ≤ cap ∧ w.heap.size ≤ g ∧ (∀ i, i < ((spB s).take 6).length → W'.cell? ⟨g, i, none⟩ = some (.string (at' (spB s) i))) ∧ Below w.heap.size w W' := by
  refine (callsIn_wide.1 (firstWords_in s w hs)).mono ?_
  rintro e W' ⟨v, rfl, ho, hb⟩
  have hne : 0 < (spB s).length := List.length_pos_iff.2 (spB_ne s)
  rcases ho.2 with ⟨_, h0⟩ | ⟨g, cap, cur, rfl, hg, hrow, hcap, _, _, htk⟩
  · rw [List.length_take] at h0; omega
  · refine ⟨g, cap, rfl, hcap, hg, fun i hi => ?_, hb⟩
    refine at_row hrow i ?_
    rw [Nat.mul_one] at htk
    have e1 : (cur.toList.take ((spB s).take 6).length)[i]? = some (.string (at' (spB s) i)) := by
      have hi2 : i < (spB s).length := by rw [List.length_take] at hi; omega
      have hi6 : i < 6 := by rw [List.length_take] at hi; omega
      rw [htk, List.getElem?_map, List.getElem?_take_of_lt hi6, List.getElem?_eq_getElem hi2, at', List.getD_eq_getElem?_getD, List.getElem?_eq_getElem hi2]; rfl
    rw [List.getElem?_take_of_lt hi, Array.getElem?_toList] at e1
    exact e1
end Go.Proofs.YtfnnckbdaedlbaaDoor
