/- The document's functions (lapidaryref03): Text, Same, Read. -/
import Derived.Test.YtngnjlmpmpdnjaaDoorShRef
namespace Go.Proofs.YtngnjlmpmpdnjaaDoor
open Go.RowKit Go.Sh
theorem app_data (a b : ByteArray) : (a ++ b).data.toList = a.data.toList ++ b.data.toList := by
  rw [ByteArray.data_append, Array.toList_append]
theorem of_data {a : ByteArray} {l : List UInt8} (h : a.data.toList = l) : a = ⟨l.toArray⟩ := by
  subst h; rfl
theorem empty_data {s : ByteArray} (h : s.size = 0) : s.data.toList = [] := by
  rw [empty_of_size h]
set_option maxRecDepth 100000 in
set_option maxHeartbeats 4000000 in
theorem rText_any (v : Value) (ss : List ByteArray) (w : World) (h : IsTab w v ss) (hr : right ss = true) :
    Calls Tryd.prog 26 #[v] w fun e w' => e = .returned (.string ⟨(text ss).toArray⟩) ∧ Below w.heap.size w w' := by
  obtain ⟨r1, h16⟩ := right_len hr
  obtain ⟨b, off, cap, rfl, hc⟩ := h.some r1
  have HC := hid hc
  have HR := hid hr
  have Hb : Hid (b < w.heap.size) := hid (block_lt_of_cell (hc 0 r1))
  clear h hr hc
  obtain ⟨len, hlen⟩ : ∃ len, len = ss.length := ⟨_, rfl⟩
  have HL := hid hlen
  rw [← hlen] at h16
  rw [← hlen]
  clear hlen r1
  go_enter Tryd.func26, Tryd.ntmps26
  go_wp2
  go_loopw [3, 4] (fun t i wr => ∃ (k : Nat) (x : ByteArray), k ≤ len ∧ i = .int .i64 k ∧ t = .string x ∧ Hid (x.data.toList = text (ss.take k)) ∧ Below w.heap.size w wr) (fun _ i _ => len - (intOf i).toNat)
  case atStart => exact ⟨0, ⟨#[]⟩, by omega, rfl, rfl, hid rfl, Below.refl _ _⟩
  case round =>
    obtain ⟨k, x, hk, rfl, rfl, HX, ar⟩ := hrel
    have hxs : x.size ≤ 160 := by
      have h1 := text_bd HR.out k (by rw [← HL.out]; exact hk)
      rw [← HX.out, Array.length_toList] at h1
      have : x.size = x.data.size := rfl
      omega
    by_cases hlt : k < len
    · have hcr : wr.cell? ⟨b, off + k, none⟩ = some (.string (at' ss k)) := (ar.cell (p := ⟨b, off + k, none⟩) Hb.out).trans (HC.out k (by rw [← HL.out]; exact hlt))
      have HM := hid (text_take (l := ss) (k := k) (by rw [← HL.out]; exact hlt))
      have h8 := one_size (right_all HR.out k (by rw [← HL.out]; exact hlt))
      generalize at' ss k = y at *
      by_cases h0 : k = 0
      · subst h0
        rw [Nat.add_zero] at hcr
        have e := HM.out
        simp only [Nat.zero_add, if_pos, List.nil_append] at e
        have HE2 := hid e
        clear e
        by_cases hy : y.size = 0
        · have HE := hid (empty_data hy)
          have hy' : ((y.size : Int) == 0) = true := by rw [hy]; rfl
          have HP : Hid (piece y = [45]) := hid (by simp [piece, hy])
          clear hy
          go_wp2
          refine ⟨⟨1, _, by omega, rfl, rfl, hid ?_, ar⟩, by simp [intOf]; omega⟩
          rw [app_data, app_data, HX.out, HE.out, HE2.out, HP.out]
          simp
        · have hy' : ((y.size : Int) == 0) = false := by rw [beq_eq_false_iff_ne]; omega
          have HP : Hid (piece y = y.data.toList) := hid (by simp [piece, hy])
          clear hy
          go_wp2
          refine ⟨⟨1, _, by omega, rfl, rfl, hid ?_, ar⟩, by simp [intOf]; omega⟩
          rw [app_data, HX.out, HE2.out, HP.out]
      · have hk0 : (0 : Int) < (k : Int) := by omega
        have e := HM.out
        simp only [if_neg h0] at e
        have HE2 := hid e
        clear e h0
        by_cases hy : y.size = 0
        · have HE := hid (empty_data hy)
          have hy' : ((y.size : Int) == 0) = true := by rw [hy]; rfl
          have HP : Hid (piece y = [45]) := hid (by simp [piece, hy])
          clear hy
          go_wp2
          refine ⟨⟨k + 1, _, by omega, by simp, rfl, hid ?_, ar⟩, by simp [intOf]; omega⟩
          rw [app_data, app_data, app_data, HX.out, HE.out, HE2.out, HP.out]
          simp
        · have hy' : ((y.size : Int) == 0) = false := by rw [beq_eq_false_iff_ne]; omega
          have HP : Hid (piece y = y.data.toList) := hid (by simp [piece, hy])
          clear hy
          go_wp2
          refine ⟨⟨k + 1, _, by omega, by simp, rfl, hid ?_, ar⟩, by simp [intOf]; omega⟩
          rw [app_data, app_data, HX.out, HE2.out, HP.out]
          simp
    · obtain rfl : k = len := by omega
      have HM : Hid (x = ⟨(text ss).toArray⟩) := hid (of_data (by rw [HX.out, HL.out, List.take_length]))
      go_wp2
      go_ret
      exact ⟨ret_str HM.out, ar⟩
theorem tab_ext {a b : List ByteArray} (hl : a.length = b.length) (h : ∀ j, j < a.length → at' a j = at' b j) : a = b := by
  apply List.ext_getElem hl
  intro i h1 h2
  have := h i h1
  rwa [at', at', List.getD_eq_getElem?_getD, List.getD_eq_getElem?_getD, List.getElem?_eq_getElem h1, List.getElem?_eq_getElem h2] at this
theorem str_eq {x y : ByteArray} (h : x ≠ y) : (x.toList == y.toList) = false := by
  rw [beq_eq_false_iff_ne, toL, toL]
  intro e
  apply h
  rw [of_data e]
theorem rSame_len (a b : Option Addr) (m n c d : Nat) (h : m ≠ n) (w : World) :
    Calls Tryd.prog 27 #[.slice a m c, .slice b n d] w fun e w' => e = .returned (.bool false) ∧ Below w.heap.size w w' := by
  have h' : ((m : Int) == (n : Int)) = false := by rw [beq_eq_false_iff_ne]; omega
  go_enter Tryd.func27, Tryd.ntmps27
  go_wp2
  go_ret
  exact ⟨rfl, Below.refl _ _⟩
theorem rSame_none (a b : Option Addr) (c d : Nat) (w : World) :
    Calls Tryd.prog 27 #[.slice a 0 c, .slice b 0 d] w fun e w' => e = .returned (.bool true) ∧ Below w.heap.size w w' := by
  go_enter Tryd.func27, Tryd.ntmps27
  go_wp2
  go_loopw [5] (fun i wr => i = .int .i64 0 ∧ wr = w) (fun _ _ => 0)
  case atStart => exact ⟨rfl, rfl⟩
  case round =>
    obtain ⟨rfl, rfl⟩ := hrel
    go_wp2
    go_ret
    exact ⟨rfl, Below.refl _ _⟩
set_option maxRecDepth 100000 in
set_option maxHeartbeats 4000000 in
theorem rSame_some (b off cap b2 off2 cap2 : Nat) (ss tt : List ByteArray) (w : World) (h16 : ss.length ≤ 1000) (hl : ss.length = tt.length)
    (HC : Hid (∀ i, i < ss.length → w.cell? ⟨b, off + i, none⟩ = some (.string (at' ss i)))) (HD : Hid (∀ i, i < tt.length → w.cell? ⟨b2, off2 + i, none⟩ = some (.string (at' tt i)))) :
    Calls Tryd.prog 27 #[.slice (some ⟨b, off, none⟩) ss.length cap, .slice (some ⟨b2, off2, none⟩) tt.length cap2] w fun e w' => e = .returned (.bool (decide (ss = tt))) ∧ Below w.heap.size w w' := by
  obtain ⟨len, hlen⟩ : ∃ len, len = ss.length := ⟨_, rfl⟩
  have HL := hid hlen
  have HL2 := hid (hlen.trans hl)
  rw [← hl, ← hlen]
  rw [← hlen] at h16
  clear hlen hl
  go_enter Tryd.func27, Tryd.ntmps27
  go_wp2
  go_loopw [5] (fun i wr => ∃ k : Nat, k ≤ len ∧ i = .int .i64 k ∧ Below w.heap.size w wr ∧ Hid (∀ j, j < k → at' ss j = at' tt j)) (fun i _ => len - (intOf i).toNat)
  case atStart => exact ⟨0, by omega, rfl, Below.refl _ _, hid (fun j hj => by omega)⟩
  case round =>
    obtain ⟨k, hk, rfl, ar, hall⟩ := hrel
    by_cases hlt : k < len
    · have hc0 := HC.out k (by rw [← HL.out]; exact hlt)
      have hd0 := HD.out k (by rw [← HL2.out]; exact hlt)
      have hcr : wr.cell? ⟨b, off + k, none⟩ = some (.string (at' ss k)) := (ar.cell (p := ⟨b, off + k, none⟩) (block_lt_of_cell hc0)).trans hc0
      have hdr : wr.cell? ⟨b2, off2 + k, none⟩ = some (.string (at' tt k)) := (ar.cell (p := ⟨b2, off2 + k, none⟩) (block_lt_of_cell hd0)).trans hd0
      clear hc0 hd0
      obtain ⟨x, hx⟩ : ∃ x, x = at' ss k := ⟨_, rfl⟩
      obtain ⟨y, hy⟩ : ∃ y, y = at' tt k := ⟨_, rfl⟩
      rw [← hx] at hcr
      rw [← hy] at hdr
      have HX := hid hx
      have HY := hid hy
      clear hx hy
      by_cases he : x = y
      · subst he
        go_wp2
        go_region
        go_wp2
        refine ⟨⟨k + 1, by omega, by simp, ar.drew, hid (fun j hj => ?_)⟩, by simp [intOf]; omega⟩
        by_cases hj2 : j < k
        · exact hall.out j hj2
        · obtain rfl : j = k := by omega
          rw [← HX.out, ← HY.out]
      · have he' := str_eq he
        have HN : Hid (decide (ss = tt) = false) := hid (by
          rw [decide_eq_false_iff_not]
          rintro rfl
          exact he (by rw [HX.out, HY.out]))
        clear he
        go_wp2
        go_region
        go_wp2
        go_ret
        exact ⟨ret_bool HN.out.symm, ar.drew⟩
    · obtain rfl : k = len := by omega
      have HN : Hid (decide (ss = tt) = true) := hid (decide_eq_true (tab_ext (HL.out.symm.trans HL2.out) (fun j hj => hall.out j (by rw [HL.out]; exact hj))))
      go_wp2
      go_ret
      exact ⟨ret_bool HN.out.symm, ar⟩
theorem rSame_any (va vb : Value) (ss tt : List ByteArray) (w : World) (ha : IsTab w va ss) (hb : IsTab w vb tt) (hl : ss.length ≤ 1000) :
    Calls Tryd.prog 27 #[va, vb] w fun e w' => e = .returned (.bool (decide (ss = tt))) ∧ Below w.heap.size w w' := by
  by_cases he : ss.length = tt.length
  · by_cases h0 : ss.length = 0
    · obtain ⟨a, c, rfl⟩ := ha.len
      obtain ⟨b, d, rfl⟩ := hb.len
      have e1 : ss = tt := by
        rw [List.eq_nil_of_length_eq_zero h0, List.eq_nil_of_length_eq_zero (he.symm.trans h0)]
      rw [← he, h0, decide_eq_true e1]
      exact rSame_none a b c d w
    · obtain ⟨b, off, cap, rfl, hc⟩ := ha.some (by omega)
      obtain ⟨b2, off2, cap2, rfl, hd⟩ := hb.some (by omega)
      exact rSame_some b off cap b2 off2 cap2 ss tt w hl he (hid hc) (hid hd)
  · obtain ⟨a, c, rfl⟩ := ha.len
    obtain ⟨b, d, rfl⟩ := hb.len
    rw [decide_eq_false (fun e => he (by rw [e]))]
    exact rSame_len a b _ _ c d he w
end Go.Proofs.YtngnjlmpmpdnjaaDoor
