/- the document's functions of layer 8: Whole. Typed by tools/gen08whole.py. -/
import Derived.Test.YtfnnckbdaedlbaaDoorOpRefM
import Derived.Test.YtfnnckbdaedlbaaDoorWdReadOn
set_option linter.unusedVariables false
namespace Go.Proofs.YtfnnckbdaedlbaaDoor
open Go.RowKit Go.Oq Go.Sort Go.Sh
set_option maxHeartbeats 4000000 in
theorem rWhole_none (s : ByteArray) (O : Option Int) (w : World) (hs : s.size ≤ 1000) (h0 : s.size = 0) (h0i : (s.size : Int) = 0) (HN : Hid (O = none)) :
    Calls Tryd.prog 44 #[.string s] w fun e w' => e = .returned (.tuple #[.int .i64 (wnV O), .bool (wnB O)]) ∧ w' = w := by
  go_enter Tryd.func44, Tryd.ntmps44
  go_wp2
  go_ret2
  exact ⟨ret_wn HN.out, rfl⟩
set_option maxHeartbeats 4000000 in
theorem rWhole_m_nil (s : ByteArray) (O : Option Int) (w : World) (hs : s.size ≤ 1000) (h00 : 0 < s.size) (h00i : (0 : Int) < s.size) (t1 : ((s[0].toNat : Int) == 45) = true) (h0 : s.size - 1 = 0) (t0 : (((s.size - 1) : Nat) : Int) = 0) (HN : Hid (O = none)) :
    Calls Tryd.prog 44 #[.string s] w fun e w' => e = .returned (.tuple #[.int .i64 (wnV O), .bool (wnB O)]) ∧ w' = w := by
  go_enter Tryd.func44, Tryd.ntmps44
  go_wp2
  go_ret2
  exact ⟨ret_wn HN.out, rfl⟩
set_option maxHeartbeats 4000000 in
theorem rWhole_m_long (s : ByteArray) (O : Option Int) (w : World) (hs : s.size ≤ 1000) (h00 : 0 < s.size) (h00i : (0 : Int) < s.size) (t1 : ((s[0].toNat : Int) == 45) = true) (t0 : ((((s.size - 1) : Nat) : Int) == 0) = false) (h0 : 0 < s.size - 1) (t9 : (19 : Int) < (((s.size - 1) : Nat) : Int)) (HN : Hid (O = none)) :
    Calls Tryd.prog 44 #[.string s] w fun e w' => e = .returned (.tuple #[.int .i64 (wnV O), .bool (wnB O)]) ∧ w' = w := by
  go_enter Tryd.func44, Tryd.ntmps44
  go_wp2
  go_ret2
  exact ⟨ret_wn HN.out, rfl⟩
set_option maxHeartbeats 4000000 in
theorem rWhole_m_head (s : ByteArray) (O : Option Int) (w : World) (hs : s.size ≤ 1000) (h00 : 0 < s.size) (h00i : (0 : Int) < s.size) (t1 : ((s[0].toNat : Int) == 45) = true) (t0 : ((((s.size - 1) : Nat) : Int) == 0) = false) (h0 : 0 < s.size - 1) (t2 : (0 : Int) < (((s.size - 1) : Nat) : Int)) (t9 : (((s.size - 1) : Nat) : Int) ≤ 19) (t3 : ((((s.extract 1 s.size)[0]'(by simp; omega)).toNat : Int) == 48) = true) (HN : Hid (O = none)) :
    Calls Tryd.prog 44 #[.string s] w fun e w' => e = .returned (.tuple #[.int .i64 (wnV O), .bool (wnB O)]) ∧ w' = w := by
  go_enter Tryd.func44, Tryd.ntmps44
  go_wp2
  go_ret2
  exact ⟨ret_wn HN.out, rfl⟩
set_option maxHeartbeats 4000000 in
theorem rWhole_p_long (s : ByteArray) (O : Option Int) (w : World) (hs : s.size ≤ 1000) (h00 : 0 < s.size) (h00i : (0 : Int) < s.size) (t1 : ((s[0].toNat : Int) == 45) = false) (t0 : ((s.size : Int) == 0) = false) (t9 : (19 : Int) < (s.size : Int)) (HN : Hid (O = none)) :
    Calls Tryd.prog 44 #[.string s] w fun e w' => e = .returned (.tuple #[.int .i64 (wnV O), .bool (wnB O)]) ∧ w' = w := by
  go_enter Tryd.func44, Tryd.ntmps44
  go_wp2
  go_ret2
  exact ⟨ret_wn HN.out, rfl⟩
set_option maxHeartbeats 4000000 in
theorem rWhole_p_head (s : ByteArray) (O : Option Int) (w : World) (hs : s.size ≤ 1000) (h00 : 0 < s.size) (h00i : (0 : Int) < s.size) (t1 : ((s[0].toNat : Int) == 45) = false) (t0 : ((s.size : Int) == 0) = false) (t9 : (s.size : Int) ≤ 19) (t8 : (1 : Int) < (s.size : Int)) (t3 : ((s[0].toNat : Int) == 48) = true) (HN : Hid (O = none)) :
    Calls Tryd.prog 44 #[.string s] w fun e w' => e = .returned (.tuple #[.int .i64 (wnV O), .bool (wnB O)]) ∧ w' = w := by
  go_enter Tryd.func44, Tryd.ntmps44
  go_wp2
  go_ret2
  exact ⟨ret_wn HN.out, rfl⟩
set_option maxRecDepth 100000 in
set_option maxHeartbeats 8000000 in
theorem rWhole_p (s : ByteArray) (O : Option Int) (w : World) (hs : s.size ≤ 1000) (h00 : 0 < s.size) (h00i : (0 : Int) < s.size) (t1 : ((s[0].toNat : Int) == 45) = false) (h0 : 0 < s.size) (t0 : ((s.size : Int) == 0) = false) (t9 : (s.size : Int) ≤ 19) (t3 : ((s[0].toNat : Int) == 48) = false) (HN : Hid (canB false s.toList = false → O = none)) (HY : Hid (canB false s.toList = true → O = some ((Wd.val s.toList : Int)))) (hz : Hid (false = true ∨ 1 < s.size → ∀ h : 0 < s.size, ¬ (s[0]'h).toNat = 48)) :
    Calls Tryd.prog 44 #[.string s] w fun e w' => e = .returned (.tuple #[.int .i64 (wnV O), .bool (wnB O)]) ∧ w' = w := by
  go_enter Tryd.func44, Tryd.ntmps44
  go_wp2
  go_loop [6, 7, 8] (fun n i _ => ∃ k V : Nat, k ≤ s.size ∧ V ≤ 9223372036854775808 ∧ i = .int .i64 k ∧ n = .int .i64 (-(V : Int)) ∧ Hid (V = Wd.val (s.toList.take k) ∧ Wd.dgs (s.toList.take k) = true)) (fun _ i _ => s.size - (intOf i).toNat)
  case atStart => exact ⟨0, 0, by omega, by omega, rfl, rfl, hid ⟨rfl, rfl⟩⟩
  case round =>
    obtain ⟨k, V, hk, hV, rfl, rfl, HK⟩ := hrel
    by_cases hlt : k < s.size
    · have hltD : k < s.size := by omega
      have HS := hid (wstep_val s k hltD)
      have HDS := hid (fun h1 h2 => wstep_dgs s k hltD h1 h2 HK.out.2)
      have HB := hid (fun hn => HN.out (can_bad false hltD hn))
      have HO := hid (fun hv => HN.out (can_over false (d := s) (k := k + 1) hv))
      by_cases hc : 48 ≤ s[k].toNat ∧ s[k].toNat ≤ 57
      · obtain ⟨hc2, hc3⟩ := hc
        have H2 := hid hc2
        have H3 := hid hc3
        have i2 : 48 ≤ (s[k].toNat : Int) := by omega
        have i3 : (s[k].toNat : Int) ≤ 57 := by omega
        have hq0 : Int.tdiv (-9223372036854775808 + ((s[k].toNat : Int) - 48)) 10 = -(((9223372036854775808 - ((s[k].toNat : Int) - 48)) / 10)) := by
          rw [show (-9223372036854775808 + ((s[k].toNat : Int) - 48)) = -(9223372036854775808 - ((s[k].toNat : Int) - 48)) by omega, Int.neg_tdiv, Int.tdiv_eq_ediv_of_nonneg (by omega)]
        have HQ := hid hq0
        have HX : Hid (Wd.val (s.toList.take (k + 1)) = V * 10 + (s[k].toNat - 48)) := hid (by rw [HS.out hc2, HK.out.1])
        clear hc2 hc3 hq0
        by_cases hq : 9223372036854775808 < V * 10 + (s[k].toNat - 48)
        · have hq1 : -(V : Int) < Int.tdiv (-9223372036854775808 + ((s[k].toNat : Int) - 48)) 10 := by rw [HQ.out]; omega
          have HR := hid (HO.out (by rw [HX.out]; omega))
          clear hq
          go_wp2
          go_ret2
          exact ⟨ret_wn HR.out, rfl⟩
        · have hq1 : ¬ -(V : Int) < Int.tdiv (-9223372036854775808 + ((s[k].toNat : Int) - 48)) 10 := by rw [HQ.out]; omega
          have hqi : (V : Int) * 10 + ((s[k].toNat : Int) - 48) ≤ 9223372036854775808 := by omega
          have HH := hid (show V * 10 + (s[k].toNat - 48) ≤ 9223372036854775808 by omega)
          clear hq
          go_wp2
          exact ⟨⟨k + 1, V * 10 + (s[k].toNat - 48), by omega, HH.out, by go_num, by congr 1; have := H2.out; omega, hid ⟨HX.out.symm, HDS.out H2.out H3.out⟩⟩, by simp [intOf]; omega⟩
      · have HNB := hid hc
        clear HS HDS
        by_cases hc2 : (s[k].toNat : Int) < 48
        · clear hc
          go_wp2
          go_ret2
          exact ⟨ret_wn (HB.out HNB.out), rfl⟩
        · have hc3 : 57 < (s[k].toNat : Int) := by omega
          have hc4 : 48 ≤ (s[k].toNat : Int) := by omega
          clear hc hc2
          go_wp2
          go_ret2
          exact ⟨ret_wn (HB.out HNB.out), rfl⟩
    · have HVV : Hid (V = Wd.val s.toList ∧ Wd.dgs s.toList = true) := hid (by
        have h := HK.out
        rwa [take_all' (by omega)] at h)
      have HSZ : Hid (0 < s.size) := hid (by omega)
      clear HK
      by_cases hm : V = 9223372036854775808
      · have HR : Hid (O = none) := hid (HN.out (by
          simp only [canB, Bool.and_eq_false_iff, decide_eq_false_iff_not]
          right
          rw [← HVV.out.1, hm]
          simp))
        have hb : (-(V : Int) == -9223372036854775808) = true := by rw [hm]; rfl
        clear hm
        go_wp2
        go_ret2
        exact ⟨ret_wn HR.out, rfl⟩
      · have HR : Hid (O = some (V : Int)) := hid (by
          rw [HVV.out.1]
          exact HY.out (can_yes false HSZ.out (fun h => hz.out (by simpa using h) HSZ.out) HVV.out.2 (by rw [← HVV.out.1]; simp; omega)))
        have hb : (-(V : Int) == -9223372036854775808) = false := by rw [beq_eq_false_iff_ne]; omega
        have hV2 : (V : Int) ≤ 9223372036854775807 := by omega
        clear hm
        go_wp2
        go_ret2
        exact ⟨ret_wy HR.out (by omega), rfl⟩
set_option maxRecDepth 100000 in
set_option maxHeartbeats 8000000 in
theorem rWhole_1 (s : ByteArray) (O : Option Int) (w : World) (hs : s.size ≤ 1000) (h00 : 0 < s.size) (h00i : (0 : Int) < s.size) (t1 : ((s[0].toNat : Int) == 45) = false) (h0 : s.size = 1) (t0 : ((s.size : Int) == 0) = false) (t9 : (s.size : Int) ≤ 1) (t3 : ((s[0].toNat : Int) == 48) = true) (HN : Hid (canB false s.toList = false → O = none)) (HY : Hid (canB false s.toList = true → O = some ((Wd.val s.toList : Int)))) (hz : Hid (false = true ∨ 1 < s.size → ∀ h : 0 < s.size, ¬ (s[0]'h).toNat = 48)) :
    Calls Tryd.prog 44 #[.string s] w fun e w' => e = .returned (.tuple #[.int .i64 (wnV O), .bool (wnB O)]) ∧ w' = w := by
  go_enter Tryd.func44, Tryd.ntmps44
  go_wp2
  go_loop [6, 7, 8] (fun n i _ => ∃ k V : Nat, k ≤ s.size ∧ V ≤ 9223372036854775808 ∧ i = .int .i64 k ∧ n = .int .i64 (-(V : Int)) ∧ Hid (V = Wd.val (s.toList.take k) ∧ Wd.dgs (s.toList.take k) = true)) (fun _ i _ => s.size - (intOf i).toNat)
  case atStart => exact ⟨0, 0, by omega, by omega, rfl, rfl, hid ⟨rfl, rfl⟩⟩
  case round =>
    obtain ⟨k, V, hk, hV, rfl, rfl, HK⟩ := hrel
    by_cases hlt : k < s.size
    · have hltD : k < s.size := by omega
      have HS := hid (wstep_val s k hltD)
      have HDS := hid (fun h1 h2 => wstep_dgs s k hltD h1 h2 HK.out.2)
      have HB := hid (fun hn => HN.out (can_bad false hltD hn))
      have HO := hid (fun hv => HN.out (can_over false (d := s) (k := k + 1) hv))
      by_cases hc : 48 ≤ s[k].toNat ∧ s[k].toNat ≤ 57
      · obtain ⟨hc2, hc3⟩ := hc
        have H2 := hid hc2
        have H3 := hid hc3
        have i2 : 48 ≤ (s[k].toNat : Int) := by omega
        have i3 : (s[k].toNat : Int) ≤ 57 := by omega
        have hq0 : Int.tdiv (-9223372036854775808 + ((s[k].toNat : Int) - 48)) 10 = -(((9223372036854775808 - ((s[k].toNat : Int) - 48)) / 10)) := by
          rw [show (-9223372036854775808 + ((s[k].toNat : Int) - 48)) = -(9223372036854775808 - ((s[k].toNat : Int) - 48)) by omega, Int.neg_tdiv, Int.tdiv_eq_ediv_of_nonneg (by omega)]
        have HQ := hid hq0
        have HX : Hid (Wd.val (s.toList.take (k + 1)) = V * 10 + (s[k].toNat - 48)) := hid (by rw [HS.out hc2, HK.out.1])
        clear hc2 hc3 hq0
        by_cases hq : 9223372036854775808 < V * 10 + (s[k].toNat - 48)
        · have hq1 : -(V : Int) < Int.tdiv (-9223372036854775808 + ((s[k].toNat : Int) - 48)) 10 := by rw [HQ.out]; omega
          have HR := hid (HO.out (by rw [HX.out]; omega))
          clear hq
          go_wp2
          go_ret2
          exact ⟨ret_wn HR.out, rfl⟩
        · have hq1 : ¬ -(V : Int) < Int.tdiv (-9223372036854775808 + ((s[k].toNat : Int) - 48)) 10 := by rw [HQ.out]; omega
          have hqi : (V : Int) * 10 + ((s[k].toNat : Int) - 48) ≤ 9223372036854775808 := by omega
          have HH := hid (show V * 10 + (s[k].toNat - 48) ≤ 9223372036854775808 by omega)
          clear hq
          go_wp2
          exact ⟨⟨k + 1, V * 10 + (s[k].toNat - 48), by omega, HH.out, by go_num, by congr 1; have := H2.out; omega, hid ⟨HX.out.symm, HDS.out H2.out H3.out⟩⟩, by simp [intOf]; omega⟩
      · have HNB := hid hc
        clear HS HDS
        by_cases hc2 : (s[k].toNat : Int) < 48
        · clear hc
          go_wp2
          go_ret2
          exact ⟨ret_wn (HB.out HNB.out), rfl⟩
        · have hc3 : 57 < (s[k].toNat : Int) := by omega
          have hc4 : 48 ≤ (s[k].toNat : Int) := by omega
          clear hc hc2
          go_wp2
          go_ret2
          exact ⟨ret_wn (HB.out HNB.out), rfl⟩
    · have HVV : Hid (V = Wd.val s.toList ∧ Wd.dgs s.toList = true) := hid (by
        have h := HK.out
        rwa [take_all' (by omega)] at h)
      have HSZ : Hid (0 < s.size) := hid (by omega)
      clear HK
      by_cases hm : V = 9223372036854775808
      · have HR : Hid (O = none) := hid (HN.out (by
          simp only [canB, Bool.and_eq_false_iff, decide_eq_false_iff_not]
          right
          rw [← HVV.out.1, hm]
          simp))
        have hb : (-(V : Int) == -9223372036854775808) = true := by rw [hm]; rfl
        clear hm
        go_wp2
        go_ret2
        exact ⟨ret_wn HR.out, rfl⟩
      · have HR : Hid (O = some (V : Int)) := hid (by
          rw [HVV.out.1]
          exact HY.out (can_yes false HSZ.out (fun h => hz.out (by simpa using h) HSZ.out) HVV.out.2 (by rw [← HVV.out.1]; simp; omega)))
        have hb : (-(V : Int) == -9223372036854775808) = false := by rw [beq_eq_false_iff_ne]; omega
        have hV2 : (V : Int) ≤ 9223372036854775807 := by omega
        clear hm
        go_wp2
        go_ret2
        exact ⟨ret_wy HR.out (by omega), rfl⟩
/-- The document's way to a text's number. -/
theorem rWhole_any (s : ByteArray) (w : World) (hs : s.size ≤ 1000) : Calls Tryd.prog 44 #[.string s] w fun e w' => e = .returned (.tuple #[.int .i64 (wnV (whl s.data.toList)), .bool (wnB (whl s.data.toList))]) ∧ w' = w := by
  rw [← Wd.toL]
  by_cases h0 : s.size = 0
  · exact rWhole_none s _ w hs h0 (by omega) (hid (by
      refine whl_not (can_nil false h0) ?_
      have hn : s.toList = [] := List.eq_nil_of_length_eq_zero (by rw [Wd.toL_length]; exact h0)
      rw [hn]
      simp))
  · have h00 : 0 < s.size := by omega
    by_cases h45 : s[0].toNat = 45
    · have t1 : ((s[0].toNat : Int) == 45) = true := by rw [h45]; rfl
      have hd : s.toList = 45 :: (s.extract 1 s.size).toList := by
        rw [ext_tail]
        have h := Wd.head0 s h00
        cases hl : s.toList with
        | nil => rw [hl] at h; cases h
        | cons c r =>
          rw [hl] at h
          simp only [List.head?_cons, Option.some.injEq] at h
          rw [h, show s[0] = 45 from UInt8.toNat_inj.1 h45]; rfl
      have HN : canB true (s.extract 1 s.size).toList = false → whl s.toList = none := fun h => by rw [hd]; exact whl_not_less h
      have HY : canB true (s.extract 1 s.size).toList = true → whl s.toList = some (-(Wd.val (s.extract 1 s.size).toList : Int)) := fun h => by rw [hd]; exact whl_can_less h
      have hsz : (s.extract 1 s.size).size = s.size - 1 := by simp
      generalize whl s.toList = O at HN HY ⊢
      clear hd
      by_cases h1 : s.size - 1 = 0
      · exact rWhole_m_nil s O w hs h00 (by omega) t1 h1 (by omega) (hid (HN (can_nil true (by omega))))
      · have t0 : ((((s.size - 1) : Nat) : Int) == 0) = false := by rw [beq_eq_false_iff_ne]; omega
        by_cases h9 : 19 < s.size - 1
        · exact rWhole_m_long s O w hs h00 (by omega) t1 t0 (by omega) (by omega) (hid (HN (can_long true (by rw [Wd.toL_length]; omega))))
        · by_cases h48 : ((s.extract 1 s.size)[0]'(by omega)).toNat = 48
          · exact rWhole_m_head s O w hs h00 (by omega) t1 t0 (by omega) (by omega) (by omega) (by rw [h48]; rfl) (hid (HN (can_head true (by omega) h48 (.inl rfl))))
          · exact rWhole_m s O w hs h00 (by omega) t1 (by omega) t0 (by omega) (by omega) (by rw [beq_eq_false_iff_ne]; omega) (hid HN) (hid HY) (hid (fun _ _ => h48))
    · have t1 : ((s[0].toNat : Int) == 45) = false := by rw [beq_eq_false_iff_ne]; omega
      have t0 : ((s.size : Int) == 0) = false := by rw [beq_eq_false_iff_ne]; omega
      have hh : ¬ s.toList.head? = some 45 := by
        rw [Wd.head0 s h00]
        intro h
        simp only [Option.some.injEq] at h
        rw [h] at h45
        exact h45 rfl
      have HN : canB false s.toList = false → whl s.toList = none := fun h => whl_not h hh
      have HY : canB false s.toList = true → whl s.toList = some (Wd.val s.toList : Int) := fun h => whl_can h
      generalize whl s.toList = O at HN HY ⊢
      by_cases h9 : 19 < s.size
      · exact rWhole_p_long s O w hs h00 (by omega) t1 t0 (by omega) (hid (HN (can_long false (by rw [Wd.toL_length]; omega))))
      · by_cases h48 : s[0].toNat = 48
        · by_cases h1 : 1 < s.size
          · exact rWhole_p_head s O w hs h00 (by omega) t1 t0 (by omega) (by omega) (by rw [h48]; rfl) (hid (HN (can_head false h00 h48 (.inr h1))))
          · exact rWhole_1 s O w hs h00 (by omega) t1 (by omega) t0 (by omega) (by rw [h48]; rfl) (hid HN) (hid HY) (hid (fun h => by rcases h with h | h <;> first | cases h | omega))
        · exact rWhole_p s O w hs h00 (by omega) t1 h00 t0 (by omega) (by rw [beq_eq_false_iff_ne]; omega) (hid HN) (hid HY) (hid (fun _ _ => h48))
end Go.Proofs.YtfnnckbdaedlbaaDoor
