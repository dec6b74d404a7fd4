/- The document's way to read a number and a word (lapidaryref01's number, Read). -/
import Derived.Test.YtlbhkaokpfljmaaDoorWdRead
import Derived.Test.YtlbhkaokpfljmaaDoorWdNum
namespace Go.Wd
theorem nmD_bad {less : Bool} {d : List UInt8} (h : nmBad less d = true) : nmD less d = (0, 2) := by unfold nmD; rw [if_pos h]
theorem nmD_over {less : Bool} {d : List UInt8} (h : nmBad less d = false) (hl : 18 < d.length) : nmD less d = (0, 4) := by
  unfold nmD; rw [if_neg (by rw [h]; decide), if_pos hl]
theorem nmD_ok {less : Bool} {d : List UInt8} (h : nmBad less d = false) (hl : ¬ 18 < d.length) : nmD less d = (if less = true then -(val d : Int) else val d, 0) := by
  unfold nmD; rw [if_neg (by rw [h]; decide), if_neg hl]
theorem nmBad_dgs {less : Bool} {d : List UInt8} (h : dgs d = false) : nmBad less d = true := by unfold nmBad; rw [h]; simp
theorem nmBad_nil {less : Bool} {d : List UInt8} (h : d = []) : nmBad less d = true := by subst h; rfl
theorem nmBad_head {d : ByteArray} (less : Bool) (h0 : 0 < d.size) (h : d[0].toNat = 48) (hl : less = true ∨ 1 < d.size) : nmBad less d.toList = true := by
  have e : (d.toList.head? == some 48) = true := by
    rw [head0 d h0, show d[0] = 48 from UInt8.toNat_inj.1 h]; rfl
  unfold nmBad
  rw [e, toL_length]
  rcases hl with hl | hl
  · rw [hl]; simp
  · simp [hl]
theorem nmBad_good {d : ByteArray} (less : Bool) (h0 : 0 < d.size) (h : ¬ d[0].toNat = 48) (hd : dgs d.toList = true) : nmBad less d.toList = false := by
  have e : (d.toList.head? == some 48) = false := by
    rw [head0 d h0]
    simp
    intro e
    rw [e] at h
    exact h rfl
  unfold nmBad
  rw [e, hd, noEmpty d h0]; rfl
theorem nmBad_zero {d : ByteArray} (h0 : d.size = 1) (h : d[0].toNat = 48) : nmBad false d.toList = false := by
  have hl : d.toList = [48] := by
    have e := head0 d (by omega)
    rw [show d[0] = 48 from UInt8.toNat_inj.1 h] at e
    have hn := toL_length d
    rw [h0] at hn
    match hd : d.toList, hn with
    | [a], _ => rw [hd] at e; simp at e; rw [e]
  rw [hl]; rfl
theorem val_step (s : ByteArray) (k : Nat) (h : k < s.size) (h1 : 48 ≤ s[k].toNat) : (10 : Int) * (val (s.toList.take k) : Int) + ((s[k].toNat : Int) - 48) = (val (s.toList.take (k + 1)) : Int) := by
  rw [take_snoc s k h, val_snoc]; omega
theorem val_bd (s : ByteArray) (k : Nat) (hk : k ≤ 17) (hd : dgs (s.toList.take k) = true) : val (s.toList.take k) ≤ 100000000000000000 := by
  have h := val_lt _ hd
  have hl : (s.toList.take k).length ≤ k := List.length_take_le _ _
  have : 10 ^ (s.toList.take k).length ≤ 10 ^ 17 := Nat.pow_le_pow_right (by decide) (by omega)
  have e : 10 ^ 17 = 100000000000000000 := by decide
  omega
theorem dgs_step' (s : ByteArray) (k : Nat) (h : k < s.size) (h1 : 48 ≤ s[k].toNat) (h2 : s[k].toNat ≤ 57) (hd : dgs (s.toList.take k) = true) : dgs (s.toList.take (k + 1)) = true :=
  dgs_step s k _ h rfl h1 h2 hd
end Go.Wd
namespace Go.Proofs.YtlbhkaokpfljmaaDoor
open Go.RowKit
set_option linter.unusedVariables false
theorem ret_ii {p : Int × Int} {a c : Int} (h : p = (a, c)) : Ending.returned (.tuple #[.int .i64 a, .int .i64 c]) = .returned (.tuple #[.int .i64 p.1, .int .i64 p.2]) := by rw [h]
theorem rnumber_p_nil (s : ByteArray) (w : World) (hs : s.size ≤ maxLen) (h0 : s.size = 0) :
    Calls Tryd.prog 40 #[.string s] w fun e w' => e = .returned (.tuple #[.int .i64 (Wd.nmD false s.toList).1, .int .i64 (Wd.nmD false s.toList).2]) ∧ w' = w := by
  have HR := hid (Wd.nmD_bad (less := false) (Wd.nmBad_nil (List.eq_nil_of_length_eq_zero (show s.toList.length = 0 by rw [Wd.toL_length]; exact h0))))
  have t0 : ((s.size : Nat) : Int) = 0 := by omega
  have t2 : ¬ (0 : Int) < s.size := by omega
  unfold maxLen at hs
  go_enter Tryd.func40, Tryd.ntmps40
  go_wp2
  go_ret2
  exact ⟨ret_ii HR.out, rfl⟩
theorem rnumber_p_nought (s : ByteArray) (w : World) (hs : s.size ≤ maxLen) (h0 : 0 < s.size) (t1 : ((s[0].toNat : Int) == 45) = false) (h1 : 1 < s.size) (hc : s[0].toNat = 48) :
    Calls Tryd.prog 40 #[.string s] w fun e w' => e = .returned (.tuple #[.int .i64 (Wd.nmD false s.toList).1, .int .i64 (Wd.nmD false s.toList).2]) ∧ w' = w := by
  have HR := hid (Wd.nmD_bad (Wd.nmBad_head (d := s) false (by omega) hc (.inr h1)))
  have t0 : (((s.size : Nat) : Int) == 0) = false := by rw [beq_eq_false_iff_ne]; omega
  have t2 : (0 : Int) < ((s.size : Nat) : Int) := by omega
  have t3 : (((s[0]'(by omega)).toNat : Int) == 48) = true := by rw [hc]; rfl
  have t4 : decide ((1 : Int) < (s.size : Int)) = true := by simp; omega
  clear hc
  unfold maxLen at hs
  go_enter Tryd.func40, Tryd.ntmps40
  go_wp2
  go_ret2
  exact ⟨ret_ii HR.out, rfl⟩
set_option maxHeartbeats 4000000 in
theorem rnumber_p_loop (s : ByteArray) (w : World) (hs : s.size ≤ maxLen) (h0 : 0 < s.size) (t1 : ((s[0].toNat : Int) == 45) = false) (t0 : (((s.size : Nat) : Int) == 0) = false) (t2 : (0 : Int) < ((s.size : Nat) : Int)) (t3 : (((s[0]'(by omega)).toNat : Int) == 48) = false) (hov : decide ((18 : Int) < ((s.size : Nat) : Int)) = false) (hok : Hid (Wd.dgs s.toList = true → Wd.nmBad false s.toList = false)) :
    Calls Tryd.prog 40 #[.string s] w fun e w' => e = .returned (.tuple #[.int .i64 (Wd.nmD false s.toList).1, .int .i64 (Wd.nmD false s.toList).2]) ∧ w' = w := by
  unfold maxLen at hs
  go_enter Tryd.func40, Tryd.ntmps40
  go_wp2
  go_loop [6, 8] (fun n i => ∃ k : Nat, k ≤ s.size ∧ i = .int .i64 k ∧ n = .int .i64 (Wd.val (s.toList.take k)) ∧ Wd.dgs (s.toList.take k) = true) (fun _ i => s.size - (intOf i).toNat)
  case atStart => exact ⟨0, by omega, rfl, rfl, rfl⟩
  case round =>
    obtain ⟨k, hk, rfl, rfl, hd⟩ := hrel
    by_cases hlt : k < s.size
    · have hltD : k < s.size := by omega
      have hV := Wd.val_bd s k (by simp at hov; omega) hd
      have HS := hid (Wd.val_step s k hltD)
      have HV := hid (show Wd.val (s.toList.take k) = Wd.val (s.toList.take k) from rfl)
      have HDS := hid (fun h1 h2 => Wd.dgs_step' s k hltD h1 h2 hd)
      have HB := hid (fun hn => Wd.nmD_bad (less := false) (Wd.nmBad_dgs (Wd.dgs_false s k hltD hn)))
      clear hd
      by_cases hc : 48 ≤ s[k].toNat ∧ s[k].toNat ≤ 57
      · obtain ⟨hc2, hc3⟩ := hc
        have H2 := hid hc2
        have H3 := hid hc3
        have i2 : 48 ≤ (s[k].toNat : Int) := by omega
        have i3 : (s[k].toNat : Int) ≤ 57 := by omega
        clear hc2 hc3
        generalize hVV : Wd.val (s.toList.take k) = V at hV HS ⊢
        clear HV hVV
        go_wp2
        refine ⟨⟨k + 1, by omega, by go_num, by rw [HS.out H2.out], HDS.out H2.out H3.out⟩, by simp [intOf]; omega⟩
      · have HN := hid hc
        by_cases hc2 : (s[k].toNat : Int) < 48
        · clear hc
          go_wp2
          go_ret2
          exact ⟨ret_ii (HB.out HN.out), rfl⟩
        · have hc3 : 57 < (s[k].toNat : Int) := by omega
          clear hc
          go_wp2
          go_ret2
          exact ⟨ret_ii (HB.out HN.out), rfl⟩
    · have hds : Wd.dgs s.toList = true := by rwa [List.take_of_length_le (by rw [Wd.toL_length]; omega)] at hd
      have HR := hid (Wd.nmD_ok (hok.out hds) (by rw [Wd.toL_length]; simp at hov; omega))
      have hV : Wd.val (s.toList.take k) < 1000000000000000000 := by
        have h := Wd.val_lt _ hd
        have hl : (s.toList.take k).length ≤ k := List.length_take_le _ _
        have : 10 ^ (s.toList.take k).length ≤ 10 ^ 18 := Nat.pow_le_pow_right (by decide) (by simp at hov; omega)
        have e : 10 ^ 18 = 1000000000000000000 := by decide
        omega
      have HV := hid (show Wd.val (s.toList.take k) = Wd.val s.toList by rw [List.take_of_length_le (by rw [Wd.toL_length]; omega)])
      generalize hVV : Wd.val (s.toList.take k) = V at hV HV ⊢
      clear hVV hd hds
      go_wp2
      go_ret2
      exact ⟨ret_ii (HR.out.trans (by rw [HV.out]; rfl)), rfl⟩
set_option maxHeartbeats 4000000 in
theorem rnumber_p_loop0 (s : ByteArray) (w : World) (hs : s.size ≤ maxLen) (h0 : 0 < s.size) (t1 : ((s[0].toNat : Int) == 45) = false) (t0 : (((s.size : Nat) : Int) == 0) = false) (t2 : (0 : Int) < ((s.size : Nat) : Int)) (t3 : (((s[0]'(by omega)).toNat : Int) == 48) = true) (t4 : decide ((1 : Int) < (s.size : Int)) = false) (hov : decide ((18 : Int) < ((s.size : Nat) : Int)) = false) (hok : Hid (Wd.dgs s.toList = true → Wd.nmBad false s.toList = false)) :
    Calls Tryd.prog 40 #[.string s] w fun e w' => e = .returned (.tuple #[.int .i64 (Wd.nmD false s.toList).1, .int .i64 (Wd.nmD false s.toList).2]) ∧ w' = w := by
  unfold maxLen at hs
  go_enter Tryd.func40, Tryd.ntmps40
  go_wp2
  go_loop [6, 8] (fun n i => ∃ k : Nat, k ≤ s.size ∧ i = .int .i64 k ∧ n = .int .i64 (Wd.val (s.toList.take k)) ∧ Wd.dgs (s.toList.take k) = true) (fun _ i => s.size - (intOf i).toNat)
  case atStart => exact ⟨0, by omega, rfl, rfl, rfl⟩
  case round =>
    obtain ⟨k, hk, rfl, rfl, hd⟩ := hrel
    by_cases hlt : k < s.size
    · have hltD : k < s.size := by omega
      have hV := Wd.val_bd s k (by simp at hov; omega) hd
      have HS := hid (Wd.val_step s k hltD)
      have HV := hid (show Wd.val (s.toList.take k) = Wd.val (s.toList.take k) from rfl)
      have HDS := hid (fun h1 h2 => Wd.dgs_step' s k hltD h1 h2 hd)
      have HB := hid (fun hn => Wd.nmD_bad (less := false) (Wd.nmBad_dgs (Wd.dgs_false s k hltD hn)))
      clear hd
      by_cases hc : 48 ≤ s[k].toNat ∧ s[k].toNat ≤ 57
      · obtain ⟨hc2, hc3⟩ := hc
        have H2 := hid hc2
        have H3 := hid hc3
        have i2 : 48 ≤ (s[k].toNat : Int) := by omega
        have i3 : (s[k].toNat : Int) ≤ 57 := by omega
        clear hc2 hc3
        generalize hVV : Wd.val (s.toList.take k) = V at hV HS ⊢
        clear HV hVV
        go_wp2
        refine ⟨⟨k + 1, by omega, by go_num, by rw [HS.out H2.out], HDS.out H2.out H3.out⟩, by simp [intOf]; omega⟩
      · have HN := hid hc
        by_cases hc2 : (s[k].toNat : Int) < 48
        · clear hc
          go_wp2
          go_ret2
          exact ⟨ret_ii (HB.out HN.out), rfl⟩
        · have hc3 : 57 < (s[k].toNat : Int) := by omega
          clear hc
          go_wp2
          go_ret2
          exact ⟨ret_ii (HB.out HN.out), rfl⟩
    · have hds : Wd.dgs s.toList = true := by rwa [List.take_of_length_le (by rw [Wd.toL_length]; omega)] at hd
      have HR := hid (Wd.nmD_ok (hok.out hds) (by rw [Wd.toL_length]; simp at hov; omega))
      have hV : Wd.val (s.toList.take k) < 1000000000000000000 := by
        have h := Wd.val_lt _ hd
        have hl : (s.toList.take k).length ≤ k := List.length_take_le _ _
        have : 10 ^ (s.toList.take k).length ≤ 10 ^ 18 := Nat.pow_le_pow_right (by decide) (by simp at hov; omega)
        have e : 10 ^ 18 = 1000000000000000000 := by decide
        omega
      have HV := hid (show Wd.val (s.toList.take k) = Wd.val s.toList by rw [List.take_of_length_le (by rw [Wd.toL_length]; omega)])
      generalize hVV : Wd.val (s.toList.take k) = V at hV HV ⊢
      clear hVV hd hds
      go_wp2
      go_ret2
      exact ⟨ret_ii (HR.out.trans (by rw [HV.out]; rfl)), rfl⟩
set_option maxHeartbeats 4000000 in
theorem rnumber_p_over (s : ByteArray) (w : World) (hs : s.size ≤ maxLen) (h0 : 0 < s.size) (t1 : ((s[0].toNat : Int) == 45) = false) (t0 : (((s.size : Nat) : Int) == 0) = false) (t2 : (0 : Int) < ((s.size : Nat) : Int)) (t3 : (((s[0]'(by omega)).toNat : Int) == 48) = false) (hov : decide ((18 : Int) < ((s.size : Nat) : Int)) = true) (hok : Hid (Wd.dgs s.toList = true → Wd.nmBad false s.toList = false)) :
    Calls Tryd.prog 40 #[.string s] w fun e w' => e = .returned (.tuple #[.int .i64 (Wd.nmD false s.toList).1, .int .i64 (Wd.nmD false s.toList).2]) ∧ w' = w := by
  unfold maxLen at hs
  go_enter Tryd.func40, Tryd.ntmps40
  go_wp2
  go_loop [6, 8] (fun n i => ∃ k : Nat, k ≤ s.size ∧ i = .int .i64 k ∧ n = .int .i64 0 ∧ Wd.dgs (s.toList.take k) = true) (fun _ i => s.size - (intOf i).toNat)
  case atStart => exact ⟨0, by omega, rfl, rfl, rfl⟩
  case round =>
    obtain ⟨k, hk, rfl, rfl, hd⟩ := hrel
    by_cases hlt : k < s.size
    · have hltD : k < s.size := by omega
      have HDS := hid (fun h1 h2 => Wd.dgs_step' s k hltD h1 h2 hd)
      have HB := hid (fun hn => Wd.nmD_bad (less := false) (Wd.nmBad_dgs (Wd.dgs_false s k hltD hn)))
      clear hd
      by_cases hc : 48 ≤ s[k].toNat ∧ s[k].toNat ≤ 57
      · obtain ⟨hc2, hc3⟩ := hc
        have H2 := hid hc2
        have H3 := hid hc3
        have i2 : 48 ≤ (s[k].toNat : Int) := by omega
        have i3 : (s[k].toNat : Int) ≤ 57 := by omega
        clear hc2 hc3
        go_wp2
        refine ⟨⟨k + 1, by omega, by go_num, rfl, HDS.out H2.out H3.out⟩, by simp [intOf]; omega⟩
      · have HN := hid hc
        by_cases hc2 : (s[k].toNat : Int) < 48
        · clear hc
          go_wp2
          go_ret2
          exact ⟨ret_ii (HB.out HN.out), rfl⟩
        · have hc3 : 57 < (s[k].toNat : Int) := by omega
          clear hc
          go_wp2
          go_ret2
          exact ⟨ret_ii (HB.out HN.out), rfl⟩
    · have hds : Wd.dgs s.toList = true := by rwa [List.take_of_length_le (by rw [Wd.toL_length]; omega)] at hd
      have HR := hid (Wd.nmD_over (hok.out hds) (by rw [Wd.toL_length]; simp at hov; omega))
      clear hd hds
      go_wp2
      go_ret2
      exact ⟨ret_ii HR.out, rfl⟩
theorem rnumber_m_nil (s : ByteArray) (w : World) (hs : s.size ≤ maxLen) (h00 : 0 < s.size) (h00i : (0 : Int) < s.size) (t1 : ((s[0].toNat : Int) == 45) = true) (h0 : (s.size - 1) = 0) :
    Calls Tryd.prog 40 #[.string s] w fun e w' => e = .returned (.tuple #[.int .i64 (Wd.nmD true (s.extract 1 s.size).toList).1, .int .i64 (Wd.nmD true (s.extract 1 s.size).toList).2]) ∧ w' = w := by
  have HR := hid (Wd.nmD_bad (less := true) (Wd.nmBad_nil (List.eq_nil_of_length_eq_zero (show (s.extract 1 s.size).toList.length = 0 by rw [Wd.toL_length]; simp; omega))))
  have t0 : (((s.size - 1) : Nat) : Int) = 0 := by omega
  unfold maxLen at hs
  go_enter Tryd.func40, Tryd.ntmps40
  go_wp2
  go_ret2
  exact ⟨ret_ii HR.out, rfl⟩
theorem rnumber_m_nought (s : ByteArray) (w : World) (hs : s.size ≤ maxLen) (h00 : 0 < s.size) (h00i : (0 : Int) < s.size) (t1 : ((s[0].toNat : Int) == 45) = true) (h0 : 0 < (s.size - 1)) (hc : ((s.extract 1 s.size)[0]'(by simp; omega)).toNat = 48) :
    Calls Tryd.prog 40 #[.string s] w fun e w' => e = .returned (.tuple #[.int .i64 (Wd.nmD true (s.extract 1 s.size).toList).1, .int .i64 (Wd.nmD true (s.extract 1 s.size).toList).2]) ∧ w' = w := by
  have HR := hid (Wd.nmD_bad (Wd.nmBad_head (d := (s.extract 1 s.size)) true (by simp; omega) hc (by simp)))
  have t0 : ((((s.size - 1) : Nat) : Int) == 0) = false := by rw [beq_eq_false_iff_ne]; omega
  have t2 : (0 : Int) < (((s.size - 1) : Nat) : Int) := by omega
  have t3 : ((((s.extract 1 s.size)[0]'(by simp; omega)).toNat : Int) == 48) = true := by rw [hc]; rfl
  clear hc
  unfold maxLen at hs
  go_enter Tryd.func40, Tryd.ntmps40
  go_wp2
  go_ret2
  exact ⟨ret_ii HR.out, rfl⟩
set_option maxHeartbeats 4000000 in
theorem rnumber_m_loop (s : ByteArray) (w : World) (hs : s.size ≤ maxLen) (h00 : 0 < s.size) (h00i : (0 : Int) < s.size) (t1 : ((s[0].toNat : Int) == 45) = true) (h0 : 0 < (s.size - 1)) (t0 : ((((s.size - 1) : Nat) : Int) == 0) = false) (t2 : (0 : Int) < (((s.size - 1) : Nat) : Int)) (t3 : ((((s.extract 1 s.size)[0]'(by simp; omega)).toNat : Int) == 48) = false) (hov : decide ((18 : Int) < (((s.size - 1) : Nat) : Int)) = false) (hok : Hid (Wd.dgs (s.extract 1 s.size).toList = true → Wd.nmBad true (s.extract 1 s.size).toList = false)) :
    Calls Tryd.prog 40 #[.string s] w fun e w' => e = .returned (.tuple #[.int .i64 (Wd.nmD true (s.extract 1 s.size).toList).1, .int .i64 (Wd.nmD true (s.extract 1 s.size).toList).2]) ∧ w' = w := by
  unfold maxLen at hs
  go_enter Tryd.func40, Tryd.ntmps40
  go_wp2
  go_loop [6, 8] (fun n i => ∃ k : Nat, k ≤ (s.size - 1) ∧ i = .int .i64 k ∧ n = .int .i64 (Wd.val ((s.extract 1 s.size).toList.take k)) ∧ Wd.dgs ((s.extract 1 s.size).toList.take k) = true) (fun _ i => (s.size - 1) - (intOf i).toNat)
  case atStart => exact ⟨0, by omega, rfl, rfl, rfl⟩
  case round =>
    obtain ⟨k, hk, rfl, rfl, hd⟩ := hrel
    by_cases hlt : k < (s.size - 1)
    · have hltD : k < (s.extract 1 s.size).size := by simp; omega
      have hV := Wd.val_bd (s.extract 1 s.size) k (by simp at hov; omega) hd
      have HS := hid (Wd.val_step (s.extract 1 s.size) k hltD)
      have HV := hid (show Wd.val ((s.extract 1 s.size).toList.take k) = Wd.val ((s.extract 1 s.size).toList.take k) from rfl)
      have HDS := hid (fun h1 h2 => Wd.dgs_step' (s.extract 1 s.size) k hltD h1 h2 hd)
      have HB := hid (fun hn => Wd.nmD_bad (less := true) (Wd.nmBad_dgs (Wd.dgs_false (s.extract 1 s.size) k hltD hn)))
      clear hd
      by_cases hc : 48 ≤ (s.extract 1 s.size)[k].toNat ∧ (s.extract 1 s.size)[k].toNat ≤ 57
      · obtain ⟨hc2, hc3⟩ := hc
        have H2 := hid hc2
        have H3 := hid hc3
        have i2 : 48 ≤ ((s.extract 1 s.size)[k].toNat : Int) := by omega
        have i3 : ((s.extract 1 s.size)[k].toNat : Int) ≤ 57 := by omega
        clear hc2 hc3
        generalize hVV : Wd.val ((s.extract 1 s.size).toList.take k) = V at hV HS ⊢
        clear HV hVV
        go_wp2
        refine ⟨⟨k + 1, by omega, by go_num, by rw [HS.out H2.out], HDS.out H2.out H3.out⟩, by simp [intOf]; omega⟩
      · have HN := hid hc
        by_cases hc2 : ((s.extract 1 s.size)[k].toNat : Int) < 48
        · clear hc
          go_wp2
          go_ret2
          exact ⟨ret_ii (HB.out HN.out), rfl⟩
        · have hc3 : 57 < ((s.extract 1 s.size)[k].toNat : Int) := by omega
          clear hc
          go_wp2
          go_ret2
          exact ⟨ret_ii (HB.out HN.out), rfl⟩
    · have hds : Wd.dgs (s.extract 1 s.size).toList = true := by rwa [List.take_of_length_le (by rw [Wd.toL_length]; simp; omega)] at hd
      have HR := hid (Wd.nmD_ok (hok.out hds) (by rw [Wd.toL_length]; simp at hov; simp; omega))
      have hV : Wd.val ((s.extract 1 s.size).toList.take k) < 1000000000000000000 := by
        have h := Wd.val_lt _ hd
        have hl : ((s.extract 1 s.size).toList.take k).length ≤ k := List.length_take_le _ _
        have : 10 ^ ((s.extract 1 s.size).toList.take k).length ≤ 10 ^ 18 := Nat.pow_le_pow_right (by decide) (by simp at hov; omega)
        have e : 10 ^ 18 = 1000000000000000000 := by decide
        omega
      have HV := hid (show Wd.val ((s.extract 1 s.size).toList.take k) = Wd.val (s.extract 1 s.size).toList by rw [List.take_of_length_le (by rw [Wd.toL_length]; simp; omega)])
      generalize hVV : Wd.val ((s.extract 1 s.size).toList.take k) = V at hV HV ⊢
      clear hVV hd hds
      go_wp2
      go_ret2
      exact ⟨ret_ii (HR.out.trans (by rw [HV.out]; rfl)), rfl⟩
set_option maxHeartbeats 4000000 in
theorem rnumber_m_over (s : ByteArray) (w : World) (hs : s.size ≤ maxLen) (h00 : 0 < s.size) (h00i : (0 : Int) < s.size) (t1 : ((s[0].toNat : Int) == 45) = true) (h0 : 0 < (s.size - 1)) (t0 : ((((s.size - 1) : Nat) : Int) == 0) = false) (t2 : (0 : Int) < (((s.size - 1) : Nat) : Int)) (t3 : ((((s.extract 1 s.size)[0]'(by simp; omega)).toNat : Int) == 48) = false) (hov : decide ((18 : Int) < (((s.size - 1) : Nat) : Int)) = true) (hok : Hid (Wd.dgs (s.extract 1 s.size).toList = true → Wd.nmBad true (s.extract 1 s.size).toList = false)) :
    Calls Tryd.prog 40 #[.string s] w fun e w' => e = .returned (.tuple #[.int .i64 (Wd.nmD true (s.extract 1 s.size).toList).1, .int .i64 (Wd.nmD true (s.extract 1 s.size).toList).2]) ∧ w' = w := by
  unfold maxLen at hs
  go_enter Tryd.func40, Tryd.ntmps40
  go_wp2
  go_loop [6, 8] (fun n i => ∃ k : Nat, k ≤ (s.size - 1) ∧ i = .int .i64 k ∧ n = .int .i64 0 ∧ Wd.dgs ((s.extract 1 s.size).toList.take k) = true) (fun _ i => (s.size - 1) - (intOf i).toNat)
  case atStart => exact ⟨0, by omega, rfl, rfl, rfl⟩
  case round =>
    obtain ⟨k, hk, rfl, rfl, hd⟩ := hrel
    by_cases hlt : k < (s.size - 1)
    · have hltD : k < (s.extract 1 s.size).size := by simp; omega
      have HDS := hid (fun h1 h2 => Wd.dgs_step' (s.extract 1 s.size) k hltD h1 h2 hd)
      have HB := hid (fun hn => Wd.nmD_bad (less := true) (Wd.nmBad_dgs (Wd.dgs_false (s.extract 1 s.size) k hltD hn)))
      clear hd
      by_cases hc : 48 ≤ (s.extract 1 s.size)[k].toNat ∧ (s.extract 1 s.size)[k].toNat ≤ 57
      · obtain ⟨hc2, hc3⟩ := hc
        have H2 := hid hc2
        have H3 := hid hc3
        have i2 : 48 ≤ ((s.extract 1 s.size)[k].toNat : Int) := by omega
        have i3 : ((s.extract 1 s.size)[k].toNat : Int) ≤ 57 := by omega
        clear hc2 hc3
        go_wp2
        refine ⟨⟨k + 1, by omega, by go_num, rfl, HDS.out H2.out H3.out⟩, by simp [intOf]; omega⟩
      · have HN := hid hc
        by_cases hc2 : ((s.extract 1 s.size)[k].toNat : Int) < 48
        · clear hc
          go_wp2
          go_ret2
          exact ⟨ret_ii (HB.out HN.out), rfl⟩
        · have hc3 : 57 < ((s.extract 1 s.size)[k].toNat : Int) := by omega
          clear hc
          go_wp2
          go_ret2
          exact ⟨ret_ii (HB.out HN.out), rfl⟩
    · have hds : Wd.dgs (s.extract 1 s.size).toList = true := by rwa [List.take_of_length_le (by rw [Wd.toL_length]; simp; omega)] at hd
      have HR := hid (Wd.nmD_over (hok.out hds) (by rw [Wd.toL_length]; simp at hov; simp; omega))
      clear hd hds
      go_wp2
      go_ret2
      exact ⟨ret_ii HR.out, rfl⟩
/-- The document's number, whatever the text. -/
theorem rnumber_any (s : ByteArray) (w : World) (hs : s.size ≤ maxLen) :
    Calls Tryd.prog 40 #[.string s] w fun e w' => e = .returned (.tuple #[.int .i64 (Wd.nm s.toList).1, .int .i64 (Wd.nm s.toList).2]) ∧ w' = w := by
  by_cases h0 : 0 < s.size
  · by_cases hm : s[0].toNat = 45
    · have e : Wd.nm s.toList = Wd.nmD true (s.extract 1 s.size).toList := by
        unfold Wd.nm
        rw [Wd.head0 s h0, show s[0] = 45 from UInt8.toNat_inj.1 hm, if_pos rfl, ext_tail]
      rw [e]
      have t1 : ((s[0].toNat : Int) == 45) = true := by rw [hm]; rfl
      by_cases h1 : 0 < s.size - 1
      · have hD : 0 < (s.extract 1 s.size).size := by simp; omega
        have t0 : (((s.size - 1 : Nat) : Int) == 0) = false := by rw [beq_eq_false_iff_ne]; omega
        by_cases hz : (s.extract 1 s.size)[0].toNat = 48
        · exact rnumber_m_nought s w hs h0 (by omega) t1 h1 hz
        · have t3 : (((s.extract 1 s.size)[0].toNat : Int) == 48) = false := by rw [beq_eq_false_iff_ne]; omega
          by_cases ho : 18 < s.size - 1
          · exact rnumber_m_over s w hs h0 (by omega) t1 h1 t0 (by omega) t3 (by simp; omega) (fun hd => Wd.nmBad_good true hD hz hd)
          · exact rnumber_m_loop s w hs h0 (by omega) t1 h1 t0 (by omega) t3 (by simp; omega) (fun hd => Wd.nmBad_good true hD hz hd)
      · exact rnumber_m_nil s w hs h0 (by omega) t1 (by omega)
    · have e : Wd.nm s.toList = Wd.nmD false s.toList := by
        unfold Wd.nm
        rw [if_neg]
        rw [Wd.head0 s h0]
        intro h
        simp at h
        rw [h] at hm
        exact hm rfl
      rw [e]
      have t1 : ((s[0].toNat : Int) == 45) = false := by rw [beq_eq_false_iff_ne]; omega
      have t0 : (((s.size : Nat) : Int) == 0) = false := by rw [beq_eq_false_iff_ne]; omega
      by_cases hz : s[0].toNat = 48
      · by_cases h1 : 1 < s.size
        · exact rnumber_p_nought s w hs h0 t1 h1 hz
        · exact rnumber_p_loop0 s w hs h0 t1 t0 (by omega) (by simp; omega) (by simp; omega) (by simp; omega) (fun _ => Wd.nmBad_zero (by omega) hz)
      · have t3 : ((s[0].toNat : Int) == 48) = false := by rw [beq_eq_false_iff_ne]; omega
        by_cases ho : 18 < s.size
        · exact rnumber_p_over s w hs h0 t1 t0 (by omega) t3 (by simp; omega) (fun hd => Wd.nmBad_good false h0 hz hd)
        · exact rnumber_p_loop s w hs h0 t1 t0 (by omega) t3 (by simp; omega) (fun hd => Wd.nmBad_good false h0 hz hd)
  · have e : Wd.nm s.toList = Wd.nmD false s.toList := by
      have hl : s.toList = [] := List.eq_nil_of_length_eq_zero (by rw [Wd.toL_length]; omega)
      rw [hl]; rfl
    rw [e]
    exact rnumber_p_nil s w hs (by omega)
end Go.Proofs.YtlbhkaokpfljmaaDoor
