/- the document's functions of layer 8: Whole. Typed by tools/gen08whole.py. -/
import Derived.Test.YtfnnckbdaedlbaaDoorOpMathC
import Derived.Test.YtfnnckbdaedlbaaDoorOpRefY
set_option linter.unusedVariables false
namespace Go.Proofs.YtfnnckbdaedlbaaDoor
open Go.RowKit Go.Oq Go.Sort Go.Sh
theorem wstep_val (s : ByteArray) (k : Nat) (h : k < s.size) (h1 : 48 ≤ s[k].toNat) : Wd.val (s.toList.take (k + 1)) = Wd.val (s.toList.take k) * 10 + (s[k].toNat - 48) := by
  rw [Wd.take_snoc s k h, Wd.val_snoc]
theorem wstep_dgs (s : ByteArray) (k : Nat) (h : k < s.size) (h1 : 48 ≤ s[k].toNat) (h2 : s[k].toNat ≤ 57) (hd : Wd.dgs (s.toList.take k) = true) : Wd.dgs (s.toList.take (k + 1)) = true :=
  Wd.dgs_step s k _ h rfl h1 h2 hd
theorem ret_wn {O : Option Int} (h : O = none) : Ending.returned (.tuple #[.int .i64 0, .bool false]) = .returned (.tuple #[.int .i64 (wnV O), .bool (wnB O)]) := by rw [h]; rfl
theorem ret_wy {O : Option Int} {v u : Int} (h : O = some v) (e : u = v) : Ending.returned (.tuple #[.int .i64 u, .bool true]) = .returned (.tuple #[.int .i64 (wnV O), .bool (wnB O)]) := by rw [h, e]; rfl
theorem take_all' {d : ByteArray} {k : Nat} (h : d.size ≤ k) : d.toList.take k = d.toList := List.take_of_length_le (by rw [Wd.toL_length]; exact h)
set_option maxRecDepth 100000 in
set_option maxHeartbeats 8000000 in
theorem rWhole_m (s : ByteArray) (O : Option Int) (w : World) (hs : s.size ≤ 1000) (h00 : 0 < s.size) (h00i : (0 : Int) < s.size) (t1 : ((s[0].toNat : Int) == 45) = true) (h0 : 0 < (s.size - 1)) (t0 : ((((s.size - 1) : Nat) : Int) == 0) = false) (t2 : (0 : Int) < (((s.size - 1) : Nat) : Int)) (t9 : (((s.size - 1) : Nat) : Int) ≤ 19) (t3 : ((((s.extract 1 s.size)[0]'(by simp; omega)).toNat : Int) == 48) = false) (HN : Hid (canB true (s.extract 1 s.size).toList = false → O = none)) (HY : Hid (canB true (s.extract 1 s.size).toList = true → O = some (-(Wd.val (s.extract 1 s.size).toList : Int)))) (hz : Hid (true = true ∨ 1 < (s.extract 1 s.size).size → ∀ h : 0 < (s.extract 1 s.size).size, ¬ ((s.extract 1 s.size)[0]'h).toNat = 48)) :
    Calls Tryd.prog 44 #[.string s] w fun e w' => e = .returned (.tuple #[.int .i64 (wnV O), .bool (wnB O)]) ∧ w' = w := by
  go_enter Tryd.func44, Tryd.ntmps44
  go_wp2
  go_loop [6, 7, 8] (fun n i _ => ∃ k V : Nat, k ≤ (s.size - 1) ∧ V ≤ 9223372036854775808 ∧ i = .int .i64 k ∧ n = .int .i64 (-(V : Int)) ∧ Hid (V = Wd.val ((s.extract 1 s.size).toList.take k) ∧ Wd.dgs ((s.extract 1 s.size).toList.take k) = true)) (fun _ i _ => (s.size - 1) - (intOf i).toNat)
  case atStart => exact ⟨0, 0, by omega, by omega, rfl, rfl, hid ⟨rfl, rfl⟩⟩
  case round =>
    obtain ⟨k, V, hk, hV, rfl, rfl, HK⟩ := hrel
    by_cases hlt : k < (s.size - 1)
    · have hltD : k < (s.extract 1 s.size).size := by simp; omega
      have HS := hid (wstep_val (s.extract 1 s.size) k hltD)
      have HDS := hid (fun h1 h2 => wstep_dgs (s.extract 1 s.size) k hltD h1 h2 HK.out.2)
      have HB := hid (fun hn => HN.out (can_bad true hltD hn))
      have HO := hid (fun hv => HN.out (can_over true (d := (s.extract 1 s.size)) (k := k + 1) hv))
      by_cases hc : 48 ≤ (s.extract 1 s.size)[k].toNat ∧ (s.extract 1 s.size)[k].toNat ≤ 57
      · obtain ⟨hc2, hc3⟩ := hc
        have H2 := hid hc2
        have H3 := hid hc3
        have i2 : 48 ≤ ((s.extract 1 s.size)[k].toNat : Int) := by omega
        have i3 : ((s.extract 1 s.size)[k].toNat : Int) ≤ 57 := by omega
        have hq0 : Int.tdiv (-9223372036854775808 + (((s.extract 1 s.size)[k].toNat : Int) - 48)) 10 = -(((9223372036854775808 - (((s.extract 1 s.size)[k].toNat : Int) - 48)) / 10)) := by
          rw [show (-9223372036854775808 + (((s.extract 1 s.size)[k].toNat : Int) - 48)) = -(9223372036854775808 - (((s.extract 1 s.size)[k].toNat : Int) - 48)) by omega, Int.neg_tdiv, Int.tdiv_eq_ediv_of_nonneg (by omega)]
        have HQ := hid hq0
        have HX : Hid (Wd.val ((s.extract 1 s.size).toList.take (k + 1)) = V * 10 + ((s.extract 1 s.size)[k].toNat - 48)) := hid (by rw [HS.out hc2, HK.out.1])
        clear hc2 hc3 hq0
        by_cases hq : 9223372036854775808 < V * 10 + ((s.extract 1 s.size)[k].toNat - 48)
        · have hq1 : -(V : Int) < Int.tdiv (-9223372036854775808 + (((s.extract 1 s.size)[k].toNat : Int) - 48)) 10 := by rw [HQ.out]; omega
          have HR := hid (HO.out (by rw [HX.out]; omega))
          clear hq
          go_wp2
          go_ret2
          exact ⟨ret_wn HR.out, rfl⟩
        · have hq1 : ¬ -(V : Int) < Int.tdiv (-9223372036854775808 + (((s.extract 1 s.size)[k].toNat : Int) - 48)) 10 := by rw [HQ.out]; omega
          have hqi : (V : Int) * 10 + (((s.extract 1 s.size)[k].toNat : Int) - 48) ≤ 9223372036854775808 := by omega
          have HH := hid (show V * 10 + ((s.extract 1 s.size)[k].toNat - 48) ≤ 9223372036854775808 by omega)
          clear hq
          go_wp2
          exact ⟨⟨k + 1, V * 10 + ((s.extract 1 s.size)[k].toNat - 48), by omega, HH.out, by go_num, by congr 1; have := H2.out; omega, hid ⟨HX.out.symm, HDS.out H2.out H3.out⟩⟩, by simp [intOf]; omega⟩
      · have HNB := hid hc
        clear HS HDS
        by_cases hc2 : ((s.extract 1 s.size)[k].toNat : Int) < 48
        · clear hc
          go_wp2
          go_ret2
          exact ⟨ret_wn (HB.out HNB.out), rfl⟩
        · have hc3 : 57 < ((s.extract 1 s.size)[k].toNat : Int) := by omega
          have hc4 : 48 ≤ ((s.extract 1 s.size)[k].toNat : Int) := by omega
          clear hc hc2
          go_wp2
          go_ret2
          exact ⟨ret_wn (HB.out HNB.out), rfl⟩
    · have HVV : Hid (V = Wd.val (s.extract 1 s.size).toList ∧ Wd.dgs (s.extract 1 s.size).toList = true) := hid (by
        have h := HK.out
        rwa [take_all' (by simp; omega)] at h)
      have HSZ : Hid (0 < (s.extract 1 s.size).size) := hid (by simp; omega)
      clear HK
      have HR : Hid (O = some (-(V : Int))) := hid (by
        rw [HVV.out.1]
        exact HY.out (can_yes true HSZ.out (fun _ => hz.out (by simp) HSZ.out) HVV.out.2 (by rw [← HVV.out.1]; simp; omega)))
      go_wp2
      go_ret2
      exact ⟨ret_wy HR.out rfl, rfl⟩
end Go.Proofs.YtfnnckbdaedlbaaDoor
