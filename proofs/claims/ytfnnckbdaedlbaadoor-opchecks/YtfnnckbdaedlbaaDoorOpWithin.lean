/- package op: within at its three types. -/
import Derived.Test.YtfnnckbdaedlbaaDoorBsKit
import Derived.Test.YtfnnckbdaedlbaaDoorPkMath
namespace Go.Proofs.YtfnnckbdaedlbaaDoor
open Go.RowKit
set_option maxHeartbeats 1000000 in
theorem owithin_int (a b : Int) (g off len cap : Nat) (zs : List Int) (w : World) (hz : Hid (zs.length = len)) (hlen : len ≤ 100)
    (hc : Hid (∀ i, i < len → w.cell? ⟨g, off + i, none⟩ = some (.int .i64 (zs.getD i 0)))) :
    Calls Tryd.prog 27 #[.int .i64 a, .int .i64 b, .slice (some ⟨g, off, none⟩) len cap] w fun e w' => e = .returned (.bool (Pk.win a b zs)) ∧ w' = w := by
  go_enter Tryd.func27, Tryd.ntmps27
  go_wp2
  go_loop [11] (fun i => ∃ k : Nat, k ≤ len ∧ i = .int .i64 k ∧ Hid (∀ j, j < k → a ≤ zs.getD j 0 ∧ zs.getD j 0 ≤ b)) (fun i => len - (intOf i).toNat)
  case atStart => exact ⟨0, by omega, rfl, fun j hj => by omega⟩
  case round =>
    obtain ⟨k, hk, rfl, hN⟩ := hrel
    by_cases hlt : k < len
    · have hcell := hc.out k hlt
      have hW := hid (fun h => Pk.win_out a b zs k (by rw [hz.out]; exact hlt) h)
      have hN2 := hid (fun (h : a ≤ zs.getD k 0 ∧ zs.getD k 0 ≤ b) j (hj : j < k + 1) => show a ≤ zs.getD j 0 ∧ zs.getD j 0 ≤ b from by
        rcases Nat.lt_succ_iff_lt_or_eq.1 hj with h1 | h1
        · exact hN.out j h1
        · rw [h1]; exact h)
      clear hN
      generalize zs.getD k 0 = x at *
      by_cases h1 : x < a
      · go_wp2
        go_ret
        exact ⟨ret_bool (hW.out (by omega)).symm, rfl⟩
      · have h1' : a ≤ x := by omega
        clear h1
        by_cases h2 : b < x
        · go_wp2
          go_ret
          exact ⟨ret_bool (hW.out (by omega)).symm, rfl⟩
        · have h2' : x ≤ b := by omega
          clear h2
          go_wp2
          go_round
          case rel => exact ⟨k + 1, by omega, by go_num, hN2.out ⟨h1', h2'⟩⟩
          case measure => simp [intOf]; omega
    · have hall := hid (Pk.win_all a b zs (fun j hj => hN.out j (by have := hz.out; omega)))
      go_wp2
      go_ret
      exact ⟨ret_bool hall.out.symm, rfl⟩
set_option maxHeartbeats 1000000 in
theorem owithin_i64 (a b : Int) (g off len cap : Nat) (zs : List Int) (w : World) (hz : Hid (zs.length = len)) (hlen : len ≤ 100)
    (hc : Hid (∀ i, i < len → w.cell? ⟨g, off + i, none⟩ = some (.int .i64 (zs.getD i 0)))) :
    Calls Tryd.prog 29 #[.int .i64 a, .int .i64 b, .slice (some ⟨g, off, none⟩) len cap] w fun e w' => e = .returned (.bool (Pk.win a b zs)) ∧ w' = w := by
  go_enter Tryd.func29, Tryd.ntmps29
  go_wp2
  go_loop [11] (fun i => ∃ k : Nat, k ≤ len ∧ i = .int .i64 k ∧ Hid (∀ j, j < k → a ≤ zs.getD j 0 ∧ zs.getD j 0 ≤ b)) (fun i => len - (intOf i).toNat)
  case atStart => exact ⟨0, by omega, rfl, fun j hj => by omega⟩
  case round =>
    obtain ⟨k, hk, rfl, hN⟩ := hrel
    by_cases hlt : k < len
    · have hcell := hc.out k hlt
      have hW := hid (fun h => Pk.win_out a b zs k (by rw [hz.out]; exact hlt) h)
      have hN2 := hid (fun (h : a ≤ zs.getD k 0 ∧ zs.getD k 0 ≤ b) j (hj : j < k + 1) => show a ≤ zs.getD j 0 ∧ zs.getD j 0 ≤ b from by
        rcases Nat.lt_succ_iff_lt_or_eq.1 hj with h1 | h1
        · exact hN.out j h1
        · rw [h1]; exact h)
      clear hN
      generalize zs.getD k 0 = x at *
      by_cases h1 : x < a
      · go_wp2
        go_ret
        exact ⟨ret_bool (hW.out (by omega)).symm, rfl⟩
      · have h1' : a ≤ x := by omega
        clear h1
        by_cases h2 : b < x
        · go_wp2
          go_ret
          exact ⟨ret_bool (hW.out (by omega)).symm, rfl⟩
        · have h2' : x ≤ b := by omega
          clear h2
          go_wp2
          go_round
          case rel => exact ⟨k + 1, by omega, by go_num, hN2.out ⟨h1', h2'⟩⟩
          case measure => simp [intOf]; omega
    · have hall := hid (Pk.win_all a b zs (fun j hj => hN.out j (by have := hz.out; omega)))
      go_wp2
      go_ret
      exact ⟨ret_bool hall.out.symm, rfl⟩
set_option maxHeartbeats 1000000 in
theorem owithin_k (a b : Int) (g off len cap : Nat) (zs : List Int) (w : World) (hz : Hid (zs.length = len)) (hlen : len ≤ 100)
    (hc : Hid (∀ i, i < len → w.cell? ⟨g, off + i, none⟩ = some (.int .i64 (zs.getD i 0)))) :
    Calls Tryd.prog 47 #[.int .i64 a, .int .i64 b, .slice (some ⟨g, off, none⟩) len cap] w fun e w' => e = .returned (.bool (Pk.win a b zs)) ∧ w' = w := by
  go_enter Tryd.func47, Tryd.ntmps47
  go_wp2
  go_loop [11] (fun i => ∃ k : Nat, k ≤ len ∧ i = .int .i64 k ∧ Hid (∀ j, j < k → a ≤ zs.getD j 0 ∧ zs.getD j 0 ≤ b)) (fun i => len - (intOf i).toNat)
  case atStart => exact ⟨0, by omega, rfl, fun j hj => by omega⟩
  case round =>
    obtain ⟨k, hk, rfl, hN⟩ := hrel
    by_cases hlt : k < len
    · have hcell := hc.out k hlt
      have hW := hid (fun h => Pk.win_out a b zs k (by rw [hz.out]; exact hlt) h)
      have hN2 := hid (fun (h : a ≤ zs.getD k 0 ∧ zs.getD k 0 ≤ b) j (hj : j < k + 1) => show a ≤ zs.getD j 0 ∧ zs.getD j 0 ≤ b from by
        rcases Nat.lt_succ_iff_lt_or_eq.1 hj with h1 | h1
        · exact hN.out j h1
        · rw [h1]; exact h)
      clear hN
      generalize zs.getD k 0 = x at *
      by_cases h1 : x < a
      · go_wp2
        go_ret
        exact ⟨ret_bool (hW.out (by omega)).symm, rfl⟩
      · have h1' : a ≤ x := by omega
        clear h1
        by_cases h2 : b < x
        · go_wp2
          go_ret
          exact ⟨ret_bool (hW.out (by omega)).symm, rfl⟩
        · have h2' : x ≤ b := by omega
          clear h2
          go_wp2
          go_round
          case rel => exact ⟨k + 1, by omega, by go_num, hN2.out ⟨h1', h2'⟩⟩
          case measure => simp [intOf]; omega
    · have hall := hid (Pk.win_all a b zs (fun j hj => hN.out j (by have := hz.out; omega)))
      go_wp2
      go_ret
      exact ⟨ret_bool hall.out.symm, rfl⟩
end Go.Proofs.YtfnnckbdaedlbaaDoor
