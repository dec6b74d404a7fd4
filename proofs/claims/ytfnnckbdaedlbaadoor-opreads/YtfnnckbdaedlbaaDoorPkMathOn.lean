import Derived.Test.YtfnnckbdaedlbaaDoorBsKit
/- Plain facts of package pack: bounds, frontiers, claims; nothing of the program's text. -/
namespace Go.Pk
/-- Are all numbers from a to b? -/
def win (a b : Int) (zs : List Int) : Bool := zs.all fun n => decide (a ≤ n) && decide (n ≤ b)
theorem win_one (a b x : Int) : win a b [x] = decide (a ≤ x ∧ x ≤ b) := by
  simp [win]
theorem win_three (a b x y z : Int) : win a b [x, y, z] = decide ((a ≤ x ∧ x ≤ b) ∧ (a ≤ y ∧ y ≤ b) ∧ (a ≤ z ∧ z ≤ b)) := by
  simp [win]
theorem win_out (a b : Int) (zs : List Int) (k : Nat) (hk : k < zs.length) (h : ¬ (a ≤ zs.getD k 0 ∧ zs.getD k 0 ≤ b)) : win a b zs = false := by
  unfold win
  rw [List.all_eq_false]
  refine ⟨zs[k], List.getElem_mem hk, ?_⟩
  simp only [List.getD_eq_getElem?_getD, List.getElem?_eq_getElem hk, Option.getD_some] at h
  simp
  omega
theorem win_all (a b : Int) (zs : List Int) (h : ∀ k, k < zs.length → a ≤ zs.getD k 0 ∧ zs.getD k 0 ≤ b) : win a b zs = true := by
  unfold win
  rw [List.all_eq_true]
  intro x hx
  obtain ⟨k, hk, rfl⟩ := List.mem_iff_getElem.1 hx
  have := h k hk
  simp only [List.getD_eq_getElem?_getD, List.getElem?_eq_getElem hk, Option.getD_some] at this
  simp
  omega
/-- May a frontier be? -/
def frOk (s l h o : Int) : Bool := decide ((s = 0 ∨ s = 1) ∧ 0 ≤ l ∧ l ≤ 4096 ∧ 0 ≤ h ∧ h ≤ 4096 ∧ 0 ≤ o ∧ o ≤ 4096 ∧ l + o ≤ h)
theorem frOk_yes {s l h o : Int} (e : frOk s l h o = true) : (s = 0 ∨ s = 1) ∧ 0 ≤ l ∧ l ≤ 4096 ∧ 0 ≤ h ∧ h ≤ 4096 ∧ 0 ≤ o ∧ o ≤ 4096 ∧ l + o ≤ h := of_decide_eq_true e
theorem frOk_mk {s l h o : Int} (e : (s = 0 ∨ s = 1) ∧ 0 ≤ l ∧ l ≤ 4096 ∧ 0 ≤ h ∧ h ≤ 4096 ∧ 0 ≤ o ∧ o ≤ 4096 ∧ l + o ≤ h) : frOk s l h o = true := decide_eq_true e
theorem frOk_no {s l h o : Int} (e : ¬ ((s = 0 ∨ s = 1) ∧ 0 ≤ l ∧ l ≤ 4096 ∧ 0 ≤ h ∧ h ≤ 4096 ∧ 0 ≤ o ∧ o ≤ 4096 ∧ l + o ≤ h)) : frOk s l h o = false := decide_eq_false e
theorem frOk_not {s l h o : Int} (e : frOk s l h o = false) : ¬ ((s = 0 ∨ s = 1) ∧ 0 ≤ l ∧ l ≤ 4096 ∧ 0 ≤ h ∧ h ≤ 4096 ∧ 0 ≤ o ∧ o ≤ 4096 ∧ l + o ≤ h) := of_decide_eq_false e
/-- May a request be? -/
def rqOk (e p : Int) : Bool := decide (0 ≤ e ∧ e ≤ 1099511627775 ∧ 0 ≤ p ∧ p ≤ 6)
theorem rqOk_yes {e p : Int} (h : rqOk e p = true) : 0 ≤ e ∧ e ≤ 1099511627775 ∧ 0 ≤ p ∧ p ≤ 6 := of_decide_eq_true h
theorem rqOk_mk {e p : Int} (h : 0 ≤ e ∧ e ≤ 1099511627775 ∧ 0 ≤ p ∧ p ≤ 6) : rqOk e p = true := decide_eq_true h
theorem rqOk_no {e p : Int} (h : ¬ (0 ≤ e ∧ e ≤ 1099511627775 ∧ 0 ≤ p ∧ p ≤ 6)) : rqOk e p = false := decide_eq_false h
theorem rqOk_not {e p : Int} (h : rqOk e p = false) : ¬ (0 ≤ e ∧ e ≤ 1099511627775 ∧ 0 ≤ p ∧ p ≤ 6) := of_decide_eq_false h
end Go.Pk
/- package op: within at its three types. -/
namespace Go.Proofs.YtfnnckbdaedlbaaDoor
open Go.RowKit
set_option maxHeartbeats 1000000 in
theorem owithin_int (a b : Int) (g off len cap : Nat) (zs : List Int) (w : World) (hz : Hid (zs.length = len)) (hlen : len ≤ 100)
    (hc : Hid (∀ i, i < len → w.cell? ⟨g, off + i, none⟩ = some (.int .i64 (zs.getD i 0)))) :
    Calls Tryd.prog 27 #[.int .i64 a, .int .i64 b, .slice (some ⟨g, off, none⟩) len cap] w fun e w' => e = .returned (.bool (Pk.win a b zs)) ∧ w' = w := by
  go_enter Tryd.func27, Tryd.ntmps27
  go_wp2
  go_loop [11] (fun i => ∃ k : Nat, k ≤ len ∧ i = .int .i64 k ∧ Hid (∀ j, j < k → a ≤ zs.getD j 0 ∧ zs.getD j 0 ≤ b)) (fun i => len - (intOf i).toNat)
  case atStart => exact ⟨0, by omega, rfl, fun j hj => by omega⟩
  case round =>
    obtain ⟨k, hk, rfl, hN⟩ := hrel
    by_cases hlt : k < len
    · have hcell := hc.out k hlt
      have hW := hid (fun h => Pk.win_out a b zs k (by rw [hz.out]; exact hlt) h)
      have hN2 := hid (fun (h : a ≤ zs.getD k 0 ∧ zs.getD k 0 ≤ b) j (hj : j < k + 1) => show a ≤ zs.getD j 0 ∧ zs.getD j 0 ≤ b from by
        rcases Nat.lt_succ_iff_lt_or_eq.1 hj with h1 | h1
        · exact hN.out j h1
        · rw [h1]; exact h)
      clear hN
      generalize zs.getD k 0 = x at *
      by_cases h1 : x < a
      · go_wp2
        go_ret
        exact ⟨ret_bool (hW.out (by omega)).symm, rfl⟩
      · have h1' : a ≤ x := by omega
        clear h1
        by_cases h2 : b < x
        · go_wp2
          go_ret
          exact ⟨ret_bool (hW.out (by omega)).symm, rfl⟩
        · have h2' : x ≤ b := by omega
          clear h2
          go_wp2
          go_round
          case rel => exact ⟨k + 1, by omega, by go_num, hN2.out ⟨h1', h2'⟩⟩
          case measure => simp [intOf]; omega
    · have hall := hid (Pk.win_all a b zs (fun j hj => hN.out j (by have := hz.out; omega)))
      go_wp2
      go_ret
      exact ⟨ret_bool hall.out.symm, rfl⟩
set_option maxHeartbeats 1000000 in
theorem owithin_i64 (a b : Int) (g off len cap : Nat) (zs : List Int) (w : World) (hz : Hid (zs.length = len)) (hlen : len ≤ 100)
    (hc : Hid (∀ i, i < len → w.cell? ⟨g, off + i, none⟩ = some (.int .i64 (zs.getD i 0)))) :
    Calls Tryd.prog 29 #[.int .i64 a, .int .i64 b, .slice (some ⟨g, off, none⟩) len cap] w fun e w' => e = .returned (.bool (Pk.win a b zs)) ∧ w' = w := by
  go_enter Tryd.func29, Tryd.ntmps29
  go_wp2
  go_loop [11] (fun i => ∃ k : Nat, k ≤ len ∧ i = .int .i64 k ∧ Hid (∀ j, j < k → a ≤ zs.getD j 0 ∧ zs.getD j 0 ≤ b)) (fun i => len - (intOf i).toNat)
  case atStart => exact ⟨0, by omega, rfl, fun j hj => by omega⟩
  case round =>
    obtain ⟨k, hk, rfl, hN⟩ := hrel
    by_cases hlt : k < len
    · have hcell := hc.out k hlt
      have hW := hid (fun h => Pk.win_out a b zs k (by rw [hz.out]; exact hlt) h)
      have hN2 := hid (fun (h : a ≤ zs.getD k 0 ∧ zs.getD k 0 ≤ b) j (hj : j < k + 1) => show a ≤ zs.getD j 0 ∧ zs.getD j 0 ≤ b from by
        rcases Nat.lt_succ_iff_lt_or_eq.1 hj with h1 | h1
        · exact hN.out j h1
        · rw [h1]; exact h)
      clear hN
      generalize zs.getD k 0 = x at *
      by_cases h1 : x < a
      · go_wp2
        go_ret
        exact ⟨ret_bool (hW.out (by omega)).symm, rfl⟩
      · have h1' : a ≤ x := by omega
        clear h1
        by_cases h2 : b < x
        · go_wp2
          go_ret
          exact ⟨ret_bool (hW.out (by omega)).symm, rfl⟩
        · have h2' : x ≤ b := by omega
          clear h2
          go_wp2
          go_round
          case rel => exact ⟨k + 1, by omega, by go_num, hN2.out ⟨h1', h2'⟩⟩
          case measure => simp [intOf]; omega
    · have hall := hid (Pk.win_all a b zs (fun j hj => hN.out j (by have := hz.out; omega)))
      go_wp2
      go_ret
      exact ⟨ret_bool hall.out.symm, rfl⟩
set_option maxHeartbeats 1000000 in
theorem owithin_k (a b : Int) (g off len cap : Nat) (zs : List Int) (w : World) (hz : Hid (zs.length = len)) (hlen : len ≤ 100)
    (hc : Hid (∀ i, i < len → w.cell? ⟨g, off + i, none⟩ = some (.int .i64 (zs.getD i 0)))) :
    Calls Tryd.prog 47 #[.int .i64 a, .int .i64 b, .slice (some ⟨g, off, none⟩) len cap] w fun e w' => e = .returned (.bool (Pk.win a b zs)) ∧ w' = w := by
  go_enter Tryd.func47, Tryd.ntmps47
  go_wp2
  go_loop [11] (fun i => ∃ k : Nat, k ≤ len ∧ i = .int .i64 k ∧ Hid (∀ j, j < k → a ≤ zs.getD j 0 ∧ zs.getD j 0 ≤ b)) (fun i => len - (intOf i).toNat)
  case atStart => exact ⟨0, by omega, rfl, fun j hj => by omega⟩
  case round =>
    obtain ⟨k, hk, rfl, hN⟩ := hrel
    by_cases hlt : k < len
    · have hcell := hc.out k hlt
      have hW := hid (fun h => Pk.win_out a b zs k (by rw [hz.out]; exact hlt) h)
      have hN2 := hid (fun (h : a ≤ zs.getD k 0 ∧ zs.getD k 0 ≤ b) j (hj : j < k + 1) => show a ≤ zs.getD j 0 ∧ zs.getD j 0 ≤ b from by
        rcases Nat.lt_succ_iff_lt_or_eq.1 hj with h1 | h1
        · exact hN.out j h1
        · rw [h1]; exact h)
      clear hN
      generalize zs.getD k 0 = x at *
      by_cases h1 : x < a
      · go_wp2
        go_ret
        exact ⟨ret_bool (hW.out (by omega)).symm, rfl⟩
      · have h1' : a ≤ x := by omega
        clear h1
        by_cases h2 : b < x
        · go_wp2
          go_ret
          exact ⟨ret_bool (hW.out (by omega)).symm, rfl⟩
        · have h2' : x ≤ b := by omega
          clear h2
          go_wp2
          go_round
          case rel => exact ⟨k + 1, by omega, by go_num, hN2.out ⟨h1', h2'⟩⟩
          case measure => simp [intOf]; omega
    · have hall := hid (Pk.win_all a b zs (fun j hj => hN.out j (by have := hz.out; omega)))
      go_wp2
      go_ret
      exact ⟨ret_bool hall.out.symm, rfl⟩
end Go.Proofs.YtfnnckbdaedlbaaDoor
