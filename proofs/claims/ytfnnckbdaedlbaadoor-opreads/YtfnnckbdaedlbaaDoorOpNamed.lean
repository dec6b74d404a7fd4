/- package op: named; Name; Field. -/
import Derived.Test.YtfnnckbdaedlbaaDoorOpLeaf
namespace Go.Proofs.YtfnnckbdaedlbaaDoor
open Go.RowKit Go.Oq
/-- The table's row, at any index. -/
def ck (B K : Nat) : Array Value := if K = 0 then kz else kc B K
theorem kidx (B : Nat) {K : Nat} (h : K ≤ 11) (W : World) : (Instr.index 96 (.agg (karr B)) (.int .i64 (K : Int))).run Tryd.prog W = .ok (.agg (ck B K)) W := by
  by_cases h0 : K = 0
  · subst h0; exact kidx0 B W
  · rw [ck, if_neg h0]
    rcases eleven (K := K) (by omega) h with rfl | rfl | rfl | rfl | rfl | rfl | rfl | rfl | rfl | rfl | rfl
    · exact kidx1 B W
    · exact kidx2 B W
    · exact kidx3 B W
    · exact kidx4 B W
    · exact kidx5 B W
    · exact kidx6 B W
    · exact kidx7 B W
    · exact kidx8 B W
    · exact kidx9 B W
    · exact kidx10 B W
    · exact kidx11 B W
theorem slN_one (B b : Nat) (js : List Nat) : (slN B b js).oneCell' = true := by unfold slN; split <;> rfl
theorem kc_one (B K : Nat) : (kc B K).all (·.oneCell') = true := by
  have a : (kc B K).all (·.oneCell') = ((slN B (nb K) (nums K)).oneCell' && (slN B (sb K) (scas K)).oneCell') := by simp [kc, kcell, Value.oneCell']
  rw [a, slN_one, slN_one]; rfl
theorem ck_one (B K : Nat) : (ck B K).all (·.oneCell') = true := by
  unfold ck
  split
  · exact kz_one
  · exact kc_one B K
theorem ck_size (B K : Nat) : (Tryd.prog.info? 63).map (·.size) = some (ck B K).size := by
  rw [k_size]
  unfold ck
  split <;> rfl
theorem ck_six (B K : Nat) : 6 = (ck B K).size := by
  unfold ck
  split <;> rfl
theorem ck_name (B K : Nat) : (ck B K)[0]? = some (.string (nam K)) := by
  unfold ck
  split
  · next h => subst h; rfl
  · rfl
theorem knd_none {s : ByteArray} (h : ∀ j, j < 12 → nam j ≠ s) : knd s = 0 := by
  by_cases hk : knd s = 0
  · exact hk
  · obtain ⟨a, _, b⟩ := nam_knd hk
    exact absurd a (h _ (by omega))
theorem knd_at {K : Nat} (h : K ≤ 11) : knd (nam K) = K := by
  by_cases h0 : K = 0
  · subst h0; rfl
  · exact knd_nam (by omega) h
theorem str_beq {a b : ByteArray} : (a.toList == b.toList) = decide (a = b) := by
  rw [Wd.toL, Wd.toL, Bool.eq_iff_iff, beq_iff_eq, decide_eq_true_eq]
  constructor
  · intro h
    rw [← Sh.bs_of a, h, Sh.bs_of]
  · rintro rfl; rfl
set_option maxRecDepth 100000 in
set_option maxHeartbeats 2000000 in
theorem named_any (s : ByteArray) (w : World) :
    Calls Tryd.prog 39 #[.string s] w fun e w' => e = .returned (.int .i64 (knd s : Int)) ∧ Below w.heap.size w w' := by
  go_enter Tryd.func39, Tryd.ntmps39
  go_wp2_with (go_at_call 48; refine (kinds_at _).mono ?_)
  rintro e w1 ⟨B, rfl, _, _, b1⟩
  have HB := hid b1
  clear b1
  go_wp2_with fail
  go_loopw [6] (fun i wr => ∃ k : Nat, k ≤ 12 ∧ i = .int .i64 k ∧ Hid (∀ j, j < k → nam j ≠ s) ∧ Hid (Below w.heap.size w wr)) (fun i _ => 12 - (intOf i).toNat)
  case atStart => exact ⟨0, by omega, rfl, fun j hj => by omega, HB⟩
  case round =>
    obtain ⟨k, hk, rfl, hN, hb⟩ := hrel
    by_cases hlt : k < 12
    · have hidx := kidx B (K := k) (by omega)
      have hc0 := fun W => cell_last W (ck B k) 63 0 _ (ck_name B k)
      have ho := ck_one B k
      have hs := hid (ck_size B k)
      have h6 := hid (ck_six B k)
      have hi12 : (k : Int) < 12 := by omega
      by_cases he : nam k = s
      · have hb1 : ((nam k).toList == s.toList) = true := by rw [str_beq]; simpa using he
        have HK : Hid ((k : Int) = (knd s : Int)) := hid (by rw [← he, knd_at (by omega)])
        clear he
        go_wp2_with (refine wpList_store_row rfl 63 _ _ rfl wr.heap.size (ck B k) rfl rfl 63 _ (heap_alloc_last wr _) hs.out h6.out ho ?_; rw [World.setRow_alloc_new])
        go_ret
        exact ⟨ret_int HK.out, hb.out.alloc hb.out.size _⟩
      · have hb1 : ((nam k).toList == s.toList) = false := by rw [str_beq]; simpa using he
        have HN2 : Hid (∀ j, j < k + 1 → nam j ≠ s) := hid (fun j hj => by
          by_cases e : j = k
          · rw [e]; exact he
          · exact hN.out j (by omega))
        clear he
        go_wp2_with (refine wpList_store_row rfl 63 _ _ rfl wr.heap.size (ck B k) rfl rfl 63 _ (heap_alloc_last wr _) hs.out h6.out ho ?_; rw [World.setRow_alloc_new])
        go_roundw
        case rel => exact ⟨k + 1, by omega, by go_num, HN2, hb.out.alloc hb.out.size _⟩
        case measure => simp [intOf]; omega
    · obtain rfl : k = 12 := by omega
      have HK : Hid ((0 : Int) = (knd s : Int)) := hid (by rw [knd_none (fun j hj => hN.out j hj)]; rfl)
      go_wp2
      go_ret
      exact ⟨ret_int HK.out, hb.out⟩
end Go.Proofs.YtfnnckbdaedlbaaDoor
