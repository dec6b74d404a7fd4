/- Package word's Seal, Strip, Address; the document's Address, Holds, Seal, Strip. -/
import Derived.Test.YtlbhkaokpfljmaaDoorWdWorks
namespace Go.Wd
theorem is_ofK {x : Int} {k : Nat} {v : Int} (h0 : 0 ≤ x) (h : Is x k v) : ofK x = k := (is_fun h0 h).1
theorem is_hold {x : Int} (h0 : 0 ≤ x) (h1 : 1 ≤ ofK x) (h3 : ofK x ≤ 3) {k : Nat} {v : Int} (h : Is x k v) : k = 1 ∨ k = 2 ∨ k = 3 := by
  have := is_ofK h0 h; omega
theorem is_noHold {x : Int} (h0 : 0 ≤ x) (h1 : ¬ (1 ≤ ofK x ∧ ofK x ≤ 3)) {k : Nat} {v : Int} (h : Is x k v) : k = 0 ∨ k = 4 := by
  have := is_ofK h0 h
  rcases h with ⟨rfl, _⟩ | ⟨rfl, _⟩ | ⟨rfl, _⟩ | ⟨rfl, _⟩ | ⟨rfl, _⟩ <;> simp_all
theorem has_is (x : Int) (_h0 : 0 ≤ x) : ∃ (k : Nat) (v : Int), Is x k v := by
  by_cases a : x ≤ 1
  · exact ⟨1, 0, .inl ⟨rfl, rfl, a⟩⟩
  by_cases b : x = 2
  · exact ⟨4, 0, .inr (.inr (.inr (.inl ⟨rfl, rfl, b⟩)))⟩
  by_cases c : x % 8 ≤ 1 ∧ x / 8 ≤ 16777215
  · exact ⟨2, x / 8, .inr (.inl ⟨rfl, by omega, by omega, by omega, by omega⟩)⟩
  by_cases d : 4 ≤ x % 8 ∧ x % 8 ≤ 5 ∧ x / 8 ≤ 1152921504606846975
  · exact ⟨3, x / 8 - 576460752303423488, .inr (.inr (.inl ⟨rfl, by omega, by omega, by omega, by omega⟩))⟩
  exact ⟨0, 0, .inr (.inr (.inr (.inr ⟨rfl, rfl, by omega, c, d⟩)))⟩
/-- A word that may be sealed, sealed, is of the same kind and holds the same. -/
theorem is_seal {x : Int} (h0 : 0 ≤ x) (h1 : 1 ≤ ofK x) (h3 : ofK x ≤ 3) : ofK (x - x % 2 + 1) = ofK x := by
  obtain ⟨k, v, h⟩ := has_is x h0
  have hk := is_hold h0 h1 h3 h
  have e := is_ofK h0 h
  rw [e]
  refine is_ofK (v := v) (by omega) ?_
  rcases h with ⟨rfl, rfl, h⟩ | ⟨rfl, h⟩ | ⟨rfl, h⟩ | ⟨rfl, _⟩ | ⟨rfl, _⟩
  · exact .inl ⟨rfl, rfl, by omega⟩
  · exact .inr (.inl ⟨rfl, by omega, by omega, by omega, by omega⟩)
  · exact .inr (.inr (.inl ⟨rfl, by omega, by omega, by omega, by omega⟩))
  · omega
  · omega
/-- A pointer's address; 0 of others. -/
def adr (x : Int) : Int := if ofK x = 2 then ofV x else 0
end Go.Wd
namespace Go.Proofs.YtlbhkaokpfljmaaDoor
open Go.RowKit
set_option maxHeartbeats 2000000 in
theorem seal_yes (x : Int) (w : World) (h0 : 0 ≤ x) (h1 : x ≤ 18446744073709551615) (hk1 : Hid (1 ≤ Wd.ofK x)) (hk3 : Hid (Wd.ofK x ≤ 3)) :
    Calls Tryd.prog 19 #[.int .u64 x] w fun e w' => e = .returned (.tuple #[.int .u64 (x - x % 2 + 1), .int .i64 0]) ∧ Below w.heap.size w w' := by
  go_enter Tryd.func19, Tryd.ntmps19
  go_wp2_with (go_at_call 31; refine (tell_any x _ _ h0 h1 (hid rfl) (by omega) (by omega) (by omega) (by omega)).mono ?_)
  rintro e w1 ⟨k, v, rfl, hIs, hbw⟩
  have z := hbw.size
  rcases Wd.is_hold h0 hk1.out hk3.out hIs with rfl | rfl | rfl
  all_goals
    clear hIs
    simp only [toldV]
    go_wp2_with (go_at_call 34; refine (seal_at x _ _ h0 h1 rfl).mono ?_; rintro e w' ⟨rfl, rfl⟩)
    go_ret2
    exact ⟨rfl, hbw.alloc z _⟩
set_option maxHeartbeats 2000000 in
theorem seal_no (x : Int) (w : World) (h0 : 0 ≤ x) (h1 : x ≤ 18446744073709551615) (hk : Hid (¬ (1 ≤ Wd.ofK x ∧ Wd.ofK x ≤ 3))) :
    Calls Tryd.prog 19 #[.int .u64 x] w fun e w' => e = .returned (.tuple #[.int .u64 0, .int .i64 2]) ∧ Below w.heap.size w w' := by
  go_enter Tryd.func19, Tryd.ntmps19
  go_wp2_with (go_at_call 31; refine (tell_any x _ _ h0 h1 (hid rfl) (by omega) (by omega) (by omega) (by omega)).mono ?_)
  rintro e w1 ⟨k, v, rfl, hIs, hbw⟩
  have z := hbw.size
  rcases Wd.is_noHold h0 hk.out hIs with rfl | rfl
  all_goals
    clear hIs
    simp only [toldV]
    go_wp2_with fail
    go_ret2
    exact ⟨rfl, hbw.alloc z _⟩
set_option maxHeartbeats 2000000 in
theorem strip_yes (x : Int) (w : World) (h0 : 0 ≤ x) (h1 : x ≤ 18446744073709551615) (hk1 : Hid (1 ≤ Wd.ofK x)) (hk3 : Hid (Wd.ofK x ≤ 3)) :
    Calls Tryd.prog 20 #[.int .u64 x] w fun e w' => e = .returned (.tuple #[.int .u64 (x - x % 2), .int .i64 0]) ∧ Below w.heap.size w w' := by
  go_enter Tryd.func20, Tryd.ntmps20
  go_wp2_with (go_at_call 31; refine (tell_any x _ _ h0 h1 (hid rfl) (by omega) (by omega) (by omega) (by omega)).mono ?_)
  rintro e w1 ⟨k, v, rfl, hIs, hbw⟩
  have z := hbw.size
  rcases Wd.is_hold h0 hk1.out hk3.out hIs with rfl | rfl | rfl
  all_goals
    clear hIs
    simp only [toldV]
    go_wp2_with (go_at_call 35; refine (plain_at x _ _ h0 h1 rfl).mono ?_; rintro e w' ⟨rfl, rfl⟩)
    go_ret2
    exact ⟨rfl, hbw.alloc z _⟩
set_option maxHeartbeats 2000000 in
theorem strip_no (x : Int) (w : World) (h0 : 0 ≤ x) (h1 : x ≤ 18446744073709551615) (hk : Hid (¬ (1 ≤ Wd.ofK x ∧ Wd.ofK x ≤ 3))) :
    Calls Tryd.prog 20 #[.int .u64 x] w fun e w' => e = .returned (.tuple #[.int .u64 0, .int .i64 2]) ∧ Below w.heap.size w w' := by
  go_enter Tryd.func20, Tryd.ntmps20
  go_wp2_with (go_at_call 31; refine (tell_any x _ _ h0 h1 (hid rfl) (by omega) (by omega) (by omega) (by omega)).mono ?_)
  rintro e w1 ⟨k, v, rfl, hIs, hbw⟩
  have z := hbw.size
  rcases Wd.is_noHold h0 hk.out hIs with rfl | rfl
  all_goals
    clear hIs
    simp only [toldV]
    go_wp2_with fail
    go_ret2
    exact ⟨rfl, hbw.alloc z _⟩
set_option maxHeartbeats 2000000 in
theorem address_any (x : Int) (w : World) (h0 : 0 ≤ x) (h1 : x ≤ 18446744073709551615) :
    Calls Tryd.prog 21 #[.int .u64 x] w fun e w' => e = .returned (.tuple #[.int .i64 (Wd.adr x), .bool (decide (0 < Wd.adr x))]) ∧ Below w.heap.size w w' := by
  go_enter Tryd.func21, Tryd.ntmps21
  go_wp2_with (go_at_call 31; refine (tell_any x _ _ h0 h1 (hid rfl) (by omega) (by omega) (by omega) (by omega)).mono ?_)
  rintro e w1 ⟨k, v, rfl, hIs, hbw⟩
  have z := hbw.size
  obtain ⟨e1, e2, _⟩ := Wd.is_fun h0 hIs
  have HA : Hid (Wd.adr x = if k = 2 then v else 0) := by unfold Wd.adr; rw [e1, e2]; show _ = _; split <;> split <;> omega
  clear e1 e2
  rcases hIs with ⟨rfl, rfl, h⟩ | ⟨rfl, hv, h⟩ | ⟨rfl, h⟩ | ⟨rfl, rfl, h⟩ | ⟨rfl, rfl, h⟩
  · clear h
    simp only [toldV]
    go_wp2_with fail
    go_ret2
    refine ⟨ret_ib ?_ ?_, hbw.alloc z _⟩
    · rw [HA.out]; rfl
    · rw [HA.out]; rfl
  · have HV := hid hv; clear h
    simp only [toldV]
    go_wp2_with fail
    go_ret2
    refine ⟨ret_ib ?_ ?_, hbw.alloc z _⟩
    · rw [HA.out]; rfl
    · rw [HA.out]; simp; exact HV.out
  · clear h
    simp only [toldV]
    go_wp2_with fail
    go_ret2
    refine ⟨ret_ib ?_ ?_, hbw.alloc z _⟩
    · rw [HA.out]; rfl
    · rw [HA.out]; rfl
  · clear h
    simp only [toldV]
    go_wp2_with fail
    go_ret2
    refine ⟨ret_ib ?_ ?_, hbw.alloc z _⟩
    · rw [HA.out]; rfl
    · rw [HA.out]; rfl
  · clear h
    simp only [toldV]
    go_wp2_with fail
    go_ret2
    refine ⟨ret_ib ?_ ?_, hbw.alloc z _⟩
    · rw [HA.out]; rfl
    · rw [HA.out]; rfl
set_option maxHeartbeats 2000000 in
theorem raddress_any (x : Int) (w : World) (h0 : 0 ≤ x) (h1 : x ≤ 18446744073709551615) :
    Calls Tryd.prog 22 #[.int .u64 x] w fun e w' => e = .returned (.int .i64 (Wd.adr x)) ∧ Below w.heap.size w w' := by
  go_enter Tryd.func22, Tryd.ntmps22
  go_wp2_with (go_at_call 12; refine (rof_any x _ h0 h1).mono ?_)
  rintro e w1 ⟨rfl, hbw⟩
  have z := hbw.size
  by_cases hk : Wd.ofK x = 2
  · have HK := hid hk
    have ht : (Wd.ofK x != 2) = false := by simpa using hk
    clear hk
    go_wp2
    go_ret
    exact ⟨ret_int (by unfold Wd.adr; rw [if_pos HK.out]), hbw.alloc z _⟩
  · have HK := hid hk
    have ht : (Wd.ofK x != 2) = true := by simpa using hk
    clear hk
    go_wp2
    go_ret
    exact ⟨ret_int (by unfold Wd.adr; rw [if_neg HK.out]), hbw.alloc z _⟩
theorem field0 (a b c : Value) (w : World) : (Instr.field 26 (.agg #[a, b, c]) 0).run Tryd.prog w = .ok a w := by kernel_rfl
theorem rholds_yes (x : Int) (w : World) (h0 : 0 ≤ x) (h1 : x ≤ 18446744073709551615) (hk1 : 1 ≤ Wd.ofK x) (hk3 : Wd.ofK x ≤ 3) :
    Calls Tryd.prog 23 #[.int .u64 x] w fun e w' => e = .returned (.bool true) ∧ Below w.heap.size w w' := by
  have hfd := field0
  go_enter Tryd.func23, Tryd.ntmps23
  go_wp2_with (go_at_call 12; refine (rof_any x _ h0 h1).mono ?_)
  rintro e w1 ⟨rfl, hbw⟩
  go_wp2
  go_ret
  exact ⟨rfl, hbw⟩
theorem rholds_no (x : Int) (w : World) (h0 : 0 ≤ x) (h1 : x ≤ 18446744073709551615) (hk : Hid (¬ (1 ≤ Wd.ofK x ∧ Wd.ofK x ≤ 3))) :
    Calls Tryd.prog 23 #[.int .u64 x] w fun e w' => e = .returned (.bool false) ∧ Below w.heap.size w w' := by
  by_cases hk1 : 1 ≤ Wd.ofK x
  · have hk3 : decide (Wd.ofK x ≤ 3) = false := by have := hk.out; simp; omega
    have hfd := field0
    go_enter Tryd.func23, Tryd.ntmps23
    go_wp2_with (go_at_call 12; refine (rof_any x _ h0 h1).mono ?_)
    rintro e w1 ⟨rfl, hbw⟩
    go_wp2
    go_ret
    exact ⟨rfl, hbw⟩
  · have hk2 : Wd.ofK x < 1 := by omega
    have hfd := field0
    go_enter Tryd.func23, Tryd.ntmps23
    go_wp2_with (go_at_call 12; refine (rof_any x _ h0 h1).mono ?_)
    rintro e w1 ⟨rfl, hbw⟩
    intro hbw
    go_wp2
    go_ret
    exact ⟨rfl, hbw⟩
theorem rseal_any (x : Int) (w : World) (h0 : 0 ≤ x) (h1 : x ≤ 18446744073709551615) :
    Calls Tryd.prog 24 #[.int .u64 x] w fun e w' => e = .returned (.int .u64 (x - x % 2 + 1)) ∧ w' = w := by
  go_enter Tryd.func24, Tryd.ntmps24
  go_wp2
  go_ret
  exact ⟨rfl, rfl⟩
theorem rstrip_any (x : Int) (w : World) (h0 : 0 ≤ x) (h1 : x ≤ 18446744073709551615) :
    Calls Tryd.prog 25 #[.int .u64 x] w fun e w' => e = .returned (.int .u64 (x - x % 2)) ∧ w' = w := by
  go_enter Tryd.func25, Tryd.ntmps25
  go_wp2
  go_ret
  exact ⟨rfl, rfl⟩
end Go.Proofs.YtlbhkaokpfljmaaDoor
