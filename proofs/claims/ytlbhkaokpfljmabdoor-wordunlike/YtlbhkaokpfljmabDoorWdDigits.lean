/- Package word's digits. -/
import Derived.Test.YtlbhkaokpfljmabDoorWdMake
import Derived.Test.YtlbhkaokpfljmabDoorWdText
import Derived.Laws.RangeAny
namespace Go.Proofs.YtlbhkaokpfljmabDoor
open Go.RowKit
theorem ret_ib {a a' : Int} {b b' : Bool} (h : a = a') (h2 : b = b') : Ending.returned (.tuple #[.int .i64 a, .bool b]) = .returned (.tuple #[.int .i64 a', .bool b']) := by rw [h, h2]
set_option maxHeartbeats 2000000 in
theorem digits_loop (s : ByteArray) (w : World) (hs : s.size ≤ maxLen) (h0 : 0 < s.size) (t0 : s.toList.isEmpty = false) (t1 : ((s[0].toNat : Int) == 48) = false) (hnum : Hid (Wd.dgs s.toList = true → Wd.isNum s.toList = true)) :
    Calls Tryd.prog 19 #[.string s] w fun e w' => e = .returned (.tuple #[.int .i64 (Wd.dgV s.toList), .bool (Wd.isNum s.toList)]) ∧ Below w.heap.size w w' := by
  unfold maxLen at hs
  go_enter Tryd.func19, Tryd.ntmps19
  go_wp2
  go_loopw [4] (fun v wr => ∃ k : Nat, k ≤ s.size ∧ wr = w.iter s k ∧ v = .int .i64 (Wd.cap (Wd.val (s.toList.take k))) ∧ Wd.dgs (s.toList.take k) = true) (fun _ wr => s.size - wr.iterPos w.heap.size)
  case atStart => exact ⟨0, by omega, rfl, rfl, rfl⟩
  case round =>
    obtain ⟨k, hk, rfl, rfl, hd⟩ := hrel
    have hbd := Wd.cap_bd (Wd.val (s.toList.take k))
    have HD := hid hd; clear hd
    generalize hV : Wd.cap (Wd.val (s.toList.take k)) = V at *
    have HV := hid hV; clear hV
    obtain ⟨hV0, hV1⟩ := hbd
    by_cases hlt : k < s.size
    · have hnx := fun ty => run_next_any (P := Tryd.prog) w s k ty hlt
      by_cases hc : s[k].toNat < 128
      · rw [decode_ascii s k hlt hc] at hnx
        by_cases hc1 : 48 ≤ s[k].toNat ∧ s[k].toNat ≤ 57
        · obtain ⟨hc2, hc3⟩ := hc1
          generalize hC : s[k].toNat = C at *
          have HC := hid hC; clear hC
          go_wp2
          refine ⟨⟨k + 1, by omega, rfl, ?_, Wd.dgs_step s k C hlt HC.out hc2 hc3 HD.out⟩, ?_⟩
          · rw [Wd.digit_step s k V C hlt HC.out hc2 HV.out]
          · simp; omega
        · have HN := hid (Wd.isNum_of_dgs_false (Wd.dgs_false s k hlt hc1))
          have HC1 := hid hc1; clear hc1
          generalize hC : s[k].toNat = C at *
          have HC := hid hC; clear hC
          by_cases hc2 : (C : Int) < 48
          · go_wp2
            go_ret2
            exact ⟨ret_ib (Wd.dgV_false HN.out).symm HN.out.symm, (Below.refl _ _).alloc (Nat.le_refl _) _⟩
          · have hc3 : 57 < (C : Int) := by have := HC1.out; omega
            go_wp2
            go_ret2
            exact ⟨ret_ib (Wd.dgV_false HN.out).symm HN.out.symm, (Below.refl _ _).alloc (Nat.le_refl _) _⟩
      · have HN := hid (Wd.isNum_of_dgs_false (Wd.dgs_false s k hlt (by omega)))
        have hdh := (decode_high s k hlt (by omega)).1
        generalize hC : (Utf8.decode s k).1 = C at *
        generalize hC2 : (Utf8.decode s k).2 = C2 at *
        clear hC hC2
        have hc3 : 57 < (C : Int) := by omega
        clear hc
        go_wp2
        go_ret2
        exact ⟨ret_ib (Wd.dgV_false HN.out).symm HN.out.symm, (Below.refl _ _).alloc (Nat.le_refl _) _⟩
    · have hke : k = s.size := by omega
      have hnx := fun ty => run_next_end (P := Tryd.prog) w s k ty hlt
      have hds : Wd.dgs s.toList = true := by have := HD.out; rwa [List.take_of_length_le (by rw [Wd.toL_length]; omega)] at this
      have HN := hid (hnum.out hds)
      have HR := hid (show V = Wd.dgV s.toList by rw [Wd.dgV_true HN.out, ← HV.out, List.take_of_length_le (by rw [Wd.toL_length]; omega)])
      clear hke hds
      go_wp2
      go_ret2
      exact ⟨ret_ib HR.out HN.out.symm, (Below.refl _ _).alloc (Nat.le_refl _) _⟩
set_option maxHeartbeats 2000000 in
theorem digits_loop0 (s : ByteArray) (w : World) (hs : s.size ≤ maxLen) (h0 : 0 < s.size) (t0 : s.toList.isEmpty = false) (t1 : ((s[0].toNat : Int) == 48) = true) (t2 : (s.toList == [48]) = true) (hnum : Hid (Wd.dgs s.toList = true → Wd.isNum s.toList = true)) :
    Calls Tryd.prog 19 #[.string s] w fun e w' => e = .returned (.tuple #[.int .i64 (Wd.dgV s.toList), .bool (Wd.isNum s.toList)]) ∧ Below w.heap.size w w' := by
  unfold maxLen at hs
  go_enter Tryd.func19, Tryd.ntmps19
  go_wp2
  go_loopw [4] (fun v wr => ∃ k : Nat, k ≤ s.size ∧ wr = w.iter s k ∧ v = .int .i64 (Wd.cap (Wd.val (s.toList.take k))) ∧ Wd.dgs (s.toList.take k) = true) (fun _ wr => s.size - wr.iterPos w.heap.size)
  case atStart => exact ⟨0, by omega, rfl, rfl, rfl⟩
  case round =>
    obtain ⟨k, hk, rfl, rfl, hd⟩ := hrel
    have hbd := Wd.cap_bd (Wd.val (s.toList.take k))
    have HD := hid hd; clear hd
    generalize hV : Wd.cap (Wd.val (s.toList.take k)) = V at *
    have HV := hid hV; clear hV
    obtain ⟨hV0, hV1⟩ := hbd
    by_cases hlt : k < s.size
    · have hnx := fun ty => run_next_any (P := Tryd.prog) w s k ty hlt
      by_cases hc : s[k].toNat < 128
      · rw [decode_ascii s k hlt hc] at hnx
        by_cases hc1 : 48 ≤ s[k].toNat ∧ s[k].toNat ≤ 57
        · obtain ⟨hc2, hc3⟩ := hc1
          generalize hC : s[k].toNat = C at *
          have HC := hid hC; clear hC
          go_wp2
          refine ⟨⟨k + 1, by omega, rfl, ?_, Wd.dgs_step s k C hlt HC.out hc2 hc3 HD.out⟩, ?_⟩
          · rw [Wd.digit_step s k V C hlt HC.out hc2 HV.out]
          · simp; omega
        · have HN := hid (Wd.isNum_of_dgs_false (Wd.dgs_false s k hlt hc1))
          have HC1 := hid hc1; clear hc1
          generalize hC : s[k].toNat = C at *
          have HC := hid hC; clear hC
          by_cases hc2 : (C : Int) < 48
          · go_wp2
            go_ret2
            exact ⟨ret_ib (Wd.dgV_false HN.out).symm HN.out.symm, (Below.refl _ _).alloc (Nat.le_refl _) _⟩
          · have hc3 : 57 < (C : Int) := by have := HC1.out; omega
            go_wp2
            go_ret2
            exact ⟨ret_ib (Wd.dgV_false HN.out).symm HN.out.symm, (Below.refl _ _).alloc (Nat.le_refl _) _⟩
      · have HN := hid (Wd.isNum_of_dgs_false (Wd.dgs_false s k hlt (by omega)))
        have hdh := (decode_high s k hlt (by omega)).1
        generalize hC : (Utf8.decode s k).1 = C at *
        generalize hC2 : (Utf8.decode s k).2 = C2 at *
        clear hC hC2
        have hc3 : 57 < (C : Int) := by omega
        clear hc
        go_wp2
        go_ret2
        exact ⟨ret_ib (Wd.dgV_false HN.out).symm HN.out.symm, (Below.refl _ _).alloc (Nat.le_refl _) _⟩
    · have hke : k = s.size := by omega
      have hnx := fun ty => run_next_end (P := Tryd.prog) w s k ty hlt
      have hds : Wd.dgs s.toList = true := by have := HD.out; rwa [List.take_of_length_le (by rw [Wd.toL_length]; omega)] at this
      have HN := hid (hnum.out hds)
      have HR := hid (show V = Wd.dgV s.toList by rw [Wd.dgV_true HN.out, ← HV.out, List.take_of_length_le (by rw [Wd.toL_length]; omega)])
      clear hke hds
      go_wp2
      go_ret2
      exact ⟨ret_ib HR.out HN.out.symm, (Below.refl _ _).alloc (Nat.le_refl _) _⟩
theorem digits_empty (s : ByteArray) (w : World) (h0 : s.size = 0) :
    Calls Tryd.prog 19 #[.string s] w fun e w' => e = .returned (.tuple #[.int .i64 (Wd.dgV s.toList), .bool (Wd.isNum s.toList)]) ∧ Below w.heap.size w w' := by
  have hl : s.toList = [] := List.eq_nil_of_length_eq_zero (by rw [Wd.toL_length]; exact h0)
  have HN : Hid (Wd.isNum s.toList = false) := by rw [hl]; rfl
  have t0 : s.toList.isEmpty = true := by rw [hl]; rfl
  clear hl h0
  go_enter Tryd.func19, Tryd.ntmps19
  go_wp2
  go_ret2
  exact ⟨ret_ib (Wd.dgV_false HN.out).symm HN.out.symm, Below.refl _ _⟩
theorem digits_nought (s : ByteArray) (w : World) (h0 : 0 < s.size) (hc : s[0].toNat = 48) (t2 : (s.toList == [48]) = false) :
    Calls Tryd.prog 19 #[.string s] w fun e w' => e = .returned (.tuple #[.int .i64 (Wd.dgV s.toList), .bool (Wd.isNum s.toList)]) ∧ Below w.heap.size w w' := by
  have HN := hid (Wd.isNum_nought s h0 hc t2)
  have t0 := Wd.noEmpty s h0
  have t1 : ((s[0].toNat : Int) == 48) = true := by simp; omega
  clear hc
  go_enter Tryd.func19, Tryd.ntmps19
  go_wp2
  go_ret2
  exact ⟨ret_ib (Wd.dgV_false HN.out).symm HN.out.symm, Below.refl _ _⟩
/-- Digits, whatever the text. -/
theorem digits_any (s : ByteArray) (w : World) (hs : s.size ≤ maxLen) :
    Calls Tryd.prog 19 #[.string s] w fun e w' => e = .returned (.tuple #[.int .i64 (Wd.dgV s.toList), .bool (Wd.isNum s.toList)]) ∧ Below w.heap.size w w' := by
  by_cases h0 : 0 < s.size
  · by_cases hc : s[0].toNat = 48
    · by_cases h2 : (s.toList == [48]) = true
      · exact digits_loop0 s w hs h0 (Wd.noEmpty s h0) (by simp; omega) h2 (fun _ => by rw [eq_of_beq h2]; rfl)
      · exact digits_nought s w h0 hc (by simpa using h2)
    · exact digits_loop s w hs h0 (Wd.noEmpty s h0) (by simp; omega) (fun hd => Wd.isNum_of s h0 hc hd)
  · exact digits_empty s w (by omega)
end Go.Proofs.YtlbhkaokpfljmabDoor
