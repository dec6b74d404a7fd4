/- The walk of the law WordUnlike. -/
import Derived.Test.YtlbhkaokpfljmabDoorWdRt
import Derived.Test.YtlbhkaokpfljmabDoorWdWorks
namespace Go.Proofs.YtlbhkaokpfljmabDoor
open Go.RowKit
/-- Words that are told alike, and not bad, are the same (P1.4). -/
theorem told_inj (a b : Int) (ha : 0 ≤ a) (hb : 0 ≤ b) (hk : ¬ Wd.ofK a = 0) (e1 : Wd.ofK a = Wd.ofK b) (e2 : Wd.ofS a = Wd.ofS b) (e3 : Wd.ofV a = Wd.ofV b) : a = b := by
  obtain ⟨k, v, h⟩ := Wd.has_is a ha
  obtain ⟨k', v', h'⟩ := Wd.has_is b hb
  obtain ⟨p1, p2, p3⟩ := Wd.is_fun ha h
  obtain ⟨q1, q2, q3⟩ := Wd.is_fun hb h'
  have hkk : k = k' := by omega
  subst hkk
  have hvv : v = v' := by omega
  subst hvv
  have hk0 : k ≠ 0 := by omega
  have s1 : Wd.ofS a = decide (a % 2 = 1) := by rw [p3]; simp [hk0]
  have s2 : Wd.ofS b = decide (b % 2 = 1) := by rw [q3]; simp [hk0]
  have m1 := Wd.mk_of ha h hk0 (Wd.ofS a) s1
  have m2 := Wd.mk_of hb h' hk0 (Wd.ofS b) s2
  rw [e2] at m1
  exact m1.2.symm.trans m2.2
theorem text_inj (a b : Int) (ha : 0 ≤ a) (hb : 0 ≤ b) (hk : ¬ Wd.ofK a = 0) (hk' : ¬ Wd.ofK b = 0) (e : tx a = tx b) : a = b := by
  have h1 := rd_tx_good a ha hk
  have h2 := rd_tx_good b hb hk'
  rw [e, h2] at h1
  exact (Prod.mk.inj h1).1.symm
theorem of_at (x k : Int) (s : Bool) (v : Int) (w : World) (h0 : 0 ≤ x) (h1 : x ≤ 18446744073709551615) (hk : Wd.ofK x = k) (hs : Wd.ofS x = s) (hv : Wd.ofV x = v) :
    Calls Tryd.prog 4 #[.int .u64 x] w fun e w' => e = .returned (.agg #[.int .i64 k, .bool s, .int .i64 v]) ∧ Below w.heap.size w w' := by
  subst hk hs hv; exact of_fn x w h0 h1
theorem textU_at (x : Int) (T : ByteArray) (w : World) (h0 : 0 ≤ x) (h1 : x ≤ 18446744073709551615) (hT : Hid ((⟨(tx x).toArray⟩ : ByteArray) = T)) (ht : Tab w) :
    Calls Tryd.prog 6 #[.int .u64 x] w fun e w' => e = .returned (.string T) ∧ Below w.heap.size w w' := by
  rw [← hT.out]; exact text_fn x w h0 h1 (.inr ht)
set_option maxHeartbeats 4000000 in
theorem wordUnlike_bad (a b Ka Kb Va Vb : Int) (Sa Sb : Bool) (w : World) (a0 : 0 ≤ a) (a1 : a ≤ 18446744073709551615) (b0 : 0 ≤ b) (b1 : b ≤ 18446744073709551615) (HKa : Hid (Wd.ofK a = Ka)) (HKb : Hid (Wd.ofK b = Kb)) (HSa : Hid (Wd.ofS a = Sa)) (HSb : Hid (Wd.ofS b = Sb)) (HVa : Hid (Wd.ofV a = Va)) (HVb : Hid (Wd.ofV b = Vb)) (h : (Ka == 0) = true ∨ ((Ka == 0) = false ∧ (Kb == 0) = true)) :
    Calls Tryd.prog 3 #[.int .u64 a, .int .u64 b] w fun e w' => e = .returned (.bool true) ∧ Below w.heap.size w w' := by
  rcases h with h | ⟨h, h'⟩
  all_goals
    go_enter Tryd.func3, Tryd.ntmps3
    go_wp2_with (go_at_call 4; refine (of_at a Ka Sa Va _ a0 a1 HKa.out HSa.out HVa.out).mono ?_)
    rintro e w1 ⟨rfl, c1⟩
    go_wp2_with (go_at_call 4; refine (of_at b Kb Sb Vb _ b0 b1 HKb.out HSb.out HVb.out).mono ?_)
    rintro e w2 ⟨rfl, c2⟩
    have d2 : Below w.heap.size w w2 := c1.trans (c2.mono c1.size)
    have z2 : w.heap.size ≤ w2.heap.size := d2.size
    clear c1 c2
    go_wp2_with (go_at_call 5; refine (works_any _).mono ?_)
    rintro e w3 ⟨rfl, c3⟩
    go_wp2
    go_ret
    exact ⟨rfl, ((d2.alloc z2 _).alloc (by simp; omega) _).trans (c3.mono (by simp; omega))⟩
set_option maxHeartbeats 8000000 in
theorem wordUnlike_eq (a K V : Int) (S : Bool) (Ta : ByteArray) (w : World) (a0 : 0 ≤ a) (a1 : a ≤ 18446744073709551615) (HKa : Hid (Wd.ofK a = K)) (HSa : Hid (Wd.ofS a = S)) (HVa : Hid (Wd.ofV a = V)) (HTa : Hid ((⟨(tx a).toArray⟩ : ByteArray) = Ta)) (HT : Hid (Tab w)) (h1 : (K == 0) = false) :
    Calls Tryd.prog 3 #[.int .u64 a, .int .u64 a] w fun e w' => e = .returned (.bool true) ∧ Below w.heap.size w w' := by
  go_enter Tryd.func3, Tryd.ntmps3
  go_wp2_with (go_at_call 4; refine (of_at a K S V _ a0 a1 HKa.out HSa.out HVa.out).mono ?_)
  rintro e w1 ⟨rfl, c1⟩
  go_wp2_with (go_at_call 4; refine (of_at a K S V _ a0 a1 HKa.out HSa.out HVa.out).mono ?_)
  rintro e w2 ⟨rfl, c2⟩
  have d2 : Below w.heap.size w w2 := c1.trans (c2.mono c1.size)
  have z2 : w.heap.size ≤ w2.heap.size := d2.size
  clear c1 c2
  go_wp2_with (go_at_call 6; refine (textU_at a Ta _ a0 a1 HTa (tab_below HT.out ((d2.alloc z2 _).alloc (by simp; omega) _))).mono ?_)
  rintro e w3 ⟨rfl, c3⟩
  have d3 : Below w.heap.size w w3 := ((d2.alloc z2 _).alloc (by simp; omega) _).trans (c3.mono (by simp; omega))
  have z3 : w.heap.size ≤ w3.heap.size := d3.size
  clear d2 z2 c3
  go_wp2_with (go_at_call 6; refine (textU_at a Ta _ a0 a1 HTa (tab_below HT.out d3)).mono ?_)
  rintro e w4 ⟨rfl, c4⟩
  have d4 : Below w.heap.size w w4 := d3.trans (c4.mono z3)
  have z4 : w.heap.size ≤ w4.heap.size := d4.size
  clear d3 z3 c4
  go_wp2_with (go_at_call 5; refine (works_any _).mono ?_)
  rintro e w5 ⟨rfl, c5⟩
  go_wp2
  go_ret
  exact ⟨rfl, d4.trans (c5.mono z4)⟩
set_option maxHeartbeats 8000000 in
theorem wordUnlike_k (a b Ka Kb Va Vb : Int) (Sa Sb : Bool) (Ta Tb : ByteArray) (w : World) (a0 : 0 ≤ a) (a1 : a ≤ 18446744073709551615) (b0 : 0 ≤ b) (b1 : b ≤ 18446744073709551615) (HKa : Hid (Wd.ofK a = Ka)) (HSa : Hid (Wd.ofS a = Sa)) (HVa : Hid (Wd.ofV a = Va)) (HKb : Hid (Wd.ofK b = Kb)) (HSb : Hid (Wd.ofS b = Sb)) (HVb : Hid (Wd.ofV b = Vb)) (HTa : Hid ((⟨(tx a).toArray⟩ : ByteArray) = Ta)) (HTb : Hid ((⟨(tx b).toArray⟩ : ByteArray) = Tb)) (h3 : (a == b) = false) (hnt : (Ta.toList == Tb.toList) = false) (HT : Hid (Tab w)) (h1 : (Ka == 0) = false) (h2 : (Kb == 0) = false) (hk : (Ka == Kb) = false) :
    Calls Tryd.prog 3 #[.int .u64 a, .int .u64 b] w fun e w' => e = .returned (.bool true) ∧ Below w.heap.size w w' := by
  go_enter Tryd.func3, Tryd.ntmps3
  go_wp2_with (go_at_call 4; refine (of_at a Ka Sa Va _ a0 a1 HKa.out HSa.out HVa.out).mono ?_)
  rintro e w1 ⟨rfl, c1⟩
  go_wp2_with (go_at_call 4; refine (of_at b Kb Sb Vb _ b0 b1 HKb.out HSb.out HVb.out).mono ?_)
  rintro e w2 ⟨rfl, c2⟩
  have d2 : Below w.heap.size w w2 := c1.trans (c2.mono c1.size)
  have z2 : w.heap.size ≤ w2.heap.size := d2.size
  clear c1 c2
  go_wp2_with (go_at_call 6; refine (textU_at a Ta _ a0 a1 HTa (tab_below HT.out ((d2.alloc z2 _).alloc (by simp; omega) _))).mono ?_)
  rintro e w3 ⟨rfl, c3⟩
  have d3 : Below w.heap.size w w3 := ((d2.alloc z2 _).alloc (by simp; omega) _).trans (c3.mono (by simp; omega))
  have z3 : w.heap.size ≤ w3.heap.size := d3.size
  clear d2 z2 c3
  go_wp2_with (go_at_call 6; refine (textU_at b Tb _ b0 b1 HTb (tab_below HT.out d3)).mono ?_)
  rintro e w4 ⟨rfl, c4⟩
  have d4 : Below w.heap.size w w4 := d3.trans (c4.mono z3)
  have z4 : w.heap.size ≤ w4.heap.size := d4.size
  clear d3 z3 c4
  go_wp2_with (go_at_call 5; refine (works_any _).mono ?_)
  rintro e w5 ⟨rfl, c5⟩
  go_wp2
  go_ret
  exact ⟨rfl, d4.trans (c5.mono z4)⟩
set_option maxHeartbeats 8000000 in
theorem wordUnlike_s (a b K Va Vb : Int) (Ta Tb : ByteArray) (w : World) (a0 : 0 ≤ a) (a1 : a ≤ 18446744073709551615) (b0 : 0 ≤ b) (b1 : b ≤ 18446744073709551615) (HKa : Hid (Wd.ofK a = K)) (HSa : Hid (Wd.ofS a = true)) (HVa : Hid (Wd.ofV a = Va)) (HKb : Hid (Wd.ofK b = K)) (HSb : Hid (Wd.ofS b = false)) (HVb : Hid (Wd.ofV b = Vb)) (HTa : Hid ((⟨(tx a).toArray⟩ : ByteArray) = Ta)) (HTb : Hid ((⟨(tx b).toArray⟩ : ByteArray) = Tb)) (h3 : (a == b) = false) (hnt : (Ta.toList == Tb.toList) = false) (HT : Hid (Tab w)) (h1 : (K == 0) = false) :
    Calls Tryd.prog 3 #[.int .u64 a, .int .u64 b] w fun e w' => e = .returned (.bool true) ∧ Below w.heap.size w w' := by
  go_enter Tryd.func3, Tryd.ntmps3
  go_wp2_with (go_at_call 4; refine (of_at a K true Va _ a0 a1 HKa.out HSa.out HVa.out).mono ?_)
  rintro e w1 ⟨rfl, c1⟩
  go_wp2_with (go_at_call 4; refine (of_at b K false Vb _ b0 b1 HKb.out HSb.out HVb.out).mono ?_)
  rintro e w2 ⟨rfl, c2⟩
  have d2 : Below w.heap.size w w2 := c1.trans (c2.mono c1.size)
  have z2 : w.heap.size ≤ w2.heap.size := d2.size
  clear c1 c2
  go_wp2_with (go_at_call 6; refine (textU_at a Ta _ a0 a1 HTa (tab_below HT.out ((d2.alloc z2 _).alloc (by simp; omega) _))).mono ?_)
  rintro e w3 ⟨rfl, c3⟩
  have d3 : Below w.heap.size w w3 := ((d2.alloc z2 _).alloc (by simp; omega) _).trans (c3.mono (by simp; omega))
  have z3 : w.heap.size ≤ w3.heap.size := d3.size
  clear d2 z2 c3
  go_wp2_with (go_at_call 6; refine (textU_at b Tb _ b0 b1 HTb (tab_below HT.out d3)).mono ?_)
  rintro e w4 ⟨rfl, c4⟩
  have d4 : Below w.heap.size w w4 := d3.trans (c4.mono z3)
  have z4 : w.heap.size ≤ w4.heap.size := d4.size
  clear d3 z3 c4
  go_wp2_with (go_at_call 5; refine (works_any _).mono ?_)
  rintro e w5 ⟨rfl, c5⟩
  go_wp2
  go_ret
  exact ⟨rfl, d4.trans (c5.mono z4)⟩
set_option maxHeartbeats 8000000 in
theorem wordUnlike_t (a b K Va Vb : Int) (Ta Tb : ByteArray) (w : World) (a0 : 0 ≤ a) (a1 : a ≤ 18446744073709551615) (b0 : 0 ≤ b) (b1 : b ≤ 18446744073709551615) (HKa : Hid (Wd.ofK a = K)) (HSa : Hid (Wd.ofS a = false)) (HVa : Hid (Wd.ofV a = Va)) (HKb : Hid (Wd.ofK b = K)) (HSb : Hid (Wd.ofS b = true)) (HVb : Hid (Wd.ofV b = Vb)) (HTa : Hid ((⟨(tx a).toArray⟩ : ByteArray) = Ta)) (HTb : Hid ((⟨(tx b).toArray⟩ : ByteArray) = Tb)) (h3 : (a == b) = false) (hnt : (Ta.toList == Tb.toList) = false) (HT : Hid (Tab w)) (h1 : (K == 0) = false) :
    Calls Tryd.prog 3 #[.int .u64 a, .int .u64 b] w fun e w' => e = .returned (.bool true) ∧ Below w.heap.size w w' := by
  go_enter Tryd.func3, Tryd.ntmps3
  go_wp2_with (go_at_call 4; refine (of_at a K false Va _ a0 a1 HKa.out HSa.out HVa.out).mono ?_)
  rintro e w1 ⟨rfl, c1⟩
  go_wp2_with (go_at_call 4; refine (of_at b K true Vb _ b0 b1 HKb.out HSb.out HVb.out).mono ?_)
  rintro e w2 ⟨rfl, c2⟩
  have d2 : Below w.heap.size w w2 := c1.trans (c2.mono c1.size)
  have z2 : w.heap.size ≤ w2.heap.size := d2.size
  clear c1 c2
  go_wp2_with (go_at_call 6; refine (textU_at a Ta _ a0 a1 HTa (tab_below HT.out ((d2.alloc z2 _).alloc (by simp; omega) _))).mono ?_)
  rintro e w3 ⟨rfl, c3⟩
  have d3 : Below w.heap.size w w3 := ((d2.alloc z2 _).alloc (by simp; omega) _).trans (c3.mono (by simp; omega))
  have z3 : w.heap.size ≤ w3.heap.size := d3.size
  clear d2 z2 c3
  go_wp2_with (go_at_call 6; refine (textU_at b Tb _ b0 b1 HTb (tab_below HT.out d3)).mono ?_)
  rintro e w4 ⟨rfl, c4⟩
  have d4 : Below w.heap.size w w4 := d3.trans (c4.mono z3)
  have z4 : w.heap.size ≤ w4.heap.size := d4.size
  clear d3 z3 c4
  go_wp2_with (go_at_call 5; refine (works_any _).mono ?_)
  rintro e w5 ⟨rfl, c5⟩
  go_wp2
  go_ret
  exact ⟨rfl, d4.trans (c5.mono z4)⟩
set_option maxHeartbeats 8000000 in
theorem wordUnlike_v (a b K Va Vb : Int) (S : Bool) (Ta Tb : ByteArray) (w : World) (a0 : 0 ≤ a) (a1 : a ≤ 18446744073709551615) (b0 : 0 ≤ b) (b1 : b ≤ 18446744073709551615) (HKa : Hid (Wd.ofK a = K)) (HSa : Hid (Wd.ofS a = S)) (HVa : Hid (Wd.ofV a = Va)) (HKb : Hid (Wd.ofK b = K)) (HSb : Hid (Wd.ofS b = S)) (HVb : Hid (Wd.ofV b = Vb)) (HTa : Hid ((⟨(tx a).toArray⟩ : ByteArray) = Ta)) (HTb : Hid ((⟨(tx b).toArray⟩ : ByteArray) = Tb)) (h3 : (a == b) = false) (hnt : (Ta.toList == Tb.toList) = false) (HT : Hid (Tab w)) (h1 : (K == 0) = false) (hv : (Va == Vb) = false) :
    Calls Tryd.prog 3 #[.int .u64 a, .int .u64 b] w fun e w' => e = .returned (.bool true) ∧ Below w.heap.size w w' := by
  go_enter Tryd.func3, Tryd.ntmps3
  go_wp2_with (go_at_call 4; refine (of_at a K S Va _ a0 a1 HKa.out HSa.out HVa.out).mono ?_)
  rintro e w1 ⟨rfl, c1⟩
  go_wp2_with (go_at_call 4; refine (of_at b K S Vb _ b0 b1 HKb.out HSb.out HVb.out).mono ?_)
  rintro e w2 ⟨rfl, c2⟩
  have d2 : Below w.heap.size w w2 := c1.trans (c2.mono c1.size)
  have z2 : w.heap.size ≤ w2.heap.size := d2.size
  clear c1 c2
  go_wp2_with (go_at_call 6; refine (textU_at a Ta _ a0 a1 HTa (tab_below HT.out ((d2.alloc z2 _).alloc (by simp; omega) _))).mono ?_)
  rintro e w3 ⟨rfl, c3⟩
  have d3 : Below w.heap.size w w3 := ((d2.alloc z2 _).alloc (by simp; omega) _).trans (c3.mono (by simp; omega))
  have z3 : w.heap.size ≤ w3.heap.size := d3.size
  clear d2 z2 c3
  go_wp2_with (go_at_call 6; refine (textU_at b Tb _ b0 b1 HTb (tab_below HT.out d3)).mono ?_)
  rintro e w4 ⟨rfl, c4⟩
  have d4 : Below w.heap.size w w4 := d3.trans (c4.mono z3)
  have z4 : w.heap.size ≤ w4.heap.size := d4.size
  clear d3 z3 c4
  go_wp2_with (go_at_call 5; refine (works_any _).mono ?_)
  rintro e w5 ⟨rfl, c5⟩
  go_wp2
  go_ret
  exact ⟨rfl, d4.trans (c5.mono z4)⟩
theorem wordUnlike_walk (a b : Int) (w : World) (a0 : 0 ≤ a) (a1 : a ≤ 18446744073709551615) (b0 : 0 ≤ b) (b1 : b ≤ 18446744073709551615) (ht : Tab w) :
    Calls Tryd.prog 3 #[.int .u64 a, .int .u64 b] w fun e w' => e = .returned (.bool true) ∧ Below w.heap.size w w' := by
  by_cases ka : Wd.ofK a = 0
  · exact wordUnlike_bad a b _ _ _ _ _ _ w a0 a1 b0 b1 rfl rfl rfl rfl rfl rfl (.inl (by simpa using ka))
  by_cases kb : Wd.ofK b = 0
  · exact wordUnlike_bad a b _ _ _ _ _ _ w a0 a1 b0 b1 rfl rfl rfl rfl rfl rfl (.inr ⟨by simpa using ka, by simpa using kb⟩)
  have za : (Wd.ofK a == 0) = false := by simpa using ka
  have zb : (Wd.ofK b == 0) = false := by simpa using kb
  by_cases hab : a = b
  · subst hab
    exact wordUnlike_eq a _ _ _ _ w a0 a1 rfl rfl rfl rfl ht za
  have h3 : (a == b) = false := by simpa using hab
  have hnt : ((⟨(tx a).toArray⟩ : ByteArray).toList == (⟨(tx b).toArray⟩ : ByteArray).toList) = false := by
    rw [mkBytes, mkBytes]
    simpa using fun e => hab (text_inj a b a0 b0 ka kb e)
  by_cases hk : Wd.ofK a = Wd.ofK b
  · by_cases hs : Wd.ofS a = Wd.ofS b
    · have hv : ¬ Wd.ofV a = Wd.ofV b := fun e => hab (told_inj a b a0 b0 ka hk hs e)
      exact wordUnlike_v a b _ _ _ _ _ _ w a0 a1 b0 b1 rfl rfl rfl hk.symm hs.symm rfl rfl rfl h3 hnt ht za (by simpa using hv)
    · cases hsa : Wd.ofS a
      · have hsb : Wd.ofS b = true := by cases h : Wd.ofS b <;> simp_all
        exact wordUnlike_t a b _ _ _ _ _ w a0 a1 b0 b1 rfl hsa rfl hk.symm hsb rfl rfl rfl h3 hnt ht za
      · have hsb : Wd.ofS b = false := by cases h : Wd.ofS b <;> simp_all
        exact wordUnlike_s a b _ _ _ _ _ w a0 a1 b0 b1 rfl hsa rfl hk.symm hsb rfl rfl rfl h3 hnt ht za
  · exact wordUnlike_k a b _ _ _ _ _ _ _ _ w a0 a1 b0 b1 rfl rfl rfl rfl rfl rfl rfl rfl h3 hnt ht za zb (by simpa using hk)
end Go.Proofs.YtlbhkaokpfljmabDoor
