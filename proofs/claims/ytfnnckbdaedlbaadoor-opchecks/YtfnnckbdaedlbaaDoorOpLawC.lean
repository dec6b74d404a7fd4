/- laws of layer 8: Check, Field. Typed by tools/gen08lawc.py. -/
import Derived.Test.YtfnnckbdaedlbaaDoorOpLawT
import Derived.Test.YtfnnckbdaedlbaaDoorOpRefK
set_option linter.unusedVariables false
namespace Go.Proofs.YtfnnckbdaedlbaaDoor
open Go.RowKit Go.Oq Go.Sort Go.Sh
theorem fcase (f : Nat → Int) : (opn (f 0).toNat = true ∧ fld (f 0).toNat = 0 ∧ fwant (f 0) = 0) ∨ (opn (f 0).toNat = true ∧ fld (f 0).toNat = 1 ∧ fwant (f 0) = 1) ∨ (opn (f 0).toNat = false ∧ fld (f 0).toNat = 0 ∧ fwant (f 0) = -1) := by
  by_cases h : 2 ≤ f 0 ∧ f 0 ≤ 7
  · have : f 0 = 2 ∨ f 0 = 3 ∨ f 0 = 4 ∨ f 0 = 5 ∨ f 0 = 6 ∨ f 0 = 7 := by omega
    rcases this with h | h | h | h | h | h <;> rw [h] <;> first | exact .inl ⟨rfl, rfl, rfl⟩ | exact .inr (.inl ⟨rfl, rfl, rfl⟩)
  · refine .inr (.inr ?_)
    have hw : fwant (f 0) = -1 := by
      unfold fwant
      by_cases h1 : f 0 < 2
      · rw [if_pos h1]
      · rw [if_neg h1, if_pos (by omega)]
    refine ⟨?_, ?_, hw⟩
    · by_cases hk : kin (f 0) = true
      · obtain ⟨K, hK, k1, k2⟩ := kin_nat hk
        have : K = 1 ∨ K = 8 ∨ K = 9 ∨ K = 10 ∨ K = 11 := by omega
        rw [hK]
        rcases this with rfl | rfl | rfl | rfl | rfl <;> rfl
      · exact (nam_out (by simpa using hk)).2.2
    · by_cases hk : kin (f 0) = true
      · obtain ⟨K, hK, k1, k2⟩ := kin_nat hk
        have : K = 1 ∨ K = 8 ∨ K = 9 ∨ K = 10 ∨ K = 11 := by omega
        rw [hK]
        rcases this with rfl | rfl | rfl | rfl | rfl <;> rfl
      · exact (nam_out (by simpa using hk)).2.1
set_option maxRecDepth 100000 in
set_option maxHeartbeats 4000000 in
theorem opChecks_many (v : Option Addr) (n c : Nat) (a : Option Addr) (len cap : Nat) (w : World) (hE : Lib3 w) (h : 20 < n ∨ 60 < len) :
    Calls Tryd.prog 3 #[.slice v n c, .slice a len cap] w fun e w' => e = .returned (.bool true) ∧ Below w.heap.size w w' := by
  have HE := hid hE
  clear hE
  by_cases h1 : 20 < n
  · have hi : (20 : Int) < (n : Int) := by omega
    clear h h1
    go_enter Tryd.func3, Tryd.ntmps3
    go_wp2_with (go_at_call 9; refine (qworks_any _ (HE.out.below (Below.refl _ w))).mono ?_; rintro e w5 ⟨rfl, b5⟩)
    go_ret
    exact ⟨rfl, b5⟩
  · have hi : (n : Int) ≤ 20 := by omega
    have hi2 : (60 : Int) < (len : Int) := by omega
    clear h h1
    go_enter Tryd.func3, Tryd.ntmps3
    go_wp2_with (go_at_call 9; refine (qworks_any _ (HE.out.below (Below.refl _ w))).mono ?_; rintro e w5 ⟨rfl, b5⟩)
    go_ret
    exact ⟨rfl, b5⟩
set_option maxRecDepth 100000 in
set_option maxHeartbeats 16000000 in
theorem opChecks_few (v : Option Addr) (n c : Nat) (ss : List ByteArray) (a : Option Addr) (len cap : Nat) (w : World) (hE : Lib3 w) (hT : IsTab w (.slice v n c) ss) (hO : IsOps w a len) (h1 : n ≤ 20) (h2 : len ≤ 60) :
    Calls Tryd.prog 3 #[.slice v n c, .slice a len cap] w fun e w' => e = .returned (.bool true) ∧ Below w.heap.size w w' := by
  have HE := hid hE
  have HO := hid hO
  have HT := hid hT
  have hn : ss.length = n := by
    obtain ⟨a', c', e⟩ := hT.len
    simp only [Value.slice.injEq] at e
    exact e.2.1.symm
  have HNN := hid hn
  have hi : (n : Int) ≤ 20 := by omega
  have hi2 : (len : Int) ≤ 60 := by omega
  clear hE hT hO hn
  go_enter Tryd.func3, Tryd.ntmps3
  go_wp2
  go_loop [5] (fun i => ∃ k : Nat, k ≤ n ∧ i = .int .i64 k) (fun i => n - (intOf i).toNat)
  case atStart => exact ⟨0, by omega, rfl⟩
  case round =>
    obtain ⟨k, hk, rfl⟩ := hrel
    by_cases hlt : k < n
    · obtain ⟨b, off, c', e, hc⟩ := HT.out.some (by have := HNN.out; omega)
      have hck := hc k (by have := HNN.out; omega)
      simp only [Value.slice.injEq] at e
      obtain ⟨rfl, -, -⟩ := e
      clear hc
      generalize at' ss k = x at hck
      by_cases hx : 20 < x.size
      · have hxi : (20 : Int) < (x.size : Int) := by omega
        clear hx
        go_wp2_with (go_at_call 9; refine (qworks_any _ (HE.out.below (Below.refl _ w))).mono ?_; rintro e w5 ⟨rfl, b5⟩)
        go_ret
        exact ⟨rfl, b5⟩
      · have hxi : (x.size : Int) ≤ 20 := by omega
        clear hx
        go_wp2
        exact ⟨⟨k + 1, by omega, by go_num⟩, by simp [intOf]; omega⟩
    · go_wp2
      go_loopw [6, 7, 8, 9] (fun i u7 u8 u9 wr => ∃ k : Nat, k ≤ len ∧ i = .int .i64 k ∧ Hid (Below w.heap.size w wr)) (fun i _ _ _ _ => len - (intOf i).toNat)
      case atStart => exact ⟨0, by omega, rfl, hid (Below.refl _ w)⟩
      case round =>
        obtain ⟨k, hk, rfl, B0⟩ := hrel
        by_cases hlt : k < len
        · obtain ⟨b, off, f, rfl, hc, hf⟩ := HO.out k hlt
          have HF := hid hf
          have HFC := hid (fcase f)
          obtain ⟨g, hg⟩ : ∃ g, g = off + k * 8 := ⟨_, rfl⟩
          rw [← hg] at hc
          have HG := hid hg
          have HS := hid (opS_below hc B0.out)
          have C1 := hid (fun W => Field_any f W)
          have C2 := hid (fun W => rField_any f W (hf 0 (by omega)).1 (hf 0 (by omega)).2)
          obtain ⟨N, hN⟩ : ∃ N, N = chk ss f := ⟨_, rfl⟩
          have C3 := hid (fun W (bw : Below w.heap.size w W) => oCheck_any f v n c ss W (HT.out.below (Nat.le_refl _) bw))
          have C4 := hid (fun W (bw : Below w.heap.size w W) => rCheck_any f v n c ss W (HT.out.below (Nat.le_refl _) bw))
          rw [← hN] at C3 C4
          have hNN : (N != N) = false := by simp
          clear hc hg hf hN
          rcases HFC.out with ⟨q1, q2, q3⟩ | ⟨q1, q2, q3⟩ | ⟨q1, q2, q3⟩
          · rw [q1, q2] at C1
            rw [q3] at C2
            clear q1 q2 q3 HFC
            obtain ⟨s0, s1, s2, s3, s4, s5, s6, s7⟩ := HS.out
            rw [HG.out] at s0 s1 s2 s3 s4 s5 s6 s7
            go_wp2_with (go_at_call 10; refine (C1.out _).mono ?_)
            rintro e w2 ⟨rfl, b2⟩
            have B1 := hid (B0.out.trans (b2.mono B0.out.size))
            have HS1 := hid (opS_below HS.out b2)
            clear b2 B0 HS s0 s1 s2 s3 s4 s5 s6 s7
            obtain ⟨s0, s1, s2, s3, s4, s5, s6, s7⟩ := HS1.out
            rw [HG.out] at s0 s1 s2 s3 s4 s5 s6 s7
            go_wp2_with (go_at_call 11; refine (C2.out _).mono ?_)
            rintro e w3 ⟨rfl, b3⟩
            have B2 := hid (B1.out.trans (b3.mono B1.out.size))
            have HS2 := hid (opS_below HS1.out b3)
            clear b3 B1 HS1 s0 s1 s2 s3 s4 s5 s6 s7
            have D3 := hid (fun d os => Calls.regrown_of (C3.out (grow (redrawn w3 d) os) (B2.out.trans ((below_regrown w3 d os).mono B2.out.size))))
            have D5 := hid (fun d os => Calls.regrown_of (Calls.mono (qnum_any N (grow (redrawn w3 d) os)) (R' := fun e w' => e = .returned (.int .i64 N) ∧ Below (grow (redrawn w3 d) os).heap.size (grow (redrawn w3 d) os) w') (by rintro e w' ⟨rfl, rfl⟩; exact ⟨rfl, Below.refl _ _⟩)))
            have D4 := hid (fun d os => Calls.regrown_of (C4.out (grow (redrawn w3 d) os) (B2.out.trans ((below_regrown w3 d os).mono B2.out.size))))
            obtain ⟨s0, s1, s2, s3, s4, s5, s6, s7⟩ := HS2.out
            have c0 := cell_regrown s0
            have c1 := cell_regrown s1
            have c2 := cell_regrown s2
            have c3 := cell_regrown s3
            have c4 := cell_regrown s4
            have c5 := cell_regrown s5
            have c6 := cell_regrown s6
            have c7 := cell_regrown s7
            rw [HG.out] at c0 c1 c2 c3 c4 c5 c6 c7
            clear s0 s1 s2 s3 s4 s5 s6 s7
            go_wp2
            refine wp_region_quiet_below (by kernel_rfl) (by kernel_rfl) ?_
            repeat (go_big_quiet_step ((first | (go_at_call 13; exact D3.out _ _) | (go_at_call 14; exact D4.out _ _) | (go_at_call 12; exact D5.out _ _))))
            refine wpQuiet_nil ?_
            intro _ hw'
            obtain ⟨⟨dq, osq⟩, hw''⟩ := hw'
            subst hw''
            have bq := below_regrown w3 dq osq
            have B3 := hid (B2.out.trans (bq.mono B2.out.size))
            have HS3 := hid (opS_below HS2.out bq)
            clear bq B2 HS2 c0 c1 c2 c3 c4 c5 c6 c7
            generalize grow (redrawn w3 dq) osq = U at *
            go_wp2
            exact ⟨⟨k + 1, by omega, by go_num, B3⟩, by simp [intOf]; omega⟩
          · rw [q1, q2] at C1
            rw [q3] at C2
            clear q1 q2 q3 HFC
            obtain ⟨s0, s1, s2, s3, s4, s5, s6, s7⟩ := HS.out
            rw [HG.out] at s0 s1 s2 s3 s4 s5 s6 s7
            go_wp2_with (go_at_call 10; refine (C1.out _).mono ?_)
            rintro e w2 ⟨rfl, b2⟩
            have B1 := hid (B0.out.trans (b2.mono B0.out.size))
            have HS1 := hid (opS_below HS.out b2)
            clear b2 B0 HS s0 s1 s2 s3 s4 s5 s6 s7
            obtain ⟨s0, s1, s2, s3, s4, s5, s6, s7⟩ := HS1.out
            rw [HG.out] at s0 s1 s2 s3 s4 s5 s6 s7
            go_wp2_with (go_at_call 11; refine (C2.out _).mono ?_)
            rintro e w3 ⟨rfl, b3⟩
            have B2 := hid (B1.out.trans (b3.mono B1.out.size))
            have HS2 := hid (opS_below HS1.out b3)
            clear b3 B1 HS1 s0 s1 s2 s3 s4 s5 s6 s7
            have D3 := hid (fun d os => Calls.regrown_of (C3.out (grow (redrawn w3 d) os) (B2.out.trans ((below_regrown w3 d os).mono B2.out.size))))
            have D5 := hid (fun d os => Calls.regrown_of (Calls.mono (qnum_any N (grow (redrawn w3 d) os)) (R' := fun e w' => e = .returned (.int .i64 N) ∧ Below (grow (redrawn w3 d) os).heap.size (grow (redrawn w3 d) os) w') (by rintro e w' ⟨rfl, rfl⟩; exact ⟨rfl, Below.refl _ _⟩)))
            have D4 := hid (fun d os => Calls.regrown_of (C4.out (grow (redrawn w3 d) os) (B2.out.trans ((below_regrown w3 d os).mono B2.out.size))))
            obtain ⟨s0, s1, s2, s3, s4, s5, s6, s7⟩ := HS2.out
            have c0 := cell_regrown s0
            have c1 := cell_regrown s1
            have c2 := cell_regrown s2
            have c3 := cell_regrown s3
            have c4 := cell_regrown s4
            have c5 := cell_regrown s5
            have c6 := cell_regrown s6
            have c7 := cell_regrown s7
            rw [HG.out] at c0 c1 c2 c3 c4 c5 c6 c7
            clear s0 s1 s2 s3 s4 s5 s6 s7
            go_wp2
            refine wp_region_quiet_below (by kernel_rfl) (by kernel_rfl) ?_
            repeat (go_big_quiet_step ((first | (go_at_call 13; exact D3.out _ _) | (go_at_call 14; exact D4.out _ _) | (go_at_call 12; exact D5.out _ _))))
            refine wpQuiet_nil ?_
            intro _ hw'
            obtain ⟨⟨dq, osq⟩, hw''⟩ := hw'
            subst hw''
            have bq := below_regrown w3 dq osq
            have B3 := hid (B2.out.trans (bq.mono B2.out.size))
            have HS3 := hid (opS_below HS2.out bq)
            clear bq B2 HS2 c0 c1 c2 c3 c4 c5 c6 c7
            generalize grow (redrawn w3 dq) osq = U at *
            go_wp2
            exact ⟨⟨k + 1, by omega, by go_num, B3⟩, by simp [intOf]; omega⟩
          · rw [q1, q2] at C1
            rw [q3] at C2
            clear q1 q2 q3 HFC
            obtain ⟨s0, s1, s2, s3, s4, s5, s6, s7⟩ := HS.out
            rw [HG.out] at s0 s1 s2 s3 s4 s5 s6 s7
            go_wp2_with (go_at_call 10; refine (C1.out _).mono ?_)
            rintro e w2 ⟨rfl, b2⟩
            have B1 := hid (B0.out.trans (b2.mono B0.out.size))
            have HS1 := hid (opS_below HS.out b2)
            clear b2 B0 HS s0 s1 s2 s3 s4 s5 s6 s7
            obtain ⟨s0, s1, s2, s3, s4, s5, s6, s7⟩ := HS1.out
            rw [HG.out] at s0 s1 s2 s3 s4 s5 s6 s7
            go_wp2_with (go_at_call 11; refine (C2.out _).mono ?_)
            rintro e w3 ⟨rfl, b3⟩
            have B2 := hid (B1.out.trans (b3.mono B1.out.size))
            have HS2 := hid (opS_below HS1.out b3)
            clear b3 B1 HS1 s0 s1 s2 s3 s4 s5 s6 s7
            have D3 := hid (fun d os => Calls.regrown_of (C3.out (grow (redrawn w3 d) os) (B2.out.trans ((below_regrown w3 d os).mono B2.out.size))))
            have D5 := hid (fun d os => Calls.regrown_of (Calls.mono (qnum_any N (grow (redrawn w3 d) os)) (R' := fun e w' => e = .returned (.int .i64 N) ∧ Below (grow (redrawn w3 d) os).heap.size (grow (redrawn w3 d) os) w') (by rintro e w' ⟨rfl, rfl⟩; exact ⟨rfl, Below.refl _ _⟩)))
            have D4 := hid (fun d os => Calls.regrown_of (C4.out (grow (redrawn w3 d) os) (B2.out.trans ((below_regrown w3 d os).mono B2.out.size))))
            obtain ⟨s0, s1, s2, s3, s4, s5, s6, s7⟩ := HS2.out
            have c0 := cell_regrown s0
            have c1 := cell_regrown s1
            have c2 := cell_regrown s2
            have c3 := cell_regrown s3
            have c4 := cell_regrown s4
            have c5 := cell_regrown s5
            have c6 := cell_regrown s6
            have c7 := cell_regrown s7
            rw [HG.out] at c0 c1 c2 c3 c4 c5 c6 c7
            clear s0 s1 s2 s3 s4 s5 s6 s7
            go_wp2
            refine wp_region_quiet_below (by kernel_rfl) (by kernel_rfl) ?_
            repeat (go_big_quiet_step ((first | (go_at_call 13; exact D3.out _ _) | (go_at_call 14; exact D4.out _ _) | (go_at_call 12; exact D5.out _ _))))
            refine wpQuiet_nil ?_
            intro _ hw'
            obtain ⟨⟨dq, osq⟩, hw''⟩ := hw'
            subst hw''
            have bq := below_regrown w3 dq osq
            have B3 := hid (B2.out.trans (bq.mono B2.out.size))
            have HS3 := hid (opS_below HS2.out bq)
            clear bq B2 HS2 c0 c1 c2 c3 c4 c5 c6 c7
            generalize grow (redrawn w3 dq) osq = U at *
            go_wp2
            exact ⟨⟨k + 1, by omega, by go_num, B3⟩, by simp [intOf]; omega⟩
        · go_wp2_with (go_at_call 9; refine (qworks_any _ (HE.out.below B0.out)).mono ?_; rintro e w5 ⟨rfl, b5⟩)
          go_ret
          exact ⟨rfl, B0.out.trans (b5.mono B0.out.size)⟩
theorem opChecks_walk (v : Option Addr) (n c : Nat) (ss : List ByteArray) (a : Option Addr) (len cap : Nat) (w : World) (hE : Lib3 w) (hT : IsTab w (.slice v n c) ss) (hO : IsOps w a len) :
    Calls Tryd.prog 3 #[.slice v n c, .slice a len cap] w fun e w' => e = .returned (.bool true) ∧ Below w.heap.size w w' := by
  by_cases h1 : n ≤ 20
  · by_cases h2 : len ≤ 60
    · exact opChecks_few v n c ss a len cap w hE hT hO h1 h2
    · exact opChecks_many v n c a len cap w hE (.inr (by omega))
  · exact opChecks_many v n c a len cap w hE (.inl (by omega))
end Go.Proofs.YtfnnckbdaedlbaaDoor
