/- the document's functions of layer 8: Check. Typed by tools/gen08check.py. -/
import Derived.Test.YtfnnckbdaedlbaaDoorOpRefX
import Derived.Test.YtfnnckbdaedlbaaDoorOpCheck
import Derived.Test.YtfnnckbdaedlbaaDoorShRef
set_option linter.unusedVariables false
namespace Go.Proofs.YtfnnckbdaedlbaaDoor
open Go.RowKit Go.Oq Go.Sort Go.Sh
/-- What Check answers of a bare one under a right table, its slots apart. -/
theorem bare_zero {f : Nat → Int} {K : Nat} (hb : bare f = true) (hK : (f 0).toNat = K) : ∀ j, 1 ≤ j → j ≤ 7 → j ∉ alln K → f j = 0 := fun j h1 h7 h => ((bare_iff f).1 hb).2 j h1 (by omega) (by rwa [hK])
theorem chk_slot {ss : List ByteArray} {f : Nat → Int} {j : Nat} (hr : right ss = true) (hb : bare f = true) (h1 : 1 ≤ j) (h3 : j ≤ 3) (h : slt (f j) = false) : chk ss f = 181 := by
  have : (slt (f 1) && slt (f 2) && slt (f 3)) = false := by
    have : j = 1 ∨ j = 2 ∨ j = 3 := by omega
    rcases this with rfl | rfl | rfl <;> simp [h]
  rw [chk, if_neg (by rw [hr]; decide), if_neg (by rw [hb]; decide), if_pos this]
theorem chk_past {ss : List ByteArray} {f : Nat → Int} {K : Nat} (hr : right ss = true) (hb : bare f = true) (hK : (f 0).toNat = K) (h : ∀ i, i < (alln K).length → (alln K).getD i 0 ≤ 3 → slt (f ((alln K).getD i 0)) = true) :
    chk ss f = if inR (f 5) ss.length = false then 130 else if (scl (f 6) && scl (f 7)) = false then 182 else 0 := by
  have hj : ∀ j, 1 ≤ j → j ≤ 3 → slt (f j) = true := by
    intro j h1 h3
    by_cases hm : j ∈ alln K
    · obtain ⟨i, hi, e⟩ := List.getElem_of_mem hm
      have := h i hi
      rw [List.getD_eq_getElem?_getD, List.getElem?_eq_getElem hi, Option.getD_some, e] at this
      exact this h3
    · rw [bare_zero hb hK j h1 (by omega) hm]; rfl
  rw [chk, if_neg (by rw [hr]; decide), if_neg (by rw [hb]; decide), if_neg (by rw [hj 1 (by omega) (by omega), hj 2 (by omega) (by omega), hj 3 (by omega) (by omega)]; decide)]
theorem chk_one {ss : List ByteArray} {f : Nat → Int} (hb : bare f = true) (hK : (f 0).toNat = 1) (hr : right ss = true) :
    (if inR (f 5) ss.length = false then (130 : Int) else if (scl (f 6) && scl (f 7)) = false then 182 else 0) = (sz ss (f 5)).2 := by
  have h6 : f 6 = 0 := bare_zero hb hK 6 (by omega) (by omega) (by decide)
  have h7 : f 7 = 0 := bare_zero hb hK 7 (by omega) (by omega) (by decide)
  rw [h6, h7]
  cases hi : inR (f 5) ss.length with
  | true => rw [sz_in hr hi]; rfl
  | false => rw [sz_out hr hi]; rfl
theorem chk_more {ss : List ByteArray} {f : Nat → Int} {K : Nat} (hb : bare f = true) (hK : (f 0).toNat = K) (k1 : 1 ≤ K) (k2 : K ≤ 11) (h1 : K ≠ 1) (hr : right ss = true) :
    (if inR (f 5) ss.length = false then (130 : Int) else if (scl (f 6) && scl (f 7)) = false then 182 else 0) = if (scl (f 6) && scl (f 7)) = false then 182 else 0 := by
  have h5 : f 5 = 0 := bare_zero hb hK 5 (by omega) (by omega) (by
    rcases eleven k1 k2 with rfl | rfl | rfl | rfl | rfl | rfl | rfl | rfl | rfl | rfl | rfl <;> first | (exact absurd rfl h1) | decide)
  have hl : 1 ≤ ss.length := by
    simp only [right, Bool.and_eq_true, decide_eq_true_eq] at hr
    exact hr.1.1
  have : inR (f 5) ss.length = true := by rw [h5]; simp [inR]; omega
  rw [this, if_neg (by decide)]
set_option maxRecDepth 100000 in
set_option maxHeartbeats 4000000 in
theorem rCheck_arg (f : Nat → Int) (a : Option Addr) (n c : Nat) (ss : List ByteArray) (w : World) (hT : IsTab w (.slice a n c) ss) (hr : right ss = false) :
    Calls Tryd.prog 14 #[.slice a n c, opV f] w fun e w' => e = .returned (.int .i64 2) ∧ Below w.heap.size w w' := by
  have cr := hid (fun W (b : Below w.heap.size w W) => rRight_any (.slice a n c) ss W (hT.below (Nat.le_refl _) b))
  rw [hr] at cr
  clear hr hT
  go_enter Tryd.func14, Tryd.ntmps14
  go_wp2_with (go_at_call 30; refine (cr.out _ (below_alloc0 w _)).mono ?_; rintro e w2 ⟨rfl, rfl⟩)
  go_ret
  exact ⟨rfl, below_alloc0 w _⟩
set_option maxRecDepth 100000 in
set_option maxHeartbeats 4000000 in
theorem rCheck_op (f : Nat → Int) (a : Option Addr) (n c : Nat) (ss : List ByteArray) (w : World) (hT : IsTab w (.slice a n c) ss) (hr : right ss = true) (hb : bare f = false) :
    Calls Tryd.prog 14 #[.slice a n c, opV f] w fun e w' => e = .returned (.int .i64 180) ∧ Below w.heap.size w w' := by
  have cr := hid (fun W (b : Below w.heap.size w W) => rRight_any (.slice a n c) ss W (hT.below (Nat.le_refl _) b))
  rw [hr] at cr
  have cb := hid (fun W => rBare_any f W)
  rw [hb] at cb
  clear hr hT hb
  go_enter Tryd.func14, Tryd.ntmps14
  go_wp2_with (first | (go_at_call 30; refine (cr.out _ (below_alloc0 w _)).mono ?_; rintro e w2 ⟨rfl, rfl⟩) | (go_at_call 16; refine (cb.out _).mono ?_; rintro e w3 ⟨rfl, b3⟩))
  go_ret
  exact ⟨rfl, bel1 b3⟩
set_option maxRecDepth 100000 in
set_option maxHeartbeats 16000000 in
theorem rCheck_bare (K : Nat) (f : Nat → Int) (a : Option Addr) (n c : Nat) (ss : List ByteArray) (w : World) (hT : IsTab w (.slice a n c) ss) (hr : right ss = true) (hb : bare f = true) (k1 : 1 ≤ K) (k2 : K ≤ 11) (hK : f 0 = (K : Int)) :
    Calls Tryd.prog 14 #[.slice a n c, opV f] w fun e w' => e = .returned (.int .i64 (chk ss f)) ∧ Below w.heap.size w w' := by
  have hK0 : (f 0).toNat = K := by omega
  have cr := hid (fun W (b : Below w.heap.size w W) => rRight_any (.slice a n c) ss W (hT.below (Nat.le_refl _) b))
  have cz := hid (fun W (b : Below w.heap.size w W) => rSize_any (.slice a n c) ss (f 5) W (hT.below (Nat.le_refl _) b))
  have cb := hid (fun W => rBare_any f W)
  have HN := hid (fun W => names_yes K W k1 k2)
  rw [hr] at cr
  rw [hb] at cb
  rw [← hK] at HN
  have HSL : Hid (∀ j, 1 ≤ j → j ≤ 3 → slt (f j) = false → chk ss f = 181) := hid (fun j h1 h3 h => chk_slot hr hb h1 h3 h)
  have HPA := hid (fun h => chk_past (ss := ss) hr hb hK0 h)
  have HP1 : Hid (K = 1 → _) := hid (fun e => chk_one hb (by rw [hK0, e]) hr)
  have HP2 := hid (fun h => chk_more (ss := ss) hb hK0 k1 k2 h hr)
  have HKK := hid hK
  have HL := hid (lets_at K)
  have HA := hid (alln_at K)
  have HLS := hid (lets_size K)
  have hls := lets_small K
  obtain ⟨L, hL⟩ : ∃ L, L = lets K := ⟨_, rfl⟩
  rw [← hL] at HL HN hls
  have HLE := hid hL
  clear hL hK hK0 hr hT hb k1 k2
  have hli : (L.size : Int) ≤ 4 := by omega
  go_enter Tryd.func14, Tryd.ntmps14
  go_wp2_with (first | (go_at_call 30; refine (cr.out _ (below_alloc0 w _)).mono ?_; rintro e w2 ⟨rfl, rfl⟩) | (go_at_call 16; refine (cb.out _).mono ?_))
  rintro e w3 ⟨rfl, b3⟩
  have r3 := row1 b3
  have B3 := hid (bel1 b3)
  clear b3
  have c0 := at_row r3 0 rfl
  have HR3 := hid r3
  clear r3
  go_wp2_with (go_at_call 31; refine (HN.out _).mono ?_)
  rintro e w4 ⟨rfl, b4⟩
  have R0 := hid ((b4.block _ (Array.getElem?_eq_some_iff.1 HR3.out).1).trans HR3.out)
  have B0 := hid (B3.out.trans (b4.mono B3.out.size))
  clear b4 HR3 B3 c0
  go_wp2
  go_loopw [6, 7] (fun i u7 wr => ∃ k : Nat, k ≤ L.size ∧ i = .int .i64 k ∧ Hid (wr.heap[w.heap.size]? = some (.cells (row f) 31)) ∧ Hid (Below w.heap.size w wr) ∧ Hid (∀ i, i < k → (alln K).getD i 0 ≤ 3 → slt (f ((alln K).getD i 0)) = true)) (fun i _ _ => L.size - (intOf i).toNat)
  case atStart => exact ⟨0, by omega, rfl, R0, B0, hid (fun i hi => by omega)⟩
  case round =>
    clear R0 B0
    obtain ⟨k, hk, rfl, R0, B0, HZ⟩ := hrel
    by_cases hlt : k < L.size
    · have hK : k < (alln K).length := by rw [← HLS.out, ← HLE.out]; exact hlt
      have hA := HA.out k hK
      have hix : L[k]'hlt = lett ((alln K).getD k 0) := by
        have h1 := HL.out k
        exact h1 hlt
      have HJ := hid (fun (h : (alln K).getD k 0 ≤ 3 → slt (f ((alln K).getD k 0)) = true) i (hi : i < k + 1) => show (alln K).getD i 0 ≤ 3 → slt (f ((alln K).getD i 0)) = true by
        by_cases e : i = k
        · subst e; exact h
        · exact HZ.out i (by omega))
      generalize (alln K).getD k 0 = j at hA hix HJ
      obtain ⟨v, hv⟩ : ∃ v, v = f j := ⟨_, rfl⟩
      have CG := hid (fun W => show Calls Tryd.prog 32 #[opV f, .int .u8 (((L[k]'hlt).toNat : Nat) : Int)] W (fun e w' => e = .returned (.int .i64 v) ∧ Below W.heap.size W w') by rw [hix, hv]; exact get_l j f _ (by omega) (by omega))
      have C1 := hid (fun d os => Calls.regrown_of (CG.out (grow (redrawn wr d) os)))
      have hc0 : ((L[k]'hlt).toNat : Int) = ((lett j).toNat : Int) := by rw [hix]
      have HA := hid hA
      have HV := hid hv
      clear hix hv hK
      have c0 := cell_regrown (at_row R0.out 0 rfl)
      have c1 := cell_regrown (at_row R0.out 1 rfl)
      have c2 := cell_regrown (at_row R0.out 2 rfl)
      have c3 := cell_regrown (at_row R0.out 3 rfl)
      have c4 := cell_regrown (at_row R0.out 4 rfl)
      have c5 := cell_regrown (at_row R0.out 5 rfl)
      have c6 := cell_regrown (at_row R0.out 6 rfl)
      have c7 := cell_regrown (at_row R0.out 7 rfl)
      have hj : j = 1 ∨ j = 2 ∨ j = 3 ∨ 4 ≤ j := by omega
      clear hA
      rcases hj with rfl | rfl | rfl | hj
      · have e0 := hc0
        have e65 : (((L[k]'hlt).toNat : Int) == 65) = true := by rw [hc0]; rfl
        have e66 : (((L[k]'hlt).toNat : Int) == 66) = false := by rw [hc0]; rfl
        have e67 : (((L[k]'hlt).toNat : Int) == 67) = false := by rw [hc0]; rfl
        clear e0 hc0
        by_cases h0 : v < 0
        · have HF : Hid (chk ss f = 181) := hid (HSL.out 1 (by omega) (by omega) (by rw [← HV.out]; simp [slt]; omega))
          go_wp2
          refine wp_region_quiet_below (by kernel_rfl) (by kernel_rfl) ?_
          repeat (go_big_quiet_step ((first | (go_at_call 32; exact C1.out _ _))))
          refine wpQuiet_nil ?_
          intro _ hw'
          obtain ⟨⟨dq, osq⟩, hw''⟩ := hw'
          subst hw''
          have bq := below_regrown wr dq osq
          have BQ := hid (B0.out.trans (bq.mono B0.out.size))
          have R1 := hid ((bq.block _ (Array.getElem?_eq_some_iff.1 R0.out).1).trans R0.out)
          clear bq R0 B0 c0 c1 c2 c3 c4 c5 c6 c7
          generalize grow (redrawn wr dq) osq = U at *
          go_wp2
          go_ret
          exact ⟨ret_int HF.out.symm, BQ.out⟩
        · have h0' : 0 ≤ v := by omega
          clear h0
          by_cases h5 : 5 < v
          · have HF : Hid (chk ss f = 181) := hid (HSL.out 1 (by omega) (by omega) (by rw [← HV.out]; simp [slt]; omega))
            go_wp2
            refine wp_region_quiet_below (by kernel_rfl) (by kernel_rfl) ?_
            repeat (go_big_quiet_step ((first | (go_at_call 32; exact C1.out _ _))))
            refine wpQuiet_nil ?_
            intro _ hw'
            obtain ⟨⟨dq, osq⟩, hw''⟩ := hw'
            subst hw''
            have bq := below_regrown wr dq osq
            have BQ := hid (B0.out.trans (bq.mono B0.out.size))
            have R1 := hid ((bq.block _ (Array.getElem?_eq_some_iff.1 R0.out).1).trans R0.out)
            clear bq R0 B0 c0 c1 c2 c3 c4 c5 c6 c7
            generalize grow (redrawn wr dq) osq = U at *
            go_wp2
            go_ret
            exact ⟨ret_int HF.out.symm, BQ.out⟩
          · have h5' : v ≤ 5 := by omega
            clear h5
            have HNX := hid (HJ.out (fun _ => by rw [← HV.out]; simp [slt]; omega))
            go_wp2
            refine wp_region_quiet_below (by kernel_rfl) (by kernel_rfl) ?_
            repeat (go_big_quiet_step ((first | (go_at_call 32; exact C1.out _ _))))
            refine wpQuiet_nil ?_
            intro _ hw'
            obtain ⟨⟨dq, osq⟩, hw''⟩ := hw'
            subst hw''
            have bq := below_regrown wr dq osq
            have BQ := hid (B0.out.trans (bq.mono B0.out.size))
            have R1 := hid ((bq.block _ (Array.getElem?_eq_some_iff.1 R0.out).1).trans R0.out)
            clear bq R0 B0 c0 c1 c2 c3 c4 c5 c6 c7
            generalize grow (redrawn wr dq) osq = U at *
            go_wp2
            exact ⟨⟨k + 1, by omega, by go_num, R1, BQ, HNX⟩, by simp [intOf]; omega⟩
      · have e0 := hc0
        have e65 : (((L[k]'hlt).toNat : Int) == 65) = false := by rw [hc0]; rfl
        have e66 : (((L[k]'hlt).toNat : Int) == 66) = true := by rw [hc0]; rfl
        have e67 : (((L[k]'hlt).toNat : Int) == 67) = false := by rw [hc0]; rfl
        clear e0 hc0
        by_cases h0 : v < 0
        · have HF : Hid (chk ss f = 181) := hid (HSL.out 2 (by omega) (by omega) (by rw [← HV.out]; simp [slt]; omega))
          go_wp2
          refine wp_region_quiet_below (by kernel_rfl) (by kernel_rfl) ?_
          repeat (go_big_quiet_step ((first | (go_at_call 32; exact C1.out _ _))))
          refine wpQuiet_nil ?_
          intro _ hw'
          obtain ⟨⟨dq, osq⟩, hw''⟩ := hw'
          subst hw''
          have bq := below_regrown wr dq osq
          have BQ := hid (B0.out.trans (bq.mono B0.out.size))
          have R1 := hid ((bq.block _ (Array.getElem?_eq_some_iff.1 R0.out).1).trans R0.out)
          clear bq R0 B0 c0 c1 c2 c3 c4 c5 c6 c7
          generalize grow (redrawn wr dq) osq = U at *
          go_wp2
          go_ret
          exact ⟨ret_int HF.out.symm, BQ.out⟩
        · have h0' : 0 ≤ v := by omega
          clear h0
          by_cases h5 : 5 < v
          · have HF : Hid (chk ss f = 181) := hid (HSL.out 2 (by omega) (by omega) (by rw [← HV.out]; simp [slt]; omega))
            go_wp2
            refine wp_region_quiet_below (by kernel_rfl) (by kernel_rfl) ?_
            repeat (go_big_quiet_step ((first | (go_at_call 32; exact C1.out _ _))))
            refine wpQuiet_nil ?_
            intro _ hw'
            obtain ⟨⟨dq, osq⟩, hw''⟩ := hw'
            subst hw''
            have bq := below_regrown wr dq osq
            have BQ := hid (B0.out.trans (bq.mono B0.out.size))
            have R1 := hid ((bq.block _ (Array.getElem?_eq_some_iff.1 R0.out).1).trans R0.out)
            clear bq R0 B0 c0 c1 c2 c3 c4 c5 c6 c7
            generalize grow (redrawn wr dq) osq = U at *
            go_wp2
            go_ret
            exact ⟨ret_int HF.out.symm, BQ.out⟩
          · have h5' : v ≤ 5 := by omega
            clear h5
            have HNX := hid (HJ.out (fun _ => by rw [← HV.out]; simp [slt]; omega))
            go_wp2
            refine wp_region_quiet_below (by kernel_rfl) (by kernel_rfl) ?_
            repeat (go_big_quiet_step ((first | (go_at_call 32; exact C1.out _ _))))
            refine wpQuiet_nil ?_
            intro _ hw'
            obtain ⟨⟨dq, osq⟩, hw''⟩ := hw'
            subst hw''
            have bq := below_regrown wr dq osq
            have BQ := hid (B0.out.trans (bq.mono B0.out.size))
            have R1 := hid ((bq.block _ (Array.getElem?_eq_some_iff.1 R0.out).1).trans R0.out)
            clear bq R0 B0 c0 c1 c2 c3 c4 c5 c6 c7
            generalize grow (redrawn wr dq) osq = U at *
            go_wp2
            exact ⟨⟨k + 1, by omega, by go_num, R1, BQ, HNX⟩, by simp [intOf]; omega⟩
      · have e0 := hc0
        have e65 : (((L[k]'hlt).toNat : Int) == 65) = false := by rw [hc0]; rfl
        have e66 : (((L[k]'hlt).toNat : Int) == 66) = false := by rw [hc0]; rfl
        have e67 : (((L[k]'hlt).toNat : Int) == 67) = true := by rw [hc0]; rfl
        clear e0 hc0
        by_cases h0 : v < 0
        · have HF : Hid (chk ss f = 181) := hid (HSL.out 3 (by omega) (by omega) (by rw [← HV.out]; simp [slt]; omega))
          go_wp2
          refine wp_region_quiet_below (by kernel_rfl) (by kernel_rfl) ?_
          repeat (go_big_quiet_step ((first | (go_at_call 32; exact C1.out _ _))))
          refine wpQuiet_nil ?_
          intro _ hw'
          obtain ⟨⟨dq, osq⟩, hw''⟩ := hw'
          subst hw''
          have bq := below_regrown wr dq osq
          have BQ := hid (B0.out.trans (bq.mono B0.out.size))
          have R1 := hid ((bq.block _ (Array.getElem?_eq_some_iff.1 R0.out).1).trans R0.out)
          clear bq R0 B0 c0 c1 c2 c3 c4 c5 c6 c7
          generalize grow (redrawn wr dq) osq = U at *
          go_wp2
          go_ret
          exact ⟨ret_int HF.out.symm, BQ.out⟩
        · have h0' : 0 ≤ v := by omega
          clear h0
          by_cases h5 : 5 < v
          · have HF : Hid (chk ss f = 181) := hid (HSL.out 3 (by omega) (by omega) (by rw [← HV.out]; simp [slt]; omega))
            go_wp2
            refine wp_region_quiet_below (by kernel_rfl) (by kernel_rfl) ?_
            repeat (go_big_quiet_step ((first | (go_at_call 32; exact C1.out _ _))))
            refine wpQuiet_nil ?_
            intro _ hw'
            obtain ⟨⟨dq, osq⟩, hw''⟩ := hw'
            subst hw''
            have bq := below_regrown wr dq osq
            have BQ := hid (B0.out.trans (bq.mono B0.out.size))
            have R1 := hid ((bq.block _ (Array.getElem?_eq_some_iff.1 R0.out).1).trans R0.out)
            clear bq R0 B0 c0 c1 c2 c3 c4 c5 c6 c7
            generalize grow (redrawn wr dq) osq = U at *
            go_wp2
            go_ret
            exact ⟨ret_int HF.out.symm, BQ.out⟩
          · have h5' : v ≤ 5 := by omega
            clear h5
            have HNX := hid (HJ.out (fun _ => by rw [← HV.out]; simp [slt]; omega))
            go_wp2
            refine wp_region_quiet_below (by kernel_rfl) (by kernel_rfl) ?_
            repeat (go_big_quiet_step ((first | (go_at_call 32; exact C1.out _ _))))
            refine wpQuiet_nil ?_
            intro _ hw'
            obtain ⟨⟨dq, osq⟩, hw''⟩ := hw'
            subst hw''
            have bq := below_regrown wr dq osq
            have BQ := hid (B0.out.trans (bq.mono B0.out.size))
            have R1 := hid ((bq.block _ (Array.getElem?_eq_some_iff.1 R0.out).1).trans R0.out)
            clear bq R0 B0 c0 c1 c2 c3 c4 c5 c6 c7
            generalize grow (redrawn wr dq) osq = U at *
            go_wp2
            exact ⟨⟨k + 1, by omega, by go_num, R1, BQ, HNX⟩, by simp [intOf]; omega⟩
      · have HNX := hid (HJ.out (fun h => by omega))
        have hjj : j = 4 ∨ j = 5 ∨ j = 6 ∨ j = 7 := by have := HA.out; omega
        have e65 : (((L[k]'hlt).toNat : Int) == 65) = false := by rw [hc0]; rcases hjj with rfl | rfl | rfl | rfl <;> rfl
        have e66 : (((L[k]'hlt).toNat : Int) == 66) = false := by rw [hc0]; rcases hjj with rfl | rfl | rfl | rfl <;> rfl
        have e67 : (((L[k]'hlt).toNat : Int) == 67) = false := by rw [hc0]; rcases hjj with rfl | rfl | rfl | rfl <;> rfl
        clear hc0 hjj hj
        go_wp2
        refine wp_region_quiet_below (by kernel_rfl) (by kernel_rfl) ?_
        repeat (go_big_quiet_step ((first | (go_at_call 32; exact C1.out _ _))))
        refine wpQuiet_nil ?_
        intro _ hw'
        obtain ⟨⟨dq, osq⟩, hw''⟩ := hw'
        subst hw''
        have bq := below_regrown wr dq osq
        have BQ := hid (B0.out.trans (bq.mono B0.out.size))
        have R1 := hid ((bq.block _ (Array.getElem?_eq_some_iff.1 R0.out).1).trans R0.out)
        clear bq R0 B0 c0 c1 c2 c3 c4 c5 c6 c7
        generalize grow (redrawn wr dq) osq = U at *
        go_wp2
        exact ⟨⟨k + 1, by omega, by go_num, R1, BQ, HNX⟩, by simp [intOf]; omega⟩
    · have HP := hid (HPA.out (fun i hi => HZ.out i (by have := HLS.out; rw [← HLE.out] at this; omega)))
      clear HZ HPA
      have c0 := at_row R0.out 0 rfl
      have c5 := at_row R0.out 5 rfl
      have c6 := at_row R0.out 6 rfl
      have c7 := at_row R0.out 7 rfl
      by_cases h1 : K = 1
      · have HF : Hid (chk ss f = (sz ss (f 5)).2) := hid (HP.out.trans (HP1.out h1))
        have e0 : (f 0 == 1) = true := by rw [HKK.out, h1]; rfl
        clear h1
        go_wp2_with (go_at_call 33; refine (cz.out _ B0.out).mono ?_; rintro e w5 ⟨rfl, rfl⟩)
        go_ret
        exact ⟨ret_int HF.out.symm, B0.out⟩
      · have HF := hid (HP.out.trans (HP2.out h1))
        have e0 : (f 0 == 1) = false := by
          rw [beq_eq_false_iff_ne, HKK.out]; omega
        clear h1
        by_cases g0 : f 6 < -576460752303423488
        · skip
          have HG : Hid (chk ss f = 182) := hid (by rw [HF.out, if_pos (by simp [scl]; omega)])
          clear HF
          go_wp2
          go_ret
          exact ⟨ret_int HG.out.symm, B0.out⟩
        · have g0' : -576460752303423488 ≤ f 6 := by omega
          clear g0
          by_cases g1 : 576460752303423487 < f 6
          · skip
            have HG : Hid (chk ss f = 182) := hid (by rw [HF.out, if_pos (by simp [scl]; omega)])
            clear HF
            go_wp2
            go_ret
            exact ⟨ret_int HG.out.symm, B0.out⟩
          · have g1' : f 6 ≤ 576460752303423487 := by omega
            clear g1
            by_cases g2 : f 7 < -576460752303423488
            · skip
              have HG : Hid (chk ss f = 182) := hid (by rw [HF.out, if_pos (by simp [scl]; omega)])
              clear HF
              go_wp2
              go_ret
              exact ⟨ret_int HG.out.symm, B0.out⟩
            · have g2' : -576460752303423488 ≤ f 7 := by omega
              clear g2
              by_cases g3 : 576460752303423487 < f 7
              · skip
                have HG : Hid (chk ss f = 182) := hid (by rw [HF.out, if_pos (by simp [scl]; omega)])
                clear HF
                go_wp2
                go_ret
                exact ⟨ret_int HG.out.symm, B0.out⟩
              · have g3' : f 7 ≤ 576460752303423487 := by omega
                clear g3
                have HG : Hid (chk ss f = 0) := hid (by rw [HF.out, if_neg (by simp [scl]; omega)])
                clear HF
                go_wp2
                go_ret
                exact ⟨ret_int HG.out.symm, B0.out⟩
theorem rCheck_any (f : Nat → Int) (a : Option Addr) (n c : Nat) (ss : List ByteArray) (w : World) (hT : IsTab w (.slice a n c) ss) :
    Calls Tryd.prog 14 #[.slice a n c, opV f] w fun e w' => e = .returned (.int .i64 (chk ss f)) ∧ Below w.heap.size w w' := by
  by_cases hr : right ss = false
  · rw [chk, if_pos hr]; exact rCheck_arg f a n c ss w hT hr
  · have hr' : right ss = true := by simpa using hr
    by_cases hb : bare f = false
    · rw [chk, if_neg hr, if_pos hb]; exact rCheck_op f a n c ss w hT hr' hb
    · have hb' : bare f = true := by simpa using hb
      obtain ⟨K, hK, k1, k2⟩ := kin_nat ((bare_iff f).1 hb').1
      exact rCheck_bare K f a n c ss w hT hr' hb' k1 k2 hK
end Go.Proofs.YtfnnckbdaedlbaaDoor
