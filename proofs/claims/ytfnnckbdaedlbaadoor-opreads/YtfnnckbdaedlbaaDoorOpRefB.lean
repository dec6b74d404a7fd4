/- the document's functions of layer 8: Bare, Field. -/
import Derived.Test.YtfnnckbdaedlbaaDoorOpRefA
namespace Go.Proofs.YtfnnckbdaedlbaaDoor
open Go.RowKit Go.Oq Go.Sort Go.Sh
def allS : ByteArray := ⟨#[65, 66, 67, 102, 115, 88, 89]⟩
theorem allS_size : allS.size = 7 := rfl
theorem allS_at (k : Nat) (h : k < allS.size) : allS[k]'h = lett (k + 1) := by
  have h7 : k < 7 := h
  have : k = 0 ∨ k = 1 ∨ k = 2 ∨ k = 3 ∨ k = 4 ∨ k = 5 ∨ k = 6 := by omega
  rcases this with rfl | rfl | rfl | rfl | rfl | rfl | rfl <;> rfl
theorem has_lets {K j : Nat} (k1 : 1 ≤ K) (k2 : K ≤ 11) (h1 : 1 ≤ j) (h7 : j ≤ 7) : hasL (lets K) (lett j) = (alln K).contains j := by
  have : j = 1 ∨ j = 2 ∨ j = 3 ∨ j = 4 ∨ j = 5 ∨ j = 6 ∨ j = 7 := by omega
  rcases eleven k1 k2 with rfl | rfl | rfl | rfl | rfl | rfl | rfl | rfl | rfl | rfl | rfl <;>
  rcases this with rfl | rfl | rfl | rfl | rfl | rfl | rfl <;> rfl
theorem lets_small (K : Nat) : (lets K).size ≤ 4 := by rw [lets_size]; exact alln_len K
theorem bare_false {f : Nat → Int} {j : Nat} (h1 : 1 ≤ j) (h7 : j ≤ 7) (hj : j ∉ alln (f 0).toNat) (h : f j ≠ 0) : bare f = false := by
  cases hb : bare f with
  | false => rfl
  | true => exact absurd (((bare_iff f).1 hb).2 j h1 (by omega) hj) h
theorem opV_cells (w : World) (f : Nat → Int) (t : TypeId) : (w.alloc (.cells (row f) t)).heap[w.heap.size]? = some (.cells (row f) t) := heap_alloc_last w _
set_option maxHeartbeats 2000000 in
theorem rBare_out (f : Nat → Int) (w : World) (hk : kin (f 0) = false) : Calls Tryd.prog 16 #[opV f] w fun e w' => e = .returned (.bool (bare f)) ∧ Below w.heap.size w w' := by
  have HB : Hid (bare f = false) := hid (by rw [bare, hk]; rfl)
  by_cases h1 : f 0 < 1
  · clear hk
    go_enter Tryd.func16, Tryd.ntmps16
    go_wp2
    go_ret
    exact ⟨ret_bool HB.out.symm, below_alloc0 w _⟩
  · have h2 : 1 ≤ f 0 := by omega
    have h3 : 11 < f 0 := by
      simp [kin] at hk; omega
    clear hk h1
    go_enter Tryd.func16, Tryd.ntmps16
    go_wp2
    go_ret
    exact ⟨ret_bool HB.out.symm, below_alloc0 w _⟩
set_option maxRecDepth 100000 in
set_option maxHeartbeats 8000000 in
theorem rBare_in (K : Nat) (f : Nat → Int) (w : World) (k1 : 1 ≤ K) (k2 : K ≤ 11) (hK : f 0 = (K : Int)) : Calls Tryd.prog 16 #[opV f] w fun e w' => e = .returned (.bool (bare f)) ∧ Below w.heap.size w w' := by
  have i1 : 1 ≤ (K : Int) := by omega
  have i2 : (K : Int) ≤ 11 := by omega
  have HK : Hid (f 0 = (K : Int)) := hid hK
  have HN : Hid (∀ W, Calls Tryd.prog 31 #[.int .i64 (f 0)] W fun e w' => e = .returned (.string (lets K)) ∧ Below W.heap.size W w') := hid (fun W => by rw [hK]; exact names_yes K W k1 k2)
  have HL : Hid (∀ j, 1 ≤ j → j ≤ 7 → hasL (lets K) (lett j) = (alln K).contains j) := hid (fun j => has_lets k1 k2)
  have HT : Hid ((f 0).toNat = K) := hid (by omega)
  have HKI : Hid (kin (f 0) = true) := hid (by rw [hK]; simp [kin]; omega)
  rw [← hK] at i1 i2
  have HS := hid (lets_small K)
  clear hK k1 k2
  go_enter Tryd.func16, Tryd.ntmps16
  go_wp2
  obtain ⟨W, hW⟩ : ∃ W, W = w.alloc (.cells (row f) 31) := ⟨_, rfl⟩
  have R0 : Hid (W.heap[w.heap.size]? = some (.cells (row f) 31)) := hid (by rw [hW]; exact heap_alloc_last w _)
  have B0 : Hid (Below w.heap.size w W) := hid (by rw [hW]; exact below_alloc0 w _)
  have HW := hid hW
  rw [← hW]
  obtain ⟨S, hS⟩ : ∃ S, S = allS := ⟨_, rfl⟩
  have hSL : (⟨#[65, 66, 67, 102, 115, 88, 89]⟩ : ByteArray) = S := hS.symm
  have h7 : S.size = 7 := by rw [hS]; rfl
  have hat : Hid (∀ k (h : k < S.size), S[k]'h = lett (k + 1)) := hid (by subst hS; exact allS_at)
  rw [hSL]
  clear hSL hS hW
  have HS7 := hid h7
  have h7i : (S.size : Int) = 7 := by omega
  clear h7
  go_loopw [5] (fun i wr => ∃ k : Nat, k ≤ 7 ∧ i = .int .i64 k ∧ Hid (wr.heap[w.heap.size]? = some (.cells (row f) 31)) ∧ Hid (Below w.heap.size w wr) ∧ Hid (∀ j, 1 ≤ j → j ≤ k → j ∉ alln K → f j = 0)) (fun i _ => 7 - (intOf i).toNat)
  case atStart => exact ⟨0, by omega, rfl, R0, B0, hid (fun j h1 h2 => by omega)⟩
  case round =>
    clear R0 B0 HW
    obtain ⟨k, hk, rfl, R0, B0, HZ⟩ := hrel
    by_cases hlt : k < 7
    · have hlt' : k < S.size := by rw [HS7.out]; exact hlt
      have hix := hat.out k hlt'
      obtain ⟨b, hb⟩ : ∃ b, b = hasL (lets K) (S[k]'hlt') := ⟨_, rfl⟩
      have HBB : Hid (b = (alln K).contains (k + 1)) := hid (by rw [hb, hix]; exact HL.out (k + 1) (by omega) (by omega))
      have CN := hid (fun d os => Calls.regrown_of (HN.out (grow (redrawn wr d) os)))
      have CM : Hid (∀ d os, _) := hid (fun d os => Calls.regrown_of (Calls.mono (rnamed_any (lets K) (S[k]'hlt') (grow (redrawn wr d) os) (by have := HS.out; omega)) (R' := fun e w' => e = .returned (.bool b) ∧ Below (grow (redrawn wr d) os).heap.size (grow (redrawn wr d) os) w') (by rintro e w' ⟨rfl, rfl⟩; exact ⟨by rw [hb], Below.refl _ _⟩)))
      have CG : Hid (∀ d os, _) := hid (fun d os => Calls.regrown_of (show Calls Tryd.prog 32 #[opV f, .int .u8 (((S[k]'hlt').toNat : Nat) : Int)] (grow (redrawn wr d) os) (fun e w' => e = .returned (.int .i64 (f (k + 1))) ∧ Below (grow (redrawn wr d) os).heap.size (grow (redrawn wr d) os) w') by rw [hix]; exact get_l (k + 1) f _ (by omega) (by omega)))
      have c0 := cell_regrown (at_row R0.out 0 rfl)
      have c1 := cell_regrown (at_row R0.out 1 rfl)
      have c2 := cell_regrown (at_row R0.out 2 rfl)
      have c3 := cell_regrown (at_row R0.out 3 rfl)
      have c4 := cell_regrown (at_row R0.out 4 rfl)
      have c5 := cell_regrown (at_row R0.out 5 rfl)
      have c6 := cell_regrown (at_row R0.out 6 rfl)
      have c7 := cell_regrown (at_row R0.out 7 rfl)
      clear hb hix
      obtain ⟨v, hv⟩ : ∃ v, v = f (k + 1) := ⟨_, rfl⟩
      rw [← hv] at CG
      have HV := hid hv
      clear hv
      cases b
      · by_cases h0 : v = 0
        · have h0b : (v != 0) = false := by simp [h0]
          have HZ2 : Hid (∀ j, 1 ≤ j → j ≤ k + 1 → j ∉ alln K → f j = 0) := hid (fun j h1 h2 h3 => by
            by_cases e : j = k + 1
            · rw [e, ← HV.out, h0]
            · exact HZ.out j h1 (by omega) h3)
          clear h0
          go_wp2
          refine wp_region_quiet_below (by kernel_rfl) (by kernel_rfl) ?_
          repeat (go_big_quiet_step ((first | (go_at_call 31; exact CN.out _ _) | (go_at_call 37; exact CM.out _ _) | (go_at_call 32; exact CG.out _ _))))
          refine wpQuiet_nil ?_
          intro _ hw'
          obtain ⟨⟨dq, osq⟩, hw''⟩ := hw'
          subst hw''
          have bq := below_regrown wr dq osq
          have BQ := hid (B0.out.trans (bq.mono B0.out.size))
          have R1 := hid ((bq.block _ (Array.getElem?_eq_some_iff.1 R0.out).1).trans R0.out)
          clear bq R0 B0 c0 c1 c2 c3 c4 c5 c6 c7
          generalize grow (redrawn wr dq) osq = U at *
          go_wp2
          exact ⟨⟨k + 1, by omega, by go_num, R1, BQ, HZ2⟩, by simp [intOf]; omega⟩
        · have h0b : (v != 0) = true := by simp [h0]
          have HF : Hid (bare f = false) := hid (bare_false (j := k + 1) (by omega) (by omega) (by
            rw [HT.out]
            intro h
            have := HBB.out
            rw [List.contains_iff_mem.2 h] at this
            cases this) (by rw [← HV.out]; exact h0))
          clear h0
          go_wp2
          refine wp_region_quiet_below (by kernel_rfl) (by kernel_rfl) ?_
          repeat (go_big_quiet_step ((first | (go_at_call 31; exact CN.out _ _) | (go_at_call 37; exact CM.out _ _) | (go_at_call 32; exact CG.out _ _))))
          refine wpQuiet_nil ?_
          intro _ hw'
          obtain ⟨⟨dq, osq⟩, hw''⟩ := hw'
          subst hw''
          have bq := below_regrown wr dq osq
          have BQ := hid (B0.out.trans (bq.mono B0.out.size))
          have R1 := hid ((bq.block _ (Array.getElem?_eq_some_iff.1 R0.out).1).trans R0.out)
          clear bq R0 B0 c0 c1 c2 c3 c4 c5 c6 c7
          generalize grow (redrawn wr dq) osq = U at *
          go_wp2
          go_ret
          exact ⟨ret_bool HF.out.symm, BQ.out⟩
      · have HZ2 : Hid (∀ j, 1 ≤ j → j ≤ k + 1 → j ∉ alln K → f j = 0) := hid (fun j h1 h2 h3 => by
          by_cases e : j = k + 1
          · have := HBB.out
            rw [← e] at this
            exact absurd (List.contains_iff_mem.1 this.symm) h3
          · exact HZ.out j h1 (by omega) h3)
        go_wp2
        refine wp_region_quiet_below (by kernel_rfl) (by kernel_rfl) ?_
        repeat (go_big_quiet_step ((first | (go_at_call 31; exact CN.out _ _) | (go_at_call 37; exact CM.out _ _) | (go_at_call 32; exact CG.out _ _))))
        refine wpQuiet_nil ?_
        intro _ hw'
        obtain ⟨⟨dq, osq⟩, hw''⟩ := hw'
        subst hw''
        have bq := below_regrown wr dq osq
        have BQ := hid (B0.out.trans (bq.mono B0.out.size))
        have R1 := hid ((bq.block _ (Array.getElem?_eq_some_iff.1 R0.out).1).trans R0.out)
        clear bq R0 B0 c0 c1 c2 c3 c4 c5 c6 c7
        generalize grow (redrawn wr dq) osq = U at *
        go_wp2
        exact ⟨⟨k + 1, by omega, by go_num, R1, BQ, HZ2⟩, by simp [intOf]; omega⟩
    · have HF : Hid (bare f = true) := hid ((bare_iff f).2 ⟨HKI.out, fun i h1 h8 hi => HZ.out i h1 (by omega) (by rwa [HT.out] at hi)⟩)
      go_wp2
      go_ret
      exact ⟨ret_bool HF.out.symm, B0.out⟩
theorem rBare_any (f : Nat → Int) (w : World) : Calls Tryd.prog 16 #[opV f] w fun e w' => e = .returned (.bool (bare f)) ∧ Below w.heap.size w w' := by
  by_cases hk : kin (f 0) = true
  · obtain ⟨K, hK, k1, k2⟩ := kin_nat hk
    exact rBare_in K f w k1 k2 hK
  · exact rBare_out f w (by simpa using hk)
/-- What Field answers. -/
def fwant (k : Int) : Int := if k < 2 then -1 else if 7 < k then -1 else (k - 2) / 3
set_option maxHeartbeats 2000000 in
theorem rField_any (f : Nat → Int) (w : World) (h0 : -9223372036854775808 ≤ f 0) (h9 : f 0 ≤ 9223372036854775807) : Calls Tryd.prog 11 #[opV f] w fun e w' => e = .returned (.int .i64 (fwant (f 0))) ∧ Below w.heap.size w w' := by
  by_cases h1 : f 0 < 2
  · have HB : Hid (fwant (f 0) = -1) := hid (if_pos h1)
    go_enter Tryd.func11, Tryd.ntmps11
    go_wp2
    go_ret
    exact ⟨ret_int HB.out.symm, below_alloc0 w _⟩
  · have h2 : 2 ≤ f 0 := by omega
    by_cases h7 : 7 < f 0
    · have HB : Hid (fwant (f 0) = -1) := hid (by rw [fwant, if_neg h1, if_pos h7])
      clear h1
      go_enter Tryd.func11, Tryd.ntmps11
      go_wp2
      go_ret
      exact ⟨ret_int HB.out.symm, below_alloc0 w _⟩
    · have h7' : f 0 ≤ 7 := by omega
      have HB : Hid (fwant (f 0) = (f 0 - 2) / 3) := hid (by rw [fwant, if_neg h1, if_neg h7])
      clear h1 h7
      go_enter Tryd.func11, Tryd.ntmps11
      go_wp2
      go_ret
      exact ⟨ret_int HB.out.symm, below_alloc0 w _⟩
end Go.Proofs.YtfnnckbdaedlbaaDoor
