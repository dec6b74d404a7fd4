/- laws of layer 8: Text. Typed by tools/gen08lawx.py. -/
import Derived.Test.YtfnnckbdaedlbaaDoorOpLawT
import Derived.Test.YtfnnckbdaedlbaaDoorOpRefXOn
import Derived.Test.YtfnnckbdaedlbaaDoorOpWorksMOn
set_option linter.unusedVariables false
namespace Go.Proofs.YtfnnckbdaedlbaaDoor
open Go.RowKit Go.Oq Go.Sort Go.Sh
theorem txt_size {f : Nat → Int} (hr : rng f) : (txt f).size ≤ 100000 := by
  have h1 := jq_le (wds f) (wds_size hr) ((wds f).length - 1)
  rw [jq_all (wds f) (by rw [wds_len]; omega)] at h1
  have h2 := alln_len (f 0).toNat
  rw [wds_len] at h1
  show (jn ((wds f).map (·.data.toList))).length ≤ 100000
  omega
theorem sam_self (f : Nat → Int) : sam f f = true := (sam_iff f f).2 (fun _ _ => rfl)
set_option maxRecDepth 100000 in
set_option maxHeartbeats 16000000 in
theorem opTexts_walk (a : Option Addr) (len cap : Nat) (w : World) (hE : Lib3 w) (hO : IsOps w a len) :
    Calls Tryd.prog 4 #[.slice a len cap] w fun e w' => e = .returned (.bool true) ∧ Below w.heap.size w w' := by
  have HE := hid hE
  have HO := hid hO
  clear hE hO
  by_cases hlen : len ≤ 60
  · have hli : (len : Int) ≤ 60 := by omega
    go_enter Tryd.func4, Tryd.ntmps4
    go_wp2
    go_loopw [3, 4, 5, 6, 7] (fun i u4 u5 u6 u7 wr => ∃ k : Nat, k ≤ len ∧ i = .int .i64 k ∧ Hid (Below w.heap.size w wr)) (fun i _ _ _ _ _ => len - (intOf i).toNat)
    case atStart => exact ⟨0, by omega, rfl, hid (Below.refl _ w)⟩
    case round =>
      obtain ⟨k, hk, rfl, B0⟩ := hrel
      by_cases hlt : k < len
      · obtain ⟨b, off, f, rfl, hc, hf⟩ := HO.out k hlt
        have HF := hid hf
        obtain ⟨g, hg⟩ : ∃ g, g = off + k * 8 := ⟨_, rfl⟩
        rw [← hg] at hc
        have HG := hid hg
        have HS := hid (opS_below hc B0.out)
        have C1 := hid (fun W (bw : Below w.heap.size w W) => oText_any f W (tab_below HE.out.1 bw) hf)
        have C2 := hid (fun W => rBare_any f W)
        clear hc hg
        by_cases hb : bare f = true
        · obtain ⟨K, hK, k1, k2⟩ := kin_nat ((bare_iff f).1 hb).1
          obtain ⟨T, hT⟩ : ∃ T, T = txt f := ⟨_, rfl⟩
          have C3 := hid (fun W (bw : Below w.heap.size w W) => oRead_txt f T W (HE.out.below bw) (by rw [hT]; exact txt_size hf) hb hf hT.symm)
          have C4 := hid (fun W => rText_any K f W k1 k2 hK hf)
          have heq := fun W => op_equal f f W
          rw [sam_self] at heq
          rw [hb, if_pos rfl, if_pos rfl, ← hT] at C1
          rw [hb] at C2
          rw [← hT] at C4
          have hTT : (T.toList != T.toList) = false := by simp
          clear hb hK k1 k2 hT hf
          obtain ⟨s0, s1, s2, s3, s4, s5, s6, s7⟩ := HS.out
          rw [HG.out] at s0 s1 s2 s3 s4 s5 s6 s7
          go_wp2_with (go_at_call 15; refine (C1.out _ B0.out).mono ?_)
          rintro e w1 ⟨rfl, b⟩
          have B1 := hid (B0.out.trans (b.mono B0.out.size))
          have HS1 := hid (opS_below HS.out b)
          clear b B0 HS s0 s1 s2 s3 s4 s5 s6 s7
          obtain ⟨s0, s1, s2, s3, s4, s5, s6, s7⟩ := HS1.out
          rw [HG.out] at s0 s1 s2 s3 s4 s5 s6 s7
          go_wp2_with (go_at_call 16; refine (C2.out _).mono ?_)
          rintro e w2 ⟨rfl, b⟩
          have B2 := hid (B1.out.trans (b.mono B1.out.size))
          have HS2 := hid (opS_below HS1.out b)
          clear b B1 HS1 s0 s1 s2 s3 s4 s5 s6 s7
          go_wp2_with (go_at_call 17; refine (C3.out _ B2.out).mono ?_)
          rintro e w3 ⟨rfl, b⟩
          have B3 := hid ((B2.out.trans (b.mono B2.out.size)).alloc (B2.out.trans (b.mono B2.out.size)).size (.cells (row f) 31))
          have HS3 := hid (opS_below (opS_below HS2.out b) (below_alloc0 w3 (.cells (row f) 31)))
          obtain ⟨W3, hW3⟩ : ∃ W3, W3 = w3.alloc (.cells (row f) 31) := ⟨_, rfl⟩
          have R3 := hid (show W3.heap[w3.heap.size]? = some (.cells (row f) 31) by rw [hW3]; exact heap_alloc_last w3 _)
          rw [← hW3] at B3 HS3
          have HW3 := hid hW3
          clear b hW3 B2 HS2
          go_wp2_with (refine wpList_store_row rfl 31 _ _ rfl w3.heap.size (row f) rfl rfl 31 _ (heap_alloc_last w3 _) (op_size f) rfl (row_one f) ?_; rw [World.setRow_alloc_new, ← HW3.out]; refine unhid ?_)
          refine hid ?_
          have P3 := hid (show w3.heap.size = w3.heap.size from rfl)
          obtain ⟨pp, hpp⟩ : ∃ pp, pp = w3.heap.size := ⟨_, rfl⟩
          rw [← hpp] at R3 ⊢
          clear hpp P3 HW3
          have D4 := hid (fun d os => Calls.regrown_of (C4.out (grow (redrawn W3 d) os)))
          have D5 := hid (fun d os => Calls.regrown_of (Calls.mono (qnum_any 0 (grow (redrawn W3 d) os)) (R' := fun e w' => e = .returned (.int .i64 0) ∧ Below (grow (redrawn W3 d) os).heap.size (grow (redrawn W3 d) os) w') (by rintro e w' ⟨rfl, rfl⟩; exact ⟨rfl, Below.refl _ _⟩)))
          obtain ⟨s0, s1, s2, s3, s4, s5, s6, s7⟩ := HS3.out
          have c0 := cell_regrown s0
          have c1 := cell_regrown s1
          have c2 := cell_regrown s2
          have c3 := cell_regrown s3
          have c4 := cell_regrown s4
          have c5 := cell_regrown s5
          have c6 := cell_regrown s6
          have c7 := cell_regrown s7
          rw [HG.out] at c0 c1 c2 c3 c4 c5 c6 c7
          clear s0 s1 s2 s3 s4 s5 s6 s7
          have d0 := cell_regrown (at_row R3.out 0 rfl)
          have d1 := cell_regrown (at_row R3.out 1 rfl)
          have d2 := cell_regrown (at_row R3.out 2 rfl)
          have d3 := cell_regrown (at_row R3.out 3 rfl)
          have d4 := cell_regrown (at_row R3.out 4 rfl)
          have d5 := cell_regrown (at_row R3.out 5 rfl)
          have d6 := cell_regrown (at_row R3.out 6 rfl)
          have d7 := cell_regrown (at_row R3.out 7 rfl)
          go_wp2
          refine wp_region_quiet_below (by kernel_rfl) (by kernel_rfl) ?_
          repeat (go_big_quiet_step ((first | (go_at_call 18; exact D4.out _ _) | (go_at_call 12; exact D5.out _ _))))
          refine wpQuiet_nil ?_
          intro _ hw'
          obtain ⟨⟨dq, osq⟩, hw''⟩ := hw'
          subst hw''
          have bq := below_regrown W3 dq osq
          have B4 := hid (B3.out.trans (bq.mono B3.out.size))
          have HS4 := hid (opS_below HS3.out bq)
          clear d0 d1 d2 d3 d4 d5 d6 d7 R3 bq B3 HS3 c0 c1 c2 c3 c4 c5 c6 c7
          generalize grow (redrawn W3 dq) osq = U at *
          go_wp2
          exact ⟨⟨k + 1, by omega, by go_num, B4⟩, by simp [intOf]; omega⟩
        · have hb' : bare f = false := by simpa using hb
          rw [hb', if_neg (by decide), if_neg (by decide)] at C1
          rw [hb'] at C2
          clear hb hb' hf
          obtain ⟨s0, s1, s2, s3, s4, s5, s6, s7⟩ := HS.out
          rw [HG.out] at s0 s1 s2 s3 s4 s5 s6 s7
          go_wp2_with (go_at_call 15; refine (C1.out _ B0.out).mono ?_)
          rintro e w1 ⟨rfl, b⟩
          have B1 := hid (B0.out.trans (b.mono B0.out.size))
          have HS1 := hid (opS_below HS.out b)
          clear b B0 HS s0 s1 s2 s3 s4 s5 s6 s7
          obtain ⟨s0, s1, s2, s3, s4, s5, s6, s7⟩ := HS1.out
          rw [HG.out] at s0 s1 s2 s3 s4 s5 s6 s7
          go_wp2_with (go_at_call 16; refine (C2.out _).mono ?_)
          rintro e w2 ⟨rfl, b⟩
          have B2 := hid (B1.out.trans (b.mono B1.out.size))
          have HS2 := hid (opS_below HS1.out b)
          clear b B1 HS1 s0 s1 s2 s3 s4 s5 s6 s7
          go_wp2_with (go_at_call 12; refine (qnum_any _ _).mono ?_; rintro e w6 ⟨rfl, rfl⟩)
          exact ⟨⟨k + 1, by omega, by go_num, B2⟩, by simp [intOf]; omega⟩
      · go_wp2_with (go_at_call 9; refine (qworks_any _ (HE.out.below B0.out)).mono ?_; rintro e w5 ⟨rfl, b5⟩)
        go_ret
        exact ⟨rfl, B0.out.trans (b5.mono B0.out.size)⟩
  · have hli : (60 : Int) < (len : Int) := by omega
    clear hlen
    go_enter Tryd.func4, Tryd.ntmps4
    go_wp2_with (go_at_call 9; refine (qworks_any _ (HE.out.below (Below.refl _ w))).mono ?_; rintro e w5 ⟨rfl, b5⟩)
    go_ret
    exact ⟨rfl, b5⟩
end Go.Proofs.YtfnnckbdaedlbaaDoor
