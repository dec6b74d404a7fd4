/- laws of layer 8: Told. -/
import Derived.Test.YtfnnckbdaedlbaaDoorOpWorksMOn
import Derived.Test.YtfnnckbdaedlbaaDoorOpRefT
set_option linter.unusedVariables false
namespace Go.Proofs.YtfnnckbdaedlbaaDoor
open Go.RowKit Go.Oq Go.Sort Go.Sh
theorem ocell_below {W W' : World} {a : Addr} {v : Value} (hc : W.cell? a = some v) (bw : Below W.heap.size W W') : W'.cell? a = some v := by
  have hg := (Array.getElem?_eq_some_iff.1 (show ∃ o, W.heap[a.block]? = some o from by
    cases h : W.heap[a.block]? with
    | none => simp [World.cell?, h] at hc
    | some o => exact ⟨o, rfl⟩).choose_spec).1
  unfold World.cell? at hc ⊢
  rw [bw.block _ hg]
  exact hc
/-- The eight cells of an operation. -/
abbrev OpS (b g : Nat) (f : Nat → Int) (W : World) : Prop :=
  W.cell? ⟨b, g, none⟩ = some (.int .i64 (f 0)) ∧ W.cell? ⟨b, g + 1, none⟩ = some (.int .i64 (f 1)) ∧ W.cell? ⟨b, g + 2, none⟩ = some (.int .i64 (f 2)) ∧ W.cell? ⟨b, g + 3, none⟩ = some (.int .i64 (f 3)) ∧
  W.cell? ⟨b, g + 4, none⟩ = some (.int .i64 (f 4)) ∧ W.cell? ⟨b, g + 5, none⟩ = some (.int .i64 (f 5)) ∧ W.cell? ⟨b, g + 6, none⟩ = some (.int .i64 (f 6)) ∧ W.cell? ⟨b, g + 7, none⟩ = some (.int .i64 (f 7))
theorem opS_below {b g : Nat} {f : Nat → Int} {W W' : World} (h : OpS b g f W) (bw : Below W.heap.size W W') : OpS b g f W' := by
  obtain ⟨h0, h1, h2, h3, h4, h5, h6, h7⟩ := h
  exact ⟨ocell_below h0 bw, ocell_below h1 bw, ocell_below h2 bw, ocell_below h3 bw, ocell_below h4 bw, ocell_below h5 bw, ocell_below h6 bw, ocell_below h7 bw⟩
/-- Each of so many operations. -/
def IsOps (W : World) (a : Option Addr) (len : Nat) : Prop := ∀ i, i < len → ∃ (b off : Nat) (f : Nat → Int), a = some ⟨b, off, none⟩ ∧ OpS b (off + i * 8) f W ∧ rng f
theorem IsOps.below {W W' : World} {a : Option Addr} {len : Nat} (h : IsOps W a len) (k : Below W.heap.size W W') : IsOps W' a len := fun i hi => by
  obtain ⟨b, off, f, e, h1, h2⟩ := h i hi
  exact ⟨b, off, f, e, opS_below h1 k, h2⟩
set_option maxRecDepth 100000 in
set_option maxHeartbeats 8000000 in
theorem opTold_walk (a : Option Addr) (len cap : Nat) (e0 : Int) (bb : Bool) (v : Int) (w : World) (hE : Lib3 w) (hO : IsOps w a len) (a0 : -9223372036854775808 ≤ e0) (a1 : e0 ≤ 9223372036854775807) (h0 : -9223372036854775808 ≤ v) (h1 : v ≤ 9223372036854775807) :
    Calls Tryd.prog 6 #[.slice a len cap, outV e0 bb v] w fun e w' => e = .returned (.bool true) ∧ Below w.heap.size w w' := by
  have HE := hid hE
  have HO := hid hO
  have HA0 := hid a0
  have HA1 := hid a1
  have HV0 := hid h0
  have HV1 := hid h1
  clear hE hO a0 a1 h0 h1
  by_cases hlen : len ≤ 60
  · have hli : (len : Int) ≤ 60 := by omega
    go_enter Tryd.func6, Tryd.ntmps6
    go_wp2
    obtain ⟨W, hW⟩ : ∃ W, W = w.alloc (.cells #[.int .i64 e0, .bool bb, .int .i64 v] 49) := ⟨_, rfl⟩
    have R0 : Hid (W.heap[w.heap.size]? = some (.cells #[.int .i64 e0, .bool bb, .int .i64 v] 49)) := hid (by rw [hW]; exact heap_alloc_last w _)
    have B0 : Hid (Below w.heap.size w W) := hid (by rw [hW]; exact below_alloc0 w _)
    rw [← hW]
    clear hW
    go_loopw [5, 6, 7, 8, 9] (fun i u6 u7 u8 u9 wr => ∃ k : Nat, k ≤ len ∧ i = .int .i64 k ∧ Hid (wr.heap[w.heap.size]? = some (.cells #[.int .i64 e0, .bool bb, .int .i64 v] 49)) ∧ Hid (Below w.heap.size w wr)) (fun i _ _ _ _ _ => len - (intOf i).toNat)
    case atStart => exact ⟨0, by omega, rfl, R0, B0⟩
    case round =>
      clear R0 B0
      obtain ⟨k, hk, rfl, R0, B0⟩ := hrel
      by_cases hlt : k < len
      · obtain ⟨b, off, f, rfl, hc, hf⟩ := HO.out k hlt
        have HF := hid hf
        obtain ⟨g, hg⟩ : ∃ g, g = off + k * 8 := ⟨_, rfl⟩
        rw [← hg] at hc
        have HG := hid hg
        have HS := hid (opS_below hc B0.out)
        have C1 := hid (fun d os => Calls.regrown_of (oTold_any f e0 bb v (grow (redrawn wr d) os) (tab_below HE.out.1 (B0.out.trans ((below_regrown wr d os).mono B0.out.size))) HA0.out HA1.out HV0.out HV1.out))
        clear hc hg hf
        obtain ⟨A, hA⟩ : ∃ A, A = (tld f e0 (tdl (f 0).toNat bb v)).1 := ⟨_, rfl⟩
        obtain ⟨N, hN⟩ : ∃ N, N = (tld f e0 (tdl (f 0).toNat bb v)).2 := ⟨_, rfl⟩
        have CR := hid (fun W => rTold_any f e0 bb v W HA0.out HA1.out HV0.out HV1.out)
        rw [← hA, ← hN] at C1
        rw [← hA, ← hN] at CR
        clear hA hN
        obtain ⟨s0, s1, s2, s3, s4, s5, s6, s7⟩ := HS.out
        have c0 := cell_regrown s0
        have c1 := cell_regrown s1
        have c2 := cell_regrown s2
        have c3 := cell_regrown s3
        have c4 := cell_regrown s4
        have c5 := cell_regrown s5
        have c6 := cell_regrown s6
        have c7 := cell_regrown s7
        have d0 := cell_regrown (at_row R0.out 0 rfl)
        have d1 := cell_regrown (at_row R0.out 1 rfl)
        have d2 := cell_regrown (at_row R0.out 2 rfl)
        rw [HG.out] at c0 c1 c2 c3 c4 c5 c6 c7
        clear s0 s1 s2 s3 s4 s5 s6 s7
        go_wp2
        refine wp_region_quiet_below (by kernel_rfl) (by kernel_rfl) ?_
        repeat (go_big_quiet_step ((first | (go_at_call 20; exact C1.out _ _))))
        refine wpQuiet_nil ?_
        intro _ hw'
        obtain ⟨⟨dq, osq⟩, hw''⟩ := hw'
        subst hw''
        have bq := below_regrown wr dq osq
        have B1 := hid (B0.out.trans (bq.mono B0.out.size))
        have R1 := hid ((bq.block _ (Array.getElem?_eq_some_iff.1 R0.out).1).trans R0.out)
        have HS1 := hid (opS_below HS.out bq)
        clear bq B0 HS c0 c1 c2 c3 c4 c5 c6 c7 R0 d0 d1 d2
        generalize grow (redrawn wr dq) osq = U at *
        obtain ⟨s0, s1, s2, s3, s4, s5, s6, s7⟩ := HS1.out
        have c0 := cell_regrown s0
        have c1 := cell_regrown s1
        have c2 := cell_regrown s2
        have c3 := cell_regrown s3
        have c4 := cell_regrown s4
        have c5 := cell_regrown s5
        have c6 := cell_regrown s6
        have c7 := cell_regrown s7
        have d0 := cell_regrown (at_row R1.out 0 rfl)
        have d1 := cell_regrown (at_row R1.out 1 rfl)
        have d2 := cell_regrown (at_row R1.out 2 rfl)
        rw [HG.out] at c0 c1 c2 c3 c4 c5 c6 c7
        clear s0 s1 s2 s3 s4 s5 s6 s7
        have C2 := hid (fun d os => Calls.regrown_of (CR.out (grow (redrawn U d) os)))
        go_wp2
        refine wp_region_quiet_below (by kernel_rfl) (by kernel_rfl) ?_
        repeat (go_big_quiet_step ((first | (go_at_call 21; exact C2.out _ _))))
        refine wpQuiet_nil ?_
        intro _ hw'
        obtain ⟨⟨dq, osq⟩, hw''⟩ := hw'
        subst hw''
        have bq := below_regrown U dq osq
        have B2 := hid (B1.out.trans (bq.mono B1.out.size))
        have R2 := hid ((bq.block _ (Array.getElem?_eq_some_iff.1 R1.out).1).trans R1.out)
        have HS2 := hid (opS_below HS1.out bq)
        clear bq B1 HS1 c0 c1 c2 c3 c4 c5 c6 c7 R1 d0 d1 d2
        generalize grow (redrawn U dq) osq = V at *
        have hAA : (A.toList != A.toList) = false := by simp
        have hNN : (N != N) = false := by simp
        go_wp2_with (go_at_call 12; refine (qnum_any _ _).mono ?_; rintro e w5 ⟨rfl, rfl⟩)
        exact ⟨⟨k + 1, by omega, by go_num, R2, B2⟩, by simp [intOf]; omega⟩
      · go_wp2_with (go_at_call 9; refine (qworks_any _ (HE.out.below B0.out)).mono ?_; rintro e w5 ⟨rfl, b5⟩)
        go_ret
        exact ⟨rfl, B0.out.trans (b5.mono B0.out.size)⟩
  · have hli : (60 : Int) < (len : Int) := by omega
    clear hlen
    go_enter Tryd.func6, Tryd.ntmps6
    go_wp2_with (go_at_call 9; refine (qworks_any _ (HE.out.below (below_alloc0 w _))).mono ?_; rintro e w5 ⟨rfl, b5⟩)
    go_ret
    exact ⟨rfl, (below_alloc0 w _).trans (b5.mono (by simp))⟩
end Go.Proofs.YtfnnckbdaedlbaaDoor
