/- The law ShapeAll, of a text that is no shape. -/
import Derived.Test.YtngnjlmpmpdnjaaDoorShLawA
namespace Go.Proofs.YtngnjlmpmpdnjaaDoor
open Go.RowKit Go.Sh Go.Shelf
attribute [local go_sem] Oper.semAt_some
set_option maxRecDepth 10000000 in
set_option maxHeartbeats 40000000 in
theorem shapeAll_no (s : ByteArray) (hs : s.size ≤ 20) (h1 : one s = false) (many : Int) (w : World) :
    CallsIn Fence.wide 4 Tryd.prog 5 #[.string s, .int .i64 many] w fun e W' => e = .returned (.bool true) ∧ Below w.heap.size w W' := by
  have hs' : (s.size : Int) ≤ 20 := by omega
  have hfn := func_nil #[.pointer (some ⟨w.heap.size + 1 + 1 + 1, 0, none⟩)]
  refine callsIn_of_wp_marks Tryd.func5 rfl trivial ?_ rfl
  simp only [Tryd.ntmps5, List.size_toArray, List.length_cons, List.length_nil, Nat.reduceAdd, Nat.reduceSub, Array.replicate_succ, Array.replicate_zero, List.push_toArray, List.append_toArray, List.nil_append, List.cons_append]
  have co := fun W => rOne_any s W
  rw [h1] at co
  gi_wp2_with (first | (refine ⟨trivial, ?_⟩; gi_at_call 22; refine (callsIn_wide.2 (All_any _ _)).mono ?_; rintro e w' ⟨rfl, rfl⟩) | (refine ⟨trivial, ?_⟩; gi_at_call 23; refine (callsIn_wide.2 (co _)).mono ?_; rintro e w' ⟨rfl, hw⟩; rw [hw]; clear hw))
  clear hfn
  have H1 := hid h1
  have hF : fields s = 0 := by simp [fields, h1]
  have HSZ : Hid (sz [s] 0 = (0, 2)) := hid (by simp [sz, right, h1])
  have hA0 := hid (W0_all w s many 0)
  have hZ0 := hid (W0_size w s many 0)
  change Code.wpIn _ _ _ _ _ _ (W0 w s many 0)
  generalize hW0 : W0 w s many 0 = w0 at *
  clear hW0
  refine wpIn_rangeFunc_ownG (Q := _) rfl (by decide) (gf := 33) (lb := #[.pointer (some ⟨w.heap.size + 1 + 1 + 1, 0, none⟩)]) rfl trivial (enters_of Tryd.func33 (by kernel_rfl) rfl)
    (All_stops 3 (by omega) (w.heap.size + 1 + 1 + 1) s w0 hA0.out.2.2.2.1.cell) walksK_t walksK_b (Below.refl _ _) (fun _ => rfl)
    (fun pre W => pre.length ≤ 8 ∧ AllB w s many 0 (pre.length : Int) W)
    (fun c pre _ => c = .ret ∧ Bad s pre)
    (fun pre A B row hs hg hr => ⟨hs.1, hs.2.own (by have := hZ0.out; omega) hg hr⟩)
    (fun _ _ _ _ _ hs _ _ => hs)
    ⟨by simp, hA0.out⟩ ?a1 ?assign ?body ?done ?stop
  case assign =>
    intro l x W K hK
    dsimp only [encF]
    gi_wp2
    exact hK
  case body =>
    rintro l pre x W ⟨hl8, hA⟩ hlen
    rw [hF] at hlen
    omega
  case done =>
    rintro D ys W hD rfl ⟨_, hA⟩ hK
    rw [upto_length, hF] at hA
    have HK := hid hK
    have HD := hid hD
    have HA := hid hA
    clear hK hD hA
    gi_wp2
    have HS := hid (LeftB.start HA.out HK.out (by have := HD.out; have := hZ0.out; omega))
    generalize hgg : W.heap.size = g at *
    have hW1 : (W.alloc (.cells #[.int .i64 0] 3)).heap.size = g + 1 := by rw [size_alloc, hgg]
    have HW1 := hid hW1
    clear hW1 hgg HA HK HD
    generalize W.alloc (.cells #[.int .i64 0] 3) = w1 at *
    refine wpIn_rangeFunc_ownG (Q := _) rfl (by decide) (gf := 33) (lb := #[.pointer (some ⟨w.heap.size + 1 + 1 + 1, 0, none⟩)]) rfl trivial (enters_of Tryd.func33 (by kernel_rfl) rfl)
      (All_stops 3 (by omega) (w.heap.size + 1 + 1 + 1) s w1 HS.out.1.2.2.2.1.cell) walksK_t walksK_b (Below.refl _ _) (fun _ => rfl)
      (fun pre W => pre.length ≤ 8 ∧ (pre.length = 0 ∨ (pre.length : Int) < many) ∧ LeftB w s many 0 g D (pre.length : Int) W)
      (fun c pre W => c = .exit 2 ∧ many ≤ (pre.length : Int) ∧ 1 ≤ pre.length ∧ (pre.length = 1 ∨ (pre.length : Int) - 1 < many) ∧ LeftB w s many 0 g D (pre.length : Int) W)
      (fun pre A B row hs hg hr => ⟨hs.1, hs.2.1, hs.2.2.own (by have := HW1.out; omega) hg hr⟩)
      (fun c pre A B row hs hg hr => ⟨hs.1, hs.2.1, hs.2.2.1, hs.2.2.2.1, hs.2.2.2.2.own (by have := HW1.out; omega) hg hr⟩)
      ⟨by simp, .inl (by simp), HS.out⟩ ?a2 ?assign2 ?body2 ?done2 ?stop2
    case assign2 =>
      intro l x W K hK
      dsimp only [encF]
      gi_wp2
      simpa using hK
    case body2 =>
      rintro l pre x W ⟨hl8, hor, hA⟩ hlen
      rw [hF] at hlen
      omega
    case done2 =>
      rintro D2 ys W2 hD2 rfl ⟨_, hor, hA⟩ hK2
      rw [upto_length, hF] at hA hor
      have HMin : Hid (min 0 (max 1 many) = 0) := hid (by
        rcases hor with h | h <;> omega)
      obtain ⟨L, hLL⟩ : ∃ L : Int, (0 : Int) = L := ⟨_, rfl⟩
      have hA' : LeftB w s many 0 g D L W2 := by rw [← hLL]; exact hA
      have HMin' : Hid (min 0 (max 1 many) = L) := hid (HMin.out.trans hLL)
      clear hLL hor hA HMin
      have hA := hA'
      have HMin := HMin'
      clear hA' HMin'
      have HR := hid (show Rest w s many 0 g D D2 L W2 from ⟨hA, hK2, by have := HW1.out; have := hA.2.2.2.1; omega⟩)
      have HNE : Hid (D ≠ D2) := hid (by have := HW1.out; have := hA.2.2.2.2.1; omega)
      have ks := hA.1.1.cell
      clear hA hK2 hD2
      gi_wp2
      refine ⟨trivial, ?_⟩
      gi_at_call 11
      refine (callsIn_wide.2 (Size_at _ [s] 0 0 2 _ (one_tab W2 s) HSZ.out)).mono ?_
      rintro e w3 ⟨rfl, b3⟩
      have HS3 := hid (tlS_call (Rest.tl HR.out) (bel1 b3))
      clear b3 HR ks
      gi_wp2
      refine wpIn_wide.2 ?_
      have Hco := hid co
      clear co h1 hs hs' hA0 hZ0 hF
      have hbe := beq_run
      have hmin : (L == min 0 (max 1 many)) = true := by rw [HMin.out]; simp
      have HS3d := hid (tlS_drew HS3.out)
      obtain ⟨F0, hF0⟩ : ∃ F0 : Int, (0 : Int) = F0 := ⟨_, rfl⟩
      rw [hF0] at HS3 HS3d hmin
      clear hF0 HS HMin
      refine wp_region_noPanic ?_
      refine wp_region_held_drew (S := TlS w s many F0 g D D2 L) (by kernel_rfl) HS3d.out (fun hHeld => ?_)
      refine wpAnyH_take (i := 0) (v := ?v0) rfl (by kernel_rfl) (by kernel_rfl) (by kernel_rfl) (fun _ _ _ h => h) (Or.inl ⟨by rfl, ?y0⟩) (by assumption) ?r0
      case y0 => (intro wx hSw; (try dsimp only at hSw); go_simp <;> with_reducible rfl)
      simp only [Act.put]
      refine wpAnyH_take (i := 1) (v := ?v1) rfl (by kernel_rfl) (by kernel_rfl) (by kernel_rfl) (fun _ _ _ h => h) (Or.inl ⟨by rfl, ?y1⟩) (by assumption) ?r1
      case y1 => (intro wx hSw; (try dsimp only at hSw); go_simp <;> with_reducible rfl)
      simp only [Act.put]
      refine wpAnyH_take (i := 2) (v := ?v2) rfl (by kernel_rfl) (by kernel_rfl) (by kernel_rfl) (fun _ _ _ h => h) (Or.inl ⟨by rfl, ?y2⟩) (by assumption) ?r2
      case y2 => (intro wx hSw; (try dsimp only at hSw); go_simp <;> with_reducible rfl)
      simp only [Act.put]
      refine wpAnyH_take (i := 3) (v := ?v3) rfl (by kernel_rfl) (by kernel_rfl) (by kernel_rfl) (fun _ _ _ h => h) (Or.inl ⟨by rfl, ?y3⟩) (by assumption) ?r3
      case y3 => (intro wx hSw; (try dsimp only at hSw); go_simp <;> with_reducible rfl)
      simp only [Act.put]
      refine wpAnyH_take (i := 4) (v := ?v4) rfl (by kernel_rfl) (by kernel_rfl) (by kernel_rfl) (fun _ _ _ h => h) (Or.inl ⟨by rfl, ?y4⟩) (by assumption) ?r4
      case y4 => (intro wx hSw; (try dsimp only at hSw); go_simp <;> with_reducible rfl)
      simp only [Act.put]
      refine wpAnyH_take (i := 5) (v := ?v5) rfl (by kernel_rfl) (by kernel_rfl) (by kernel_rfl) (fun _ _ _ h => h) (Or.inl ⟨by rfl, ?y5⟩) (by assumption) ?r5
      case y5 => (intro wx hSw; (try dsimp only at hSw); go_simp <;> with_reducible rfl)
      simp only [Act.put]
      refine wpAnyH_take (i := 6) (v := ?v6) rfl (by kernel_rfl) (by kernel_rfl) (by kernel_rfl) (fun _ _ _ h => h) (Or.inl ⟨by rfl, ?y6⟩) (by assumption) ?r6
      case y6 => (intro wx hSw; (try dsimp only at hSw); go_simp <;> with_reducible rfl)
      simp only [Act.put]
      refine wpAnyH_ready (rs := [7]) (by kernel_rfl) (by simp) ?_
      refine AllReadyH.cons rfl (fun K hK => ?_) AllReadyH.nil
      go_simp
      refine hK.out _ _ ?_ (fun hHeld => ?_)
      · assumption
      clear hK
      refine wpAnyH_ready (rs := [8]) (by kernel_rfl) (by simp) ?_
      refine AllReadyH.cons rfl (fun K hK => ?_) AllReadyH.nil
      go_simp
      refine hK.out _ _ ?_ (fun hHeld => ?_)
      · assumption
      clear hK
      refine wpAnyH_take (i := 9) (v := ?v9) rfl (by kernel_rfl) (by kernel_rfl) (by kernel_rfl) (fun _ _ _ h => h) (Or.inl ⟨by rfl, ?y9⟩) (by assumption) ?r9
      case y9 => (intro wx hSw; (try dsimp only at hSw); go_simp <;> with_reducible rfl)
      simp only [Act.put]
      refine wpAnyH_take (i := 10) (v := ?v10) rfl (by kernel_rfl) (by kernel_rfl) (by kernel_rfl) (fun _ _ _ h => h) (Or.inl ⟨by rfl, ?y10⟩) (by assumption) ?r10
      case y10 => (intro wx hSw; (try dsimp only at hSw); go_simp <;> with_reducible rfl)
      simp only [Act.put]
      refine wpAnyH_take (i := 11) (v := ?v11) rfl (by kernel_rfl) (by kernel_rfl) (by kernel_rfl) (fun _ _ _ h => h) (Or.inl ⟨by rfl, ?y11⟩) (by assumption) ?r11
      case y11 => (intro wx hSw; (try dsimp only at hSw); go_simp <;> with_reducible rfl)
      simp only [Act.put]
      refine wpAnyH_take (i := 12) (v := ?v12) rfl (by kernel_rfl) (by kernel_rfl) (by kernel_rfl) (fun _ _ _ h => h) (Or.inl ⟨by rfl, ?y12⟩) (by assumption) ?r12
      case y12 => (intro wx hSw; (try dsimp only at hSw); go_simp <;> with_reducible rfl)
      simp only [Act.put]
      refine wpAnyH_take (i := 15) (v := ?v15) rfl (by kernel_rfl) (by kernel_rfl) (by kernel_rfl) (fun _ _ _ h => h) (Or.inl ⟨by rfl, ?y15⟩) (by assumption) ?r15
      case y15 => (intro wx hSw; (try dsimp only at hSw); go_simp <;> with_reducible rfl)
      simp only [Act.put]
      refine wpAnyH_ready (rs := [13]) (by kernel_rfl) (by simp) ?_
      refine AllReadyH.cons rfl (fun K hK => ?_) AllReadyH.nil
      go_simp
      go_at_call 15
      refine (num_any _ _).mono ?_
      rintro e w9 ⟨rfl, rfl⟩
      dsimp only
      refine hK.out _ _ ?_ (fun hHeld => ?_)
      · assumption
      clear hK
      refine wpAnyH_take (i := 14) (v := ?v14) rfl (by kernel_rfl) (by kernel_rfl) (by kernel_rfl) (fun _ _ _ h => h) (Or.inl ⟨by rfl, ?y14⟩) (by assumption) ?r14
      case y14 => (intro wx hSw; (try dsimp only at hSw); go_simp <;> with_reducible rfl)
      simp only [Act.put]
      refine wpAnyH_ready (rs := [16]) (by kernel_rfl) (by simp) ?_
      refine AllReadyH.cons rfl (fun K hK => ?_) AllReadyH.nil
      go_simp
      go_at_call 23
      refine (Hco.out _).mono ?_
      rintro e w9 ⟨rfl, rfl⟩
      dsimp only
      refine hK.out _ _ ?_ (fun hHeld => ?_)
      · assumption
      clear hK
      refine wpAnyH_take (i := 17) (v := ?v17) rfl (by kernel_rfl) (by kernel_rfl) (by kernel_rfl) (fun _ _ _ h => h) (Or.inl ⟨by rfl, ?y17⟩) (by assumption) ?r17
      case y17 => (intro wx hSw; (try dsimp only at hSw); go_simp <;> with_reducible rfl)
      simp only [Act.put]
      refine wpAnyH_take (i := 18) (v := ?v18) rfl (by kernel_rfl) (by kernel_rfl) (by kernel_rfl) (fun _ _ _ h => h) (Or.inl ⟨by rfl, ?y18⟩) (by assumption) ?r18
      case y18 => (intro wx hSw; (try dsimp only at hSw); go_simp <;> with_reducible rfl)
      simp only [Act.put]
      refine wpAnyH_take (i := 19) (v := ?v19) rfl (by kernel_rfl) (by kernel_rfl) (by kernel_rfl) (fun _ _ _ h => h) (Or.inl ⟨by rfl, ?y19⟩) (by assumption) ?r19
      case y19 => (intro wx hSw; (try dsimp only at hSw); go_simp <;> with_reducible rfl)
      simp only [Act.put]
      refine wpAnyH_take (i := 20) (v := ?v20) rfl (by kernel_rfl) (by kernel_rfl) (by kernel_rfl) (fun _ _ _ h => h) (Or.inl ⟨by rfl, ?y20⟩) (by assumption) ?r20
      case y20 => (intro wx hSw; (try dsimp only at hSw); go_simp <;> with_reducible rfl)
      simp only [Act.put]
      refine wpAnyH_ready (rs := [21]) (by kernel_rfl) (by simp) ?_
      refine AllReadyH.cons rfl (fun K hK => ?_) AllReadyH.nil
      go_simp
      go_at_call 15
      refine (num_any _ _).mono ?_
      rintro e w9 ⟨rfl, rfl⟩
      dsimp only
      refine hK.out _ _ ?_ (fun hHeld => ?_)
      · assumption
      clear hK
      refine wpAnyH_take (i := 22) (v := ?v22) rfl (by kernel_rfl) (by kernel_rfl) (by kernel_rfl) (fun _ _ _ h => h) (Or.inl ⟨by rfl, ?y22⟩) (by assumption) ?r22
      case y22 => (intro wx hSw; (try dsimp only at hSw); go_simp <;> with_reducible rfl)
      simp only [Act.put]
      refine wpAnyH_take (i := 23) (v := ?v23) rfl (by kernel_rfl) (by kernel_rfl) (by kernel_rfl) (fun _ _ _ h => h) (Or.inl ⟨by rfl, ?y23⟩) (by assumption) ?r23
      case y23 => (intro wx hSw; (try dsimp only at hSw); go_simp <;> with_reducible rfl)
      simp only [Act.put]
      refine wpAnyH_take (i := 24) (v := undef) rfl (by kernel_rfl) (by kernel_rfl) (by kernel_rfl) (fun _ _ _ h => h) (Or.inr ⟨by rfl, rfl⟩) (by assumption) ?_
      simp only [Act.put]
      refine wpAnyH_take (i := 25) (v := undef) rfl (by kernel_rfl) (by kernel_rfl) (by kernel_rfl) (fun _ _ _ h => h) (Or.inr ⟨by rfl, rfl⟩) (by assumption) ?_
      simp only [Act.put]
      refine wpAnyH_take (i := 26) (v := undef) rfl (by kernel_rfl) (by kernel_rfl) (by kernel_rfl) (fun _ _ _ h => h) (Or.inr ⟨by rfl, rfl⟩) (by assumption) ?_
      simp only [Act.put]
      refine wpAnyH_take (i := 27) (v := undef) rfl (by kernel_rfl) (by kernel_rfl) (by kernel_rfl) (fun _ _ _ h => h) (Or.inr ⟨by rfl, rfl⟩) (by assumption) ?_
      simp only [Act.put]
      refine wpAnyH_take (i := 28) (v := ?v28) rfl (by kernel_rfl) (by kernel_rfl) (by kernel_rfl) (fun _ _ _ h => h) (Or.inl ⟨by rfl, ?y28⟩) (by assumption) ?r28
      case y28 => (intro wx hSw; (try dsimp only at hSw); go_simp <;> with_reducible rfl)
      simp only [Act.put]
      refine wpAnyH_take (i := 29) (v := ?v29) rfl (by kernel_rfl) (by kernel_rfl) (by kernel_rfl) (fun _ _ _ h => h) (Or.inl ⟨by rfl, ?y29⟩) (by assumption) ?r29
      case y29 => (intro wx hSw; (try dsimp only at hSw); go_simp <;> with_reducible rfl)
      simp only [Act.put]
      refine wpAnyH_take (i := 30) (v := ?v30) rfl (by kernel_rfl) (by kernel_rfl) (by kernel_rfl) (fun _ _ _ h => h) (Or.inl ⟨by rfl, ?y30⟩) (by assumption) ?r30
      case y30 => (intro wx hSw; (try dsimp only at hSw); go_simp <;> with_reducible rfl)
      simp only [Act.put]
      refine wpAnyH_ready (rs := [31]) (by kernel_rfl) (by simp) ?_
      refine AllReadyH.cons rfl (fun K hK => ?_) AllReadyH.nil
      go_simp
      go_at_call 10
      refine (works_any _).mono ?_
      rintro e w9 ⟨rfl, b9⟩
      dsimp only
      refine hK.out _ _ ?_ (fun hHeld => ?_)
      · exact tlS_call HS3d.out b9
      clear hK
      refine wpAnyH_take (i := 32) (v := ?v32) rfl (by kernel_rfl) (by kernel_rfl) (by kernel_rfl) (fun _ _ _ h => h) (Or.inl ⟨by rfl, ?y32⟩) (by assumption) ?r32
      case y32 => (intro wx hSw; (try dsimp only at hSw); go_simp <;> with_reducible rfl)
      simp only [Act.put]
      refine wpAnyH_ready (rs := [33]) (by kernel_rfl) (by simp) ?_
      refine AllReadyH.cons rfl (fun K hK => ?_) AllReadyH.nil
      go_simp
      refine hK.out _ _ ?_ (fun hHeld => ?_)
      · exact tlS_set (tlS_call HS3d.out b9) _
      clear hK
      refine wpAnyH_done (by kernel_rfl) ?_ _
      refine NoPanic.normal ?_
      all_goals (
        have hfin := tlS_set (tlS_call HS3d.out b9) (.bool true)
        have hcc : (w9.setCell ⟨w.heap.size + 1 + 1, 0, none⟩ (.bool true)).cell? ⟨w.heap.size + 1 + 1, 0, none⟩ = some (.bool true) := World.cell?_setCell_same' _ _ _ (by rw [(tlS_call HS3d.out b9).2.2.2.2.2.1]; rfl)
        have HF := hid hfin.2.2.2.2.2.2.2
        have HC := hid hcc
        have HN := hid HNE.out
        clear hfin hcc
        generalize w9.setCell ⟨w.heap.size + 1 + 1, 0, none⟩ (.bool true) = wf at *
        gi_wp2
        exact leave_two HF.out HC.out rfl HN.out)
    case stop2 =>
      rintro D2 c pre W2 hD2 ⟨k, hk, rfl⟩ ⟨rfl, hm1, hm2, hm3, hA⟩ hK2
      rw [upto_length] at hm2
      rw [hF] at hk
      omega
  case stop =>
    rintro D c pre W hD ⟨k, hk, rfl⟩ ⟨rfl, hbad⟩ hK
    exact hbad.no.elim
end Go.Proofs.YtngnjlmpmpdnjaaDoor
