/- the document's functions of layer 8: Text. -/
import Derived.Test.YtfnnckbdaedlbaaDoorOpRefT
import Derived.Test.YtfnnckbdaedlbaaDoorOpText
set_option linter.unusedVariables false
namespace Go.Proofs.YtfnnckbdaedlbaaDoor
open Go.RowKit Go.Oq Go.Sort Go.Sh
theorem wds_at (f : Nat → Int) {K k : Nat} (hK : (f 0).toNat = K) (h : k < (alln K).length) : at' (wds f) (k + 1) = dgB (f ((alln K).getD k 0)) := by
  rw [wds, hK]
  show ((alln K).map fun j => dgB (f j)).getD k ByteArray.empty = _
  rw [List.getD_eq_getElem?_getD, List.getElem?_map, List.getD_eq_getElem?_getD, List.getElem?_eq_getElem h]
  rfl
theorem lets_at (K k : Nat) (h : k < (lets K).size) : (lets K)[k]'h = lett ((alln K).getD k 0) := by
  rw [lets_get K k (by rw [← lets_size]; exact h), List.getD_eq_getElem?_getD, List.getElem?_eq_getElem (by rw [← lets_size]; exact h)]
  rfl
theorem alln_at (K k : Nat) (h : k < (alln K).length) : 1 ≤ (alln K).getD k 0 ∧ (alln K).getD k 0 ≤ 7 := by
  have := alln_lt K ((alln K).getD k 0) (by rw [List.getD_eq_getElem?_getD, List.getElem?_eq_getElem h]; exact List.getElem_mem h)
  omega
/-- The text so far. -/
def jqB (xs : List ByteArray) (k : Nat) : ByteArray := bs (jq xs k)
theorem jqB_succ (xs : List ByteArray) (k : Nat) : jqB xs k ++ ⟨#[32]⟩ ++ at' xs (k + 1) = jqB xs (k + 1) := by
  rw [← bs_of (jqB xs k ++ ⟨#[32]⟩ ++ at' xs (k + 1)), jqB]
  congr 1
set_option maxRecDepth 100000 in
set_option maxHeartbeats 8000000 in
theorem rText_any (K : Nat) (f : Nat → Int) (w : World) (k1 : 1 ≤ K) (k2 : K ≤ 11) (hK : f 0 = (K : Int)) (hr : rng f) : Calls Tryd.prog 18 #[opV f] w fun e w' => e = .returned (.string (txt f)) ∧ Below w.heap.size w w' := by
  have hT : (f 0).toNat = K := by omega
  have HN := hid (fun W => names_yes K W k1 k2)
  have HM := hid (fun W => rname_any (f 0) W)
  rw [hT] at HM
  have HX : Hid (∀ k, k < (alln K).length → at' (wds f) (k + 1) = dgB (f ((alln K).getD k 0))) := hid (fun k hk => wds_at f hT hk)
  have HXL : Hid ((wds f).length = 1 + (alln K).length) := hid (by rw [wds_len, hT])
  have HXS := hid (wds_size hr)
  have HXT : Hid (bs (jn ((wds f).map (·.data.toList))) = txt f) := hid rfl
  have HX0 : jqB (wds f) 0 = nam K := by rw [jqB, jq, wds_head, hT]; rfl
  generalize wds f = xs at *
  have HR := hid hr
  have HL := hid (lets_at K)
  have HA := hid (alln_at K)
  have HLS := hid (lets_size K)
  have HLL := hid (alln_len K)
  rw [← hK] at HN
  clear hK hT hr
  have hls := lets_small K
  obtain ⟨L, hL⟩ : ∃ L, L = lets K := ⟨_, rfl⟩
  rw [← hL] at HL HN hls
  have HLE := hid hL
  clear hL
  have hli : (L.size : Int) ≤ 4 := by omega
  go_enter Tryd.func18, Tryd.ntmps18
  go_wp2_with (go_at_call 23; refine (HM.out _).mono ?_)
  rintro e w2 ⟨rfl, b2⟩
  have r2 := row1 b2
  have B2 := hid (bel1 b2)
  clear b2
  rw [← HX0]
  clear HX0
  have c0 := at_row r2 0 rfl
  have HR2 := hid r2
  clear r2
  go_wp2_with (go_at_call 31; refine (HN.out _).mono ?_)
  rintro e w3 ⟨rfl, b3⟩
  have R0 := hid ((b3.block _ (Array.getElem?_eq_some_iff.1 HR2.out).1).trans HR2.out)
  have B0 := hid (B2.out.trans (b3.mono B2.out.size))
  clear b3 HR2 B2 c0
  go_wp2
  go_loopw [4, 6] (fun u i wr => ∃ k : Nat, k ≤ L.size ∧ u = .string (jqB xs k) ∧ i = .int .i64 k ∧ Hid (wr.heap[w.heap.size]? = some (.cells (row f) 31)) ∧ Hid (Below w.heap.size w wr)) (fun _ i _ => L.size - (intOf i).toNat)
  case atStart => exact ⟨0, by omega, rfl, rfl, R0, B0⟩
  case round =>
    clear R0 B0
    obtain ⟨k, hk, rfl, rfl, R0, B0⟩ := hrel
    by_cases hlt : k < L.size
    · have hK : k < (alln K).length := by rw [← HLS.out, ← HLE.out]; exact hlt
      have hA := HA.out k hK
      have hix : L[k]'hlt = lett ((alln K).getD k 0) := by
        have h1 := HL.out k
        exact h1 hlt
      have hx := HX.out k hK
      generalize (alln K).getD k 0 = j at hA hix hx
      have hj := HR.out j (by omega)
      have HN1 : Hid (jqB xs k ++ ⟨#[32]⟩ ++ dgB (f j) = jqB xs (k + 1)) := hid (by rw [← hx, jqB_succ])
      have hz1 : (jqB xs k).size ≤ 6000 := by
        have h1 := jq_le xs HXS.out k
        have h2 : (jqB xs k).size = (jq xs k).length := rfl
        omega
      have hz2 := dgB_size hj.1 hj.2
      obtain ⟨v, hv⟩ : ∃ v, v = f j := ⟨_, rfl⟩
      obtain ⟨D, hD⟩ : ∃ D, D = dgB v := ⟨_, rfl⟩
      rw [← hv, ← hD] at hz2 HN1
      obtain ⟨A, hAA⟩ : ∃ A, A = jqB xs k := ⟨_, rfl⟩
      rw [← hAA] at hz1 HN1 ⊢
      have CG := hid (fun d os => Calls.regrown_of (show Calls Tryd.prog 32 #[opV f, .int .u8 (((L[k]'hlt).toNat : Nat) : Int)] (grow (redrawn wr d) os) (fun e w' => e = .returned (.int .i64 v) ∧ Below (grow (redrawn wr d) os).heap.size (grow (redrawn wr d) os) w') by rw [hix, hv]; exact get_l j f _ (by omega) (by omega)))
      have CN := hid (fun d os => Calls.regrown_of (rnumberT_any v D (grow (redrawn wr d) os) (by rw [hv]; exact hj.1) (by rw [hv]; exact hj.2) (hid hD.symm)))
      clear hix hx hA hj hv hD hAA hK
      have c0 := cell_regrown (at_row R0.out 0 rfl)
      have c1 := cell_regrown (at_row R0.out 1 rfl)
      have c2 := cell_regrown (at_row R0.out 2 rfl)
      have c3 := cell_regrown (at_row R0.out 3 rfl)
      have c4 := cell_regrown (at_row R0.out 4 rfl)
      have c5 := cell_regrown (at_row R0.out 5 rfl)
      have c6 := cell_regrown (at_row R0.out 6 rfl)
      have c7 := cell_regrown (at_row R0.out 7 rfl)
      go_wp2
      refine wp_region_quiet_below (by kernel_rfl) (by kernel_rfl) ?_
      repeat (go_big_quiet_step ((first | (go_at_call 32; exact CG.out _ _) | (go_at_call 42; exact CN.out _ _))))
      refine wpQuiet_nil ?_
      intro _ hw'
      obtain ⟨⟨dq, osq⟩, hw''⟩ := hw'
      subst hw''
      have bq := below_regrown wr dq osq
      have BQ := hid (B0.out.trans (bq.mono B0.out.size))
      have R1 := hid ((bq.block _ (Array.getElem?_eq_some_iff.1 R0.out).1).trans R0.out)
      clear bq R0 B0 c0 c1 c2 c3 c4 c5 c6 c7
      generalize grow (redrawn wr dq) osq = U at *
      go_wp2
      exact ⟨⟨k + 1, by omega, by rw [HN1.out], by go_num, R1, BQ⟩, by simp [intOf]; omega⟩
    · have HF : Hid (jqB xs k = txt f) := hid (by
        rw [← HXT.out, jqB, ← jq_all xs (by have := HXL.out; omega), HXL.out, show k = 1 + (alln K).length - 1 by have := HLS.out; rw [← HLE.out] at this; omega])
      go_wp2
      go_ret
      exact ⟨ret_str HF.out, B0.out⟩
end Go.Proofs.YtfnnckbdaedlbaaDoor
/- the document's functions of layer 8: with. -/
set_option linter.unusedVariables false
namespace Go.Proofs.YtfnnckbdaedlbaaDoor
open Go.RowKit Go.Oq Go.Sort Go.Sh
theorem with_end (f : Nat → Int) (v : Int) (j : Nat) (w : World) {tmps : Array Value} {ds : List Deferred} (hp : tmps.getD 6 undef = .pointer (some ⟨w.heap.size + 1, 0, none⟩)) :
    bodyPost Tryd.prog Tryd.f45 (fun e w' => e = Ending.returned (opV (upd f j v)) ∧ RowKit.Below w.heap.size w w') Exit.ret ⟨tmps, []⟩ ((w.alloc (.cells (row (upd f j v)) 31)).alloc (.cells (row (upd f j v)) 31)) :=
  bodyPost_ret (v := .agg (row (upd f j v))) (results_cell_row Tryd.results45 _ _ (w.heap.size + 1) 31 (row (upd f j v)) (0, 0) _ hp (halloc2b w _ _) Tryd.underlying31 rfl (op_size (upd f j v))) rfl ⟨rfl, (below_alloc0 w _).trans ((below_alloc0 _ _).mono (by simp))⟩
set_option maxHeartbeats 2000000 in
theorem with_1 (f : Nat → Int) (v : Int) (w : World) : Calls Tryd.prog 45 #[opV f, .int .u8 65, .int .i64 v] w fun e w' => e = .returned (opV (upd f 1 v)) ∧ Below w.heap.size w w' := by
  go_enter Tryd.func45, Tryd.ntmps45
  go_wp2
  exact with_end (ds := []) f v 1 w rfl
set_option maxHeartbeats 2000000 in
theorem with_2 (f : Nat → Int) (v : Int) (w : World) : Calls Tryd.prog 45 #[opV f, .int .u8 66, .int .i64 v] w fun e w' => e = .returned (opV (upd f 2 v)) ∧ Below w.heap.size w w' := by
  go_enter Tryd.func45, Tryd.ntmps45
  go_wp2
  exact with_end (ds := []) f v 2 w rfl
set_option maxHeartbeats 2000000 in
theorem with_3 (f : Nat → Int) (v : Int) (w : World) : Calls Tryd.prog 45 #[opV f, .int .u8 67, .int .i64 v] w fun e w' => e = .returned (opV (upd f 3 v)) ∧ Below w.heap.size w w' := by
  go_enter Tryd.func45, Tryd.ntmps45
  go_wp2
  exact with_end (ds := []) f v 3 w rfl
set_option maxHeartbeats 2000000 in
theorem with_4 (f : Nat → Int) (v : Int) (w : World) : Calls Tryd.prog 45 #[opV f, .int .u8 102, .int .i64 v] w fun e w' => e = .returned (opV (upd f 4 v)) ∧ Below w.heap.size w w' := by
  go_enter Tryd.func45, Tryd.ntmps45
  go_wp2
  exact with_end (ds := []) f v 4 w rfl
set_option maxHeartbeats 2000000 in
theorem with_5 (f : Nat → Int) (v : Int) (w : World) : Calls Tryd.prog 45 #[opV f, .int .u8 115, .int .i64 v] w fun e w' => e = .returned (opV (upd f 5 v)) ∧ Below w.heap.size w w' := by
  go_enter Tryd.func45, Tryd.ntmps45
  go_wp2
  exact with_end (ds := []) f v 5 w rfl
set_option maxHeartbeats 2000000 in
theorem with_6 (f : Nat → Int) (v : Int) (w : World) : Calls Tryd.prog 45 #[opV f, .int .u8 88, .int .i64 v] w fun e w' => e = .returned (opV (upd f 6 v)) ∧ Below w.heap.size w w' := by
  go_enter Tryd.func45, Tryd.ntmps45
  go_wp2
  exact with_end (ds := []) f v 6 w rfl
set_option maxHeartbeats 2000000 in
theorem with_7 (f : Nat → Int) (v : Int) (w : World) : Calls Tryd.prog 45 #[opV f, .int .u8 89, .int .i64 v] w fun e w' => e = .returned (opV (upd f 7 v)) ∧ Below w.heap.size w w' := by
  go_enter Tryd.func45, Tryd.ntmps45
  go_wp2
  exact with_end (ds := []) f v 7 w rfl
theorem with_l (j : Nat) (f : Nat → Int) (v : Int) (w : World) (h1 : 1 ≤ j) (h7 : j ≤ 7) : Calls Tryd.prog 45 #[opV f, .int .u8 ((lett j).toNat : Int), .int .i64 v] w fun e w' => e = .returned (opV (upd f j v)) ∧ Below w.heap.size w w' := by
  have : j = 1 ∨ j = 2 ∨ j = 3 ∨ j = 4 ∨ j = 5 ∨ j = 6 ∨ j = 7 := by omega
  rcases this with rfl | rfl | rfl | rfl | rfl | rfl | rfl
  · exact with_1 f v w
  · exact with_2 f v w
  · exact with_3 f v w
  · exact with_4 f v w
  · exact with_5 f v w
  · exact with_6 f v w
  · exact with_7 f v w
end Go.Proofs.YtfnnckbdaedlbaaDoor
