/- package op: two operations held against each other; two answers. -/
import Derived.Test.YtlkhmfmocegekaaDoorOpOnly
namespace Go.Proofs.YtlkhmfmocegekaaDoor
open Go.RowKit Go.Oq Go.Sort
theorem op_equal (f g : Nat → Int) (W : World) : (Op.equalIn 10000 28 (opV f) (opV g)).run Tryd.prog W = .ok (sam f g) W := by
  go_simp
  unfold sam
  repeat' split
  all_goals simp [*]
theorem odrewN {N : Nat} {a w : World} (h : Below N a w) (n : Nat) : Below N a (w.drewN n) := ⟨h.os, h.tape, h.output, h.size, h.block⟩
set_option maxRecDepth 100000 in
set_option maxHeartbeats 2000000 in
theorem kindOf_none (f : Nat → Int) (w : World) (h : kin (f 0) = false) :
    Calls Tryd.prog 51 #[opV f] w fun e w' => e = .returned (.tuple #[.agg kz, .bool false]) ∧ Below w.heap.size w w' := by
  have HK := hid h
  clear h
  go_enter Tryd.func51, Tryd.ntmps51
  go_wp2_with (go_at_call 69; refine (find_no _ _ HK.out).mono ?_)
  rintro e w1 ⟨rfl, b1⟩
  have hr1 := hid (row2b b1)
  have B1 := hid (bel2 b1)
  clear b1
  go_wp2_with (first | (refine wpList_store_row rfl 128 _ _ rfl w1.heap.size kz rfl rfl 128 _ (heap_alloc_last w1 _) (k_size.trans rfl) rfl kz_one ?_; rw [World.setRow_alloc_new]) | fail)
  have HR := hid (fun nq => (show ((w1.alloc (.cells kz 128)).drewN nq).heap[w.heap.size + 1]? = _ from (Below.heap_alloc w1 _ _ (Array.getElem?_eq_some_iff.1 hr1.out).1).trans hr1.out))
  have BW := hid (fun nq => odrewN (B1.out.alloc B1.out.size (.cells kz 128)) nq)
  clear hr1 B1
  go_quiet (fail)
  go_wp2_with (refine wpList_store_row rfl 128 _ _ rfl (w.heap.size + 1) kz rfl rfl 128 _ (HR.out nq) (k_size.trans rfl) rfl kz_one ?_)
  exact bodyPost_ret (v := .tuple #[.agg kz, .bool false]) (results_row_slot Tryd.results51 _ _ (w.heap.size + 1) 128 kz (0, 0) _ rfl rfl (setRow_heap _ _ _ _ _ _ (HR.out nq)) Tryd.underlying128 (k_size.trans rfl)) rfl
    ⟨rfl, below_setRow (BW.out nq) (by omega) _⟩
theorem nums_mono {w w' : World} {v : Value} {js : List Nat} (h : IsNums w v js) (b : Below w.heap.size w w') : IsNums w' v js := h.below (Nat.le_refl _) b
theorem nums_ne {w : World} {v : Value} {js : List Nat} {g : Nat} {t : TypeId} (h : IsNums w v js) (hr : w.heap[g]? = some (.cells kz t)) : ∀ i, i < js.length → ∀ c, v = .slice (some ⟨c, 0, none⟩) js.length js.length → c ≠ g := by
  intro i hi c hv e
  subst e
  rcases h with ⟨rfl, _⟩ | ⟨g, rfl, h0, h⟩
  · simp at hi
  · simp only [Value.slice.injEq, Option.some.injEq, Addr.mk.injEq] at hv
    obtain ⟨⟨rfl, _⟩, _⟩ := hv
    have h1 := h 0 h0
    have h2 := at_row hr 0 (v := .string ⟨#[]⟩) rfl
    rw [h2] at h1
    simp [gV] at h1
/-- Of a kind that there is: what kindOf tells hangs on what is not named. -/
def kofV (b : Bool) (v1 v2 : Value) (K : Nat) : Array Value := if b then kcell v1 v2 K else kz
set_option maxRecDepth 100000 in
set_option maxHeartbeats 4000000 in
theorem kindOf_some (K : Nat) (f : Nat → Int) (w : World) (k1 : 1 ≤ K) (k2 : K ≤ 11) (hK : f 0 = (K : Int)) (b : Bool) (hb : Hid (sam (only f) f = b)) :
    Calls Tryd.prog 51 #[opV f] w fun e w' => ∃ v1 v2, e = .returned (.tuple #[.agg (kofV b v1 v2 K), .bool b]) ∧ IsNums w' v1 (nums K) ∧ IsNums w' v2 (scas K) ∧ Below w.heap.size w w' := by
  have HK := hid hK
  have HF : Hid (∀ W, Calls Tryd.prog 69 #[.int .i64 (f 0)] W fun e w' => ∃ v1 v2, e = .returned (.tuple #[kV v1 v2 K, .bool true]) ∧ IsNums w' v1 (nums K) ∧ IsNums w' v2 (scas K) ∧ Below W.heap.size W w') := hid (fun W => by rw [hK]; exact find_yes K W k1 k2)
  have HO : Hid (only f = lay f (alln K) (bar (f 0))) := hid (by unfold only; rw [hK]; rfl)
  clear hK
  go_enter Tryd.func51, Tryd.ntmps51
  go_wp2_with (go_at_call 69; refine (HF.out _).mono ?_)
  rintro e w1 ⟨v1, v2, rfl, i1, i2, b1⟩
  have hr0 := hid (row2a b1)
  have hr1 := hid (row2b b1)
  have B1 := hid (bel2 b1)
  have ho := kcell_one i1 i2 K
  have I1 := hid (nums_mono i1 (below_alloc0 w1 (.cells (kcell v1 v2 K) 128)))
  have I2 := hid (nums_mono i2 (below_alloc0 w1 (.cells (kcell v1 v2 K) 128)))
  clear b1 i1 i2
  go_wp2_with (refine wpList_store_row rfl 128 _ _ rfl w1.heap.size (kcell v1 v2 K) rfl rfl 128 _ (heap_alloc_last w1 _) (kcell_size _ _ _) rfl ho ?_; rw [World.setRow_alloc_new])
  have R0 := hid ((Below.heap_alloc w1 (.cells (kcell v1 v2 K) 128) _ (Array.getElem?_eq_some_iff.1 hr0.out).1).trans hr0.out)
  have R1 := hid ((Below.heap_alloc w1 (.cells (kcell v1 v2 K) 128) _ (Array.getElem?_eq_some_iff.1 hr1.out).1).trans hr1.out)
  have R2 := hid (heap_alloc_last w1 (.cells (kcell v1 v2 K) 128))
  have BW := hid (B1.out.alloc B1.out.size (.cells (kcell v1 v2 K) 128))
  have hne : w.heap.size + 1 ≠ w1.heap.size := by
    have := (Array.getElem?_eq_some_iff.1 hr1.out).1
    omega
  have HNE := hid hne
  clear hr0 hr1 B1 hne
  generalize w1.alloc (.cells (kcell v1 v2 K) 128) = W at *
  generalize w1.heap.size = g at *
  have C := hid (fun d os => Calls.regrown_of (konly_at K v1 v2 f (grow (redrawn W d) os) (nums_mono I1.out (below_regrown W d os)) (nums_mono I2.out (below_regrown W d os))))
  rw [← HO.out] at C
  have heq := fun W => op_equal (only f) f W
  rw [hb.out] at heq
  have c0 := cell_regrown (at_row R0.out 0 rfl)
  have c1 := cell_regrown (at_row R0.out 1 rfl)
  have c2 := cell_regrown (at_row R0.out 2 rfl)
  have c3 := cell_regrown (at_row R0.out 3 rfl)
  have c4 := cell_regrown (at_row R0.out 4 rfl)
  have c5 := cell_regrown (at_row R0.out 5 rfl)
  have c6 := cell_regrown (at_row R0.out 6 rfl)
  have c7 := cell_regrown (at_row R0.out 7 rfl)
  have d0 := cell_regrown (at_row R2.out 0 rfl)
  have d1 := cell_regrown (at_row R2.out 1 rfl)
  have d2 := cell_regrown (at_row R2.out 2 rfl)
  have d3 := cell_regrown (at_row R2.out 3 rfl)
  have d4 := cell_regrown (at_row R2.out 4 rfl)
  have d5 := cell_regrown (at_row R2.out 5 rfl)
  generalize only f = of at *
  refine wp_region_quiet_below (by kernel_rfl) (by kernel_rfl) ?_
  repeat (go_big_quiet_step ((first | (go_at_call 70; exact C.out _ _))))
  refine wpQuiet_nil ?_
  intro _ hw'
  obtain ⟨⟨dq, osq⟩, hw''⟩ := hw'
  subst hw''
  have bq := below_regrown W dq osq
  have Q1 := hid ((bq.block _ (Array.getElem?_eq_some_iff.1 R1.out).1).trans R1.out)
  have Q2 := hid ((bq.block _ (Array.getElem?_eq_some_iff.1 R2.out).1).trans R2.out)
  have J1 := hid (nums_mono I1.out bq)
  have J2 := hid (nums_mono I2.out bq)
  have BQ := hid (BW.out.trans (bq.mono BW.out.size))
  clear bq R0 R1 R2 I1 I2 BW C c0 c1 c2 c3 c4 c5 c6 c7 d0 d1 d2 d3 d4 d5
  generalize grow (redrawn W dq) osq = U at *
  have J1' := hid (fun cs => nums_row (cs := cs) J1.out Q1.out (nums_ne J1.out Q1.out))
  have J2' := hid (fun cs => nums_row (cs := cs) J2.out Q1.out (nums_ne J2.out Q1.out))
  cases b
  · go_wp2_with (refine wpList_store_row rfl 128 _ _ rfl (w.heap.size + 1) kz rfl rfl 128 _ Q1.out (k_size.trans rfl) rfl kz_one ?_)
    exact bodyPost_ret (v := .tuple #[.agg kz, .bool false]) (results_row_slot Tryd.results51 _ _ (w.heap.size + 1) 128 kz (0, 0) _ rfl rfl (setRow_heap _ _ _ _ _ _ Q1.out) Tryd.underlying128 (k_size.trans rfl)) rfl
      ⟨v1, v2, rfl, J1'.out _, J2'.out _, below_setRow BQ.out (by omega) _⟩
  · go_wp2_with (first
      | (refine wpList_load_row rfl 128 _ rfl g rfl 128 (kcell v1 v2 K) (0, 0) _ Q2.out Tryd.underlying128 rfl (kcell_size _ _ _) ?_)
      | (refine wpList_store_row rfl 128 _ _ rfl (w.heap.size + 1) (kcell v1 v2 K) rfl rfl 128 _ Q1.out (kcell_size _ _ _) rfl ho ?_))
    exact bodyPost_ret (v := .tuple #[.agg (kcell v1 v2 K), .bool true]) (results_row_slot Tryd.results51 _ _ (w.heap.size + 1) 128 (kcell v1 v2 K) (0, 0) _ rfl rfl (setRow_heap _ _ _ _ _ _ Q1.out) Tryd.underlying128 (kcell_size _ _ _)) rfl
      ⟨v1, v2, rfl, J1'.out _, J2'.out _, below_setRow BQ.out (by omega) _⟩
theorem kin_nat {k : Int} (h : kin k = true) : ∃ K : Nat, k = (K : Int) ∧ 1 ≤ K ∧ K ≤ 11 := by
  have := kin_bd h
  exact ⟨k.toNat, by omega, by omega, by omega⟩
theorem kindOf_no (f : Nat → Int) (w : World) (h : bare f = false) :
    Calls Tryd.prog 51 #[opV f] w fun e w' => e = .returned (.tuple #[.agg kz, .bool false]) ∧ Below w.heap.size w w' := by
  by_cases hk : kin (f 0) = true
  · obtain ⟨K, hK, k1, k2⟩ := kin_nat hk
    have hs : sam (only f) f = false := by
      rw [bare, hk, Bool.true_and] at h
      exact h
    refine (kindOf_some K f w k1 k2 hK false (hid hs)).mono ?_
    rintro e w' ⟨v1, v2, rfl, _, _, hb⟩
    exact ⟨rfl, hb⟩
  · exact kindOf_none f w (by simpa using hk)
theorem kindOf_yes (K : Nat) (f : Nat → Int) (w : World) (hK : f 0 = (K : Int)) (h : bare f = true) :
    Calls Tryd.prog 51 #[opV f] w fun e w' => ∃ v1 v2, e = .returned (.tuple #[kV v1 v2 K, .bool true]) ∧ IsNums w' v1 (nums K) ∧ IsNums w' v2 (scas K) ∧ Below w.heap.size w w' := by
  rw [bare, Bool.and_eq_true] at h
  have hk := kin_bd h.1
  exact kindOf_some K f w (by omega) (by omega) hK true (hid h.2)
end Go.Proofs.YtlkhmfmocegekaaDoor
