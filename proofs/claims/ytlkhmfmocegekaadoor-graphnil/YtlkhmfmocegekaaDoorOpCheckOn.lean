/- package op: Check. -/
import Derived.Test.YtlkhmfmocegekaaDoorOpFace
import Derived.Test.YtlkhmfmocegekaaDoorGrJOn
import Derived.Test.YtlkhmfmocegekaaDoorGrF
namespace Go.Proofs.YtlkhmfmocegekaaDoor
open Go.RowKit Go.Oq Go.Sort Go.Sh
set_option maxRecDepth 100000 in
set_option maxHeartbeats 4000000 in
theorem oCheck_bad (f : Nat → Int) (a : Option Addr) (n c : Nat) (ss : List ByteArray) (w : World) (hT : IsTab w (.slice a n c) ss) (hr : right ss = false) :
    Calls Tryd.prog 32 #[.slice a n c, opV f] w fun e w' => e = .returned (.int .i64 2) ∧ Below w.heap.size w w' := by
  have k := check_any (.slice a n c) ss _ (hT.below (Nat.le_refl _) (below_alloc0 w (.cells (row f) 28)))
  rw [hr] at k
  have k : Calls Tryd.prog 46 #[.slice a n c] (w.alloc (.cells (row f) 28)) fun e w' => e = .returned (.int .i64 2) ∧ Below (w.alloc (.cells (row f) 28)).heap.size (w.alloc (.cells (row f) 28)) w' := k
  clear hT hr
  go_enter Tryd.func32, Tryd.ntmps32
  go_wp2_with (go_at_call 46; refine k.mono ?_; rintro e w1 ⟨rfl, b1⟩)
  go_ret
  exact ⟨rfl, bel1 b1⟩
set_option maxRecDepth 100000 in
set_option maxHeartbeats 4000000 in
theorem oCheck_op (f : Nat → Int) (a : Option Addr) (n c : Nat) (ss : List ByteArray) (w : World) (hT : IsTab w (.slice a n c) ss) (hr : right ss = true) (hb : bare f = false) :
    Calls Tryd.prog 32 #[.slice a n c, opV f] w fun e w' => e = .returned (.int .i64 180) ∧ Below w.heap.size w w' := by
  have k := check_any (.slice a n c) ss _ (hT.below (Nat.le_refl _) (below_alloc0 w (.cells (row f) 28)))
  rw [hr] at k
  have k : Calls Tryd.prog 46 #[.slice a n c] (w.alloc (.cells (row f) 28)) fun e w' => e = .returned (.int .i64 0) ∧ Below (w.alloc (.cells (row f) 28)).heap.size (w.alloc (.cells (row f) 28)) w' := k
  have kk := fun W => kindOf_no f W hb
  clear hT hr hb
  go_enter Tryd.func32, Tryd.ntmps32
  go_wp2_with (go_at_call 46; refine k.mono ?_)
  rintro e w1 ⟨rfl, b1⟩
  have hr1 := hid (row1 b1)
  have B1 := hid (bel1 b1)
  clear b1 k
  go_wp2_with (first
    | (refine wpList_load_row rfl 28 _ rfl w.heap.size rfl 28 (row f) (0, 0) _ hr1.out Tryd.underlying28 rfl (op_size f) ?_)
    | (go_at_call 51; refine (kk _).mono ?_))
  rintro e w2 ⟨rfl, b2⟩
  have B2 := hid (B1.out.trans (b2.mono B1.out.size))
  clear b2
  go_wp2_with (refine wpList_store_row rfl 128 _ _ rfl w2.heap.size kz rfl rfl 128 _ (heap_alloc_last w2 _) (k_size.trans rfl) rfl kz_one ?_; rw [World.setRow_alloc_new])
  go_ret
  exact ⟨rfl, B2.out.alloc B2.out.size _⟩
set_option maxRecDepth 100000 in
set_option maxHeartbeats 8000000 in
theorem oCheck_rest (f : Nat → Int) (a : Option Addr) (n c : Nat) (ss : List ByteArray) (w : World) (hT : IsTab w (.slice a n c) ss) (hr : right ss = true) (hb : bare f = true) (r : Int)
    (h : Hid ((slt (f 1) && slt (f 2) && slt (f 3)) = false ∧ r = 181 ∨ (slt (f 1) && slt (f 2) && slt (f 3)) = true ∧ (inR (f 5) ss.length = false ∧ r = 130 ∨ inR (f 5) ss.length = true ∧ ((scl (f 6) && scl (f 7)) = false ∧ r = 182 ∨ (scl (f 6) && scl (f 7)) = true ∧ r = 0)))) :
    Calls Tryd.prog 32 #[.slice a n c, opV f] w fun e w' => e = .returned (.int .i64 r) ∧ Below w.heap.size w w' := by
  have k := check_any (.slice a n c) ss _ (hT.below (Nat.le_refl _) (below_alloc0 w (.cells (row f) 28)))
  rw [hr] at k
  have k : Calls Tryd.prog 46 #[.slice a n c] (w.alloc (.cells (row f) 28)) fun e w' => e = .returned (.int .i64 0) ∧ Below (w.alloc (.cells (row f) 28)).heap.size (w.alloc (.cells (row f) 28)) w' := k
  obtain ⟨K, hK, _, _⟩ := kin_nat ((bare_iff f).1 hb).1
  have kk := hid (fun W => kindOf_yes K f W hK hb)
  have HT := hid hT
  have HR := hid hr
  clear hT hr hb hK
  go_enter Tryd.func32, Tryd.ntmps32
  go_wp2_with (go_at_call 46; refine k.mono ?_)
  rintro e w1 ⟨rfl, b1⟩
  have hr1 := hid (row1 b1)
  have B1 := hid (bel1 b1)
  clear b1 k
  go_wp2_with (first
    | (refine wpList_load_row rfl 28 _ rfl w.heap.size rfl 28 (row f) (0, 0) _ hr1.out Tryd.underlying28 rfl (op_size f) ?_)
    | (go_at_call 51; refine (kk.out _).mono ?_))
  rintro e w2 ⟨v1, v2, rfl, i1, i2, b2⟩
  have ho := kcell_one i1 i2 K
  have hr2 := hid ((b2.block _ (Array.getElem?_eq_some_iff.1 hr1.out).1).trans hr1.out)
  have B2 := hid (B1.out.trans (b2.mono B1.out.size))
  clear b2 i1 i2 hr1
  refine hid ?_
  have hr3 := hid ((Below.heap_alloc w2 (.cells (kcell v1 v2 K) 128) _ (Array.getElem?_eq_some_iff.1 hr2.out).1).trans hr2.out)
  have B3 := hid (B2.out.alloc B2.out.size (.cells (kcell v1 v2 K) 128))
  have e1 := at_row hr3.out 1 rfl
  have e2 := at_row hr3.out 2 rfl
  have e3 := at_row hr3.out 3 rfl
  obtain ⟨W, hW⟩ : ∃ W, W = w2.alloc (.cells (kcell v1 v2 K) 128) := ⟨_, rfl⟩
  rw [← hW] at hr3 B3 e1 e2 e3
  have HW := hid hW
  clear hW
  rcases h.out with ⟨h1, rfl⟩ | ⟨h1, h2⟩
  · have H1 := hid h1
    clear h1 h
    go_wp2_with (first
      | (refine wpList_store_row rfl 128 _ _ rfl w2.heap.size (kcell v1 v2 K) rfl rfl 128 _ (heap_alloc_last w2 _) (kcell_size _ _ _) rfl ho ?_; rw [World.setRow_alloc_new, ← HW.out])
      | (go_at_call 52; refine (w3_at _ _ _ false _ _ H1).mono ?_; rintro e w' ⟨rfl, hw⟩; rw [hw]; clear hw))
    go_ret
    exact ⟨rfl, B3.out.alloc B3.out.size _⟩
  · have H1 := hid h1
    have HT4 := hid (HT.out.below (Nat.le_refl _) (B3.out.alloc B3.out.size (.cells #[.int .i64 (f 1), .int .i64 (f 2), .int .i64 (f 3)] 3)))
    have hr4 := hid ((Below.heap_alloc W (.cells #[.int .i64 (f 1), .int .i64 (f 2), .int .i64 (f 3)] 3) _ (Array.getElem?_eq_some_iff.1 hr3.out).1).trans hr3.out)
    have e5 := at_row hr4.out 5 rfl
    have B4 := hid (B3.out.alloc B3.out.size (.cells #[.int .i64 (f 1), .int .i64 (f 2), .int .i64 (f 3)] 3))
    rcases h2 with ⟨h2, rfl⟩ | ⟨h2, h3⟩
    · have cs := Size_any (.slice a n c) ss (f 5) _ HT4.out
      rw [sz_out HR.out h2] at cs
      clear h1 h2 h
      go_wp2_with (first
        | (refine wpList_store_row rfl 128 _ _ rfl w2.heap.size (kcell v1 v2 K) rfl rfl 128 _ (heap_alloc_last w2 _) (kcell_size _ _ _) rfl ho ?_; rw [World.setRow_alloc_new, ← HW.out])
        | (go_at_call 52; refine (w3_at _ _ _ true _ _ H1).mono ?_; rintro e w' ⟨rfl, hw⟩; rw [hw]; clear hw)
        | (go_at_call 24; refine cs.mono ?_; rintro e w5 ⟨rfl, b5⟩))
      go_ret
      exact ⟨rfl, B4.out.trans (b5.mono B4.out.size)⟩
    · have cs := Size_any (.slice a n c) ss (f 5) _ HT4.out
      rw [sz_in HR.out h2] at cs
      clear h2
      have CS := hid cs
      clear cs h1 h
      rcases h3 with ⟨h3, rfl⟩ | ⟨h3, rfl⟩
      all_goals
        have H3 := hid h3
        clear h3
        go_wp2_with (first
          | (refine wpList_store_row rfl 128 _ _ rfl w2.heap.size (kcell v1 v2 K) rfl rfl 128 _ (heap_alloc_last w2 _) (kcell_size _ _ _) rfl ho ?_; rw [World.setRow_alloc_new, ← HW.out])
          | (go_at_call 52; refine (w3_at _ _ _ true _ _ H1).mono ?_; rintro e w' ⟨rfl, hw⟩; rw [hw]; clear hw)
          | (go_at_call 24; refine CS.out.mono ?_))
        rintro e w5 ⟨rfl, b5⟩
        have hr5 := hid ((b5.block _ (Array.getElem?_eq_some_iff.1 hr4.out).1).trans hr4.out)
        have e6 := at_row hr5.out 6 rfl
        have e7 := at_row hr5.out 7 rfl
        have B5 := hid (B4.out.trans (b5.mono B4.out.size))
        clear b5
        go_wp2_with (go_at_call 53; refine (w2_at _ _ _ _ _ H3).mono ?_; rintro e w' ⟨rfl, hw⟩; rw [hw]; clear hw)
        go_ret
        exact ⟨rfl, B5.out.alloc B5.out.size _⟩
theorem btrue {b : Bool} (h : ¬ b = false) : b = true := by cases b <;> simp_all
theorem oCheck_any (f : Nat → Int) (a : Option Addr) (n c : Nat) (ss : List ByteArray) (w : World) (hT : IsTab w (.slice a n c) ss) :
    Calls Tryd.prog 32 #[.slice a n c, opV f] w fun e w' => e = .returned (.int .i64 (chk ss f)) ∧ Below w.heap.size w w' := by
  unfold chk
  by_cases hr : right ss = false
  · rw [if_pos hr]; exact oCheck_bad f a n c ss w hT hr
  · rw [if_neg hr]
    have hr' : right ss = true := by simpa using hr
    by_cases hb : bare f = false
    · rw [if_pos hb]; exact oCheck_op f a n c ss w hT hr' hb
    · rw [if_neg hb]
      refine oCheck_rest f a n c ss w hT hr' (by simpa using hb) _ (hid ?_)
      by_cases h1 : (slt (f 1) && slt (f 2) && slt (f 3)) = false
      · rw [if_pos h1]; exact .inl ⟨h1, rfl⟩
      · rw [if_neg h1]
        refine .inr ⟨btrue h1, ?_⟩
        by_cases h2 : inR (f 5) ss.length = false
        · rw [if_pos h2]; exact .inl ⟨h2, rfl⟩
        · rw [if_neg h2]
          refine .inr ⟨btrue h2, ?_⟩
          by_cases h3 : (scl (f 6) && scl (f 7)) = false
          · rw [if_pos h3]; exact .inl ⟨h3, rfl⟩
          · rw [if_neg h3]; exact .inr ⟨btrue h3, rfl⟩
end Go.Proofs.YtlkhmfmocegekaaDoor
/- package graph: do: an operation is checked, then done by what its kind does. -/
set_option linter.unusedVariables false
namespace Go.Proofs.YtlkhmfmocegekaaDoor
open Go.RowKit Go.Gr Go.Sh Go.Oq Go.Sort
theorem gCheck_at (k a b c fl sh x y : Int) (v : Option Addr) (n cp : Nat) (ss : List ByteArray) (w : World) (hT : IsTab w (.slice v n cp) ss) : Calls Tryd.prog 32 #[.slice v n cp, .agg #[.int .i64 k, .int .i64 a, .int .i64 b, .int .i64 c, .int .i64 fl, .int .i64 sh, .int .i64 x, .int .i64 y]] w fun e w' => e = .returned (.int .i64 (chk ss (opF k a b c fl sh x y))) ∧ Below w.heap.size w w' :=
  oCheck_any (opF k a b c fl sh x y) v n cp ss w hT
set_option maxRecDepth 100000 in
set_option maxHeartbeats 1000000 in
/-- What Check refuses. -/
theorem gdo_no (k a b c fl sh x y z : Int) (γ : Gh) (g : Gr) (o : Nat) (w : World) (hG : IsG w γ g) (hz : Hid (chk g.ss (opF k a b c fl sh x y) = z)) (hz0 : z ≠ 0) :
    Calls Tryd.prog 20 #[dV k a b c fl sh x y γ.G γ.R o] w fun e w' => e = gupE z ∧ Below w.heap.size w w' := by
  have HG := hid hG
  clear hG
  go_enter Tryd.func20, Tryd.ntmps20
  go_wp2_with fail
  obtain ⟨W, hW⟩ : ∃ W, (w.alloc (dO k a b c fl sh x y γ.G γ.R o)).alloc (goutO 0 false 0) = W := ⟨_, rfl⟩
  rw [hW]
  obtain ⟨r1, r2, b1, hzz⟩ := two_new hW
  have HG1 := hid (HG.out.below b1)
  have B1 := hid b1
  have e0 := cell_regrown (at_row r1 0 rfl)
  have e1 := cell_regrown (at_row r1 1 rfl)
  have e2 := cell_regrown (at_row r1 2 rfl)
  have e3 := cell_regrown (at_row r1 3 rfl)
  have e4 := cell_regrown (at_row r1 4 rfl)
  have e5 := cell_regrown (at_row r1 5 rfl)
  have e6 := cell_regrown (at_row r1 6 rfl)
  have e7 := cell_regrown (at_row r1 7 rfl)
  have e8 := cell_regrown (at_row r1 8 rfl)
  have f2 := cell_regrown (at_row HG1.out.face 2 rfl)
  have cis := fun d os => Calls.regrown_of (gCheck_at k a b c fl sh x y (some ⟨γ.S, 0, none⟩) g.ss.length γ.sc g.ss (grow (redrawn W d) os) (HG1.out.isTab.below (Nat.le_refl _) (below_regrown W d os)))
  simp only [hz.out] at cis
  clear r1 r2 b1 hW
  refine wp_region_quiet_below (by kernel_rfl) (by kernel_rfl) ?_
  repeat (go_big_quiet_step ((go_at_call 32; exact cis _ _)))
  refine wpQuiet_nil ?_
  intro _ hw'
  obtain ⟨⟨dq, osq⟩, hw''⟩ := hw'
  subst hw''
  have B4 := hid (B1.out.trans ((below_regrown W dq osq).mono B1.out.size))
  generalize grow (redrawn W dq) osq = W4 at *
  clear cis e0 e1 e2 e3 e4 e5 e6 e7 e8 f2
  have hz1 : (z != 0) = true := by rw [bne_iff_ne]; exact hz0
  go_wp2_with (go_at_call 33; refine (ggiveUp_any _ _).mono ?_; rintro e w' ⟨rfl, hw⟩; rw [hw]; clear hw)
  exact ⟨rfl, rfl, B4.out⟩
end Go.Proofs.YtlkhmfmocegekaaDoor
