/- package graph: operations of a field that there is not: each gives up. Typed by tools/gen09d.py. -/
import Derived.Test.YtlkhmfmocegekaaDoorGrE
set_option linter.unusedVariables false
namespace Go.Proofs.YtlkhmfmocegekaaDoor
open Go.RowKit Go.Gr Go.Sh Go.Oq
abbrev DS0 (b : Nat) (k a b' c fl sh x y : Int) (G R o : Nat) (W : World) : Prop := W.cell? ⟨b, 0, none⟩ = some (.int .i64 k) ∧ W.cell? ⟨b, 1, none⟩ = some (.int .i64 a) ∧ W.cell? ⟨b, 2, none⟩ = some (.int .i64 b') ∧ W.cell? ⟨b, 3, none⟩ = some (.int .i64 c) ∧ W.cell? ⟨b, 4, none⟩ = some (.int .i64 fl) ∧ W.cell? ⟨b, 5, none⟩ = some (.int .i64 sh) ∧ W.cell? ⟨b, 6, none⟩ = some (.int .i64 x) ∧ W.cell? ⟨b, 7, none⟩ = some (.int .i64 y) ∧ W.cell? ⟨b, 8, none⟩ = some (.pointer (some ⟨G, 0, none⟩)) ∧ W.cell? ⟨b, 9, none⟩ = some (.pointer (some ⟨R, o, none⟩))
set_option maxRecDepth 100000 in
theorem gget_up (k a b c fl sh x y z : Int) (G R o : Nat) (w : World) (hc : ∀ W, Below w.heap.size w W → Calls Tryd.prog 71 #[dV k a b c fl sh x y G R o] W fun e w' => e = gupE z ∧ Below W.heap.size W w') :
    Calls Tryd.prog 55 #[dV k a b c fl sh x y G R o] w fun e w' => e = gupE z ∧ Below w.heap.size w w' := by
  go_enter Tryd.func55, Tryd.ntmps55
  go_wp2_with fail
  obtain ⟨W, hW⟩ : ∃ W, (w.alloc (dO k a b c fl sh x y G R o)).alloc (goutO 0 false 0) = W := ⟨_, rfl⟩
  rw [hW]
  obtain ⟨r1, r2, b1, hz⟩ := two_new hW
  have B1 := hid b1
  have R1 := hid r1
  have cf1 := hc W b1
  clear r1 r2 b1 hc hW
  go_wp2_with (first | (refine wpList_load_row rfl 66 _ rfl w.heap.size rfl 66 (dC k a b c fl sh x y G R o) (0, 0) _ R1.out Tryd.underlying66 rfl (dC_size _ _ _ _ _ _ _ _ _ _ _) ?_) | (go_at_call 71; refine cf1.mono ?_; rintro e w3 ⟨rfl, b3⟩))
  exact ⟨rfl, rfl, B1.out.trans (b3.mono B1.out.size)⟩
set_option maxRecDepth 100000 in
theorem ggetInt_up (k a b c fl sh x y z : Int) (G R o : Nat) (w : World) (hc : ∀ W, Below w.heap.size w W → Calls Tryd.prog 71 #[dV k a b c fl sh x y G R o] W fun e w' => e = gupE z ∧ Below W.heap.size W w') :
    Calls Tryd.prog 58 #[dV k a b c fl sh x y G R o] w fun e w' => e = gupE z ∧ Below w.heap.size w w' := by
  go_enter Tryd.func58, Tryd.ntmps58
  go_wp2_with fail
  obtain ⟨W, hW⟩ : ∃ W, (w.alloc (dO k a b c fl sh x y G R o)).alloc (goutO 0 false 0) = W := ⟨_, rfl⟩
  rw [hW]
  obtain ⟨r1, r2, b1, hz⟩ := two_new hW
  have B1 := hid b1
  have R1 := hid r1
  have cf1 := hc W b1
  clear r1 r2 b1 hc hW
  go_wp2_with (first | (refine wpList_load_row rfl 66 _ rfl w.heap.size rfl 66 (dC k a b c fl sh x y G R o) (0, 0) _ R1.out Tryd.underlying66 rfl (dC_size _ _ _ _ _ _ _ _ _ _ _) ?_) | (go_at_call 71; refine cf1.mono ?_; rintro e w3 ⟨rfl, b3⟩))
  exact ⟨rfl, rfl, B1.out.trans (b3.mono B1.out.size)⟩
set_option maxRecDepth 100000 in
theorem gput_up (k a b c fl sh x y z : Int) (G R o : Nat) (w : World) (hc : ∀ W, Below w.heap.size w W → Calls Tryd.prog 71 #[dV k a b c fl sh x y G R o] W fun e w' => e = gupE z ∧ Below W.heap.size W w') (j : Nat) (b0 : (0 : Int) ≤ (j : Int)) (b5 : (j : Int) < 6) (hb : b = (j : Int)) (PV : Option Addr) (hsl : w.cell? ⟨R, o + j, none⟩ = some (.pointer PV)) :
    Calls Tryd.prog 56 #[dV k a b c fl sh x y G R o] w fun e w' => e = gupE z ∧ Below w.heap.size w w' := by
  subst hb
  go_enter Tryd.func56, Tryd.ntmps56
  go_wp2_with fail
  obtain ⟨W, hW⟩ : ∃ W, (w.alloc (dO k a j c fl sh x y G R o)).alloc (goutO 0 false 0) = W := ⟨_, rfl⟩
  rw [hW]
  obtain ⟨r1, r2, b1, hz⟩ := two_new hW
  have B1 := hid b1
  have R1 := hid r1
  have cf1 := fun W' (b_ : Below W.heap.size W W') => hc W' (b1.trans (b_.mono b1.size))
  have HDD := hid (ds_bel (ds_row r1 (hcell_below' hsl (b1.mono (Nat.le_refl _)))) (Below.refl _ _).drew)
  clear r1 r2 b1 hc hW hsl
  refine wp_region_held_drew (S := DS w.heap.size R j k a j c fl sh x y G o (.pointer PV)) (by kernel_rfl) HDD.out (fun hHeld => ?_)
  refine wpAnyH_take (i := 0) (v := ?_) rfl (by kernel_rfl) (by kernel_rfl) (by kernel_rfl) (fun _ _ _ h => h) (Or.inl ⟨by rfl, ?_⟩) (by assumption) ?_
  rotate_left
  · (intro wx hSw; (try dsimp only at hSw); go_simp <;> with_reducible rfl)
  simp only [Act.put, List.setIfInBounds_toArray, List.set_cons_zero, List.set_cons_succ, List.getElem_toArray, List.getElem_cons_zero]
  refine wpAnyH_take (i := 2) (v := ?_) rfl (by kernel_rfl) (by kernel_rfl) (by kernel_rfl) (fun _ _ _ h => h) (Or.inl ⟨by rfl, ?_⟩) (by assumption) ?_
  rotate_left
  · (intro wx hSw; (try dsimp only at hSw); go_simp <;> with_reducible rfl)
  simp only [Act.put, List.setIfInBounds_toArray, List.set_cons_zero, List.set_cons_succ, List.getElem_toArray, List.getElem_cons_zero, List.getElem_cons_succ]
  refine wpAnyH_take (i := 3) (v := ?_) rfl (by kernel_rfl) (by kernel_rfl) (by kernel_rfl) (fun _ _ _ h => h) (Or.inl ⟨by rfl, ?_⟩) (by assumption) ?_
  rotate_left
  · (intro wx hSw; (try dsimp only at hSw); go_simp <;> with_reducible rfl)
  simp only [Act.put, List.setIfInBounds_toArray, List.set_cons_zero, List.set_cons_succ, List.getElem_toArray, List.getElem_cons_zero, List.getElem_cons_succ]
  refine wpAnyH_take (i := 4) (v := ?_) rfl (by kernel_rfl) (by kernel_rfl) (by kernel_rfl) (fun _ _ _ h => h) (Or.inl ⟨by rfl, ?_⟩) (by assumption) ?_
  rotate_left
  · (intro wx hSw; (try dsimp only at hSw); go_simp <;> with_reducible rfl)
  simp only [Act.put, List.setIfInBounds_toArray, List.set_cons_zero, List.set_cons_succ, List.getElem_toArray, List.getElem_cons_zero, List.getElem_cons_succ]
  refine wpAnyH_take (i := 5) (v := ?_) rfl (by kernel_rfl) (by kernel_rfl) (by kernel_rfl) (fun _ _ _ h => h) (Or.inl ⟨by rfl, ?_⟩) (by assumption) ?_
  rotate_left
  · (intro wx hSw; (try dsimp only at hSw); go_simp <;> with_reducible rfl)
  simp only [Act.put, List.setIfInBounds_toArray, List.set_cons_zero, List.set_cons_succ, List.getElem_toArray, List.getElem_cons_zero, List.getElem_cons_succ]
  refine wpAnyH_take (i := 6) (v := ?_) rfl (by kernel_rfl) (by kernel_rfl) (by kernel_rfl) (fun _ _ _ h => h) (Or.inl ⟨by rfl, ?_⟩) (by assumption) ?_
  rotate_left
  · (intro wx hSw; (try dsimp only at hSw); go_simp <;> with_reducible rfl)
  simp only [Act.put, List.setIfInBounds_toArray, List.set_cons_zero, List.set_cons_succ, List.getElem_toArray, List.getElem_cons_zero, List.getElem_cons_succ]
  refine wpAnyH_take (i := 7) (v := ?_) rfl (by kernel_rfl) (by kernel_rfl) (by kernel_rfl) (fun _ _ _ h => h) (Or.inl ⟨by rfl, ?_⟩) (by assumption) ?_
  rotate_left
  · (intro wx hSw; (try dsimp only at hSw); go_simp <;> with_reducible rfl)
  simp only [Act.put, List.setIfInBounds_toArray, List.set_cons_zero, List.set_cons_succ, List.getElem_toArray, List.getElem_cons_zero, List.getElem_cons_succ]
  refine wpAnyH_take (i := 8) (v := ?_) rfl (by kernel_rfl) (by kernel_rfl) (by kernel_rfl) (fun _ _ _ h => h) (Or.inl ⟨by rfl, ?_⟩) (by assumption) ?_
  rotate_left
  · (intro wx hSw; (try dsimp only at hSw); go_simp <;> with_reducible rfl)
  simp only [Act.put, List.setIfInBounds_toArray, List.set_cons_zero, List.set_cons_succ, List.getElem_toArray, List.getElem_cons_zero, List.getElem_cons_succ]
  refine wpAnyH_take (i := 9) (v := ?_) rfl (by kernel_rfl) (by kernel_rfl) (by kernel_rfl) (fun _ _ _ h => h) (Or.inl ⟨by rfl, ?_⟩) (by assumption) ?_
  rotate_left
  · (intro wx hSw; (try dsimp only at hSw); go_simp <;> with_reducible rfl)
  simp only [Act.put, List.setIfInBounds_toArray, List.set_cons_zero, List.set_cons_succ, List.getElem_toArray, List.getElem_cons_zero, List.getElem_cons_succ]
  refine wpAnyH_ready (rs := [1]) (by kernel_rfl) (by simp) ?_
  refine AllReadyH.cons rfl (fun K hK => ?_) AllReadyH.nil
  go_simp
  go_at_call 71
  refine (cf1 _ (Below.refl _ _).drew).mono ?_
  rintro e w3 ⟨rfl, b3⟩
  exact ⟨rfl, rfl, B1.out.trans ((bel_undrew b3).mono B1.out.size)⟩
set_option maxRecDepth 100000 in
theorem gputInt_up (k a b c fl sh x y z : Int) (G R o : Nat) (w : World) (hc : ∀ W, Below w.heap.size w W → Calls Tryd.prog 71 #[dV k a b c fl sh x y G R o] W fun e w' => e = gupE z ∧ Below W.heap.size W w') :
    Calls Tryd.prog 59 #[dV k a b c fl sh x y G R o] w fun e w' => e = gupE z ∧ Below w.heap.size w w' := by
  go_enter Tryd.func59, Tryd.ntmps59
  go_wp2_with fail
  obtain ⟨W, hW⟩ : ∃ W, (w.alloc (dO k a b c fl sh x y G R o)).alloc (goutO 0 false 0) = W := ⟨_, rfl⟩
  rw [hW]
  obtain ⟨r1, r2, b1, hz⟩ := two_new hW
  have B1 := hid b1
  have R1 := hid r1
  have cf1 := fun W' (b_ : Below W.heap.size W W') => hc W' (b1.trans (b_.mono b1.size))
  have HDD := hid (show DS0 w.heap.size k a b c fl sh x y G R o W.drew from ⟨at_row r1 0 rfl, at_row r1 1 rfl, at_row r1 2 rfl, at_row r1 3 rfl, at_row r1 4 rfl, at_row r1 5 rfl, at_row r1 6 rfl, at_row r1 7 rfl, at_row r1 8 rfl, at_row r1 9 rfl⟩)
  clear r1 r2 b1 hc hW
  refine wp_region_held_drew (S := DS0 w.heap.size k a b c fl sh x y G R o) (by kernel_rfl) HDD.out (fun hHeld => ?_)
  refine wpAnyH_take (i := 0) (v := ?_) rfl (by kernel_rfl) (by kernel_rfl) (by kernel_rfl) (fun _ _ _ h => h) (Or.inl ⟨by rfl, ?_⟩) (by assumption) ?_
  rotate_left
  · (intro wx hSw; (try dsimp only at hSw); go_simp <;> with_reducible rfl)
  simp only [Act.put, List.setIfInBounds_toArray, List.set_cons_zero, List.set_cons_succ, List.getElem_toArray, List.getElem_cons_zero]
  refine wpAnyH_take (i := 2) (v := ?_) rfl (by kernel_rfl) (by kernel_rfl) (by kernel_rfl) (fun _ _ _ h => h) (Or.inl ⟨by rfl, ?_⟩) (by assumption) ?_
  rotate_left
  · (intro wx hSw; (try dsimp only at hSw); go_simp <;> with_reducible rfl)
  simp only [Act.put, List.setIfInBounds_toArray, List.set_cons_zero, List.set_cons_succ, List.getElem_toArray, List.getElem_cons_zero, List.getElem_cons_succ]
  refine wpAnyH_take (i := 3) (v := ?_) rfl (by kernel_rfl) (by kernel_rfl) (by kernel_rfl) (fun _ _ _ h => h) (Or.inl ⟨by rfl, ?_⟩) (by assumption) ?_
  rotate_left
  · (intro wx hSw; (try dsimp only at hSw); go_simp <;> with_reducible rfl)
  simp only [Act.put, List.setIfInBounds_toArray, List.set_cons_zero, List.set_cons_succ, List.getElem_toArray, List.getElem_cons_zero, List.getElem_cons_succ]
  refine wpAnyH_take (i := 4) (v := ?_) rfl (by kernel_rfl) (by kernel_rfl) (by kernel_rfl) (fun _ _ _ h => h) (Or.inl ⟨by rfl, ?_⟩) (by assumption) ?_
  rotate_left
  · (intro wx hSw; (try dsimp only at hSw); go_simp <;> with_reducible rfl)
  simp only [Act.put, List.setIfInBounds_toArray, List.set_cons_zero, List.set_cons_succ, List.getElem_toArray, List.getElem_cons_zero, List.getElem_cons_succ]
  refine wpAnyH_ready (rs := [1]) (by kernel_rfl) (by simp) ?_
  refine AllReadyH.cons rfl (fun K hK => ?_) AllReadyH.nil
  go_simp
  go_at_call 71
  refine (cf1 _ (Below.refl _ _).drew).mono ?_
  rintro e w3 ⟨rfl, b3⟩
  exact ⟨rfl, rfl, B1.out.trans ((bel_undrew b3).mono B1.out.size)⟩
set_option maxRecDepth 100000 in
theorem gcas_up (k a b c fl sh x y z : Int) (G R o : Nat) (w : World) (hc : ∀ W, Below w.heap.size w W → Calls Tryd.prog 71 #[dV k a b c fl sh x y G R o] W fun e w' => e = gupE z ∧ Below W.heap.size W w') :
    Calls Tryd.prog 57 #[dV k a b c fl sh x y G R o] w fun e w' => e = gupE z ∧ Below w.heap.size w w' := by
  go_enter Tryd.func57, Tryd.ntmps57
  go_wp2_with fail
  obtain ⟨W, hW⟩ : ∃ W, (w.alloc (dO k a b c fl sh x y G R o)).alloc (goutO 0 false 0) = W := ⟨_, rfl⟩
  rw [hW]
  obtain ⟨r1, r2, b1, hz⟩ := two_new hW
  have B1 := hid b1
  have R1 := hid r1
  have cf1 := hc W b1
  clear r1 r2 b1 hc hW
  go_wp2_with (first | (refine wpList_load_row rfl 66 _ rfl w.heap.size rfl 66 (dC k a b c fl sh x y G R o) (0, 0) _ R1.out Tryd.underlying66 rfl (dC_size _ _ _ _ _ _ _ _ _ _ _) ?_) | (go_at_call 71; refine cf1.mono ?_; rintro e w3 ⟨rfl, b3⟩))
  exact ⟨rfl, rfl, B1.out.trans (b3.mono B1.out.size)⟩
set_option maxRecDepth 100000 in
theorem gcasInt_up (k a b c fl sh x y z : Int) (G R o : Nat) (w : World) (hc : ∀ W, Below w.heap.size w W → Calls Tryd.prog 71 #[dV k a b c fl sh x y G R o] W fun e w' => e = gupE z ∧ Below W.heap.size W w') :
    Calls Tryd.prog 60 #[dV k a b c fl sh x y G R o] w fun e w' => e = gupE z ∧ Below w.heap.size w w' := by
  go_enter Tryd.func60, Tryd.ntmps60
  go_wp2_with fail
  obtain ⟨W, hW⟩ : ∃ W, (w.alloc (dO k a b c fl sh x y G R o)).alloc (goutO 0 false 0) = W := ⟨_, rfl⟩
  rw [hW]
  obtain ⟨r1, r2, b1, hz⟩ := two_new hW
  have B1 := hid b1
  have R1 := hid r1
  have cf1 := hc W b1
  clear r1 r2 b1 hc hW
  go_wp2_with (first | (refine wpList_load_row rfl 66 _ rfl w.heap.size rfl 66 (dC k a b c fl sh x y G R o) (0, 0) _ R1.out Tryd.underlying66 rfl (dC_size _ _ _ _ _ _ _ _ _ _ _) ?_) | (go_at_call 71; refine cf1.mono ?_; rintro e w3 ⟨rfl, b3⟩))
  exact ⟨rfl, rfl, B1.out.trans (b3.mono B1.out.size)⟩
end Go.Proofs.YtlkhmfmocegekaaDoor
