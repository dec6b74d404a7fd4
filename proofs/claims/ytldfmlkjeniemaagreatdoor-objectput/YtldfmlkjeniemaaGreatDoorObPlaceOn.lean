/- package object: place; Place's closure; Place. -/
import Derived.Test.YtldfmlkjeniemaaGreatDoorLyFaceOn
import Derived.Test.YtldfmlkjeniemaaGreatDoorObHeld
set_option linter.unusedVariables false
namespace Go.Proofs.YtldfmlkjeniemaaGreatDoor
open Go.RowKit Go.Ly Go.Hd Go.Sh Go.Ob
set_option maxRecDepth 100000 in
set_option maxHeartbeats 1000000 in
theorem place_no (t s : Int) (a : Option Addr) (n c : Nat) (ss : List ByteArray) (L A B : Nat) (xs : List Int) (q : Nat) (e f : Int) (w : World) (h : IsHp w t s a n c ss A B xs) (hL : w.heap[L]? = some (arO A)) (hq : q < xs.length) (e0 : 0 ≤ e) (e1 : e ≤ 20000) (hz : Hid (osz xs ss e q = 0)) :
    Calls Tryz.prog 45 #[objV t s a n c L (q : Int) e, .int .i64 f] w fun e' w' => e' = upE 170 ∧ Below w.heap.size w w' := by
  have bw := below_alloc0 w (objO t s a n c L (q : Int) e)
  have cm := mustStand_no t s a n c ss L A B xs q e _ (h.below bw) (row_below hL bw) hq e0 e1 hz
  clear h hL hz
  go_enter Tryz.func45, Tryz.ntmps45
  go_wp2_with (go_at_call 56; refine cm.mono ?_; rintro e w' ⟨rfl, b1⟩)
  exact ⟨rfl, rfl, bel1 b1⟩
set_option maxRecDepth 100000 in
set_option maxHeartbeats 1000000 in
theorem place_out (t s : Int) (a : Option Addr) (n c : Nat) (ss : List ByteArray) (L A B : Nat) (xs : List Int) (q : Nat) (e z f : Int) (w : World) (h : IsHp w t s a n c ss A B xs) (hL : w.heap[L]? = some (arO A)) (hq : q < xs.length) (e0 : 0 ≤ e) (e1 : e ≤ 20000) (hz : Hid (osz xs ss e q = z)) (z2 : 2 ≤ z) (z10 : z ≤ 10) (hf : f < 0 ∨ z - 2 ≤ f) :
    Calls Tryz.prog 45 #[objV t s a n c L (q : Int) e, .int .i64 f] w fun e' w' => e' = upE 131 ∧ Below w.heap.size w w' := by
  have bw := below_alloc0 w (objO t s a n c L (q : Int) e)
  have cm := mustStand_yes t s a n c ss L A B xs q e z _ (h.below bw) (row_below hL bw) hq e0 e1 hz (by rw [beq_eq_false_iff_ne]; omega)
  clear h hL hz
  rcases (show f < 0 ∨ (0 ≤ f ∧ z - 2 ≤ f) by omega) with hf | ⟨hf0, hf⟩
  all_goals
    go_enter Tryz.func45, Tryz.ntmps45
    go_wp2_with (first | (go_at_call 56; refine cm.mono ?_; rintro e w' ⟨rfl, b1⟩) | (go_at_call 51; refine (giveUp_any _ _).mono ?_; rintro e w' ⟨rfl, hw⟩; rw [hw]; clear hw))
    exact ⟨rfl, rfl, bel1 b1⟩
set_option maxRecDepth 100000 in
set_option maxHeartbeats 1000000 in
theorem place_yes (t s : Int) (a : Option Addr) (n c : Nat) (ss : List ByteArray) (L A B : Nat) (xs : List Int) (q : Nat) (e z f : Int) (w : World) (h : IsHp w t s a n c ss A B xs) (hL : w.heap[L]? = some (arO A)) (hq : q < xs.length) (e0 : 0 ≤ e) (e1 : e ≤ 20000) (hz : Hid (osz xs ss e q = z)) (z2 : 2 ≤ z) (z10 : z ≤ 10) (f0 : 0 ≤ f) (f1 : f < z - 2) :
    Calls Tryz.prog 45 #[objV t s a n c L (q : Int) e, .int .i64 f] w fun e' w' => e' = .returned (.int .i64 (q + 2 + f)) ∧ Below w.heap.size w w' := by
  have q9 : (q : Int) ≤ 20000 := by have := h.ar.le; omega
  have q0 : (0 : Int) ≤ (q : Int) := by omega
  have f9 : f ≤ 10 := by omega
  have bw := below_alloc0 w (objO t s a n c L (q : Int) e)
  have cm := mustStand_yes t s a n c ss L A B xs q e z _ (h.below bw) (row_below hL bw) hq e0 e1 hz (by rw [beq_eq_false_iff_ne]; omega)
  clear h hL hz
  go_enter Tryz.func45, Tryz.ntmps45
  go_wp2_with (go_at_call 56; refine cm.mono ?_)
  rintro e w' ⟨rfl, b1⟩
  have c4 := at_row (row1 b1) 4 rfl
  have B1 := hid (bel1 b1)
  clear b1
  go_wp2
  go_ret
  exact ⟨rfl, B1.out⟩
end Go.Proofs.YtldfmlkjeniemaaGreatDoor
/- package object: the closure of Place: open, then place; each may give up. -/
set_option linter.unusedVariables false
namespace Go.Proofs.YtldfmlkjeniemaaGreatDoor
open Go.RowKit Go.Ly Go.Hd Go.Sh Go.Ob
set_option maxRecDepth 100000 in
set_option maxHeartbeats 4000000 in
theorem clop_open (W0 We : World) (ga gp gt gf gx : Nat) (P : Option Addr) (t s : Int) (a : Option Addr) (n c : Nat) (x f : Int) (H0 : Hs6 W0 ga 0 (.pointer P) gp 0 (.int .i64 t) gp 1 (.int .i64 s) gp 2 (.slice a n c) gt 0 (.int .i64 x) gf 0 (.int .i64 f) W0) (HB : Below W0.heap.size W0 We) (k : Int) (co : ∀ W, Below We.heap.size We W → Calls Tryz.prog 24 #[.pointer P, planV t s a n c] W fun e w' => e = upE k ∧ Below W.heap.size W w') :
    Calls Tryz.prog 44 #[.pointer (some ⟨ga, 0, none⟩), .pointer (some ⟨gp, 0, none⟩), .pointer (some ⟨gt, 0, none⟩), .pointer (some ⟨gf, 0, none⟩), .pointer (some ⟨gx, 0, none⟩)] We fun e w' => e = upE k ∧ Below We.heap.size We w' := by
  go_enter Tryz.func44, Tryz.ntmps44
  go_wp2_with fail
  refine wp_region_held_drew (S := Hs6 W0 ga 0 (.pointer P) gp 0 (.int .i64 t) gp 1 (.int .i64 s) gp 2 (.slice a n c) gt 0 (.int .i64 x) gf 0 (.int .i64 f)) (by kernel_rfl) (hs6_mk H0 HB.drew) (fun hHeld => ?_)
  refine wpAnyH_take (i := 0) (v := ?_) rfl (by kernel_rfl) (by kernel_rfl) (by kernel_rfl) (fun _ _ _ h => h) (Or.inl ⟨by rfl, ?_⟩) (by assumption) ?_
  rotate_left
  · (intro wx hSw; (try dsimp only at hSw); go_simp <;> with_reducible rfl)
  simp only [Act.put]
  refine wpAnyH_take (i := 1) (v := ?_) rfl (by kernel_rfl) (by kernel_rfl) (by kernel_rfl) (fun _ _ _ h => h) (Or.inl ⟨by rfl, ?_⟩) (by assumption) ?_
  rotate_left
  · (intro wx hSw; (try dsimp only at hSw); go_simp <;> with_reducible rfl)
  simp only [Act.put]
  refine wpAnyH_take (i := 3) (v := ?_) rfl (by kernel_rfl) (by kernel_rfl) (by kernel_rfl) (fun _ _ _ h => h) (Or.inl ⟨by rfl, ?_⟩) (by assumption) ?_
  rotate_left
  · (intro wx hSw; (try dsimp only at hSw); go_simp <;> with_reducible rfl)
  simp only [Act.put]
  refine wpAnyH_take (i := 5) (v := ?_) rfl (by kernel_rfl) (by kernel_rfl) (by kernel_rfl) (fun _ _ _ h => h) (Or.inl ⟨by rfl, ?_⟩) (by assumption) ?_
  rotate_left
  · (intro wx hSw; (try dsimp only at hSw); go_simp <;> with_reducible rfl)
  simp only [Act.put]
  refine wpAnyH_ready (rs := [2]) (by kernel_rfl) (by simp) ?_
  refine AllReadyH.cons rfl (fun K hK => ?_) AllReadyH.nil
  go_simp
  go_at_call 24
  refine (co _ (Below.refl _ _).drew).mono ?_
  rintro e w1 ⟨rfl, b1⟩
  exact ⟨rfl, rfl, ((Below.refl We.heap.size We).drew).trans b1⟩
set_option maxRecDepth 100000 in
set_option maxHeartbeats 4000000 in
theorem clop_to (W0 We : World) (ga gp gt gf gx : Nat) (P : Option Addr) (t s : Int) (a : Option Addr) (n c : Nat) (x f : Int) (H0 : Hs6 W0 ga 0 (.pointer P) gp 0 (.int .i64 t) gp 1 (.int .i64 s) gp 2 (.slice a n c) gt 0 (.int .i64 x) gf 0 (.int .i64 f) W0) (HB : Below W0.heap.size W0 We) (k : Int) (A : Nat) (co : ∀ W, Below We.heap.size We W → Calls Tryz.prog 24 #[.pointer P, planV t s a n c] W fun e w' => e = .returned (objV t s a n c W.heap.size 0 0) ∧ w'.heap[W.heap.size]? = some (arO A) ∧ Below W.heap.size W w') (ct : ∀ L W, Below We.heap.size We W → W.heap[L]? = some (arO A) → Calls Tryz.prog 25 #[objV t s a n c L 0 0, .int .i64 x] W fun e' w' => e' = upE k ∧ Below W.heap.size W w') :
    Calls Tryz.prog 44 #[.pointer (some ⟨ga, 0, none⟩), .pointer (some ⟨gp, 0, none⟩), .pointer (some ⟨gt, 0, none⟩), .pointer (some ⟨gf, 0, none⟩), .pointer (some ⟨gx, 0, none⟩)] We fun e w' => e = upE k ∧ Below We.heap.size We w' := by
  go_enter Tryz.func44, Tryz.ntmps44
  go_wp2_with fail
  refine wp_region_held_drew (S := Hs6 W0 ga 0 (.pointer P) gp 0 (.int .i64 t) gp 1 (.int .i64 s) gp 2 (.slice a n c) gt 0 (.int .i64 x) gf 0 (.int .i64 f)) (by kernel_rfl) (hs6_mk H0 HB.drew) (fun hHeld => ?_)
  refine wpAnyH_take (i := 0) (v := ?_) rfl (by kernel_rfl) (by kernel_rfl) (by kernel_rfl) (fun _ _ _ h => h) (Or.inl ⟨by rfl, ?_⟩) (by assumption) ?_
  rotate_left
  · (intro wx hSw; (try dsimp only at hSw); go_simp <;> with_reducible rfl)
  simp only [Act.put]
  refine wpAnyH_take (i := 1) (v := ?_) rfl (by kernel_rfl) (by kernel_rfl) (by kernel_rfl) (fun _ _ _ h => h) (Or.inl ⟨by rfl, ?_⟩) (by assumption) ?_
  rotate_left
  · (intro wx hSw; (try dsimp only at hSw); go_simp <;> with_reducible rfl)
  simp only [Act.put]
  refine wpAnyH_take (i := 3) (v := ?_) rfl (by kernel_rfl) (by kernel_rfl) (by kernel_rfl) (fun _ _ _ h => h) (Or.inl ⟨by rfl, ?_⟩) (by assumption) ?_
  rotate_left
  · (intro wx hSw; (try dsimp only at hSw); go_simp <;> with_reducible rfl)
  simp only [Act.put]
  refine wpAnyH_take (i := 5) (v := ?_) rfl (by kernel_rfl) (by kernel_rfl) (by kernel_rfl) (fun _ _ _ h => h) (Or.inl ⟨by rfl, ?_⟩) (by assumption) ?_
  rotate_left
  · (intro wx hSw; (try dsimp only at hSw); go_simp <;> with_reducible rfl)
  simp only [Act.put]
  refine wpAnyH_ready (rs := [2]) (by kernel_rfl) (by simp) ?_
  refine AllReadyH.cons rfl (fun K hK => ?_) AllReadyH.nil
  go_simp
  go_at_call 24
  refine (co _ (Below.refl _ _).drew).mono ?_
  rintro e w1 ⟨rfl, L1, b1⟩
  have B1 := hid (((Below.refl We.heap.size We).drew).trans b1)
  dsimp only
  refine hK.out _ _ ?_ (fun hHeld => ?_)
  · with_reducible (first | exact hs6_mk H0 (HB.drew) | exact hs6_mk H0 (HB.trans (B1.out.mono HB.size)) | exact hs6_mk H0 (HB.trans (B2.out.mono HB.size)) | exact hs6_mk H0 (HB.trans (B3.out.mono HB.size)) | exact hs6_mk H0 ((HB.trans (B3.out.mono HB.size)).setCell hgx _))
  clear hK K
  refine wpAnyH_ready (rs := [4]) (by kernel_rfl) (by simp) ?_
  refine AllReadyH.cons rfl (fun K hK => ?_) AllReadyH.nil
  go_simp
  go_at_call 25
  refine (ct _ _ B1.out L1).mono ?_
  rintro e w2 ⟨rfl, b2⟩
  exact ⟨rfl, rfl, B1.out.trans (b2.mono B1.out.size)⟩
set_option maxRecDepth 100000 in
set_option maxHeartbeats 4000000 in
theorem clop_last (W0 We : World) (ga gp gt gf gx : Nat) (P : Option Addr) (t s : Int) (a : Option Addr) (n c : Nat) (x f : Int) (H0 : Hs6 W0 ga 0 (.pointer P) gp 0 (.int .i64 t) gp 1 (.int .i64 s) gp 2 (.slice a n c) gt 0 (.int .i64 x) gf 0 (.int .i64 f) W0) (HB : Below W0.heap.size W0 We) (k E : Int) (A : Nat) (co : ∀ W, Below We.heap.size We W → Calls Tryz.prog 24 #[.pointer P, planV t s a n c] W fun e w' => e = .returned (objV t s a n c W.heap.size 0 0) ∧ w'.heap[W.heap.size]? = some (arO A) ∧ Below W.heap.size W w') (ct : ∀ L W, Below We.heap.size We W → W.heap[L]? = some (arO A) → Calls Tryz.prog 25 #[objV t s a n c L 0 0, .int .i64 x] W fun e' w' => e' = .returned (objV t s a n c L x E) ∧ Below W.heap.size W w') (cl : ∀ L W, Below We.heap.size We W → W.heap[L]? = some (arO A) → Calls Tryz.prog 45 #[objV t s a n c L x E, .int .i64 f] W fun e' w' => e' = upE k ∧ Below W.heap.size W w') :
    Calls Tryz.prog 44 #[.pointer (some ⟨ga, 0, none⟩), .pointer (some ⟨gp, 0, none⟩), .pointer (some ⟨gt, 0, none⟩), .pointer (some ⟨gf, 0, none⟩), .pointer (some ⟨gx, 0, none⟩)] We fun e w' => e = upE k ∧ Below We.heap.size We w' := by
  go_enter Tryz.func44, Tryz.ntmps44
  go_wp2_with fail
  refine wp_region_held_drew (S := Hs6 W0 ga 0 (.pointer P) gp 0 (.int .i64 t) gp 1 (.int .i64 s) gp 2 (.slice a n c) gt 0 (.int .i64 x) gf 0 (.int .i64 f)) (by kernel_rfl) (hs6_mk H0 HB.drew) (fun hHeld => ?_)
  refine wpAnyH_take (i := 0) (v := ?_) rfl (by kernel_rfl) (by kernel_rfl) (by kernel_rfl) (fun _ _ _ h => h) (Or.inl ⟨by rfl, ?_⟩) (by assumption) ?_
  rotate_left
  · (intro wx hSw; (try dsimp only at hSw); go_simp <;> with_reducible rfl)
  simp only [Act.put]
  refine wpAnyH_take (i := 1) (v := ?_) rfl (by kernel_rfl) (by kernel_rfl) (by kernel_rfl) (fun _ _ _ h => h) (Or.inl ⟨by rfl, ?_⟩) (by assumption) ?_
  rotate_left
  · (intro wx hSw; (try dsimp only at hSw); go_simp <;> with_reducible rfl)
  simp only [Act.put]
  refine wpAnyH_take (i := 3) (v := ?_) rfl (by kernel_rfl) (by kernel_rfl) (by kernel_rfl) (fun _ _ _ h => h) (Or.inl ⟨by rfl, ?_⟩) (by assumption) ?_
  rotate_left
  · (intro wx hSw; (try dsimp only at hSw); go_simp <;> with_reducible rfl)
  simp only [Act.put]
  refine wpAnyH_take (i := 5) (v := ?_) rfl (by kernel_rfl) (by kernel_rfl) (by kernel_rfl) (fun _ _ _ h => h) (Or.inl ⟨by rfl, ?_⟩) (by assumption) ?_
  rotate_left
  · (intro wx hSw; (try dsimp only at hSw); go_simp <;> with_reducible rfl)
  simp only [Act.put]
  refine wpAnyH_ready (rs := [2]) (by kernel_rfl) (by simp) ?_
  refine AllReadyH.cons rfl (fun K hK => ?_) AllReadyH.nil
  go_simp
  go_at_call 24
  refine (co _ (Below.refl _ _).drew).mono ?_
  rintro e w1 ⟨rfl, L1, b1⟩
  have B1 := hid (((Below.refl We.heap.size We).drew).trans b1)
  dsimp only
  refine hK.out _ _ ?_ (fun hHeld => ?_)
  · with_reducible (first | exact hs6_mk H0 (HB.drew) | exact hs6_mk H0 (HB.trans (B1.out.mono HB.size)) | exact hs6_mk H0 (HB.trans (B2.out.mono HB.size)) | exact hs6_mk H0 (HB.trans (B3.out.mono HB.size)) | exact hs6_mk H0 ((HB.trans (B3.out.mono HB.size)).setCell hgx _))
  clear hK K
  refine wpAnyH_ready (rs := [4]) (by kernel_rfl) (by simp) ?_
  refine AllReadyH.cons rfl (fun K hK => ?_) AllReadyH.nil
  go_simp
  go_at_call 25
  refine (ct _ _ B1.out L1).mono ?_
  rintro e w2 ⟨rfl, b2⟩
  have B2 := hid (B1.out.trans (b2.mono B1.out.size))
  have L2 := row_below L1 b2
  dsimp only
  refine hK.out _ _ ?_ (fun hHeld => ?_)
  · with_reducible (first | exact hs6_mk H0 (HB.drew) | exact hs6_mk H0 (HB.trans (B1.out.mono HB.size)) | exact hs6_mk H0 (HB.trans (B2.out.mono HB.size)) | exact hs6_mk H0 (HB.trans (B3.out.mono HB.size)) | exact hs6_mk H0 ((HB.trans (B3.out.mono HB.size)).setCell hgx _))
  clear hK K
  refine wpAnyH_ready (rs := [6]) (by kernel_rfl) (by simp) ?_
  refine AllReadyH.cons rfl (fun K hK => ?_) AllReadyH.nil
  go_simp
  go_at_call 45
  refine (cl _ _ B2.out L2).mono ?_
  rintro e w3 ⟨rfl, b3⟩
  exact ⟨rfl, rfl, B2.out.trans (b3.mono B2.out.size)⟩
set_option maxRecDepth 100000 in
set_option maxHeartbeats 4000000 in
theorem clop_ok (W0 We : World) (ga gp gt gf gx : Nat) (P : Option Addr) (t s : Int) (a : Option Addr) (n c : Nat) (x f : Int) (H0 : Hs6 W0 ga 0 (.pointer P) gp 0 (.int .i64 t) gp 1 (.int .i64 s) gp 2 (.slice a n c) gt 0 (.int .i64 x) gf 0 (.int .i64 f) W0) (HB : Below W0.heap.size W0 We) (E : Int) (A : Nat) (z : Int) (hgx : W0.heap.size ≤ gx) (Rx : We.heap[gx]? = some (.cells #[.int .i64 0] 3)) (co : ∀ W, Below We.heap.size We W → Calls Tryz.prog 24 #[.pointer P, planV t s a n c] W fun e w' => e = .returned (objV t s a n c W.heap.size 0 0) ∧ w'.heap[W.heap.size]? = some (arO A) ∧ Below W.heap.size W w') (ct : ∀ L W, Below We.heap.size We W → W.heap[L]? = some (arO A) → Calls Tryz.prog 25 #[objV t s a n c L 0 0, .int .i64 x] W fun e' w' => e' = .returned (objV t s a n c L x E) ∧ Below W.heap.size W w') (cl : ∀ L W, Below We.heap.size We W → W.heap[L]? = some (arO A) → Calls Tryz.prog 45 #[objV t s a n c L x E, .int .i64 f] W fun e' w' => e' = .returned (.int .i64 z) ∧ Below W.heap.size W w') :
    Calls Tryz.prog 44 #[.pointer (some ⟨ga, 0, none⟩), .pointer (some ⟨gp, 0, none⟩), .pointer (some ⟨gt, 0, none⟩), .pointer (some ⟨gf, 0, none⟩), .pointer (some ⟨gx, 0, none⟩)] We fun e w' => e = .returned (.tuple #[]) ∧ ∃ w3, Below We.heap.size We w3 ∧ w' = w3.setCell ⟨gx, 0, none⟩ (.int .i64 z) := by
  go_enter Tryz.func44, Tryz.ntmps44
  go_wp2_with fail
  refine wp_region_held_drew (S := Hs6 W0 ga 0 (.pointer P) gp 0 (.int .i64 t) gp 1 (.int .i64 s) gp 2 (.slice a n c) gt 0 (.int .i64 x) gf 0 (.int .i64 f)) (by kernel_rfl) (hs6_mk H0 HB.drew) (fun hHeld => ?_)
  refine wpAnyH_take (i := 0) (v := ?_) rfl (by kernel_rfl) (by kernel_rfl) (by kernel_rfl) (fun _ _ _ h => h) (Or.inl ⟨by rfl, ?_⟩) (by assumption) ?_
  rotate_left
  · (intro wx hSw; (try dsimp only at hSw); go_simp <;> with_reducible rfl)
  simp only [Act.put]
  refine wpAnyH_take (i := 1) (v := ?_) rfl (by kernel_rfl) (by kernel_rfl) (by kernel_rfl) (fun _ _ _ h => h) (Or.inl ⟨by rfl, ?_⟩) (by assumption) ?_
  rotate_left
  · (intro wx hSw; (try dsimp only at hSw); go_simp <;> with_reducible rfl)
  simp only [Act.put]
  refine wpAnyH_take (i := 3) (v := ?_) rfl (by kernel_rfl) (by kernel_rfl) (by kernel_rfl) (fun _ _ _ h => h) (Or.inl ⟨by rfl, ?_⟩) (by assumption) ?_
  rotate_left
  · (intro wx hSw; (try dsimp only at hSw); go_simp <;> with_reducible rfl)
  simp only [Act.put]
  refine wpAnyH_take (i := 5) (v := ?_) rfl (by kernel_rfl) (by kernel_rfl) (by kernel_rfl) (fun _ _ _ h => h) (Or.inl ⟨by rfl, ?_⟩) (by assumption) ?_
  rotate_left
  · (intro wx hSw; (try dsimp only at hSw); go_simp <;> with_reducible rfl)
  simp only [Act.put]
  refine wpAnyH_ready (rs := [2]) (by kernel_rfl) (by simp) ?_
  refine AllReadyH.cons rfl (fun K hK => ?_) AllReadyH.nil
  go_simp
  go_at_call 24
  refine (co _ (Below.refl _ _).drew).mono ?_
  rintro e w1 ⟨rfl, L1, b1⟩
  have B1 := hid (((Below.refl We.heap.size We).drew).trans b1)
  dsimp only
  refine hK.out _ _ ?_ (fun hHeld => ?_)
  · with_reducible (first | exact hs6_mk H0 (HB.drew) | exact hs6_mk H0 (HB.trans (B1.out.mono HB.size)) | exact hs6_mk H0 (HB.trans (B2.out.mono HB.size)) | exact hs6_mk H0 (HB.trans (B3.out.mono HB.size)) | exact hs6_mk H0 ((HB.trans (B3.out.mono HB.size)).setCell hgx _))
  clear hK K
  refine wpAnyH_ready (rs := [4]) (by kernel_rfl) (by simp) ?_
  refine AllReadyH.cons rfl (fun K hK => ?_) AllReadyH.nil
  go_simp
  go_at_call 25
  refine (ct _ _ B1.out L1).mono ?_
  rintro e w2 ⟨rfl, b2⟩
  have B2 := hid (B1.out.trans (b2.mono B1.out.size))
  have L2 := row_below L1 b2
  dsimp only
  refine hK.out _ _ ?_ (fun hHeld => ?_)
  · with_reducible (first | exact hs6_mk H0 (HB.drew) | exact hs6_mk H0 (HB.trans (B1.out.mono HB.size)) | exact hs6_mk H0 (HB.trans (B2.out.mono HB.size)) | exact hs6_mk H0 (HB.trans (B3.out.mono HB.size)) | exact hs6_mk H0 ((HB.trans (B3.out.mono HB.size)).setCell hgx _))
  clear hK K
  refine wpAnyH_ready (rs := [6]) (by kernel_rfl) (by simp) ?_
  refine AllReadyH.cons rfl (fun K hK => ?_) AllReadyH.nil
  go_simp
  go_at_call 45
  refine (cl _ _ B2.out L2).mono ?_
  rintro e w3 ⟨rfl, b3⟩
  have B3 := hid (B2.out.trans (b3.mono B2.out.size))
  have R3 := row_below Rx B3.out
  have s0 := at_row R3 0 rfl
  have t0 := fz_row R3 0
  dsimp only
  refine hK.out _ _ ?_ (fun hHeld => ?_)
  · with_reducible (first | exact hs6_mk H0 (HB.drew) | exact hs6_mk H0 (HB.trans (B1.out.mono HB.size)) | exact hs6_mk H0 (HB.trans (B2.out.mono HB.size)) | exact hs6_mk H0 (HB.trans (B3.out.mono HB.size)) | exact hs6_mk H0 ((HB.trans (B3.out.mono HB.size)).setCell hgx _))
  clear hK K
  refine wpAnyH_ready (rs := [7]) (by kernel_rfl) (by simp) ?_
  refine AllReadyH.cons rfl (fun K hK => ?_) AllReadyH.nil
  go_simp
  refine hK.out _ _ ?_ (fun hHeld => ?_)
  · with_reducible (first | exact hs6_mk H0 (HB.drew) | exact hs6_mk H0 (HB.trans (B1.out.mono HB.size)) | exact hs6_mk H0 (HB.trans (B2.out.mono HB.size)) | exact hs6_mk H0 (HB.trans (B3.out.mono HB.size)) | exact hs6_mk H0 ((HB.trans (B3.out.mono HB.size)).setCell hgx _))
  clear hK K
  refine wpAnyH_done (by kernel_rfl) ?_ _
  go_wp2
  go_end0
  exact ⟨rfl, _, B3.out, rfl⟩
end Go.Proofs.YtldfmlkjeniemaaGreatDoor
