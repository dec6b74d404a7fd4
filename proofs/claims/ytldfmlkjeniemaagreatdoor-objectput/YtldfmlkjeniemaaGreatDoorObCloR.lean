/- package object: the closure of Read: open, then read; each may give up. -/
import Derived.Test.YtldfmlkjeniemaaGreatDoorObRead
import Derived.Test.YtldfmlkjeniemaaGreatDoorObHeld
set_option linter.unusedVariables false
namespace Go.Proofs.YtldfmlkjeniemaaGreatDoor
open Go.RowKit Go.Ly Go.Hd Go.Sh Go.Ob
set_option maxRecDepth 100000 in
set_option maxHeartbeats 4000000 in
theorem clor_open (W0 We : World) (ga gp gt gx : Nat) (P : Option Addr) (t s : Int) (a : Option Addr) (n c : Nat) (x : Int) (H0 : Hs5 W0 ga 0 (.pointer P) gp 0 (.int .i64 t) gp 1 (.int .i64 s) gp 2 (.slice a n c) gt 0 (.int .i64 x) W0) (HB : Below W0.heap.size W0 We) (k : Int) (co : ∀ W, Below We.heap.size We W → Calls Tryz.prog 24 #[.pointer P, planV t s a n c] W fun e w' => e = upE k ∧ Below W.heap.size W w') :
    Calls Tryz.prog 23 #[.pointer (some ⟨ga, 0, none⟩), .pointer (some ⟨gp, 0, none⟩), .pointer (some ⟨gt, 0, none⟩), .pointer (some ⟨gx, 0, none⟩)] We fun e w' => e = upE k ∧ Below We.heap.size We w' := by
  go_enter Tryz.func23, Tryz.ntmps23
  go_wp2_with fail
  refine wp_region_held_drew (S := Hs5 W0 ga 0 (.pointer P) gp 0 (.int .i64 t) gp 1 (.int .i64 s) gp 2 (.slice a n c) gt 0 (.int .i64 x)) (by kernel_rfl) (hs5_mk H0 HB.drew) (fun hHeld => ?_)
  refine wpAnyH_take (i := 0) (v := ?_) rfl (by kernel_rfl) (by kernel_rfl) (by kernel_rfl) (fun _ _ _ h => h) (Or.inl ⟨by rfl, ?_⟩) (by assumption) ?_
  rotate_left
  · (intro wx hSw; (try dsimp only at hSw); go_simp <;> with_reducible rfl)
  simp only [Act.put]
  refine wpAnyH_take (i := 1) (v := ?_) rfl (by kernel_rfl) (by kernel_rfl) (by kernel_rfl) (fun _ _ _ h => h) (Or.inl ⟨by rfl, ?_⟩) (by assumption) ?_
  rotate_left
  · (intro wx hSw; (try dsimp only at hSw); go_simp <;> with_reducible rfl)
  simp only [Act.put]
  refine wpAnyH_take (i := 3) (v := ?_) rfl (by kernel_rfl) (by kernel_rfl) (by kernel_rfl) (fun _ _ _ h => h) (Or.inl ⟨by rfl, ?_⟩) (by assumption) ?_
  rotate_left
  · (intro wx hSw; (try dsimp only at hSw); go_simp <;> with_reducible rfl)
  simp only [Act.put]
  refine wpAnyH_ready (rs := [2]) (by kernel_rfl) (by simp) ?_
  refine AllReadyH.cons rfl (fun K hK => ?_) AllReadyH.nil
  go_simp
  go_at_call 24
  refine (co _ (Below.refl _ _).drew).mono ?_
  rintro e w1 ⟨rfl, b1⟩
  exact ⟨rfl, rfl, ((Below.refl We.heap.size We).drew).trans b1⟩
set_option maxRecDepth 100000 in
set_option maxHeartbeats 4000000 in
theorem clor_to (W0 We : World) (ga gp gt gx : Nat) (P : Option Addr) (t s : Int) (a : Option Addr) (n c : Nat) (x : Int) (H0 : Hs5 W0 ga 0 (.pointer P) gp 0 (.int .i64 t) gp 1 (.int .i64 s) gp 2 (.slice a n c) gt 0 (.int .i64 x) W0) (HB : Below W0.heap.size W0 We) (k : Int) (A : Nat) (co : ∀ W, Below We.heap.size We W → Calls Tryz.prog 24 #[.pointer P, planV t s a n c] W fun e w' => e = .returned (objV t s a n c W.heap.size 0 0) ∧ w'.heap[W.heap.size]? = some (arO A) ∧ Below W.heap.size W w') (ct : ∀ L W, Below We.heap.size We W → W.heap[L]? = some (arO A) → Calls Tryz.prog 25 #[objV t s a n c L 0 0, .int .i64 x] W fun e' w' => e' = upE k ∧ Below W.heap.size W w') :
    Calls Tryz.prog 23 #[.pointer (some ⟨ga, 0, none⟩), .pointer (some ⟨gp, 0, none⟩), .pointer (some ⟨gt, 0, none⟩), .pointer (some ⟨gx, 0, none⟩)] We fun e w' => e = upE k ∧ Below We.heap.size We w' := by
  go_enter Tryz.func23, Tryz.ntmps23
  go_wp2_with fail
  refine wp_region_held_drew (S := Hs5 W0 ga 0 (.pointer P) gp 0 (.int .i64 t) gp 1 (.int .i64 s) gp 2 (.slice a n c) gt 0 (.int .i64 x)) (by kernel_rfl) (hs5_mk H0 HB.drew) (fun hHeld => ?_)
  refine wpAnyH_take (i := 0) (v := ?_) rfl (by kernel_rfl) (by kernel_rfl) (by kernel_rfl) (fun _ _ _ h => h) (Or.inl ⟨by rfl, ?_⟩) (by assumption) ?_
  rotate_left
  · (intro wx hSw; (try dsimp only at hSw); go_simp <;> with_reducible rfl)
  simp only [Act.put]
  refine wpAnyH_take (i := 1) (v := ?_) rfl (by kernel_rfl) (by kernel_rfl) (by kernel_rfl) (fun _ _ _ h => h) (Or.inl ⟨by rfl, ?_⟩) (by assumption) ?_
  rotate_left
  · (intro wx hSw; (try dsimp only at hSw); go_simp <;> with_reducible rfl)
  simp only [Act.put]
  refine wpAnyH_take (i := 3) (v := ?_) rfl (by kernel_rfl) (by kernel_rfl) (by kernel_rfl) (fun _ _ _ h => h) (Or.inl ⟨by rfl, ?_⟩) (by assumption) ?_
  rotate_left
  · (intro wx hSw; (try dsimp only at hSw); go_simp <;> with_reducible rfl)
  simp only [Act.put]
  refine wpAnyH_ready (rs := [2]) (by kernel_rfl) (by simp) ?_
  refine AllReadyH.cons rfl (fun K hK => ?_) AllReadyH.nil
  go_simp
  go_at_call 24
  refine (co _ (Below.refl _ _).drew).mono ?_
  rintro e w1 ⟨rfl, L1, b1⟩
  have B1 := hid (((Below.refl We.heap.size We).drew).trans b1)
  dsimp only
  refine hK.out _ _ ?_ (fun hHeld => ?_)
  · with_reducible (first | exact hs5_mk H0 (HB.drew) | exact hs5_mk H0 (HB.trans (B1.out.mono HB.size)) | exact hs5_mk H0 (HB.trans (B2.out.mono HB.size)) | exact hs5_mk H0 (HB.trans (B3.out.mono HB.size)) | exact hs5_mk H0 (five_set (HB.trans (B3.out.mono HB.size)) hgx _ _ _ _ _))
  clear hK K
  refine wpAnyH_ready (rs := [4]) (by kernel_rfl) (by simp) ?_
  refine AllReadyH.cons rfl (fun K hK => ?_) AllReadyH.nil
  go_simp
  go_at_call 25
  refine (ct _ _ B1.out L1).mono ?_
  rintro e w2 ⟨rfl, b2⟩
  exact ⟨rfl, rfl, B1.out.trans (b2.mono B1.out.size)⟩
set_option maxRecDepth 100000 in
set_option maxHeartbeats 4000000 in
theorem clor_last (W0 We : World) (ga gp gt gx : Nat) (P : Option Addr) (t s : Int) (a : Option Addr) (n c : Nat) (x : Int) (H0 : Hs5 W0 ga 0 (.pointer P) gp 0 (.int .i64 t) gp 1 (.int .i64 s) gp 2 (.slice a n c) gt 0 (.int .i64 x) W0) (HB : Below W0.heap.size W0 We) (k E : Int) (A : Nat) (co : ∀ W, Below We.heap.size We W → Calls Tryz.prog 24 #[.pointer P, planV t s a n c] W fun e w' => e = .returned (objV t s a n c W.heap.size 0 0) ∧ w'.heap[W.heap.size]? = some (arO A) ∧ Below W.heap.size W w') (ct : ∀ L W, Below We.heap.size We W → W.heap[L]? = some (arO A) → Calls Tryz.prog 25 #[objV t s a n c L 0 0, .int .i64 x] W fun e' w' => e' = .returned (objV t s a n c L x E) ∧ Below W.heap.size W w') (cl : ∀ L W, Below We.heap.size We W → W.heap[L]? = some (arO A) → Calls Tryz.prog 26 #[objV t s a n c L x E] W fun e' w' => e' = upE k ∧ Below W.heap.size W w') :
    Calls Tryz.prog 23 #[.pointer (some ⟨ga, 0, none⟩), .pointer (some ⟨gp, 0, none⟩), .pointer (some ⟨gt, 0, none⟩), .pointer (some ⟨gx, 0, none⟩)] We fun e w' => e = upE k ∧ Below We.heap.size We w' := by
  go_enter Tryz.func23, Tryz.ntmps23
  go_wp2_with fail
  refine wp_region_held_drew (S := Hs5 W0 ga 0 (.pointer P) gp 0 (.int .i64 t) gp 1 (.int .i64 s) gp 2 (.slice a n c) gt 0 (.int .i64 x)) (by kernel_rfl) (hs5_mk H0 HB.drew) (fun hHeld => ?_)
  refine wpAnyH_take (i := 0) (v := ?_) rfl (by kernel_rfl) (by kernel_rfl) (by kernel_rfl) (fun _ _ _ h => h) (Or.inl ⟨by rfl, ?_⟩) (by assumption) ?_
  rotate_left
  · (intro wx hSw; (try dsimp only at hSw); go_simp <;> with_reducible rfl)
  simp only [Act.put]
  refine wpAnyH_take (i := 1) (v := ?_) rfl (by kernel_rfl) (by kernel_rfl) (by kernel_rfl) (fun _ _ _ h => h) (Or.inl ⟨by rfl, ?_⟩) (by assumption) ?_
  rotate_left
  · (intro wx hSw; (try dsimp only at hSw); go_simp <;> with_reducible rfl)
  simp only [Act.put]
  refine wpAnyH_take (i := 3) (v := ?_) rfl (by kernel_rfl) (by kernel_rfl) (by kernel_rfl) (fun _ _ _ h => h) (Or.inl ⟨by rfl, ?_⟩) (by assumption) ?_
  rotate_left
  · (intro wx hSw; (try dsimp only at hSw); go_simp <;> with_reducible rfl)
  simp only [Act.put]
  refine wpAnyH_ready (rs := [2]) (by kernel_rfl) (by simp) ?_
  refine AllReadyH.cons rfl (fun K hK => ?_) AllReadyH.nil
  go_simp
  go_at_call 24
  refine (co _ (Below.refl _ _).drew).mono ?_
  rintro e w1 ⟨rfl, L1, b1⟩
  have B1 := hid (((Below.refl We.heap.size We).drew).trans b1)
  dsimp only
  refine hK.out _ _ ?_ (fun hHeld => ?_)
  · with_reducible (first | exact hs5_mk H0 (HB.drew) | exact hs5_mk H0 (HB.trans (B1.out.mono HB.size)) | exact hs5_mk H0 (HB.trans (B2.out.mono HB.size)) | exact hs5_mk H0 (HB.trans (B3.out.mono HB.size)) | exact hs5_mk H0 (five_set (HB.trans (B3.out.mono HB.size)) hgx _ _ _ _ _))
  clear hK K
  refine wpAnyH_ready (rs := [4]) (by kernel_rfl) (by simp) ?_
  refine AllReadyH.cons rfl (fun K hK => ?_) AllReadyH.nil
  go_simp
  go_at_call 25
  refine (ct _ _ B1.out L1).mono ?_
  rintro e w2 ⟨rfl, b2⟩
  have B2 := hid (B1.out.trans (b2.mono B1.out.size))
  have L2 := row_below L1 b2
  dsimp only
  refine hK.out _ _ ?_ (fun hHeld => ?_)
  · with_reducible (first | exact hs5_mk H0 (HB.drew) | exact hs5_mk H0 (HB.trans (B1.out.mono HB.size)) | exact hs5_mk H0 (HB.trans (B2.out.mono HB.size)) | exact hs5_mk H0 (HB.trans (B3.out.mono HB.size)) | exact hs5_mk H0 (five_set (HB.trans (B3.out.mono HB.size)) hgx _ _ _ _ _))
  clear hK K
  refine wpAnyH_ready (rs := [5]) (by kernel_rfl) (by simp) ?_
  refine AllReadyH.cons rfl (fun K hK => ?_) AllReadyH.nil
  go_simp
  go_at_call 26
  refine (cl _ _ B2.out L2).mono ?_
  rintro e w3 ⟨rfl, b3⟩
  exact ⟨rfl, rfl, B2.out.trans (b3.mono B2.out.size)⟩
set_option maxRecDepth 100000 in
set_option maxHeartbeats 4000000 in
theorem clor_ok (W0 We : World) (ga gp gt gx : Nat) (P : Option Addr) (t s : Int) (a : Option Addr) (n c : Nat) (x : Int) (H0 : Hs5 W0 ga 0 (.pointer P) gp 0 (.int .i64 t) gp 1 (.int .i64 s) gp 2 (.slice a n c) gt 0 (.int .i64 x) W0) (HB : Below W0.heap.size W0 We) (E : Int) (A : Nat) (sh mk_ lk : Int) (zs : List Int) (hgx : W0.heap.size ≤ gx) (Rx : We.heap[gx]? = some (obO 0 0 0 0 (.slice none 0 0))) (co : ∀ W, Below We.heap.size We W → Calls Tryz.prog 24 #[.pointer P, planV t s a n c] W fun e w' => e = .returned (objV t s a n c W.heap.size 0 0) ∧ w'.heap[W.heap.size]? = some (arO A) ∧ Below W.heap.size W w') (ct : ∀ L W, Below We.heap.size We W → W.heap[L]? = some (arO A) → Calls Tryz.prog 25 #[objV t s a n c L 0 0, .int .i64 x] W fun e' w' => e' = .returned (objV t s a n c L x E) ∧ Below W.heap.size W w') (cl : ∀ L W, Below We.heap.size We W → W.heap[L]? = some (arO A) → Calls Tryz.prog 26 #[objV t s a n c L x E] W fun e' w' => ∃ v, e' = .returned (obV x sh mk_ lk v) ∧ FsAt W.heap.size w' v zs ∧ Below W.heap.size W w') :
    Calls Tryz.prog 23 #[.pointer (some ⟨ga, 0, none⟩), .pointer (some ⟨gp, 0, none⟩), .pointer (some ⟨gt, 0, none⟩), .pointer (some ⟨gx, 0, none⟩)] We fun e w' => e = .returned (.tuple #[]) ∧ ∃ w3 v, Below We.heap.size We w3 ∧ FsAt We.heap.size w3 v zs ∧ w' = ((((w3.setCell ⟨gx, 0, none⟩ (.int .i64 x)).setCell ⟨gx, 1, none⟩ (.int .i64 sh)).setCell ⟨gx, 2, none⟩ (.int .i64 mk_)).setCell ⟨gx, 3, none⟩ (.int .u64 lk)).setCell ⟨gx, 4, none⟩ v := by
  go_enter Tryz.func23, Tryz.ntmps23
  go_wp2_with fail
  refine wp_region_held_drew (S := Hs5 W0 ga 0 (.pointer P) gp 0 (.int .i64 t) gp 1 (.int .i64 s) gp 2 (.slice a n c) gt 0 (.int .i64 x)) (by kernel_rfl) (hs5_mk H0 HB.drew) (fun hHeld => ?_)
  refine wpAnyH_take (i := 0) (v := ?_) rfl (by kernel_rfl) (by kernel_rfl) (by kernel_rfl) (fun _ _ _ h => h) (Or.inl ⟨by rfl, ?_⟩) (by assumption) ?_
  rotate_left
  · (intro wx hSw; (try dsimp only at hSw); go_simp <;> with_reducible rfl)
  simp only [Act.put]
  refine wpAnyH_take (i := 1) (v := ?_) rfl (by kernel_rfl) (by kernel_rfl) (by kernel_rfl) (fun _ _ _ h => h) (Or.inl ⟨by rfl, ?_⟩) (by assumption) ?_
  rotate_left
  · (intro wx hSw; (try dsimp only at hSw); go_simp <;> with_reducible rfl)
  simp only [Act.put]
  refine wpAnyH_take (i := 3) (v := ?_) rfl (by kernel_rfl) (by kernel_rfl) (by kernel_rfl) (fun _ _ _ h => h) (Or.inl ⟨by rfl, ?_⟩) (by assumption) ?_
  rotate_left
  · (intro wx hSw; (try dsimp only at hSw); go_simp <;> with_reducible rfl)
  simp only [Act.put]
  refine wpAnyH_ready (rs := [2]) (by kernel_rfl) (by simp) ?_
  refine AllReadyH.cons rfl (fun K hK => ?_) AllReadyH.nil
  go_simp
  go_at_call 24
  refine (co _ (Below.refl _ _).drew).mono ?_
  rintro e w1 ⟨rfl, L1, b1⟩
  have B1 := hid (((Below.refl We.heap.size We).drew).trans b1)
  dsimp only
  refine hK.out _ _ ?_ (fun hHeld => ?_)
  · with_reducible (first | exact hs5_mk H0 (HB.drew) | exact hs5_mk H0 (HB.trans (B1.out.mono HB.size)) | exact hs5_mk H0 (HB.trans (B2.out.mono HB.size)) | exact hs5_mk H0 (HB.trans (B3.out.mono HB.size)) | exact hs5_mk H0 (five_set (HB.trans (B3.out.mono HB.size)) hgx _ _ _ _ _))
  clear hK K
  refine wpAnyH_ready (rs := [4]) (by kernel_rfl) (by simp) ?_
  refine AllReadyH.cons rfl (fun K hK => ?_) AllReadyH.nil
  go_simp
  go_at_call 25
  refine (ct _ _ B1.out L1).mono ?_
  rintro e w2 ⟨rfl, b2⟩
  have B2 := hid (B1.out.trans (b2.mono B1.out.size))
  have L2 := row_below L1 b2
  dsimp only
  refine hK.out _ _ ?_ (fun hHeld => ?_)
  · with_reducible (first | exact hs5_mk H0 (HB.drew) | exact hs5_mk H0 (HB.trans (B1.out.mono HB.size)) | exact hs5_mk H0 (HB.trans (B2.out.mono HB.size)) | exact hs5_mk H0 (HB.trans (B3.out.mono HB.size)) | exact hs5_mk H0 (five_set (HB.trans (B3.out.mono HB.size)) hgx _ _ _ _ _))
  clear hK K
  refine wpAnyH_ready (rs := [5]) (by kernel_rfl) (by simp) ?_
  refine AllReadyH.cons rfl (fun K hK => ?_) AllReadyH.nil
  go_simp
  go_at_call 26
  refine (cl _ _ B2.out L2).mono ?_
  rintro e w3 ⟨v, rfl, hfs, b3⟩
  obtain ⟨av, cv, rfl, hfs⟩ := hfs
  have B3 := hid (B2.out.trans (b3.mono B2.out.size))
  have R3 := row_below Rx B3.out
  have s0 := at_row R3 0 rfl
  have s1 := at_row R3 1 rfl
  have s2 := at_row R3 2 rfl
  have s3 := at_row R3 3 rfl
  have s4 := at_row R3 4 rfl
  have t0 := fz_row R3 0
  have t1 := fz_row R3 1
  have t2 := fz_row R3 2
  have t3 := fz_row R3 3
  have t4 := fz_row R3 4
  dsimp only
  refine hK.out _ _ ?_ (fun hHeld => ?_)
  · with_reducible (first | exact hs5_mk H0 (HB.drew) | exact hs5_mk H0 (HB.trans (B1.out.mono HB.size)) | exact hs5_mk H0 (HB.trans (B2.out.mono HB.size)) | exact hs5_mk H0 (HB.trans (B3.out.mono HB.size)) | exact hs5_mk H0 (five_set (HB.trans (B3.out.mono HB.size)) hgx _ _ _ _ _))
  clear hK K
  refine wpAnyH_ready (rs := [6]) (by kernel_rfl) (by simp) ?_
  refine AllReadyH.cons rfl (fun K hK => ?_) AllReadyH.nil
  go_simp
  refine hK.out _ _ ?_ (fun hHeld => ?_)
  · with_reducible (first | exact hs5_mk H0 (HB.drew) | exact hs5_mk H0 (HB.trans (B1.out.mono HB.size)) | exact hs5_mk H0 (HB.trans (B2.out.mono HB.size)) | exact hs5_mk H0 (HB.trans (B3.out.mono HB.size)) | exact hs5_mk H0 (five_set (HB.trans (B3.out.mono HB.size)) hgx _ _ _ _ _))
  clear hK K
  refine wpAnyH_done (by kernel_rfl) ?_ _
  go_wp2
  go_end0
  exact ⟨rfl, _, _, B3.out, FsAt.lower ⟨av, cv, rfl, hfs⟩ B2.out.size, rfl⟩
end Go.Proofs.YtldfmlkjeniemaaGreatDoor
