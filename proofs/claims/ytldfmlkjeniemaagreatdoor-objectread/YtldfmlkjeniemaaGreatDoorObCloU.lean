/- package object: the closure of Put: what may not be put; the words stored, one behind the other. -/
import Derived.Test.YtldfmlkjeniemaaGreatDoorObLay
import Derived.Test.YtldfmlkjeniemaaGreatDoorObHeld
set_option linter.unusedVariables false
namespace Go.Proofs.YtldfmlkjeniemaaGreatDoor
open Go.RowKit Go.Ly Go.Hd Go.Sh Go.Ob
/-- The words, with the first k of ws laid from the word q on. -/
def putK (xs : List Int) (q : Nat) (ws : List Int) : Nat → List Int
  | 0 => xs
  | k + 1 => (putK xs q ws k).set (q + k) (wat ws k)
theorem putK_len (xs : List Int) (q : Nat) (ws : List Int) : ∀ k, (putK xs q ws k).length = xs.length
  | 0 => rfl
  | k + 1 => by rw [putK, List.length_set, putK_len xs q ws k]
theorem dof_store {xs : List Int} {p : Nat} {v : Int} (h : p < xs.length) : dof xs 2 (p : Int) 0 v = (xs.set p v, 0, 0) := by
  have hc : ck 2 (p : Int) 0 v = true := by simp [ck]
  unfold dof
  rw [if_neg (by rw [hc]; decide), if_neg (by decide), if_neg (by simp; omega), if_neg (by decide), if_pos rfl, Int.toNat_natCast]
/-- Where laying stands. -/
structure PtL (w2 : World) (A B : Nat) (xs : List Int) (q : Nat) (ws : List Int) (k : Nat) (W : World) : Prop where
  ar : IsAr W A B (putK xs q ws k)
  gr : w2.grownBy W (some B)
set_option maxRecDepth 100000 in
set_option maxHeartbeats 4000000 in
theorem clou_open (W0 We : World) (ga gp gx : Nat) (P : Option Addr) (t s : Int) (a : Option Addr) (n c : Nat) (at_ sh mk_ lk : Int) (fa : Option Addr) (fn fc : Nat) (H0 : Hs9 W0 ga 0 (.pointer P) gp 0 (.int .i64 t) gp 1 (.int .i64 s) gp 2 (.slice a n c) gx 0 (.int .i64 at_) gx 1 (.int .i64 sh) gx 2 (.int .i64 mk_) gx 3 (.int .u64 lk) gx 4 (.slice fa fn fc) W0) (HB : Below W0.heap.size W0 We) (k : Int) (co : ∀ W, Below We.heap.size We W → Calls Tryz.prog 24 #[.pointer P, planV t s a n c] W fun e w' => e = upE k ∧ Below W.heap.size W w') :
    Calls Tryz.prog 32 #[.pointer (some ⟨ga, 0, none⟩), .pointer (some ⟨gp, 0, none⟩), .pointer (some ⟨gx, 0, none⟩)] We fun e w' => e = upE k ∧ Below We.heap.size We w' := by
  go_enter Tryz.func32, Tryz.ntmps32
  go_wp2_with fail
  refine wp_region_held_drew (S := Hs9 W0 ga 0 (.pointer P) gp 0 (.int .i64 t) gp 1 (.int .i64 s) gp 2 (.slice a n c) gx 0 (.int .i64 at_) gx 1 (.int .i64 sh) gx 2 (.int .i64 mk_) gx 3 (.int .u64 lk) gx 4 (.slice fa fn fc)) (by kernel_rfl) (hs9_mk H0 HB.drew) (fun hHeld => ?_)
  refine wpAnyH_take (i := 0) (v := ?_) rfl (by kernel_rfl) (by kernel_rfl) (by kernel_rfl) (fun _ _ _ h => h) (Or.inl ⟨by rfl, ?_⟩) (by assumption) ?_
  rotate_left
  · (intro wx hSw; (try dsimp only at hSw); go_simp <;> with_reducible rfl)
  simp only [Act.put]
  refine wpAnyH_take (i := 1) (v := ?_) rfl (by kernel_rfl) (by kernel_rfl) (by kernel_rfl) (fun _ _ _ h => h) (Or.inl ⟨by rfl, ?_⟩) (by assumption) ?_
  rotate_left
  · (intro wx hSw; (try dsimp only at hSw); go_simp <;> with_reducible rfl)
  simp only [Act.put]
  refine wpAnyH_take (i := 3) (v := ?_) rfl (by kernel_rfl) (by kernel_rfl) (by kernel_rfl) (fun _ _ _ h => h) (Or.inl ⟨by rfl, ?_⟩) (by assumption) ?_
  rotate_left
  · (intro wx hSw; (try dsimp only at hSw); go_simp <;> with_reducible rfl)
  simp only [Act.put]
  refine wpAnyH_take (i := 6) (v := ?_) rfl (by kernel_rfl) (by kernel_rfl) (by kernel_rfl) (fun _ _ _ h => h) (Or.inl ⟨by rfl, ?_⟩) (by assumption) ?_
  rotate_left
  · (intro wx hSw; (try dsimp only at hSw); go_simp <;> with_reducible rfl)
  simp only [Act.put]
  refine wpAnyH_ready (rs := [2]) (by kernel_rfl) (by simp) ?_
  refine AllReadyH.cons rfl (fun K hK => ?_) AllReadyH.nil
  go_simp
  go_at_call 24
  refine (co _ (Below.refl _ _).drew).mono ?_
  rintro e w1 ⟨rfl, b1⟩
  exact ⟨rfl, rfl, ((Below.refl We.heap.size We).drew).trans b1⟩
set_option maxRecDepth 100000 in
set_option maxHeartbeats 4000000 in
theorem clou_last (W0 We : World) (ga gp gx : Nat) (P : Option Addr) (t s : Int) (a : Option Addr) (n c : Nat) (at_ sh mk_ lk : Int) (fa : Option Addr) (fn fc : Nat) (H0 : Hs9 W0 ga 0 (.pointer P) gp 0 (.int .i64 t) gp 1 (.int .i64 s) gp 2 (.slice a n c) gx 0 (.int .i64 at_) gx 1 (.int .i64 sh) gx 2 (.int .i64 mk_) gx 3 (.int .u64 lk) gx 4 (.slice fa fn fc) W0) (HB : Below W0.heap.size W0 We) (k : Int) (A : Nat) (co : ∀ W, Below We.heap.size We W → Calls Tryz.prog 24 #[.pointer P, planV t s a n c] W fun e w' => e = .returned (objV t s a n c W.heap.size 0 0) ∧ w'.heap[W.heap.size]? = some (arO A) ∧ Below W.heap.size W w') (cl : ∀ L W, Below We.heap.size We W → W.heap[L]? = some (arO A) → Calls Tryz.prog 33 #[objV t s a n c L 0 0, obV at_ sh mk_ lk (.slice fa fn fc)] W fun e' w' => e' = upE k ∧ Below W.heap.size W w') :
    Calls Tryz.prog 32 #[.pointer (some ⟨ga, 0, none⟩), .pointer (some ⟨gp, 0, none⟩), .pointer (some ⟨gx, 0, none⟩)] We fun e w' => e = upE k ∧ Below We.heap.size We w' := by
  go_enter Tryz.func32, Tryz.ntmps32
  go_wp2_with fail
  refine wp_region_held_drew (S := Hs9 W0 ga 0 (.pointer P) gp 0 (.int .i64 t) gp 1 (.int .i64 s) gp 2 (.slice a n c) gx 0 (.int .i64 at_) gx 1 (.int .i64 sh) gx 2 (.int .i64 mk_) gx 3 (.int .u64 lk) gx 4 (.slice fa fn fc)) (by kernel_rfl) (hs9_mk H0 HB.drew) (fun hHeld => ?_)
  refine wpAnyH_take (i := 0) (v := ?_) rfl (by kernel_rfl) (by kernel_rfl) (by kernel_rfl) (fun _ _ _ h => h) (Or.inl ⟨by rfl, ?_⟩) (by assumption) ?_
  rotate_left
  · (intro wx hSw; (try dsimp only at hSw); go_simp <;> with_reducible rfl)
  simp only [Act.put]
  refine wpAnyH_take (i := 1) (v := ?_) rfl (by kernel_rfl) (by kernel_rfl) (by kernel_rfl) (fun _ _ _ h => h) (Or.inl ⟨by rfl, ?_⟩) (by assumption) ?_
  rotate_left
  · (intro wx hSw; (try dsimp only at hSw); go_simp <;> with_reducible rfl)
  simp only [Act.put]
  refine wpAnyH_take (i := 3) (v := ?_) rfl (by kernel_rfl) (by kernel_rfl) (by kernel_rfl) (fun _ _ _ h => h) (Or.inl ⟨by rfl, ?_⟩) (by assumption) ?_
  rotate_left
  · (intro wx hSw; (try dsimp only at hSw); go_simp <;> with_reducible rfl)
  simp only [Act.put]
  refine wpAnyH_take (i := 6) (v := ?_) rfl (by kernel_rfl) (by kernel_rfl) (by kernel_rfl) (fun _ _ _ h => h) (Or.inl ⟨by rfl, ?_⟩) (by assumption) ?_
  rotate_left
  · (intro wx hSw; (try dsimp only at hSw); go_simp <;> with_reducible rfl)
  simp only [Act.put]
  refine wpAnyH_ready (rs := [2]) (by kernel_rfl) (by simp) ?_
  refine AllReadyH.cons rfl (fun K hK => ?_) AllReadyH.nil
  go_simp
  go_at_call 24
  refine (co _ (Below.refl _ _).drew).mono ?_
  rintro e w1 ⟨rfl, L1, b1⟩
  have B1 := hid (((Below.refl We.heap.size We).drew).trans b1)
  dsimp only
  refine hK.out _ _ ?_ (fun hHeld => ?_)
  · with_reducible (first | exact hs9_mk H0 (HB.drew) | exact hs9_mk H0 (HB.trans (B1.out.mono HB.size)) | exact hs9_mk H0 (HB.trans (B2.out.mono HB.size)))
  clear hK K
  refine wpAnyH_ready (rs := [4]) (by kernel_rfl) (by simp) ?_
  refine AllReadyH.cons rfl (fun K hK => ?_) AllReadyH.nil
  go_simp
  go_at_call 33
  refine (cl _ _ B1.out L1).mono ?_
  rintro e w2 ⟨rfl, b2⟩
  exact ⟨rfl, rfl, B1.out.trans (b2.mono B1.out.size)⟩
set_option maxRecDepth 100000 in
set_option maxHeartbeats 4000000 in
theorem clou_ok (A : Nat) (W0 We : World) (ga gp gx : Nat) (t s : Int) (a : Option Addr) (n c : Nat) (q : Nat) (sh mk_ lk : Int) (fa : Option Addr) (fn fc : Nat) (H0 : Hs9 W0 ga 0 (.pointer (some ⟨A, 0, none⟩)) gp 0 (.int .i64 t) gp 1 (.int .i64 s) gp 2 (.slice a n c) gx 0 (.int .i64 (q : Int)) gx 1 (.int .i64 sh) gx 2 (.int .i64 mk_) gx 3 (.int .u64 lk) gx 4 (.slice fa fn fc) W0) (HB : Below W0.heap.size W0 We) (B : Nat) (xs ws : List Int) (ha : IsAr We A B xs) (hgaB : ga ≠ B) (hgxB : gx ≠ B) (hne : ws ≠ []) (hl9 : ws.length ≤ 20) (hqw : q + ws.length ≤ xs.length) (hW : InW ws) (co : ∀ W, Below We.heap.size We W → Calls Tryz.prog 24 #[.pointer (some ⟨A, 0, none⟩), planV t s a n c] W fun e w' => e = .returned (objV t s a n c W.heap.size 0 0) ∧ w'.heap[W.heap.size]? = some (arO A) ∧ Below W.heap.size W w') (cl : ∀ L W, Below We.heap.size We W → W.heap[L]? = some (arO A) → Calls Tryz.prog 33 #[objV t s a n c L 0 0, obV (q : Int) sh mk_ lk (.slice fa fn fc)] W fun e' w' => ∃ v, e' = .returned v ∧ FsAt W.heap.size w' v ws ∧ Below W.heap.size W w') :
    Calls Tryz.prog 32 #[.pointer (some ⟨ga, 0, none⟩), .pointer (some ⟨gp, 0, none⟩), .pointer (some ⟨gx, 0, none⟩)] We fun e w' => e = .returned (.tuple #[]) ∧ IsAr w' A B (putK xs q ws ws.length) ∧ We.grownBy w' (some B) := by
  have q9 : (q : Int) ≤ 20000 := by have := ha.le; omega
  have q0 : (0 : Int) ≤ (q : Int) := by omega
  go_enter Tryz.func32, Tryz.ntmps32
  go_wp2_with fail
  refine wp_region_held_drew (S := Hs9 W0 ga 0 (.pointer (some ⟨A, 0, none⟩)) gp 0 (.int .i64 t) gp 1 (.int .i64 s) gp 2 (.slice a n c) gx 0 (.int .i64 (q : Int)) gx 1 (.int .i64 sh) gx 2 (.int .i64 mk_) gx 3 (.int .u64 lk) gx 4 (.slice fa fn fc)) (by kernel_rfl) (hs9_mk H0 HB.drew) (fun hHeld => ?_)
  refine wpAnyH_take (i := 0) (v := ?_) rfl (by kernel_rfl) (by kernel_rfl) (by kernel_rfl) (fun _ _ _ h => h) (Or.inl ⟨by rfl, ?_⟩) (by assumption) ?_
  rotate_left
  · (intro wx hSw; (try dsimp only at hSw); go_simp <;> with_reducible rfl)
  simp only [Act.put]
  refine wpAnyH_take (i := 1) (v := ?_) rfl (by kernel_rfl) (by kernel_rfl) (by kernel_rfl) (fun _ _ _ h => h) (Or.inl ⟨by rfl, ?_⟩) (by assumption) ?_
  rotate_left
  · (intro wx hSw; (try dsimp only at hSw); go_simp <;> with_reducible rfl)
  simp only [Act.put]
  refine wpAnyH_take (i := 3) (v := ?_) rfl (by kernel_rfl) (by kernel_rfl) (by kernel_rfl) (fun _ _ _ h => h) (Or.inl ⟨by rfl, ?_⟩) (by assumption) ?_
  rotate_left
  · (intro wx hSw; (try dsimp only at hSw); go_simp <;> with_reducible rfl)
  simp only [Act.put]
  refine wpAnyH_take (i := 6) (v := ?_) rfl (by kernel_rfl) (by kernel_rfl) (by kernel_rfl) (fun _ _ _ h => h) (Or.inl ⟨by rfl, ?_⟩) (by assumption) ?_
  rotate_left
  · (intro wx hSw; (try dsimp only at hSw); go_simp <;> with_reducible rfl)
  simp only [Act.put]
  refine wpAnyH_ready (rs := [2]) (by kernel_rfl) (by simp) ?_
  refine AllReadyH.cons rfl (fun K hK => ?_) AllReadyH.nil
  go_simp
  go_at_call 24
  refine (co _ (Below.refl _ _).drew).mono ?_
  rintro e w1 ⟨rfl, L1, b1⟩
  have B1 := hid (((Below.refl We.heap.size We).drew).trans b1)
  dsimp only
  refine hK.out _ _ ?_ (fun hHeld => ?_)
  · with_reducible (first | exact hs9_mk H0 (HB.drew) | exact hs9_mk H0 (HB.trans (B1.out.mono HB.size)) | exact hs9_mk H0 (HB.trans (B2.out.mono HB.size)))
  clear hK K
  refine wpAnyH_ready (rs := [4]) (by kernel_rfl) (by simp) ?_
  refine AllReadyH.cons rfl (fun K hK => ?_) AllReadyH.nil
  go_simp
  go_at_call 33
  refine (cl _ _ B1.out L1).mono ?_
  rintro e w2 ⟨v, rfl, hfs, b2⟩
  obtain ⟨av, cv, rfl, hfs⟩ := hfs
  rcases hfs with hfs | ⟨b, off, rfl, hfs⟩
  · exact absurd hfs hne
  have L2x := L1
  have B2 := hid (B1.out.trans (b2.mono B1.out.size))
  dsimp only
  refine hK.out _ _ ?_ (fun hHeld => ?_)
  · with_reducible (first | exact hs9_mk H0 (HB.drew) | exact hs9_mk H0 (HB.trans (B1.out.mono HB.size)) | exact hs9_mk H0 (HB.trans (B2.out.mono HB.size)))
  clear hK K
  refine wpAnyH_ready (rs := [5]) (by kernel_rfl) (by simp) ?_
  refine AllReadyH.cons rfl (fun K hK => ?_) AllReadyH.nil
  go_simp
  refine hK.out _ _ ?_ (fun hHeld => ?_)
  · with_reducible (first | exact hs9_mk H0 (HB.drew) | exact hs9_mk H0 (HB.trans (B1.out.mono HB.size)) | exact hs9_mk H0 (HB.trans (B2.out.mono HB.size)))
  clear hK K
  refine wpAnyH_done (by kernel_rfl) ?_ _
  have HF := hid (show Ws w2 b off ws ∧ We.heap.size ≤ b from ⟨hfs.2, Nat.le_trans B1.out.size hfs.1⟩)
  have HC := hid (hs9_mk H0 (HB.trans (B2.out.mono HB.size)))
  have HA2 := hid (ha.below B2.out)
  have hbB : b ≠ B := by have := ha.ltB; have := HF.out.2; omega
  clear hfs b1 b2 L1 L2x
  go_wp2
  go_loopw [11] (fun i wr => ∃ k : Nat, k ≤ ws.length ∧ i = .int .i64 k ∧ Hid (PtL w2 A B xs q ws k wr)) (fun i _ => ws.length - (intOf i).toNat)
  case atStart => exact ⟨0, Nat.zero_le _, rfl, hid ⟨HA2.out, ⟨rfl, rfl, rfl, Nat.le_refl _, fun _ _ _ => rfl⟩⟩⟩
  case round =>
    obtain ⟨k, hk, rfl, HR⟩ := hrel
    have k9 : (k : Int) ≤ 100 := by omega
    by_cases hlt : k < ws.length
    · have hlt' : (k : Int) < (ws.length : Int) := by omega
      have c0 := grown_cell HR.out.gr (p := ⟨ga, 0, none⟩) hgaB HC.out.1
      have c1 := grown_cell HR.out.gr (p := ⟨gx, 0, none⟩) hgxB HC.out.2.2.2.2.1
      have c2 := (HF.out.1.grown HR.out.gr hbB) k hlt
      have hwb := hW.get k
      have hst := hid (dof_store (xs := putK xs q ws k) (p := q + k) (v := wat ws k) (by rw [putK_len]; omega))
      have HPK := hid (show putK xs q ws (k + 1) = (putK xs q ws k).set (q + k) (wat ws k) from rfl)
      generalize wat ws k = y at *
      go_wp2_with (go_at_call 34; refine (Store_at A B _ _ ((q + k : Nat) : Int) y 0 0 _ HR.out.ar hwb.1 hwb.2 hst).mono ?_)
      rintro e6 w6 ⟨rfl, a6, g6⟩
      have HN := hid (show PtL w2 A B xs q ws (k + 1) w6 from ⟨by rw [HPK.out]; exact a6, grown_trans HR.out.gr g6⟩)
      clear a6 g6 c0 c1 c2
      go_wp2
      go_roundw
      case rel => exact ⟨k + 1, by omega, by go_num, HN⟩
      case measure => simp [intOf]; omega
    · obtain rfl : k = ws.length := by omega
      go_wp2
      go_end0
      exact ⟨rfl, HR.out.ar, grown_trans (grown_below B2.out _) HR.out.gr⟩
end Go.Proofs.YtldfmlkjeniemaaGreatDoor
