/- package object: walk, where it gives up; what walk answers, in the plain words. -/
import Derived.Test.YtldfmlkjeniemaaGreatDoorObWalk
import Derived.Test.YtldfmlkjeniemaaGreatDoorObRead
import Derived.Test.YtldfmlkjeniemaaGreatDoorObHeld
import Derived.Test.YtldfmlkjeniemaaGreatDoorObBoxOn
set_option linter.unusedVariables false
namespace Go.Proofs.YtldfmlkjeniemaaGreatDoor
open Go.RowKit Go.Ly Go.Hd Go.Sh Go.Ob Go.Shelf
set_option maxRecDepth 10000000 in
set_option maxHeartbeats 4000000 in
theorem walk_no (t s : Int) (a : Option Addr) (n c : Nat) (ss : List ByteArray) (L : Nat) (q b eb from_ until_ p e : Int) (w : World) (hT : IsTab w (.slice a n c) ss) (hN : LNums w)
    (hb : Hid (atv t s ss 6 q 0 = (b, eb))) (hbad : (eb != 0) = true ∨ (eb = 0 ∧ (from_ < 0 ∨ (0 ≤ from_ ∧ (until_ < from_ ∨ (from_ ≤ until_ ∧ s < until_)))))) :
    Calls Tryz.prog 47 #[objV t s a n c L p e, .int .i64 q, .int .i64 from_, .int .i64 until_] w fun e' w' => e' = upE 4 ∧ Below w.heap.size w w' := by
  have cb := fun W (bw : Below w.heap.size w W) => Base_at t s q b eb a n c ss W (hT.below (Nat.le_refl _) bw) (hN.below bw) hb
  clear hT hN hb
  rcases hbad with h | ⟨rfl, h | ⟨h0, h | ⟨h1, h2⟩⟩⟩
  all_goals
    go_enter Tryz.func47, Tryz.ntmps47
    go_wp2
    refine wp_scope_straight ?_
    go_wp2_with (go_at_call 69; refine (cb _ (bel_two _ _ _)).mono ?_)
    rintro e1 w1 ⟨rfl, b1⟩
    have R1 := hid (row2a b1)
    have R2 := hid (row2b b1)
    have B1 := hid (bel2 b1)
    have z1 := siz2 b1
    have u0 := at_row R2.out 0 rfl
    have d1 := at_row R1.out 1 rfl
    have z0 : w.heap.size < w1.heap.size := by omega
    clear b1 cb
    go_wp2_with (go_at_call 51; refine (giveUp_any _ _).mono ?_; rintro e w' ⟨rfl, hw⟩; rw [hw]; clear hw)
    exact ⟨rfl, rfl, B1.out.trans ((below_alloc0 w1 _).mono B1.out.size)⟩
/-- Numbers that a slice leads to. -/
def Ns (W : World) (b off : Nat) (zs : List Int) : Prop := ∀ i, i < zs.length → W.cell? ⟨b, off + i, none⟩ = some (.int .i64 (wat zs i))
def IfAt (lo : Nat) (W : World) (v : Value) (zs : List Int) : Prop := ∃ a c, v = .slice a zs.length c ∧ (zs = [] ∨ ∃ b off, a = some ⟨b, off, none⟩ ∧ lo ≤ b ∧ Ns W b off zs)
theorem Ns.below {W W' : World} {b off : Nat} {zs : List Int} (h : Ns W b off zs) (k : Below W.heap.size W W') : Ns W' b off zs := fun i hi => hcell_below (h i hi) k
theorem IfAt.below {lo : Nat} {W W' : World} {v : Value} {zs : List Int} (h : IfAt lo W v zs) (b : Below W.heap.size W W') : IfAt lo W' v zs := by
  obtain ⟨a, c, rfl, h⟩ := h
  refine ⟨a, c, rfl, ?_⟩
  rcases h with rfl | ⟨b1, off, rfl, h2, h3⟩
  · exact .inl rfl
  · exact .inr ⟨b1, off, rfl, h2, h3.below b⟩
theorem IfAt.set {lo : Nat} {W : World} {v : Value} {zs : List Int} (h : IfAt lo W v zs) {g : Nat} (hg : g < lo) (i : Nat) (u : Value) : IfAt lo (W.setCell ⟨g, i, none⟩ u) v zs := by
  obtain ⟨a, c, rfl, h⟩ := h
  refine ⟨a, c, rfl, ?_⟩
  rcases h with rfl | ⟨b1, off, rfl, h2, h3⟩
  · exact .inl rfl
  · exact .inr ⟨b1, off, rfl, h2, fun j hj => (World.cell?_setCell_other W _ _ u (fun e => by cases e; omega)).trans (h3 j hj)⟩
theorem IfAt.lower {lo lo' : Nat} {W : World} {v : Value} {zs : List Int} (h : IfAt lo W v zs) (hl : lo' ≤ lo) : IfAt lo' W v zs := by
  obtain ⟨a, c, rfl, h⟩ := h
  refine ⟨a, c, rfl, ?_⟩
  rcases h with rfl | ⟨b1, off, rfl, h2, h3⟩
  · exact .inl rfl
  · exact .inr ⟨b1, off, rfl, by omega, h3⟩
theorem ifAt_own {lo base : Nat} {W : World} {v : Value} {k : Nat} {zs : List Int} (h : W.ownsRow base 3 1 v k (zs.map (Value.int .i64))) (hl : lo ≤ base) : IfAt lo W v zs := by
  have hk : zs.length = k := by have := h.1; simpa using this
  subst hk
  rcases h.2 with ⟨rfl, h0⟩ | ⟨g, cap, cur, rfl, hg, hrow, _, _, _, htk⟩
  · refine ⟨none, 0, by rw [h0], .inl (List.eq_nil_of_length_eq_zero h0)⟩
  · refine ⟨_, _, rfl, .inr ⟨g, 0, rfl, by omega, fun i hi => ?_⟩⟩
    rw [Nat.zero_add]
    refine at_row hrow i ?_
    rw [Nat.mul_one] at htk
    have e1 : (cur.toList.take zs.length)[i]? = some (.int .i64 (wat zs i)) := by
      rw [htk, List.getElem?_map, List.getElem?_eq_getElem hi, wat, List.getD_eq_getElem?_getD, List.getElem?_eq_getElem hi]; rfl
    rw [List.getElem?_take_of_lt hi, Array.getElem?_toList] at e1
    exact e1
theorem walk_yes (t s : Int) (a : Option Addr) (n c : Nat) (ss : List ByteArray) (L A B : Nat) (xs : List Int) (q b from_ until_ p e : Int) (P0 E K : Nat) (w : World) (h : IsHp w t s a n c ss A B xs) (hL : w.heap[L]? = some (arO A))
    (hb : Hid (atv t s ss 6 q 0 = (b, 0))) (b0 : 0 ≤ b) (b9 : b ≤ 10000) (f0 : 0 ≤ from_) (fu : from_ ≤ until_) (us : until_ ≤ s) (hP : b + from_ = (P0 : Int)) (hE : b + s = (E : Int)) (hEl : E ≤ xs.length) (hK : Go.Ob.Ends (osz xs ss (E : Int)) P0 (b + until_) K) :
    Calls Tryz.prog 47 #[objV t s a n c L p e, .int .i64 q, .int .i64 from_, .int .i64 until_] w fun e W' => ∃ v, e = .returned v ∧ IfAt w.heap.size W' v (tol (osz xs ss (E : Int)) P0 K) ∧ Below w.heap.size w W' :=
  (callsIn_wide.1 (walk_in t s a n c ss L A B xs q b from_ until_ p e P0 E K w h hL hb b0 b9 f0 fu us hP hE hEl hK)).mono fun e' W' ⟨v, base, he, hbase, ho, hbl⟩ => ⟨v, he, ifAt_own ho hbase, hbl⟩
/-- Every walk ends. -/
theorem ends_exist (f : Int → Int) (a U : Int) (h : a ≤ U) : ∃ K, Go.Ob.Ends f a U K := by
  have key : ∀ (m k : Nat), (∀ j, j < k → vis f a j < U) → (U - vis f a k).toNat ≤ m → ∃ K, Go.Ob.Ends f a U K := by
    intro m
    induction m with
    | zero => intro k hk hm; exact ⟨k, by omega, hk⟩
    | succ m ih =>
      intro k hk hm
      by_cases hu : U ≤ vis f a k
      · exact ⟨k, hu, hk⟩
      · refine ih (k + 1) (fun j hj => ?_) ?_
        · by_cases hjk : j < k
          · exact hk j hjk
          · obtain rfl : j = k := by omega
            omega
        · have := vis_lt f a k
          omega
  exact key _ 0 (fun j hj => by omega) (Nat.le_refl _)
end Go.Proofs.YtldfmlkjeniemaaGreatDoor
/- package object: the closure of Walk: open, then walk; each may give up. -/
set_option linter.unusedVariables false
namespace Go.Proofs.YtldfmlkjeniemaaGreatDoor
open Go.RowKit Go.Ly Go.Hd Go.Sh Go.Ob
set_option maxRecDepth 100000 in
set_option maxHeartbeats 4000000 in
theorem clow_open (W0 We : World) (ga gp gs gf gu gx : Nat) (P : Option Addr) (t s : Int) (a : Option Addr) (n c : Nat) (q f u : Int) (H0 : Hs7 W0 ga 0 (.pointer P) gp 0 (.int .i64 t) gp 1 (.int .i64 s) gp 2 (.slice a n c) gs 0 (.int .i64 q) gf 0 (.int .i64 f) gu 0 (.int .i64 u) W0) (HB : Below W0.heap.size W0 We) (k : Int) (co : ∀ W, Below We.heap.size We W → Calls Tryz.prog 24 #[.pointer P, planV t s a n c] W fun e w' => e = upE k ∧ Below W.heap.size W w') :
    Calls Tryz.prog 46 #[.pointer (some ⟨ga, 0, none⟩), .pointer (some ⟨gp, 0, none⟩), .pointer (some ⟨gs, 0, none⟩), .pointer (some ⟨gf, 0, none⟩), .pointer (some ⟨gu, 0, none⟩), .pointer (some ⟨gx, 0, none⟩)] We fun e w' => e = upE k ∧ Below We.heap.size We w' := by
  go_enter Tryz.func46, Tryz.ntmps46
  go_wp2_with fail
  refine wp_region_held_drew (S := Hs7 W0 ga 0 (.pointer P) gp 0 (.int .i64 t) gp 1 (.int .i64 s) gp 2 (.slice a n c) gs 0 (.int .i64 q) gf 0 (.int .i64 f) gu 0 (.int .i64 u)) (by kernel_rfl) (hs7_mk H0 HB.drew) (fun hHeld => ?_)
  refine wpAnyH_take (i := 0) (v := ?_) rfl (by kernel_rfl) (by kernel_rfl) (by kernel_rfl) (fun _ _ _ h => h) (Or.inl ⟨by rfl, ?_⟩) (by assumption) ?_
  rotate_left
  · (intro wx hSw; (try dsimp only at hSw); go_simp <;> with_reducible rfl)
  simp only [Act.put]
  refine wpAnyH_take (i := 1) (v := ?_) rfl (by kernel_rfl) (by kernel_rfl) (by kernel_rfl) (fun _ _ _ h => h) (Or.inl ⟨by rfl, ?_⟩) (by assumption) ?_
  rotate_left
  · (intro wx hSw; (try dsimp only at hSw); go_simp <;> with_reducible rfl)
  simp only [Act.put]
  refine wpAnyH_take (i := 3) (v := ?_) rfl (by kernel_rfl) (by kernel_rfl) (by kernel_rfl) (fun _ _ _ h => h) (Or.inl ⟨by rfl, ?_⟩) (by assumption) ?_
  rotate_left
  · (intro wx hSw; (try dsimp only at hSw); go_simp <;> with_reducible rfl)
  simp only [Act.put]
  refine wpAnyH_take (i := 4) (v := ?_) rfl (by kernel_rfl) (by kernel_rfl) (by kernel_rfl) (fun _ _ _ h => h) (Or.inl ⟨by rfl, ?_⟩) (by assumption) ?_
  rotate_left
  · (intro wx hSw; (try dsimp only at hSw); go_simp <;> with_reducible rfl)
  simp only [Act.put]
  refine wpAnyH_take (i := 5) (v := ?_) rfl (by kernel_rfl) (by kernel_rfl) (by kernel_rfl) (fun _ _ _ h => h) (Or.inl ⟨by rfl, ?_⟩) (by assumption) ?_
  rotate_left
  · (intro wx hSw; (try dsimp only at hSw); go_simp <;> with_reducible rfl)
  simp only [Act.put]
  refine wpAnyH_ready (rs := [2]) (by kernel_rfl) (by simp) ?_
  refine AllReadyH.cons rfl (fun K hK => ?_) AllReadyH.nil
  go_simp
  go_at_call 24
  refine (co _ (Below.refl _ _).drew).mono ?_
  rintro e w1 ⟨rfl, b1⟩
  exact ⟨rfl, rfl, ((Below.refl We.heap.size We).drew).trans b1⟩
set_option maxRecDepth 100000 in
set_option maxHeartbeats 4000000 in
theorem clow_last (W0 We : World) (ga gp gs gf gu gx : Nat) (P : Option Addr) (t s : Int) (a : Option Addr) (n c : Nat) (q f u : Int) (H0 : Hs7 W0 ga 0 (.pointer P) gp 0 (.int .i64 t) gp 1 (.int .i64 s) gp 2 (.slice a n c) gs 0 (.int .i64 q) gf 0 (.int .i64 f) gu 0 (.int .i64 u) W0) (HB : Below W0.heap.size W0 We) (k E : Int) (A : Nat) (co : ∀ W, Below We.heap.size We W → Calls Tryz.prog 24 #[.pointer P, planV t s a n c] W fun e w' => e = .returned (objV t s a n c W.heap.size 0 0) ∧ w'.heap[W.heap.size]? = some (arO A) ∧ Below W.heap.size W w') (cl : ∀ L W, Below We.heap.size We W → W.heap[L]? = some (arO A) → Calls Tryz.prog 47 #[objV t s a n c L 0 0, .int .i64 q, .int .i64 f, .int .i64 u] W fun e' w' => e' = upE k ∧ Below W.heap.size W w') :
    Calls Tryz.prog 46 #[.pointer (some ⟨ga, 0, none⟩), .pointer (some ⟨gp, 0, none⟩), .pointer (some ⟨gs, 0, none⟩), .pointer (some ⟨gf, 0, none⟩), .pointer (some ⟨gu, 0, none⟩), .pointer (some ⟨gx, 0, none⟩)] We fun e w' => e = upE k ∧ Below We.heap.size We w' := by
  go_enter Tryz.func46, Tryz.ntmps46
  go_wp2_with fail
  refine wp_region_held_drew (S := Hs7 W0 ga 0 (.pointer P) gp 0 (.int .i64 t) gp 1 (.int .i64 s) gp 2 (.slice a n c) gs 0 (.int .i64 q) gf 0 (.int .i64 f) gu 0 (.int .i64 u)) (by kernel_rfl) (hs7_mk H0 HB.drew) (fun hHeld => ?_)
  refine wpAnyH_take (i := 0) (v := ?_) rfl (by kernel_rfl) (by kernel_rfl) (by kernel_rfl) (fun _ _ _ h => h) (Or.inl ⟨by rfl, ?_⟩) (by assumption) ?_
  rotate_left
  · (intro wx hSw; (try dsimp only at hSw); go_simp <;> with_reducible rfl)
  simp only [Act.put]
  refine wpAnyH_take (i := 1) (v := ?_) rfl (by kernel_rfl) (by kernel_rfl) (by kernel_rfl) (fun _ _ _ h => h) (Or.inl ⟨by rfl, ?_⟩) (by assumption) ?_
  rotate_left
  · (intro wx hSw; (try dsimp only at hSw); go_simp <;> with_reducible rfl)
  simp only [Act.put]
  refine wpAnyH_take (i := 3) (v := ?_) rfl (by kernel_rfl) (by kernel_rfl) (by kernel_rfl) (fun _ _ _ h => h) (Or.inl ⟨by rfl, ?_⟩) (by assumption) ?_
  rotate_left
  · (intro wx hSw; (try dsimp only at hSw); go_simp <;> with_reducible rfl)
  simp only [Act.put]
  refine wpAnyH_take (i := 4) (v := ?_) rfl (by kernel_rfl) (by kernel_rfl) (by kernel_rfl) (fun _ _ _ h => h) (Or.inl ⟨by rfl, ?_⟩) (by assumption) ?_
  rotate_left
  · (intro wx hSw; (try dsimp only at hSw); go_simp <;> with_reducible rfl)
  simp only [Act.put]
  refine wpAnyH_take (i := 5) (v := ?_) rfl (by kernel_rfl) (by kernel_rfl) (by kernel_rfl) (fun _ _ _ h => h) (Or.inl ⟨by rfl, ?_⟩) (by assumption) ?_
  rotate_left
  · (intro wx hSw; (try dsimp only at hSw); go_simp <;> with_reducible rfl)
  simp only [Act.put]
  refine wpAnyH_ready (rs := [2]) (by kernel_rfl) (by simp) ?_
  refine AllReadyH.cons rfl (fun K hK => ?_) AllReadyH.nil
  go_simp
  go_at_call 24
  refine (co _ (Below.refl _ _).drew).mono ?_
  rintro e w1 ⟨rfl, L1, b1⟩
  have B1 := hid (((Below.refl We.heap.size We).drew).trans b1)
  dsimp only
  refine hK.out _ _ ?_ (fun hHeld => ?_)
  · with_reducible (first | exact hs7_mk H0 (HB.drew) | exact hs7_mk H0 (HB.trans (B1.out.mono HB.size)) | exact hs7_mk H0 (HB.trans (B2.out.mono HB.size)) | exact hs7_mk H0 (HB.trans (B3.out.mono HB.size)) | exact hs7_mk H0 ((HB.trans (B3.out.mono HB.size)).setCell hgx _))
  clear hK K
  refine wpAnyH_ready (rs := [6]) (by kernel_rfl) (by simp) ?_
  refine AllReadyH.cons rfl (fun K hK => ?_) AllReadyH.nil
  go_simp
  go_at_call 47
  refine (cl _ _ B1.out L1).mono ?_
  rintro e w3 ⟨rfl, b3⟩
  exact ⟨rfl, rfl, B1.out.trans (b3.mono B1.out.size)⟩
set_option maxRecDepth 100000 in
set_option maxHeartbeats 4000000 in
theorem clow_ok (W0 We : World) (ga gp gs gf gu gx : Nat) (P : Option Addr) (t s : Int) (a : Option Addr) (n c : Nat) (q f u : Int) (H0 : Hs7 W0 ga 0 (.pointer P) gp 0 (.int .i64 t) gp 1 (.int .i64 s) gp 2 (.slice a n c) gs 0 (.int .i64 q) gf 0 (.int .i64 f) gu 0 (.int .i64 u) W0) (HB : Below W0.heap.size W0 We) (E : Int) (A : Nat) (zs : List Int) (hgx : W0.heap.size ≤ gx) (Rx : We.heap[gx]? = some (.cells #[.slice none 0 0] 28)) (co : ∀ W, Below We.heap.size We W → Calls Tryz.prog 24 #[.pointer P, planV t s a n c] W fun e w' => e = .returned (objV t s a n c W.heap.size 0 0) ∧ w'.heap[W.heap.size]? = some (arO A) ∧ Below W.heap.size W w') (cl : ∀ L W, Below We.heap.size We W → W.heap[L]? = some (arO A) → Calls Tryz.prog 47 #[objV t s a n c L 0 0, .int .i64 q, .int .i64 f, .int .i64 u] W fun e' w' => ∃ v, e' = .returned v ∧ IfAt W.heap.size w' v zs ∧ Below W.heap.size W w') :
    Calls Tryz.prog 46 #[.pointer (some ⟨ga, 0, none⟩), .pointer (some ⟨gp, 0, none⟩), .pointer (some ⟨gs, 0, none⟩), .pointer (some ⟨gf, 0, none⟩), .pointer (some ⟨gu, 0, none⟩), .pointer (some ⟨gx, 0, none⟩)] We fun e w' => e = .returned (.tuple #[]) ∧ ∃ w3 v, Below We.heap.size We w3 ∧ IfAt We.heap.size w3 v zs ∧ w' = w3.setCell ⟨gx, 0, none⟩ v := by
  go_enter Tryz.func46, Tryz.ntmps46
  go_wp2_with fail
  refine wp_region_held_drew (S := Hs7 W0 ga 0 (.pointer P) gp 0 (.int .i64 t) gp 1 (.int .i64 s) gp 2 (.slice a n c) gs 0 (.int .i64 q) gf 0 (.int .i64 f) gu 0 (.int .i64 u)) (by kernel_rfl) (hs7_mk H0 HB.drew) (fun hHeld => ?_)
  refine wpAnyH_take (i := 0) (v := ?_) rfl (by kernel_rfl) (by kernel_rfl) (by kernel_rfl) (fun _ _ _ h => h) (Or.inl ⟨by rfl, ?_⟩) (by assumption) ?_
  rotate_left
  · (intro wx hSw; (try dsimp only at hSw); go_simp <;> with_reducible rfl)
  simp only [Act.put]
  refine wpAnyH_take (i := 1) (v := ?_) rfl (by kernel_rfl) (by kernel_rfl) (by kernel_rfl) (fun _ _ _ h => h) (Or.inl ⟨by rfl, ?_⟩) (by assumption) ?_
  rotate_left
  · (intro wx hSw; (try dsimp only at hSw); go_simp <;> with_reducible rfl)
  simp only [Act.put]
  refine wpAnyH_take (i := 3) (v := ?_) rfl (by kernel_rfl) (by kernel_rfl) (by kernel_rfl) (fun _ _ _ h => h) (Or.inl ⟨by rfl, ?_⟩) (by assumption) ?_
  rotate_left
  · (intro wx hSw; (try dsimp only at hSw); go_simp <;> with_reducible rfl)
  simp only [Act.put]
  refine wpAnyH_take (i := 4) (v := ?_) rfl (by kernel_rfl) (by kernel_rfl) (by kernel_rfl) (fun _ _ _ h => h) (Or.inl ⟨by rfl, ?_⟩) (by assumption) ?_
  rotate_left
  · (intro wx hSw; (try dsimp only at hSw); go_simp <;> with_reducible rfl)
  simp only [Act.put]
  refine wpAnyH_take (i := 5) (v := ?_) rfl (by kernel_rfl) (by kernel_rfl) (by kernel_rfl) (fun _ _ _ h => h) (Or.inl ⟨by rfl, ?_⟩) (by assumption) ?_
  rotate_left
  · (intro wx hSw; (try dsimp only at hSw); go_simp <;> with_reducible rfl)
  simp only [Act.put]
  refine wpAnyH_ready (rs := [2]) (by kernel_rfl) (by simp) ?_
  refine AllReadyH.cons rfl (fun K hK => ?_) AllReadyH.nil
  go_simp
  go_at_call 24
  refine (co _ (Below.refl _ _).drew).mono ?_
  rintro e w1 ⟨rfl, L1, b1⟩
  have B1 := hid (((Below.refl We.heap.size We).drew).trans b1)
  dsimp only
  refine hK.out _ _ ?_ (fun hHeld => ?_)
  · with_reducible (first | exact hs7_mk H0 (HB.drew) | exact hs7_mk H0 (HB.trans (B1.out.mono HB.size)) | exact hs7_mk H0 (HB.trans (B2.out.mono HB.size)) | exact hs7_mk H0 (HB.trans (B3.out.mono HB.size)) | exact hs7_mk H0 ((HB.trans (B3.out.mono HB.size)).setCell hgx _))
  clear hK K
  refine wpAnyH_ready (rs := [6]) (by kernel_rfl) (by simp) ?_
  refine AllReadyH.cons rfl (fun K hK => ?_) AllReadyH.nil
  go_simp
  go_at_call 47
  refine (cl _ _ B1.out L1).mono ?_
  rintro e w3 ⟨v, rfl, hfs, b3⟩
  obtain ⟨av, cv, rfl, hfs⟩ := hfs
  have B3 := hid (B1.out.trans (b3.mono B1.out.size))
  have R3 := row_below Rx B3.out
  have s0 := at_row R3 0 rfl
  have t0 := fz_row R3 0
  dsimp only
  refine hK.out _ _ ?_ (fun hHeld => ?_)
  · with_reducible (first | exact hs7_mk H0 (HB.drew) | exact hs7_mk H0 (HB.trans (B1.out.mono HB.size)) | exact hs7_mk H0 (HB.trans (B2.out.mono HB.size)) | exact hs7_mk H0 (HB.trans (B3.out.mono HB.size)) | exact hs7_mk H0 ((HB.trans (B3.out.mono HB.size)).setCell hgx _))
  clear hK K
  refine wpAnyH_ready (rs := [7]) (by kernel_rfl) (by simp) ?_
  refine AllReadyH.cons rfl (fun K hK => ?_) AllReadyH.nil
  go_simp
  refine hK.out _ _ ?_ (fun hHeld => ?_)
  · with_reducible (first | exact hs7_mk H0 (HB.drew) | exact hs7_mk H0 (HB.trans (B1.out.mono HB.size)) | exact hs7_mk H0 (HB.trans (B2.out.mono HB.size)) | exact hs7_mk H0 (HB.trans (B3.out.mono HB.size)) | exact hs7_mk H0 ((HB.trans (B3.out.mono HB.size)).setCell hgx _))
  clear hK K
  refine wpAnyH_done (by kernel_rfl) ?_ _
  go_wp2
  go_end0
  exact ⟨rfl, _, _, B3.out, IfAt.lower ⟨av, cv, rfl, hfs⟩ B1.out.size, rfl⟩
end Go.Proofs.YtldfmlkjeniemaaGreatDoor
/- package object: Walk. -/
set_option linter.unusedVariables false
namespace Go.Proofs.YtldfmlkjeniemaaGreatDoor
open Go.RowKit Go.Ly Go.Hd Go.Sh Go.Ob
abbrev nO : Obj := .cells #[.slice none 0 0] 28
set_option maxRecDepth 100000 in
set_option maxHeartbeats 2000000 in
theorem Walk_up (k : Int) (P : Option Addr) (t s : Int) (a : Option Addr) (n c : Nat) (q f u : Int) (w : World)
    (hc : ∀ (W0 We : World) (ga gp gs gf gu gx : Nat), Hs7 W0 ga 0 (.pointer P) gp 0 (.int .i64 t) gp 1 (.int .i64 s) gp 2 (.slice a n c) gs 0 (.int .i64 q) gf 0 (.int .i64 f) gu 0 (.int .i64 u) W0 → Below W0.heap.size W0 We → Below w.heap.size w We →
      Calls Tryz.prog 46 #[.pointer (some ⟨ga, 0, none⟩), .pointer (some ⟨gp, 0, none⟩), .pointer (some ⟨gs, 0, none⟩), .pointer (some ⟨gf, 0, none⟩), .pointer (some ⟨gu, 0, none⟩), .pointer (some ⟨gx, 0, none⟩)] We fun e w' => e = upE k ∧ Below We.heap.size We w') :
    Calls Tryz.prog 21 #[.pointer P, planV t s a n c, .int .i64 q, .int .i64 f, .int .i64 u] w fun e w' => e = .returned (.tuple #[.slice none 0 0, .int .i64 k]) ∧ Below w.heap.size w w' := by
  have hmf : ∀ (fn : Fn) (first cap : Array Value) (w : World), (Instr.makeFunc fn first cap).run Tryz.prog w = .ok (.func fn first cap) w := fun _ _ _ _ => rfl
  go_enter Tryz.func21, Tryz.ntmps21
  go_wp2_with fail
  have hcf : ∀ (cap : Array Value) (w : World), (callFunc 46 cap).run Tryz.prog w = .ok (.enter 46 cap) w := fun _ _ => rfl
  have hr := boxes5 w (paO P) (plO t s a n c) (iO q) (iO f) (iO u)
  generalize ((((w.alloc (paO P)).alloc (plO t s a n c)).alloc (iO q)).alloc (iO f)).alloc (iO u) = W0 at *
  obtain ⟨Ra, Rp, Rt, Rf, Ru, zW, BW⟩ := hr
  have hh := hc W0 ((W0.alloc (nO)).alloc (errO 0)) w.heap.size (w.heap.size + 1) (w.heap.size + 1 + 1) (w.heap.size + 1 + 1 + 1) (w.heap.size + 1 + 1 + 1 + 1) (w.heap.size + 1 + 1 + 1 + 1 + 1)
    ⟨at_row Ra 0 rfl, at_row Rp 0 rfl, at_row Rp 1 rfl, at_row Rp 2 rfl, at_row Rt 0 rfl, at_row Rf 0 rfl, at_row Ru 0 rfl, Below.refl _ _⟩ (bel_two _ _ _) (BW.trans ((bel_two _ _ _).mono BW.size))
  obtain ⟨Rn, Re, zE, BE⟩ := boxes2 W0 (nO) (errO 0)
  rw [← zW] at hh ⊢
  have hn1 := size_alloc W0 (nO)
  refine (caught_up _ _ k _ (fun w1 => Below ((W0.alloc (nO)).alloc (errO 0)).heap.size ((W0.alloc (nO)).alloc (errO 0)) w1) (hcf _) (hh.mono ?_)).mono ?_
  · rintro e w1 ⟨rfl, b⟩
    exact ⟨rfl, by rw [hn1]; exact row_below Re b, b⟩
  rintro e w' ⟨rfl, w1, w2, b1, _, b2, rfl⟩
  have Rn2 := okeep_row (i := 0) (v := .int .i64 k) (show W0.heap.size ≠ (W0.alloc (nO)).heap.size by omega) (row_below (row_below Rn b1) b2)
  have B2 := hid ((BW.trans ((BE.trans ((b1.trans (b2.mono b1.size)).mono BE.size)).mono BW.size)).setCell (p := ⟨(W0.alloc (nO)).heap.size, 0, none⟩) (by have := BW.size; show w.heap.size ≤ (W0.alloc (nO)).heap.size; omega) (.int .i64 k))
  have n0 := at_row Rn2 0 rfl
  clear hh hc b1 b2 Rn2 Rn Re zW zE hn1
  dsimp only
  generalize w2.setCell _ _ = W3 at *
  go_wp2

  go_ret2
  exact ⟨rfl, B2.out⟩
set_option maxRecDepth 100000 in
set_option maxHeartbeats 2000000 in
theorem Walk_okc (zs : List Int) (P : Option Addr) (t s : Int) (a : Option Addr) (n c : Nat) (q f u : Int) (w : World)
    (hc : ∀ (W0 We : World) (ga gp gs gf gu gx : Nat), Hs7 W0 ga 0 (.pointer P) gp 0 (.int .i64 t) gp 1 (.int .i64 s) gp 2 (.slice a n c) gs 0 (.int .i64 q) gf 0 (.int .i64 f) gu 0 (.int .i64 u) W0 → Below W0.heap.size W0 We → Below w.heap.size w We → W0.heap.size ≤ gx → We.heap[gx]? = some (nO) →
      Calls Tryz.prog 46 #[.pointer (some ⟨ga, 0, none⟩), .pointer (some ⟨gp, 0, none⟩), .pointer (some ⟨gs, 0, none⟩), .pointer (some ⟨gf, 0, none⟩), .pointer (some ⟨gu, 0, none⟩), .pointer (some ⟨gx, 0, none⟩)] We fun e w' => e = .returned (.tuple #[]) ∧ ∃ w3 v, Below We.heap.size We w3 ∧ IfAt We.heap.size w3 v zs ∧ w' = w3.setCell ⟨gx, 0, none⟩ v) :
    Calls Tryz.prog 21 #[.pointer P, planV t s a n c, .int .i64 q, .int .i64 f, .int .i64 u] w fun e w' => ∃ v, e = .returned (.tuple #[v, .int .i64 0]) ∧ IfAt w.heap.size w' v zs ∧ Below w.heap.size w w' := by
  have hmf : ∀ (fn : Fn) (first cap : Array Value) (w : World), (Instr.makeFunc fn first cap).run Tryz.prog w = .ok (.func fn first cap) w := fun _ _ _ _ => rfl
  go_enter Tryz.func21, Tryz.ntmps21
  go_wp2_with fail
  have hcf : ∀ (cap : Array Value) (w : World), (callFunc 46 cap).run Tryz.prog w = .ok (.enter 46 cap) w := fun _ _ => rfl
  have hr := boxes5 w (paO P) (plO t s a n c) (iO q) (iO f) (iO u)
  generalize ((((w.alloc (paO P)).alloc (plO t s a n c)).alloc (iO q)).alloc (iO f)).alloc (iO u) = W0 at *
  obtain ⟨Ra, Rp, Rt, Rf, Ru, zW, BW⟩ := hr
  have hh := hc W0 ((W0.alloc (nO)).alloc (errO 0)) w.heap.size (w.heap.size + 1) (w.heap.size + 1 + 1) (w.heap.size + 1 + 1 + 1) (w.heap.size + 1 + 1 + 1 + 1) (w.heap.size + 1 + 1 + 1 + 1 + 1)
    ⟨at_row Ra 0 rfl, at_row Rp 0 rfl, at_row Rp 1 rfl, at_row Rp 2 rfl, at_row Rt 0 rfl, at_row Rf 0 rfl, at_row Ru 0 rfl, Below.refl _ _⟩ (bel_two _ _ _) (BW.trans ((bel_two _ _ _).mono BW.size)) (by omega)
  obtain ⟨Rn, Re, zE, BE⟩ := boxes2 W0 (nO) (errO 0)
  rw [← zW] at hh ⊢
  have hh := hh Rn
  have hn1 := size_alloc W0 (nO)
  refine (caught_ok _ _ _ (fun w1 => ∃ w3 v, Below ((W0.alloc (nO)).alloc (errO 0)).heap.size ((W0.alloc (nO)).alloc (errO 0)) w3 ∧ IfAt ((W0.alloc (nO)).alloc (errO 0)).heap.size w3 v zs ∧ w1 = w3.setCell ⟨W0.heap.size, 0, none⟩ v) (hcf _) (hh.mono ?_)).mono ?_
  · rintro e w1 ⟨rfl, w3, v, b, hf, rfl⟩
    exact ⟨rfl, okeep_row (by omega) (by rw [hn1]; exact row_below Re b), w3, v, b, hf, rfl⟩
  rintro e w' ⟨rfl, w1, ⟨w3, v, b, hf, rfl⟩, _, rfl⟩
  obtain ⟨av, cv, rfl, hf⟩ := hf
  have hF := hid (((show IfAt (W0.heap.size + 1 + 1) w3 (.slice av zs.length cv) zs from IfAt.lower ⟨av, cv, rfl, hf⟩ (by omega)).set (g := W0.heap.size) (by omega) 0 (.slice av zs.length cv)).set (g := (W0.alloc (nO)).heap.size) (by omega) 0 (.int .i64 0))
  have zz := BW.size
  have Rn2 := okeep_row (i := 0) (v := .int .i64 0) (show W0.heap.size ≠ (W0.alloc (nO)).heap.size by omega) (set_row (row_below Rn b) (.slice av zs.length cv) (i := 0))
  have B2 := hid (((BW.trans ((BE.trans (b.mono BE.size)).mono BW.size)).setCell (p := ⟨W0.heap.size, 0, none⟩) BW.size (.slice av zs.length cv)).setCell (p := ⟨(W0.alloc (nO)).heap.size, 0, none⟩) (by have := BW.size; show w.heap.size ≤ (W0.alloc (nO)).heap.size; omega) (.int .i64 0))
  have n0 := at_row Rn2 0 rfl
  clear hh hc b hf Rn2 Rn Re zW zE hn1
  dsimp only
  generalize World.setCell (World.setCell _ _ _) _ _ = W3 at *
  go_wp2
  go_ret2
  exact ⟨_, rfl, hF.out.lower (by omega), B2.out⟩
theorem Walk_nil (P : Option Addr) (a0 : Option Addr) (c0 : Nat) (t s : Int) (a : Option Addr) (n c : Nat) (q f u : Int) (w : World) (hf : Faces w (.pointer P) (.slice a0 0 c0)) :
    Calls Tryz.prog 21 #[.pointer P, planV t s a n c, .int .i64 q, .int .i64 f, .int .i64 u] w fun e w' => e = .returned (.tuple #[.slice none 0 0, .int .i64 1]) ∧ Below w.heap.size w w' :=
  Walk_up 1 P t s a n c q f u w fun W0 We ga gp gs gf gu gx H0 HB HW => clow_open W0 We ga gp gs gf gu gx P t s a n c q f u H0 HB 1 fun W hW => open_nil _ a0 c0 t s a n c W (hf.below (HW.trans (hW.mono HW.size)))
theorem Walk_arg (A B : Nat) (xs : List Int) (ss : List ByteArray) (z : Int) (t s : Int) (a : Option Addr) (n c : Nat) (q f u : Int) (w : World) (hT : IsTab w (.slice a n c) ss) (ha : IsAr w A B xs) (hr : rgt t s ss = true) (hz : 3 + t + t + 2 * s = z) (hl : ((z : Int) != xs.length) = true) :
    Calls Tryz.prog 21 #[.pointer (some ⟨A, 0, none⟩), planV t s a n c, .int .i64 q, .int .i64 f, .int .i64 u] w fun e w' => e = .returned (.tuple #[.slice none 0 0, .int .i64 2]) ∧ Below w.heap.size w w' :=
  Walk_up 2 _ t s a n c q f u w fun W0 We ga gp gs gf gu gx H0 HB HW => clow_open W0 We ga gp gs gf gu gx _ t s a n c q f u H0 HB 2 fun W hW => open_bad t s a n c ss A B xs z W (hT.below (Nat.le_refl _) (HW.trans (hW.mono HW.size))) (ha.below (HW.trans (hW.mono HW.size))) hr hz hl
/-- May it be walked so? -/
def wlk (s q f u : Int) : Bool := (decide (q = 0) || decide (q = 1)) && (decide (0 ≤ f) && decide (f ≤ u) && decide (u ≤ s))
theorem base_is {t s q : Int} {ss : List ByteArray} (hr : rgt t s ss = true) : atv t s ss 6 q 0 = if q = 0 ∨ q = 1 then (3 + t + t + q * s, 0) else (0, 4) := by
  obtain ⟨t0, t1, s0, s1, _⟩ := rgt_yes hr
  rw [atv, if_pos hr]
  have hm : mayP 6 q 0 = true := by simp [mayP]
  unfold av
  rw [if_pos hm]
  by_cases hq : q = 0 ∨ q = 1
  · rw [if_pos hq, if_pos (by simp [hasP, prt, wrd]; omega)]
    show (bs t s 6 + q * wrd s 6 + 0, (0 : Int)) = _
    rw [bs6]; simp [wrd]
  · rw [if_neg hq, if_neg (by simp [hasP, prt, wrd]; omega)]
theorem Walk_range (A B : Nat) (xs : List Int) (ss : List ByteArray) (t s : Int) (a : Option Addr) (n c : Nat) (q f u : Int) (w : World) (h : IsHp w t s a n c ss A B xs) (h1 : wlk s q f u = false) :
    Calls Tryz.prog 21 #[.pointer (some ⟨A, 0, none⟩), planV t s a n c, .int .i64 q, .int .i64 f, .int .i64 u] w fun e w' => e = .returned (.tuple #[.slice none 0 0, .int .i64 4]) ∧ Below w.heap.size w w' := by
  have hb := base_is (q := q) h.rg
  refine Walk_up 4 _ t s a n c q f u w fun W0 We ga gp gs gf gu gx H0 HB HW => clow_last W0 We ga gp gs gf gu gx _ t s a n c q f u H0 HB 4 0 A (fun W hW => open_ok t s a n c ss A B xs W (h.below (HW.trans (hW.mono HW.size)))) fun L W hW hL => ?_
  have hT := h.tab.below (Nat.le_refl _) (HW.trans (hW.mono HW.size))
  have hN := h.nums.below (HW.trans (hW.mono HW.size))
  by_cases hq : q = 0 ∨ q = 1
  · rw [if_pos hq] at hb
    exact walk_no t s a n c ss L q _ 0 f u 0 0 W hT hN (hid hb) (.inr ⟨rfl, by simp [wlk] at h1; omega⟩)
  · rw [if_neg hq] at hb
    exact walk_no t s a n c ss L q _ 4 f u 0 0 W hT hN (hid hb) (.inl rfl)
theorem Walk_ok (A B : Nat) (xs : List Int) (ss : List ByteArray) (t s : Int) (a : Option Addr) (n c : Nat) (q f u : Int) (P0 E K : Nat) (w : World) (h : IsHp w t s a n c ss A B xs) (h1 : wlk s q f u = true) (hP : 3 + t + t + q * s + f = (P0 : Int)) (hE : 3 + t + t + q * s + s = (E : Int)) (hK : Go.Ob.Ends (osz xs ss (E : Int)) P0 (3 + t + t + q * s + u) K) :
    Calls Tryz.prog 21 #[.pointer (some ⟨A, 0, none⟩), planV t s a n c, .int .i64 q, .int .i64 f, .int .i64 u] w fun e w' => ∃ v, e = .returned (.tuple #[v, .int .i64 0]) ∧ IfAt w.heap.size w' v (tol (osz xs ss (E : Int)) P0 K) ∧ Below w.heap.size w w' := by
  have hb := base_is (q := q) h.rg
  obtain ⟨t0, t1, s0, s1, hx9⟩ := h.size
  have hl := h.len
  have hq : (q = 0 ∨ q = 1) ∧ 0 ≤ f ∧ f ≤ u ∧ u ≤ s := by simpa [wlk, and_assoc] using h1
  rw [if_pos hq.1] at hb
  have hqs : 0 ≤ q * s ∧ q * s ≤ s := by rcases hq.1 with rfl | rfl <;> omega
  exact Walk_okc _ _ t s a n c q f u w fun W0 We ga gp gs gf gu gx H0 HB HW hgx Rx => clow_ok W0 We ga gp gs gf gu gx _ t s a n c q f u H0 HB 0 A _ hgx Rx (fun W hW => open_ok t s a n c ss A B xs W (h.below (HW.trans (hW.mono HW.size)))) fun L W hW hL => walk_yes t s a n c ss L A B xs q _ f u 0 0 P0 E K W (h.below (HW.trans (hW.mono HW.size))) hL (hid hb) (by omega) (by omega) hq.2.1 hq.2.2.1 hq.2.2.2 hP hE (by omega) hK
end Go.Proofs.YtldfmlkjeniemaaGreatDoor
