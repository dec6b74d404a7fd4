/- package object: walk, where it gives up; what walk answers, in the plain words. -/
import Derived.Test.YtldfmlkjeniemaaDoorObWalk
import Derived.Test.YtldfmlkjeniemaaDoorObRead
import Derived.Test.YtldfmlkjeniemaaDoorObHeld
import Derived.Test.YtldfmlkjeniemaaDoorObToOn
set_option linter.unusedVariables false
namespace Go.Proofs.YtldfmlkjeniemaaDoor
open Go.RowKit Go.Ly Go.Hd Go.Sh Go.Ob Go.Shelf
set_option maxRecDepth 10000000 in
set_option maxHeartbeats 4000000 in
theorem walk_no (t s : Int) (a : Option Addr) (n c : Nat) (ss : List ByteArray) (L : Nat) (q b eb from_ until_ p e : Int) (w : World) (hT : IsTab w (.slice a n c) ss) (hN : LNums w)
    (hb : Hid (atv t s ss 6 q 0 = (b, eb))) (hbad : (eb != 0) = true ∨ (eb = 0 ∧ (from_ < 0 ∨ (0 ≤ from_ ∧ (until_ < from_ ∨ (from_ ≤ until_ ∧ s < until_)))))) :
    Calls Tryd.prog 30 #[objV t s a n c L p e, .int .i64 q, .int .i64 from_, .int .i64 until_] w fun e' w' => e' = upE 4 ∧ Below w.heap.size w w' := by
  have cb := fun W (bw : Below w.heap.size w W) => Base_at t s q b eb a n c ss W (hT.below (Nat.le_refl _) bw) (hN.below bw) hb
  clear hT hN hb
  rcases hbad with h | ⟨rfl, h | ⟨h0, h | ⟨h1, h2⟩⟩⟩
  all_goals
    go_enter Tryd.func30, Tryd.ntmps30
    go_wp2
    refine wp_scope_straight ?_
    go_wp2_with (go_at_call 52; refine (cb _ (bel_two _ _ _)).mono ?_)
    rintro e1 w1 ⟨rfl, b1⟩
    have R1 := hid (row2a b1)
    have R2 := hid (row2b b1)
    have B1 := hid (bel2 b1)
    have z1 := siz2 b1
    have u0 := at_row R2.out 0 rfl
    have d1 := at_row R1.out 1 rfl
    have z0 : w.heap.size < w1.heap.size := by omega
    clear b1 cb
    go_wp2_with (go_at_call 44; refine (giveUp_any _ _).mono ?_; rintro e w' ⟨rfl, hw⟩; rw [hw]; clear hw)
    exact ⟨rfl, rfl, B1.out.trans ((below_alloc0 w1 _).mono B1.out.size)⟩
/-- Numbers that a slice leads to. -/
def Ns (W : World) (b off : Nat) (zs : List Int) : Prop := ∀ i, i < zs.length → W.cell? ⟨b, off + i, none⟩ = some (.int .i64 (wat zs i))
def IfAt (lo : Nat) (W : World) (v : Value) (zs : List Int) : Prop := ∃ a c, v = .slice a zs.length c ∧ (zs = [] ∨ ∃ b off, a = some ⟨b, off, none⟩ ∧ lo ≤ b ∧ Ns W b off zs)
theorem Ns.below {W W' : World} {b off : Nat} {zs : List Int} (h : Ns W b off zs) (k : Below W.heap.size W W') : Ns W' b off zs := fun i hi => hcell_below (h i hi) k
theorem IfAt.below {lo : Nat} {W W' : World} {v : Value} {zs : List Int} (h : IfAt lo W v zs) (b : Below W.heap.size W W') : IfAt lo W' v zs := by
  obtain ⟨a, c, rfl, h⟩ := h
  refine ⟨a, c, rfl, ?_⟩
  rcases h with rfl | ⟨b1, off, rfl, h2, h3⟩
  · exact .inl rfl
  · exact .inr ⟨b1, off, rfl, h2, h3.below b⟩
theorem IfAt.set {lo : Nat} {W : World} {v : Value} {zs : List Int} (h : IfAt lo W v zs) {g : Nat} (hg : g < lo) (i : Nat) (u : Value) : IfAt lo (W.setCell ⟨g, i, none⟩ u) v zs := by
  obtain ⟨a, c, rfl, h⟩ := h
  refine ⟨a, c, rfl, ?_⟩
  rcases h with rfl | ⟨b1, off, rfl, h2, h3⟩
  · exact .inl rfl
  · exact .inr ⟨b1, off, rfl, h2, fun j hj => (World.cell?_setCell_other W _ _ u (fun e => by cases e; omega)).trans (h3 j hj)⟩
theorem IfAt.lower {lo lo' : Nat} {W : World} {v : Value} {zs : List Int} (h : IfAt lo W v zs) (hl : lo' ≤ lo) : IfAt lo' W v zs := by
  obtain ⟨a, c, rfl, h⟩ := h
  refine ⟨a, c, rfl, ?_⟩
  rcases h with rfl | ⟨b1, off, rfl, h2, h3⟩
  · exact .inl rfl
  · exact .inr ⟨b1, off, rfl, by omega, h3⟩
theorem ifAt_own {lo base : Nat} {W : World} {v : Value} {k : Nat} {zs : List Int} (h : W.ownsRow base 3 1 v k (zs.map (Value.int .i64))) (hl : lo ≤ base) : IfAt lo W v zs := by
  have hk : zs.length = k := by have := h.1; simpa using this
  subst hk
  rcases h.2 with ⟨rfl, h0⟩ | ⟨g, cap, cur, rfl, hg, hrow, _, _, _, htk⟩
  · refine ⟨none, 0, by rw [h0], .inl (List.eq_nil_of_length_eq_zero h0)⟩
  · refine ⟨_, _, rfl, .inr ⟨g, 0, rfl, by omega, fun i hi => ?_⟩⟩
    rw [Nat.zero_add]
    refine at_row hrow i ?_
    rw [Nat.mul_one] at htk
    have e1 : (cur.toList.take zs.length)[i]? = some (.int .i64 (wat zs i)) := by
      rw [htk, List.getElem?_map, List.getElem?_eq_getElem hi, wat, List.getD_eq_getElem?_getD, List.getElem?_eq_getElem hi]; rfl
    rw [List.getElem?_take_of_lt hi, Array.getElem?_toList] at e1
    exact e1
theorem walk_yes (t s : Int) (a : Option Addr) (n c : Nat) (ss : List ByteArray) (L A B : Nat) (xs : List Int) (q b from_ until_ p e : Int) (P0 E K : Nat) (w : World) (h : IsHp w t s a n c ss A B xs) (hL : w.heap[L]? = some (arO A))
    (hb : Hid (atv t s ss 6 q 0 = (b, 0))) (b0 : 0 ≤ b) (b9 : b ≤ 10000) (f0 : 0 ≤ from_) (fu : from_ ≤ until_) (us : until_ ≤ s) (hP : b + from_ = (P0 : Int)) (hE : b + s = (E : Int)) (hEl : E ≤ xs.length) (hK : Go.Ob.Ends (osz xs ss (E : Int)) P0 (b + until_) K) :
    Calls Tryd.prog 30 #[objV t s a n c L p e, .int .i64 q, .int .i64 from_, .int .i64 until_] w fun e W' => ∃ v, e = .returned v ∧ IfAt w.heap.size W' v (tol (osz xs ss (E : Int)) P0 K) ∧ Below w.heap.size w W' :=
  (callsIn_wide.1 (walk_in t s a n c ss L A B xs q b from_ until_ p e P0 E K w h hL hb b0 b9 f0 fu us hP hE hEl hK)).mono fun e' W' ⟨v, base, he, hbase, ho, hbl⟩ => ⟨v, he, ifAt_own ho hbase, hbl⟩
/-- Every walk ends. -/
theorem ends_exist (f : Int → Int) (a U : Int) (h : a ≤ U) : ∃ K, Go.Ob.Ends f a U K := by
  have key : ∀ (m k : Nat), (∀ j, j < k → vis f a j < U) → (U - vis f a k).toNat ≤ m → ∃ K, Go.Ob.Ends f a U K := by
    intro m
    induction m with
    | zero => intro k hk hm; exact ⟨k, by omega, hk⟩
    | succ m ih =>
      intro k hk hm
      by_cases hu : U ≤ vis f a k
      · exact ⟨k, hu, hk⟩
      · refine ih (k + 1) (fun j hj => ?_) ?_
        · by_cases hjk : j < k
          · exact hk j hjk
          · obtain rfl : j = k := by omega
            omega
        · have := vis_lt f a k
          omega
  exact key _ 0 (fun j hj => by omega) (Nat.le_refl _)
end Go.Proofs.YtldfmlkjeniemaaDoor
/- package object: the closure of Walk: open, then walk; each may give up. -/
set_option linter.unusedVariables false
namespace Go.Proofs.YtldfmlkjeniemaaDoor
open Go.RowKit Go.Ly Go.Hd Go.Sh Go.Ob
set_option maxRecDepth 100000 in
set_option maxHeartbeats 4000000 in
theorem clow_open (W0 We : World) (ga gp gs gf gu gx : Nat) (P : Option Addr) (t s : Int) (a : Option Addr) (n c : Nat) (q f u : Int) (H0 : Hs7 W0 ga 0 (.pointer P) gp 0 (.int .i64 t) gp 1 (.int .i64 s) gp 2 (.slice a n c) gs 0 (.int .i64 q) gf 0 (.int .i64 f) gu 0 (.int .i64 u) W0) (HB : Below W0.heap.size W0 We) (k : Int) (co : ∀ W, Below We.heap.size We W → Calls Tryd.prog 24 #[.pointer P, planV t s a n c] W fun e w' => e = upE k ∧ Below W.heap.size W w') :
    Calls Tryd.prog 29 #[.pointer (some ⟨ga, 0, none⟩), .pointer (some ⟨gp, 0, none⟩), .pointer (some ⟨gs, 0, none⟩), .pointer (some ⟨gf, 0, none⟩), .pointer (some ⟨gu, 0, none⟩), .pointer (some ⟨gx, 0, none⟩)] We fun e w' => e = upE k ∧ Below We.heap.size We w' := by
  go_enter Tryd.func29, Tryd.ntmps29
  go_wp2_with fail
  refine wp_region_held_drew (S := Hs7 W0 ga 0 (.pointer P) gp 0 (.int .i64 t) gp 1 (.int .i64 s) gp 2 (.slice a n c) gs 0 (.int .i64 q) gf 0 (.int .i64 f) gu 0 (.int .i64 u)) (by kernel_rfl) (hs7_mk H0 HB.drew) (fun hHeld => ?_)
  refine wpAnyH_take (i := 0) (v := ?_) rfl (by kernel_rfl) (by kernel_rfl) (by kernel_rfl) (fun _ _ _ h => h) (Or.inl ⟨by rfl, ?_⟩) (by assumption) ?_
  rotate_left
  · (intro wx hSw; (try dsimp only at hSw); go_simp <;> with_reducible rfl)
  simp only [Act.put]
  refine wpAnyH_take (i := 1) (v := ?_) rfl (by kernel_rfl) (by kernel_rfl) (by kernel_rfl) (fun _ _ _ h => h) (Or.inl ⟨by rfl, ?_⟩) (by assumption) ?_
  rotate_left
  · (intro wx hSw; (try dsimp only at hSw); go_simp <;> with_reducible rfl)
  simp only [Act.put]
  refine wpAnyH_take (i := 3) (v := ?_) rfl (by kernel_rfl) (by kernel_rfl) (by kernel_rfl) (fun _ _ _ h => h) (Or.inl ⟨by rfl, ?_⟩) (by assumption) ?_
  rotate_left
  · (intro wx hSw; (try dsimp only at hSw); go_simp <;> with_reducible rfl)
  simp only [Act.put]
  refine wpAnyH_take (i := 4) (v := ?_) rfl (by kernel_rfl) (by kernel_rfl) (by kernel_rfl) (fun _ _ _ h => h) (Or.inl ⟨by rfl, ?_⟩) (by assumption) ?_
  rotate_left
  · (intro wx hSw; (try dsimp only at hSw); go_simp <;> with_reducible rfl)
  simp only [Act.put]
  refine wpAnyH_take (i := 5) (v := ?_) rfl (by kernel_rfl) (by kernel_rfl) (by kernel_rfl) (fun _ _ _ h => h) (Or.inl ⟨by rfl, ?_⟩) (by assumption) ?_
  rotate_left
  · (intro wx hSw; (try dsimp only at hSw); go_simp <;> with_reducible rfl)
  simp only [Act.put]
  refine wpAnyH_ready (rs := [2]) (by kernel_rfl) (by simp) ?_
  refine AllReadyH.cons rfl (fun K hK => ?_) AllReadyH.nil
  go_simp
  go_at_call 24
  refine (co _ (Below.refl _ _).drew).mono ?_
  rintro e w1 ⟨rfl, b1⟩
  exact ⟨rfl, rfl, ((Below.refl We.heap.size We).drew).trans b1⟩
set_option maxRecDepth 100000 in
set_option maxHeartbeats 4000000 in
theorem clow_last (W0 We : World) (ga gp gs gf gu gx : Nat) (P : Option Addr) (t s : Int) (a : Option Addr) (n c : Nat) (q f u : Int) (H0 : Hs7 W0 ga 0 (.pointer P) gp 0 (.int .i64 t) gp 1 (.int .i64 s) gp 2 (.slice a n c) gs 0 (.int .i64 q) gf 0 (.int .i64 f) gu 0 (.int .i64 u) W0) (HB : Below W0.heap.size W0 We) (k E : Int) (A : Nat) (co : ∀ W, Below We.heap.size We W → Calls Tryd.prog 24 #[.pointer P, planV t s a n c] W fun e w' => e = .returned (objV t s a n c W.heap.size 0 0) ∧ w'.heap[W.heap.size]? = some (arO A) ∧ Below W.heap.size W w') (cl : ∀ L W, Below We.heap.size We W → W.heap[L]? = some (arO A) → Calls Tryd.prog 30 #[objV t s a n c L 0 0, .int .i64 q, .int .i64 f, .int .i64 u] W fun e' w' => e' = upE k ∧ Below W.heap.size W w') :
    Calls Tryd.prog 29 #[.pointer (some ⟨ga, 0, none⟩), .pointer (some ⟨gp, 0, none⟩), .pointer (some ⟨gs, 0, none⟩), .pointer (some ⟨gf, 0, none⟩), .pointer (some ⟨gu, 0, none⟩), .pointer (some ⟨gx, 0, none⟩)] We fun e w' => e = upE k ∧ Below We.heap.size We w' := by
  go_enter Tryd.func29, Tryd.ntmps29
  go_wp2_with fail
  refine wp_region_held_drew (S := Hs7 W0 ga 0 (.pointer P) gp 0 (.int .i64 t) gp 1 (.int .i64 s) gp 2 (.slice a n c) gs 0 (.int .i64 q) gf 0 (.int .i64 f) gu 0 (.int .i64 u)) (by kernel_rfl) (hs7_mk H0 HB.drew) (fun hHeld => ?_)
  refine wpAnyH_take (i := 0) (v := ?_) rfl (by kernel_rfl) (by kernel_rfl) (by kernel_rfl) (fun _ _ _ h => h) (Or.inl ⟨by rfl, ?_⟩) (by assumption) ?_
  rotate_left
  · (intro wx hSw; (try dsimp only at hSw); go_simp <;> with_reducible rfl)
  simp only [Act.put]
  refine wpAnyH_take (i := 1) (v := ?_) rfl (by kernel_rfl) (by kernel_rfl) (by kernel_rfl) (fun _ _ _ h => h) (Or.inl ⟨by rfl, ?_⟩) (by assumption) ?_
  rotate_left
  · (intro wx hSw; (try dsimp only at hSw); go_simp <;> with_reducible rfl)
  simp only [Act.put]
  refine wpAnyH_take (i := 3) (v := ?_) rfl (by kernel_rfl) (by kernel_rfl) (by kernel_rfl) (fun _ _ _ h => h) (Or.inl ⟨by rfl, ?_⟩) (by assumption) ?_
  rotate_left
  · (intro wx hSw; (try dsimp only at hSw); go_simp <;> with_reducible rfl)
  simp only [Act.put]
  refine wpAnyH_take (i := 4) (v := ?_) rfl (by kernel_rfl) (by kernel_rfl) (by kernel_rfl) (fun _ _ _ h => h) (Or.inl ⟨by rfl, ?_⟩) (by assumption) ?_
  rotate_left
  · (intro wx hSw; (try dsimp only at hSw); go_simp <;> with_reducible rfl)
  simp only [Act.put]
  refine wpAnyH_take (i := 5) (v := ?_) rfl (by kernel_rfl) (by kernel_rfl) (by kernel_rfl) (fun _ _ _ h => h) (Or.inl ⟨by rfl, ?_⟩) (by assumption) ?_
  rotate_left
  · (intro wx hSw; (try dsimp only at hSw); go_simp <;> with_reducible rfl)
  simp only [Act.put]
  refine wpAnyH_ready (rs := [2]) (by kernel_rfl) (by simp) ?_
  refine AllReadyH.cons rfl (fun K hK => ?_) AllReadyH.nil
  go_simp
  go_at_call 24
  refine (co _ (Below.refl _ _).drew).mono ?_
  rintro e w1 ⟨rfl, L1, b1⟩
  have B1 := hid (((Below.refl We.heap.size We).drew).trans b1)
  dsimp only
  refine hK.out _ _ ?_ (fun hHeld => ?_)
  · with_reducible (first | exact hs7_mk H0 (HB.drew) | exact hs7_mk H0 (HB.trans (B1.out.mono HB.size)) | exact hs7_mk H0 (HB.trans (B2.out.mono HB.size)) | exact hs7_mk H0 (HB.trans (B3.out.mono HB.size)) | exact hs7_mk H0 ((HB.trans (B3.out.mono HB.size)).setCell hgx _))
  clear hK K
  refine wpAnyH_ready (rs := [6]) (by kernel_rfl) (by simp) ?_
  refine AllReadyH.cons rfl (fun K hK => ?_) AllReadyH.nil
  go_simp
  go_at_call 30
  refine (cl _ _ B1.out L1).mono ?_
  rintro e w3 ⟨rfl, b3⟩
  exact ⟨rfl, rfl, B1.out.trans (b3.mono B1.out.size)⟩
set_option maxRecDepth 100000 in
set_option maxHeartbeats 4000000 in
theorem clow_ok (W0 We : World) (ga gp gs gf gu gx : Nat) (P : Option Addr) (t s : Int) (a : Option Addr) (n c : Nat) (q f u : Int) (H0 : Hs7 W0 ga 0 (.pointer P) gp 0 (.int .i64 t) gp 1 (.int .i64 s) gp 2 (.slice a n c) gs 0 (.int .i64 q) gf 0 (.int .i64 f) gu 0 (.int .i64 u) W0) (HB : Below W0.heap.size W0 We) (E : Int) (A : Nat) (zs : List Int) (hgx : W0.heap.size ≤ gx) (Rx : We.heap[gx]? = some (.cells #[.slice none 0 0] 40)) (co : ∀ W, Below We.heap.size We W → Calls Tryd.prog 24 #[.pointer P, planV t s a n c] W fun e w' => e = .returned (objV t s a n c W.heap.size 0 0) ∧ w'.heap[W.heap.size]? = some (arO A) ∧ Below W.heap.size W w') (cl : ∀ L W, Below We.heap.size We W → W.heap[L]? = some (arO A) → Calls Tryd.prog 30 #[objV t s a n c L 0 0, .int .i64 q, .int .i64 f, .int .i64 u] W fun e' w' => ∃ v, e' = .returned v ∧ IfAt W.heap.size w' v zs ∧ Below W.heap.size W w') :
    Calls Tryd.prog 29 #[.pointer (some ⟨ga, 0, none⟩), .pointer (some ⟨gp, 0, none⟩), .pointer (some ⟨gs, 0, none⟩), .pointer (some ⟨gf, 0, none⟩), .pointer (some ⟨gu, 0, none⟩), .pointer (some ⟨gx, 0, none⟩)] We fun e w' => e = .returned (.tuple #[]) ∧ ∃ w3 v, Below We.heap.size We w3 ∧ IfAt We.heap.size w3 v zs ∧ w' = w3.setCell ⟨gx, 0, none⟩ v := by
  go_enter Tryd.func29, Tryd.ntmps29
  go_wp2_with fail
  refine wp_region_held_drew (S := Hs7 W0 ga 0 (.pointer P) gp 0 (.int .i64 t) gp 1 (.int .i64 s) gp 2 (.slice a n c) gs 0 (.int .i64 q) gf 0 (.int .i64 f) gu 0 (.int .i64 u)) (by kernel_rfl) (hs7_mk H0 HB.drew) (fun hHeld => ?_)
  refine wpAnyH_take (i := 0) (v := ?_) rfl (by kernel_rfl) (by kernel_rfl) (by kernel_rfl) (fun _ _ _ h => h) (Or.inl ⟨by rfl, ?_⟩) (by assumption) ?_
  rotate_left
  · (intro wx hSw; (try dsimp only at hSw); go_simp <;> with_reducible rfl)
  simp only [Act.put]
  refine wpAnyH_take (i := 1) (v := ?_) rfl (by kernel_rfl) (by kernel_rfl) (by kernel_rfl) (fun _ _ _ h => h) (Or.inl ⟨by rfl, ?_⟩) (by assumption) ?_
  rotate_left
  · (intro wx hSw; (try dsimp only at hSw); go_simp <;> with_reducible rfl)
  simp only [Act.put]
  refine wpAnyH_take (i := 3) (v := ?_) rfl (by kernel_rfl) (by kernel_rfl) (by kernel_rfl) (fun _ _ _ h => h) (Or.inl ⟨by rfl, ?_⟩) (by assumption) ?_
  rotate_left
  · (intro wx hSw; (try dsimp only at hSw); go_simp <;> with_reducible rfl)
  simp only [Act.put]
  refine wpAnyH_take (i := 4) (v := ?_) rfl (by kernel_rfl) (by kernel_rfl) (by kernel_rfl) (fun _ _ _ h => h) (Or.inl ⟨by rfl, ?_⟩) (by assumption) ?_
  rotate_left
  · (intro wx hSw; (try dsimp only at hSw); go_simp <;> with_reducible rfl)
  simp only [Act.put]
  refine wpAnyH_take (i := 5) (v := ?_) rfl (by kernel_rfl) (by kernel_rfl) (by kernel_rfl) (fun _ _ _ h => h) (Or.inl ⟨by rfl, ?_⟩) (by assumption) ?_
  rotate_left
  · (intro wx hSw; (try dsimp only at hSw); go_simp <;> with_reducible rfl)
  simp only [Act.put]
  refine wpAnyH_ready (rs := [2]) (by kernel_rfl) (by simp) ?_
  refine AllReadyH.cons rfl (fun K hK => ?_) AllReadyH.nil
  go_simp
  go_at_call 24
  refine (co _ (Below.refl _ _).drew).mono ?_
  rintro e w1 ⟨rfl, L1, b1⟩
  have B1 := hid (((Below.refl We.heap.size We).drew).trans b1)
  dsimp only
  refine hK.out _ _ ?_ (fun hHeld => ?_)
  · with_reducible (first | exact hs7_mk H0 (HB.drew) | exact hs7_mk H0 (HB.trans (B1.out.mono HB.size)) | exact hs7_mk H0 (HB.trans (B2.out.mono HB.size)) | exact hs7_mk H0 (HB.trans (B3.out.mono HB.size)) | exact hs7_mk H0 ((HB.trans (B3.out.mono HB.size)).setCell hgx _))
  clear hK K
  refine wpAnyH_ready (rs := [6]) (by kernel_rfl) (by simp) ?_
  refine AllReadyH.cons rfl (fun K hK => ?_) AllReadyH.nil
  go_simp
  go_at_call 30
  refine (cl _ _ B1.out L1).mono ?_
  rintro e w3 ⟨v, rfl, hfs, b3⟩
  obtain ⟨av, cv, rfl, hfs⟩ := hfs
  have B3 := hid (B1.out.trans (b3.mono B1.out.size))
  have R3 := row_below Rx B3.out
  have s0 := at_row R3 0 rfl
  have t0 := fz_row R3 0
  dsimp only
  refine hK.out _ _ ?_ (fun hHeld => ?_)
  · with_reducible (first | exact hs7_mk H0 (HB.drew) | exact hs7_mk H0 (HB.trans (B1.out.mono HB.size)) | exact hs7_mk H0 (HB.trans (B2.out.mono HB.size)) | exact hs7_mk H0 (HB.trans (B3.out.mono HB.size)) | exact hs7_mk H0 ((HB.trans (B3.out.mono HB.size)).setCell hgx _))
  clear hK K
  refine wpAnyH_ready (rs := [7]) (by kernel_rfl) (by simp) ?_
  refine AllReadyH.cons rfl (fun K hK => ?_) AllReadyH.nil
  go_simp
  refine hK.out _ _ ?_ (fun hHeld => ?_)
  · with_reducible (first | exact hs7_mk H0 (HB.drew) | exact hs7_mk H0 (HB.trans (B1.out.mono HB.size)) | exact hs7_mk H0 (HB.trans (B2.out.mono HB.size)) | exact hs7_mk H0 (HB.trans (B3.out.mono HB.size)) | exact hs7_mk H0 ((HB.trans (B3.out.mono HB.size)).setCell hgx _))
  clear hK K
  refine wpAnyH_done (by kernel_rfl) ?_ _
  go_wp2
  go_end0
  exact ⟨rfl, _, _, B3.out, IfAt.lower ⟨av, cv, rfl, hfs⟩ B1.out.size, rfl⟩
end Go.Proofs.YtldfmlkjeniemaaDoor
/- package object: place; Place's closure; Place. -/
set_option linter.unusedVariables false
namespace Go.Proofs.YtldfmlkjeniemaaDoor
open Go.RowKit Go.Ly Go.Hd Go.Sh Go.Ob
set_option maxRecDepth 100000 in
set_option maxHeartbeats 1000000 in
theorem place_no (t s : Int) (a : Option Addr) (n c : Nat) (ss : List ByteArray) (L A B : Nat) (xs : List Int) (q : Nat) (e f : Int) (w : World) (h : IsHp w t s a n c ss A B xs) (hL : w.heap[L]? = some (arO A)) (hq : q < xs.length) (e0 : 0 ≤ e) (e1 : e ≤ 20000) (hz : Hid (osz xs ss e q = 0)) :
    Calls Tryd.prog 26 #[objV t s a n c L (q : Int) e, .int .i64 f] w fun e' w' => e' = upE 170 ∧ Below w.heap.size w w' := by
  have bw := below_alloc0 w (objO t s a n c L (q : Int) e)
  have cm := mustStand_no t s a n c ss L A B xs q e _ (h.below bw) (row_below hL bw) hq e0 e1 hz
  clear h hL hz
  go_enter Tryd.func26, Tryd.ntmps26
  go_wp2_with (go_at_call 49; refine cm.mono ?_; rintro e w' ⟨rfl, b1⟩)
  exact ⟨rfl, rfl, bel1 b1⟩
set_option maxRecDepth 100000 in
set_option maxHeartbeats 1000000 in
theorem place_out (t s : Int) (a : Option Addr) (n c : Nat) (ss : List ByteArray) (L A B : Nat) (xs : List Int) (q : Nat) (e z f : Int) (w : World) (h : IsHp w t s a n c ss A B xs) (hL : w.heap[L]? = some (arO A)) (hq : q < xs.length) (e0 : 0 ≤ e) (e1 : e ≤ 20000) (hz : Hid (osz xs ss e q = z)) (z2 : 2 ≤ z) (z10 : z ≤ 10) (hf : f < 0 ∨ z - 2 ≤ f) :
    Calls Tryd.prog 26 #[objV t s a n c L (q : Int) e, .int .i64 f] w fun e' w' => e' = upE 131 ∧ Below w.heap.size w w' := by
  have bw := below_alloc0 w (objO t s a n c L (q : Int) e)
  have cm := mustStand_yes t s a n c ss L A B xs q e z _ (h.below bw) (row_below hL bw) hq e0 e1 hz (by rw [beq_eq_false_iff_ne]; omega)
  clear h hL hz
  rcases (show f < 0 ∨ (0 ≤ f ∧ z - 2 ≤ f) by omega) with hf | ⟨hf0, hf⟩
  all_goals
    go_enter Tryd.func26, Tryd.ntmps26
    go_wp2_with (first | (go_at_call 49; refine cm.mono ?_; rintro e w' ⟨rfl, b1⟩) | (go_at_call 44; refine (giveUp_any _ _).mono ?_; rintro e w' ⟨rfl, hw⟩; rw [hw]; clear hw))
    exact ⟨rfl, rfl, bel1 b1⟩
set_option maxRecDepth 100000 in
set_option maxHeartbeats 1000000 in
theorem place_yes (t s : Int) (a : Option Addr) (n c : Nat) (ss : List ByteArray) (L A B : Nat) (xs : List Int) (q : Nat) (e z f : Int) (w : World) (h : IsHp w t s a n c ss A B xs) (hL : w.heap[L]? = some (arO A)) (hq : q < xs.length) (e0 : 0 ≤ e) (e1 : e ≤ 20000) (hz : Hid (osz xs ss e q = z)) (z2 : 2 ≤ z) (z10 : z ≤ 10) (f0 : 0 ≤ f) (f1 : f < z - 2) :
    Calls Tryd.prog 26 #[objV t s a n c L (q : Int) e, .int .i64 f] w fun e' w' => e' = .returned (.int .i64 (q + 2 + f)) ∧ Below w.heap.size w w' := by
  have q9 : (q : Int) ≤ 20000 := by have := h.ar.le; omega
  have q0 : (0 : Int) ≤ (q : Int) := by omega
  have f9 : f ≤ 10 := by omega
  have bw := below_alloc0 w (objO t s a n c L (q : Int) e)
  have cm := mustStand_yes t s a n c ss L A B xs q e z _ (h.below bw) (row_below hL bw) hq e0 e1 hz (by rw [beq_eq_false_iff_ne]; omega)
  clear h hL hz
  go_enter Tryd.func26, Tryd.ntmps26
  go_wp2_with (go_at_call 49; refine cm.mono ?_)
  rintro e w' ⟨rfl, b1⟩
  have c4 := at_row (row1 b1) 4 rfl
  have B1 := hid (bel1 b1)
  clear b1
  go_wp2
  go_ret
  exact ⟨rfl, B1.out⟩
end Go.Proofs.YtldfmlkjeniemaaDoor
