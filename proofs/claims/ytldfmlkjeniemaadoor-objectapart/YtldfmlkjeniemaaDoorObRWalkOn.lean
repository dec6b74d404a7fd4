/- The document's Walk (lapidaryref07). -/
import Derived.Test.YtldfmlkjeniemaaDoorObStandOn
import Derived.Test.YtldfmlkjeniemaaDoorObPlaceTOn
import Derived.Test.YtldfmlkjeniemaaDoorObNilOn
set_option linter.unusedVariables false
namespace Go.Proofs.YtldfmlkjeniemaaDoor
open Go.RowKit Go.Ly Go.Hd Go.Sh Go.Ob Go.Sort
set_option maxRecDepth 100000 in
set_option maxHeartbeats 2000000 in
theorem oWalk_arg (t s : Int) (a : Option Addr) (n c : Nat) (ss : List ByteArray) (la : Option Addr) (N lc : Nat) (Z q f u : Int) (w : World) (hT : IsTab w (.slice a n c) ss) (hg : rgt t s ss = true) (hZ : 3 + t + t + 2 * s = Z) (hr : ((N : Int) == Z) = false) :
    Calls Tryd.prog 14 #[.slice la N lc, planV t s a n c, .int .i64 q, .int .i64 f, .int .i64 u] w fun e w' => e = .returned (.tuple #[.slice none 0 0, .int .i64 2]) ∧ Below w.heap.size w w' := by
  have bw := below_alloc0 w (plO t s a n c)
  have cr := oRight_at t s a n c ss la N lc Z false _ (hT.below (Nat.le_refl _) bw) hg hZ hr
  clear hT hg hZ hr
  go_enter Tryd.func14, Tryd.ntmps14
  go_wp2_with (go_at_call 31; refine cr.mono ?_; rintro e w1 ⟨rfl, b1⟩)
  go_ret2
  exact ⟨rfl, bel1 b1⟩
theorem wlk_no {s q f u : Int} (h : wlk s q f u = false) : q < 0 ∨ (0 ≤ q ∧ 1 < q) ∨ (0 ≤ q ∧ q ≤ 1 ∧ f < 0) ∨ (0 ≤ q ∧ q ≤ 1 ∧ 0 ≤ f ∧ s < u) ∨ (0 ≤ q ∧ q ≤ 1 ∧ 0 ≤ f ∧ u ≤ s ∧ u < f) := by
  simp [wlk] at h
  omega
theorem dec_yes {p : Prop} [Decidable p] (h : p) : decide p = true := by simpa using h
theorem dec_no {p : Prop} [Decidable p] (h : ¬ p) : decide p = false := by simpa using h
set_option maxRecDepth 100000 in
set_option maxHeartbeats 4000000 in
theorem oWalk_range (t s : Int) (a : Option Addr) (n c : Nat) (ss : List ByteArray) (la : Option Addr) (N lc : Nat) (q f u : Int) (w : World) (hT : IsTab w (.slice a n c) ss) (hg : rgt t s ss = true) (hN : (N : Int) = 3 + t + t + 2 * s) (h : wlk s q f u = false) :
    Calls Tryd.prog 14 #[.slice la N lc, planV t s a n c, .int .i64 q, .int .i64 f, .int .i64 u] w fun e w' => e = .returned (.tuple #[.slice none 0 0, .int .i64 4]) ∧ Below w.heap.size w w' := by
  have bw := below_alloc0 w (plO t s a n c)
  have cr := oRight_at t s a n c ss la N lc _ true _ (hT.below (Nat.le_refl _) bw) hg rfl (by simpa using hN)
  have h := wlk_no h
  clear hT hg hN
  go_enter Tryd.func14, Tryd.ntmps14
  go_wp2_with (go_at_call 31; refine cr.mono ?_)
  rintro e w1 ⟨rfl, b1⟩
  have R1 := row1 b1
  have d1 := at_row R1 1 rfl
  have B1 := hid (bel1 b1)
  clear b1 R1 cr bw
  rcases h with h | ⟨g0, h⟩ | ⟨g0, g1, h⟩ | ⟨g0, g1, g2, h⟩ | ⟨g0, g1, g2, g3, h⟩
  all_goals
    go_wp2
    go_ret2
    exact ⟨rfl, B1.out⟩
set_option maxRecDepth 100000 in
set_option maxHeartbeats 8000000 in
theorem oWalk_in (t s : Int) (a : Option Addr) (n c : Nat) (ss : List ByteArray) (b off lc : Nat) (xs : List Int) (sp f u bb : Int) (P0 E K : Nat) (w : World) (hT : IsTab w (.slice a n c) ss) (hg : rgt t s ss = true) (hx : Ws w b off xs) (hi : InW xs) (hl : (xs.length : Int) = 3 + t + t + 2 * s)
    (q0 : 0 ≤ sp) (q1 : sp ≤ 1) (f0 : 0 ≤ f) (u1 : u ≤ s) (fu : f ≤ u) (hb : 3 + t + t + sp * s = bb) (hP : bb + f = (P0 : Int)) (hE : bb + s = (E : Int)) (hK : Go.Ob.Ends (osz xs ss (E : Int)) P0 (bb + u) K) :
    Calls Tryd.prog 14 #[.slice (some ⟨b, off, none⟩) xs.length lc, planV t s a n c, .int .i64 sp, .int .i64 f, .int .i64 u] w fun e w' => ∃ v, e = .returned (.tuple #[v, .int .i64 0]) ∧ IfAt w.heap.size w' v (tol (osz xs ss (E : Int)) P0 K) ∧ Below w.heap.size w w' := by
  obtain ⟨t0, t1, s0, s1, _⟩ := rgt_yes hg
  obtain ⟨i0, hi0, hz0, hz1, hz2⟩ := info_parts oinfo_int
  have bw := below_alloc0 w (plO t s a n c)
  have cr := oRight_at t s a n c ss (some ⟨b, off, none⟩) xs.length lc _ true _ (hT.below (Nat.le_refl _) bw) hg rfl (by simpa using hl)
  have hs01 : sp = 0 ∨ sp = 1 := by omega
  have hss : 0 ≤ sp * s ∧ sp * s ≤ s := by rcases hs01 with rfl | rfl <;> omega
  have cb : ∀ W, Calls Tryd.prog 15 #[planV t s a n c, .int .i64 sp] W fun e w' => e = .returned (.int .i64 bb) ∧ Below W.heap.size W w' := by
    intro W
    rcases hs01 with rfl | rfl
    · rw [show bb = 3 + t + t by omega]; exact rBase6_0 t s a n c W t0 t1 s0 s1
    · rw [show bb = 3 + t + t + s by omega]; exact rBase6_1 t s a n c W t0 t1 s0 s1
  have cz : ∀ (q : Nat) W, Below w.heap.size w W → bb ≤ (q : Int) → (q : Int) < bb + s → Calls Tryd.prog 28 #[.slice (some ⟨b, off, none⟩) xs.length lc, planV t s a n c, .int .i64 (q : Int)] W fun e w' => e = .returned (.int .i64 (osz xs ss (E : Int) q)) ∧ Below W.heap.size W w' := by
    intro q W hW h0 h1
    have he : eo t s (q : Int) = (E : Int) := by rw [eo_in (q := sp) s0 (by omega) (by omega), ← hE, ← hb]
    exact oSize_at t s a n c ss b off lc xs q _ W (hT.below (Nat.le_refl _) hW) hg (hx.bel hW) hi hl (by simp [spc]; omega) (hid (by rw [he]))
  have b0 : 0 ≤ bb := by omega
  have b9 : bb ≤ 9000 := by omega
  have s9 : s ≤ 9000 := by omega
  have go0 : ∀ p, 0 ≤ osz xs ss (E : Int) p ∧ osz xs ss (E : Int) p ≤ 10 := fun p => osz_le xs ss _ p
  generalize osz xs ss (E : Int) = F at *
  have g0 := dec_no (p := sp < 0) (by omega)
  have g1 := dec_no (p := 1 < sp) (by omega)
  have g2 := dec_no (p := f < 0) (by omega)
  have g3 := dec_no (p := s < u) (by omega)
  have g4 := dec_no (p := u < f) (by omega)
  generalize xs.length = N at *
  clear hT hg hx hi hl hs01 hss q0 q1 t0 t1 s0 s1 hb hE
  go_enter Tryd.func14, Tryd.ntmps14
  go_wp2_with (go_at_call 31; refine cr.mono ?_)
  rintro e w1 ⟨rfl, b1⟩
  have R1 := row1 b1
  have d0 := at_row R1 0 rfl
  have d1 := at_row R1 1 rfl
  have d2 := at_row R1 2 rfl
  have B1 := hid (bel1 b1)
  have RR := hid R1
  have Z1 := hid (show w.heap.size + 1 ≤ w1.heap.size by have := b1.size; simpa using this)
  clear b1 R1 cr bw
  go_wp2_with (go_at_call 15; refine (cb _).mono ?_)
  rintro e w2 ⟨rfl, b2⟩
  have R2 := hid (row_below RR.out b2)
  have B2 := hid (B1.out.trans (b2.mono B1.out.size))
  have Z2 := hid (Nat.le_trans Z1.out b2.size)
  clear b2 d0 d1 d2 RR B1 Z1 cb g0 g1 g2 g3 g4
  go_wp2_with fail
  go_loopw [12, 14] (fun v i wr => ∃ (k : Nat) (y : Int), i = .int .i64 y ∧ k ≤ K ∧ Hid (bb + y = vis F P0 k) ∧ f ≤ y ∧ y ≤ u + 10 ∧ wr.ownsRow (w.heap.size + 1) 3 1 v (tol F P0 k).length ((tol F P0 k).map (Value.int .i64)) ∧ Below w.heap.size w wr ∧ Hid (wr.heap[w.heap.size]? = some (plO t s a n c)) ∧ w.heap.size + 1 ≤ wr.heap.size) (fun _ i _ => (u - intOf i).toNat)
  case atStart => exact ⟨0, f, rfl, by omega, hid (by rw [hP]; rfl), by omega, by omega, ⟨by simp [tol], .inl ⟨rfl, rfl⟩⟩, B2.out, R2, Z2.out⟩
  case round =>
    obtain ⟨k, y, rfl, hk, HV, hy0, hy1, hown, hB, HR, hZ⟩ := hrel
    have hd0 := at_row HR.out 0 rfl
    have hd1 := at_row HR.out 1 rfl
    have hd2 := at_row HR.out 2 rfl
    have HO := hid hown
    have HB := hid hB
    have htl := tol_le F (P0 : Int) k
    have hKle := hK.le (by omega)
    by_cases hlt : y < u
    · obtain ⟨q, hq⟩ : ∃ q : Nat, bb + y = (q : Int) := Int.eq_ofNat_of_zero_le (by omega)
      have hkK : k < K := by
        by_cases h : k < K
        · exact h
        · have e : k = K := by omega
          have := hK.1
          rw [← e, ← HV.out] at this
          omega
      have hw : IntKind.i64.wrap (bb + y) = (q : Int) := by rw [IntWalk.i64_in _ ⟨by omega, by omega⟩, hq]
      have cq := cz q wr HB.out (by omega) (by omega)
      have gq := go0 (q : Int)
      have HVq : Hid (vis F (P0 : Int) k = (q : Int)) := hid (by rw [← HV.out, hq])
      obtain ⟨z, hz⟩ : ∃ z, Hid (F (q : Int) = z) := ⟨_, hid rfl⟩
      rw [hz.out] at cq gq
      by_cases hz0' : z = 0
      · subst hz0'
        have HN : Hid (bb + (y + 1) = vis F (P0 : Int) (k + 1)) := hid (by rw [vis_succ, HVq.out, hz.out]; omega)
        have HT : Hid (tol F (P0 : Int) (k + 1) = tol F (P0 : Int) k) := hid (tol_miss (by rw [HVq.out, hz.out]; omega))
        have hw2 : IntKind.i64.wrap (y + 1) = y + 1 := IntWalk.i64_in _ ⟨by omega, by omega⟩
        clear hown hB HV HVq hz hq
        go_wp2_with (go_at_call 28; refine cq.mono ?_)
        rintro e w3 ⟨rfl, b3⟩
        have HO3 := hid (rown_below HO.out b3)
        have HB3 := hid (HB.out.trans (b3.mono HB.out.size))
        have HR3 := hid (row_below HR.out b3)
        have hz3 := b3.size
        clear cq b3 hd0 hd1 hd2 HO HB HR
        go_wp2
        go_roundw
        case rel => exact ⟨k + 1, y + 1, rfl, hkK, HN, by omega, by omega, by rw [HT.out]; exact HO3.out, HB3.out, HR3, by omega⟩
        case measure => simp [intOf]; omega
      · have hz1' : 1 ≤ z := by omega
        have hzne : (z == 0) = false := by rw [beq_eq_false_iff_ne]; exact hz0'
        have HN : Hid (bb + (y + z) = vis F (P0 : Int) (k + 1)) := hid (by rw [vis_succ, HVq.out, hz.out]; omega)
        have HT : Hid (tol F (P0 : Int) (k + 1) = tol F (P0 : Int) k ++ [(q : Int)]) := hid (by rw [tol_hit (by rw [HVq.out, hz.out]; omega), HVq.out])
        have hw2 : IntKind.i64.wrap (y + z) = y + z := IntWalk.i64_in _ ⟨by omega, by omega⟩
        clear hown hB HV HVq hz hq
        go_wp2_with (go_at_call 28; refine cq.mono ?_)
        rintro e w3 ⟨rfl, b3⟩
        have HO3 := hid (rown_below HO.out b3)
        have HB3 := hid (HB.out.trans (b3.mono HB.out.size))
        have HR3 := hid (row_below HR.out b3)
        have hz3 := b3.size
        clear cq b3 hd0 hd1 hd2 HO HB HR
        go_wp2_with (at_builtin; refine wpList_append_own _ rfl _ _ 40 rfl (w.heap.size + 1) 3 i0 (.int .i64 0) 1 8 Tryd.underlying40 hi0 hz0 hz1 hz2 rfl (by decide) _ _ _ rfl (HO3.out.alloc _) ⟨w3.heap.size, 0, none⟩ 1 1 [.int .i64 (q : Int)] rfl rfl (cell_one_new _ _ _) (fun u hu => by simp at hu; subst hu; rfl) (by unfold maxLen; omega) (by omega) (by simp; omega) ?_; intro v' w5 own5 hgrow _)
        have HO5 := hid (show w5.ownsRow (w.heap.size + 1) 3 1 v' (tol F (P0 : Int) (k + 1)).length ((tol F (P0 : Int) (k + 1)).map (Value.int .i64)) by rw [HT.out, List.length_append, List.map_append]; exact own5)
        have hal := below_alloc0 w3 (.cells #[.int .i64 (q : Int)] 3)
        have HB5 := hid (((HB3.out.alloc HB3.out.size (.cells #[.int .i64 (q : Int)] 3)).grown hgrow (by simp; omega) (fun j hj => by have := (HO3.out.lt j hj).1; omega)))
        have HR5 := hid ((hgrow.block w.heap.size (by simp; omega) (fun e => by have := (HO3.out.lt _ e.symm).1; omega)).trans (row_below HR3.out hal))
        have hz5 : w.heap.size + 1 ≤ w5.heap.size := (Array.getElem?_eq_some_iff.1 HR5.out).1
        go_roundw
        case rel => exact ⟨k + 1, y + z, rfl, hkK, HN, by omega, by omega, HO5.out, HB5.out, HR5, hz5⟩
        case measure => simp [intOf]; omega
    · have hkK : k = K := by
        by_cases h : k < K
        · have := hK.2 k h
          rw [← HV.out] at this
          omega
        · omega
      subst hkK
      clear hown hB hd0 hd1 hd2
      go_wp2
      go_ret2
      exact ⟨_, rfl, ifAt_own HO.out (by omega), HB.out⟩
theorem oWalk_ok (t s : Int) (a : Option Addr) (n c : Nat) (ss : List ByteArray) (b off lc : Nat) (xs : List Int) (sp f u : Int) (P0 E K : Nat) (w : World) (hT : IsTab w (.slice a n c) ss) (hg : rgt t s ss = true) (hx : Ws w b off xs) (hi : InW xs) (hl : (xs.length : Int) = 3 + t + t + 2 * s)
    (h1 : wlk s sp f u = true) (hP : 3 + t + t + sp * s + f = (P0 : Int)) (hE : 3 + t + t + sp * s + s = (E : Int)) (hK : Go.Ob.Ends (osz xs ss (E : Int)) P0 (3 + t + t + sp * s + u) K) :
    Calls Tryd.prog 14 #[.slice (some ⟨b, off, none⟩) xs.length lc, planV t s a n c, .int .i64 sp, .int .i64 f, .int .i64 u] w fun e w' => ∃ v, e = .returned (.tuple #[v, .int .i64 0]) ∧ IfAt w.heap.size w' v (tol (osz xs ss (E : Int)) P0 K) ∧ Below w.heap.size w w' := by
  have hq : (sp = 0 ∨ sp = 1) ∧ 0 ≤ f ∧ f ≤ u ∧ u ≤ s := by simpa [wlk, and_assoc] using h1
  exact oWalk_in t s a n c ss b off lc xs sp f u _ P0 E K w hT hg hx hi hl (by omega) (by omega) hq.2.1 hq.2.2.2 hq.2.2.1 rfl hP hE hK
end Go.Proofs.YtldfmlkjeniemaaDoor
/- The law ObjectWalk. -/
set_option linter.unusedVariables false
namespace Go.Proofs.YtldfmlkjeniemaaDoor
open Go.RowKit Go.Ly Go.Hd Go.Sh Go.Ob
theorem IfAt.cellk {lo : Nat} {W : World} {a : Option Addr} {n c : Nat} {zs : List Int} (h : IfAt lo W (.slice a n c) zs) (k : Nat) (hk : k < zs.length) : ∃ b off, a = some ⟨b, off, none⟩ ∧ W.cell? ⟨b, off + k, none⟩ = some (.int .i64 (wat zs k)) := by
  obtain ⟨a', c', e, h⟩ := h
  cases e
  rcases h with rfl | ⟨b, off, rfl, _, h⟩
  · simp at hk
  · exact ⟨b, off, rfl, h k hk⟩
theorem ifAt_nil (W : World) : IfAt 0 W (.slice none 0 0) [] := ⟨none, 0, rfl, .inl rfl⟩
/-- What a walk answers, the program's and the document's: one and the same. -/
theorem walk_both (t s : Int) (a : Option Addr) (n c : Nat) (ss : List ByteArray) (xs : List Int) (m q f u : Int) (w : World) (hT : IsTab w (.slice a n c) ss) (hL : LNums w) (hr : rgt t s ss = true) (hxi : InW xs) (hl : (xs.length : Int) = 3 + t + t + 2 * s + m) :
    ∃ er zs, zs.length ≤ 9000 ∧ (∀ A B W, Below w.heap.size w W → IsAr W A B xs → Calls Tryd.prog 13 #[.pointer (some ⟨A, 0, none⟩), planV t s a n c, .int .i64 q, .int .i64 f, .int .i64 u] W fun e w' => ∃ a1 c1, e = .returned (.tuple #[.slice a1 zs.length c1, .int .i64 er]) ∧ IfAt 0 w' (.slice a1 zs.length c1) zs ∧ Below W.heap.size W w') ∧
      (∀ b lc W, Below w.heap.size w W → Ws W b 0 xs → Calls Tryd.prog 14 #[.slice (some ⟨b, 0, none⟩) xs.length lc, planV t s a n c, .int .i64 q, .int .i64 f, .int .i64 u] W fun e w' => ∃ a1 c1, e = .returned (.tuple #[.slice a1 zs.length c1, .int .i64 er]) ∧ IfAt 0 w' (.slice a1 zs.length c1) zs ∧ Below W.heap.size W w') := by
  obtain ⟨t0, t1, s0, s1, _⟩ := rgt_yes hr
  by_cases hm : m = 0
  · have hl2 : (xs.length : Int) = 3 + t + t + 2 * s := by omega
    by_cases h1 : wlk s q f u = true
    · have hq : (q = 0 ∨ q = 1) ∧ 0 ≤ f ∧ f ≤ u ∧ u ≤ s := by simpa [wlk, and_assoc] using h1
      have hqs : 0 ≤ q * s ∧ q * s ≤ s := by rcases hq.1 with rfl | rfl <;> omega
      obtain ⟨P0, hP⟩ := Int.eq_ofNat_of_zero_le (show 0 ≤ 3 + t + t + q * s + f by omega)
      obtain ⟨E, hE⟩ := Int.eq_ofNat_of_zero_le (show 0 ≤ 3 + t + t + q * s + s by omega)
      obtain ⟨K, hK⟩ := ends_exist (osz xs ss (E : Int)) P0 (3 + t + t + q * s + u) (by omega)
      have hKl := hK.le (by omega)
      have htl := tol_le (osz xs ss (E : Int)) (P0 : Int) K
      refine ⟨0, tol (osz xs ss (E : Int)) P0 K, by omega, fun A B W hW hA => ?_, fun b lc W hW hx => ?_⟩
      · refine (Walk_ok A B xs ss t s a n c q f u P0 E K W ⟨hT.below (Nat.le_refl _) hW, hL.below hW, hA, hr, hl2⟩ h1 hP hE hK).mono ?_
        rintro e w' ⟨v, rfl, hv, hb⟩
        obtain ⟨a1, c1, rfl, hv2⟩ := hv
        exact ⟨a1, c1, rfl, IfAt.lower ⟨a1, c1, rfl, hv2⟩ (Nat.zero_le _), hb⟩
      · refine (oWalk_ok t s a n c ss b 0 lc xs q f u P0 E K W (hT.below (Nat.le_refl _) hW) hr hx hxi hl2 h1 hP hE hK).mono ?_
        rintro e w' ⟨v, rfl, hv, hb⟩
        obtain ⟨a1, c1, rfl, hv2⟩ := hv
        exact ⟨a1, c1, rfl, IfAt.lower ⟨a1, c1, rfl, hv2⟩ (Nat.zero_le _), hb⟩
    · have h1 : wlk s q f u = false := by simpa using h1
      refine ⟨4, [], by simp, fun A B W hW hA => ?_, fun b lc W hW hx => ?_⟩
      · refine (Walk_range A B xs ss t s a n c q f u W ⟨hT.below (Nat.le_refl _) hW, hL.below hW, hA, hr, hl2⟩ h1).mono ?_
        rintro e w' ⟨rfl, hb⟩
        exact ⟨none, 0, rfl, ifAt_nil _, hb⟩
      · refine (oWalk_range t s a n c ss _ _ lc q f u W (hT.below (Nat.le_refl _) hW) hr hl2 h1).mono ?_
        rintro e w' ⟨rfl, hb⟩
        exact ⟨none, 0, rfl, ifAt_nil _, hb⟩
  · refine ⟨2, [], by simp, fun A B W hW hA => ?_, fun b lc W hW hx => ?_⟩
    · refine (Walk_arg A B xs ss _ t s a n c q f u W (hT.below (Nat.le_refl _) hW) hA hr rfl (by simp; omega)).mono ?_
      rintro e w' ⟨rfl, hb⟩
      exact ⟨none, 0, rfl, ifAt_nil _, hb⟩
    · refine (oWalk_arg t s a n c ss _ _ lc _ q f u W (hT.below (Nat.le_refl _) hW) hr rfl (by rw [beq_eq_false_iff_ne]; omega)).mono ?_
      rintro e w' ⟨rfl, hb⟩
      exact ⟨none, 0, rfl, ifAt_nil _, hb⟩
set_option maxRecDepth 100000 in
set_option maxHeartbeats 4000000 in
theorem objectWalk_any (t s : Int) (a : Option Addr) (n c : Nat) (ss : List ByteArray) (wa : Option Addr) (wc : Nat) (ws : List Int) (m q f u : Int) (w : World) (hT : IsTab w (.slice a n c) ss) (hL : LNums w) (hws : WsA w wa wc ws) (hi : InW ws) :
    Calls Tryd.prog 4 #[hpV t s a n c wa ws.length wc m, .int .i64 q, .int .i64 f, .int .i64 u] w fun e w' => e = .returned (.bool true) ∧ Below w.heap.size w w' := by
  have B0 := hid (below_alloc0 w (hpO t s a n c wa ws.length wc m))
  have R0 := heap_alloc_last w (hpO t s a n c wa ws.length wc m)
  have cw := fun W (h : Below w.heap.size w W) => oworks_any W (hL.below h)
  by_cases h : mdOk t s ss ws.length m = true
  · obtain ⟨hr, s9, _, m0, m9⟩ := md_yes h
    obtain ⟨t0, t1, s0, s1, _⟩ := rgt_yes hr
    obtain ⟨N, hN⟩ := Int.eq_ofNat_of_zero_le (show 0 ≤ 3 + t + t + 2 * s + m by omega)
    have cm := made_yes t s a n c ss wa wc ws m N _ (hT.below (Nat.le_refl _) B0.out) h (hws.below B0.out) hN.symm
    have hl := mdW_len ws N
    have hxi := mdW_in hi N
    generalize mdW ws N = xs at *
    subst hl
    have n0 : ((xs.length : Int) == 0) = false := by rw [beq_eq_false_iff_ne]; omega
    obtain ⟨er, zs, z9, cp, cr⟩ := walk_both t s a n c ss xs m q f u w hT hL hr hxi hN.symm
    have h1 : 1 ≤ xs.length := by omega
    have h2 : xs.length ≤ 16384 := by omega
    clear hT hL hws h hr s9 m0 m9 t0 t1 s0 s1 hN hi
    generalize ws.length = wn at *
    go_enter Tryd.func4, Tryd.ntmps4
    go_wp2_with (go_at_call 7; refine cm.mono ?_)
    rintro e w1 ⟨G, rfl, hx, _, b1⟩
    have R1 := hid (row_below R0 b1)
    have B1 := hid (B0.out.trans (b1.mono B0.out.size))
    have cO := Of_yes G 0 xs.length xs w1 hx h1 h2
    have A2 := hid (made_ar w1 xs hxi h1 h2)
    have M2 := made_below w1 xs
    have X2 := hid (hx.bel M2)
    have R2 := hid (row_below R1.out M2)
    have B2 := hid (B1.out.trans (M2.mono B1.out.size))
    clear cm b1 R0 B0 hx R1 B1 M2 h1 h2 hxi
    generalize made w1 xs = w2 at *
    go_wp2_with (go_at_call 8; refine cO.mono ?_; rintro e w' ⟨rfl, hw⟩; rw [hw]; clear hw)
    have P2 := cp _ _ w2 B2.out A2.out
    have d0 := at_row R2.out 0 rfl
    have d1 := at_row R2.out 1 rfl
    have d2 := at_row R2.out 2 rfl
    clear cO A2 cp
    go_wp2_with (go_at_call 9; refine (onum_any _ _).mono ?_)
    rintro e w' ⟨rfl, rfl⟩
    go_wp2_with (go_at_call 13; refine P2.mono ?_)
    rintro e w3 ⟨a1, c1, rfl, F1, b3⟩
    have R3 := hid (row_below R2.out b3)
    have B3 := hid (B2.out.trans (b3.mono B2.out.size))
    have P3 := cr G xs.length w3 B3.out (X2.out.bel b3)
    have F1 := hid F1
    clear P2 d0 d1 d2 b3 R2 B2 X2 cr
    have d0 := at_row R3.out 0 rfl
    have d1 := at_row R3.out 1 rfl
    have d2 := at_row R3.out 2 rfl
    go_wp2_with (go_at_call 14; refine P3.mono ?_)
    rintro e w4 ⟨a2, c2, rfl, F2, b4⟩
    have B4 := hid (B3.out.trans (b4.mono B3.out.size))
    have F1' := hid (F1.out.below b4)
    have F2 := hid F2
    clear P3 d0 d1 d2 b4 R3 B3 F1
    have he : (er != er) = false := by simp
    have hz : ((zs.length : Int) != (zs.length : Int)) = false := by simp
    go_wp2_with (go_at_call 9; refine (onum_any _ _).mono ?_; rintro e w' ⟨rfl, hw⟩; rw [hw]; clear hw)
    go_loopw [16] (fun i wr => ∃ k : Nat, k ≤ zs.length ∧ i = .int .i64 k ∧ Hid (Below w4.heap.size w4 wr)) (fun i _ => zs.length - (intOf i).toNat)
    case atStart => exact ⟨0, by omega, rfl, hid (Below.refl _ _)⟩
    case round =>
      obtain ⟨k, hk, rfl, HB⟩ := hrel
      by_cases hlt : k < zs.length
      · have hlt' : (k : Int) < zs.length := by omega
        obtain ⟨b1, off1, rfl, hc1⟩ := (F1'.out.below HB.out).cellk k hlt
        obtain ⟨b2, off2, rfl, hc2⟩ := (F2.out.below HB.out).cellk k hlt
        generalize wat zs k = p at *
        have hp : (p != p) = false := by simp
        go_wp2
        go_quiet (fail)
        go_wp2
        go_roundw
        case rel => exact ⟨k + 1, by omega, by go_num, hid (bdrewN HB.out _)⟩
        case measure => simp [intOf]; omega
      · obtain rfl : k = zs.length := by omega
        have B5 := hid (B4.out.trans (HB.out.mono B4.out.size))
        have cw2 := cw _ B5.out
        go_wp2_with (go_at_call 10; refine cw2.mono ?_; rintro e w7 ⟨rfl, b7⟩)
        go_ret
        exact ⟨rfl, B5.out.trans (b7.mono B5.out.size)⟩
  · have cm := made_no t s a n c ss wa ws.length wc m _ (hT.below (Nat.le_refl _) B0.out) (by simpa using h)
    clear hT hL hws h
    generalize ws.length = wn at *
    go_enter Tryd.func4, Tryd.ntmps4
    go_wp2_with (go_at_call 7; refine cm.mono ?_)
    rintro e w1 ⟨rfl, b1⟩
    have B1 := hid (B0.out.trans (b1.mono B0.out.size))
    have cw2 := cw _ B1.out
    clear cm cw b1 R0 B0
    go_wp2_with (first | (go_at_call 8; refine (of_none _).mono ?_; rintro e w' ⟨rfl, rfl⟩) | (go_at_call 10; refine cw2.mono ?_; rintro e w7 ⟨rfl, b7⟩))
    go_ret
    exact ⟨rfl, B1.out.trans (b7.mono B1.out.size)⟩
end Go.Proofs.YtldfmlkjeniemaaDoor
