/- The law ObjectNil. -/
import Derived.Test.YtldfmlkjeniemaaDoorObMadeOn
import Derived.Test.YtldfmlkjeniemaaDoorObPlaceTOn
import Derived.Test.YtldfmlkjeniemaaDoorObStandOn
import Derived.Test.YtldfmlkjeniemaaDoorObMathOn
import Derived.Test.YtldfmlkjeniemaaDoorObReadT
import Derived.Test.YtldfmlkjeniemaaDoorObToOn
import Derived.Test.YtldfmlkjeniemaaDoorObRead
set_option linter.unusedVariables false
namespace Go.Proofs.YtldfmlkjeniemaaDoor
open Go.RowKit Go.Ly Go.Hd Go.Sh Go.Ob
theorem md_yes {t s m : Int} {ss : List ByteArray} {wn : Nat} (h : mdOk t s ss wn m = true) : rgt t s ss = true ∧ s ≤ 100 ∧ wn ≤ 300 ∧ -3 ≤ m ∧ m ≤ 3 := by simpa [mdOk, and_assoc] using h
set_option maxRecDepth 100000 in
set_option maxHeartbeats 2000000 in
theorem objectNil_any (t s : Int) (a : Option Addr) (n c : Nat) (ss : List ByteArray) (wa : Option Addr) (wc : Nat) (ws : List Int) (m x : Int) (w : World) (hT : IsTab w (.slice a n c) ss) (hL : LNums w) (hws : WsA w wa wc ws) :
    Calls Tryd.prog 6 #[hpV t s a n c wa ws.length wc m, .int .i64 x] w fun e w' => e = .returned (.bool true) ∧ Below w.heap.size w w' := by
  have B0 := hid (below_alloc0 w (hpO t s a n c wa ws.length wc m))
  have R0 := heap_alloc_last w (hpO t s a n c wa ws.length wc m)
  have L0 := hid (hL.below B0.out)
  have cw := fun W (h : Below w.heap.size w W) => oworks_any W (hL.below h)
  by_cases h : mdOk t s ss ws.length m = true
  · obtain ⟨hr, s9, _, m0, m9⟩ := md_yes h
    obtain ⟨t0, t1, s0, s1, _⟩ := rgt_yes hr
    obtain ⟨N, hN⟩ := Int.eq_ofNat_of_zero_le (show 0 ≤ 3 + t + t + 2 * s + m by omega)
    have cm := made_yes t s a n c ss wa wc ws m N _ (hT.below (Nat.le_refl _) B0.out) h (hws.below B0.out) hN.symm
    have n0 : ((N : Int) == 0) = false := by rw [beq_eq_false_iff_ne]; omega
    have cr := fun W => Read_nil none none 0 t s a n c x W (.inl ⟨rfl, rfl⟩)
    have cu := fun P W hf => Put_nil P none 0 t s a n c x 0 0 0 none 0 0 W hf
    have cp := fun W => Place_nil none none 0 t s a n c x 0 W (.inl ⟨rfl, rfl⟩)
    have cl := fun W => Walk_nil none none 0 t s a n c 0 0 1 W (.inl ⟨rfl, rfl⟩)
    clear hT hL hws h hr s9 m0 m9 t0 t1 s0 s1 hN
    generalize ws.length = wn at *
    go_enter Tryd.func6, Tryd.ntmps6
    go_wp2_with (go_at_call 7; refine cm.mono ?_)
    rintro e w1 ⟨G, rfl, _, _, b1⟩
    have R1 := hid (row_below R0 b1)
    have B1 := hid (B0.out.trans (b1.mono B0.out.size))
    have d0 := at_row R1.out 0 rfl
    have d1 := at_row R1.out 1 rfl
    have d2 := at_row R1.out 2 rfl
    clear cm b1 R0 B0 L0
    go_wp2_with (go_at_call 16; refine (cr _).mono ?_)
    rintro e w2 ⟨rfl, b2⟩
    have B2 := hid ((B1.out.trans (b2.mono B1.out.size)).alloc (by have := (B1.out.trans (b2.mono B1.out.size)).size; exact this) (obO 0 0 0 0 (.slice none 0 0)))
    have R2 := hid (row_below (row_below R1.out b2) (below_alloc0 w2 (obO 0 0 0 0 (.slice none 0 0))))
    clear b2 B1 R1 d0 d1 d2 cr
    have hA : (((w2.alloc (obO 0 0 0 0 (.slice none 0 0))).alloc (.cells #[.slice none 0 0] 58))).cell? ⟨(w2.alloc (obO 0 0 0 0 (.slice none 0 0))).heap.size, 0, none⟩ = some (.slice none 0 0) := at_row (heap_alloc_last _ _) 0 rfl
    have b2 := below_alloc0 (w2.alloc (obO 0 0 0 0 (.slice none 0 0))) (.cells #[.slice none 0 0] 58)
    have B3 := hid (B2.out.trans (b2.mono B2.out.size))
    have R3 := hid (row_below R2.out b2)
    have d0 := at_row R2.out 0 rfl
    have d1 := at_row R2.out 1 rfl
    have d2 := at_row R2.out 2 rfl
    have e0 := at_row R3.out 0 rfl
    have e1 := at_row R3.out 1 rfl
    have e2 := at_row R3.out 2 rfl
    have cu2 := cu _ _ (.inr ⟨_, rfl, hA⟩)
    rw [size_alloc] at cu2
    clear b2 hA cu B2 R2
    go_wp2_with (go_at_call 17; refine cu2.mono ?_)
    rintro e w3 ⟨rfl, b3⟩
    have R4 := hid (row_below R3.out b3)
    have B4 := hid (B3.out.trans (b3.mono B3.out.size))
    clear cu2 d0 d1 d2 e0 e1 e2 R3 B3 b3
    have d0 := at_row R4.out 0 rfl
    have d1 := at_row R4.out 1 rfl
    have d2 := at_row R4.out 2 rfl
    go_wp2_with (go_at_call 11; refine (cp _).mono ?_)
    rintro e w5 ⟨rfl, b5⟩
    have R5 := hid (row_below R4.out b5)
    have B5 := hid (B4.out.trans (b5.mono B4.out.size))
    clear cp d0 d1 d2 R4 B4 b5
    have d0 := at_row R5.out 0 rfl
    have d1 := at_row R5.out 1 rfl
    have d2 := at_row R5.out 2 rfl
    go_wp2_with (go_at_call 13; refine (cl _).mono ?_)
    rintro e w6 ⟨rfl, b6⟩
    have B6 := hid (B5.out.trans (b6.mono B5.out.size))
    have cw2 := cw _ B6.out
    clear cl cw d0 d1 d2 R5 B5 b6
    go_wp2_with (first | (go_at_call 9; refine (onum_any _ _).mono ?_; rintro e w' ⟨rfl, rfl⟩) | (go_at_call 10; refine cw2.mono ?_; rintro e w7 ⟨rfl, b7⟩))
    go_ret
    exact ⟨rfl, B6.out.trans (b7.mono B6.out.size)⟩
  · have cm := made_no t s a n c ss wa ws.length wc m _ (hT.below (Nat.le_refl _) B0.out) (by simpa using h)
    clear hT hL hws h
    generalize ws.length = wn at *
    go_enter Tryd.func6, Tryd.ntmps6
    go_wp2_with (go_at_call 7; refine cm.mono ?_)
    rintro e w1 ⟨rfl, b1⟩
    have B1 := hid (B0.out.trans (b1.mono B0.out.size))
    have cw2 := cw _ B1.out
    clear cm cw b1 R0 B0 L0
    go_wp2_with (go_at_call 10; refine cw2.mono ?_; rintro e w7 ⟨rfl, b7⟩)
    go_ret
    exact ⟨rfl, B1.out.trans (b7.mono B1.out.size)⟩
end Go.Proofs.YtldfmlkjeniemaaDoor
/- The law ObjectPlace. -/
set_option linter.unusedVariables false
namespace Go.Proofs.YtldfmlkjeniemaaDoor
open Go.RowKit Go.Ly Go.Hd Go.Sh Go.Ob
theorem of_none (w : World) : Calls Tryd.prog 8 #[.slice none 0 0] w fun e w' => e = .returned (.tuple #[.pointer none, .int .i64 2]) ∧ w' = w := Of_no none 0 0 w (.inl rfl)
set_option maxRecDepth 100000 in
set_option maxHeartbeats 2000000 in
theorem objectPlace_any (t s : Int) (a : Option Addr) (n c : Nat) (ss : List ByteArray) (wa : Option Addr) (wc : Nat) (ws : List Int) (m x f : Int) (w : World) (hT : IsTab w (.slice a n c) ss) (hL : LNums w) (hws : WsA w wa wc ws) (hi : InW ws) :
    Calls Tryd.prog 3 #[hpV t s a n c wa ws.length wc m, .int .i64 x, .int .i64 f] w fun e w' => e = .returned (.bool true) ∧ Below w.heap.size w w' := by
  have B0 := hid (below_alloc0 w (hpO t s a n c wa ws.length wc m))
  have R0 := heap_alloc_last w (hpO t s a n c wa ws.length wc m)
  have cw := fun W (h : Below w.heap.size w W) => oworks_any W (hL.below h)
  by_cases h : mdOk t s ss ws.length m = true
  · obtain ⟨hr, s9, _, m0, m9⟩ := md_yes h
    obtain ⟨t0, t1, s0, s1, _⟩ := rgt_yes hr
    obtain ⟨N, hN⟩ := Int.eq_ofNat_of_zero_le (show 0 ≤ 3 + t + t + 2 * s + m by omega)
    have cm := made_yes t s a n c ss wa wc ws m N _ (hT.below (Nat.le_refl _) B0.out) h (hws.below B0.out) hN.symm
    have hl := mdW_len ws N
    have hxi := mdW_in hi N
    generalize mdW ws N = xs at *
    subst hl
    have n0 : ((xs.length : Int) == 0) = false := by rw [beq_eq_false_iff_ne]; omega
    have ct : ∃ v er, (∀ A B W, Below w.heap.size w W → IsAr W A B xs → Calls Tryd.prog 11 #[.pointer (some ⟨A, 0, none⟩), planV t s a n c, .int .i64 x, .int .i64 f] W fun e w' => e = .returned (.tuple #[.int .i64 v, .int .i64 er]) ∧ Below W.heap.size W w') ∧ (∀ b lc W, Below w.heap.size w W → Ws W b 0 xs → Calls Tryd.prog 12 #[.slice (some ⟨b, 0, none⟩) xs.length lc, planV t s a n c, .int .i64 x, .int .i64 f] W fun e w' => e = .returned (.tuple #[.int .i64 v, .int .i64 er]) ∧ Below W.heap.size W w') := by
      by_cases hm : m = 0
      · have hl : (xs.length : Int) = 3 + t + t + 2 * s := by omega
        obtain ⟨⟨v, er⟩, hv⟩ : ∃ p, plv t s xs ss x f = p := ⟨_, rfl⟩
        exact ⟨v, er, fun A B W hW hA => Place_at A B xs ss t s a n c x f v er W ⟨hT.below (Nat.le_refl _) hW, hL.below hW, hA, hr, hl⟩ (hid hv), fun b lc W hW hx => oPlace_at t s a n c ss b 0 lc xs x f v er W (hT.below (Nat.le_refl _) hW) hr hx hxi hl (hid hv)⟩
      · exact ⟨0, 2, fun A B W hW hA => Place_arg A B xs ss _ t s a n c x f W (hT.below (Nat.le_refl _) hW) hA hr rfl (by simp; omega), fun b lc W hW hx => oPlace_arg t s a n c ss _ _ lc _ x f W (hT.below (Nat.le_refl _) hW) hr rfl (by rw [beq_eq_false_iff_ne]; omega)⟩
    obtain ⟨v, er, cp, cr⟩ := ct
    have h1 : 1 ≤ xs.length := by omega
    have h2 : xs.length ≤ 16384 := by omega
    clear hT hL hws h hr s9 m0 m9 t0 t1 s0 s1 hN hi
    generalize ws.length = wn at *
    go_enter Tryd.func3, Tryd.ntmps3
    go_wp2_with (go_at_call 7; refine cm.mono ?_)
    rintro e w1 ⟨G, rfl, hx, _, b1⟩
    have R1 := hid (row_below R0 b1)
    have B1 := hid (B0.out.trans (b1.mono B0.out.size))
    have cO := Of_yes G 0 xs.length xs w1 hx h1 h2
    have A2 := hid (made_ar w1 xs hxi h1 h2)
    have M2 := made_below w1 xs
    have X2 := hid (hx.bel M2)
    have R2 := hid (row_below R1.out M2)
    have B2 := hid (B1.out.trans (M2.mono B1.out.size))
    clear cm b1 R0 B0 hx R1 B1 M2 h1 h2 hxi
    generalize made w1 xs = w2 at *
    go_wp2_with (go_at_call 8; refine cO.mono ?_; rintro e w' ⟨rfl, hw⟩; rw [hw]; clear hw)
    have P2 := cp _ _ w2 B2.out A2.out
    have d0 := at_row R2.out 0 rfl
    have d1 := at_row R2.out 1 rfl
    have d2 := at_row R2.out 2 rfl
    clear cO A2 cp
    go_wp2_with (go_at_call 9; refine (onum_any _ _).mono ?_)
    rintro e w' ⟨rfl, rfl⟩
    go_wp2_with (go_at_call 11; refine P2.mono ?_)
    rintro e w3 ⟨rfl, b3⟩
    have R3 := hid (row_below R2.out b3)
    have B3 := hid (B2.out.trans (b3.mono B2.out.size))
    have P3 := cr G xs.length w3 B3.out (X2.out.bel b3)
    clear P2 d0 d1 d2 b3 R2 B2 X2 cr
    have d0 := at_row R3.out 0 rfl
    have d1 := at_row R3.out 1 rfl
    have d2 := at_row R3.out 2 rfl
    go_wp2_with (go_at_call 12; refine P3.mono ?_)
    rintro e w4 ⟨rfl, b4⟩
    have B4 := hid (B3.out.trans (b4.mono B3.out.size))
    have cw2 := cw _ B4.out
    clear P3 d0 d1 d2 b4 R3 B3 cw
    have hv : (v == v) = true := by simp
    have he : (er == er) = true := by simp
    go_wp2_with (first | (go_at_call 9; refine (onum_any _ _).mono ?_; rintro e w' ⟨rfl, rfl⟩) | (go_at_call 10; refine cw2.mono ?_; rintro e w7 ⟨rfl, b7⟩))
    go_ret
    exact ⟨rfl, B4.out.trans (b7.mono B4.out.size)⟩
  · have cm := made_no t s a n c ss wa ws.length wc m _ (hT.below (Nat.le_refl _) B0.out) (by simpa using h)
    clear hT hL hws h
    generalize ws.length = wn at *
    go_enter Tryd.func3, Tryd.ntmps3
    go_wp2_with (go_at_call 7; refine cm.mono ?_)
    rintro e w1 ⟨rfl, b1⟩
    have B1 := hid (B0.out.trans (b1.mono B0.out.size))
    have cw2 := cw _ B1.out
    clear cm cw b1 R0 B0
    go_wp2_with (first | (go_at_call 8; refine (of_none _).mono ?_; rintro e w' ⟨rfl, rfl⟩) | (go_at_call 10; refine cw2.mono ?_; rintro e w7 ⟨rfl, b7⟩))
    go_ret
    exact ⟨rfl, B1.out.trans (b7.mono B1.out.size)⟩
end Go.Proofs.YtldfmlkjeniemaaDoor
/- What the law ObjectApart asks of: the walk over a whole space, the object at each place that it tells, the walk behind one. -/
set_option linter.unusedVariables false
namespace Go.Proofs.YtldfmlkjeniemaaDoor
open Go.RowKit Go.Ly Go.Hd Go.Sh Go.Ob
theorem rBase6_q (t s : Int) (a : Option Addr) (n c : Nat) (q : Int) (w : World) (hq : q = 0 ∨ q = 1) (t0 : 1 ≤ t) (t1 : t ≤ 8) (s0 : 32 ≤ s) (s1 : s ≤ 4096) :
    Calls Tryd.prog 15 #[planV t s a n c, .int .i64 q] w fun e w' => e = .returned (.int .i64 (3 + t + t + q * s)) ∧ Below w.heap.size w w' := by
  rcases hq with rfl | rfl
  · rw [show 3 + t + t + 0 * s = 3 + t + t by omega]
    exact rBase6_0 t s a n c w t0 t1 s0 s1
  · rw [show 3 + t + t + 1 * s = 3 + t + t + s by omega]
    exact rBase6_1 t s a n c w t0 t1 s0 s1
/-- A space, its objects: where it begins and ends, how often the walk goes on. -/
structure ApSp (t s q : Int) (ss : List ByteArray) (xs zs : List Int) (P0 E K : Nat) : Prop where
  sp : q = 0 ∨ q = 1
  base : 3 + t + t + q * s = (P0 : Int)
  stop : 3 + t + t + q * s + s = (E : Int)
  ends : Go.Ob.Ends (osz xs ss (E : Int)) P0 (E : Int) K
  tells : zs = tol (osz xs ss (E : Int)) P0 K
theorem apart_walk (t s : Int) (a : Option Addr) (n c : Nat) (ss : List ByteArray) (xs : List Int) (m q : Int) (w : World) (hT : IsTab w (.slice a n c) ss) (hL : LNums w) (hr : rgt t s ss = true) (hl : (xs.length : Int) = 3 + t + t + 2 * s + m) :
    ∃ er zs, zs.length ≤ 9000 ∧ (er = 0 → m = 0 ∧ ∃ P0 E K, ApSp t s q ss xs zs P0 E K) ∧
      ∀ A B W, Below w.heap.size w W → IsAr W A B xs → Calls Tryd.prog 13 #[.pointer (some ⟨A, 0, none⟩), planV t s a n c, .int .i64 q, .int .i64 0, .int .i64 s] W fun e w' => ∃ a1 c1, e = .returned (.tuple #[.slice a1 zs.length c1, .int .i64 er]) ∧ IfAt 0 w' (.slice a1 zs.length c1) zs ∧ Below W.heap.size W w' := by
  obtain ⟨t0, t1, s0, s1, _⟩ := rgt_yes hr
  have hnil : ∀ W, IfAt 0 W (.slice none 0 0) [] := fun W => ⟨none, 0, rfl, .inl rfl⟩
  by_cases hm : m = 0
  · have hl2 : (xs.length : Int) = 3 + t + t + 2 * s := by omega
    by_cases h1 : wlk s q 0 s = true
    · have hq : q = 0 ∨ q = 1 := by have : (q = 0 ∨ q = 1) ∧ _ := (by simpa [wlk, and_assoc] using h1); exact this.1
      have hqs : 0 ≤ q * s ∧ q * s ≤ s := by rcases hq with rfl | rfl <;> omega
      obtain ⟨P0, hP⟩ := Int.eq_ofNat_of_zero_le (show 0 ≤ 3 + t + t + q * s by omega)
      obtain ⟨E, hE⟩ := Int.eq_ofNat_of_zero_le (show 0 ≤ 3 + t + t + q * s + s by omega)
      obtain ⟨K, hK⟩ := ends_exist (osz xs ss (E : Int)) P0 (3 + t + t + q * s + s) (by omega)
      have hKl := hK.le (by omega)
      have htl := tol_le (osz xs ss (E : Int)) (P0 : Int) K
      refine ⟨0, tol (osz xs ss (E : Int)) P0 K, by omega, fun _ => ⟨hm, P0, E, K, hq, hP, hE, by rw [hE] at hK; exact hK, rfl⟩, fun A B W hW hA => ?_⟩
      refine (Walk_ok A B xs ss t s a n c q 0 s P0 E K W ⟨hT.below (Nat.le_refl _) hW, hL.below hW, hA, hr, hl2⟩ h1 (by omega) hE hK).mono ?_
      rintro e w' ⟨v, rfl, hv, hb⟩
      obtain ⟨a1, c1, rfl, hv2⟩ := hv
      exact ⟨a1, c1, rfl, IfAt.lower ⟨a1, c1, rfl, hv2⟩ (Nat.zero_le _), hb⟩
    · have h1 : wlk s q 0 s = false := by simpa using h1
      refine ⟨4, [], by simp, fun h => absurd h (by decide), fun A B W hW hA => ?_⟩
      refine (Walk_range A B xs ss t s a n c q 0 s W ⟨hT.below (Nat.le_refl _) hW, hL.below hW, hA, hr, hl2⟩ h1).mono ?_
      rintro e w' ⟨rfl, hb⟩
      exact ⟨none, 0, rfl, hnil _, hb⟩
  · refine ⟨2, [], by simp, fun h => absurd h (by decide), fun A B W hW hA => ?_⟩
    refine (Walk_arg A B xs ss _ t s a n c q 0 s W (hT.below (Nat.le_refl _) hW) hA hr rfl (by simp; omega)).mono ?_
    rintro e w' ⟨rfl, hb⟩
    exact ⟨none, 0, rfl, hnil _, hb⟩
theorem osz_apart (xs : List Int) (ss : List ByteArray) (E : Int) (p : Int) : osz xs ss E p = 0 ∨ (2 ≤ osz xs ss E p ∧ osz xs ss E p ≤ E - p) := by
  rcases osz_cases xs ss E p with h | h
  · exact .inl h
  · exact .inr ⟨h.1, h.2.2.1⟩
/-- Where the object ends ahead of which so many are told. -/
def enS (ss : List ByteArray) (xs zs : List Int) (P0 E : Nat) (k : Nat) : Int := enA (osz xs ss (E : Int)) P0 zs k
theorem enS_zero (ss : List ByteArray) (xs zs : List Int) (P0 E : Nat) : enS ss xs zs P0 E 0 = P0 := rfl
theorem apart_round (t s : Int) (a : Option Addr) (n c : Nat) (ss : List ByteArray) (xs zs : List Int) (q : Int) (P0 E K : Nat) (w : World) (hT : IsTab w (.slice a n c) ss) (hL : LNums w) (hr : rgt t s ss = true) (hl : (xs.length : Int) = 3 + t + t + 2 * s) (h : ApSp t s q ss xs zs P0 E K) (k : Nat) (hk : k < zs.length) :
    ∃ p z : Nat, ∃ sh mk_ lk : Int, ∃ fs ms : List Int, wat zs k = (p : Int) ∧ enS ss xs zs P0 E k ≤ (p : Int) ∧ enS ss xs zs P0 E (k + 1) = (p : Int) + 2 + z ∧ (p : Int) + 2 + z ≤ (E : Int) ∧ (P0 : Int) ≤ (p : Int) ∧ z ≤ 8 ∧ ms.length ≤ 9000 ∧
      zs.length = k + 1 + ms.length ∧ wat zs (k + 1) = wat ms 0 ∧
      (∀ A B W, Below w.heap.size w W → IsAr W A B xs → Calls Tryd.prog 16 #[.pointer (some ⟨A, 0, none⟩), planV t s a n c, .int .i64 (p : Int)] W fun e w' => ∃ a1 c1, e = .returned (.tuple #[obV p sh mk_ lk (.slice a1 z c1), .int .i64 0]) ∧ FsAt W.heap.size w' (.slice a1 z c1) fs ∧ Below W.heap.size W w') ∧
      (∀ A B W, Below w.heap.size w W → IsAr W A B xs → Calls Tryd.prog 13 #[.pointer (some ⟨A, 0, none⟩), planV t s a n c, .int .i64 q, .int .i64 ((p : Int) + 2 + z - P0), .int .i64 s] W fun e w' => ∃ a1 c1, e = .returned (.tuple #[.slice a1 ms.length c1, .int .i64 0]) ∧ IfAt 0 w' (.slice a1 ms.length c1) ms ∧ Below W.heap.size W w') := by
  obtain ⟨t0, t1, s0, s1, _⟩ := rgt_yes hr
  obtain ⟨hq, hP, hE, hK, rfl⟩ := h
  have hqs : (q = 0 ∧ q * s = 0) ∨ (q = 1 ∧ q * s = s) := by rcases hq with rfl | rfl <;> omega
  obtain ⟨h2, h3, h4, h5, L, hL2, hn, hf⟩ := apart_at hK (osz_apart xs ss E) k hk
  rw [enA_succ] at h4 hL2 hn hf
  have hen : enS ss xs (tol (osz xs ss (E : Int)) P0 K) P0 E (k + 1) = _ := enA_succ _ _ _ _
  have hen0 : enS ss xs (tol (osz xs ss (E : Int)) P0 K) P0 E k ≤ (tol (osz xs ss (E : Int)) P0 K).getD k 0 := h3
  have hw : wat (tol (osz xs ss (E : Int)) P0 K) k = (tol (osz xs ss (E : Int)) P0 K).getD k 0 := rfl
  have hw1 : wat (tol (osz xs ss (E : Int)) P0 K) (k + 1) = (tol (osz xs ss (E : Int)) P0 K).getD (k + 1) 0 := rfl
  rw [hw, hw1, hen]
  clear hw hw1 hen h3
  obtain ⟨p, hp⟩ := Int.eq_ofNat_of_zero_le (show 0 ≤ (tol (osz xs ss (E : Int)) P0 K).getD k 0 by omega)
  generalize enS ss xs (tol (osz xs ss (E : Int)) P0 K) P0 E k = e0 at *
  rw [hp] at h2 h4 h5 hL2 hn hf hen0 ⊢
  rcases osz_cases xs ss E p with h0 | ⟨g2, g9, g8, hH, _⟩
  · rw [h0] at h2; omega
  have hH : isH (wat xs p) = true := hH
  obtain ⟨z, hz⟩ := Int.eq_ofNat_of_zero_le (show 0 ≤ osz xs ss E p - 2 by omega)
  have hspc : spc t s p = true := by
    rcases hqs with ⟨_, hqs⟩ | ⟨_, hqs⟩ <;> simp [spc] <;> omega
  have heo : eo t s p = E := by rw [eo_in (q := q) s0 (by omega) (by omega)]; exact hE
  obtain ⟨sh, mk_, ho⟩ : ∃ sh mk_, ofv (wat xs p) = (sh, mk_, true) := by unfold ofv; rw [if_pos hH]; exact ⟨_, _, rfl⟩
  have he : osz xs ss E p = (z : Int) + 2 := by omega
  rw [he] at h4 hL2 hn hf ⊢
  have hKl := hL2.le (by omega)
  have htl := tol_le (osz xs ss (E : Int)) ((p : Int) + (↑z + 2)) L
  refine ⟨p, z, sh, mk_, wat xs (p + 1), flw xs p z, tol (osz xs ss E) ((p : Int) + (↑z + 2)) L, rfl, hen0, by omega, by omega, h5, by omega, by omega, hn, by exact hf, fun A B W hW hA => ?_, fun A B W hW hA => ?_⟩
  · refine (Read_ok A B xs ss t s a n c p z sh mk_ _ W ⟨hT.below (Nat.le_refl _) hW, hL.below hW, hA, hr, hl⟩ hspc (hid (by rw [heo]; exact he)) (hid ho) (hid rfl)).mono ?_
    rintro e w' ⟨v, rfl, hv, hb⟩
    obtain ⟨a1, c1, rfl, hv2⟩ := hv
    rw [flw_len] at *
    refine ⟨a1, c1, rfl, ⟨a1, c1, by rw [flw_len], hv2⟩, hb⟩
  · obtain ⟨P1, hP1⟩ := Int.eq_ofNat_of_zero_le (show 0 ≤ (p : Int) + (↑z + 2) by omega)
    rw [hP1] at hL2 ⊢
    refine (Walk_ok A B xs ss t s a n c q ((p : Int) + 2 + z - P0) s P1 E L W ⟨hT.below (Nat.le_refl _) hW, hL.below hW, hA, hr, hl⟩ (by simp [wlk]; omega) (by omega) hE (by rw [hE]; exact hL2)).mono ?_
    rintro e w' ⟨v, rfl, hv, hb⟩
    obtain ⟨a1, c1, rfl, hv2⟩ := hv
    exact ⟨a1, c1, rfl, IfAt.lower ⟨a1, c1, rfl, hv2⟩ (Nat.zero_le _), hb⟩
/-- The last object ends with its space or ahead of that. -/
theorem apart_end (t s : Int) (ss : List ByteArray) (xs zs : List Int) (q : Int) (P0 E K : Nat) (h : ApSp t s q ss xs zs P0 E K) (s0 : 32 ≤ s) : enS ss xs zs P0 E zs.length ≤ (E : Int) := by
  obtain ⟨hq, hP, hE, hK, rfl⟩ := h
  cases hc : (tol (osz xs ss (E : Int)) P0 K).length with
  | zero => rw [enS_zero]; omega
  | succ k => exact (apart_at hK (osz_apart xs ss E) k (by omega)).2.2.1
end Go.Proofs.YtldfmlkjeniemaaDoor
/- An object's box, made behind a call that answers the object, or ahead of it. -/
set_option linter.unusedVariables false
namespace Go.Proofs.YtldfmlkjeniemaaDoor
open Go.RowKit Go.Ly Go.Hd Go.Sh Go.Ob
theorem fsAt_nil (lo : Nat) (W : World) : FsAt lo W (.slice none 0 0) [] := ⟨none, 0, rfl, .inl rfl⟩
/-- An object's box, made behind the call or ahead of it. -/
structure OnW (wr : World) (g : Nat) (O : Obj) (v : Value) (zs : List Int) (W : World) : Prop where
  row : W.heap[g]? = some O
  bel : Below wr.heap.size wr W
  fs : FsAt 0 W v zs
theorem onW_a {wr w5 : World} {at_ sh mk_ lk : Int} {v : Value} {zs : List Int} (b : Below wr.drew.heap.size wr.drew w5) (f : FsAt wr.drew.heap.size w5 v zs) : OnW wr w5.heap.size (obO at_ sh mk_ lk v) v zs (w5.alloc (obO at_ sh mk_ lk v)) :=
  have b' := ((Below.refl _ wr).drew).trans b
  ⟨heap_alloc_last _ _, b'.alloc b'.size _, (f.below (below_alloc0 w5 _)).lower (Nat.zero_le _)⟩
theorem onW_b {wr w5 : World} {at_ sh mk_ lk : Int} {v : Value} {zs : List Int} (b : Below (wr.alloc (obO 0 0 0 0 (.slice none 0 0))).drew.heap.size (wr.alloc (obO 0 0 0 0 (.slice none 0 0))).drew w5) (f : FsAt (wr.alloc (obO 0 0 0 0 (.slice none 0 0))).drew.heap.size w5 v zs) :
    OnW wr wr.heap.size (obO at_ sh mk_ lk v) v zs (((((w5.setCell ⟨wr.heap.size, 0, none⟩ (.int .i64 at_)).setCell ⟨wr.heap.size, 1, none⟩ (.int .i64 sh)).setCell ⟨wr.heap.size, 2, none⟩ (.int .i64 mk_)).setCell ⟨wr.heap.size, 3, none⟩ (.int .u64 lk)).setCell ⟨wr.heap.size, 4, none⟩ v) := by
  have f' : FsAt (wr.alloc (obO 0 0 0 0 (.slice none 0 0))).heap.size w5 v zs := f
  have b0 : Below (wr.alloc (obO 0 0 0 0 (.slice none 0 0))).heap.size (wr.alloc (obO 0 0 0 0 (.slice none 0 0))) w5 := ((Below.refl _ _).drew).trans b
  have b' : Below wr.heap.size wr w5 := (below_alloc0 wr _).trans (b0.mono (by simp))
  have hg : wr.heap.size < (wr.alloc (obO 0 0 0 0 (.slice none 0 0))).heap.size := by simp
  exact ⟨set5_row (row_below (heap_alloc_last wr _) b0) _ _ _ _ _, five_set b' (Nat.le_refl _) _ _ _ _ _, (((((f'.set hg 0 _).set hg 1 _).set hg 2 _).set hg 3 _).set hg 4 _).lower (Nat.zero_le _)⟩
end Go.Proofs.YtldfmlkjeniemaaDoor
