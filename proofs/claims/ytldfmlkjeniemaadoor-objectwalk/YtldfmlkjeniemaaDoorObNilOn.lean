/- The law ObjectNil. -/
import Derived.Test.YtldfmlkjeniemaaDoorObMadeOn
import Derived.Test.YtldfmlkjeniemaaDoorObWalkT
import Derived.Test.YtldfmlkjeniemaaDoorObStandOn
set_option linter.unusedVariables false
namespace Go.Proofs.YtldfmlkjeniemaaDoor
open Go.RowKit Go.Ly Go.Hd Go.Sh Go.Ob
theorem md_yes {t s m : Int} {ss : List ByteArray} {wn : Nat} (h : mdOk t s ss wn m = true) : rgt t s ss = true ∧ s ≤ 100 ∧ wn ≤ 300 ∧ -3 ≤ m ∧ m ≤ 3 := by simpa [mdOk, and_assoc] using h
set_option maxRecDepth 100000 in
set_option maxHeartbeats 2000000 in
theorem objectNil_any (t s : Int) (a : Option Addr) (n c : Nat) (ss : List ByteArray) (wa : Option Addr) (wc : Nat) (ws : List Int) (m x : Int) (w : World) (hT : IsTab w (.slice a n c) ss) (hL : LNums w) (hws : WsA w wa wc ws) :
    Calls Tryd.prog 6 #[hpV t s a n c wa ws.length wc m, .int .i64 x] w fun e w' => e = .returned (.bool true) ∧ Below w.heap.size w w' := by
  have B0 := hid (below_alloc0 w (hpO t s a n c wa ws.length wc m))
  have R0 := heap_alloc_last w (hpO t s a n c wa ws.length wc m)
  have L0 := hid (hL.below B0.out)
  have cw := fun W (h : Below w.heap.size w W) => oworks_any W (hL.below h)
  by_cases h : mdOk t s ss ws.length m = true
  · obtain ⟨hr, s9, _, m0, m9⟩ := md_yes h
    obtain ⟨t0, t1, s0, s1, _⟩ := rgt_yes hr
    obtain ⟨N, hN⟩ := Int.eq_ofNat_of_zero_le (show 0 ≤ 3 + t + t + 2 * s + m by omega)
    have cm := made_yes t s a n c ss wa wc ws m N _ (hT.below (Nat.le_refl _) B0.out) h (hws.below B0.out) hN.symm
    have n0 : ((N : Int) == 0) = false := by rw [beq_eq_false_iff_ne]; omega
    have cr := fun W => Read_nil none none 0 t s a n c x W (.inl ⟨rfl, rfl⟩)
    have cu := fun P W hf => Put_nil P none 0 t s a n c x 0 0 0 none 0 0 W hf
    have cp := fun W => Place_nil none none 0 t s a n c x 0 W (.inl ⟨rfl, rfl⟩)
    have cl := fun W => Walk_nil none none 0 t s a n c 0 0 1 W (.inl ⟨rfl, rfl⟩)
    clear hT hL hws h hr s9 m0 m9 t0 t1 s0 s1 hN
    generalize ws.length = wn at *
    go_enter Tryd.func6, Tryd.ntmps6
    go_wp2_with (go_at_call 7; refine cm.mono ?_)
    rintro e w1 ⟨G, rfl, _, _, b1⟩
    have R1 := hid (row_below R0 b1)
    have B1 := hid (B0.out.trans (b1.mono B0.out.size))
    have d0 := at_row R1.out 0 rfl
    have d1 := at_row R1.out 1 rfl
    have d2 := at_row R1.out 2 rfl
    clear cm b1 R0 B0 L0
    go_wp2_with (go_at_call 16; refine (cr _).mono ?_)
    rintro e w2 ⟨rfl, b2⟩
    have B2 := hid ((B1.out.trans (b2.mono B1.out.size)).alloc (by have := (B1.out.trans (b2.mono B1.out.size)).size; exact this) (obO 0 0 0 0 (.slice none 0 0)))
    have R2 := hid (row_below (row_below R1.out b2) (below_alloc0 w2 (obO 0 0 0 0 (.slice none 0 0))))
    clear b2 B1 R1 d0 d1 d2 cr
    have hA : (((w2.alloc (obO 0 0 0 0 (.slice none 0 0))).alloc (.cells #[.slice none 0 0] 58))).cell? ⟨(w2.alloc (obO 0 0 0 0 (.slice none 0 0))).heap.size, 0, none⟩ = some (.slice none 0 0) := at_row (heap_alloc_last _ _) 0 rfl
    have b2 := below_alloc0 (w2.alloc (obO 0 0 0 0 (.slice none 0 0))) (.cells #[.slice none 0 0] 58)
    have B3 := hid (B2.out.trans (b2.mono B2.out.size))
    have R3 := hid (row_below R2.out b2)
    have d0 := at_row R2.out 0 rfl
    have d1 := at_row R2.out 1 rfl
    have d2 := at_row R2.out 2 rfl
    have e0 := at_row R3.out 0 rfl
    have e1 := at_row R3.out 1 rfl
    have e2 := at_row R3.out 2 rfl
    have cu2 := cu _ _ (.inr ⟨_, rfl, hA⟩)
    rw [size_alloc] at cu2
    clear b2 hA cu B2 R2
    go_wp2_with (go_at_call 17; refine cu2.mono ?_)
    rintro e w3 ⟨rfl, b3⟩
    have R4 := hid (row_below R3.out b3)
    have B4 := hid (B3.out.trans (b3.mono B3.out.size))
    clear cu2 d0 d1 d2 e0 e1 e2 R3 B3 b3
    have d0 := at_row R4.out 0 rfl
    have d1 := at_row R4.out 1 rfl
    have d2 := at_row R4.out 2 rfl
    go_wp2_with (go_at_call 11; refine (cp _).mono ?_)
    rintro e w5 ⟨rfl, b5⟩
    have R5 := hid (row_below R4.out b5)
    have B5 := hid (B4.out.trans (b5.mono B4.out.size))
    clear cp d0 d1 d2 R4 B4 b5
    have d0 := at_row R5.out 0 rfl
    have d1 := at_row R5.out 1 rfl
    have d2 := at_row R5.out 2 rfl
    go_wp2_with (go_at_call 13; refine (cl _).mono ?_)
    rintro e w6 ⟨rfl, b6⟩
    have B6 := hid (B5.out.trans (b6.mono B5.out.size))
    have cw2 := cw _ B6.out
    clear cl cw d0 d1 d2 R5 B5 b6
    go_wp2_with (first | (go_at_call 9; refine (onum_any _ _).mono ?_; rintro e w' ⟨rfl, rfl⟩) | (go_at_call 10; refine cw2.mono ?_; rintro e w7 ⟨rfl, b7⟩))
    go_ret
    exact ⟨rfl, B6.out.trans (b7.mono B6.out.size)⟩
  · have cm := made_no t s a n c ss wa ws.length wc m _ (hT.below (Nat.le_refl _) B0.out) (by simpa using h)
    clear hT hL hws h
    generalize ws.length = wn at *
    go_enter Tryd.func6, Tryd.ntmps6
    go_wp2_with (go_at_call 7; refine cm.mono ?_)
    rintro e w1 ⟨rfl, b1⟩
    have B1 := hid (B0.out.trans (b1.mono B0.out.size))
    have cw2 := cw _ B1.out
    clear cm cw b1 R0 B0 L0
    go_wp2_with (go_at_call 10; refine cw2.mono ?_; rintro e w7 ⟨rfl, b7⟩)
    go_ret
    exact ⟨rfl, B1.out.trans (b7.mono B1.out.size)⟩
end Go.Proofs.YtldfmlkjeniemaaDoor
/- The law ObjectPlace. -/
set_option linter.unusedVariables false
namespace Go.Proofs.YtldfmlkjeniemaaDoor
open Go.RowKit Go.Ly Go.Hd Go.Sh Go.Ob
theorem of_none (w : World) : Calls Tryd.prog 8 #[.slice none 0 0] w fun e w' => e = .returned (.tuple #[.pointer none, .int .i64 2]) ∧ w' = w := Of_no none 0 0 w (.inl rfl)
set_option maxRecDepth 100000 in
set_option maxHeartbeats 2000000 in
theorem objectPlace_any (t s : Int) (a : Option Addr) (n c : Nat) (ss : List ByteArray) (wa : Option Addr) (wc : Nat) (ws : List Int) (m x f : Int) (w : World) (hT : IsTab w (.slice a n c) ss) (hL : LNums w) (hws : WsA w wa wc ws) (hi : InW ws) :
    Calls Tryd.prog 3 #[hpV t s a n c wa ws.length wc m, .int .i64 x, .int .i64 f] w fun e w' => e = .returned (.bool true) ∧ Below w.heap.size w w' := by
  have B0 := hid (below_alloc0 w (hpO t s a n c wa ws.length wc m))
  have R0 := heap_alloc_last w (hpO t s a n c wa ws.length wc m)
  have cw := fun W (h : Below w.heap.size w W) => oworks_any W (hL.below h)
  by_cases h : mdOk t s ss ws.length m = true
  · obtain ⟨hr, s9, _, m0, m9⟩ := md_yes h
    obtain ⟨t0, t1, s0, s1, _⟩ := rgt_yes hr
    obtain ⟨N, hN⟩ := Int.eq_ofNat_of_zero_le (show 0 ≤ 3 + t + t + 2 * s + m by omega)
    have cm := made_yes t s a n c ss wa wc ws m N _ (hT.below (Nat.le_refl _) B0.out) h (hws.below B0.out) hN.symm
    have hl := mdW_len ws N
    have hxi := mdW_in hi N
    generalize mdW ws N = xs at *
    subst hl
    have n0 : ((xs.length : Int) == 0) = false := by rw [beq_eq_false_iff_ne]; omega
    have ct : ∃ v er, (∀ A B W, Below w.heap.size w W → IsAr W A B xs → Calls Tryd.prog 11 #[.pointer (some ⟨A, 0, none⟩), planV t s a n c, .int .i64 x, .int .i64 f] W fun e w' => e = .returned (.tuple #[.int .i64 v, .int .i64 er]) ∧ Below W.heap.size W w') ∧ (∀ b lc W, Below w.heap.size w W → Ws W b 0 xs → Calls Tryd.prog 12 #[.slice (some ⟨b, 0, none⟩) xs.length lc, planV t s a n c, .int .i64 x, .int .i64 f] W fun e w' => e = .returned (.tuple #[.int .i64 v, .int .i64 er]) ∧ Below W.heap.size W w') := by
      by_cases hm : m = 0
      · have hl : (xs.length : Int) = 3 + t + t + 2 * s := by omega
        obtain ⟨⟨v, er⟩, hv⟩ : ∃ p, plv t s xs ss x f = p := ⟨_, rfl⟩
        exact ⟨v, er, fun A B W hW hA => Place_at A B xs ss t s a n c x f v er W ⟨hT.below (Nat.le_refl _) hW, hL.below hW, hA, hr, hl⟩ (hid hv), fun b lc W hW hx => oPlace_at t s a n c ss b 0 lc xs x f v er W (hT.below (Nat.le_refl _) hW) hr hx hxi hl (hid hv)⟩
      · exact ⟨0, 2, fun A B W hW hA => Place_arg A B xs ss _ t s a n c x f W (hT.below (Nat.le_refl _) hW) hA hr rfl (by simp; omega), fun b lc W hW hx => oPlace_arg t s a n c ss _ _ lc _ x f W (hT.below (Nat.le_refl _) hW) hr rfl (by rw [beq_eq_false_iff_ne]; omega)⟩
    obtain ⟨v, er, cp, cr⟩ := ct
    have h1 : 1 ≤ xs.length := by omega
    have h2 : xs.length ≤ 16384 := by omega
    clear hT hL hws h hr s9 m0 m9 t0 t1 s0 s1 hN hi
    generalize ws.length = wn at *
    go_enter Tryd.func3, Tryd.ntmps3
    go_wp2_with (go_at_call 7; refine cm.mono ?_)
    rintro e w1 ⟨G, rfl, hx, _, b1⟩
    have R1 := hid (row_below R0 b1)
    have B1 := hid (B0.out.trans (b1.mono B0.out.size))
    have cO := Of_yes G 0 xs.length xs w1 hx h1 h2
    have A2 := hid (made_ar w1 xs hxi h1 h2)
    have M2 := made_below w1 xs
    have X2 := hid (hx.bel M2)
    have R2 := hid (row_below R1.out M2)
    have B2 := hid (B1.out.trans (M2.mono B1.out.size))
    clear cm b1 R0 B0 hx R1 B1 M2 h1 h2 hxi
    generalize made w1 xs = w2 at *
    go_wp2_with (go_at_call 8; refine cO.mono ?_; rintro e w' ⟨rfl, hw⟩; rw [hw]; clear hw)
    have P2 := cp _ _ w2 B2.out A2.out
    have d0 := at_row R2.out 0 rfl
    have d1 := at_row R2.out 1 rfl
    have d2 := at_row R2.out 2 rfl
    clear cO A2 cp
    go_wp2_with (go_at_call 9; refine (onum_any _ _).mono ?_)
    rintro e w' ⟨rfl, rfl⟩
    go_wp2_with (go_at_call 11; refine P2.mono ?_)
    rintro e w3 ⟨rfl, b3⟩
    have R3 := hid (row_below R2.out b3)
    have B3 := hid (B2.out.trans (b3.mono B2.out.size))
    have P3 := cr G xs.length w3 B3.out (X2.out.bel b3)
    clear P2 d0 d1 d2 b3 R2 B2 X2 cr
    have d0 := at_row R3.out 0 rfl
    have d1 := at_row R3.out 1 rfl
    have d2 := at_row R3.out 2 rfl
    go_wp2_with (go_at_call 12; refine P3.mono ?_)
    rintro e w4 ⟨rfl, b4⟩
    have B4 := hid (B3.out.trans (b4.mono B3.out.size))
    have cw2 := cw _ B4.out
    clear P3 d0 d1 d2 b4 R3 B3 cw
    have hv : (v == v) = true := by simp
    have he : (er == er) = true := by simp
    go_wp2_with (first | (go_at_call 9; refine (onum_any _ _).mono ?_; rintro e w' ⟨rfl, rfl⟩) | (go_at_call 10; refine cw2.mono ?_; rintro e w7 ⟨rfl, b7⟩))
    go_ret
    exact ⟨rfl, B4.out.trans (b7.mono B4.out.size)⟩
  · have cm := made_no t s a n c ss wa ws.length wc m _ (hT.below (Nat.le_refl _) B0.out) (by simpa using h)
    clear hT hL hws h
    generalize ws.length = wn at *
    go_enter Tryd.func3, Tryd.ntmps3
    go_wp2_with (go_at_call 7; refine cm.mono ?_)
    rintro e w1 ⟨rfl, b1⟩
    have B1 := hid (B0.out.trans (b1.mono B0.out.size))
    have cw2 := cw _ B1.out
    clear cm cw b1 R0 B0
    go_wp2_with (first | (go_at_call 8; refine (of_none _).mono ?_; rintro e w' ⟨rfl, rfl⟩) | (go_at_call 10; refine cw2.mono ?_; rintro e w7 ⟨rfl, b7⟩))
    go_ret
    exact ⟨rfl, B1.out.trans (b7.mono B1.out.size)⟩
end Go.Proofs.YtldfmlkjeniemaaDoor
