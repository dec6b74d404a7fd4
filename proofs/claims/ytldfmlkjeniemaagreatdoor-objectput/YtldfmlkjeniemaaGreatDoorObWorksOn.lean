/- The chapter's rows, as the laws of layer 7 ask them. -/
import Derived.Test.YtldfmlkjeniemaaGreatDoorWdRefOn
import Derived.Test.YtldfmlkjeniemaaGreatDoorObWalkNOn
import Derived.Test.YtldfmlkjeniemaaGreatDoorObReadTOn
import Derived.Test.YtldfmlkjeniemaaGreatDoorObPutTOn
import Derived.Test.YtldfmlkjeniemaaGreatDoorArSameOn
import Derived.Test.YtldfmlkjeniemaaGreatDoorLyRefOn
set_option linter.unusedVariables false
namespace Go.Proofs.YtldfmlkjeniemaaGreatDoor
open Go.RowKit Go.Ly Go.Hd Go.Sh Go.Ob
theorem onum_any (n : Int) (w : World) : Calls Tryz.prog 8 #[.int .i64 n] w fun e w' => e = .returned (.int .i64 n) ∧ w' = w := by
  go_enter Tryz.func8, Tryz.ntmps8
  go_wp2
  go_ret
  exact ⟨rfl, rfl⟩
/-- The chapter's table, its arena's words at the start, and with the chapter's object. -/
def chap7 : List ByteArray := [⟨#[112]⟩, ⟨#[115, 115]⟩]
def cw0 : List Int := [0, 524294, 0, 0, 0, 6] ++ List.replicate 63 0
def cw1 : List Int := putK cw0 5 [wd 1 0, 0, 4, 12] 4
theorem cw0_is : ∀ i, i < 69 → wat cw0 i = stf 524294 5 (at' chap7 0) i := by decide +kernel
theorem cw0_bd : InW cw0 := by
  intro x hx
  have : (cw0.all fun x => decide (0 ≤ x) && decide (x ≤ 18446744073709551615)) = true := by decide +kernel
  have := List.all_eq_true.1 this x hx
  simpa using this
theorem cw1_bd : InW cw1 := by
  intro x hx
  have : (cw1.all fun x => decide (0 ≤ x) && decide (x ≤ 18446744073709551615)) = true := by decide +kernel
  have := List.all_eq_true.1 this x hx
  simpa using this
theorem cw1_5 : osz cw1 chap7 (eo 1 32 (5 : Nat)) (5 : Nat) = ((2 : Nat) : Int) + 2 := by decide +kernel
theorem cw1_6 : osz cw1 chap7 (eo 1 32 (6 : Nat)) (6 : Nat) = 0 := by decide +kernel
theorem cw1_p : plv 1 32 cw1 chap7 5 1 = (8, 0) := by decide +kernel
theorem cw1_f5 : osz cw1 chap7 37 5 = 4 := by decide +kernel
theorem cw1_w : tol (osz cw1 chap7 ((37 : Nat) : Int)) ((5 : Nat) : Int) 29 = [5] ∧ vis (osz cw1 chap7 ((37 : Nat) : Int)) ((5 : Nat) : Int) 29 = 37 := by decide +kernel
theorem cw1_v : tol (osz cw1 chap7 ((37 : Nat) : Int)) ((6 : Nat) : Int) 31 = [] ∧ vis (osz cw1 chap7 ((37 : Nat) : Int)) ((6 : Nat) : Int) 31 = 37 := by decide +kernel
theorem ends_of (f : Int → Int) (a U : Int) (K : Nat) (h : vis f a K = U) : Go.Ob.Ends f a U K := ⟨by omega, fun j hj => by
  have h1 := vis_mono f a (j + 1) (K - (j + 1))
  have h2 := vis_lt f a j
  rw [show j + 1 + (K - (j + 1)) = K by omega] at h1
  omega⟩
theorem chap7_tab (w : World) : IsTab (w.alloc (.cells #[.string ⟨#[112]⟩, .string ⟨#[115, 115]⟩] 60)) (.slice (some ⟨w.heap.size, 0, none⟩) 2 2) chap7 := by
  refine .inr ⟨w.heap.size, 0, 2, rfl, fun i hi => ?_⟩
  have : i = 0 ∨ i = 1 := by simp [chap7] at hi; omega
  rcases this with rfl | rfl
  · exact cell_last w _ _ 0 _ rfl
  · exact cell_last w _ _ 1 _ rfl
set_option maxRecDepth 100000 in
set_option maxHeartbeats 8000000 in
theorem oworks_any (w : World) (hN : LNums w) : Calls Tryz.prog 7 #[] w fun e w' => e = .returned (.bool true) ∧ Below w.heap.size w w' := by
  have HN := hid hN
  clear hN
  have T0 := hid ((chap7_tab w).below (Nat.le_refl _) (below_alloc0 _ (plO 1 32 (some ⟨w.heap.size, 0, none⟩) 2 2)))
  have B0 := hid (bel_two w (.cells #[.string ⟨#[112]⟩, .string ⟨#[115, 115]⟩] 60) (plO 1 32 (some ⟨w.heap.size, 0, none⟩) 2 2))
  have R0 := hid (boxes2 w (.cells #[.string ⟨#[112]⟩, .string ⟨#[115, 115]⟩] 60) (plO 1 32 (some ⟨w.heap.size, 0, none⟩) 2 2)).2.1
  have C0 := hid (show ((w.alloc (.cells #[.string ⟨#[112]⟩, .string ⟨#[115, 115]⟩] 60)).alloc (plO 1 32 (some ⟨w.heap.size, 0, none⟩) 2 2)).cell? ⟨w.heap.size, 0, none⟩ = some (.string (at' chap7 0)) from at_row (boxes2 w (.cells #[.string ⟨#[112]⟩, .string ⟨#[115, 115]⟩] 60) (plO 1 32 (some ⟨w.heap.size, 0, none⟩) 2 2)).1 0 rfl)
  have cS := fun W h => rStart6_at 1 32 w.heap.size 0 2 2 69 5 524294 0 (at' chap7 0) W (by omega) (by omega) (by omega) (by omega) rfl rfl (by decide) (by omega) h (hid (by decide +kernel))
  go_enter Tryz.func7, Tryz.ntmps7
  go_wp2_with (go_at_call 19; refine (cS _ C0.out).mono ?_)
  rintro e w1 ⟨G, rfl, hG, b⟩
  have T1 := hid (T0.out.below (Nat.le_refl _) b)
  have R1 := hid (row_below R0.out b)
  have B1 := hid (B0.out.trans (b.mono B0.out.size))
  have hx : Ws w1 G 0 cw0 := fun i hi => by rw [Nat.zero_add, hG i hi, cw0_is i hi]
  have cO := Of_yes G 0 69 cw0 w1 hx (by decide) (by decide)
  have A2 := hid (made_ar w1 cw0 cw0_bd (by decide) (by decide))
  have M2 := made_below w1 cw0
  have T2 := hid (T1.out.below (Nat.le_refl _) M2)
  have R2 := hid (row_below R1.out M2)
  have B2 := hid (B1.out.trans (M2.mono B1.out.size))
  have S2 := hid (show w.heap.size + 1 < w1.heap.size from (Array.getElem?_eq_some_iff.1 R1.out).1)
  clear cS T0 R0 B0 C0 b hx hG T1 R1 M2
  generalize made w1 cw0 = w2 at *
  have p0 := at_row R2.out 0 rfl
  have p1 := at_row R2.out 1 rfl
  have p2 := at_row R2.out 2 rfl
  go_wp2_with (go_at_call 6; refine cO.mono ?_; rintro e w' ⟨rfl, hw⟩; rw [hw]; clear hw)
  have HP2 := hid (show IsHp w2 1 32 (some ⟨w.heap.size, 0, none⟩) 2 2 chap7 (w1.heap.size + 1) w1.heap.size cw0 from ⟨T2.out, HN.out.below B2.out, A2.out, by decide +kernel, by decide⟩)
  clear T2 A2 cO
  have hfs : FsAt 0 (w2.alloc (.cells #[.int .u64 4, .int .u64 12] 39)) (.slice (some ⟨w2.heap.size, 0, none⟩) 2 2) [4, 12] := ⟨_, _, rfl, .inr ⟨_, _, rfl, Nat.zero_le _, fun i hi => by
    have : i = 0 ∨ i = 1 := by simp at hi; omega
    rcases this with rfl | rfl
    · exact cell_last w2 _ _ 0 _ rfl
    · exact cell_last w2 _ _ 1 _ rfl⟩⟩
  have cP := Put_ok _ _ cw0 chap7 1 32 _ 2 2 5 1 0 0 _ [4, 12] _ (HP2.out.below (below_alloc0 w2 (.cells #[.int .u64 4, .int .u64 12] 39))) (hid (by decide +kernel)) hfs (by intro x hx; simp at hx; omega)
  clear hfs
  go_wp2_with (go_at_call 14; refine cP.mono ?_)
  rintro e w3 ⟨rfl, a3, g3⟩
  have hw2 := below_alloc0 w2 (.cells #[.int .u64 4, .int .u64 12] 39)
  have B3 := hid (below_grown (B := w1.heap.size) (B2.out.trans (hw2.mono B2.out.size)) (by have := B2.out.size; simp; omega) g3 (by have := S2.out; omega))
  have R3 := hid ((g3.block (w.heap.size + 1) (by have := (Array.getElem?_eq_some_iff.1 R2.out).1; simp; omega) (fun e => by have := Option.some.inj e; have := S2.out; omega)).trans (row_below R2.out hw2))
  have T3 := IsTab.below (HP2.out.tab) (Nat.le_refl _) hw2
  have HP3 := hid (show IsHp w3 1 32 (some ⟨w.heap.size, 0, none⟩) 2 2 chap7 (w1.heap.size + 1) w1.heap.size cw1 from ⟨by
    rcases T3 with ⟨h, _⟩ | ⟨b, off, cap, e, hc⟩
    · cases h
    · cases e
      exact .inr ⟨_, _, _, rfl, fun i hi => (grown_cell g3 (by show w.heap.size ≠ w1.heap.size; have := S2.out; omega) (hc i hi))⟩, HN.out.below B3.out, a3, by decide +kernel, by decide⟩)
  clear cP a3 g3 hw2 T3 R2 B2 HP2 p0 p1 p2
  generalize w1.heap.size = BB at *
  have p0 := at_row R3.out 0 rfl
  have p1 := at_row R3.out 1 rfl
  have p2 := at_row R3.out 2 rfl
  go_wp2_with (go_at_call 9; refine (Read_ok _ _ cw1 chap7 1 32 _ 2 2 5 2 1 0 0 _ HP3.out (by decide) (hid cw1_5) (hid (by decide +kernel)) (hid (by decide +kernel))).mono ?_)
  rintro e w4 ⟨v, rfl, hf, b⟩
  obtain ⟨av, cv, rfl, hf⟩ := hf
  have HP4 := hid (HP3.out.below b)
  have R4 := hid (row_below R3.out b)
  have B4 := hid (B3.out.trans (b.mono B3.out.size))
  clear p0 p1 p2 b HP3 R3 B3
  have HX := hid (heap_alloc_last w4 (obO 5 1 0 0 (.slice av 2 cv)))
  have HP5 := hid (HP4.out.below (below_alloc0 w4 (obO 5 1 0 0 (.slice av 2 cv))))
  have R5 := hid (row_below R4.out (below_alloc0 w4 (obO 5 1 0 0 (.slice av 2 cv))))
  have B5 := hid (B4.out.trans ((below_alloc0 w4 (obO 5 1 0 0 (.slice av 2 cv))).mono B4.out.size))
  have hrl := flw_len cw1 5 2
  rw [hrl]
  clear hf HP4 R4 B4 hrl
  have p0 := at_row R5.out 0 rfl
  have p1 := at_row R5.out 1 rfl
  have p2 := at_row R5.out 2 rfl
  go_wp2_with (go_at_call 9; refine (Read_none _ _ cw1 chap7 1 32 _ 2 2 6 (w4.alloc (obO 5 1 0 0 (.slice av 2 cv))) HP5.out (by decide) (hid cw1_6)).mono ?_)
  rintro e w6 ⟨rfl, b⟩
  have HP6 := hid (HP5.out.below b)
  have R6 := hid (row_below R5.out b)
  have B6 := hid (B5.out.trans (b.mono B5.out.size))
  have X6 := hid (row_below HX.out b)
  clear b HP5 R5 B5 HX p0 p1 p2
  have HP7 := hid (HP6.out.below (below_alloc0 w6 (obO 0 0 0 0 (.slice none 0 0))))
  have R7 := hid (row_below R6.out (below_alloc0 w6 (obO 0 0 0 0 (.slice none 0 0))))
  have B7 := hid (B6.out.trans ((below_alloc0 w6 (obO 0 0 0 0 (.slice none 0 0))).mono B6.out.size))
  have X7 := hid (row_below X6.out (below_alloc0 w6 (obO 0 0 0 0 (.slice none 0 0))))
  clear HP6 R6 B6 X6
  have p0 := at_row R7.out 0 rfl
  have p1 := at_row R7.out 1 rfl
  have p2 := at_row R7.out 2 rfl
  go_wp2_with (go_at_call 20; refine (Place_at _ _ cw1 chap7 1 32 _ 2 2 5 1 8 0 (w6.alloc (obO 0 0 0 0 (.slice none 0 0))) HP7.out (hid cw1_p)).mono ?_)
  rintro e w8 ⟨rfl, b⟩
  have HP8 := hid (HP7.out.below b)
  have R8 := hid (row_below R7.out b)
  have B8 := hid (B7.out.trans (b.mono B7.out.size))
  have X8 := hid (row_below X7.out b)
  clear b HP7 R7 B7 X7 p0 p1 p2
  have p0 := at_row R8.out 0 rfl
  have p1 := at_row R8.out 1 rfl
  have p2 := at_row R8.out 2 rfl
  go_wp2_with (go_at_call 21; refine (Walk_ok _ _ cw1 chap7 1 32 _ 2 2 0 0 32 5 37 29 w8 HP8.out rfl rfl rfl (ends_of _ _ _ _ cw1_w.2)).mono ?_)
  rintro e w9 ⟨v, rfl, hf, b⟩
  rw [cw1_w.1] at hf
  obtain ⟨lv, lc, rfl, hf⟩ := hf
  rcases hf with hf | ⟨lb, lo, rfl, _, hf⟩
  · cases hf
  have L9 := hid (hf 0 (by decide))
  have HP9 := hid (HP8.out.below b)
  have R9 := hid (row_below R8.out b)
  have B9 := hid (B8.out.trans (b.mono B8.out.size))
  have X9 := hid (row_below X8.out b)
  clear b HP8 R8 B8 X8 p0 p1 p2 hf
  have p0 := at_row R9.out 0 rfl
  have p1 := at_row R9.out 1 rfl
  have p2 := at_row R9.out 2 rfl
  go_wp2_with (go_at_call 21; refine (Walk_ok _ _ cw1 chap7 1 32 _ 2 2 0 1 32 6 37 31 w9 HP9.out rfl rfl rfl (ends_of _ _ _ _ cw1_v.2)).mono ?_)
  rintro e wa ⟨v, rfl, hf, b⟩
  rw [cw1_v.1] at hf
  obtain ⟨mv, mc, rfl, hf⟩ := hf
  have La := hcell_below L9.out b
  have Ba := hid (B9.out.trans (b.mono B9.out.size))
  have Xa := row_below X9.out b
  have x1 := at_row Xa 1 rfl
  have x4 := at_row Xa 4 rfl
  clear b HP9 R9 B9 X9 p0 p1 p2 hf L9 Xa
  rw [show wat [5] 0 = (5 : Int) from rfl, Nat.add_zero] at La
  go_wp2_with (go_at_call 8; refine (onum_any _ _).mono ?_; rintro e w' ⟨rfl, hw⟩; rw [hw]; clear hw)
  go_ret
  exact ⟨rfl, Ba.out⟩
end Go.Proofs.YtldfmlkjeniemaaGreatDoor
/- The laws' has (lapidarylaw07). -/
set_option linter.unusedVariables false
namespace Go.Proofs.YtldfmlkjeniemaaGreatDoor
open Go.RowKit Go.Ly Go.Hd Go.Sh Go.Ob
set_option maxRecDepth 100000 in
set_option maxHeartbeats 2000000 in
theorem ohas_at (A B b off c : Nat) (xs : List Int) (w : World) (ha : IsAr w A B xs) (hx : Ws w b off xs) :
    Calls Tryz.prog 13 #[.pointer (some ⟨A, 0, none⟩), .slice (some ⟨b, off, none⟩) xs.length c] w fun e W' => e = .returned (.bool true) ∧ Below w.heap.size w W' := by
  obtain ⟨_, _, _, hb, h1, h2⟩ := id ha
  have cO := Of_yes b off c xs w hx h1 h2
  have M2 := hid (made_below w xs)
  have cs := Same_yes A B (w.heap.size + 1) w.heap.size xs xs true _ (ha.below M2.out) (made_ar w xs hb h1 h2) rfl (hid (by rw [pl_same]; rfl))
  clear ha hx hb h1 h2
  generalize made w xs = w2 at *
  go_enter Tryz.func13, Tryz.ntmps13
  go_wp2_with (go_at_call 6; refine cO.mono ?_; rintro e w' ⟨rfl, hw⟩; rw [hw]; clear hw)
  clear cO
  go_wp2_with (go_at_call 8; refine (onum_any _ _).mono ?_; rintro e w' ⟨rfl, hw⟩; rw [hw]; clear hw)
  go_wp2_with (go_at_call 31; refine cs.mono ?_; rintro e w3 ⟨rfl, b3⟩)
  go_ret
  exact ⟨rfl, M2.out.trans (b3.mono M2.out.size)⟩
end Go.Proofs.YtldfmlkjeniemaaGreatDoor
/- The heap that a law of layer 7 makes. -/
set_option linter.unusedVariables false
namespace Go.Proofs.YtldfmlkjeniemaaGreatDoor
open Go.RowKit Go.Ly Go.Hd Go.Sh Go.Ob
abbrev hpC (t s : Int) (a : Option Addr) (n c : Nat) (wa : Option Addr) (wn wc : Nat) (m : Int) : Array Value := #[.int .i64 t, .int .i64 s, .slice a n c, .slice wa wn wc, .int .i64 m]
abbrev hpV (t s : Int) (a : Option Addr) (n c : Nat) (wa : Option Addr) (wn wc : Nat) (m : Int) : Value := .agg (hpC t s a n c wa wn wc m)
abbrev hpO (t s : Int) (a : Option Addr) (n c : Nat) (wa : Option Addr) (wn wc : Nat) (m : Int) : Obj := .cells (hpC t s a n c wa wn wc m) 27
/-- Is it made? -/
def mdOk (t s : Int) (ss : List ByteArray) (wn : Nat) (m : Int) : Bool := rgt t s ss && (decide (s ≤ 100) && decide (wn ≤ 300) && decide (-3 ≤ m) && decide (m ≤ 3))
set_option maxRecDepth 100000 in
set_option maxHeartbeats 4000000 in
theorem made_no (t s : Int) (a : Option Addr) (n c : Nat) (ss : List ByteArray) (wa : Option Addr) (wn wc : Nat) (m : Int) (w : World) (hT : IsTab w (.slice a n c) ss) (h : mdOk t s ss wn m = false) :
    Calls Tryz.prog 5 #[hpV t s a n c wa wn wc m] w fun e w' => e = .returned (.slice none 0 0) ∧ Below w.heap.size w w' := by
  have bw := below_alloc0 w (hpO t s a n c wa wn wc m)
  obtain ⟨r, hr⟩ : ∃ r, Hid (rgt t s ss = r) := ⟨_, hid rfl⟩
  have cr := rgt6_at t s a n c ss _ r (hT.below (Nat.le_refl _) bw) hr
  rw [mdOk, hr.out] at h
  clear hT hr
  cases r
  · clear h
    go_enter Tryz.func5, Tryz.ntmps5
    go_wp2_with (go_at_call 16; refine cr.mono ?_)
    rintro e w1 ⟨rfl, b1⟩
    have B1 := hid (bel1 b1)
    clear b1
    go_wp2
    go_ret
    exact ⟨rfl, B1.out⟩
  · have hh : 100 < s ∨ (s ≤ 100 ∧ (300 < (wn : Int) ∨ ((wn : Int) ≤ 300 ∧ (m < -3 ∨ (-3 ≤ m ∧ 3 < m))))) := by simp at h; omega
    clear h
    rcases hh with h | ⟨h1, h | ⟨h2, h | ⟨h3, h⟩⟩⟩
    all_goals
      go_enter Tryz.func5, Tryz.ntmps5
      go_wp2_with (go_at_call 16; refine cr.mono ?_)
      rintro e w1 ⟨rfl, b1⟩
      have R1 := row1 b1
      have d1 := at_row R1 1 rfl
      have d3 := at_row R1 3 rfl
      have d4 := at_row R1 4 rfl
      have B1 := hid (bel1 b1)
      clear b1 R1
      go_wp2
      go_ret
      exact ⟨rfl, B1.out⟩
/-- The words that are made: of ws, as many as there is room for, noughts behind. -/
def mdW (ws : List Int) (N : Nat) : List Int := ws.take N ++ List.replicate (N - ws.length) 0
theorem mdW_len (ws : List Int) (N : Nat) : (mdW ws N).length = N := by simp [mdW]; omega
theorem mdW_in {ws : List Int} (h : InW ws) (N : Nat) : InW (mdW ws N) := by
  intro x hx
  rcases List.mem_append.1 hx with h1 | h1
  · exact h x (List.mem_of_mem_take h1)
  · exact InW.zeros _ x h1
theorem copy_none (ty : TypeId) (g N : Nat) (w : World) : (Builtin.copy_ #[25, 25] ty #[.slice (some ⟨g, 0, none⟩) N N, .slice none 0 0]).run Tryz.prog w = .ok (goInt 0) w :=
  run_copy_nil Tryz.prog w 25 25 ty 39 ⟨g, 0, none⟩ N N Tryz.underlying25 (by kernel_rfl)
theorem mdW_copy (ws : List Int) (N : Nat) : ((wds (List.replicate N 0)).toList.take 0 ++ (wds (ws.take N)).toList ++ (wds (List.replicate N 0)).toList.drop (0 + (wds (ws.take N)).toList.length)).toArray = wds (mdW ws N) := by
  have e : N - min N ws.length = N - ws.length := by omega
  simp [wds, mdW, e]
/-- Words that a slice leads to, or none. -/
def WsA (W : World) (wa : Option Addr) (wc : Nat) (ws : List Int) : Prop := (wa = none ∧ wc = 0 ∧ ws = []) ∨ ∃ ad, wa = some ad ∧ ∀ i, i < ws.length → W.cell? (ad.add i) = some (.int .u64 (wat ws i))
theorem WsA.below {W W' : World} {wa : Option Addr} {wc : Nat} {ws : List Int} (h : WsA W wa wc ws) (b : Below W.heap.size W W') : WsA W' wa wc ws := by
  rcases h with h | ⟨ad, e, h⟩
  · exact .inl h
  · exact .inr ⟨ad, e, fun i hi => hcell_below (h i hi) b⟩
theorem wsA_of_row {W : World} {wa : Option Addr} {wn wc : Nat} {zs : List Int} (h : IsRow W wa wn wc zs) : ∃ ws, ws.length = wn ∧ WsA W wa wc ws ∧ InW ws := by
  rcases h with ⟨rfl, rfl, rfl, _⟩ | ⟨x, rfl, hl, hm, hz, hcell, hw⟩
  · exact ⟨[], rfl, .inl ⟨rfl, rfl, rfl⟩, fun x hx => by simp at hx⟩
  · refine ⟨zs.take wn, by simp; omega, .inr ⟨x, rfl, fun i hi => ?_⟩, fun y hy => ?_⟩
    · have h2 : i < wn ∧ i < zs.length := by simp at hi; omega
      rw [hcell i h2.2]
      simp [wat, List.getD, h2.1, h2.2]
    · have := hw y (List.mem_of_mem_take hy)
      simp [Lit.wf, IntKind.min, IntKind.max, IntKind.signed, IntKind.bits] at this
      omega
theorem copy_some (ty : TypeId) (g N wc : Nat) (ad : Addr) (ws : List Int) (w : World) (hg : w.heap[g]? = some (.cells (wds (List.replicate N 0)) 39)) (hx : ∀ i, i < ws.length → w.cell? (ad.add i) = some (.int .u64 (wat ws i))) :
    (Builtin.copy_ #[25, 25] ty #[.slice (some ⟨g, 0, none⟩) N N, .slice (some ad) ws.length wc]).run Tryz.prog w = .ok (goInt ((min N ws.length : Nat) : Int)) (w.setRow g (wds (mdW ws N))) := by
  have hs : ∀ j v, (wds (ws.take N)).toList[j]? = some v → w.cell? (ad.add j) = some v := fun j v hv => by
    have hj : j < N ∧ j < ws.length := by
      have := (List.getElem?_eq_some_iff.1 hv).1
      simp [wds] at this
      omega
    rw [hx j hj.2]
    simp only [wds, List.getElem?_map, List.getElem?_take_of_lt hj.1, List.getElem?_eq_getElem hj.2, Option.map_some] at hv
    rw [← hv]
    simp [wat, List.getD, hj.2]
  have := run_copy_row Tryz.prog w 25 25 ty 39 g 0 N N ad ws.length wc (wds (List.replicate N 0)) 39 (wds (ws.take N)).toList Tryz.underlying25 (by kernel_rfl) hg
    (by simp [wds]; exact Nat.min_comm _ _) hs (by simp [wds]; omega) (wds_one _)
  rw [this, mdW_copy]
  simp [wds]
theorem wds_zeros (N : Nat) : madeCells #[.int .u64 0] N = wds (List.replicate N 0) := made_zeros N
set_option maxRecDepth 100000 in
set_option maxHeartbeats 4000000 in
theorem made_yes (t s : Int) (a : Option Addr) (n c : Nat) (ss : List ByteArray) (wa : Option Addr) (wc : Nat) (ws : List Int) (m : Int) (N : Nat) (w : World) (hT : IsTab w (.slice a n c) ss) (h : mdOk t s ss ws.length m = true) (hws : WsA w wa wc ws) (hN : (N : Int) = 3 + t + t + 2 * s + m) :
    Calls Tryz.prog 5 #[hpV t s a n c wa ws.length wc m] w fun e w' => ∃ G, e = .returned (.slice (some ⟨G, 0, none⟩) N N) ∧ Ws w' G 0 (mdW ws N) ∧ w.heap.size ≤ G ∧ Below w.heap.size w w' := by
  have bw := below_alloc0 w (hpO t s a n c wa ws.length wc m)
  have h1 : rgt t s ss = true ∧ s ≤ 100 ∧ ws.length ≤ 300 ∧ -3 ≤ m ∧ m ≤ 3 := by simpa [mdOk, and_assoc] using h
  obtain ⟨hr, s9, wl9, m0, m9⟩ := h1
  obtain ⟨t0, t1, s0, s1, _⟩ := rgt_yes hr
  have cr := rgt6_at t s a n c ss _ true (hT.below (Nat.le_refl _) bw) (hid hr)
  have cs := fun W => rSize6 t s a n c W t0 t1 s0 s1
  have wl9' : (ws.length : Int) ≤ 300 := by omega
  have z0 : 69 ≤ 3 + t + t + 2 * s := by omega
  have z9 : 3 + t + t + 2 * s ≤ 300 := by omega
  obtain ⟨Z, hZ⟩ : ∃ Z, Z = 3 + t + t + 2 * s := ⟨_, rfl⟩
  rw [← hZ] at hN z0 z9
  simp only [← hZ] at cs
  have hw : IntKind.i64.wrap (Z + m) = (N : Int) := by rw [IntWalk.i64_in _ ⟨by omega, by omega⟩, hN]
  have hmk : ∀ u, (Instr.makeSlice 25 (.int .i64 (IntKind.i64.wrap (Z + m))) (.int .i64 (IntKind.i64.wrap (Z + m)))).run Tryz.prog u = .ok (.slice (some ⟨u.heap.size, 0, none⟩) N N) (u.alloc (.cells (wds (List.replicate N 0)) 39)) := fun u => by
    rw [hw]
    exact make_words 25 Tryz.underlying25 N (by omega) u
  have HW := hid hws
  clear hT h hr hws hZ hw hN
  go_enter Tryz.func5, Tryz.ntmps5
  go_wp2_with (go_at_call 16; refine cr.mono ?_)
  rintro e w1 ⟨rfl, b1⟩
  have R1 := hid (row1 b1)
  have d1 := at_row R1.out 1 rfl
  have d3 := at_row R1.out 3 rfl
  have d4 := at_row R1.out 4 rfl
  have B1 := hid (bel1 b1)
  clear b1 cr bw
  go_wp2_with fail
  have HS := hid (show Hs4 w1 w.heap.size 0 (.int .i64 t) w.heap.size 1 (.int .i64 s) w.heap.size 2 (.slice a n c) w.heap.size 4 (.int .i64 m) w1 from ⟨at_row R1.out 0 rfl, d1, at_row R1.out 2 rfl, d4, Below.refl _ _⟩)
  clear d1 d3 d4
  go_region_held3 (Hs4 w1 w.heap.size 0 (.int .i64 t) w.heap.size 1 (.int .i64 s) w.heap.size 2 (.slice a n c) w.heap.size 4 (.int .i64 m)) (with_reducible (first | assumption | exact hs4_drew HS.out | exact hs4_call HS.out (hs4_drew HS.out) b3 | (refine hs4_alloc HS.out ?_ _; first | assumption | exact hs4_call HS.out (hs4_drew HS.out) b3))) (first | (go_at_call 17; refine (cs _).mono ?_; rintro e w5 ⟨rfl, b3⟩))
  rename_i hH
  clear hH
  have b3' := ((Below.refl _ w1).drew).trans b3
  have RG := hid (heap_alloc_last w5 (.cells (wds (List.replicate N 0)) 39))
  have B5 := hid (B1.out.trans (b3'.mono B1.out.size))
  have R5 := row_below R1.out (b3'.trans ((below_alloc0 w5 (.cells (wds (List.replicate N 0)) 39)).mono b3'.size))
  have d3 := at_row R5 3 rfl
  have B6 := hid (B5.out.trans ((below_alloc0 w5 (.cells (wds (List.replicate N 0)) 39)).mono B5.out.size))
  have HW6 := hid (HW.out.below B6.out)
  clear b3 b3' R5 R1 HS HW B1 cs hmk
  have hz5 := B5.out.size
  rcases (show (wa = none ∧ wc = 0 ∧ ws = []) ∨ ∃ ad, wa = some ad from by rcases HW6.out with h | ⟨ad, h, _⟩; exact .inl h; exact .inr ⟨ad, h⟩) with ⟨rfl, rfl, rfl⟩ | ⟨ad, rfl⟩
  · have hcp := fun ty => copy_none ty w5.heap.size N (w5.alloc (.cells (wds (List.replicate N 0)) 39))
    have hws : Ws (w5.alloc (.cells (wds (List.replicate N 0)) 39)) w5.heap.size 0 (mdW [] N) := by
      rw [show mdW [] N = List.replicate N 0 by simp [mdW]]
      exact fun i hi => by rw [Nat.zero_add]; exact cell_last w5 _ _ i _ (wds_get _ i hi)
    have HWS := hid hws
    clear hws HW6 RG
    generalize wds (List.replicate N 0) = YA at *
    generalize w5.heap.size = g5 at *
    generalize w5.alloc _ = W6 at *
    simp only [List.length_nil] at d3 ⊢
    go_wp2
    go_ret
    exact ⟨g5, rfl, HWS.out, hz5, B6.out⟩
  · obtain ⟨ad', e, hx⟩ : ∃ ad', some ad = some ad' ∧ ∀ i, i < ws.length → (w5.alloc (.cells (wds (List.replicate N 0)) 39)).cell? (ad'.add i) = some (.int .u64 (wat ws i)) := by
      rcases HW6.out with ⟨h, _⟩ | h
      · cases h
      · exact h
    cases e
    have hcp := fun ty => copy_some ty w5.heap.size N wc ad ws _ RG.out hx
    have hws : Ws ((w5.alloc (.cells (wds (List.replicate N 0)) 39)).setRow w5.heap.size (wds (mdW ws N))) w5.heap.size 0 (mdW ws N) := fun i hi => by
      rw [Nat.zero_add]
      exact at_row (setRow_heap _ _ _ _ _ _ RG.out) i (wds_get _ i hi)
    have HWS := hid hws
    have HB := hid (below_setRow B6.out hz5 (wds (mdW ws N)))
    clear hws HW6 RG hx
    generalize wds (List.replicate N 0) = YA at *
    generalize wds (mdW ws N) = ZA at *
    go_wp2
    go_ret
    exact ⟨_, rfl, HWS.out, hz5, HB.out⟩
end Go.Proofs.YtldfmlkjeniemaaGreatDoor
