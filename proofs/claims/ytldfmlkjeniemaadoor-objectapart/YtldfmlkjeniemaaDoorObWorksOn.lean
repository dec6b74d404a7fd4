/- The chapter's rows, as the laws of layer 7 ask them. -/
import Derived.Test.YtldfmlkjeniemaaDoorLyRefSOn
import Derived.Test.YtldfmlkjeniemaaDoorObPlaceTOn
import Derived.Test.YtldfmlkjeniemaaDoorObReadT
import Derived.Test.YtldfmlkjeniemaaDoorObPutT
import Derived.Test.YtldfmlkjeniemaaDoorArAllOn
set_option linter.unusedVariables false
namespace Go.Proofs.YtldfmlkjeniemaaDoor
open Go.RowKit Go.Ly Go.Hd Go.Sh Go.Ob
theorem onum_any (n : Int) (w : World) : Calls Tryd.prog 9 #[.int .i64 n] w fun e w' => e = .returned (.int .i64 n) ∧ w' = w := by
  go_enter Tryd.func9, Tryd.ntmps9
  go_wp2
  go_ret
  exact ⟨rfl, rfl⟩
/-- The chapter's table, its arena's words at the start, and with the chapter's object. -/
def chap7 : List ByteArray := [⟨#[112]⟩, ⟨#[115, 115]⟩]
def cw0 : List Int := [0, 524294, 0, 0, 0, 6] ++ List.replicate 63 0
def cw1 : List Int := putK cw0 5 [wd 1 0, 0, 4, 12] 4
theorem cw0_is : ∀ i, i < 69 → wat cw0 i = stf 524294 5 (at' chap7 0) i := by decide +kernel
theorem cw0_bd : InW cw0 := by
  intro x hx
  have : (cw0.all fun x => decide (0 ≤ x) && decide (x ≤ 18446744073709551615)) = true := by decide +kernel
  have := List.all_eq_true.1 this x hx
  simpa using this
theorem cw1_bd : InW cw1 := by
  intro x hx
  have : (cw1.all fun x => decide (0 ≤ x) && decide (x ≤ 18446744073709551615)) = true := by decide +kernel
  have := List.all_eq_true.1 this x hx
  simpa using this
theorem cw1_5 : osz cw1 chap7 (eo 1 32 (5 : Nat)) (5 : Nat) = ((2 : Nat) : Int) + 2 := by decide +kernel
theorem cw1_6 : osz cw1 chap7 (eo 1 32 (6 : Nat)) (6 : Nat) = 0 := by decide +kernel
theorem cw1_p : plv 1 32 cw1 chap7 5 1 = (8, 0) := by decide +kernel
theorem cw1_f5 : osz cw1 chap7 37 5 = 4 := by decide +kernel
theorem cw1_w : tol (osz cw1 chap7 ((37 : Nat) : Int)) ((5 : Nat) : Int) 29 = [5] ∧ vis (osz cw1 chap7 ((37 : Nat) : Int)) ((5 : Nat) : Int) 29 = 37 := by decide +kernel
theorem cw1_v : tol (osz cw1 chap7 ((37 : Nat) : Int)) ((6 : Nat) : Int) 31 = [] ∧ vis (osz cw1 chap7 ((37 : Nat) : Int)) ((6 : Nat) : Int) 31 = 37 := by decide +kernel
theorem ends_of (f : Int → Int) (a U : Int) (K : Nat) (h : vis f a K = U) : Go.Ob.Ends f a U K := ⟨by omega, fun j hj => by
  have h1 := vis_mono f a (j + 1) (K - (j + 1))
  have h2 := vis_lt f a j
  rw [show j + 1 + (K - (j + 1)) = K by omega] at h1
  omega⟩
theorem chap7_tab (w : World) : IsTab (w.alloc (.cells #[.string ⟨#[112]⟩, .string ⟨#[115, 115]⟩] 63)) (.slice (some ⟨w.heap.size, 0, none⟩) 2 2) chap7 := by
  refine .inr ⟨w.heap.size, 0, 2, rfl, fun i hi => ?_⟩
  have : i = 0 ∨ i = 1 := by simp [chap7] at hi; omega
  rcases this with rfl | rfl
  · exact cell_last w _ _ 0 _ rfl
  · exact cell_last w _ _ 1 _ rfl
set_option maxRecDepth 100000 in
set_option maxHeartbeats 8000000 in
theorem oworks_any (w : World) (hN : LNums w) : Calls Tryd.prog 10 #[] w fun e w' => e = .returned (.bool true) ∧ Below w.heap.size w w' := by
  have HN := hid hN
  clear hN
  have T0 := hid ((chap7_tab w).below (Nat.le_refl _) (below_alloc0 _ (plO 1 32 (some ⟨w.heap.size, 0, none⟩) 2 2)))
  have B0 := hid (bel_two w (.cells #[.string ⟨#[112]⟩, .string ⟨#[115, 115]⟩] 63) (plO 1 32 (some ⟨w.heap.size, 0, none⟩) 2 2))
  have R0 := hid (boxes2 w (.cells #[.string ⟨#[112]⟩, .string ⟨#[115, 115]⟩] 63) (plO 1 32 (some ⟨w.heap.size, 0, none⟩) 2 2)).2.1
  have C0 := hid (show ((w.alloc (.cells #[.string ⟨#[112]⟩, .string ⟨#[115, 115]⟩] 63)).alloc (plO 1 32 (some ⟨w.heap.size, 0, none⟩) 2 2)).cell? ⟨w.heap.size, 0, none⟩ = some (.string (at' chap7 0)) from at_row (boxes2 w (.cells #[.string ⟨#[112]⟩, .string ⟨#[115, 115]⟩] 63) (plO 1 32 (some ⟨w.heap.size, 0, none⟩) 2 2)).1 0 rfl)
  have cS := fun W h => rStart6_at 1 32 w.heap.size 0 2 2 69 5 524294 0 (at' chap7 0) W (by omega) (by omega) (by omega) (by omega) rfl rfl (by decide) (by omega) h (hid (by decide +kernel))
  go_enter Tryd.func10, Tryd.ntmps10
  go_wp2_with (go_at_call 21; refine (cS _ C0.out).mono ?_)
  rintro e w1 ⟨G, rfl, hG, b⟩
  have T1 := hid (T0.out.below (Nat.le_refl _) b)
  have R1 := hid (row_below R0.out b)
  have B1 := hid (B0.out.trans (b.mono B0.out.size))
  have hx : Ws w1 G 0 cw0 := fun i hi => by rw [Nat.zero_add, hG i hi, cw0_is i hi]
  have cO := Of_yes G 0 69 cw0 w1 hx (by decide) (by decide)
  have A2 := hid (made_ar w1 cw0 cw0_bd (by decide) (by decide))
  have M2 := made_below w1 cw0
  have T2 := hid (T1.out.below (Nat.le_refl _) M2)
  have R2 := hid (row_below R1.out M2)
  have B2 := hid (B1.out.trans (M2.mono B1.out.size))
  have S2 := hid (show w.heap.size + 1 < w1.heap.size from (Array.getElem?_eq_some_iff.1 R1.out).1)
  clear cS T0 R0 B0 C0 b hx hG T1 R1 M2
  generalize made w1 cw0 = w2 at *
  have p0 := at_row R2.out 0 rfl
  have p1 := at_row R2.out 1 rfl
  have p2 := at_row R2.out 2 rfl
  go_wp2_with (go_at_call 8; refine cO.mono ?_; rintro e w' ⟨rfl, hw⟩; rw [hw]; clear hw)
  have HP2 := hid (show IsHp w2 1 32 (some ⟨w.heap.size, 0, none⟩) 2 2 chap7 (w1.heap.size + 1) w1.heap.size cw0 from ⟨T2.out, HN.out.below B2.out, A2.out, by decide +kernel, by decide⟩)
  clear T2 A2 cO
  have hfs : FsAt 0 (w2.alloc (.cells #[.int .u64 4, .int .u64 12] 50)) (.slice (some ⟨w2.heap.size, 0, none⟩) 2 2) [4, 12] := ⟨_, _, rfl, .inr ⟨_, _, rfl, Nat.zero_le _, fun i hi => by
    have : i = 0 ∨ i = 1 := by simp at hi; omega
    rcases this with rfl | rfl
    · exact cell_last w2 _ _ 0 _ rfl
    · exact cell_last w2 _ _ 1 _ rfl⟩⟩
  have cP := Put_ok _ _ cw0 chap7 1 32 _ 2 2 5 1 0 0 _ [4, 12] _ (HP2.out.below (below_alloc0 w2 (.cells #[.int .u64 4, .int .u64 12] 50))) (hid (by decide +kernel)) hfs (by intro x hx; simp at hx; omega)
  clear hfs
  go_wp2_with (go_at_call 17; refine cP.mono ?_)
  rintro e w3 ⟨rfl, a3, g3⟩
  have hw2 := below_alloc0 w2 (.cells #[.int .u64 4, .int .u64 12] 50)
  have B3 := hid (below_grown (B := w1.heap.size) (B2.out.trans (hw2.mono B2.out.size)) (by have := B2.out.size; simp; omega) g3 (by have := S2.out; omega))
  have R3 := hid ((g3.block (w.heap.size + 1) (by have := (Array.getElem?_eq_some_iff.1 R2.out).1; simp; omega) (fun e => by have := Option.some.inj e; have := S2.out; omega)).trans (row_below R2.out hw2))
  have T3 := IsTab.below (HP2.out.tab) (Nat.le_refl _) hw2
  have HP3 := hid (show IsHp w3 1 32 (some ⟨w.heap.size, 0, none⟩) 2 2 chap7 (w1.heap.size + 1) w1.heap.size cw1 from ⟨by
    rcases T3 with ⟨h, _⟩ | ⟨b, off, cap, e, hc⟩
    · cases h
    · cases e
      exact .inr ⟨_, _, _, rfl, fun i hi => (grown_cell g3 (by show w.heap.size ≠ w1.heap.size; have := S2.out; omega) (hc i hi))⟩, HN.out.below B3.out, a3, by decide +kernel, by decide⟩)
  clear cP a3 g3 hw2 T3 R2 B2 HP2 p0 p1 p2
  generalize w1.heap.size = BB at *
  have p0 := at_row R3.out 0 rfl
  have p1 := at_row R3.out 1 rfl
  have p2 := at_row R3.out 2 rfl
  go_wp2_with (go_at_call 16; refine (Read_ok _ _ cw1 chap7 1 32 _ 2 2 5 2 1 0 0 _ HP3.out (by decide) (hid cw1_5) (hid (by decide +kernel)) (hid (by decide +kernel))).mono ?_)
  rintro e w4 ⟨v, rfl, hf, b⟩
  obtain ⟨av, cv, rfl, hf⟩ := hf
  have HP4 := hid (HP3.out.below b)
  have R4 := hid (row_below R3.out b)
  have B4 := hid (B3.out.trans (b.mono B3.out.size))
  clear p0 p1 p2 b HP3 R3 B3
  have HX := hid (heap_alloc_last w4 (obO 5 1 0 0 (.slice av 2 cv)))
  have HP5 := hid (HP4.out.below (below_alloc0 w4 (obO 5 1 0 0 (.slice av 2 cv))))
  have R5 := hid (row_below R4.out (below_alloc0 w4 (obO 5 1 0 0 (.slice av 2 cv))))
  have B5 := hid (B4.out.trans ((below_alloc0 w4 (obO 5 1 0 0 (.slice av 2 cv))).mono B4.out.size))
  have hrl := flw_len cw1 5 2
  rw [hrl]
  clear hf HP4 R4 B4 hrl
  have p0 := at_row R5.out 0 rfl
  have p1 := at_row R5.out 1 rfl
  have p2 := at_row R5.out 2 rfl
  go_wp2_with (go_at_call 16; refine (Read_none _ _ cw1 chap7 1 32 _ 2 2 6 (w4.alloc (obO 5 1 0 0 (.slice av 2 cv))) HP5.out (by decide) (hid cw1_6)).mono ?_)
  rintro e w6 ⟨rfl, b⟩
  have HP6 := hid (HP5.out.below b)
  have R6 := hid (row_below R5.out b)
  have B6 := hid (B5.out.trans (b.mono B5.out.size))
  have X6 := hid (row_below HX.out b)
  clear b HP5 R5 B5 HX p0 p1 p2
  have HP7 := hid (HP6.out.below (below_alloc0 w6 (obO 0 0 0 0 (.slice none 0 0))))
  have R7 := hid (row_below R6.out (below_alloc0 w6 (obO 0 0 0 0 (.slice none 0 0))))
  have B7 := hid (B6.out.trans ((below_alloc0 w6 (obO 0 0 0 0 (.slice none 0 0))).mono B6.out.size))
  have X7 := hid (row_below X6.out (below_alloc0 w6 (obO 0 0 0 0 (.slice none 0 0))))
  clear HP6 R6 B6 X6
  have p0 := at_row R7.out 0 rfl
  have p1 := at_row R7.out 1 rfl
  have p2 := at_row R7.out 2 rfl
  go_wp2_with (go_at_call 11; refine (Place_at _ _ cw1 chap7 1 32 _ 2 2 5 1 8 0 (w6.alloc (obO 0 0 0 0 (.slice none 0 0))) HP7.out (hid cw1_p)).mono ?_)
  rintro e w8 ⟨rfl, b⟩
  have HP8 := hid (HP7.out.below b)
  have R8 := hid (row_below R7.out b)
  have B8 := hid (B7.out.trans (b.mono B7.out.size))
  have X8 := hid (row_below X7.out b)
  clear b HP7 R7 B7 X7 p0 p1 p2
  have p0 := at_row R8.out 0 rfl
  have p1 := at_row R8.out 1 rfl
  have p2 := at_row R8.out 2 rfl
  go_wp2_with (go_at_call 13; refine (Walk_ok _ _ cw1 chap7 1 32 _ 2 2 0 0 32 5 37 29 w8 HP8.out rfl rfl rfl (ends_of _ _ _ _ cw1_w.2)).mono ?_)
  rintro e w9 ⟨v, rfl, hf, b⟩
  rw [cw1_w.1] at hf
  obtain ⟨lv, lc, rfl, hf⟩ := hf
  rcases hf with hf | ⟨lb, lo, rfl, _, hf⟩
  · cases hf
  have L9 := hid (hf 0 (by decide))
  have HP9 := hid (HP8.out.below b)
  have R9 := hid (row_below R8.out b)
  have B9 := hid (B8.out.trans (b.mono B8.out.size))
  have X9 := hid (row_below X8.out b)
  clear b HP8 R8 B8 X8 p0 p1 p2 hf
  have p0 := at_row R9.out 0 rfl
  have p1 := at_row R9.out 1 rfl
  have p2 := at_row R9.out 2 rfl
  go_wp2_with (go_at_call 13; refine (Walk_ok _ _ cw1 chap7 1 32 _ 2 2 0 1 32 6 37 31 w9 HP9.out rfl rfl rfl (ends_of _ _ _ _ cw1_v.2)).mono ?_)
  rintro e wa ⟨v, rfl, hf, b⟩
  rw [cw1_v.1] at hf
  obtain ⟨mv, mc, rfl, hf⟩ := hf
  have La := hcell_below L9.out b
  have Ba := hid (B9.out.trans (b.mono B9.out.size))
  have Xa := row_below X9.out b
  have x1 := at_row Xa 1 rfl
  have x4 := at_row Xa 4 rfl
  clear b HP9 R9 B9 X9 p0 p1 p2 hf L9 Xa
  rw [show wat [5] 0 = (5 : Int) from rfl, Nat.add_zero] at La
  go_wp2_with (go_at_call 9; refine (onum_any _ _).mono ?_; rintro e w' ⟨rfl, hw⟩; rw [hw]; clear hw)
  go_ret
  exact ⟨rfl, Ba.out⟩
end Go.Proofs.YtldfmlkjeniemaaDoor
/- The laws' own has: an arena has just these words. -/
namespace Go.Proofs.YtldfmlkjeniemaaDoor
open Go.RowKit Go.Shelf
attribute [local go_sem] Oper.semAt_some
theorem abox_own {A B : World} {row : Option Nat} {b : Nat} {t : TypeId} {v : Value} (h : Boxed A b t v) (hg : A.grownBy B row) (hr : ∀ r, row = some r → ∃ o : Obj, A.heap[r]? = some o ∧ o.isCells = false) : Boxed B b t v :=
  boxed_own (β := Unit) b t (fun _ => v) () A B row h hg hr
theorem abox_last (w : World) (g : Nat) (hg : g = w.heap.size) (t : TypeId) (v : Value) : Boxed (w.alloc (.cells #[v] t)) g t v := by
  subst hg; exact Boxed.new w t v
/-- A loop is left where a word is not the one that it should be. -/
def BadW (xs : List Int) (pre : List (Nat × Int)) : Prop := ∃ ini last, pre = ini ++ [last] ∧ last ≠ (ini.length, wat xs ini.length)
theorem BadW.no {xs : List Int} {k : Nat} (h : BadW xs (ups xs k)) : False := by
  obtain ⟨ini, last, e1, e2⟩ := h
  cases k with
  | zero => simp [ups] at e1
  | succ k =>
    rw [ups_succ] at e1
    obtain ⟨rfl, e5⟩ := List.append_inj' e1 rfl
    rw [ups_length] at e2
    exact e2 (by simpa using e5.symm)
/-- What has' boxes hold: the list, the answer, the arena's words, how many were met. -/
def HasB (w : World) (l s : Value) (n : Int) (W : World) : Prop :=
  Boxed W w.heap.size 25 l ∧ (∃ v, Boxed W (w.heap.size + 1) 4 v) ∧ Boxed W (w.heap.size + 1 + 1) 56 s ∧ Boxed W (w.heap.size + 1 + 1 + 1) 3 (.int .i64 n) ∧ Below w.heap.size w W
theorem HasB.own {w A B : World} {l s : Value} {n : Int} {row : Option Nat} {C : Nat} (h : HasB w l s n A) (hC : w.heap.size ≤ C) (hg : A.grownBy B row) (hr : ∀ r, row = some r → C ≤ r ∧ ∃ o : Obj, A.heap[r]? = some o ∧ o.isCells = false) : HasB w l s n B := by
  obtain ⟨h0, ⟨v1, h1⟩, h2, h3, hb⟩ := h
  have hr' := fun r e => (hr r e).2
  exact ⟨abox_own h0 hg hr', ⟨_, abox_own h1 hg hr'⟩, abox_own h2 hg hr', abox_own h3 hg hr', hb.grown hg hb.size (fun k e => Nat.le_trans hC (hr k e).1)⟩
theorem HasB.setN {w A : World} {l s : Value} {n : Int} (h : HasB w l s n A) (m : Int) : HasB w l s m (A.setCell ⟨w.heap.size + 1 + 1 + 1, 0, none⟩ (.int .i64 m)) := by
  obtain ⟨h0, ⟨v1, h1⟩, h2, h3, hb⟩ := h
  exact ⟨h0.other (by omega) _, ⟨_, h1.other (by omega) _⟩, h2.other (by omega) _, h3.set _, hb.setCell (p := ⟨w.heap.size + 1 + 1 + 1, 0, none⟩) (by show w.heap.size ≤ w.heap.size + 1 + 1 + 1; omega) _⟩
theorem HasB.setR {w A : World} {l s : Value} {n : Int} (h : HasB w l s n A) (v : Value) : HasB w l s n (A.setCell ⟨w.heap.size + 1, 0, none⟩ v) := by
  obtain ⟨h0, ⟨v1, h1⟩, h2, h3, hb⟩ := h
  exact ⟨h0.other (by omega) _, ⟨_, h1.set _⟩, h2.other (by omega) _, h3.other (by omega) _, hb.setCell (p := ⟨w.heap.size + 1, 0, none⟩) (by show w.heap.size ≤ w.heap.size + 1; omega) _⟩
theorem HasB.size {w A : World} {l s : Value} {n : Int} (h : HasB w l s n A) : w.heap.size + 4 ≤ A.heap.size := h.2.2.2.1.lt
theorem hasB_start (w : World) (l s : Value) (nq : Nat) : HasB w l s 0 (((((w.alloc (.cells #[l] 25)).alloc (.cells #[.bool false] 4)).alloc (.cells #[s] 56)).drewN nq).alloc (.cells #[.int .i64 0] 3)) := by
  have k : ∀ {W : World} {g : Nat} {t : TypeId} {v : Value}, Boxed W g t v → Boxed (W.drewN nq) g t v := fun h => h
  refine ⟨(k (((Boxed.new w _ _).alloc _).alloc _)).alloc _, ⟨_, (k ((abox_last _ _ (by simp) _ _).alloc _)).alloc _⟩, (k (abox_last _ _ (by simp) _ _)).alloc _, abox_last _ _ (by simp [World.drewN]) _ _, ?_⟩
  exact (bdrewN ((((Below.refl _ w).alloc (Nat.le_refl _) _).alloc (by simp) _).alloc (by simp; omega) _) nq).alloc (by simp [World.drewN]; omega) _
end Go.Proofs.YtldfmlkjeniemaaDoor
