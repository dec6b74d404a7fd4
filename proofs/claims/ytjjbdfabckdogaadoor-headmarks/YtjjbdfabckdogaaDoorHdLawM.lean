/- The walk of the law HeadMarks. -/
import Derived.Test.YtjjbdfabckdogaaDoorHdWorks
namespace Go.Proofs.YtjjbdfabckdogaaDoor
open Go.RowKit Go.Hd Go.Sh
set_option maxHeartbeats 4000000 in
theorem headMarks_none (x a b : Int) (w : World) (hN : Names w) (cO : ∀ W, Calls Tryd.prog 11 #[.int .u64 x] W fun e w' => e = .returned (.tuple #[.agg #[.int .i64 0, .int .i64 0], .bool false]) ∧ Below W.heap.size W w')
    (cA : ∀ W, Calls Tryd.prog 15 #[.int .u64 x, .int .i64 a] W fun e w' => e = .returned (.tuple #[.int .u64 0, .int .i64 2]) ∧ Below W.heap.size W w') (cB : ∀ W, Calls Tryd.prog 15 #[.int .u64 x, .int .i64 b] W fun e w' => e = .returned (.tuple #[.int .u64 0, .int .i64 2]) ∧ Below W.heap.size W w') :
    Calls Tryd.prog 8 #[.int .u64 x, .int .i64 a, .int .i64 b] w fun e w' => e = .returned (.bool true) ∧ Below w.heap.size w w' := by
  have HN := hid hN
  clear hN
  go_enter Tryd.func8, Tryd.ntmps8
  go_wp2_with (go_at_call 11; refine (cO _).mono ?_)
  rintro e w1 ⟨rfl, b1⟩
  have B1 := hid b1
  clear b1
  go_wp2_with (go_at_call 15; refine (cA _).mono ?_)
  rintro e w2 ⟨rfl, b2⟩
  have R2 := hid (row1 b2)
  have Z2 := hid (siz1 b2)
  have B2 := hid (B1.out.trans ((bel1 b2).mono B1.out.size))
  clear b2 B1
  go_wp2_with (go_at_call 15; refine (cB _).mono ?_)
  rintro e w3 ⟨rfl, b3⟩
  have R3 := hid ((b3.block _ Z2.out).trans R2.out)
  have Z3 := hid (Nat.lt_of_lt_of_le Z2.out b3.size)
  have B3 := hid (B2.out.trans (b3.mono B2.out.size))
  clear b3 B2 R2 Z2
  go_wp2_with (first | (go_at_call 12; refine (num_any _ _).mono ?_; rintro e w9 ⟨rfl, hw⟩; rw [hw]; clear hw) | (go_at_call 13; refine (works_any _ (HN.out.below B3.out)).mono ?_))
  rintro e w4 ⟨rfl, b4⟩
  go_wp2
  go_ret
  exact ⟨rfl, B3.out.trans (b4.mono B3.out.size)⟩
set_option maxHeartbeats 4000000 in
theorem headMarks_no (x a b s t u v c d : Int) (w : World) (hN : Names w) (cO : ∀ W, Calls Tryd.prog 11 #[.int .u64 x] W fun e w' => e = .returned (.tuple #[.agg #[.int .i64 s, .int .i64 t], .bool true]) ∧ Below W.heap.size W w')
    (cA : ∀ W, Calls Tryd.prog 15 #[.int .u64 x, .int .i64 a] W fun e w' => e = .returned (.tuple #[.int .u64 u, .int .i64 c]) ∧ Below W.heap.size W w') (cB : ∀ W, Calls Tryd.prog 15 #[.int .u64 x, .int .i64 b] W fun e w' => e = .returned (.tuple #[.int .u64 v, .int .i64 d]) ∧ Below W.heap.size W w') (c0 : 0 ≤ c) (c2 : c ≤ 2) (d0 : 0 ≤ d) (d2 : d ≤ 2) (hcd : (c + d != 0) = true) :
    Calls Tryd.prog 8 #[.int .u64 x, .int .i64 a, .int .i64 b] w fun e w' => e = .returned (.bool true) ∧ Below w.heap.size w w' := by
  have HN := hid hN
  clear hN
  go_enter Tryd.func8, Tryd.ntmps8
  go_wp2_with (go_at_call 11; refine (cO _).mono ?_)
  rintro e w1 ⟨rfl, b1⟩
  have B1 := hid b1
  clear b1
  go_wp2_with (go_at_call 15; refine (cA _).mono ?_)
  rintro e w2 ⟨rfl, b2⟩
  have R2 := hid (row1 b2)
  have Z2 := hid (siz1 b2)
  have B2 := hid (B1.out.trans ((bel1 b2).mono B1.out.size))
  clear b2 B1
  go_wp2_with (go_at_call 15; refine (cB _).mono ?_)
  rintro e w3 ⟨rfl, b3⟩
  have R3 := hid ((b3.block _ Z2.out).trans R2.out)
  have Z3 := hid (Nat.lt_of_lt_of_le Z2.out b3.size)
  have B3 := hid (B2.out.trans (b3.mono B2.out.size))
  clear b3 B2 R2 Z2
  go_wp2_with (first | (go_at_call 12; refine (num_any _ _).mono ?_; rintro e w9 ⟨rfl, hw⟩; rw [hw]; clear hw) | (go_at_call 13; refine (works_any _ (HN.out.below B3.out)).mono ?_))
  rintro e w4 ⟨rfl, b4⟩
  go_wp2
  go_ret
  exact ⟨rfl, B3.out.trans (b4.mono B3.out.size)⟩
set_option maxHeartbeats 8000000 in
theorem headMarks_same (x a s t u : Int) (w : World) (hN : Names w) (cO : ∀ W, Calls Tryd.prog 11 #[.int .u64 x] W fun e w' => e = .returned (.tuple #[.agg #[.int .i64 s, .int .i64 t], .bool true]) ∧ Below W.heap.size W w')
    (cA : ∀ W, Calls Tryd.prog 15 #[.int .u64 x, .int .i64 a] W fun e w' => e = .returned (.tuple #[.int .u64 u, .int .i64 0]) ∧ Below W.heap.size W w')
    (cB : ∀ W, Calls Tryd.prog 15 #[.int .u64 x, .int .i64 a] W fun e w' => e = .returned (.tuple #[.int .u64 u, .int .i64 0]) ∧ Below W.heap.size W w')
    (cG : ∀ W, Calls Tryd.prog 15 #[.int .u64 u, .int .i64 a] W fun e w' => e = .returned (.tuple #[.int .u64 u, .int .i64 0]) ∧ Below W.heap.size W w')
    (cH : ∀ W, Calls Tryd.prog 15 #[.int .u64 x, .int .i64 t] W fun e w' => e = .returned (.tuple #[.int .u64 x, .int .i64 0]) ∧ Below W.heap.size W w')  :
    Calls Tryd.prog 8 #[.int .u64 x, .int .i64 a, .int .i64 a] w fun e w' => e = .returned (.bool true) ∧ Below w.heap.size w w' := by
  have HN := hid hN
  clear hN
  go_enter Tryd.func8, Tryd.ntmps8
  go_wp2_with (go_at_call 11; refine (cO _).mono ?_)
  rintro e w1 ⟨rfl, b1⟩
  have B1 := hid b1
  clear b1
  go_wp2_with (go_at_call 15; refine (cA _).mono ?_)
  rintro e w2 ⟨rfl, b2⟩
  have R2 := hid (row1 b2)
  have Z2 := hid (siz1 b2)
  have B2 := hid (B1.out.trans ((bel1 b2).mono B1.out.size))
  clear b2 B1
  go_wp2_with (go_at_call 15; refine (cB _).mono ?_)
  rintro e w3 ⟨rfl, b3⟩
  have R3 := hid ((b3.block _ Z2.out).trans R2.out)
  have Z3 := hid (Nat.lt_of_lt_of_le Z2.out b3.size)
  have B3 := hid (B2.out.trans (b3.mono B2.out.size))
  clear b3 B2 R2 Z2
  go_wp2_with (first | (go_at_call 12; refine (num_any _ _).mono ?_; rintro e w9 ⟨rfl, hw⟩; rw [hw]; clear hw) | (go_at_call 15; refine (cG _).mono ?_))
  rintro e w4 ⟨rfl, b4⟩
  have R4 := hid ((b4.block _ Z3.out).trans R3.out)
  have c1 := at_row R4.out 1 rfl
  have B4 := hid (B3.out.trans (b4.mono B3.out.size))
  clear b4 B3 R3 Z3 R4
  go_wp2_with (go_at_call 15; refine (cH _).mono ?_)
  rintro e w5 ⟨rfl, b5⟩
  have B5 := hid (B4.out.trans (b5.mono B4.out.size))
  clear b5 B4 c1
  go_wp2_with (first | (go_at_call 12; refine (num_any _ _).mono ?_; rintro e w9 ⟨rfl, hw⟩; rw [hw]; clear hw) | (go_at_call 13; refine (works_any _ (HN.out.below B5.out)).mono ?_))
  rintro e w6 ⟨rfl, b6⟩
  go_wp2
  go_ret
  exact ⟨rfl, B5.out.trans (b6.mono B5.out.size)⟩
set_option maxHeartbeats 8000000 in
theorem headMarks_two (x a b s t u v : Int) (w : World) (hN : Names w) (cO : ∀ W, Calls Tryd.prog 11 #[.int .u64 x] W fun e w' => e = .returned (.tuple #[.agg #[.int .i64 s, .int .i64 t], .bool true]) ∧ Below W.heap.size W w')
    (cA : ∀ W, Calls Tryd.prog 15 #[.int .u64 x, .int .i64 a] W fun e w' => e = .returned (.tuple #[.int .u64 u, .int .i64 0]) ∧ Below W.heap.size W w')
    (cB : ∀ W, Calls Tryd.prog 15 #[.int .u64 x, .int .i64 b] W fun e w' => e = .returned (.tuple #[.int .u64 v, .int .i64 0]) ∧ Below W.heap.size W w')
    (cG : ∀ W, Calls Tryd.prog 15 #[.int .u64 u, .int .i64 b] W fun e w' => e = .returned (.tuple #[.int .u64 v, .int .i64 0]) ∧ Below W.heap.size W w')
    (cH : ∀ W, Calls Tryd.prog 15 #[.int .u64 x, .int .i64 t] W fun e w' => e = .returned (.tuple #[.int .u64 x, .int .i64 0]) ∧ Below W.heap.size W w') (h1 : (u == v) = false) (h2 : (a == b) = false) :
    Calls Tryd.prog 8 #[.int .u64 x, .int .i64 a, .int .i64 b] w fun e w' => e = .returned (.bool true) ∧ Below w.heap.size w w' := by
  have HN := hid hN
  clear hN
  go_enter Tryd.func8, Tryd.ntmps8
  go_wp2_with (go_at_call 11; refine (cO _).mono ?_)
  rintro e w1 ⟨rfl, b1⟩
  have B1 := hid b1
  clear b1
  go_wp2_with (go_at_call 15; refine (cA _).mono ?_)
  rintro e w2 ⟨rfl, b2⟩
  have R2 := hid (row1 b2)
  have Z2 := hid (siz1 b2)
  have B2 := hid (B1.out.trans ((bel1 b2).mono B1.out.size))
  clear b2 B1
  go_wp2_with (go_at_call 15; refine (cB _).mono ?_)
  rintro e w3 ⟨rfl, b3⟩
  have R3 := hid ((b3.block _ Z2.out).trans R2.out)
  have Z3 := hid (Nat.lt_of_lt_of_le Z2.out b3.size)
  have B3 := hid (B2.out.trans (b3.mono B2.out.size))
  clear b3 B2 R2 Z2
  go_wp2_with (first | (go_at_call 12; refine (num_any _ _).mono ?_; rintro e w9 ⟨rfl, hw⟩; rw [hw]; clear hw) | (go_at_call 15; refine (cG _).mono ?_))
  rintro e w4 ⟨rfl, b4⟩
  have R4 := hid ((b4.block _ Z3.out).trans R3.out)
  have c1 := at_row R4.out 1 rfl
  have B4 := hid (B3.out.trans (b4.mono B3.out.size))
  clear b4 B3 R3 Z3 R4
  go_wp2_with (go_at_call 15; refine (cH _).mono ?_)
  rintro e w5 ⟨rfl, b5⟩
  have B5 := hid (B4.out.trans (b5.mono B4.out.size))
  clear b5 B4 c1
  go_wp2_with (first | (go_at_call 12; refine (num_any _ _).mono ?_; rintro e w9 ⟨rfl, hw⟩; rw [hw]; clear hw) | (go_at_call 13; refine (works_any _ (HN.out.below B5.out)).mono ?_))
  rintro e w6 ⟨rfl, b6⟩
  go_wp2
  go_ret
  exact ⟨rfl, B5.out.trans (b6.mono B5.out.size)⟩
theorem mkd_bd (x m : Int) : 0 ≤ (mkd x m).2 ∧ (mkd x m).2 ≤ 2 := by
  unfold mkd; split <;> simp
theorem headMarks_walk (x a b : Int) (w : World) (hN : Names w) (x0 : 0 ≤ x) (x1 : x ≤ 18446744073709551615) :
    Calls Tryd.prog 8 #[.int .u64 x, .int .i64 a, .int .i64 b] w fun e w' => e = .returned (.bool true) ∧ Below w.heap.size w w' := by
  by_cases hi : isH x = true
  · have cO := fun W => of_yes x W x0 x1 hi
    obtain ⟨h1, _, hw⟩ := isH_is hi
    by_cases ha : mk a = true
    · by_cases hb : mk b = true
      · have hoa : ok (x / 32) a = true := (isH_ok hi a).trans ha
        have hob : ok (x / 32) b = true := (isH_ok hi b).trans hb
        obtain ⟨i1, i2, i3, i4, i5⟩ := isH_wd hoa
        obtain ⟨j1, j2, j3, j4, j5⟩ := isH_wd hob
        have cA := fun W => marked_at x a _ _ W x0 x1 (mkd_in hi ha)
        have cB := fun W => marked_at x b _ _ W x0 x1 (mkd_in hi hb)
        have cG := fun W => marked_at (wd (x / 32) a) b (wd (x / 32) b) 0 W i4 (by omega) (by rw [mkd_in i1 hb, i2])
        have cH := fun W => marked_at x (x / 8 % 4) x 0 W x0 x1 (by
          have hm : mk (x / 8 % 4) = true := by rw [← isH_ok hi]; exact h1
          rw [mkd_in hi hm, hw])
        by_cases he : a = b
        · subst he
          exact headMarks_same x a _ _ _ w hN cO cA cA cG cH
        · exact headMarks_two x a b _ _ _ _ w hN cO cA cB cG cH (by
            rw [beq_eq_false_iff_ne]
            intro e
            exact he (by rw [← i3, ← j3, e])) (by simpa using he)
      · have hb' : mk b = false := by simpa using hb
        exact headMarks_no x a b _ _ _ _ _ _ w hN cO (fun W => marked_at x a _ _ W x0 x1 (mkd_in hi ha)) (fun W => marked_at x b _ _ W x0 x1 (mkd_out hb')) (by decide) (by decide) (by decide) (by decide) (by decide)
    · have ha' : mk a = false := by simpa using ha
      have hbd := mkd_bd x b
      have hne : (2 + (mkd x b).2 != 0) = true := by rw [bne_iff_ne]; omega
      exact headMarks_no x a b _ _ 0 (mkd x b).1 2 (mkd x b).2 w hN cO (fun W => marked_at x a _ _ W x0 x1 (mkd_out ha')) (fun W => marked_at x b _ _ W x0 x1 rfl) (by decide) (by decide) hbd.1 hbd.2 hne
  · have hi' : isH x = false := by simpa using hi
    exact headMarks_none x a b w hN (fun W => of_no x W x0 x1 hi') (fun W => marked_at x a _ _ W x0 x1 (mkd_no hi')) (fun W => marked_at x b _ _ W x0 x1 (mkd_no hi'))
end Go.Proofs.YtjjbdfabckdogaaDoor
