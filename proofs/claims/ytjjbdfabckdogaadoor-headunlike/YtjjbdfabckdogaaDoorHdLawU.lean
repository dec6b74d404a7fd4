/- The walks of the laws HeadUnlike, HeadMarks. -/
import Derived.Test.YtjjbdfabckdogaaDoorHdWorks
namespace Go.Proofs.YtjjbdfabckdogaaDoor
open Go.RowKit Go.Hd Go.Sh
set_option maxHeartbeats 4000000 in
theorem headUnlike_a (a b p q : Int) (t : Bool) (w : World) (hN : Names w) (a0 : 0 ≤ a) (a1 : a ≤ 18446744073709551615) (b0 : 0 ≤ b) (b1 : b ≤ 18446744073709551615) (ha : isH a = false) (hb : ofv b = (p, q, t)) :
    Calls Tryd.prog 7 #[.int .u64 a, .int .u64 b] w fun e w' => e = .returned (.bool true) ∧ Below w.heap.size w w' := by
  have HN := hid hN
  have cA := fun W => of_no a W a0 a1 ha
  have cB := fun W => of_at b p q t W b0 b1 hb
  clear hN ha hb a0 a1 b0 b1
  go_enter Tryd.func7, Tryd.ntmps7
  go_wp2_with (go_at_call 11; refine (cA _).mono ?_)
  rintro e w1 ⟨rfl, b1⟩
  have B1 := hid b1
  clear b1
  go_wp2_with (go_at_call 11; refine (cB _).mono ?_)
  rintro e w2 ⟨rfl, b2⟩
  have B2 := hid (B1.out.trans ((bel1 b2).mono B1.out.size))
  clear b2 B1
  go_wp2_with (go_at_call 13; refine (works_any _ (HN.out.below (B2.out.alloc B2.out.size _))).mono ?_)
  rintro e w3 ⟨rfl, b3⟩
  go_wp2
  go_ret
  exact ⟨rfl, B2.out.trans ((bel1 b3).mono B2.out.size)⟩
set_option maxHeartbeats 4000000 in
theorem headUnlike_b (a b : Int) (w : World) (hN : Names w) (a0 : 0 ≤ a) (a1 : a ≤ 18446744073709551615) (b0 : 0 ≤ b) (b1 : b ≤ 18446744073709551615) (ha : isH a = true) (hb : isH b = false) :
    Calls Tryd.prog 7 #[.int .u64 a, .int .u64 b] w fun e w' => e = .returned (.bool true) ∧ Below w.heap.size w w' := by
  have HN := hid hN
  have cA := fun W => of_yes a W a0 a1 ha
  have cB := fun W => of_no b W b0 b1 hb
  generalize a / 32 = p at *
  generalize a / 8 % 4 = q at *
  clear hN ha hb a0 a1 b0 b1
  go_enter Tryd.func7, Tryd.ntmps7
  go_wp2_with (go_at_call 11; refine (cA _).mono ?_)
  rintro e w1 ⟨rfl, b1⟩
  have B1 := hid b1
  clear b1
  go_wp2_with (go_at_call 11; refine (cB _).mono ?_)
  rintro e w2 ⟨rfl, b2⟩
  have B2 := hid (B1.out.trans ((bel1 b2).mono B1.out.size))
  clear b2 B1
  go_wp2_with (go_at_call 13; refine (works_any _ (HN.out.below (B2.out.alloc B2.out.size _))).mono ?_)
  rintro e w3 ⟨rfl, b3⟩
  go_wp2
  go_ret
  exact ⟨rfl, B2.out.trans ((bel1 b3).mono B2.out.size)⟩
set_option maxHeartbeats 4000000 in
theorem headUnlike_same (a p q : Int) (w : World) (hN : Names w) (cA : ∀ W, Calls Tryd.prog 11 #[.int .u64 a] W fun e w' => e = .returned (.tuple #[.agg #[.int .i64 p, .int .i64 q], .bool true]) ∧ Below W.heap.size W w')
    (cB : ∀ W, Calls Tryd.prog 11 #[.int .u64 a] W fun e w' => e = .returned (.tuple #[.agg #[.int .i64 p, .int .i64 q], .bool true]) ∧ Below W.heap.size W w')  :
    Calls Tryd.prog 7 #[.int .u64 a, .int .u64 a] w fun e w' => e = .returned (.bool true) ∧ Below w.heap.size w w' := by
  have HN := hid hN
  clear hN
  go_enter Tryd.func7, Tryd.ntmps7
  go_wp2_with (go_at_call 11; refine (cA _).mono ?_)
  rintro e w1 ⟨rfl, b1⟩
  have B1 := hid b1
  clear b1
  go_wp2_with (go_at_call 11; refine (cB _).mono ?_)
  rintro e w2 ⟨rfl, b2⟩
  have R2 := hid (row1 b2)
  have Z2 := siz1 b2
  have B2 := hid (B1.out.trans ((bel1 b2).mono B1.out.size))
  have c0 := at_row R2.out 0 rfl
  have c1 := at_row R2.out 1 rfl
  clear b2 B1 R2
  go_wp2_with (go_at_call 13; refine (works_any _ (HN.out.below (B2.out.alloc B2.out.size _))).mono ?_)
  rintro e w3 ⟨rfl, b3⟩
  go_wp2
  go_ret
  exact ⟨rfl, B2.out.trans ((bel1 b3).mono B2.out.size)⟩
set_option maxHeartbeats 4000000 in
theorem headUnlike_shape (a b p q r t : Int) (w : World) (hN : Names w) (cA : ∀ W, Calls Tryd.prog 11 #[.int .u64 a] W fun e w' => e = .returned (.tuple #[.agg #[.int .i64 p, .int .i64 q], .bool true]) ∧ Below W.heap.size W w')
    (cB : ∀ W, Calls Tryd.prog 11 #[.int .u64 b] W fun e w' => e = .returned (.tuple #[.agg #[.int .i64 r, .int .i64 t], .bool true]) ∧ Below W.heap.size W w') (h1 : (a == b) = false) (h2 : (p == r) = false) :
    Calls Tryd.prog 7 #[.int .u64 a, .int .u64 b] w fun e w' => e = .returned (.bool true) ∧ Below w.heap.size w w' := by
  have HN := hid hN
  clear hN
  go_enter Tryd.func7, Tryd.ntmps7
  go_wp2_with (go_at_call 11; refine (cA _).mono ?_)
  rintro e w1 ⟨rfl, b1⟩
  have B1 := hid b1
  clear b1
  go_wp2_with (go_at_call 11; refine (cB _).mono ?_)
  rintro e w2 ⟨rfl, b2⟩
  have R2 := hid (row1 b2)
  have Z2 := siz1 b2
  have B2 := hid (B1.out.trans ((bel1 b2).mono B1.out.size))
  have c0 := at_row R2.out 0 rfl
  have c1 := at_row R2.out 1 rfl
  clear b2 B1 R2
  go_wp2_with (go_at_call 13; refine (works_any _ (HN.out.below (B2.out.alloc B2.out.size _))).mono ?_)
  rintro e w3 ⟨rfl, b3⟩
  go_wp2
  go_ret
  exact ⟨rfl, B2.out.trans ((bel1 b3).mono B2.out.size)⟩
set_option maxHeartbeats 4000000 in
theorem headUnlike_mark (a b p q t : Int) (w : World) (hN : Names w) (cA : ∀ W, Calls Tryd.prog 11 #[.int .u64 a] W fun e w' => e = .returned (.tuple #[.agg #[.int .i64 p, .int .i64 q], .bool true]) ∧ Below W.heap.size W w')
    (cB : ∀ W, Calls Tryd.prog 11 #[.int .u64 b] W fun e w' => e = .returned (.tuple #[.agg #[.int .i64 p, .int .i64 t], .bool true]) ∧ Below W.heap.size W w') (h1 : (a == b) = false) (h2 : (q == t) = false) :
    Calls Tryd.prog 7 #[.int .u64 a, .int .u64 b] w fun e w' => e = .returned (.bool true) ∧ Below w.heap.size w w' := by
  have HN := hid hN
  clear hN
  go_enter Tryd.func7, Tryd.ntmps7
  go_wp2_with (go_at_call 11; refine (cA _).mono ?_)
  rintro e w1 ⟨rfl, b1⟩
  have B1 := hid b1
  clear b1
  go_wp2_with (go_at_call 11; refine (cB _).mono ?_)
  rintro e w2 ⟨rfl, b2⟩
  have R2 := hid (row1 b2)
  have Z2 := siz1 b2
  have B2 := hid (B1.out.trans ((bel1 b2).mono B1.out.size))
  have c0 := at_row R2.out 0 rfl
  have c1 := at_row R2.out 1 rfl
  clear b2 B1 R2
  go_wp2_with (go_at_call 13; refine (works_any _ (HN.out.below (B2.out.alloc B2.out.size _))).mono ?_)
  rintro e w3 ⟨rfl, b3⟩
  go_wp2
  go_ret
  exact ⟨rfl, B2.out.trans ((bel1 b3).mono B2.out.size)⟩
theorem headUnlike_walk (a b : Int) (w : World) (hN : Names w) (a0 : 0 ≤ a) (a1 : a ≤ 18446744073709551615) (b0 : 0 ≤ b) (b1 : b ≤ 18446744073709551615) :
    Calls Tryd.prog 7 #[.int .u64 a, .int .u64 b] w fun e w' => e = .returned (.bool true) ∧ Below w.heap.size w w' := by
  by_cases ha : isH a = true
  · by_cases hb : isH b = true
    · have ia := (isH_is ha).2.2
      have ib := (isH_is hb).2.2
      have cA := fun W => of_yes a W a0 a1 ha
      have cB := fun W => of_yes b W b0 b1 hb
      by_cases he : a = b
      · subst he
        exact headUnlike_same a _ _ w hN cA cA
      · have he' : (a == b) = false := by simpa using he
        by_cases hs : a / 32 = b / 32
        · rw [← hs] at cB ib
          exact headUnlike_mark a b _ _ _ w hN cA cB he' (by
            rw [beq_eq_false_iff_ne]
            intro hm
            rw [hm] at ia
            exact he (ia.symm.trans ib))
        · exact headUnlike_shape a b _ _ _ _ w hN cA cB he' (by simpa using hs)
    · exact headUnlike_b a b w hN a0 a1 b0 b1 ha (by simpa using hb)
  · exact headUnlike_a a b _ _ _ w hN a0 a1 b0 b1 (by simpa using ha) rfl
end Go.Proofs.YtjjbdfabckdogaaDoor
