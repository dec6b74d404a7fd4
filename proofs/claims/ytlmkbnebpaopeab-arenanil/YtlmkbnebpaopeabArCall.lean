/- package arena: Do in one, Load, Store, Cas, Copy. -/
import Derived.Test.YtlmkbnebpaopeabArTop
namespace Go.Proofs.Ytlmkbnebpaopeab
open Go.RowKit
/-- The words behind an access, its answer, an error. -/
def dof (xs : List Int) (k p o n : Int) : List Int × Int × Int :=
  if ck k p o n = false then (xs, 0, 2)
  else if k = 0 then (xs, 0, 0)
  else if (decide (0 ≤ p) && decide (p < xs.length)) = false then (xs, 0, 4)
  else if k = 1 then (xs, wat xs p.toNat, 0)
  else if k = 2 then (xs.set p.toNat n, 0, 0)
  else if wat xs p.toNat = o then (xs.set p.toNat n, wat xs p.toNat, 0)
  else (xs, wat xs p.toNat, 0)
theorem ck_cases {k p o n : Int} (h : ck k p o n = true) : (k = 0 ∧ p = 0 ∧ o = 0 ∧ n = 0) ∨ (k = 1 ∧ o = 0 ∧ n = 0) ∨ (k = 2 ∧ o = 0) ∨ k = 3 := by
  simp [ck] at h; omega
theorem Do_at (A B : Nat) (xs ys : List Int) (k p o n a er : Int) (w : World) (h : IsAr w A B xs) (n0 : 0 ≤ n) (n1 : n ≤ 18446744073709551615) (H : Hid (dof xs k p o n = (ys, a, er))) :
    Calls Try.prog 7 #[.pointer (some ⟨A, 0, none⟩), acc k p o n] w fun e w' => e = .returned (.tuple #[.int .u64 a, .int .i64 er]) ∧ IsAr w' A B ys ∧ w.grownBy w' (some B) := by
  have hd := H.out
  clear H
  unfold dof at hd
  by_cases hk : ck k p o n = false
  · rw [if_pos hk] at hd
    cases hd
    refine (Do_arg A B xs k p o n w h hk).mono ?_
    rintro e w' ⟨rfl, b⟩
    exact ⟨rfl, h.below b, grown_below b _⟩
  · rw [if_neg hk] at hd
    have hk' : ck k p o n = true := by simpa using hk
    rcases ck_cases hk' with ⟨rfl, rfl, rfl, rfl⟩ | hc
    · rw [if_pos rfl] at hd
      cases hd
      refine (Do_0 A B xs w h hk').mono ?_
      rintro e w' ⟨rfl, b⟩
      exact ⟨rfl, h.below b, grown_below b _⟩
    · rw [if_neg (by omega)] at hd
      by_cases hp : (decide (0 ≤ p) && decide (p < xs.length)) = false
      · rw [if_pos hp] at hd
        cases hd
        refine (Do_range A B xs k p o n w h hk' hp).mono ?_
        rintro e w' ⟨rfl, b⟩
        exact ⟨rfl, h.below b, grown_below b _⟩
      · rw [if_neg hp] at hd
        simp at hp
        obtain ⟨q, rfl⟩ := Int.eq_ofNat_of_zero_le hp.1
        have hq : q < xs.length := by omega
        rw [Int.toNat_natCast] at hd
        rcases hc with ⟨rfl, rfl, rfl⟩ | ⟨rfl, rfl⟩ | rfl
        · rw [if_pos rfl] at hd
          cases hd
          refine (Do_1 A B xs q w h hk' hq).mono ?_
          rintro e w' ⟨rfl, b⟩
          exact ⟨rfl, h.below b, grown_below b _⟩
        · rw [if_neg (by decide), if_pos rfl] at hd
          cases hd
          exact Do_2 A B xs n q w h hk' hq n0 n1
        · rw [if_neg (by decide), if_neg (by decide)] at hd
          by_cases ho : wat xs q = o
          · rw [if_pos ho] at hd
            cases hd
            subst ho
            exact Do_3y A B xs n q w h hk' hq n0 n1
          · rw [if_neg ho] at hd
            cases hd
            refine (Do_3n A B xs o n q w h hk' hq (by simpa using ho)).mono ?_
            rintro e w' ⟨rfl, b⟩
            exact ⟨rfl, h.below b, grown_below b _⟩
theorem Load_at (A B : Nat) (xs ys : List Int) (p a er : Int) (w : World) (h : IsAr w A B xs) (H : Hid (dof xs 1 p 0 0 = (ys, a, er))) :
    Calls Try.prog 4 #[.pointer (some ⟨A, 0, none⟩), .int .i64 p] w fun e w' => e = .returned (.tuple #[.int .u64 a, .int .i64 er]) ∧ IsAr w' A B ys ∧ w.grownBy w' (some B) := by
  go_enter Try.func4, Try.ntmps4
  go_wp2_with (go_at_call 7; refine (Do_at A B xs ys 1 p 0 0 a er _ h (by omega) (by omega) H).mono ?_; rintro e w' ⟨rfl, a1, g1⟩)
  go_ret2
  exact ⟨rfl, a1, g1⟩
theorem Store_at (A B : Nat) (xs ys : List Int) (p n a er : Int) (w : World) (h : IsAr w A B xs) (n0 : 0 ≤ n) (n1 : n ≤ 18446744073709551615) (H : Hid (dof xs 2 p 0 n = (ys, a, er))) :
    Calls Try.prog 5 #[.pointer (some ⟨A, 0, none⟩), .int .i64 p, .int .u64 n] w fun e w' => e = .returned (.int .i64 er) ∧ IsAr w' A B ys ∧ w.grownBy w' (some B) := by
  go_enter Try.func5, Try.ntmps5
  go_wp2_with (go_at_call 7; refine (Do_at A B xs ys 2 p 0 n a er _ h n0 n1 H).mono ?_; rintro e w' ⟨rfl, a1, g1⟩)
  go_ret
  exact ⟨rfl, a1, g1⟩
theorem Cas_at (A B : Nat) (xs ys : List Int) (p o n a er : Int) (w : World) (h : IsAr w A B xs) (n0 : 0 ≤ n) (n1 : n ≤ 18446744073709551615) (H : Hid (dof xs 3 p o n = (ys, a, er))) :
    Calls Try.prog 6 #[.pointer (some ⟨A, 0, none⟩), .int .i64 p, .int .u64 o, .int .u64 n] w fun e w' => e = .returned (.tuple #[.int .u64 a, .int .i64 er]) ∧ IsAr w' A B ys ∧ w.grownBy w' (some B) := by
  go_enter Try.func6, Try.ntmps6
  go_wp2_with (go_at_call 7; refine (Do_at A B xs ys 3 p o n a er _ h n0 n1 H).mono ?_; rintro e w' ⟨rfl, a1, g1⟩)
  go_ret2
  exact ⟨rfl, a1, g1⟩
theorem Load_nil (q : Value) (c : Nat) (a : Option Addr) (p : Int) (w : World) (h : Faces w q (.slice a 0 c)) : Calls Try.prog 4 #[q, .int .i64 p] w fun e w' => e = .returned (.tuple #[.int .u64 0, .int .i64 1]) ∧ Below w.heap.size w w' := by
  go_enter Try.func4, Try.ntmps4
  go_wp2_with (go_at_call 7; refine (Do_nil q c a _ _ _ _ _ h).mono ?_; rintro e w' ⟨rfl, b1⟩)
  go_ret2
  exact ⟨rfl, b1⟩
theorem Store_nil (q : Value) (c : Nat) (a : Option Addr) (p n : Int) (w : World) (h : Faces w q (.slice a 0 c)) : Calls Try.prog 5 #[q, .int .i64 p, .int .u64 n] w fun e w' => e = .returned (.int .i64 1) ∧ Below w.heap.size w w' := by
  go_enter Try.func5, Try.ntmps5
  go_wp2_with (go_at_call 7; refine (Do_nil q c a _ _ _ _ _ h).mono ?_; rintro e w' ⟨rfl, b1⟩)
  go_ret
  exact ⟨rfl, b1⟩
theorem Cas_nil (q : Value) (c : Nat) (a : Option Addr) (p o n : Int) (w : World) (h : Faces w q (.slice a 0 c)) : Calls Try.prog 6 #[q, .int .i64 p, .int .u64 o, .int .u64 n] w fun e w' => e = .returned (.tuple #[.int .u64 0, .int .i64 1]) ∧ Below w.heap.size w w' := by
  go_enter Try.func6, Try.ntmps6
  go_wp2_with (go_at_call 7; refine (Do_nil q c a _ _ _ _ _ h).mono ?_; rintro e w' ⟨rfl, b1⟩)
  go_ret2
  exact ⟨rfl, b1⟩
theorem Copy_at (A B : Nat) (xs : List Int) (w : World) (h : IsAr w A B xs) : Calls Try.prog 12 #[.pointer (some ⟨A, 0, none⟩)] w fun e w' => e = .returned (.pointer (some ⟨w.heap.size + 1, 0, none⟩)) ∧ w' = made w xs := by
  have cl := list_at _ _ w h.faces
  go_enter Try.func12, Try.ntmps12
  go_wp2_with (first | (go_at_call 19; refine cl.mono ?_; rintro e w' ⟨rfl, hw⟩; rw [hw]; clear hw) | (go_at_call 21; refine (Of_yes B 0 _ xs _ h.ws h.pos h.le).mono ?_; rintro e w' ⟨rfl, hw⟩; rw [hw]; clear hw))
  go_ret
  exact ⟨rfl, rfl⟩
theorem Copy_nil (q : Value) (c : Nat) (a : Option Addr) (w : World) (h : Faces w q (.slice a 0 c)) : Calls Try.prog 12 #[q] w fun e w' => e = .returned (.pointer none) ∧ w' = w := by
  have cl := list_at _ _ w h
  go_enter Try.func12, Try.ntmps12
  go_wp2_with (first | (go_at_call 19; refine cl.mono ?_; rintro e w' ⟨rfl, hw⟩; rw [hw]; clear hw) | (go_at_call 21; refine (Of_no _ _ _ _ (by omega)).mono ?_; rintro e w' ⟨rfl, hw⟩; rw [hw]; clear hw))
  go_ret
  exact ⟨rfl, rfl⟩
end Go.Proofs.Ytlmkbnebpaopeab
