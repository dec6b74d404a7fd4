/- Plain mathematics of words of 64 bits (chapter 1): no program in it. -/
import Derived.Laws.BitsAllLaws
import Derived.RowKit
import Derived.WalkSmall
namespace Go.Wd
theorem andNot_one (b : Int) (h0 : 0 ≤ b) (h1 : b ≤ 18446744073709551615) : bits .andNot .u64 b 1 = b - b % 2 := by
  obtain ⟨n, rfl⟩ := Int.eq_ofNat_of_zero_le h0
  have h : n < 2 ^ 64 := by omega
  have e := u64_andNot_nat n 1 (by omega) (by omega)
  have e2 : n &&& (18446744073709551615 - 1) = n - n % 2 := by
    have hx : (n &&& 1) = n % 2 := Nat.and_one_is_mod n
    apply Nat.eq_of_testBit_eq
    intro i
    rw [Nat.testBit_and]
    have h2 : n - n % 2 = 2 * (n / 2) := by omega
    rw [h2]
    cases i with
    | zero => simp
    | succ i =>
      by_cases hi : i + 1 < 64
      · have : (18446744073709551615 - 1 : Nat) = 2 * (2 ^ 63 - 1) := by decide
        rw [this, Nat.testBit_succ, Nat.testBit_succ, Nat.testBit_succ]
        simp only [Nat.mul_div_cancel_left _ (show 0 < 2 by decide), Nat.testBit_two_pow_sub_one]
        simp [show i < 63 by omega]
      · have h3 : n.testBit (i + 1) = false := Nat.testBit_lt_two_pow (Nat.lt_of_lt_of_le h (Nat.pow_le_pow_right (by decide) (by omega)))
        have h4 : (2 * (n / 2)).testBit (i + 1) = false := Nat.testBit_lt_two_pow (Nat.lt_of_lt_of_le (show 2 * (n / 2) < 2 ^ 64 by omega) (Nat.pow_le_pow_right (by decide) (by omega)))
        rw [h3, h4]; rfl
  have e3 : ((1 : Nat) : Int) = 1 := rfl
  rw [e3] at e
  rw [e, e2]; omega
theorem or_one (b : Int) (h0 : 0 ≤ b) (h1 : b ≤ 18446744073709551615) : bits .or .u64 b 1 = b - b % 2 + 1 := by
  obtain ⟨n, rfl⟩ := Int.eq_ofNat_of_zero_le h0
  have e := u64_or_nat n 1 (by omega) (by omega)
  have e2 : n ||| 1 = n - n % 2 + 1 := by
    have h2 : n = 2 * (n / 2) + n % 2 := by omega
    have h3 : n % 2 = 0 ∨ n % 2 = 1 := by omega
    have key : (2 * (n / 2) ||| 1) = 2 * (n / 2) + 1 := by
      have := Nat.two_pow_add_eq_or_of_lt (i := 1) (b := 1) (by decide) (n / 2)
      simpa using this.symm
    rcases h3 with h3 | h3
    · have h4 : n = 2 * (n / 2) := by omega
      rw [h3]; rw [← h4] at key; simpa using key
    · have h4 : n = 2 * (n / 2) + 1 := by omega
      have : n ||| 1 = n := by
        rw [h4, ← key, Nat.or_assoc]; simp
      omega
  have e3 : ((1 : Nat) : Int) = 1 := rfl
  rw [e3] at e
  rw [e, e2]; omega
theorem or_four (m : Int) (h0 : 0 ≤ m) (h1 : m ≤ 2305843009213693951) : bits .or .u64 (m * 8) 4 = m * 8 + 4 := by
  obtain ⟨n, rfl⟩ := Int.eq_ofNat_of_zero_le h0
  have e := u64_or_nat (n * 8) 4 (by omega) (by omega)
  have e2 : n * 8 ||| 4 = n * 8 + 4 := by
    have := Nat.two_pow_add_eq_or_of_lt (i := 3) (b := 4) (by decide) n
    rw [show n * 8 = 2 ^ 3 * n by omega]
    exact this.symm
  have e3 : ((4 : Nat) : Int) = 4 := rfl
  have e4 : ((n * 8 : Nat) : Int) = (n : Int) * 8 := by omega
  rw [e3, e4] at e
  rw [e, e2]; omega
/-- A word that is none: chapter 1's 'bad'. -/
def Bad (x : Int) : Prop := ¬ x ≤ 2 ∧ ¬ (x % 8 ≤ 1 ∧ x / 8 ≤ 16777215) ∧ ¬ (4 ≤ x % 8 ∧ x % 8 ≤ 5 ∧ x / 8 ≤ 1152921504606846975)
/-- The word x is of kind k and holds v. -/
def Is (x : Int) (k : Nat) (v : Int) : Prop :=
  (k = 1 ∧ v = 0 ∧ x ≤ 1) ∨ (k = 2 ∧ 1 ≤ v ∧ v ≤ 16777215 ∧ 8 * v ≤ x ∧ x ≤ 8 * v + 1) ∨
  (k = 3 ∧ -576460752303423488 ≤ v ∧ v ≤ 576460752303423487 ∧ 8 * v + 4611686018427387908 ≤ x ∧ x ≤ 8 * v + 4611686018427387909) ∨
  (k = 4 ∧ v = 0 ∧ x = 2) ∨ (k = 0 ∧ v = 0 ∧ Bad x)
end Go.Wd
