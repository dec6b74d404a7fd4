/- package head: Make, Of, Marked, Size, Name. -/
import Derived.Test.YtldfmlkjeniemaaDoorHdLeafOn
import Derived.Laws.BitsAllLaws
import Derived.RowKit
import Derived.WalkSmall
import Derived.Test.YtldfmlkjeniemaaDoorProg
import Derived.Test.YtldfmlkjeniemaaDoorObMathOn
import Derived.WalkKit
import Derived.WalkLawsBesides
import Derived.WalkSpells
import Derived.BigQuiet
import Derived.Outline
import Derived.Deep.WholeRow
import Derived.Laws.EntriesVeiled
namespace Go.Hd
/-- Is it a header's word? -/
def isH (x : Int) : Bool := decide (x % 8 = 6) && ok (x / 32) (x / 8 % 4)
theorem isH_wd {s m : Int} (h : ok s m = true) : isH (wd s m) = true ∧ wd s m / 32 = s ∧ wd s m / 8 % 4 = m ∧ 0 ≤ wd s m ∧ wd s m ≤ 510 := by
  obtain ⟨a, b, c, d⟩ := ok_yes h
  have e1 : wd s m / 32 = s := by unfold wd; omega
  have e2 : wd s m / 8 % 4 = m := by unfold wd; omega
  have e3 : wd s m % 8 = 6 := by unfold wd; omega
  refine ⟨?_, e1, e2, ?_, ?_⟩
  · unfold isH; rw [e1, e2, e3, h]; rfl
  · unfold wd; omega
  · unfold wd; omega
theorem isH_is {x : Int} (h : isH x = true) : ok (x / 32) (x / 8 % 4) = true ∧ x % 8 = 6 ∧ wd (x / 32) (x / 8 % 4) = x := by
  simp only [isH, Bool.and_eq_true, decide_eq_true_eq] at h
  refine ⟨h.2, h.1, ?_⟩
  unfold wd; omega
def mkd (x m : Int) : Int × Int := if isH x && mk m then (wd (x / 32) m, 0) else (0, 2)
end Go.Hd
namespace Go.Proofs.YtldfmlkjeniemaaDoor
open Go.RowKit Go.Hd Go.Sh
theorem below2 (w : World) (A B : Obj) : Below w.heap.size w ((w.alloc A).alloc B) := (below_alloc0 w A).alloc (by simp) B
set_option maxHeartbeats 1000000 in
theorem make_yes (s m : Int) (w : World) (h : ok s m = true) : Calls Tryd.prog 56 #[.agg #[.int .i64 s, .int .i64 m]] w fun e w' => e = .returned (.tuple #[.int .u64 (wd s m), .int .i64 0]) ∧ Below w.heap.size w w' := by
  have c := fun W => hmay_any s m W
  rw [h] at c
  have c2 := fun W => hword_any s m W h
  clear h
  go_enter Tryd.func56, Tryd.ntmps56
  go_wp2_with (go_at_call 73; refine (c _).mono ?_)
  rintro e w1 ⟨rfl, b1⟩
  have c0 := at_row (row2b b1) 0 rfl
  have c1 := at_row (row2b b1) 1 rfl
  have bw := bel2 b1
  clear b1
  go_wp2_with (go_at_call 74; refine (c2 _).mono ?_)
  rintro e w2 ⟨rfl, b2⟩
  go_wp2
  go_ret2
  exact ⟨rfl, bw.trans (b2.mono bw.size)⟩
set_option maxHeartbeats 1000000 in
theorem make_no (s m : Int) (w : World) (h : ok s m = false) : Calls Tryd.prog 56 #[.agg #[.int .i64 s, .int .i64 m]] w fun e w' => e = .returned (.tuple #[.int .u64 0, .int .i64 2]) ∧ Below w.heap.size w w' := by
  have c := fun W => hmay_any s m W
  rw [h] at c
  clear h
  go_enter Tryd.func56, Tryd.ntmps56
  go_wp2_with (go_at_call 73; refine (c _).mono ?_)
  rintro e w1 ⟨rfl, b1⟩
  have bw := bel2 b1
  clear b1
  go_wp2
  go_ret2
  exact ⟨rfl, bw⟩
set_option maxHeartbeats 1000000 in
theorem of_odd (x : Int) (w : World) (x0 : 0 ≤ x) (x1 : x ≤ 18446744073709551615) (h : (x % 8 != 6) = true) : Calls Tryd.prog 55 #[.int .u64 x] w fun e w' => e = .returned (.tuple #[.agg #[.int .i64 0, .int .i64 0], .bool false]) ∧ Below w.heap.size w w' := by
  go_enter Tryd.func55, Tryd.ntmps55
  go_wp2
  refine wp_scope_once 0 rfl ?_
  go_wp2_with (go_at_call 72; refine (part_tag x _ x0 x1).mono ?_; rintro e w1 ⟨rfl, hw⟩; rw [hw]; clear hw)
  go_step3
  refine ⟨rfl, ?_⟩
  go_wp2
  rw [Exit.noGoto_ret]
  refine bodyPost_ret (v := .tuple #[.agg #[.int .i64 0, .int .i64 0], .bool false]) (by simp [results, Tryd.results55, go_sem]) rfl ⟨rfl, ?_⟩
  exact below2 w _ _
set_option maxHeartbeats 2000000 in
theorem of_wrong (x : Int) (w : World) (x0 : 0 ≤ x) (x1 : x ≤ 18446744073709551615) (h : (x % 8 != 6) = false) (hk : ok (x / 32) (x / 8 % 4) = false) : Calls Tryd.prog 55 #[.int .u64 x] w fun e w' => e = .returned (.tuple #[.agg #[.int .i64 0, .int .i64 0], .bool false]) ∧ Below w.heap.size w w' := by
  have ct := fun W => part_tag x W x0 x1
  have cs := fun W => part_shape x W x0 x1
  have cm := fun W => part_mark x W x0 x1
  have c := fun W => hmay_any (x / 32) (x / 8 % 4) W
  rw [hk] at c
  have s0 : 0 ≤ x / 32 := by omega
  have s1 : x / 32 ≤ 576460752303423487 := by omega
  have m0 : 0 ≤ x / 8 % 4 := by omega
  have m1 : x / 8 % 4 ≤ 3 := by omega
  generalize x / 32 = s at *
  generalize x / 8 % 4 = m at *
  generalize x % 8 = t at *
  clear hk x0 x1
  go_enter Tryd.func55, Tryd.ntmps55
  go_wp2
  refine wp_scope_once 0 rfl ?_
  go_wp2_with (go_at_call 72; refine (ct _).mono ?_)
  rintro e w1 ⟨rfl, hw⟩; rw [hw]; clear hw w1
  go_wp2_with (go_at_call 72; refine (cs _).mono ?_)
  rintro e w1 ⟨rfl, hw⟩; rw [hw]; clear hw w1
  go_wp2_with (go_at_call 72; refine (cm _).mono ?_)
  rintro e w1 ⟨rfl, hw⟩; rw [hw]; clear hw w1
  go_wp2_with (go_at_call 73; refine (c _).mono ?_)
  rintro e w1 ⟨rfl, b1⟩
  have d0 := at_row (row2a b1) 0 rfl
  have d1 := at_row (row2a b1) 1 rfl
  have f0 := fz_row (row2a b1) 0
  have f1 := fz_row (row2a b1) 1
  have bw := bel2 b1
  clear b1
  go_wp2
  go_step3
  refine ⟨rfl, ?_⟩
  go_wp2
  rw [Exit.noGoto_ret]
  refine bodyPost_ret (v := .tuple #[.agg #[.int .i64 0, .int .i64 0], .bool false]) (by simp [results, Tryd.results55, go_sem, d0, d1]) rfl ⟨rfl, ?_⟩
  exact two_set bw (Nat.le_refl _) _ _
set_option maxHeartbeats 2000000 in
theorem of_right (x : Int) (w : World) (x0 : 0 ≤ x) (x1 : x ≤ 18446744073709551615) (h : (x % 8 != 6) = false) (hk : ok (x / 32) (x / 8 % 4) = true) : Calls Tryd.prog 55 #[.int .u64 x] w fun e w' => e = .returned (.tuple #[.agg #[.int .i64 (x / 32), .int .i64 (x / 8 % 4)], .bool true]) ∧ Below w.heap.size w w' := by
  have ct := fun W => part_tag x W x0 x1
  have cs := fun W => part_shape x W x0 x1
  have cm := fun W => part_mark x W x0 x1
  have c := fun W => hmay_any (x / 32) (x / 8 % 4) W
  rw [hk] at c
  have s0 : 0 ≤ x / 32 := by omega
  have s1 : x / 32 ≤ 576460752303423487 := by omega
  have m0 : 0 ≤ x / 8 % 4 := by omega
  have m1 : x / 8 % 4 ≤ 3 := by omega
  generalize x / 32 = s at *
  generalize x / 8 % 4 = m at *
  generalize x % 8 = t at *
  clear hk x0 x1
  go_enter Tryd.func55, Tryd.ntmps55
  go_wp2
  refine wp_scope_once 0 rfl ?_
  go_wp2_with (go_at_call 72; refine (ct _).mono ?_)
  rintro e w1 ⟨rfl, hw⟩; rw [hw]; clear hw w1
  go_wp2_with (go_at_call 72; refine (cs _).mono ?_)
  rintro e w1 ⟨rfl, hw⟩; rw [hw]; clear hw w1
  go_wp2_with (go_at_call 72; refine (cm _).mono ?_)
  rintro e w1 ⟨rfl, hw⟩; rw [hw]; clear hw w1
  go_wp2_with (go_at_call 73; refine (c _).mono ?_)
  rintro e w1 ⟨rfl, b1⟩
  have d0 := at_row (row2a b1) 0 rfl
  have d1 := at_row (row2a b1) 1 rfl
  have f0 := fz_row (row2a b1) 0
  have f1 := fz_row (row2a b1) 1
  have c0 := at_row (row2b b1) 0 rfl
  have c1 := at_row (row2b b1) 1 rfl
  have bw := bel2 b1
  clear b1
  go_wp2
  rw [jump_ret]
  refine bodyPost_ret (v := .tuple #[.agg #[.int .i64 s, .int .i64 m], .bool true]) (by simp [results, Tryd.results55, go_sem, d0, d1]) rfl ⟨rfl, ?_⟩
  exact two_set bw (Nat.le_refl _) _ _
end Go.Proofs.YtldfmlkjeniemaaDoor
/- Plain mathematics of words of 64 bits (chapter 1): no program in it. -/
namespace Go.Wd
theorem andNot_one (b : Int) (h0 : 0 ≤ b) (h1 : b ≤ 18446744073709551615) : bits .andNot .u64 b 1 = b - b % 2 := by
  obtain ⟨n, rfl⟩ := Int.eq_ofNat_of_zero_le h0
  have h : n < 2 ^ 64 := by omega
  have e := u64_andNot_nat n 1 (by omega) (by omega)
  have e2 : n &&& (18446744073709551615 - 1) = n - n % 2 := by
    have hx : (n &&& 1) = n % 2 := Nat.and_one_is_mod n
    apply Nat.eq_of_testBit_eq
    intro i
    rw [Nat.testBit_and]
    have h2 : n - n % 2 = 2 * (n / 2) := by omega
    rw [h2]
    cases i with
    | zero => simp
    | succ i =>
      by_cases hi : i + 1 < 64
      · have : (18446744073709551615 - 1 : Nat) = 2 * (2 ^ 63 - 1) := by decide
        rw [this, Nat.testBit_succ, Nat.testBit_succ, Nat.testBit_succ]
        simp only [Nat.mul_div_cancel_left _ (show 0 < 2 by decide), Nat.testBit_two_pow_sub_one]
        simp [show i < 63 by omega]
      · have h3 : n.testBit (i + 1) = false := Nat.testBit_lt_two_pow (Nat.lt_of_lt_of_le h (Nat.pow_le_pow_right (by decide) (by omega)))
        have h4 : (2 * (n / 2)).testBit (i + 1) = false := Nat.testBit_lt_two_pow (Nat.lt_of_lt_of_le (show 2 * (n / 2) < 2 ^ 64 by omega) (Nat.pow_le_pow_right (by decide) (by omega)))
        rw [h3, h4]; rfl
  have e3 : ((1 : Nat) : Int) = 1 := rfl
  rw [e3] at e
  rw [e, e2]; omega
theorem or_one (b : Int) (h0 : 0 ≤ b) (h1 : b ≤ 18446744073709551615) : bits .or .u64 b 1 = b - b % 2 + 1 := by
  obtain ⟨n, rfl⟩ := Int.eq_ofNat_of_zero_le h0
  have e := u64_or_nat n 1 (by omega) (by omega)
  have e2 : n ||| 1 = n - n % 2 + 1 := by
    have h2 : n = 2 * (n / 2) + n % 2 := by omega
    have h3 : n % 2 = 0 ∨ n % 2 = 1 := by omega
    have key : (2 * (n / 2) ||| 1) = 2 * (n / 2) + 1 := by
      have := Nat.two_pow_add_eq_or_of_lt (i := 1) (b := 1) (by decide) (n / 2)
      simpa using this.symm
    rcases h3 with h3 | h3
    · have h4 : n = 2 * (n / 2) := by omega
      rw [h3]; rw [← h4] at key; simpa using key
    · have h4 : n = 2 * (n / 2) + 1 := by omega
      have : n ||| 1 = n := by
        rw [h4, ← key, Nat.or_assoc]; simp
      omega
  have e3 : ((1 : Nat) : Int) = 1 := rfl
  rw [e3] at e
  rw [e, e2]; omega
theorem or_four (m : Int) (h0 : 0 ≤ m) (h1 : m ≤ 2305843009213693951) : bits .or .u64 (m * 8) 4 = m * 8 + 4 := by
  obtain ⟨n, rfl⟩ := Int.eq_ofNat_of_zero_le h0
  have e := u64_or_nat (n * 8) 4 (by omega) (by omega)
  have e2 : n * 8 ||| 4 = n * 8 + 4 := by
    have := Nat.two_pow_add_eq_or_of_lt (i := 3) (b := 4) (by decide) n
    rw [show n * 8 = 2 ^ 3 * n by omega]
    exact this.symm
  have e3 : ((4 : Nat) : Int) = 4 := rfl
  have e4 : ((n * 8 : Nat) : Int) = (n : Int) * 8 := by omega
  rw [e3, e4] at e
  rw [e, e2]; omega
/-- A word that is none: chapter 1's 'bad'. -/
def Bad (x : Int) : Prop := ¬ x ≤ 2 ∧ ¬ (x % 8 ≤ 1 ∧ x / 8 ≤ 16777215) ∧ ¬ (4 ≤ x % 8 ∧ x % 8 ≤ 5 ∧ x / 8 ≤ 1152921504606846975)
/-- The word x is of kind k and holds v. -/
def Is (x : Int) (k : Nat) (v : Int) : Prop :=
  (k = 1 ∧ v = 0 ∧ x ≤ 1) ∨ (k = 2 ∧ 1 ≤ v ∧ v ≤ 16777215 ∧ 8 * v ≤ x ∧ x ≤ 8 * v + 1) ∨
  (k = 3 ∧ -576460752303423488 ≤ v ∧ v ≤ 576460752303423487 ∧ 8 * v + 4611686018427387908 ≤ x ∧ x ≤ 8 * v + 4611686018427387909) ∨
  (k = 4 ∧ v = 0 ∧ x = 2) ∨ (k = 0 ∧ v = 0 ∧ Bad x)
end Go.Wd
/- The leaves of package word: contracts of bits' methods and of the functions of kinds. -/
namespace Go.Proofs.YtldfmlkjeniemaaDoor
open Go.RowKit
end Go.Proofs.YtldfmlkjeniemaaDoor
/- Package word's tell: which kind a word is of, and what it holds. -/
namespace Go.Proofs.YtldfmlkjeniemaaDoor
open Go.RowKit
theorem below_setRow {B : Nat} {a w : World} (h : Below B a w) {g : Nat} (hg : B ≤ g) (cs : Array Value) : Below B a (w.setRow g cs) :=
  h.trans ⟨rfl, rfl, rfl, by simp, fun k hk => setRow_other w g k cs (by omega)⟩
/-- No kind ahead of number k lays the plain word p. -/
def NoneTill (x p : Int) (k : Int) : Prop :=
  (2 ≤ k → ¬ p = 0) ∧ (3 ≤ k → ¬ (p % 8 = 0 ∧ p / 8 ≤ 16777215)) ∧ (4 ≤ k → ¬ (p % 8 = 4 ∧ p / 8 ≤ 1152921504606846975)) ∧ (5 ≤ k → ¬ (p = 2 ∧ x = p))
theorem bad_of (x p : Int) (h0 : 0 ≤ p) (hp1 : p ≤ x) (hp2 : x ≤ p + 1) (hp3 : p % 2 < 1) (h : NoneTill x p 5) : Wd.Is x 0 0 := by
  obtain ⟨a, b, c, d⟩ := h
  have a := a (by omega)
  have b := b (by omega)
  have c := c (by omega)
  have d := d (by omega)
  exact .inr (.inr (.inr (.inr ⟨rfl, rfl, by omega, by omega, by omega⟩)))
end Go.Proofs.YtldfmlkjeniemaaDoor
/- What chapter 1's functions answer, as plain functions of numbers. -/
namespace Go.Wd
/-- Of: the kind, the seal, the value (P1.1). -/
def ofK (x : Int) : Int := if x ≤ 1 then 1 else if x = 2 then 4 else if x % 8 ≤ 1 ∧ x / 8 ≤ 16777215 then 2 else if 4 ≤ x % 8 ∧ x % 8 ≤ 5 ∧ x / 8 ≤ 1152921504606846975 then 3 else 0
def ofS (x : Int) : Bool := decide (ofK x ≠ 0) && decide (x % 2 = 1)
def ofV (x : Int) : Int := if ofK x = 2 then x / 8 else if ofK x = 3 then x / 8 - 576460752303423488 else 0
/-- Make: the word, the error's number (P1.1). -/
def mkE (k : Int) (s : Bool) (v : Int) : Int :=
  if k < 1 ∨ 4 < k ∨ ((k = 1 ∨ k = 4) ∧ v ≠ 0) ∨ (k = 4 ∧ s = true) then 2
  else if k = 2 ∧ (v < 1 ∨ 16777215 < v) then 4
  else if k = 3 ∧ (v < -576460752303423488 ∨ 576460752303423487 < v) then 4 else 0
def mkW (k : Int) (s : Bool) (v : Int) : Int :=
  if mkE k s v ≠ 0 then 0
  else (if k = 2 then 8 * v else if k = 3 then 8 * v + 4611686018427387908 else if k = 4 then 2 else 0) + (if s = true then 1 else 0)
theorem is_fun {x : Int} {k : Nat} {v : Int} (h0 : 0 ≤ x) (h : Is x k v) : ofK x = k ∧ ofV x = v ∧ ofS x = (decide (k ≠ 0) && decide (x % 2 = 1)) := by
  have hk : ofK x = k := by
    unfold ofK
    rcases h with ⟨rfl, rfl, h⟩ | ⟨rfl, h⟩ | ⟨rfl, h⟩ | ⟨rfl, rfl, h⟩ | ⟨rfl, rfl, h1, h2, h3⟩
    · rw [if_pos h]; rfl
    · rw [if_neg (by omega), if_neg (by omega), if_pos (by omega)]; rfl
    · rw [if_neg (by omega), if_neg (by omega), if_neg (by omega), if_pos (by omega)]; rfl
    · rw [if_neg (by omega), if_pos (by omega)]; rfl
    · rw [if_neg (by omega), if_neg (by omega), if_neg h2, if_neg h3]; rfl
  refine ⟨hk, ?_, ?_⟩
  · unfold ofV
    rw [hk]
    rcases h with ⟨rfl, rfl, h⟩ | ⟨rfl, h⟩ | ⟨rfl, h⟩ | ⟨rfl, rfl, h⟩ | ⟨rfl, rfl, h1, h2, h3⟩
    · rfl
    · rw [if_pos (by decide)]; omega
    · rw [if_neg (by decide), if_pos (by decide)]; omega
    · rfl
    · rfl
  · unfold ofS
    rw [hk]
    congr 1
    simp only [decide_eq_decide]; omega
/-- Make of Of is the word (P1.4). -/
theorem mk_of {x : Int} {k : Nat} {v : Int} (h0 : 0 ≤ x) (h : Is x k v) (hk : k ≠ 0) (s : Bool) (hs : s = decide (x % 2 = 1)) : mkE k s v = 0 ∧ mkW k s v = x := by
  subst hs
  have he : mkE k (decide (x % 2 = 1)) v = 0 := by
    unfold mkE
    rcases h with ⟨rfl, rfl, h⟩ | ⟨rfl, h⟩ | ⟨rfl, h⟩ | ⟨rfl, rfl, h⟩ | ⟨rfl, rfl, h1, h2, h3⟩
    · rw [if_neg (by simp), if_neg (by simp), if_neg (by simp)]
    · rw [if_neg (by simp), if_neg (by omega), if_neg (by simp)]
    · rw [if_neg (by simp), if_neg (by simp), if_neg (by omega)]
    · subst h; decide
    · exact absurd rfl hk
  refine ⟨he, ?_⟩
  unfold mkW
  rw [he, if_neg (by simp)]
  rcases h with ⟨rfl, rfl, h⟩ | ⟨rfl, h⟩ | ⟨rfl, h⟩ | ⟨rfl, rfl, h⟩ | ⟨rfl, rfl, h1, h2, h3⟩
  · simp; split <;> omega
  · simp; split <;> omega
  · simp; split <;> omega
  · subst h; decide
  · exact absurd rfl hk
theorem mk_bad (s : Bool) (v : Int) : mkE 0 s v = 2 ∧ mkW 0 s v = 0 := by
  have : mkE 0 s v = 2 := by unfold mkE; rw [if_pos (by simp)]
  exact ⟨this, by unfold mkW; rw [this, if_pos (by simp)]⟩
theorem mk_arg (k : Int) (s : Bool) (v : Int) (h : k < 1 ∨ 4 < k ∨ ((k = 1 ∨ k = 4) ∧ v ≠ 0) ∨ (k = 4 ∧ s = true)) : mkE k s v = 2 ∧ mkW k s v = 0 := by
  have : mkE k s v = 2 := by unfold mkE; rw [if_pos h]
  exact ⟨this, by unfold mkW; rw [this, if_pos (by decide)]⟩
theorem mk_range2 (s : Bool) (v : Int) (h : v < 1 ∨ 16777215 < v) : mkE 2 s v = 4 ∧ mkW 2 s v = 0 := by
  have : mkE 2 s v = 4 := by unfold mkE; rw [if_neg (by omega), if_pos ⟨rfl, h⟩]
  exact ⟨this, by unfold mkW; rw [this, if_pos (by decide)]⟩
theorem mk_range3 (s : Bool) (v : Int) (h : v < -576460752303423488 ∨ 576460752303423487 < v) : mkE 3 s v = 4 ∧ mkW 3 s v = 0 := by
  have : mkE 3 s v = 4 := by unfold mkE; rw [if_neg (by omega), if_neg (by omega), if_pos ⟨rfl, h⟩]
  exact ⟨this, by unfold mkW; rw [this, if_pos (by decide)]⟩
theorem mk_null (s : Bool) : mkE 1 s 0 = 0 ∧ mkW 1 s 0 = if s = true then 1 else 0 := by cases s <;> decide
theorem mk_empty : mkE 4 false 0 = 0 ∧ mkW 4 false 0 = 2 := by decide
theorem mk_ptr (s : Bool) (v : Int) (h0 : 1 ≤ v) (h1 : v ≤ 16777215) : mkE 2 s v = 0 ∧ mkW 2 s v = 8 * v + if s = true then 1 else 0 := by
  have : mkE 2 s v = 0 := by unfold mkE; rw [if_neg (by omega), if_neg (by omega), if_neg (by omega)]
  exact ⟨this, by unfold mkW; rw [this, if_neg (by decide), if_pos rfl]⟩
theorem mk_scalar (s : Bool) (v : Int) (h0 : -576460752303423488 ≤ v) (h1 : v ≤ 576460752303423487) : mkE 3 s v = 0 ∧ mkW 3 s v = 8 * v + 4611686018427387908 + if s = true then 1 else 0 := by
  have : mkE 3 s v = 0 := by unfold mkE; rw [if_neg (by omega), if_neg (by omega), if_neg (by omega)]
  exact ⟨this, by unfold mkW; rw [this, if_neg (by decide), if_neg (by decide), if_pos rfl]⟩
end Go.Wd
