/- package arena: Do in one, Load, Store, Cas, Copy. -/
import Derived.Test.YtldfmlkjeniemaaDoorArDoOn
import Derived.Test.YtldfmlkjeniemaaDoorLyRefSOn
import Derived.Test.YtldfmlkjeniemaaDoorObMathOn
import Derived.Test.YtldfmlkjeniemaaDoorLyMayOn
import Derived.Test.YtldfmlkjeniemaaDoorLyStartOn
import Derived.Test.YtldfmlkjeniemaaDoorPkRefBOn
namespace Go.Proofs.YtldfmlkjeniemaaDoor
open Go.RowKit
/-- The words behind an access, its answer, an error. -/
def dof (xs : List Int) (k p o n : Int) : List Int × Int × Int :=
  if ck k p o n = false then (xs, 0, 2)
  else if k = 0 then (xs, 0, 0)
  else if (decide (0 ≤ p) && decide (p < xs.length)) = false then (xs, 0, 4)
  else if k = 1 then (xs, wat xs p.toNat, 0)
  else if k = 2 then (xs.set p.toNat n, 0, 0)
  else if wat xs p.toNat = o then (xs.set p.toNat n, wat xs p.toNat, 0)
  else (xs, wat xs p.toNat, 0)
theorem ck_cases {k p o n : Int} (h : ck k p o n = true) : (k = 0 ∧ p = 0 ∧ o = 0 ∧ n = 0) ∨ (k = 1 ∧ o = 0 ∧ n = 0) ∨ (k = 2 ∧ o = 0) ∨ k = 3 := by
  simp [ck] at h; omega
theorem Do_at (A B : Nat) (xs ys : List Int) (k p o n a er : Int) (w : World) (h : IsAr w A B xs) (n0 : 0 ≤ n) (n1 : n ≤ 18446744073709551615) (H : Hid (dof xs k p o n = (ys, a, er))) :
    Calls Tryd.prog 59 #[.pointer (some ⟨A, 0, none⟩), acc k p o n] w fun e w' => e = .returned (.tuple #[.int .u64 a, .int .i64 er]) ∧ IsAr w' A B ys ∧ w.grownBy w' (some B) := by
  have hd := H.out
  clear H
  unfold dof at hd
  by_cases hk : ck k p o n = false
  · rw [if_pos hk] at hd
    cases hd
    refine (Do_arg A B xs k p o n w h hk).mono ?_
    rintro e w' ⟨rfl, b⟩
    exact ⟨rfl, h.below b, grown_below b _⟩
  · rw [if_neg hk] at hd
    have hk' : ck k p o n = true := by simpa using hk
    rcases ck_cases hk' with ⟨rfl, rfl, rfl, rfl⟩ | hc
    · rw [if_pos rfl] at hd
      cases hd
      refine (Do_0 A B xs w h hk').mono ?_
      rintro e w' ⟨rfl, b⟩
      exact ⟨rfl, h.below b, grown_below b _⟩
    · rw [if_neg (by omega)] at hd
      by_cases hp : (decide (0 ≤ p) && decide (p < xs.length)) = false
      · rw [if_pos hp] at hd
        cases hd
        refine (Do_range A B xs k p o n w h hk' hp).mono ?_
        rintro e w' ⟨rfl, b⟩
        exact ⟨rfl, h.below b, grown_below b _⟩
      · rw [if_neg hp] at hd
        simp at hp
        obtain ⟨q, rfl⟩ := Int.eq_ofNat_of_zero_le hp.1
        have hq : q < xs.length := by omega
        rw [Int.toNat_natCast] at hd
        rcases hc with ⟨rfl, rfl, rfl⟩ | ⟨rfl, rfl⟩ | rfl
        · rw [if_pos rfl] at hd
          cases hd
          refine (Do_1 A B xs q w h hk' hq).mono ?_
          rintro e w' ⟨rfl, b⟩
          exact ⟨rfl, h.below b, grown_below b _⟩
        · rw [if_neg (by decide), if_pos rfl] at hd
          cases hd
          exact Do_2 A B xs n q w h hk' hq n0 n1
        · rw [if_neg (by decide), if_neg (by decide)] at hd
          by_cases ho : wat xs q = o
          · rw [if_pos ho] at hd
            cases hd
            subst ho
            exact Do_3y A B xs n q w h hk' hq n0 n1
          · rw [if_neg ho] at hd
            cases hd
            refine (Do_3n A B xs o n q w h hk' hq (by simpa using ho)).mono ?_
            rintro e w' ⟨rfl, b⟩
            exact ⟨rfl, h.below b, grown_below b _⟩
theorem Load_at (A B : Nat) (xs ys : List Int) (p a er : Int) (w : World) (h : IsAr w A B xs) (H : Hid (dof xs 1 p 0 0 = (ys, a, er))) :
    Calls Tryd.prog 47 #[.pointer (some ⟨A, 0, none⟩), .int .i64 p] w fun e w' => e = .returned (.tuple #[.int .u64 a, .int .i64 er]) ∧ IsAr w' A B ys ∧ w.grownBy w' (some B) := by
  go_enter Tryd.func47, Tryd.ntmps47
  go_wp2_with (go_at_call 59; refine (Do_at A B xs ys 1 p 0 0 a er _ h (by omega) (by omega) H).mono ?_; rintro e w' ⟨rfl, a1, g1⟩)
  go_ret2
  exact ⟨rfl, a1, g1⟩
theorem Store_at (A B : Nat) (xs ys : List Int) (p n a er : Int) (w : World) (h : IsAr w A B xs) (n0 : 0 ≤ n) (n1 : n ≤ 18446744073709551615) (H : Hid (dof xs 2 p 0 n = (ys, a, er))) :
    Calls Tryd.prog 36 #[.pointer (some ⟨A, 0, none⟩), .int .i64 p, .int .u64 n] w fun e w' => e = .returned (.int .i64 er) ∧ IsAr w' A B ys ∧ w.grownBy w' (some B) := by
  go_enter Tryd.func36, Tryd.ntmps36
  go_wp2_with (go_at_call 59; refine (Do_at A B xs ys 2 p 0 n a er _ h n0 n1 H).mono ?_; rintro e w' ⟨rfl, a1, g1⟩)
  go_ret
  exact ⟨rfl, a1, g1⟩
theorem Load_nil (q : Value) (c : Nat) (a : Option Addr) (p : Int) (w : World) (h : Faces w q (.slice a 0 c)) : Calls Tryd.prog 47 #[q, .int .i64 p] w fun e w' => e = .returned (.tuple #[.int .u64 0, .int .i64 1]) ∧ Below w.heap.size w w' := by
  go_enter Tryd.func47, Tryd.ntmps47
  go_wp2_with (go_at_call 59; refine (Do_nil q c a _ _ _ _ _ h).mono ?_; rintro e w' ⟨rfl, b1⟩)
  go_ret2
  exact ⟨rfl, b1⟩
theorem Store_nil (q : Value) (c : Nat) (a : Option Addr) (p n : Int) (w : World) (h : Faces w q (.slice a 0 c)) : Calls Tryd.prog 36 #[q, .int .i64 p, .int .u64 n] w fun e w' => e = .returned (.int .i64 1) ∧ Below w.heap.size w w' := by
  go_enter Tryd.func36, Tryd.ntmps36
  go_wp2_with (go_at_call 59; refine (Do_nil q c a _ _ _ _ _ h).mono ?_; rintro e w' ⟨rfl, b1⟩)
  go_ret
  exact ⟨rfl, b1⟩
end Go.Proofs.YtldfmlkjeniemaaDoor
/- package object: a heap in memory; its words loaded; fits, words, mustStand. -/
namespace Go.Proofs.YtldfmlkjeniemaaDoor
open Go.RowKit Go.Ly Go.Hd Go.Sh Go.Ob
/-- A plan that may be, and an arena of it. -/
structure IsHp (W : World) (t s : Int) (a : Option Addr) (n c : Nat) (ss : List ByteArray) (A B : Nat) (xs : List Int) : Prop where
  tab : IsTab W (.slice a n c) ss
  nums : LNums W
  ar : IsAr W A B xs
  rg : rgt t s ss = true
  len : (xs.length : Int) = 3 + t + t + 2 * s
theorem IsHp.below {W W' : World} {t s : Int} {a : Option Addr} {n c : Nat} {ss : List ByteArray} {A B : Nat} {xs : List Int} (h : IsHp W t s a n c ss A B xs) (b : Below W.heap.size W W') : IsHp W' t s a n c ss A B xs :=
  ⟨h.tab.below (Nat.le_refl _) b, h.nums.below b, h.ar.below b, h.rg, h.len⟩
theorem ck_load (q : Nat) : ck 1 (q : Int) 0 0 = true := by simp [ck]
theorem Load_in (A B : Nat) (xs : List Int) (q : Nat) (w : World) (h : IsAr w A B xs) (hq : q < xs.length) :
    Calls Tryd.prog 47 #[.pointer (some ⟨A, 0, none⟩), .int .i64 (q : Int)] w fun e w' => e = .returned (.tuple #[.int .u64 (wat xs q), .int .i64 0]) ∧ Below w.heap.size w w' := by
  go_enter Tryd.func47, Tryd.ntmps47
  go_wp2_with (go_at_call 59; refine (Do_1 A B xs q _ h (ck_load q) hq).mono ?_; rintro e w' ⟨rfl, b1⟩)
  go_ret2
  exact ⟨rfl, b1⟩
/-- The box that leads to the arena. -/
abbrev arO (A : Nat) : Obj := .cells #[.pointer (some ⟨A, 0, none⟩)] 29
theorem oload_at (L A B : Nat) (xs : List Int) (q : Nat) (w : World) (h : IsAr w A B xs) (hL : w.heap[L]? = some (arO A)) (hq : q < xs.length) :
    Calls Tryd.prog 46 #[.int .i64 (q : Int), .pointer (some ⟨L, 0, none⟩)] w fun e w' => e = .returned (.int .u64 (wat xs q)) ∧ Below w.heap.size w w' := by
  have hc := at_row hL 0 rfl
  go_enter Tryd.func46, Tryd.ntmps46
  go_wp2_with (go_at_call 47; refine (Load_in A B xs q _ h hq).mono ?_; rintro e w' ⟨rfl, b1⟩)
  go_ret
  exact ⟨rfl, b1⟩
/-- An object under way. -/
abbrev loadV (L : Nat) : Value := .func (.func 46) #[] #[.pointer (some ⟨L, 0, none⟩)]
abbrev objC (t s : Int) (a : Option Addr) (n c : Nat) (L : Nat) (p e : Int) : Array Value := #[.int .i64 t, .int .i64 s, .slice a n c, loadV L, .int .i64 p, .int .i64 e]
abbrev objV (t s : Int) (a : Option Addr) (n c : Nat) (L : Nat) (p e : Int) : Value := .agg (objC t s a n c L p e)
abbrev objO (t s : Int) (a : Option Addr) (n c : Nat) (L : Nat) (p e : Int) : Obj := .cells (objC t s a n c L p e) 68
theorem fits_any (t s : Int) (a : Option Addr) (n c : Nat) (L : Nat) (p e z : Int) (w : World) (r : Bool) (p0 : 0 ≤ p) (p1 : p ≤ 20000) (e0 : 0 ≤ e) (e1 : e ≤ 20000) (hr : Hid (decide (z ≤ e - p) = r)) :
    Calls Tryd.prog 58 #[objV t s a n c L p e, .int .i64 z] w fun e' w' => e' = .returned (.bool r) ∧ Below w.heap.size w w' := by
  go_enter Tryd.func58, Tryd.ntmps58
  go_wp2
  go_ret
  exact ⟨ret_bool hr.out, below_alloc0 _ _⟩
end Go.Proofs.YtldfmlkjeniemaaDoor
/- Plain: how many words an object has that stands at a word of an arena; what is asked ahead of it. -/
namespace Go.Proofs.YtldfmlkjeniemaaDoor
open Go.RowKit Go.Ly Go.Hd Go.Sh Go.Ob
/-- How many words the object has that stands at the word p of a space that ends at e; 0: none stands there. -/
def osz (xs : List Int) (ss : List ByteArray) (e p : Int) : Int :=
  if (szH (wat xs p.toNat) ss).2 = 0 ∧ (szH (wat xs p.toNat) ss).1 ≤ e - p then (szH (wat xs p.toNat) ss).1 else 0
theorem szH_is {x : Int} {ss : List ByteArray} (h : (szH x ss).2 = 0) : isH x = true ∧ 2 ≤ (szH x ss).1 ∧ (szH x ss).1 ≤ 10 ∧ szH x ss = sz ss (x / 32) := by
  unfold szH at h ⊢
  by_cases hi : isH x = true
  · rw [if_pos hi] at h ⊢
    refine ⟨hi, ?_, ?_, rfl⟩
    all_goals
      unfold sz at h ⊢
      by_cases hr : right ss = true
      · rw [if_pos hr] at h ⊢
        by_cases hn : inR (x / 32) ss.length = true
        · rw [if_pos hn]
          have hl : (x / 32).toNat < ss.length := by simp [inR] at hn; omega
          have := one_size (right_all hr _ hl)
          simp only
          omega
        · rw [if_neg hn] at h; cases h
      · rw [if_neg hr] at h; cases h
  · rw [if_neg hi] at h; cases h
theorem osz_yes {xs : List Int} {ss : List ByteArray} {e p : Int} (h : (szH (wat xs p.toNat) ss).2 = 0) (k : (szH (wat xs p.toNat) ss).1 ≤ e - p) : osz xs ss e p = (szH (wat xs p.toNat) ss).1 := if_pos ⟨h, k⟩
theorem osz_no1 {xs : List Int} {ss : List ByteArray} {e p : Int} (h : ¬ (szH (wat xs p.toNat) ss).2 = 0) : osz xs ss e p = 0 := if_neg fun k => h k.1
theorem osz_no2 {xs : List Int} {ss : List ByteArray} {e p : Int} (h : ¬ (szH (wat xs p.toNat) ss).1 ≤ e - p) : osz xs ss e p = 0 := if_neg fun k => h k.2
theorem osz_cases (xs : List Int) (ss : List ByteArray) (e p : Int) : osz xs ss e p = 0 ∨ (2 ≤ osz xs ss e p ∧ osz xs ss e p ≤ 10 ∧ osz xs ss e p ≤ e - p ∧ isH (wat xs p.toNat) = true ∧ szH (wat xs p.toNat) ss = (osz xs ss e p, 0)) := by
  by_cases h : (szH (wat xs p.toNat) ss).2 = 0
  · by_cases k : (szH (wat xs p.toNat) ss).1 ≤ e - p
    · right
      rw [osz_yes h k]
      obtain ⟨h1, h2, h3, _⟩ := szH_is h
      exact ⟨h2, h3, k, h1, Prod.ext rfl h⟩
    · exact .inl (osz_no2 k)
  · exact .inl (osz_no1 h)
theorem osz_le (xs : List Int) (ss : List ByteArray) (e p : Int) : 0 ≤ osz xs ss e p ∧ osz xs ss e p ≤ 10 := by
  rcases osz_cases xs ss e p with h | h <;> omega
/-- Where the space ends that a word is of. -/
def eo (t s p : Int) : Int := p - (p - (3 + t + t)) % s + s
/-- Is it a word of a space? -/
def spc (t s p : Int) : Bool := decide (3 + t + t ≤ p) && decide (p < 3 + t + t + 2 * s)
theorem eo_in {t s p q : Int} (_hs : 32 ≤ s) (h0 : 3 + t + t + q * s ≤ p) (h1 : p < 3 + t + t + q * s + s) : eo t s p = 3 + t + t + q * s + s := by
  have : (p - (3 + t + t)) % s = p - (3 + t + t) - q * s := by
    rw [show p - (3 + t + t) = (p - (3 + t + t) - q * s) + s * q by rw [Int.mul_comm s q]; omega, Int.add_mul_emod_self_left]
    rw [show p - (3 + t + t) - q * s + s * q - q * s = p - (3 + t + t) - q * s by rw [Int.mul_comm s q]; omega]
    exact Int.emod_eq_of_lt (by omega) (by omega)
  unfold eo
  omega
theorem eo_bd {t s p : Int} (hs : 32 ≤ s) (h : spc t s p = true) : p < eo t s p ∧ eo t s p ≤ 3 + t + t + 2 * s ∧ eo t s p ≤ p + s := by
  simp [spc] at h
  by_cases h1 : p < 3 + t + t + s
  · have := eo_in (q := 0) hs (by omega) (by omega : p < 3 + t + t + 0 * s + s)
    omega
  · have := eo_in (q := 1) hs (by omega) (by omega : p < 3 + t + t + 1 * s + s)
    omega
/-- The error of a call that asks for an object that stands there. -/
def stv (g : Bool) (t s : Int) (xs : List Int) (ss : List ByteArray) (p : Int) : Int :=
  if g = false then 2 else if spc t s p = false then 4 else if osz xs ss (eo t s p) p = 0 then 170 else 0
end Go.Proofs.YtldfmlkjeniemaaDoor
