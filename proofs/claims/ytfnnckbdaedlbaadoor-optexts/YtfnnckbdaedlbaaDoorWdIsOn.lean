/- More on what words are (chapter 1). -/
import Derived.Test.YtfnnckbdaedlbaaDoorWdSpec
import Derived.Test.YtfnnckbdaedlbaaDoorWdReadOn
namespace Go.Wd
theorem is_ofK {x : Int} {k : Nat} {v : Int} (h0 : 0 ≤ x) (h : Is x k v) : ofK x = k := (is_fun h0 h).1
theorem is_hold {x : Int} (h0 : 0 ≤ x) (h1 : 1 ≤ ofK x) (h3 : ofK x ≤ 3) {k : Nat} {v : Int} (h : Is x k v) : k = 1 ∨ k = 2 ∨ k = 3 := by
  have := is_ofK h0 h; omega
theorem is_noHold {x : Int} (h0 : 0 ≤ x) (h1 : ¬ (1 ≤ ofK x ∧ ofK x ≤ 3)) {k : Nat} {v : Int} (h : Is x k v) : k = 0 ∨ k = 4 := by
  have := is_ofK h0 h
  rcases h with ⟨rfl, _⟩ | ⟨rfl, _⟩ | ⟨rfl, _⟩ | ⟨rfl, _⟩ | ⟨rfl, _⟩ <;> simp_all
theorem has_is (x : Int) (_h0 : 0 ≤ x) : ∃ (k : Nat) (v : Int), Is x k v := by
  by_cases a : x ≤ 1
  · exact ⟨1, 0, .inl ⟨rfl, rfl, a⟩⟩
  by_cases b : x = 2
  · exact ⟨4, 0, .inr (.inr (.inr (.inl ⟨rfl, rfl, b⟩)))⟩
  by_cases c : x % 8 ≤ 1 ∧ x / 8 ≤ 16777215
  · exact ⟨2, x / 8, .inr (.inl ⟨rfl, by omega, by omega, by omega, by omega⟩)⟩
  by_cases d : 4 ≤ x % 8 ∧ x % 8 ≤ 5 ∧ x / 8 ≤ 1152921504606846975
  · exact ⟨3, x / 8 - 576460752303423488, .inr (.inr (.inl ⟨rfl, by omega, by omega, by omega, by omega⟩))⟩
  exact ⟨0, 0, .inr (.inr (.inr (.inr ⟨rfl, rfl, by omega, c, d⟩)))⟩
/-- A word that may be sealed, sealed, is of the same kind and holds the same. -/
theorem is_seal {x : Int} (h0 : 0 ≤ x) (h1 : 1 ≤ ofK x) (h3 : ofK x ≤ 3) : ofK (x - x % 2 + 1) = ofK x := by
  obtain ⟨k, v, h⟩ := has_is x h0
  have hk := is_hold h0 h1 h3 h
  have e := is_ofK h0 h
  rw [e]
  refine is_ofK (v := v) (by omega) ?_
  rcases h with ⟨rfl, rfl, h⟩ | ⟨rfl, h⟩ | ⟨rfl, h⟩ | ⟨rfl, _⟩ | ⟨rfl, _⟩
  · exact .inl ⟨rfl, rfl, by omega⟩
  · exact .inr (.inl ⟨rfl, by omega, by omega, by omega, by omega⟩)
  · exact .inr (.inr (.inl ⟨rfl, by omega, by omega, by omega, by omega⟩))
  · omega
  · omega
/-- A pointer's address; 0 of others. -/
def adr (x : Int) : Int := if ofK x = 2 then ofV x else 0
end Go.Wd
/- A word's text, as a function of the word. -/
namespace Go.Proofs.YtfnnckbdaedlbaaDoor
open Go.RowKit
theorem decDigits_small (u : Nat) (h : u < 10) : Lib.decDigits u = [UInt8.ofNat (48 + u)] := by rw [Lib.decDigits, dif_pos h]
theorem decDigits_big (u : Nat) (h : ¬ u < 10) : Lib.decDigits u = Lib.decDigits (u / 10) ++ [UInt8.ofNat (48 + u % 10)] := by rw [Lib.decDigits, dif_neg h]
theorem decDigits_len : ∀ (d u : Nat), u < 10 ^ (d + 1) → (Lib.decDigits u).length ≤ d + 1
  | 0, u, h => by rw [decDigits_small u (by omega)]; simp
  | d + 1, u, h => by
    by_cases hu : u < 10
    · rw [decDigits_small u hu]; simp
    · rw [decDigits_big u hu]
      have := decDigits_len d (u / 10) (by rw [Nat.pow_succ] at h; omega)
      simp; omega
theorem decDigits_len20 (u : Nat) (h : u ≤ 18446744073709551615) : (Lib.decDigits u).length ≤ 20 := decDigits_len 19 u (by omega)
/-- A word's text (P1.3). -/
def tx (x : Int) : List UInt8 := txS (Wd.ofS x) (Wd.ofK x).toNat (Wd.ofV x)
theorem ofV_bd (x : Int) (h0 : 0 ≤ x) : -9223372036854775808 ≤ Wd.ofV x ∧ Wd.ofV x ≤ 9223372036854775807 := by
  obtain ⟨k, v, h⟩ := Wd.has_is x h0
  rw [(Wd.is_fun h0 h).2.1]
  exact is_bd h
end Go.Proofs.YtfnnckbdaedlbaaDoor
