/- A word's text, as a function of the word. -/
import Derived.Test.YtfnnckbdaedlbaaDoorWdTextF
import Derived.Test.YtfnnckbdaedlbaaDoorWdIs
namespace Go.Proofs.YtfnnckbdaedlbaaDoor
open Go.RowKit
theorem decDigits_small (u : Nat) (h : u < 10) : Lib.decDigits u = [UInt8.ofNat (48 + u)] := by rw [Lib.decDigits, dif_pos h]
theorem decDigits_big (u : Nat) (h : ¬ u < 10) : Lib.decDigits u = Lib.decDigits (u / 10) ++ [UInt8.ofNat (48 + u % 10)] := by rw [Lib.decDigits, dif_neg h]
theorem decDigits_len : ∀ (d u : Nat), u < 10 ^ (d + 1) → (Lib.decDigits u).length ≤ d + 1
  | 0, u, h => by rw [decDigits_small u (by omega)]; simp
  | d + 1, u, h => by
    by_cases hu : u < 10
    · rw [decDigits_small u hu]; simp
    · rw [decDigits_big u hu]
      have := decDigits_len d (u / 10) (by rw [Nat.pow_succ] at h; omega)
      simp; omega
theorem decDigits_len20 (u : Nat) (h : u ≤ 18446744073709551615) : (Lib.decDigits u).length ≤ 20 := decDigits_len 19 u (by omega)
/-- A word's text (P1.3). -/
def tx (x : Int) : List UInt8 := txS (Wd.ofS x) (Wd.ofK x).toNat (Wd.ofV x)
theorem ofV_bd (x : Int) (h0 : 0 ≤ x) : -9223372036854775808 ≤ Wd.ofV x ∧ Wd.ofV x ≤ 9223372036854775807 := by
  obtain ⟨k, v, h⟩ := Wd.has_is x h0
  rw [(Wd.is_fun h0 h).2.1]
  exact is_bd h
end Go.Proofs.YtfnnckbdaedlbaaDoor
