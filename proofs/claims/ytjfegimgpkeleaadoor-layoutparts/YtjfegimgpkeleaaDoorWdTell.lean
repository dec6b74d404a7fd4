/- Package word's tell: which kind a word is of, and what it holds. -/
import Derived.Test.YtjfegimgpkeleaaDoorWdLeaf
namespace Go.Proofs.YtjfegimgpkeleaaDoor
open Go.RowKit
theorem kind_at0 (w : World) : (Instr.index 139 (.agg kindsArr) (.int .i64 0)).run Tryd.prog w = .ok (.agg #[.bool false, .func (.func 92) #[] #[], .func (.func 93) #[] #[], .func (.func 94) #[] #[]]) w := by kernel_rfl
theorem kind_at1 (w : World) : (Instr.index 139 (.agg kindsArr) (.int .i64 1)).run Tryd.prog w = .ok (.agg #[.bool true, .func (.func 92) #[] #[], .func (.func 95) #[] #[], .func (.func 96) #[] #[]]) w := by kernel_rfl
theorem kind_at2 (w : World) : (Instr.index 139 (.agg kindsArr) (.int .i64 2)).run Tryd.prog w = .ok (.agg #[.bool true, .func (.func 97) #[] #[], .func (.func 98) #[] #[], .func (.func 99) #[] #[]]) w := by kernel_rfl
theorem kind_at3 (w : World) : (Instr.index 139 (.agg kindsArr) (.int .i64 3)).run Tryd.prog w = .ok (.agg #[.bool true, .func (.func 100) #[] #[], .func (.func 101) #[] #[], .func (.func 102) #[] #[]]) w := by kernel_rfl
theorem kind_at4 (w : World) : (Instr.index 139 (.agg kindsArr) (.int .i64 4)).run Tryd.prog w = .ok (.agg #[.bool false, .func (.func 92) #[] #[], .func (.func 103) #[] #[], .func (.func 104) #[] #[]]) w := by kernel_rfl
/-- What tell hands back, by the kind's number. -/
def toldV : Nat → Int → Int → Value
  | 1, x, v => .agg #[.int .u64 x, .bool true, .func (.func 92) #[] #[], .func (.func 95) #[] #[], .func (.func 96) #[] #[], .int .i64 1, .int .i64 v]
  | 2, x, v => .agg #[.int .u64 x, .bool true, .func (.func 97) #[] #[], .func (.func 98) #[] #[], .func (.func 99) #[] #[], .int .i64 2, .int .i64 v]
  | 3, x, v => .agg #[.int .u64 x, .bool true, .func (.func 100) #[] #[], .func (.func 101) #[] #[], .func (.func 102) #[] #[], .int .i64 3, .int .i64 v]
  | 4, x, v => .agg #[.int .u64 x, .bool false, .func (.func 92) #[] #[], .func (.func 103) #[] #[], .func (.func 104) #[] #[], .int .i64 4, .int .i64 v]
  | _, x, v => .agg #[.int .u64 x, .bool false, .func (.func 92) #[] #[], .func (.func 93) #[] #[], .func (.func 94) #[] #[], .int .i64 0, .int .i64 v]
theorem below_setRow {B : Nat} {a w : World} (h : Below B a w) {g : Nat} (hg : B ≤ g) (cs : Array Value) : Below B a (w.setRow g cs) :=
  h.trans ⟨rfl, rfl, rfl, by simp, fun k hk => setRow_other w g k cs (by omega)⟩
/-- No kind ahead of number k lays the plain word p. -/
def NoneTill (x p : Int) (k : Int) : Prop :=
  (2 ≤ k → ¬ p = 0) ∧ (3 ≤ k → ¬ (p % 8 = 0 ∧ p / 8 ≤ 16777215)) ∧ (4 ≤ k → ¬ (p % 8 = 4 ∧ p / 8 ≤ 1152921504606846975)) ∧ (5 ≤ k → ¬ (p = 2 ∧ x = p))
theorem bad_of (x p : Int) (h0 : 0 ≤ p) (hp1 : p ≤ x) (hp2 : x ≤ p + 1) (hp3 : p % 2 < 1) (h : NoneTill x p 5) : Wd.Is x 0 0 := by
  obtain ⟨a, b, c, d⟩ := h
  have a := a (by omega)
  have b := b (by omega)
  have c := c (by omega)
  have d := d (by omega)
  exact .inr (.inr (.inr (.inr ⟨rfl, rfl, by omega, by omega, by omega⟩)))
end Go.Proofs.YtjfegimgpkeleaaDoor
