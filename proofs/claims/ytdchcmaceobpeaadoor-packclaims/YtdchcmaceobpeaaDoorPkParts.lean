/- Package pack's methods of a frontier under way, and what takes a word apart. -/
import Derived.Test.YtdchcmaceobpeaaDoorPkLeaf
namespace Go.Proofs.YtdchcmaceobpeaaDoor
open Go.RowKit
theorem apart_any (x : Int) (w : World) :
    Calls Tryd.prog 30 #[.int .u64 x] w fun e w' => e = .returned (.func (.func 40) #[] #[.pointer (some ⟨w.heap.size, 0, none⟩)]) ∧ w' = w.alloc (.cells #[.int .u64 x] 27) := by
  go_enter Tryd.func30, Tryd.ntmps30
  go_wp2
  go_ret
  exact ⟨rfl, rfl⟩
theorem take_at (base x r q : Int) (g : Nat) (w : World) (x0 : 0 ≤ x) (x1 : x ≤ 18446744073709551615) (b0 : 1 ≤ base) (b1 : base ≤ 9223372036854775808) (hr : Hid (x % base = r)) (hq : Hid (x / base = q))
    (hc : w.cell? ⟨g, 0, none⟩ = some (.int .u64 x)) (hz : w.frozen? ⟨g, 0, none⟩ = false) :
    Calls Tryd.prog 40 #[.int .u64 base, .pointer (some ⟨g, 0, none⟩)] w fun e w' => e = .returned (.int .i64 r) ∧ w' = w.setCell ⟨g, 0, none⟩ (.int .u64 q) := by
  have hb0 : (base == 0) = false := by rw [beq_eq_false_iff_ne]; omega
  have m0 : 0 ≤ x % base := Int.emod_nonneg _ (by omega)
  have m1 : x % base < base := Int.emod_lt_of_pos _ (by omega)
  have d0 : 0 ≤ x / base := Int.ediv_nonneg x0 (by omega)
  have d1 : x / base ≤ x := Int.ediv_le_self _ x0
  go_enter Tryd.func40, Tryd.ntmps40
  go_wp2
  go_ret
  exact ⟨ret_int hr.out, by rw [hq.out]⟩
theorem claim_cur (g : Nat) (s l h o x n : Int) (w : World) (hf : FrAt w g s l h o) (hz : w.frozen? ⟨g, 1, none⟩ = false) (hx : (x == s) = true) (l0 : 0 ≤ l) (l1 : l ≤ 4096) (n0 : 1 ≤ n) (n1 : n ≤ 4096) :
    Calls Tryd.prog 35 #[.pointer (some ⟨g, 0, none⟩), .int .i64 x, .int .i64 n] w fun e w' => e = .returned (.int .i64 l) ∧ w' = w.setCell ⟨g, 1, none⟩ (.int .i64 (l + n)) := by
  have hf' := hid hf
  obtain ⟨c0, c1, c2, c3⟩ := hf
  go_enter Tryd.func35, Tryd.ntmps35
  go_wp2_with (go_at_call 41; refine (claimed_cur g s l h o x _ hf'.out hx).mono ?_; rintro e w' ⟨rfl, rfl⟩)
  go_ret
  exact ⟨rfl, rfl⟩
theorem claim_other (g : Nat) (s l h o x n : Int) (w : World) (hf : FrAt w g s l h o) (hz : w.frozen? ⟨g, 3, none⟩ = false) (hx : (x == s) = false) (l0 : 0 ≤ o) (l1 : o ≤ 4096) (n0 : 1 ≤ n) (n1 : n ≤ 4096) :
    Calls Tryd.prog 35 #[.pointer (some ⟨g, 0, none⟩), .int .i64 x, .int .i64 n] w fun e w' => e = .returned (.int .i64 o) ∧ w' = w.setCell ⟨g, 3, none⟩ (.int .i64 (o + n)) := by
  have hf' := hid hf
  obtain ⟨c0, c1, c2, c3⟩ := hf
  go_enter Tryd.func35, Tryd.ntmps35
  go_wp2_with (go_at_call 41; refine (claimed_other g s l h o x _ hf'.out hx).mono ?_; rintro e w' ⟨rfl, rfl⟩)
  go_ret
  exact ⟨rfl, rfl⟩
theorem turn_at (g : Nat) (s l h o x : Int) (w : World) (hf : FrAt w g s l h o) (f0 : w.frozen? ⟨g, 0, none⟩ = false) (f1 : w.frozen? ⟨g, 1, none⟩ = false) (f2 : w.frozen? ⟨g, 2, none⟩ = false) (f3 : w.frozen? ⟨g, 3, none⟩ = false) (s0 : 0 ≤ s) (s1 : s ≤ 1) :
    Calls Tryd.prog 37 #[.pointer (some ⟨g, 0, none⟩), .int .i64 x] w fun e w' => e = .returned (.tuple #[]) ∧ w' = ((((w.setCell ⟨g, 0, none⟩ (.int .i64 (1 - s))).setCell ⟨g, 1, none⟩ (.int .i64 o)).setCell ⟨g, 2, none⟩ (.int .i64 x)).setCell ⟨g, 3, none⟩ (.int .i64 0)).drew := by
  obtain ⟨c0, c1, c2, c3⟩ := hf
  go_enter Tryd.func37, Tryd.ntmps37
  go_wp2_with fail
  go_region
  go_wp2
  go_end0
  exact ⟨rfl, rfl⟩
end Go.Proofs.YtdchcmaceobpeaaDoor
