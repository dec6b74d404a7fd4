/- package arena: Check. -/
import Derived.Test.YtldfmlkjeniemaaDoorArLeaf
namespace Go.Proofs.YtldfmlkjeniemaaDoor
open Go.RowKit
/-- An access. -/
abbrev acc (k p o n : Int) : Value := .agg #[.int .i64 k, .int .i64 p, .int .u64 o, .int .u64 n]
/-- May the access be? -/
def ck (k p o n : Int) : Bool := (k == 0 && p == 0 && o == 0 && n == 0) || (k == 1 && o == 0 && n == 0) || (k == 2 && o == 0) || k == 3
set_option maxHeartbeats 1000000 in
theorem check_other (k p o n : Int) (w : World) (h0 : (k == 0) = false) (h1 : (k == 1) = false) (h2 : (k == 2) = false) (h3 : (k == 3) = false) : Calls Tryd.prog 76 #[acc k p o n] w fun e w' => e = .returned (.int .i64 2) ∧ Below w.heap.size w w' := by
  go_enter Tryd.func76, Tryd.ntmps76
  go_wp2
  refine wp_scope_once 0 rfl ?_
  go_wp2
  go_step3
  refine ⟨rfl, ?_⟩
  go_wp2
  rw [Exit.noGoto_ret]
  go_ret
  exact ⟨rfl, bel_two w _ _⟩
set_option maxHeartbeats 1000000 in
theorem check_0 (w : World) : Calls Tryd.prog 76 #[acc 0 0 0 0] w fun e w' => e = .returned (.int .i64 0) ∧ Below w.heap.size w w' := by
  go_enter Tryd.func76, Tryd.ntmps76
  go_wp2
  refine wp_scope_once 0 rfl ?_
  go_wp2
  rw [ajump_ret]
  go_ret
  exact ⟨rfl, bel_two w _ _⟩
set_option maxHeartbeats 1000000 in
theorem check_0p (p o n : Int) (w : World) (h : (p == 0) = false) : Calls Tryd.prog 76 #[acc 0 p o n] w fun e w' => e = .returned (.int .i64 2) ∧ Below w.heap.size w w' := by
  go_enter Tryd.func76, Tryd.ntmps76
  go_wp2
  refine wp_scope_once 0 rfl ?_
  go_wp2
  go_step3
  refine ⟨rfl, ?_⟩
  go_wp2
  rw [Exit.noGoto_ret]
  go_ret
  exact ⟨rfl, bel_two w _ _⟩
set_option maxHeartbeats 1000000 in
theorem check_0o (o n : Int) (w : World) (h : (o == 0) = false) : Calls Tryd.prog 76 #[acc 0 0 o n] w fun e w' => e = .returned (.int .i64 2) ∧ Below w.heap.size w w' := by
  go_enter Tryd.func76, Tryd.ntmps76
  go_wp2
  refine wp_scope_once 0 rfl ?_
  go_wp2
  go_step3
  refine ⟨rfl, ?_⟩
  go_wp2
  rw [Exit.noGoto_ret]
  go_ret
  exact ⟨rfl, bel_two w _ _⟩
set_option maxHeartbeats 1000000 in
theorem check_0n (n : Int) (w : World) (h : (n == 0) = false) : Calls Tryd.prog 76 #[acc 0 0 0 n] w fun e w' => e = .returned (.int .i64 2) ∧ Below w.heap.size w w' := by
  go_enter Tryd.func76, Tryd.ntmps76
  go_wp2
  refine wp_scope_once 0 rfl ?_
  go_wp2
  go_step3
  refine ⟨rfl, ?_⟩
  go_wp2
  rw [Exit.noGoto_ret]
  go_ret
  exact ⟨rfl, bel_two w _ _⟩
set_option maxHeartbeats 1000000 in
theorem check_1 (p : Int) (w : World) : Calls Tryd.prog 76 #[acc 1 p 0 0] w fun e w' => e = .returned (.int .i64 0) ∧ Below w.heap.size w w' := by
  go_enter Tryd.func76, Tryd.ntmps76
  go_wp2
  refine wp_scope_once 0 rfl ?_
  go_wp2
  rw [ajump_ret]
  go_ret
  exact ⟨rfl, bel_two w _ _⟩
set_option maxHeartbeats 1000000 in
theorem check_1o (p o n : Int) (w : World) (h : (o == 0) = false) : Calls Tryd.prog 76 #[acc 1 p o n] w fun e w' => e = .returned (.int .i64 2) ∧ Below w.heap.size w w' := by
  go_enter Tryd.func76, Tryd.ntmps76
  go_wp2
  refine wp_scope_once 0 rfl ?_
  go_wp2
  go_step3
  refine ⟨rfl, ?_⟩
  go_wp2
  rw [Exit.noGoto_ret]
  go_ret
  exact ⟨rfl, bel_two w _ _⟩
set_option maxHeartbeats 1000000 in
theorem check_1n (p n : Int) (w : World) (h : (n == 0) = false) : Calls Tryd.prog 76 #[acc 1 p 0 n] w fun e w' => e = .returned (.int .i64 2) ∧ Below w.heap.size w w' := by
  go_enter Tryd.func76, Tryd.ntmps76
  go_wp2
  refine wp_scope_once 0 rfl ?_
  go_wp2
  go_step3
  refine ⟨rfl, ?_⟩
  go_wp2
  rw [Exit.noGoto_ret]
  go_ret
  exact ⟨rfl, bel_two w _ _⟩
set_option maxHeartbeats 1000000 in
theorem check_2 (p n : Int) (w : World) : Calls Tryd.prog 76 #[acc 2 p 0 n] w fun e w' => e = .returned (.int .i64 0) ∧ Below w.heap.size w w' := by
  go_enter Tryd.func76, Tryd.ntmps76
  go_wp2
  refine wp_scope_once 0 rfl ?_
  go_wp2
  go_region
  go_wp2
  rw [ajump_ret]
  go_ret
  exact ⟨rfl, (bel_two w _ _).drew⟩
set_option maxHeartbeats 1000000 in
theorem check_2o (p o n : Int) (w : World) (h : (o == 0) = false) : Calls Tryd.prog 76 #[acc 2 p o n] w fun e w' => e = .returned (.int .i64 2) ∧ Below w.heap.size w w' := by
  go_enter Tryd.func76, Tryd.ntmps76
  go_wp2
  refine wp_scope_once 0 rfl ?_
  go_wp2
  go_region
  go_wp2
  go_step3
  refine ⟨rfl, ?_⟩
  go_wp2
  rw [Exit.noGoto_ret]
  go_ret
  exact ⟨rfl, (bel_two w _ _).drew⟩
set_option maxHeartbeats 1000000 in
theorem check_3 (p o n : Int) (w : World) : Calls Tryd.prog 76 #[acc 3 p o n] w fun e w' => e = .returned (.int .i64 0) ∧ Below w.heap.size w w' := by
  go_enter Tryd.func76, Tryd.ntmps76
  go_wp2
  refine wp_scope_once 0 rfl ?_
  go_wp2
  rw [ajump_ret]
  go_ret
  exact ⟨rfl, bel_two w _ _⟩
theorem Check_any (k p o n : Int) (w : World) : Calls Tryd.prog 76 #[acc k p o n] w fun e w' => e = .returned (.int .i64 (if ck k p o n then 0 else 2)) ∧ Below w.heap.size w w' := by
  by_cases h0 : k = 0
  · subst h0
    by_cases hp : p = 0
    · subst hp
      by_cases ho : o = 0
      · subst ho
        by_cases hn : n = 0
        · subst hn; exact check_0 w
        · have e : ck 0 0 0 n = false := by simp [ck, hn]
          rw [e]; exact check_0n n w (by simpa using hn)
      · have e : ck 0 0 o n = false := by simp [ck, ho]
        rw [e]; exact check_0o o n w (by simpa using ho)
    · have e : ck 0 p o n = false := by simp [ck, hp]
      rw [e]; exact check_0p p o n w (by simpa using hp)
  · by_cases h1 : k = 1
    · subst h1
      by_cases ho : o = 0
      · subst ho
        by_cases hn : n = 0
        · subst hn; exact check_1 p w
        · have e : ck 1 p 0 n = false := by simp [ck, hn]
          rw [e]; exact check_1n p n w (by simpa using hn)
      · have e : ck 1 p o n = false := by simp [ck, ho]
        rw [e]; exact check_1o p o n w (by simpa using ho)
    · by_cases h2 : k = 2
      · subst h2
        by_cases ho : o = 0
        · subst ho; exact check_2 p n w
        · have e : ck 2 p o n = false := by simp [ck, ho]
          rw [e]; exact check_2o p o n w (by simpa using ho)
      · by_cases h3 : k = 3
        · subst h3; exact check_3 p o n w
        · have e : ck k p o n = false := by simp [ck, h0, h1, h2, h3]
          rw [e]; exact check_other k p o n w (by simpa using h0) (by simpa using h1) (by simpa using h2) (by simpa using h3)
end Go.Proofs.YtldfmlkjeniemaaDoor
