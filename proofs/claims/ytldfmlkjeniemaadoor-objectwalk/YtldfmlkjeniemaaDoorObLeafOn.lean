/- package object: giveUp, told, caught: a call that gives up, and the error that it is told as. -/
import Derived.Test.YtldfmlkjeniemaaDoorBsKitOn
import Derived.Defers
import Derived.Recover
import Derived.Test.YtldfmlkjeniemaaDoorWdSpecOn
import Derived.Test.YtldfmlkjeniemaaDoorPkRefBOn
namespace Go.Proofs.YtldfmlkjeniemaaDoor
open Go.RowKit
/-- What a call gives up with. -/
abbrev refuV (k : Int) : Value := .iface 117 (.agg #[.int .i64 k])
abbrev upE (k : Int) : Ending := .panicked [{ v := refuV k, recovered := false }]
theorem giveUp_any (k : Int) (w : World) : Calls Tryd.prog 44 #[.int .i64 k] w fun e w' => e = upE k ∧ w' = w := by
  go_enter Tryd.func44, Tryd.ntmps44
  go_wp2
  exact ⟨rfl, rfl, rfl⟩
theorem assert_refu (k : Int) (w : World) : (Instr.typeAssert (refuV k) 20 117 true).run Tryd.prog w = .ok (.tuple #[.agg #[.int .i64 k], .bool true]) w := by
  simp [Instr.typeAssert, run_underlying Tryd.underlying117]
set_option maxRecDepth 100000 in
theorem otold_any (k : Int) (w : World) : Calls Tryd.prog 42 #[refuV k] w fun e w' => e = .returned (.int .i64 k) ∧ Below w.heap.size w w' := by
  have ha := assert_refu k
  have hnot : ∀ (x : Bool) (w : World), (Op.unary .not (.bool x)).run Tryd.prog w = .ok (.bool (!x)) w := fun _ _ => rfl
  go_enter Tryd.func42, Tryd.ntmps42
  go_wp2
  go_ret
  exact ⟨rfl, below_alloc0 _ _⟩
abbrev errO (k : Int) : Obj := .cells #[.int .i64 k] 30
/-- The deferred closure of a call that returns: it does nothing. -/
theorem catch_idle (p : Addr) (w : World) :
    CallsD Tryd.prog 41 #[.pointer (some p)] .returning w fun e u' w' => e = .returned (.tuple #[]) ∧ u' = .returning ∧ w' = w := by
  refine callsD_of_wpS Tryd.func41 rfl fun c₀ cs hu => ?_
  apply wpS_seq
  apply wpS_region
  simp [wpOpsS, go_sem, recoverD, hu, Tryd.ntmps41, Exit.thenS]
  refine wpS_of_wp ?_
  go_wp2
  cases c₀
  simp_all [bodyPostS, results, Tryd.results41]
/-- .. of one that gives up: the error is laid. -/
theorem catch_up (g : Nat) (k : Int) (w : World) (hr : w.heap[g]? = some (errO 0)) :
    CallsD Tryd.prog 41 #[.pointer (some ⟨g, 0, none⟩)] (.panicking [{ v := refuV k, recovered := false }]) w fun e u' w' => e = .returned (.tuple #[]) ∧ u' = .panicking [{ v := refuV k, recovered := true }] ∧ ∃ w1, Below w.heap.size w w1 ∧ w' = w1.setCell ⟨g, 0, none⟩ (.int .i64 k) := by
  have ct := otold_any k w
  refine callsD_of_wpS Tryd.func41 rfl fun c₀ cs hu => ?_
  apply wpS_seq
  apply wpS_region
  simp [wpOpsS, go_sem, recoverD, hu, Tryd.ntmps41, Exit.thenS]
  refine wpS_of_wp ?_
  go_wp2_with (go_at_call 42; refine ct.mono ?_)
  rintro e w1 ⟨rfl, b1⟩
  have hr1 := (b1.block g (Array.getElem?_eq_some_iff.1 hr).1).trans hr
  have h0 := at_row hr1 0 rfl
  have hf := fz_row hr1 0
  have HB := hid b1
  clear b1 hr1 hr ct
  go_wp2
  refine ⟨rfl, _, rfl, .tuple #[], results_none rfl _ _ _, rfl, rfl, w1, HB.out, rfl⟩
set_option maxRecDepth 100000 in
/-- A call that returns: no error. What it leaves, and the error's own variable behind it. -/
theorem caught_ok (fn : Nat) (cap : Array Value) (w : World) (Q : World → Prop) (hcf : ∀ w, (callFunc fn cap).run Tryd.prog w = .ok (.enter fn cap) w) (hc : Calls Tryd.prog fn cap (w.alloc (errO 0)) fun e w' => e = .returned (.tuple #[]) ∧ w'.heap[w.heap.size]? = some (errO 0) ∧ Q w') :
    Calls Tryd.prog 22 #[.func (.func fn) #[] cap] w fun e w' => e = .returned (.int .i64 0) ∧ ∃ w1, Q w1 ∧ w1.heap[w.heap.size]? = some (errO 0) ∧ w' = w1.setCell ⟨w.heap.size, 0, none⟩ (.int .i64 0) := by
  have hmf : ∀ (fn : Fn) (first cap : Array Value) (w : World), (Instr.makeFunc fn first cap).run Tryd.prog w = .ok (.func fn first cap) w := fun _ _ _ _ => rfl
  go_enter_defers Tryd.func22, Tryd.ntmps22
  go_wp2_with (refine hc.mono ?_)
  rintro e w1 ⟨rfl, hr, hq⟩
  have h0 := at_row hr 0 rfl
  have hf := fz_row hr 0
  have HQ := hid hq
  have HR := hid hr
  clear hr hq hc hcf
  go_wp2
  refine leaves_cons (f := 41) (args := #[.pointer (some ⟨w.heap.size, 0, none⟩)]) (by simp) (by simp [go_sem]) ?_
  refine (catch_idle ⟨w.heap.size, 0, none⟩ _).mono ?_
  rintro e u' w'' ⟨rfl, rfl, rfl⟩
  have hs : (w1.setCell ⟨w.heap.size, 0, none⟩ (.int .i64 0)).cell? ⟨w.heap.size, 0, none⟩ = some (.int .i64 0) := World.cell?_setCell_same' _ _ _ (by rw [h0]; rfl)
  simp [Leaves, settle, results, Tryd.results22, go_sem, hs]
  exact ⟨w1, HQ.out, HR.out, rfl⟩
set_option maxRecDepth 100000 in
/-- A call that gives up: the error that it gives up with. -/
theorem caught_up (fn : Nat) (cap : Array Value) (k : Int) (w : World) (Q : World → Prop) (hcf : ∀ w, (callFunc fn cap).run Tryd.prog w = .ok (.enter fn cap) w) (hc : Calls Tryd.prog fn cap (w.alloc (errO 0)) fun e w' => e = upE k ∧ w'.heap[w.heap.size]? = some (errO 0) ∧ Q w') :
    Calls Tryd.prog 22 #[.func (.func fn) #[] cap] w fun e w' => e = .returned (.int .i64 k) ∧ ∃ w1 w2, Q w1 ∧ w1.heap[w.heap.size]? = some (errO 0) ∧ Below w1.heap.size w1 w2 ∧ w' = w2.setCell ⟨w.heap.size, 0, none⟩ (.int .i64 k) := by
  have hmf : ∀ (fn : Fn) (first cap : Array Value) (w : World), (Instr.makeFunc fn first cap).run Tryd.prog w = .ok (.func fn first cap) w := fun _ _ _ _ => rfl
  go_enter_defers Tryd.func22, Tryd.ntmps22
  go_wp2_with (refine hc.mono ?_)
  rintro e w1 ⟨rfl, hr, hq⟩
  have HQ := hid hq
  have HR := hid hr
  clear hr hq hc hcf
  go_wp2
  refine leaves_cons (f := 41) (args := #[.pointer (some ⟨w.heap.size, 0, none⟩)]) (by simp) (by simp [go_sem]) ?_
  refine (catch_up w.heap.size k w1 HR.out).mono ?_
  rintro e u' w'' ⟨rfl, rfl, w2, b2, rfl⟩
  have h0 := at_row ((b2.block _ (Array.getElem?_eq_some_iff.1 HR.out).1).trans HR.out) 0 rfl
  have hs : (w2.setCell ⟨w.heap.size, 0, none⟩ (.int .i64 k)).cell? ⟨w.heap.size, 0, none⟩ = some (.int .i64 k) := World.cell?_setCell_same' _ _ _ (by rw [h0]; rfl)
  simp [Leaves, settle, results, Tryd.results22, go_sem, hs]
  exact ⟨w1, HQ.out, HR.out, w2, b2, rfl⟩
end Go.Proofs.YtldfmlkjeniemaaDoor
/- The plain mathematics of layer 7: what a walk comes to and what it tells; no model in it. -/
namespace Go.Ob
/-- The words that a walk comes to, one behind the other: f tells how many words the object has that stands at a word, or 0. -/
def vis (f : Int → Int) (a : Int) : Nat → Int
  | 0 => a
  | k + 1 => vis f a k + max (f (vis f a k)) 1
/-- The objects among the first so many of them. -/
def tol (f : Int → Int) (a : Int) : Nat → List Int
  | 0 => []
  | k + 1 => tol f a k ++ (if 0 < f (vis f a k) then [vis f a k] else [])
theorem vis_succ (f : Int → Int) (a : Int) (k : Nat) : vis f a (k + 1) = vis f a k + max (f (vis f a k)) 1 := rfl
theorem tol_hit {f : Int → Int} {a : Int} {k : Nat} (h : 0 < f (vis f a k)) : tol f a (k + 1) = tol f a k ++ [vis f a k] := by
  show tol f a k ++ (if 0 < f (vis f a k) then [vis f a k] else []) = _
  rw [if_pos h]
theorem tol_miss {f : Int → Int} {a : Int} {k : Nat} (h : ¬ 0 < f (vis f a k)) : tol f a (k + 1) = tol f a k := by
  show tol f a k ++ (if 0 < f (vis f a k) then [vis f a k] else []) = _
  rw [if_neg h, List.append_nil]
theorem vis_add (f : Int → Int) (a : Int) (j : Nat) : ∀ k, vis f (vis f a j) k = vis f a (j + k)
  | 0 => rfl
  | k + 1 => by
    rw [vis_succ, vis_add f a j k]
    rfl
theorem tol_add (f : Int → Int) (a : Int) (j : Nat) : ∀ k, tol f a (j + k) = tol f a j ++ tol f (vis f a j) k
  | 0 => by simp [tol]
  | k + 1 => by
    show tol f a (j + k) ++ (if 0 < f (vis f a (j + k)) then [vis f a (j + k)] else []) = tol f a j ++ (tol f (vis f a j) k ++ (if 0 < f (vis f (vis f a j) k) then [vis f (vis f a j) k] else []))
    rw [tol_add f a j k, vis_add, List.append_assoc]
theorem vis_lt (f : Int → Int) (a : Int) (k : Nat) : vis f a k + 1 ≤ vis f a (k + 1) := by
  rw [vis_succ]; omega
theorem vis_ge (f : Int → Int) (a : Int) : ∀ k : Nat, a + (k : Int) ≤ vis f a k
  | 0 => by simp [vis]
  | k + 1 => by
    have := vis_ge f a k
    have := vis_lt f a k
    omega
theorem vis_mono (f : Int → Int) (a : Int) (j : Nat) : ∀ k, vis f a j ≤ vis f a (j + k)
  | 0 => Int.le_refl _
  | k + 1 => by
    have := vis_mono f a j k
    have := vis_lt f a (j + k)
    rw [show j + (k + 1) = j + k + 1 by omega]
    omega
theorem tol_le (f : Int → Int) (a : Int) : ∀ k, (tol f a k).length ≤ k
  | 0 => by simp [tol]
  | k + 1 => by
    have := tol_le f a k
    by_cases h : 0 < f (vis f a k)
    · rw [tol_hit h]; simp; omega
    · rw [tol_miss h]; omega
theorem tol_mono (f : Int → Int) (a : Int) (j k : Nat) : (tol f a j).length ≤ (tol f a (j + k)).length := by
  rw [tol_add]; simp
/-- A walk up to U ends at the first word that is not below U. -/
def Ends (f : Int → Int) (a U : Int) (K : Nat) : Prop := U ≤ vis f a K ∧ ∀ j, j < K → vis f a j < U
theorem Ends.uniq {f : Int → Int} {a U : Int} {K L : Nat} (h : Ends f a U K) (k : Ends f a U L) : K = L := by
  by_cases h1 : K < L
  · have := k.2 K h1; have := h.1; omega
  · by_cases h2 : L < K
    · have := h.2 L h2; have := k.1; omega
    · omega
theorem Ends.le {f : Int → Int} {a U : Int} {K : Nat} (h : Ends f a U K) (ha : a ≤ U) : a + (K : Int) ≤ U := by
  cases K with
  | zero => simpa using ha
  | succ k =>
    have := h.2 k (by omega)
    have := vis_ge f a k
    omega
theorem Ends.part {f : Int → Int} {a U : Int} {K j : Nat} (h : Ends f a U K) (hj : j ≤ K) : Ends f (vis f a j) U (K - j) := by
  refine ⟨?_, fun i hi => ?_⟩
  · rw [vis_add, show j + (K - j) = K by omega]; exact h.1
  · rw [vis_add]; exact h.2 _ (by omega)
/-- Which word an object is at that is told. -/
theorem tol_get (f : Int → Int) (a : Int) : ∀ (K i : Nat), i < (tol f a K).length → ∃ j, j < K ∧ (tol f a j).length = i ∧ (tol f a K).getD i 0 = vis f a j ∧ 0 < f (vis f a j)
  | 0, i, h => by simp [tol] at h
  | K + 1, i, h => by
    by_cases hk : 0 < f (vis f a K)
    · rw [tol_hit hk] at h ⊢
      by_cases hi : i < (tol f a K).length
      · obtain ⟨j, h1, h2, h3, h4⟩ := tol_get f a K i hi
        refine ⟨j, by omega, h2, ?_, h4⟩
        rw [← h3, List.getD_eq_getElem?_getD, List.getD_eq_getElem?_getD, List.getElem?_append_left hi]
      · have e : i = (tol f a K).length := by simp at h; omega
        refine ⟨K, by omega, e.symm, ?_, hk⟩
        rw [List.getD_eq_getElem?_getD, e]; simp
    · rw [tol_miss hk] at h ⊢
      obtain ⟨j, h1, h2, h3, h4⟩ := tol_get f a K i h
      exact ⟨j, by omega, h2, h3, h4⟩
/-- What stands behind the object that is told as number i is what is told behind it. -/
theorem tol_behind {f : Int → Int} {a : Int} {K j : Nat} (hj : j < K) (hf : 0 < f (vis f a j)) :
    (tol f a K).length = (tol f a j).length + 1 + (tol f (vis f a (j + 1)) (K - (j + 1))).length ∧
    ∀ i, (tol f a K).getD ((tol f a j).length + 1 + i) 0 = (tol f (vis f a (j + 1)) (K - (j + 1))).getD i 0 := by
  have e : tol f a K = tol f a (j + 1) ++ tol f (vis f a (j + 1)) (K - (j + 1)) := by
    rw [← tol_add, show j + 1 + (K - (j + 1)) = K by omega]
  rw [e, tol_hit hf]
  refine ⟨by simp; omega, fun i => ?_⟩
  rw [List.getD_eq_getElem?_getD, List.getD_eq_getElem?_getD, List.getElem?_append_right (by simp)]
  simp
theorem vis_hit {f : Int → Int} {a : Int} {j : Nat} (h : 0 < f (vis f a j)) : vis f a (j + 1) = vis f a j + f (vis f a j) := by
  rw [vis_succ]; omega
/-- Objects that are told one behind the other: the second one begins where the first one has ended, or behind. -/
theorem tol_next {f : Int → Int} {a : Int} {i j : Nat} (hl : (tol f a i).length < (tol f a j).length) : i < j := by
  by_cases h : i < j
  · exact h
  · have := tol_mono f a j (i - j)
    rw [show j + (i - j) = i by omega] at this
    omega
end Go.Ob
/- package arena: Check. -/
namespace Go.Proofs.YtldfmlkjeniemaaDoor
open Go.RowKit
/-- An access. -/
abbrev acc (k p o n : Int) : Value := .agg #[.int .i64 k, .int .i64 p, .int .u64 o, .int .u64 n]
/-- May the access be? -/
def ck (k p o n : Int) : Bool := (k == 0 && p == 0 && o == 0 && n == 0) || (k == 1 && o == 0 && n == 0) || (k == 2 && o == 0) || k == 3
set_option maxHeartbeats 1000000 in
theorem check_other (k p o n : Int) (w : World) (h0 : (k == 0) = false) (h1 : (k == 1) = false) (h2 : (k == 2) = false) (h3 : (k == 3) = false) : Calls Tryd.prog 76 #[acc k p o n] w fun e w' => e = .returned (.int .i64 2) ∧ Below w.heap.size w w' := by
  go_enter Tryd.func76, Tryd.ntmps76
  go_wp2
  refine wp_scope_once 0 rfl ?_
  go_wp2
  go_step3
  refine ⟨rfl, ?_⟩
  go_wp2
  rw [Exit.noGoto_ret]
  go_ret
  exact ⟨rfl, bel_two w _ _⟩
set_option maxHeartbeats 1000000 in
theorem check_0 (w : World) : Calls Tryd.prog 76 #[acc 0 0 0 0] w fun e w' => e = .returned (.int .i64 0) ∧ Below w.heap.size w w' := by
  go_enter Tryd.func76, Tryd.ntmps76
  go_wp2
  refine wp_scope_once 0 rfl ?_
  go_wp2
  rw [ajump_ret]
  go_ret
  exact ⟨rfl, bel_two w _ _⟩
set_option maxHeartbeats 1000000 in
theorem check_0p (p o n : Int) (w : World) (h : (p == 0) = false) : Calls Tryd.prog 76 #[acc 0 p o n] w fun e w' => e = .returned (.int .i64 2) ∧ Below w.heap.size w w' := by
  go_enter Tryd.func76, Tryd.ntmps76
  go_wp2
  refine wp_scope_once 0 rfl ?_
  go_wp2
  go_step3
  refine ⟨rfl, ?_⟩
  go_wp2
  rw [Exit.noGoto_ret]
  go_ret
  exact ⟨rfl, bel_two w _ _⟩
set_option maxHeartbeats 1000000 in
theorem check_0o (o n : Int) (w : World) (h : (o == 0) = false) : Calls Tryd.prog 76 #[acc 0 0 o n] w fun e w' => e = .returned (.int .i64 2) ∧ Below w.heap.size w w' := by
  go_enter Tryd.func76, Tryd.ntmps76
  go_wp2
  refine wp_scope_once 0 rfl ?_
  go_wp2
  go_step3
  refine ⟨rfl, ?_⟩
  go_wp2
  rw [Exit.noGoto_ret]
  go_ret
  exact ⟨rfl, bel_two w _ _⟩
set_option maxHeartbeats 1000000 in
theorem check_0n (n : Int) (w : World) (h : (n == 0) = false) : Calls Tryd.prog 76 #[acc 0 0 0 n] w fun e w' => e = .returned (.int .i64 2) ∧ Below w.heap.size w w' := by
  go_enter Tryd.func76, Tryd.ntmps76
  go_wp2
  refine wp_scope_once 0 rfl ?_
  go_wp2
  go_step3
  refine ⟨rfl, ?_⟩
  go_wp2
  rw [Exit.noGoto_ret]
  go_ret
  exact ⟨rfl, bel_two w _ _⟩
set_option maxHeartbeats 1000000 in
theorem check_1 (p : Int) (w : World) : Calls Tryd.prog 76 #[acc 1 p 0 0] w fun e w' => e = .returned (.int .i64 0) ∧ Below w.heap.size w w' := by
  go_enter Tryd.func76, Tryd.ntmps76
  go_wp2
  refine wp_scope_once 0 rfl ?_
  go_wp2
  rw [ajump_ret]
  go_ret
  exact ⟨rfl, bel_two w _ _⟩
set_option maxHeartbeats 1000000 in
theorem check_1o (p o n : Int) (w : World) (h : (o == 0) = false) : Calls Tryd.prog 76 #[acc 1 p o n] w fun e w' => e = .returned (.int .i64 2) ∧ Below w.heap.size w w' := by
  go_enter Tryd.func76, Tryd.ntmps76
  go_wp2
  refine wp_scope_once 0 rfl ?_
  go_wp2
  go_step3
  refine ⟨rfl, ?_⟩
  go_wp2
  rw [Exit.noGoto_ret]
  go_ret
  exact ⟨rfl, bel_two w _ _⟩
set_option maxHeartbeats 1000000 in
theorem check_1n (p n : Int) (w : World) (h : (n == 0) = false) : Calls Tryd.prog 76 #[acc 1 p 0 n] w fun e w' => e = .returned (.int .i64 2) ∧ Below w.heap.size w w' := by
  go_enter Tryd.func76, Tryd.ntmps76
  go_wp2
  refine wp_scope_once 0 rfl ?_
  go_wp2
  go_step3
  refine ⟨rfl, ?_⟩
  go_wp2
  rw [Exit.noGoto_ret]
  go_ret
  exact ⟨rfl, bel_two w _ _⟩
set_option maxHeartbeats 1000000 in
theorem check_2 (p n : Int) (w : World) : Calls Tryd.prog 76 #[acc 2 p 0 n] w fun e w' => e = .returned (.int .i64 0) ∧ Below w.heap.size w w' := by
  go_enter Tryd.func76, Tryd.ntmps76
  go_wp2
  refine wp_scope_once 0 rfl ?_
  go_wp2
  go_region
  go_wp2
  rw [ajump_ret]
  go_ret
  exact ⟨rfl, (bel_two w _ _).drew⟩
set_option maxHeartbeats 1000000 in
theorem check_2o (p o n : Int) (w : World) (h : (o == 0) = false) : Calls Tryd.prog 76 #[acc 2 p o n] w fun e w' => e = .returned (.int .i64 2) ∧ Below w.heap.size w w' := by
  go_enter Tryd.func76, Tryd.ntmps76
  go_wp2
  refine wp_scope_once 0 rfl ?_
  go_wp2
  go_region
  go_wp2
  go_step3
  refine ⟨rfl, ?_⟩
  go_wp2
  rw [Exit.noGoto_ret]
  go_ret
  exact ⟨rfl, (bel_two w _ _).drew⟩
set_option maxHeartbeats 1000000 in
theorem check_3 (p o n : Int) (w : World) : Calls Tryd.prog 76 #[acc 3 p o n] w fun e w' => e = .returned (.int .i64 0) ∧ Below w.heap.size w w' := by
  go_enter Tryd.func76, Tryd.ntmps76
  go_wp2
  refine wp_scope_once 0 rfl ?_
  go_wp2
  rw [ajump_ret]
  go_ret
  exact ⟨rfl, bel_two w _ _⟩
theorem Check_any (k p o n : Int) (w : World) : Calls Tryd.prog 76 #[acc k p o n] w fun e w' => e = .returned (.int .i64 (if ck k p o n then 0 else 2)) ∧ Below w.heap.size w w' := by
  by_cases h0 : k = 0
  · subst h0
    by_cases hp : p = 0
    · subst hp
      by_cases ho : o = 0
      · subst ho
        by_cases hn : n = 0
        · subst hn; exact check_0 w
        · have e : ck 0 0 0 n = false := by simp [ck, hn]
          rw [e]; exact check_0n n w (by simpa using hn)
      · have e : ck 0 0 o n = false := by simp [ck, ho]
        rw [e]; exact check_0o o n w (by simpa using ho)
    · have e : ck 0 p o n = false := by simp [ck, hp]
      rw [e]; exact check_0p p o n w (by simpa using hp)
  · by_cases h1 : k = 1
    · subst h1
      by_cases ho : o = 0
      · subst ho
        by_cases hn : n = 0
        · subst hn; exact check_1 p w
        · have e : ck 1 p 0 n = false := by simp [ck, hn]
          rw [e]; exact check_1n p n w (by simpa using hn)
      · have e : ck 1 p o n = false := by simp [ck, ho]
        rw [e]; exact check_1o p o n w (by simpa using ho)
    · by_cases h2 : k = 2
      · subst h2
        by_cases ho : o = 0
        · subst ho; exact check_2 p n w
        · have e : ck 2 p o n = false := by simp [ck, ho]
          rw [e]; exact check_2o p o n w (by simpa using ho)
      · by_cases h3 : k = 3
        · subst h3; exact check_3 p o n w
        · have e : ck k p o n = false := by simp [ck, h0, h1, h2, h3]
          rw [e]; exact check_other k p o n w (by simpa using h0) (by simpa using h1) (by simpa using h2) (by simpa using h3)
end Go.Proofs.YtldfmlkjeniemaaDoor
