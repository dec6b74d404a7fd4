/- package head: Make, Of, Marked, Size, Name. -/
import Derived.Test.YtjjbdfabckdogaaDoorHdLeaf
import Derived.Test.YtjjbdfabckdogaaDoorShTop
namespace Go.Hd
/-- Is it a header's word? -/
def isH (x : Int) : Bool := decide (x % 8 = 6) && ok (x / 32) (x / 8 % 4)
theorem isH_wd {s m : Int} (h : ok s m = true) : isH (wd s m) = true ∧ wd s m / 32 = s ∧ wd s m / 8 % 4 = m ∧ 0 ≤ wd s m ∧ wd s m ≤ 510 := by
  obtain ⟨a, b, c, d⟩ := ok_yes h
  have e1 : wd s m / 32 = s := by unfold wd; omega
  have e2 : wd s m / 8 % 4 = m := by unfold wd; omega
  have e3 : wd s m % 8 = 6 := by unfold wd; omega
  refine ⟨?_, e1, e2, ?_, ?_⟩
  · unfold isH; rw [e1, e2, e3, h]; rfl
  · unfold wd; omega
  · unfold wd; omega
theorem isH_is {x : Int} (h : isH x = true) : ok (x / 32) (x / 8 % 4) = true ∧ x % 8 = 6 ∧ wd (x / 32) (x / 8 % 4) = x := by
  simp only [isH, Bool.and_eq_true, decide_eq_true_eq] at h
  refine ⟨h.2, h.1, ?_⟩
  unfold wd; omega
def mkd (x m : Int) : Int × Int := if isH x && mk m then (wd (x / 32) m, 0) else (0, 2)
end Go.Hd
namespace Go.Proofs.YtjjbdfabckdogaaDoor
open Go.RowKit Go.Hd Go.Sh
theorem below2 (w : World) (A B : Obj) : Below w.heap.size w ((w.alloc A).alloc B) := (below_alloc0 w A).alloc (by simp) B
set_option maxHeartbeats 1000000 in
theorem make_yes (s m : Int) (w : World) (h : ok s m = true) : Calls Tryd.prog 9 #[.agg #[.int .i64 s, .int .i64 m]] w fun e w' => e = .returned (.tuple #[.int .u64 (wd s m), .int .i64 0]) ∧ Below w.heap.size w w' := by
  have c := fun W => hmay_any s m W
  rw [h] at c
  have c2 := fun W => hword_any s m W h
  clear h
  go_enter Tryd.func9, Tryd.ntmps9
  go_wp2_with (go_at_call 24; refine (c _).mono ?_)
  rintro e w1 ⟨rfl, b1⟩
  have c0 := at_row (row2b b1) 0 rfl
  have c1 := at_row (row2b b1) 1 rfl
  have bw := bel2 b1
  clear b1
  go_wp2_with (go_at_call 25; refine (c2 _).mono ?_)
  rintro e w2 ⟨rfl, b2⟩
  go_wp2
  go_ret2
  exact ⟨rfl, bw.trans (b2.mono bw.size)⟩
set_option maxHeartbeats 1000000 in
theorem make_no (s m : Int) (w : World) (h : ok s m = false) : Calls Tryd.prog 9 #[.agg #[.int .i64 s, .int .i64 m]] w fun e w' => e = .returned (.tuple #[.int .u64 0, .int .i64 2]) ∧ Below w.heap.size w w' := by
  have c := fun W => hmay_any s m W
  rw [h] at c
  clear h
  go_enter Tryd.func9, Tryd.ntmps9
  go_wp2_with (go_at_call 24; refine (c _).mono ?_)
  rintro e w1 ⟨rfl, b1⟩
  have bw := bel2 b1
  clear b1
  go_wp2
  go_ret2
  exact ⟨rfl, bw⟩
set_option maxHeartbeats 1000000 in
theorem of_odd (x : Int) (w : World) (x0 : 0 ≤ x) (x1 : x ≤ 18446744073709551615) (h : (x % 8 != 6) = true) : Calls Tryd.prog 11 #[.int .u64 x] w fun e w' => e = .returned (.tuple #[.agg #[.int .i64 0, .int .i64 0], .bool false]) ∧ Below w.heap.size w w' := by
  go_enter Tryd.func11, Tryd.ntmps11
  go_wp2
  refine wp_scope_once 0 rfl ?_
  go_wp2_with (go_at_call 26; refine (part_tag x _ x0 x1).mono ?_; rintro e w1 ⟨rfl, hw⟩; rw [hw]; clear hw)
  go_step3
  refine ⟨rfl, ?_⟩
  go_wp2
  rw [Exit.noGoto_ret]
  refine bodyPost_ret (v := .tuple #[.agg #[.int .i64 0, .int .i64 0], .bool false]) (by simp [results, Tryd.results11, go_sem]) rfl ⟨rfl, ?_⟩
  exact below2 w _ _
set_option maxHeartbeats 2000000 in
theorem of_wrong (x : Int) (w : World) (x0 : 0 ≤ x) (x1 : x ≤ 18446744073709551615) (h : (x % 8 != 6) = false) (hk : ok (x / 32) (x / 8 % 4) = false) : Calls Tryd.prog 11 #[.int .u64 x] w fun e w' => e = .returned (.tuple #[.agg #[.int .i64 0, .int .i64 0], .bool false]) ∧ Below w.heap.size w w' := by
  have ct := fun W => part_tag x W x0 x1
  have cs := fun W => part_shape x W x0 x1
  have cm := fun W => part_mark x W x0 x1
  have c := fun W => hmay_any (x / 32) (x / 8 % 4) W
  rw [hk] at c
  have s0 : 0 ≤ x / 32 := by omega
  have s1 : x / 32 ≤ 576460752303423487 := by omega
  have m0 : 0 ≤ x / 8 % 4 := by omega
  have m1 : x / 8 % 4 ≤ 3 := by omega
  generalize x / 32 = s at *
  generalize x / 8 % 4 = m at *
  generalize x % 8 = t at *
  clear hk x0 x1
  go_enter Tryd.func11, Tryd.ntmps11
  go_wp2
  refine wp_scope_once 0 rfl ?_
  go_wp2_with (go_at_call 26; refine (ct _).mono ?_)
  rintro e w1 ⟨rfl, hw⟩; rw [hw]; clear hw w1
  go_wp2_with (go_at_call 26; refine (cs _).mono ?_)
  rintro e w1 ⟨rfl, hw⟩; rw [hw]; clear hw w1
  go_wp2_with (go_at_call 26; refine (cm _).mono ?_)
  rintro e w1 ⟨rfl, hw⟩; rw [hw]; clear hw w1
  go_wp2_with (go_at_call 24; refine (c _).mono ?_)
  rintro e w1 ⟨rfl, b1⟩
  have d0 := at_row (row2a b1) 0 rfl
  have d1 := at_row (row2a b1) 1 rfl
  have f0 := fz_row (row2a b1) 0
  have f1 := fz_row (row2a b1) 1
  have bw := bel2 b1
  clear b1
  go_wp2
  go_step3
  refine ⟨rfl, ?_⟩
  go_wp2
  rw [Exit.noGoto_ret]
  refine bodyPost_ret (v := .tuple #[.agg #[.int .i64 0, .int .i64 0], .bool false]) (by simp [results, Tryd.results11, go_sem, d0, d1]) rfl ⟨rfl, ?_⟩
  exact two_set bw (Nat.le_refl _) _ _
set_option maxHeartbeats 2000000 in
theorem of_right (x : Int) (w : World) (x0 : 0 ≤ x) (x1 : x ≤ 18446744073709551615) (h : (x % 8 != 6) = false) (hk : ok (x / 32) (x / 8 % 4) = true) : Calls Tryd.prog 11 #[.int .u64 x] w fun e w' => e = .returned (.tuple #[.agg #[.int .i64 (x / 32), .int .i64 (x / 8 % 4)], .bool true]) ∧ Below w.heap.size w w' := by
  have ct := fun W => part_tag x W x0 x1
  have cs := fun W => part_shape x W x0 x1
  have cm := fun W => part_mark x W x0 x1
  have c := fun W => hmay_any (x / 32) (x / 8 % 4) W
  rw [hk] at c
  have s0 : 0 ≤ x / 32 := by omega
  have s1 : x / 32 ≤ 576460752303423487 := by omega
  have m0 : 0 ≤ x / 8 % 4 := by omega
  have m1 : x / 8 % 4 ≤ 3 := by omega
  generalize x / 32 = s at *
  generalize x / 8 % 4 = m at *
  generalize x % 8 = t at *
  clear hk x0 x1
  go_enter Tryd.func11, Tryd.ntmps11
  go_wp2
  refine wp_scope_once 0 rfl ?_
  go_wp2_with (go_at_call 26; refine (ct _).mono ?_)
  rintro e w1 ⟨rfl, hw⟩; rw [hw]; clear hw w1
  go_wp2_with (go_at_call 26; refine (cs _).mono ?_)
  rintro e w1 ⟨rfl, hw⟩; rw [hw]; clear hw w1
  go_wp2_with (go_at_call 26; refine (cm _).mono ?_)
  rintro e w1 ⟨rfl, hw⟩; rw [hw]; clear hw w1
  go_wp2_with (go_at_call 24; refine (c _).mono ?_)
  rintro e w1 ⟨rfl, b1⟩
  have d0 := at_row (row2a b1) 0 rfl
  have d1 := at_row (row2a b1) 1 rfl
  have f0 := fz_row (row2a b1) 0
  have f1 := fz_row (row2a b1) 1
  have c0 := at_row (row2b b1) 0 rfl
  have c1 := at_row (row2b b1) 1 rfl
  have bw := bel2 b1
  clear b1
  go_wp2
  rw [jump_ret]
  refine bodyPost_ret (v := .tuple #[.agg #[.int .i64 s, .int .i64 m], .bool true]) (by simp [results, Tryd.results11, go_sem, d0, d1]) rfl ⟨rfl, ?_⟩
  exact two_set bw (Nat.le_refl _) _ _
end Go.Proofs.YtjjbdfabckdogaaDoor
