/- The document's own answers for chapter 1 (lapidaryref01): Of, Make, and what stands on them. -/
import Derived.Test.YtlbhkaokpfljmaaDoorWdMake
namespace Go.Proofs.YtlbhkaokpfljmaaDoor
open Go.RowKit
theorem ret_word {a a' c c' : Int} {b b' : Bool} (h : a = a') (h2 : b = b') (h3 : c = c') : Ending.returned (.agg #[.int .i64 a, .bool b, .int .i64 c]) = .returned (.agg #[.int .i64 a', .bool b', .int .i64 c']) := by rw [h, h2, h3]
theorem of_fn (x : Int) (w : World) (h0 : 0 ≤ x) (h1 : x ≤ 18446744073709551615) :
    Calls Tryd.prog 10 #[.int .u64 x] w fun e w' => e = .returned (.agg #[.int .i64 (Wd.ofK x), .bool (Wd.ofS x), .int .i64 (Wd.ofV x)]) ∧ Below w.heap.size w w' := by
  refine (of_any x w h0 h1).mono ?_
  rintro e w' ⟨k, v, rfl, hIs, hb⟩
  obtain ⟨e1, e2, e3⟩ := Wd.is_fun h0 hIs
  exact ⟨ret_word e1.symm e3.symm e2.symm, hb⟩
theorem is_two : Wd.Is 2 4 0 := .inr (.inr (.inr (.inl ⟨rfl, rfl, rfl⟩)))
theorem rof_two (w : World) : Calls Tryd.prog 12 #[.int .u64 2] w fun e w' => e = .returned (.agg #[.int .i64 (Wd.ofK 2), .bool (Wd.ofS 2), .int .i64 (Wd.ofV 2)]) ∧ Below w.heap.size w w' := by
  go_enter Tryd.func12, Tryd.ntmps12
  go_wp2
  exact bodyPost_ret (v := .agg #[.int .i64 4, .bool false, .int .i64 0]) (by simp [results, Tryd.results12, go_sem]) rfl ⟨ret_word (by decide) (by decide) (by decide), (Below.refl _ _).alloc (Nat.le_refl _) _⟩
theorem rof_null (x : Int) (w : World) (h0 : 0 ≤ x) (h2 : x ≤ 1) : Calls Tryd.prog 12 #[.int .u64 x] w fun e w' => e = .returned (.agg #[.int .i64 (Wd.ofK x), .bool (Wd.ofS x), .int .i64 (Wd.ofV x)]) ∧ Below w.heap.size w w' := by
  go_enter Tryd.func12, Tryd.ntmps12
  go_wp2
  refine bodyPost_ret (v := .agg #[.int .i64 1, .bool (x % 2 == 1), .int .i64 0]) (by simp [results, Tryd.results12, go_sem]) rfl ⟨?_, ((Below.refl _ _).alloc (Nat.le_refl _) _).alloc (by simp) _⟩
  obtain ⟨e1, e2, e3⟩ := Wd.is_fun h0 (show Wd.Is x 1 0 from .inl ⟨rfl, rfl, h2⟩)
  exact ret_word e1.symm (by rw [e3]; simp [BEq.beq]) e2.symm
theorem rof_ptr (x : Int) (w : World) (h0 : 0 ≤ x) (h2 : 2 < x) (h3 : x % 8 ≤ 1) (h4 : x / 8 ≤ 16777215) : Calls Tryd.prog 12 #[.int .u64 x] w fun e w' => e = .returned (.agg #[.int .i64 (Wd.ofK x), .bool (Wd.ofS x), .int .i64 (Wd.ofV x)]) ∧ Below w.heap.size w w' := by
  go_enter Tryd.func12, Tryd.ntmps12
  go_wp2
  refine bodyPost_ret (v := .agg #[.int .i64 2, .bool (x % 2 == 1), .int .i64 ((x - x % 2) / 8)]) (by simp [results, Tryd.results12, go_sem]) rfl ⟨?_, ((Below.refl _ _).alloc (Nat.le_refl _) _).alloc (by simp) _⟩
  obtain ⟨e1, e2, e3⟩ := Wd.is_fun h0 (show Wd.Is x 2 ((x - x % 2) / 8) from .inr (.inl ⟨rfl, by omega, by omega, by omega, by omega⟩))
  exact ret_word e1.symm (by rw [e3]; simp [BEq.beq]) e2.symm
theorem rof_scalar (x : Int) (w : World) (h0 : 0 ≤ x) (h2 : 4 ≤ x % 8) (h3 : x % 8 ≤ 5) (h4 : x / 8 ≤ 1152921504606846975) : Calls Tryd.prog 12 #[.int .u64 x] w fun e w' => e = .returned (.agg #[.int .i64 (Wd.ofK x), .bool (Wd.ofS x), .int .i64 (Wd.ofV x)]) ∧ Below w.heap.size w w' := by
  go_enter Tryd.func12, Tryd.ntmps12
  go_wp2
  refine bodyPost_ret (v := .agg #[.int .i64 3, .bool (x % 2 == 1), .int .i64 ((x - x % 2) / 8 - 576460752303423488)]) (by simp [results, Tryd.results12, go_sem]) rfl ⟨?_, ((Below.refl _ _).alloc (Nat.le_refl _) _).alloc (by simp) _⟩
  obtain ⟨e1, e2, e3⟩ := Wd.is_fun h0 (show Wd.Is x 3 ((x - x % 2) / 8 - 576460752303423488) from .inr (.inr (.inl ⟨rfl, by omega, by omega, by omega, by omega⟩)))
  exact ret_word e1.symm (by rw [e3]; simp [BEq.beq]) e2.symm
theorem rof_bad (x : Int) (w : World) (h0 : 0 ≤ x) (h1 : x ≤ 18446744073709551615) (h2 : 2 < x) (h3 : ¬ (x % 8 ≤ 1 ∧ x / 8 ≤ 16777215)) (h4 : ¬ (4 ≤ x % 8 ∧ x % 8 ≤ 5 ∧ x / 8 ≤ 1152921504606846975)) : Calls Tryd.prog 12 #[.int .u64 x] w fun e w' => e = .returned (.agg #[.int .i64 (Wd.ofK x), .bool (Wd.ofS x), .int .i64 (Wd.ofV x)]) ∧ Below w.heap.size w w' := by
  have H3 := hid h3
  have H4 := hid h4
  clear h3 h4
  have hx : Wd.ofK x = 0 ∧ Wd.ofV x = 0 ∧ Wd.ofS x = false := by
    have := Wd.is_fun h0 (show Wd.Is x 0 0 from .inr (.inr (.inr (.inr ⟨rfl, rfl, by omega, H3.out, H4.out⟩))))
    simpa using this
  have HX := hid hx
  clear hx
  by_cases hA : (x - x % 2) % 8 = 0
  · have HA := hid hA; clear hA
    have t1 : ((x - x % 2) % 8 == 0) = true := by have := HA.out; simpa using this
    have t2 : decide ((x - x % 2) / 8 ≤ 16777215) = false := by have := HA.out; have := H3.out; simp; omega
    have t3 : ((x - x % 2) % 8 == 4) = false := by have := HA.out; simp; omega
    go_enter Tryd.func12, Tryd.ntmps12
    go_wp2
    exact bodyPost_ret (v := .agg #[.int .i64 0, .bool false, .int .i64 0]) (by simp [results, Tryd.results12, go_sem]) rfl ⟨ret_word HX.out.1.symm HX.out.2.2.symm HX.out.2.1.symm, ((Below.refl _ _).alloc (Nat.le_refl _) _).alloc (by simp) _⟩
  · have t1 : ((x - x % 2) % 8 == 0) = false := by simpa using hA
    clear hA
    by_cases hA : (x - x % 2) % 8 = 4
    · have HA := hid hA; clear hA
      have t2 : ((x - x % 2) % 8 == 4) = true := by have := HA.out; simpa using this
      have t3 : decide ((x - x % 2) / 8 < 1152921504606846976) = false := by have := HA.out; have := H4.out; simp; omega
      go_enter Tryd.func12, Tryd.ntmps12
      go_wp2
      exact bodyPost_ret (v := .agg #[.int .i64 0, .bool false, .int .i64 0]) (by simp [results, Tryd.results12, go_sem]) rfl ⟨ret_word HX.out.1.symm HX.out.2.2.symm HX.out.2.1.symm, ((Below.refl _ _).alloc (Nat.le_refl _) _).alloc (by simp) _⟩
    · have t2 : ((x - x % 2) % 8 == 4) = false := by simpa using hA
      clear hA
      go_enter Tryd.func12, Tryd.ntmps12
      go_wp2
      exact bodyPost_ret (v := .agg #[.int .i64 0, .bool false, .int .i64 0]) (by simp [results, Tryd.results12, go_sem]) rfl ⟨ret_word HX.out.1.symm HX.out.2.2.symm HX.out.2.1.symm, ((Below.refl _ _).alloc (Nat.le_refl _) _).alloc (by simp) _⟩
theorem rof_any (x : Int) (w : World) (h0 : 0 ≤ x) (h1 : x ≤ 18446744073709551615) : Calls Tryd.prog 12 #[.int .u64 x] w fun e w' => e = .returned (.agg #[.int .i64 (Wd.ofK x), .bool (Wd.ofS x), .int .i64 (Wd.ofV x)]) ∧ Below w.heap.size w w' := by
  by_cases a : x = 2
  · subst a; exact rof_two w
  by_cases b : x ≤ 1
  · exact rof_null x w h0 b
  by_cases c : x % 8 ≤ 1 ∧ x / 8 ≤ 16777215
  · exact rof_ptr x w h0 (by omega) c.1 c.2
  by_cases d : 4 ≤ x % 8 ∧ x % 8 ≤ 5 ∧ x / 8 ≤ 1152921504606846975
  · exact rof_scalar x w h0 d.1 d.2.1 d.2.2
  exact rof_bad x w h0 h1 (by omega) c d
theorem rmake_low (k : Int) (s : Bool) (v : Int) (w : World) (h : k < 1) :
    Calls Tryd.prog 14 #[.agg #[.int .i64 k, .bool s, .int .i64 v]] w fun e w' => e = .returned (.tuple #[.int .u64 (Wd.mkW k s v), .int .i64 (Wd.mkE k s v)]) ∧ Below w.heap.size w w' := by
  go_enter Tryd.func14, Tryd.ntmps14
  go_wp2
  go_ret2
  exact ⟨ret_ie (Wd.mk_arg k s v (by omega)).2.symm (Wd.mk_arg k s v (by omega)).1.symm, (Below.refl _ _).alloc (Nat.le_refl _) _⟩
theorem rmake_high (k : Int) (s : Bool) (v : Int) (w : World) (h : 5 ≤ k) :
    Calls Tryd.prog 14 #[.agg #[.int .i64 k, .bool s, .int .i64 v]] w fun e w' => e = .returned (.tuple #[.int .u64 (Wd.mkW k s v), .int .i64 (Wd.mkE k s v)]) ∧ Below w.heap.size w w' := by
  go_enter Tryd.func14, Tryd.ntmps14
  go_wp2
  go_ret2
  exact ⟨ret_ie (Wd.mk_arg k s v (by omega)).2.symm (Wd.mk_arg k s v (by omega)).1.symm, (Below.refl _ _).alloc (Nat.le_refl _) _⟩
theorem rmake_empty (w : World) :
    Calls Tryd.prog 14 #[.agg #[.int .i64 4, .bool false, .int .i64 0]] w fun e w' => e = .returned (.tuple #[.int .u64 (Wd.mkW 4 false 0), .int .i64 (Wd.mkE 4 false 0)]) ∧ Below w.heap.size w w' := by
  go_enter Tryd.func14, Tryd.ntmps14
  go_wp2
  go_ret2
  exact ⟨ret_ie Wd.mk_empty.2.symm Wd.mk_empty.1.symm, (Below.refl _ _).alloc (Nat.le_refl _) _⟩
theorem rmake_empty_s (w : World) :
    Calls Tryd.prog 14 #[.agg #[.int .i64 4, .bool true, .int .i64 0]] w fun e w' => e = .returned (.tuple #[.int .u64 (Wd.mkW 4 true 0), .int .i64 (Wd.mkE 4 true 0)]) ∧ Below w.heap.size w w' := by
  go_enter Tryd.func14, Tryd.ntmps14
  go_wp2
  go_ret2
  exact ⟨ret_ie (Wd.mk_arg 4 true 0 (by simp)).2.symm (Wd.mk_arg 4 true 0 (by simp)).1.symm, (Below.refl _ _).alloc (Nat.le_refl _) _⟩
theorem rmake_empty_not (v : Int) (w : World) (h : (v != 0) = true) :
    Calls Tryd.prog 14 #[.agg #[.int .i64 4, .bool false, .int .i64 v]] w fun e w' => e = .returned (.tuple #[.int .u64 (Wd.mkW 4 false v), .int .i64 (Wd.mkE 4 false v)]) ∧ Below w.heap.size w w' := by
  go_enter Tryd.func14, Tryd.ntmps14
  go_wp2
  go_ret2
  exact ⟨ret_ie (Wd.mk_arg 4 false v (by simp at h; simp; omega)).2.symm (Wd.mk_arg 4 false v (by simp at h; simp; omega)).1.symm, (Below.refl _ _).alloc (Nat.le_refl _) _⟩
theorem rmake_null (w : World) :
    Calls Tryd.prog 14 #[.agg #[.int .i64 1, .bool false, .int .i64 0]] w fun e w' => e = .returned (.tuple #[.int .u64 (Wd.mkW 1 false 0), .int .i64 (Wd.mkE 1 false 0)]) ∧ Below w.heap.size w w' := by
  go_enter Tryd.func14, Tryd.ntmps14
  go_wp2
  go_ret2
  exact ⟨ret_ie (Wd.mk_null false).2.symm (Wd.mk_null false).1.symm, (Below.refl _ _).alloc (Nat.le_refl _) _⟩
theorem rmake_null_not (v : Int) (w : World) (h : (v != 0) = true) :
    Calls Tryd.prog 14 #[.agg #[.int .i64 1, .bool false, .int .i64 v]] w fun e w' => e = .returned (.tuple #[.int .u64 (Wd.mkW 1 false v), .int .i64 (Wd.mkE 1 false v)]) ∧ Below w.heap.size w w' := by
  go_enter Tryd.func14, Tryd.ntmps14
  go_wp2
  go_ret2
  exact ⟨ret_ie (Wd.mk_arg 1 false v (by simp at h; simp; omega)).2.symm (Wd.mk_arg 1 false v (by simp at h; simp; omega)).1.symm, (Below.refl _ _).alloc (Nat.le_refl _) _⟩
theorem rmake_ptr (v : Int) (w : World) (h0 : 1 ≤ v) (h1 : v ≤ 16777215) :
    Calls Tryd.prog 14 #[.agg #[.int .i64 2, .bool false, .int .i64 v]] w fun e w' => e = .returned (.tuple #[.int .u64 (Wd.mkW 2 false v), .int .i64 (Wd.mkE 2 false v)]) ∧ Below w.heap.size w w' := by
  go_enter Tryd.func14, Tryd.ntmps14
  go_wp2
  go_ret2
  exact ⟨ret_ie (by have := (Wd.mk_ptr false v h0 h1).2; simp at this; omega) (Wd.mk_ptr false v h0 h1).1.symm, (Below.refl _ _).alloc (Nat.le_refl _) _⟩
theorem rmake_ptr_lo (v : Int) (w : World) (h : v < 1) :
    Calls Tryd.prog 14 #[.agg #[.int .i64 2, .bool false, .int .i64 v]] w fun e w' => e = .returned (.tuple #[.int .u64 (Wd.mkW 2 false v), .int .i64 (Wd.mkE 2 false v)]) ∧ Below w.heap.size w w' := by
  go_enter Tryd.func14, Tryd.ntmps14
  go_wp2
  go_ret2
  exact ⟨ret_ie (Wd.mk_range2 false v (.inl h)).2.symm (Wd.mk_range2 false v (.inl h)).1.symm, (Below.refl _ _).alloc (Nat.le_refl _) _⟩
theorem rmake_ptr_hi (v : Int) (w : World) (h : 16777215 < v) :
    Calls Tryd.prog 14 #[.agg #[.int .i64 2, .bool false, .int .i64 v]] w fun e w' => e = .returned (.tuple #[.int .u64 (Wd.mkW 2 false v), .int .i64 (Wd.mkE 2 false v)]) ∧ Below w.heap.size w w' := by
  go_enter Tryd.func14, Tryd.ntmps14
  go_wp2
  go_ret2
  exact ⟨ret_ie (Wd.mk_range2 false v (.inr h)).2.symm (Wd.mk_range2 false v (.inr h)).1.symm, (Below.refl _ _).alloc (Nat.le_refl _) _⟩
theorem rmake_scalar (v : Int) (w : World) (h0 : -576460752303423488 ≤ v) (h1 : v ≤ 576460752303423487) :
    Calls Tryd.prog 14 #[.agg #[.int .i64 3, .bool false, .int .i64 v]] w fun e w' => e = .returned (.tuple #[.int .u64 (Wd.mkW 3 false v), .int .i64 (Wd.mkE 3 false v)]) ∧ Below w.heap.size w w' := by
  go_enter Tryd.func14, Tryd.ntmps14
  go_wp2
  go_ret2
  exact ⟨ret_ie (by have := (Wd.mk_scalar false v h0 h1).2; simp at this; omega) (Wd.mk_scalar false v h0 h1).1.symm, (Below.refl _ _).alloc (Nat.le_refl _) _⟩
theorem rmake_scalar_lo (v : Int) (w : World) (h : v < -576460752303423488) :
    Calls Tryd.prog 14 #[.agg #[.int .i64 3, .bool false, .int .i64 v]] w fun e w' => e = .returned (.tuple #[.int .u64 (Wd.mkW 3 false v), .int .i64 (Wd.mkE 3 false v)]) ∧ Below w.heap.size w w' := by
  go_enter Tryd.func14, Tryd.ntmps14
  go_wp2
  go_ret2
  exact ⟨ret_ie (Wd.mk_range3 false v (.inl h)).2.symm (Wd.mk_range3 false v (.inl h)).1.symm, (Below.refl _ _).alloc (Nat.le_refl _) _⟩
theorem rmake_scalar_hi (v : Int) (w : World) (h : 576460752303423487 < v) :
    Calls Tryd.prog 14 #[.agg #[.int .i64 3, .bool false, .int .i64 v]] w fun e w' => e = .returned (.tuple #[.int .u64 (Wd.mkW 3 false v), .int .i64 (Wd.mkE 3 false v)]) ∧ Below w.heap.size w w' := by
  go_enter Tryd.func14, Tryd.ntmps14
  go_wp2
  go_ret2
  exact ⟨ret_ie (Wd.mk_range3 false v (.inr h)).2.symm (Wd.mk_range3 false v (.inr h)).1.symm, (Below.refl _ _).alloc (Nat.le_refl _) _⟩
theorem rmake_empty_not_s (v : Int) (w : World) (h : (v != 0) = true) :
    Calls Tryd.prog 14 #[.agg #[.int .i64 4, .bool true, .int .i64 v]] w fun e w' => e = .returned (.tuple #[.int .u64 (Wd.mkW 4 true v), .int .i64 (Wd.mkE 4 true v)]) ∧ Below w.heap.size w w' := by
  go_enter Tryd.func14, Tryd.ntmps14
  go_wp2
  go_ret2
  exact ⟨ret_ie (Wd.mk_arg 4 true v (by simp)).2.symm (Wd.mk_arg 4 true v (by simp)).1.symm, (Below.refl _ _).alloc (Nat.le_refl _) _⟩
theorem rmake_null_s (w : World) :
    Calls Tryd.prog 14 #[.agg #[.int .i64 1, .bool true, .int .i64 0]] w fun e w' => e = .returned (.tuple #[.int .u64 (Wd.mkW 1 true 0), .int .i64 (Wd.mkE 1 true 0)]) ∧ Below w.heap.size w w' := by
  go_enter Tryd.func14, Tryd.ntmps14
  go_wp2
  go_ret2
  exact ⟨ret_ie (Wd.mk_null true).2.symm (Wd.mk_null true).1.symm, (Below.refl _ _).alloc (Nat.le_refl _) _⟩
theorem rmake_null_not_s (v : Int) (w : World) (h : (v != 0) = true) :
    Calls Tryd.prog 14 #[.agg #[.int .i64 1, .bool true, .int .i64 v]] w fun e w' => e = .returned (.tuple #[.int .u64 (Wd.mkW 1 true v), .int .i64 (Wd.mkE 1 true v)]) ∧ Below w.heap.size w w' := by
  go_enter Tryd.func14, Tryd.ntmps14
  go_wp2
  go_ret2
  exact ⟨ret_ie (Wd.mk_arg 1 true v (by simp at h; simp; omega)).2.symm (Wd.mk_arg 1 true v (by simp at h; simp; omega)).1.symm, (Below.refl _ _).alloc (Nat.le_refl _) _⟩
theorem rmake_ptr_s (v : Int) (w : World) (h0 : 1 ≤ v) (h1 : v ≤ 16777215) :
    Calls Tryd.prog 14 #[.agg #[.int .i64 2, .bool true, .int .i64 v]] w fun e w' => e = .returned (.tuple #[.int .u64 (Wd.mkW 2 true v), .int .i64 (Wd.mkE 2 true v)]) ∧ Below w.heap.size w w' := by
  go_enter Tryd.func14, Tryd.ntmps14
  go_wp2
  go_ret2
  exact ⟨ret_ie (by have := (Wd.mk_ptr true v h0 h1).2; simp at this; omega) (Wd.mk_ptr true v h0 h1).1.symm, (Below.refl _ _).alloc (Nat.le_refl _) _⟩
theorem rmake_ptr_lo_s (v : Int) (w : World) (h : v < 1) :
    Calls Tryd.prog 14 #[.agg #[.int .i64 2, .bool true, .int .i64 v]] w fun e w' => e = .returned (.tuple #[.int .u64 (Wd.mkW 2 true v), .int .i64 (Wd.mkE 2 true v)]) ∧ Below w.heap.size w w' := by
  go_enter Tryd.func14, Tryd.ntmps14
  go_wp2
  go_ret2
  exact ⟨ret_ie (Wd.mk_range2 true v (.inl h)).2.symm (Wd.mk_range2 true v (.inl h)).1.symm, (Below.refl _ _).alloc (Nat.le_refl _) _⟩
theorem rmake_ptr_hi_s (v : Int) (w : World) (h : 16777215 < v) :
    Calls Tryd.prog 14 #[.agg #[.int .i64 2, .bool true, .int .i64 v]] w fun e w' => e = .returned (.tuple #[.int .u64 (Wd.mkW 2 true v), .int .i64 (Wd.mkE 2 true v)]) ∧ Below w.heap.size w w' := by
  go_enter Tryd.func14, Tryd.ntmps14
  go_wp2
  go_ret2
  exact ⟨ret_ie (Wd.mk_range2 true v (.inr h)).2.symm (Wd.mk_range2 true v (.inr h)).1.symm, (Below.refl _ _).alloc (Nat.le_refl _) _⟩
theorem rmake_scalar_s (v : Int) (w : World) (h0 : -576460752303423488 ≤ v) (h1 : v ≤ 576460752303423487) :
    Calls Tryd.prog 14 #[.agg #[.int .i64 3, .bool true, .int .i64 v]] w fun e w' => e = .returned (.tuple #[.int .u64 (Wd.mkW 3 true v), .int .i64 (Wd.mkE 3 true v)]) ∧ Below w.heap.size w w' := by
  go_enter Tryd.func14, Tryd.ntmps14
  go_wp2
  go_ret2
  exact ⟨ret_ie (by have := (Wd.mk_scalar true v h0 h1).2; simp at this; omega) (Wd.mk_scalar true v h0 h1).1.symm, (Below.refl _ _).alloc (Nat.le_refl _) _⟩
theorem rmake_scalar_lo_s (v : Int) (w : World) (h : v < -576460752303423488) :
    Calls Tryd.prog 14 #[.agg #[.int .i64 3, .bool true, .int .i64 v]] w fun e w' => e = .returned (.tuple #[.int .u64 (Wd.mkW 3 true v), .int .i64 (Wd.mkE 3 true v)]) ∧ Below w.heap.size w w' := by
  go_enter Tryd.func14, Tryd.ntmps14
  go_wp2
  go_ret2
  exact ⟨ret_ie (Wd.mk_range3 true v (.inl h)).2.symm (Wd.mk_range3 true v (.inl h)).1.symm, (Below.refl _ _).alloc (Nat.le_refl _) _⟩
theorem rmake_scalar_hi_s (v : Int) (w : World) (h : 576460752303423487 < v) :
    Calls Tryd.prog 14 #[.agg #[.int .i64 3, .bool true, .int .i64 v]] w fun e w' => e = .returned (.tuple #[.int .u64 (Wd.mkW 3 true v), .int .i64 (Wd.mkE 3 true v)]) ∧ Below w.heap.size w w' := by
  go_enter Tryd.func14, Tryd.ntmps14
  go_wp2
  go_ret2
  exact ⟨ret_ie (Wd.mk_range3 true v (.inr h)).2.symm (Wd.mk_range3 true v (.inr h)).1.symm, (Below.refl _ _).alloc (Nat.le_refl _) _⟩
/-- The document's Make, whatever it is told. -/
theorem rmake_any (k : Int) (s : Bool) (v : Int) (w : World) :
    Calls Tryd.prog 14 #[.agg #[.int .i64 k, .bool s, .int .i64 v]] w fun e w' => e = .returned (.tuple #[.int .u64 (Wd.mkW k s v), .int .i64 (Wd.mkE k s v)]) ∧ Below w.heap.size w w' := by
  by_cases h1 : k < 1
  · exact rmake_low k s v w h1
  by_cases h2 : 5 ≤ k
  · exact rmake_high k s v w h2
  have hcs : k = 1 ∨ k = 2 ∨ k = 3 ∨ k = 4 := by omega
  rcases hcs with rfl | rfl | rfl | rfl
  · by_cases hv : v = 0
    · subst hv
      cases s
      · exact rmake_null w
      · exact rmake_null_s w
    · cases s
      · exact rmake_null_not v w (by simpa using hv)
      · exact rmake_null_not_s v w (by simpa using hv)
  · by_cases hv : 1 ≤ v
    · by_cases hv2 : v ≤ 16777215
      · cases s
        · exact rmake_ptr v w hv hv2
        · exact rmake_ptr_s v w hv hv2
      · cases s
        · exact rmake_ptr_hi v w (by omega)
        · exact rmake_ptr_hi_s v w (by omega)
    · cases s
      · exact rmake_ptr_lo v w (by omega)
      · exact rmake_ptr_lo_s v w (by omega)
  · by_cases hv : -576460752303423488 ≤ v
    · by_cases hv2 : v ≤ 576460752303423487
      · cases s
        · exact rmake_scalar v w hv hv2
        · exact rmake_scalar_s v w hv hv2
      · cases s
        · exact rmake_scalar_hi v w (by omega)
        · exact rmake_scalar_hi_s v w (by omega)
    · cases s
      · exact rmake_scalar_lo v w (by omega)
      · exact rmake_scalar_lo_s v w (by omega)
  · by_cases hv : v = 0
    · subst hv
      cases s
      · exact rmake_empty w
      · exact rmake_empty_s w
    · cases s
      · exact rmake_empty_not v w (by simpa using hv)
      · exact rmake_empty_not_s v w (by simpa using hv)
theorem rpointer_any (v : Int) (w : World) :
    Calls Tryd.prog 17 #[.int .i64 v] w fun e w' => e = .returned (.tuple #[.int .u64 (Wd.mkW 2 false v), .int .i64 (Wd.mkE 2 false v)]) ∧ Below w.heap.size w w' := by
  go_enter Tryd.func17, Tryd.ntmps17
  go_wp2_with (go_at_call 14; refine (rmake_any 2 false v _).mono ?_)
  rintro e w1 ⟨rfl, hb⟩
  go_wp2
  go_ret2
  exact ⟨rfl, hb⟩
theorem rscalar_any (v : Int) (w : World) :
    Calls Tryd.prog 18 #[.int .i64 v] w fun e w' => e = .returned (.tuple #[.int .u64 (Wd.mkW 3 false v), .int .i64 (Wd.mkE 3 false v)]) ∧ Below w.heap.size w w' := by
  go_enter Tryd.func18, Tryd.ntmps18
  go_wp2_with (go_at_call 14; refine (rmake_any 3 false v _).mono ?_)
  rintro e w1 ⟨rfl, hb⟩
  go_wp2
  go_ret2
  exact ⟨rfl, hb⟩
end Go.Proofs.YtlbhkaokpfljmaaDoor
