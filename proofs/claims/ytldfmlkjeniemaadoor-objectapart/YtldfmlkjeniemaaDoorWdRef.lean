/- The document's own answers for chapter 1 (lapidaryref01): Of, Make, and what stands on them. -/
import Derived.Test.YtldfmlkjeniemaaDoorWdOfOn
namespace Go.Proofs.YtldfmlkjeniemaaDoor
open Go.RowKit
theorem is_two : Wd.Is 2 4 0 := .inr (.inr (.inr (.inl ⟨rfl, rfl, rfl⟩)))
theorem rmake_low (k : Int) (s : Bool) (v : Int) (w : World) (h : k < 1) :
    Calls Tryd.prog 62 #[.agg #[.int .i64 k, .bool s, .int .i64 v]] w fun e w' => e = .returned (.tuple #[.int .u64 (Wd.mkW k s v), .int .i64 (Wd.mkE k s v)]) ∧ Below w.heap.size w w' := by
  go_enter Tryd.func62, Tryd.ntmps62
  go_wp2
  go_ret2
  exact ⟨ret_ie (Wd.mk_arg k s v (by omega)).2.symm (Wd.mk_arg k s v (by omega)).1.symm, (Below.refl _ _).alloc (Nat.le_refl _) _⟩
theorem rmake_high (k : Int) (s : Bool) (v : Int) (w : World) (h : 5 ≤ k) :
    Calls Tryd.prog 62 #[.agg #[.int .i64 k, .bool s, .int .i64 v]] w fun e w' => e = .returned (.tuple #[.int .u64 (Wd.mkW k s v), .int .i64 (Wd.mkE k s v)]) ∧ Below w.heap.size w w' := by
  go_enter Tryd.func62, Tryd.ntmps62
  go_wp2
  go_ret2
  exact ⟨ret_ie (Wd.mk_arg k s v (by omega)).2.symm (Wd.mk_arg k s v (by omega)).1.symm, (Below.refl _ _).alloc (Nat.le_refl _) _⟩
theorem rmake_empty (w : World) :
    Calls Tryd.prog 62 #[.agg #[.int .i64 4, .bool false, .int .i64 0]] w fun e w' => e = .returned (.tuple #[.int .u64 (Wd.mkW 4 false 0), .int .i64 (Wd.mkE 4 false 0)]) ∧ Below w.heap.size w w' := by
  go_enter Tryd.func62, Tryd.ntmps62
  go_wp2
  go_ret2
  exact ⟨ret_ie Wd.mk_empty.2.symm Wd.mk_empty.1.symm, (Below.refl _ _).alloc (Nat.le_refl _) _⟩
theorem rmake_empty_s (w : World) :
    Calls Tryd.prog 62 #[.agg #[.int .i64 4, .bool true, .int .i64 0]] w fun e w' => e = .returned (.tuple #[.int .u64 (Wd.mkW 4 true 0), .int .i64 (Wd.mkE 4 true 0)]) ∧ Below w.heap.size w w' := by
  go_enter Tryd.func62, Tryd.ntmps62
  go_wp2
  go_ret2
  exact ⟨ret_ie (Wd.mk_arg 4 true 0 (by simp)).2.symm (Wd.mk_arg 4 true 0 (by simp)).1.symm, (Below.refl _ _).alloc (Nat.le_refl _) _⟩
theorem rmake_empty_not (v : Int) (w : World) (h : (v != 0) = true) :
    Calls Tryd.prog 62 #[.agg #[.int .i64 4, .bool false, .int .i64 v]] w fun e w' => e = .returned (.tuple #[.int .u64 (Wd.mkW 4 false v), .int .i64 (Wd.mkE 4 false v)]) ∧ Below w.heap.size w w' := by
  go_enter Tryd.func62, Tryd.ntmps62
  go_wp2
  go_ret2
  exact ⟨ret_ie (Wd.mk_arg 4 false v (by simp at h; simp; omega)).2.symm (Wd.mk_arg 4 false v (by simp at h; simp; omega)).1.symm, (Below.refl _ _).alloc (Nat.le_refl _) _⟩
theorem rmake_null (w : World) :
    Calls Tryd.prog 62 #[.agg #[.int .i64 1, .bool false, .int .i64 0]] w fun e w' => e = .returned (.tuple #[.int .u64 (Wd.mkW 1 false 0), .int .i64 (Wd.mkE 1 false 0)]) ∧ Below w.heap.size w w' := by
  go_enter Tryd.func62, Tryd.ntmps62
  go_wp2
  go_ret2
  exact ⟨ret_ie (Wd.mk_null false).2.symm (Wd.mk_null false).1.symm, (Below.refl _ _).alloc (Nat.le_refl _) _⟩
theorem rmake_null_not (v : Int) (w : World) (h : (v != 0) = true) :
    Calls Tryd.prog 62 #[.agg #[.int .i64 1, .bool false, .int .i64 v]] w fun e w' => e = .returned (.tuple #[.int .u64 (Wd.mkW 1 false v), .int .i64 (Wd.mkE 1 false v)]) ∧ Below w.heap.size w w' := by
  go_enter Tryd.func62, Tryd.ntmps62
  go_wp2
  go_ret2
  exact ⟨ret_ie (Wd.mk_arg 1 false v (by simp at h; simp; omega)).2.symm (Wd.mk_arg 1 false v (by simp at h; simp; omega)).1.symm, (Below.refl _ _).alloc (Nat.le_refl _) _⟩
theorem rmake_ptr (v : Int) (w : World) (h0 : 1 ≤ v) (h1 : v ≤ 16777215) :
    Calls Tryd.prog 62 #[.agg #[.int .i64 2, .bool false, .int .i64 v]] w fun e w' => e = .returned (.tuple #[.int .u64 (Wd.mkW 2 false v), .int .i64 (Wd.mkE 2 false v)]) ∧ Below w.heap.size w w' := by
  go_enter Tryd.func62, Tryd.ntmps62
  go_wp2
  go_ret2
  exact ⟨ret_ie (by have := (Wd.mk_ptr false v h0 h1).2; simp at this; omega) (Wd.mk_ptr false v h0 h1).1.symm, (Below.refl _ _).alloc (Nat.le_refl _) _⟩
theorem rmake_ptr_lo (v : Int) (w : World) (h : v < 1) :
    Calls Tryd.prog 62 #[.agg #[.int .i64 2, .bool false, .int .i64 v]] w fun e w' => e = .returned (.tuple #[.int .u64 (Wd.mkW 2 false v), .int .i64 (Wd.mkE 2 false v)]) ∧ Below w.heap.size w w' := by
  go_enter Tryd.func62, Tryd.ntmps62
  go_wp2
  go_ret2
  exact ⟨ret_ie (Wd.mk_range2 false v (.inl h)).2.symm (Wd.mk_range2 false v (.inl h)).1.symm, (Below.refl _ _).alloc (Nat.le_refl _) _⟩
theorem rmake_ptr_hi (v : Int) (w : World) (h : 16777215 < v) :
    Calls Tryd.prog 62 #[.agg #[.int .i64 2, .bool false, .int .i64 v]] w fun e w' => e = .returned (.tuple #[.int .u64 (Wd.mkW 2 false v), .int .i64 (Wd.mkE 2 false v)]) ∧ Below w.heap.size w w' := by
  go_enter Tryd.func62, Tryd.ntmps62
  go_wp2
  go_ret2
  exact ⟨ret_ie (Wd.mk_range2 false v (.inr h)).2.symm (Wd.mk_range2 false v (.inr h)).1.symm, (Below.refl _ _).alloc (Nat.le_refl _) _⟩
theorem rmake_scalar (v : Int) (w : World) (h0 : -576460752303423488 ≤ v) (h1 : v ≤ 576460752303423487) :
    Calls Tryd.prog 62 #[.agg #[.int .i64 3, .bool false, .int .i64 v]] w fun e w' => e = .returned (.tuple #[.int .u64 (Wd.mkW 3 false v), .int .i64 (Wd.mkE 3 false v)]) ∧ Below w.heap.size w w' := by
  go_enter Tryd.func62, Tryd.ntmps62
  go_wp2
  go_ret2
  exact ⟨ret_ie (by have := (Wd.mk_scalar false v h0 h1).2; simp at this; omega) (Wd.mk_scalar false v h0 h1).1.symm, (Below.refl _ _).alloc (Nat.le_refl _) _⟩
theorem rmake_scalar_lo (v : Int) (w : World) (h : v < -576460752303423488) :
    Calls Tryd.prog 62 #[.agg #[.int .i64 3, .bool false, .int .i64 v]] w fun e w' => e = .returned (.tuple #[.int .u64 (Wd.mkW 3 false v), .int .i64 (Wd.mkE 3 false v)]) ∧ Below w.heap.size w w' := by
  go_enter Tryd.func62, Tryd.ntmps62
  go_wp2
  go_ret2
  exact ⟨ret_ie (Wd.mk_range3 false v (.inl h)).2.symm (Wd.mk_range3 false v (.inl h)).1.symm, (Below.refl _ _).alloc (Nat.le_refl _) _⟩
theorem rmake_scalar_hi (v : Int) (w : World) (h : 576460752303423487 < v) :
    Calls Tryd.prog 62 #[.agg #[.int .i64 3, .bool false, .int .i64 v]] w fun e w' => e = .returned (.tuple #[.int .u64 (Wd.mkW 3 false v), .int .i64 (Wd.mkE 3 false v)]) ∧ Below w.heap.size w w' := by
  go_enter Tryd.func62, Tryd.ntmps62
  go_wp2
  go_ret2
  exact ⟨ret_ie (Wd.mk_range3 false v (.inr h)).2.symm (Wd.mk_range3 false v (.inr h)).1.symm, (Below.refl _ _).alloc (Nat.le_refl _) _⟩
theorem rmake_empty_not_s (v : Int) (w : World) (h : (v != 0) = true) :
    Calls Tryd.prog 62 #[.agg #[.int .i64 4, .bool true, .int .i64 v]] w fun e w' => e = .returned (.tuple #[.int .u64 (Wd.mkW 4 true v), .int .i64 (Wd.mkE 4 true v)]) ∧ Below w.heap.size w w' := by
  go_enter Tryd.func62, Tryd.ntmps62
  go_wp2
  go_ret2
  exact ⟨ret_ie (Wd.mk_arg 4 true v (by simp)).2.symm (Wd.mk_arg 4 true v (by simp)).1.symm, (Below.refl _ _).alloc (Nat.le_refl _) _⟩
theorem rmake_null_s (w : World) :
    Calls Tryd.prog 62 #[.agg #[.int .i64 1, .bool true, .int .i64 0]] w fun e w' => e = .returned (.tuple #[.int .u64 (Wd.mkW 1 true 0), .int .i64 (Wd.mkE 1 true 0)]) ∧ Below w.heap.size w w' := by
  go_enter Tryd.func62, Tryd.ntmps62
  go_wp2
  go_ret2
  exact ⟨ret_ie (Wd.mk_null true).2.symm (Wd.mk_null true).1.symm, (Below.refl _ _).alloc (Nat.le_refl _) _⟩
theorem rmake_null_not_s (v : Int) (w : World) (h : (v != 0) = true) :
    Calls Tryd.prog 62 #[.agg #[.int .i64 1, .bool true, .int .i64 v]] w fun e w' => e = .returned (.tuple #[.int .u64 (Wd.mkW 1 true v), .int .i64 (Wd.mkE 1 true v)]) ∧ Below w.heap.size w w' := by
  go_enter Tryd.func62, Tryd.ntmps62
  go_wp2
  go_ret2
  exact ⟨ret_ie (Wd.mk_arg 1 true v (by simp at h; simp; omega)).2.symm (Wd.mk_arg 1 true v (by simp at h; simp; omega)).1.symm, (Below.refl _ _).alloc (Nat.le_refl _) _⟩
theorem rmake_ptr_s (v : Int) (w : World) (h0 : 1 ≤ v) (h1 : v ≤ 16777215) :
    Calls Tryd.prog 62 #[.agg #[.int .i64 2, .bool true, .int .i64 v]] w fun e w' => e = .returned (.tuple #[.int .u64 (Wd.mkW 2 true v), .int .i64 (Wd.mkE 2 true v)]) ∧ Below w.heap.size w w' := by
  go_enter Tryd.func62, Tryd.ntmps62
  go_wp2
  go_ret2
  exact ⟨ret_ie (by have := (Wd.mk_ptr true v h0 h1).2; simp at this; omega) (Wd.mk_ptr true v h0 h1).1.symm, (Below.refl _ _).alloc (Nat.le_refl _) _⟩
theorem rmake_ptr_lo_s (v : Int) (w : World) (h : v < 1) :
    Calls Tryd.prog 62 #[.agg #[.int .i64 2, .bool true, .int .i64 v]] w fun e w' => e = .returned (.tuple #[.int .u64 (Wd.mkW 2 true v), .int .i64 (Wd.mkE 2 true v)]) ∧ Below w.heap.size w w' := by
  go_enter Tryd.func62, Tryd.ntmps62
  go_wp2
  go_ret2
  exact ⟨ret_ie (Wd.mk_range2 true v (.inl h)).2.symm (Wd.mk_range2 true v (.inl h)).1.symm, (Below.refl _ _).alloc (Nat.le_refl _) _⟩
theorem rmake_ptr_hi_s (v : Int) (w : World) (h : 16777215 < v) :
    Calls Tryd.prog 62 #[.agg #[.int .i64 2, .bool true, .int .i64 v]] w fun e w' => e = .returned (.tuple #[.int .u64 (Wd.mkW 2 true v), .int .i64 (Wd.mkE 2 true v)]) ∧ Below w.heap.size w w' := by
  go_enter Tryd.func62, Tryd.ntmps62
  go_wp2
  go_ret2
  exact ⟨ret_ie (Wd.mk_range2 true v (.inr h)).2.symm (Wd.mk_range2 true v (.inr h)).1.symm, (Below.refl _ _).alloc (Nat.le_refl _) _⟩
theorem rmake_scalar_s (v : Int) (w : World) (h0 : -576460752303423488 ≤ v) (h1 : v ≤ 576460752303423487) :
    Calls Tryd.prog 62 #[.agg #[.int .i64 3, .bool true, .int .i64 v]] w fun e w' => e = .returned (.tuple #[.int .u64 (Wd.mkW 3 true v), .int .i64 (Wd.mkE 3 true v)]) ∧ Below w.heap.size w w' := by
  go_enter Tryd.func62, Tryd.ntmps62
  go_wp2
  go_ret2
  exact ⟨ret_ie (by have := (Wd.mk_scalar true v h0 h1).2; simp at this; omega) (Wd.mk_scalar true v h0 h1).1.symm, (Below.refl _ _).alloc (Nat.le_refl _) _⟩
theorem rmake_scalar_lo_s (v : Int) (w : World) (h : v < -576460752303423488) :
    Calls Tryd.prog 62 #[.agg #[.int .i64 3, .bool true, .int .i64 v]] w fun e w' => e = .returned (.tuple #[.int .u64 (Wd.mkW 3 true v), .int .i64 (Wd.mkE 3 true v)]) ∧ Below w.heap.size w w' := by
  go_enter Tryd.func62, Tryd.ntmps62
  go_wp2
  go_ret2
  exact ⟨ret_ie (Wd.mk_range3 true v (.inl h)).2.symm (Wd.mk_range3 true v (.inl h)).1.symm, (Below.refl _ _).alloc (Nat.le_refl _) _⟩
theorem rmake_scalar_hi_s (v : Int) (w : World) (h : 576460752303423487 < v) :
    Calls Tryd.prog 62 #[.agg #[.int .i64 3, .bool true, .int .i64 v]] w fun e w' => e = .returned (.tuple #[.int .u64 (Wd.mkW 3 true v), .int .i64 (Wd.mkE 3 true v)]) ∧ Below w.heap.size w w' := by
  go_enter Tryd.func62, Tryd.ntmps62
  go_wp2
  go_ret2
  exact ⟨ret_ie (Wd.mk_range3 true v (.inr h)).2.symm (Wd.mk_range3 true v (.inr h)).1.symm, (Below.refl _ _).alloc (Nat.le_refl _) _⟩
/-- The document's Make, whatever it is told. -/
theorem rmake_any (k : Int) (s : Bool) (v : Int) (w : World) :
    Calls Tryd.prog 62 #[.agg #[.int .i64 k, .bool s, .int .i64 v]] w fun e w' => e = .returned (.tuple #[.int .u64 (Wd.mkW k s v), .int .i64 (Wd.mkE k s v)]) ∧ Below w.heap.size w w' := by
  by_cases h1 : k < 1
  · exact rmake_low k s v w h1
  by_cases h2 : 5 ≤ k
  · exact rmake_high k s v w h2
  have hcs : k = 1 ∨ k = 2 ∨ k = 3 ∨ k = 4 := by omega
  rcases hcs with rfl | rfl | rfl | rfl
  · by_cases hv : v = 0
    · subst hv
      cases s
      · exact rmake_null w
      · exact rmake_null_s w
    · cases s
      · exact rmake_null_not v w (by simpa using hv)
      · exact rmake_null_not_s v w (by simpa using hv)
  · by_cases hv : 1 ≤ v
    · by_cases hv2 : v ≤ 16777215
      · cases s
        · exact rmake_ptr v w hv hv2
        · exact rmake_ptr_s v w hv hv2
      · cases s
        · exact rmake_ptr_hi v w (by omega)
        · exact rmake_ptr_hi_s v w (by omega)
    · cases s
      · exact rmake_ptr_lo v w (by omega)
      · exact rmake_ptr_lo_s v w (by omega)
  · by_cases hv : -576460752303423488 ≤ v
    · by_cases hv2 : v ≤ 576460752303423487
      · cases s
        · exact rmake_scalar v w hv hv2
        · exact rmake_scalar_s v w hv hv2
      · cases s
        · exact rmake_scalar_hi v w (by omega)
        · exact rmake_scalar_hi_s v w (by omega)
    · cases s
      · exact rmake_scalar_lo v w (by omega)
      · exact rmake_scalar_lo_s v w (by omega)
  · by_cases hv : v = 0
    · subst hv
      cases s
      · exact rmake_empty w
      · exact rmake_empty_s w
    · cases s
      · exact rmake_empty_not v w (by simpa using hv)
      · exact rmake_empty_not_s v w (by simpa using hv)
theorem rscalar_any (v : Int) (w : World) :
    Calls Tryd.prog 40 #[.int .i64 v] w fun e w' => e = .returned (.tuple #[.int .u64 (Wd.mkW 3 false v), .int .i64 (Wd.mkE 3 false v)]) ∧ Below w.heap.size w w' := by
  go_enter Tryd.func40, Tryd.ntmps40
  go_wp2_with (go_at_call 62; refine (rmake_any 3 false v _).mono ?_)
  rintro e w1 ⟨rfl, hb⟩
  go_wp2
  go_ret2
  exact ⟨rfl, hb⟩
end Go.Proofs.YtldfmlkjeniemaaDoor
