/- The document's own answers for chapter 1 (lapidaryref01): Of, Make, and what stands on them. -/
import Derived.Test.YtldfmlkjeniemaaGreatDoorShAllBOn
import Derived.Test.YtldfmlkjeniemaaGreatDoorPkRefOn
import Derived.Test.YtldfmlkjeniemaaGreatDoorLyRefOn
namespace Go.Proofs.YtldfmlkjeniemaaGreatDoor
open Go.RowKit
theorem is_two : Wd.Is 2 4 0 := .inr (.inr (.inr (.inl ⟨rfl, rfl, rfl⟩)))
theorem rmake_low (k : Int) (s : Bool) (v : Int) (w : World) (h : k < 1) :
    Calls Tryz.prog 68 #[.agg #[.int .i64 k, .bool s, .int .i64 v]] w fun e w' => e = .returned (.tuple #[.int .u64 (Wd.mkW k s v), .int .i64 (Wd.mkE k s v)]) ∧ Below w.heap.size w w' := by
  go_enter Tryz.func68, Tryz.ntmps68
  go_wp2
  go_ret2
  exact ⟨ret_ie (Wd.mk_arg k s v (by omega)).2.symm (Wd.mk_arg k s v (by omega)).1.symm, (Below.refl _ _).alloc (Nat.le_refl _) _⟩
theorem rmake_high (k : Int) (s : Bool) (v : Int) (w : World) (h : 5 ≤ k) :
    Calls Tryz.prog 68 #[.agg #[.int .i64 k, .bool s, .int .i64 v]] w fun e w' => e = .returned (.tuple #[.int .u64 (Wd.mkW k s v), .int .i64 (Wd.mkE k s v)]) ∧ Below w.heap.size w w' := by
  go_enter Tryz.func68, Tryz.ntmps68
  go_wp2
  go_ret2
  exact ⟨ret_ie (Wd.mk_arg k s v (by omega)).2.symm (Wd.mk_arg k s v (by omega)).1.symm, (Below.refl _ _).alloc (Nat.le_refl _) _⟩
theorem rmake_empty (w : World) :
    Calls Tryz.prog 68 #[.agg #[.int .i64 4, .bool false, .int .i64 0]] w fun e w' => e = .returned (.tuple #[.int .u64 (Wd.mkW 4 false 0), .int .i64 (Wd.mkE 4 false 0)]) ∧ Below w.heap.size w w' := by
  go_enter Tryz.func68, Tryz.ntmps68
  go_wp2
  go_ret2
  exact ⟨ret_ie Wd.mk_empty.2.symm Wd.mk_empty.1.symm, (Below.refl _ _).alloc (Nat.le_refl _) _⟩
theorem rmake_empty_s (w : World) :
    Calls Tryz.prog 68 #[.agg #[.int .i64 4, .bool true, .int .i64 0]] w fun e w' => e = .returned (.tuple #[.int .u64 (Wd.mkW 4 true 0), .int .i64 (Wd.mkE 4 true 0)]) ∧ Below w.heap.size w w' := by
  go_enter Tryz.func68, Tryz.ntmps68
  go_wp2
  go_ret2
  exact ⟨ret_ie (Wd.mk_arg 4 true 0 (by simp)).2.symm (Wd.mk_arg 4 true 0 (by simp)).1.symm, (Below.refl _ _).alloc (Nat.le_refl _) _⟩
theorem rmake_empty_not (v : Int) (w : World) (h : (v != 0) = true) :
    Calls Tryz.prog 68 #[.agg #[.int .i64 4, .bool false, .int .i64 v]] w fun e w' => e = .returned (.tuple #[.int .u64 (Wd.mkW 4 false v), .int .i64 (Wd.mkE 4 false v)]) ∧ Below w.heap.size w w' := by
  go_enter Tryz.func68, Tryz.ntmps68
  go_wp2
  go_ret2
  exact ⟨ret_ie (Wd.mk_arg 4 false v (by simp at h; simp; omega)).2.symm (Wd.mk_arg 4 false v (by simp at h; simp; omega)).1.symm, (Below.refl _ _).alloc (Nat.le_refl _) _⟩
theorem rmake_null (w : World) :
    Calls Tryz.prog 68 #[.agg #[.int .i64 1, .bool false, .int .i64 0]] w fun e w' => e = .returned (.tuple #[.int .u64 (Wd.mkW 1 false 0), .int .i64 (Wd.mkE 1 false 0)]) ∧ Below w.heap.size w w' := by
  go_enter Tryz.func68, Tryz.ntmps68
  go_wp2
  go_ret2
  exact ⟨ret_ie (Wd.mk_null false).2.symm (Wd.mk_null false).1.symm, (Below.refl _ _).alloc (Nat.le_refl _) _⟩
theorem rmake_null_not (v : Int) (w : World) (h : (v != 0) = true) :
    Calls Tryz.prog 68 #[.agg #[.int .i64 1, .bool false, .int .i64 v]] w fun e w' => e = .returned (.tuple #[.int .u64 (Wd.mkW 1 false v), .int .i64 (Wd.mkE 1 false v)]) ∧ Below w.heap.size w w' := by
  go_enter Tryz.func68, Tryz.ntmps68
  go_wp2
  go_ret2
  exact ⟨ret_ie (Wd.mk_arg 1 false v (by simp at h; simp; omega)).2.symm (Wd.mk_arg 1 false v (by simp at h; simp; omega)).1.symm, (Below.refl _ _).alloc (Nat.le_refl _) _⟩
theorem rmake_ptr (v : Int) (w : World) (h0 : 1 ≤ v) (h1 : v ≤ 16777215) :
    Calls Tryz.prog 68 #[.agg #[.int .i64 2, .bool false, .int .i64 v]] w fun e w' => e = .returned (.tuple #[.int .u64 (Wd.mkW 2 false v), .int .i64 (Wd.mkE 2 false v)]) ∧ Below w.heap.size w w' := by
  go_enter Tryz.func68, Tryz.ntmps68
  go_wp2
  go_ret2
  exact ⟨ret_ie (by have := (Wd.mk_ptr false v h0 h1).2; simp at this; omega) (Wd.mk_ptr false v h0 h1).1.symm, (Below.refl _ _).alloc (Nat.le_refl _) _⟩
theorem rmake_ptr_lo (v : Int) (w : World) (h : v < 1) :
    Calls Tryz.prog 68 #[.agg #[.int .i64 2, .bool false, .int .i64 v]] w fun e w' => e = .returned (.tuple #[.int .u64 (Wd.mkW 2 false v), .int .i64 (Wd.mkE 2 false v)]) ∧ Below w.heap.size w w' := by
  go_enter Tryz.func68, Tryz.ntmps68
  go_wp2
  go_ret2
  exact ⟨ret_ie (Wd.mk_range2 false v (.inl h)).2.symm (Wd.mk_range2 false v (.inl h)).1.symm, (Below.refl _ _).alloc (Nat.le_refl _) _⟩
theorem rmake_ptr_hi (v : Int) (w : World) (h : 16777215 < v) :
    Calls Tryz.prog 68 #[.agg #[.int .i64 2, .bool false, .int .i64 v]] w fun e w' => e = .returned (.tuple #[.int .u64 (Wd.mkW 2 false v), .int .i64 (Wd.mkE 2 false v)]) ∧ Below w.heap.size w w' := by
  go_enter Tryz.func68, Tryz.ntmps68
  go_wp2
  go_ret2
  exact ⟨ret_ie (Wd.mk_range2 false v (.inr h)).2.symm (Wd.mk_range2 false v (.inr h)).1.symm, (Below.refl _ _).alloc (Nat.le_refl _) _⟩
theorem rmake_scalar (v : Int) (w : World) (h0 : -576460752303423488 ≤ v) (h1 : v ≤ 576460752303423487) :
    Calls Tryz.prog 68 #[.agg #[.int .i64 3, .bool false, .int .i64 v]] w fun e w' => e = .returned (.tuple #[.int .u64 (Wd.mkW 3 false v), .int .i64 (Wd.mkE 3 false v)]) ∧ Below w.heap.size w w' := by
  go_enter Tryz.func68, Tryz.ntmps68
  go_wp2
  go_ret2
  exact ⟨ret_ie (by have := (Wd.mk_scalar false v h0 h1).2; simp at this; omega) (Wd.mk_scalar false v h0 h1).1.symm, (Below.refl _ _).alloc (Nat.le_refl _) _⟩
theorem rmake_scalar_lo (v : Int) (w : World) (h : v < -576460752303423488) :
    Calls Tryz.prog 68 #[.agg #[.int .i64 3, .bool false, .int .i64 v]] w fun e w' => e = .returned (.tuple #[.int .u64 (Wd.mkW 3 false v), .int .i64 (Wd.mkE 3 false v)]) ∧ Below w.heap.size w w' := by
  go_enter Tryz.func68, Tryz.ntmps68
  go_wp2
  go_ret2
  exact ⟨ret_ie (Wd.mk_range3 false v (.inl h)).2.symm (Wd.mk_range3 false v (.inl h)).1.symm, (Below.refl _ _).alloc (Nat.le_refl _) _⟩
theorem rmake_scalar_hi (v : Int) (w : World) (h : 576460752303423487 < v) :
    Calls Tryz.prog 68 #[.agg #[.int .i64 3, .bool false, .int .i64 v]] w fun e w' => e = .returned (.tuple #[.int .u64 (Wd.mkW 3 false v), .int .i64 (Wd.mkE 3 false v)]) ∧ Below w.heap.size w w' := by
  go_enter Tryz.func68, Tryz.ntmps68
  go_wp2
  go_ret2
  exact ⟨ret_ie (Wd.mk_range3 false v (.inr h)).2.symm (Wd.mk_range3 false v (.inr h)).1.symm, (Below.refl _ _).alloc (Nat.le_refl _) _⟩
theorem rmake_empty_not_s (v : Int) (w : World) (h : (v != 0) = true) :
    Calls Tryz.prog 68 #[.agg #[.int .i64 4, .bool true, .int .i64 v]] w fun e w' => e = .returned (.tuple #[.int .u64 (Wd.mkW 4 true v), .int .i64 (Wd.mkE 4 true v)]) ∧ Below w.heap.size w w' := by
  go_enter Tryz.func68, Tryz.ntmps68
  go_wp2
  go_ret2
  exact ⟨ret_ie (Wd.mk_arg 4 true v (by simp)).2.symm (Wd.mk_arg 4 true v (by simp)).1.symm, (Below.refl _ _).alloc (Nat.le_refl _) _⟩
theorem rmake_null_s (w : World) :
    Calls Tryz.prog 68 #[.agg #[.int .i64 1, .bool true, .int .i64 0]] w fun e w' => e = .returned (.tuple #[.int .u64 (Wd.mkW 1 true 0), .int .i64 (Wd.mkE 1 true 0)]) ∧ Below w.heap.size w w' := by
  go_enter Tryz.func68, Tryz.ntmps68
  go_wp2
  go_ret2
  exact ⟨ret_ie (Wd.mk_null true).2.symm (Wd.mk_null true).1.symm, (Below.refl _ _).alloc (Nat.le_refl _) _⟩
theorem rmake_null_not_s (v : Int) (w : World) (h : (v != 0) = true) :
    Calls Tryz.prog 68 #[.agg #[.int .i64 1, .bool true, .int .i64 v]] w fun e w' => e = .returned (.tuple #[.int .u64 (Wd.mkW 1 true v), .int .i64 (Wd.mkE 1 true v)]) ∧ Below w.heap.size w w' := by
  go_enter Tryz.func68, Tryz.ntmps68
  go_wp2
  go_ret2
  exact ⟨ret_ie (Wd.mk_arg 1 true v (by simp at h; simp; omega)).2.symm (Wd.mk_arg 1 true v (by simp at h; simp; omega)).1.symm, (Below.refl _ _).alloc (Nat.le_refl _) _⟩
theorem rmake_ptr_s (v : Int) (w : World) (h0 : 1 ≤ v) (h1 : v ≤ 16777215) :
    Calls Tryz.prog 68 #[.agg #[.int .i64 2, .bool true, .int .i64 v]] w fun e w' => e = .returned (.tuple #[.int .u64 (Wd.mkW 2 true v), .int .i64 (Wd.mkE 2 true v)]) ∧ Below w.heap.size w w' := by
  go_enter Tryz.func68, Tryz.ntmps68
  go_wp2
  go_ret2
  exact ⟨ret_ie (by have := (Wd.mk_ptr true v h0 h1).2; simp at this; omega) (Wd.mk_ptr true v h0 h1).1.symm, (Below.refl _ _).alloc (Nat.le_refl _) _⟩
theorem rmake_ptr_lo_s (v : Int) (w : World) (h : v < 1) :
    Calls Tryz.prog 68 #[.agg #[.int .i64 2, .bool true, .int .i64 v]] w fun e w' => e = .returned (.tuple #[.int .u64 (Wd.mkW 2 true v), .int .i64 (Wd.mkE 2 true v)]) ∧ Below w.heap.size w w' := by
  go_enter Tryz.func68, Tryz.ntmps68
  go_wp2
  go_ret2
  exact ⟨ret_ie (Wd.mk_range2 true v (.inl h)).2.symm (Wd.mk_range2 true v (.inl h)).1.symm, (Below.refl _ _).alloc (Nat.le_refl _) _⟩
theorem rmake_ptr_hi_s (v : Int) (w : World) (h : 16777215 < v) :
    Calls Tryz.prog 68 #[.agg #[.int .i64 2, .bool true, .int .i64 v]] w fun e w' => e = .returned (.tuple #[.int .u64 (Wd.mkW 2 true v), .int .i64 (Wd.mkE 2 true v)]) ∧ Below w.heap.size w w' := by
  go_enter Tryz.func68, Tryz.ntmps68
  go_wp2
  go_ret2
  exact ⟨ret_ie (Wd.mk_range2 true v (.inr h)).2.symm (Wd.mk_range2 true v (.inr h)).1.symm, (Below.refl _ _).alloc (Nat.le_refl _) _⟩
theorem rmake_scalar_s (v : Int) (w : World) (h0 : -576460752303423488 ≤ v) (h1 : v ≤ 576460752303423487) :
    Calls Tryz.prog 68 #[.agg #[.int .i64 3, .bool true, .int .i64 v]] w fun e w' => e = .returned (.tuple #[.int .u64 (Wd.mkW 3 true v), .int .i64 (Wd.mkE 3 true v)]) ∧ Below w.heap.size w w' := by
  go_enter Tryz.func68, Tryz.ntmps68
  go_wp2
  go_ret2
  exact ⟨ret_ie (by have := (Wd.mk_scalar true v h0 h1).2; simp at this; omega) (Wd.mk_scalar true v h0 h1).1.symm, (Below.refl _ _).alloc (Nat.le_refl _) _⟩
theorem rmake_scalar_lo_s (v : Int) (w : World) (h : v < -576460752303423488) :
    Calls Tryz.prog 68 #[.agg #[.int .i64 3, .bool true, .int .i64 v]] w fun e w' => e = .returned (.tuple #[.int .u64 (Wd.mkW 3 true v), .int .i64 (Wd.mkE 3 true v)]) ∧ Below w.heap.size w w' := by
  go_enter Tryz.func68, Tryz.ntmps68
  go_wp2
  go_ret2
  exact ⟨ret_ie (Wd.mk_range3 true v (.inl h)).2.symm (Wd.mk_range3 true v (.inl h)).1.symm, (Below.refl _ _).alloc (Nat.le_refl _) _⟩
theorem rmake_scalar_hi_s (v : Int) (w : World) (h : 576460752303423487 < v) :
    Calls Tryz.prog 68 #[.agg #[.int .i64 3, .bool true, .int .i64 v]] w fun e w' => e = .returned (.tuple #[.int .u64 (Wd.mkW 3 true v), .int .i64 (Wd.mkE 3 true v)]) ∧ Below w.heap.size w w' := by
  go_enter Tryz.func68, Tryz.ntmps68
  go_wp2
  go_ret2
  exact ⟨ret_ie (Wd.mk_range3 true v (.inr h)).2.symm (Wd.mk_range3 true v (.inr h)).1.symm, (Below.refl _ _).alloc (Nat.le_refl _) _⟩
/-- The document's Make, whatever it is told. -/
theorem rmake_any (k : Int) (s : Bool) (v : Int) (w : World) :
    Calls Tryz.prog 68 #[.agg #[.int .i64 k, .bool s, .int .i64 v]] w fun e w' => e = .returned (.tuple #[.int .u64 (Wd.mkW k s v), .int .i64 (Wd.mkE k s v)]) ∧ Below w.heap.size w w' := by
  by_cases h1 : k < 1
  · exact rmake_low k s v w h1
  by_cases h2 : 5 ≤ k
  · exact rmake_high k s v w h2
  have hcs : k = 1 ∨ k = 2 ∨ k = 3 ∨ k = 4 := by omega
  rcases hcs with rfl | rfl | rfl | rfl
  · by_cases hv : v = 0
    · subst hv
      cases s
      · exact rmake_null w
      · exact rmake_null_s w
    · cases s
      · exact rmake_null_not v w (by simpa using hv)
      · exact rmake_null_not_s v w (by simpa using hv)
  · by_cases hv : 1 ≤ v
    · by_cases hv2 : v ≤ 16777215
      · cases s
        · exact rmake_ptr v w hv hv2
        · exact rmake_ptr_s v w hv hv2
      · cases s
        · exact rmake_ptr_hi v w (by omega)
        · exact rmake_ptr_hi_s v w (by omega)
    · cases s
      · exact rmake_ptr_lo v w (by omega)
      · exact rmake_ptr_lo_s v w (by omega)
  · by_cases hv : -576460752303423488 ≤ v
    · by_cases hv2 : v ≤ 576460752303423487
      · cases s
        · exact rmake_scalar v w hv hv2
        · exact rmake_scalar_s v w hv hv2
      · cases s
        · exact rmake_scalar_hi v w (by omega)
        · exact rmake_scalar_hi_s v w (by omega)
    · cases s
      · exact rmake_scalar_lo v w (by omega)
      · exact rmake_scalar_lo_s v w (by omega)
  · by_cases hv : v = 0
    · subst hv
      cases s
      · exact rmake_empty w
      · exact rmake_empty_s w
    · cases s
      · exact rmake_empty_not v w (by simpa using hv)
      · exact rmake_empty_not_s v w (by simpa using hv)
theorem rscalar_any (v : Int) (w : World) :
    Calls Tryz.prog 43 #[.int .i64 v] w fun e w' => e = .returned (.tuple #[.int .u64 (Wd.mkW 3 false v), .int .i64 (Wd.mkE 3 false v)]) ∧ Below w.heap.size w w' := by
  go_enter Tryz.func43, Tryz.ntmps43
  go_wp2_with (go_at_call 68; refine (rmake_any 3 false v _).mono ?_)
  rintro e w1 ⟨rfl, hb⟩
  go_wp2
  go_ret2
  exact ⟨rfl, hb⟩
end Go.Proofs.YtldfmlkjeniemaaGreatDoor
/- The document's Start (lapidaryref06). -/
set_option linter.unusedVariables false
namespace Go.Proofs.YtldfmlkjeniemaaGreatDoor
open Go.RowKit Go.Ly Go.Sh
/-- .. so far as so many fields are laid. -/
def stg (F : Int) (B : Nat) (x : ByteArray) (k i : Nat) : Int := if i = 1 then F else if B ≤ i ∧ i < B + 2 + k then (fobj x).getD (i - B) 0 else 0
theorem fobj_field (x : ByteArray) (k : Nat) (h : k < x.size) : (fobj x).getD (2 + k) 0 = fwd (x.data.toList.getD k 0 == 115) := by
  have e : 2 + k = k + 1 + 1 := by omega
  rw [e, fobj, List.getD_cons_succ, List.getD_cons_succ, List.getD_eq_getElem?_getD, upto, List.getElem?_map, List.getElem?_range h]
  rfl
theorem stg_all (F : Int) (B : Nat) (x : ByteArray) (i : Nat) : stg F B x x.size i = stf F B x i := by
  unfold stg stf
  by_cases h1 : i = 1
  · rw [if_pos h1, if_pos h1]
  rw [if_neg h1, if_neg h1]
  by_cases h2 : B ≤ i
  · by_cases h3 : i < B + 2 + x.size
    · rw [if_pos ⟨h2, h3⟩, if_pos h2]
    · rw [if_neg (fun h => h3 h.2), if_pos h2, List.getD_eq_getElem?_getD, List.getElem?_eq_none (by rw [fobj_len]; omega)]
      rfl
  · rw [if_neg (fun h => h2 h.1), if_neg h2]
theorem stg_far (F : Int) (B : Nat) (x : ByteArray) (k i : Nat) (h : i ≠ B + 2 + k) : stg F B x (k + 1) i = stg F B x k i := by
  unfold stg
  by_cases h1 : i = 1
  · rw [if_pos h1, if_pos h1]
  rw [if_neg h1, if_neg h1]
  by_cases h2 : B ≤ i ∧ i < B + 2 + k
  · rw [if_pos h2, if_pos ⟨h2.1, by omega⟩]
  · rw [if_neg h2, if_neg (by omega)]
theorem stg_at (F : Int) (B : Nat) (x : ByteArray) (k : Nat) (b5 : 5 ≤ B) (h : k < x.size) : stg F B x (k + 1) (B + 2 + k) = fwd (x.data.toList.getD k 0 == 115) := by
  unfold stg
  rw [if_neg (by omega), if_pos (by omega), show B + 2 + k - B = 2 + k by omega, fobj_field x k h]
theorem stg_not (F : Int) (B : Nat) (x : ByteArray) (k : Nat) (b5 : 5 ≤ B) : stg F B x k (B + 2 + k) = 0 := by
  unfold stg
  rw [if_neg (by omega), if_neg (by omega)]
theorem stg_nil (F : Int) (B : Nat) (x : ByteArray) (i : Nat) (b5 : 5 ≤ B) : stg F B x 0 i = if i = 1 then F else if i = B then 6 else 0 := by
  unfold stg
  by_cases h1 : i = 1
  · rw [if_pos h1, if_pos h1]
  rw [if_neg h1, if_neg h1]
  by_cases h2 : i = B
  · subst h2; rw [if_pos (by omega), if_pos rfl, Nat.sub_self]; rfl
  · rw [if_neg h2]
    by_cases h3 : i = B + 1
    · subst h3; rw [if_pos (by omega), show B + 1 - B = 1 by omega]; rfl
    · rw [if_neg (by omega)]
theorem wat_set (zs : List Int) (i j : Nat) (v : Int) (h : i < zs.length) : wat (zs.set i v) j = if i = j then v else wat zs j := by
  unfold wat
  rw [List.getD_eq_getElem?_getD, List.getElem?_set]
  by_cases e : i = j
  · subst e; simp [h]
  · rw [if_neg e, if_neg e, List.getD_eq_getElem?_getD]
theorem wat_zero (N j : Nat) : wat (List.replicate N 0) j = 0 := by
  unfold wat
  rw [List.getD_eq_getElem?_getD, List.getElem?_replicate]
  split <;> rfl
/-- A world in which the document's words are laid. -/
structure RsW (w : World) (P G : Nat) (O : Obj) (zs : List Int) (W : World) : Prop where
  row : W.heap[G]? = some (.cells (wds zs) 39)
  pln : W.heap[P]? = some O
  bel : Below w.heap.size w W
  neP : P ≠ G
  leG : w.heap.size ≤ G
theorem RsW.below {w W W' : World} {P G : Nat} {O : Obj} {zs : List Int} (h : RsW w P G O zs W) (b : Below W.heap.size W W') : RsW w P G O zs W' :=
  ⟨row_below h.row b, row_below h.pln b, h.bel.trans (b.mono h.bel.size), h.neP, h.leG⟩
theorem RsW.set {w W : World} {P G : Nat} {O : Obj} {zs : List Int} (h : RsW w P G O zs W) (i : Nat) (v : Int) : RsW w P G O (zs.set i v) (W.setCell ⟨G, i, none⟩ (.int .u64 v)) := by
  have e := setCell_eq_setRow W G i (wds zs) 39 (0, 0) (.int .u64 v) h.row
  rw [wds_set] at e
  refine ⟨?_, other_row h.neP h.pln, h.bel.setCell (p := ⟨G, i, none⟩) h.leG _, h.neP, h.leG⟩
  rw [e]
  exact setRow_heap W G (wds zs) _ _ _ h.row
theorem RsW.cell {w W : World} {P G : Nat} {O : Obj} {zs : List Int} (h : RsW w P G O zs W) (i : Nat) (hi : i < zs.length) : W.cell? ⟨G, i, none⟩ = some (.int .u64 (wat zs i)) := at_row h.row i (wds_get zs i hi)
theorem byte_at (x : ByteArray) (k : Nat) (h : k < x.size) : x.data.toList.getD k 0 = x[k]'h := by
  rw [List.getD_eq_getElem?_getD, List.getElem?_eq_getElem (by rw [Array.length_toList]; exact h)]
  simp [ByteArray.getElem_eq_getElem_data]
set_option maxRecDepth 100000 in
set_option maxHeartbeats 8000000 in
theorem rStart6_at (t s : Int) (b off n c N B : Nat) (F er : Int) (x : ByteArray) (w : World) (t0 : 1 ≤ t) (t1 : t ≤ 8) (s0 : 32 ≤ s) (s1 : s ≤ 4096) (hN : (N : Int) = 3 + t + t + 2 * s) (hB : (B : Int) = 3 + t + t)
    (hx8 : x.size ≤ 8) (hn : 1 ≤ n) (hc : w.cell? ⟨b, off, none⟩ = some (.string x)) (hF : Hid (Pk.fw 0 (2 + (x.size : Int)) s 0 = (F, er))) :
    Calls Tryz.prog 19 #[planV t s (some ⟨b, off, none⟩) n c] w fun e W' =>
      ∃ G, e = .returned (.slice (some ⟨G, 0, none⟩) N N) ∧ (∀ i, i < N → W'.cell? ⟨G, i, none⟩ = some (.int .u64 (stf F B x i))) ∧ Below w.heap.size w W' := by
  have cs := fun W => rSize6 t s (some ⟨b, off, none⟩) n c W t0 t1 s0 s1
  rw [← hN] at cs
  have cb := fun W => rBase6_0 t s (some ⟨b, off, none⟩) n c W t0 t1 s0 s1
  rw [← hB] at cb
  have cw := fun W => rword_at 0 0 W (by omega) (by omega) (by omega) (by omega)
  simp only [show Hd.wd 0 0 = 6 from rfl] at cw
  have cS := fun W => rscalar_any 0 W
  simp only [mkW_scal] at cS
  have hmk := make_words 25 Tryz.underlying25 N (by omega)
  have HC := hid hc
  have b5 : 5 ≤ B := by omega
  have n1 : (N : Int) ≤ 9000 := by omega
  have n0 : 69 ≤ (N : Int) := by omega
  have nb : B + 60 ≤ N := by omega
  have nb' : (B : Int) + 60 ≤ N := by omega
  have b5' : 5 ≤ (B : Int) := by omega
  have hx8' : (x.size : Int) ≤ 8 := by omega
  clear hc hN hB
  generalize hz : wds (List.replicate N 0) = ZA at hmk
  have HZ := hid hz
  clear hz
  go_enter Tryz.func19, Tryz.ntmps19
  go_wp2_with (go_at_call 17; refine (cs _).mono ?_)
  rintro e w1 ⟨rfl, b1⟩
  have B1 := hid (bel1 b1)
  have R1 := row1 b1
  have z1 := siz1 b1
  clear b1 cs
  have S1 : Hid (RsW w w.heap.size w1.heap.size (.cells #[.int .i64 t, .int .i64 s, .slice (some ⟨b, off, none⟩) n c] 24) (List.replicate N 0) (w1.alloc (.cells ZA 39))) :=
    hid ⟨by rw [HZ.out]; exact heap_alloc_last w1 _, row_below R1 (below_alloc0 w1 _), B1.out.alloc B1.out.size _, by omega, by omega⟩
  have p1 := at_row S1.out.pln 1 rfl
  have p2 := at_row S1.out.pln 2 rfl
  have hc1 := (S1.out.bel.cell (p := ⟨b, off, none⟩) (block_lt_of_cell HC.out)).trans HC.out
  clear R1 B1
  go_wp2_with (go_at_call 41; refine (rfront_at 0 _ s 0 F er _ hF).mono ?_)
  rintro e w2 ⟨rfl, b2⟩
  have S2 := hid (S1.out.below b2)
  clear S1 b2 p1 p2 hc1
  have hc1 := S2.out.cell 1 (by simp; omega)
  have hf1 := fz_row S2.out.row 1
  have S3 := hid (S2.out.set 1 F)
  clear S2
  have q0 := at_row S3.out.pln 0 rfl
  have q1 := at_row S3.out.pln 1 rfl
  have q2 := at_row S3.out.pln 2 rfl
  go_wp2_with (go_at_call 39; refine (cb _).mono ?_)
  rintro e w3 ⟨rfl, b3⟩
  have S4 := hid (S3.out.below b3)
  clear S3 b3 hc1 hf1 q0 q1 q2
  have hc1 := S4.out.cell B (by simp; omega)
  have hf1 := fz_row S4.out.row B
  have S5 := hid (S4.out.set B 6)
  clear S4
  go_wp2_with (go_at_call 42; refine (cw _).mono ?_; rintro e w' ⟨rfl, hw⟩; rw [hw]; clear hw)
  clear hc1 hf1 cw
  generalize w3.setCell _ _ = W3 at *
  go_loopw [5] (fun i wr => ∃ k : Nat, k ≤ x.size ∧ i = .int .i64 (k : Int) ∧ ∃ zs : List Int, zs.length = N ∧ Hid (∀ j, wat zs j = stg F B x k j) ∧ Hid (RsW w w.heap.size w1.heap.size (.cells #[.int .i64 t, .int .i64 s, .slice (some ⟨b, off, none⟩) n c] 24) zs wr)) (fun i _ => x.size - (intOf i).toNat)
  case atStart =>
    refine ⟨0, by omega, rfl, _, by simp, hid (fun j => ?_), S5⟩
    rw [stg_nil F B x j b5, wat_set _ _ _ _ (by simp; omega), wat_set _ _ _ _ (by simp; omega), wat_zero]
    by_cases h1 : j = 1
    · subst h1; rw [if_neg (by omega), if_pos rfl, if_pos rfl]
    · by_cases h2 : j = B
      · subst h2; rw [if_pos rfl, if_neg h1, if_pos rfl]
      · rw [if_neg (by omega), if_neg (by omega), if_neg h1, if_neg h2]
  case round =>
    obtain ⟨k, hk, rfl, zs, hl, HW, HR⟩ := hrel
    clear S5
    by_cases hlt : k < x.size
    · have hlt' : (k : Int) < x.size := by omega
      have hby := byte_at x k hlt
      by_cases hs : x[k]'hlt = 115
      · have e2 : (((x[k]'hlt).toNat : Int) == 115) = true := by rw [hs]; rfl
        have HA : Hid (stg F B x (k + 1) (B + 2 + k) = 4611686018427387908) := hid (by rw [stg_at F B x k b5 hlt, hby, hs]; rfl)
        clear hby hs
        have q0 := at_row HR.out.pln 0 rfl
        have q1 := at_row HR.out.pln 1 rfl
        have q2 := at_row HR.out.pln 2 rfl
        have kk : (k : Int) ≤ 8 := by omega
        go_wp2_with (go_at_call 39; refine (cb _).mono ?_)
        rintro e w5 ⟨rfl, b5q⟩
        have S6 := hid (HR.out.below b5q)
        clear HR b5q q0 q1 q2
        go_wp2_with (go_at_call 43; refine (cS _).mono ?_)
        rintro e w6 ⟨rfl, b6⟩
        have S7 := hid (S6.out.below b6)
        clear S6 b6
        have hc1 := S7.out.cell (B + 2 + k) (by omega)
        have hf1 := fz_row S7.out.row (B + 2 + k)
        have S8 := hid (S7.out.set (B + 2 + k) 4611686018427387908)
        have hix : ((B : Int) + 2 + k).toNat = B + 2 + k := by omega
        clear S7
        go_wp2
        refine ⟨⟨k + 1, by omega, by go_num, _, by rw [List.length_set]; exact hl, hid (fun j => ?_), S8⟩, by simp [intOf]; omega⟩
        rw [wat_set _ _ _ _ (by omega)]
        by_cases hj : B + 2 + k = j
        · rw [if_pos hj, ← hj, HA.out]
        · rw [if_neg hj, HW.out j, stg_far F B x k j (fun e => hj e.symm)]
      · have e2 := ne115 hs
        have HA : Hid (∀ j, stg F B x (k + 1) j = stg F B x k j) := hid (fun j => by
          by_cases hj : j = B + 2 + k
          · subst hj
            rw [stg_at F B x k b5 hlt, stg_not F B x k b5, hby]
            simp [fwd, hs]
          · exact stg_far F B x k j hj)
        clear hby hs
        go_wp2
        refine ⟨⟨k + 1, by omega, by go_num, zs, hl, hid (fun j => by rw [HA.out j]; exact HW.out j), HR⟩, by simp [intOf]; omega⟩
    · obtain rfl : k = x.size := by omega
      go_wp2
      go_ret
      refine ⟨_, rfl, fun i hi => ?_, HR.out.bel⟩
      rw [HR.out.cell i (by omega), HW.out i, stg_all]
end Go.Proofs.YtldfmlkjeniemaaGreatDoor
