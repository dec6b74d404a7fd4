/- Package word's Make, and what stands on it alone: Pointer, Scalar, Empty. -/
import Derived.Test.YtjfegimgpkeleaaDoorWdSpecOn
namespace Go.Proofs.YtjfegimgpkeleaaDoor
open Go.RowKit
theorem make_low (k : Int) (s : Bool) (v : Int) (w : World) (h : k < 0) :
    Calls Tryd.prog 64 #[.agg #[.int .i64 k, .bool s, .int .i64 v]] w fun e w' => e = .returned (.tuple #[.int .u64 (Wd.mkW k s v), .int .i64 (Wd.mkE k s v)]) ∧ Below w.heap.size w w' := by
  go_enter Tryd.func64, Tryd.ntmps64
  go_wp2_with (go_at_call 78; refine (kinds_any _).mono ?_)
  rintro e w1 ⟨rfl, hb1⟩
  have c0 : w1.cell? ⟨w.heap.size, 0, none⟩ = some (.int .i64 k) := cell_new hb1 0 _ rfl
  have c1 : w1.cell? ⟨w.heap.size, 1, none⟩ = some (.bool s) := cell_new hb1 1 _ rfl
  have c2 : w1.cell? ⟨w.heap.size, 2, none⟩ = some (.int .i64 v) := cell_new hb1 2 _ rfl
  have hz : w.heap.size < w1.heap.size := by have := hb1.size; simp at this; omega
  have hbw : Below w.heap.size w w1 := ((Below.refl _ _).alloc (Nat.le_refl _) _).trans (hb1.mono (by simp))
  clear hb1
  go_wp2_with (first | (refine wpList_store_row rfl 139 _ _ rfl w1.heap.size kindsArr rfl rfl 139 _ (heap_alloc_last w1 _) kindsArr_size rfl kindsArr_one ?_; rw [World.setRow_alloc_new]))
  go_ret2
  exact ⟨ret_ie (Wd.mk_arg k s v (by omega)).2.symm (Wd.mk_arg k s v (by omega)).1.symm, hbw.alloc (by omega) _⟩
theorem make_high (k : Int) (s : Bool) (v : Int) (w : World) (h : 5 ≤ k) :
    Calls Tryd.prog 64 #[.agg #[.int .i64 k, .bool s, .int .i64 v]] w fun e w' => e = .returned (.tuple #[.int .u64 (Wd.mkW k s v), .int .i64 (Wd.mkE k s v)]) ∧ Below w.heap.size w w' := by
  go_enter Tryd.func64, Tryd.ntmps64
  go_wp2_with (go_at_call 78; refine (kinds_any _).mono ?_)
  rintro e w1 ⟨rfl, hb1⟩
  have c0 : w1.cell? ⟨w.heap.size, 0, none⟩ = some (.int .i64 k) := cell_new hb1 0 _ rfl
  have c1 : w1.cell? ⟨w.heap.size, 1, none⟩ = some (.bool s) := cell_new hb1 1 _ rfl
  have c2 : w1.cell? ⟨w.heap.size, 2, none⟩ = some (.int .i64 v) := cell_new hb1 2 _ rfl
  have hz : w.heap.size < w1.heap.size := by have := hb1.size; simp at this; omega
  have hbw : Below w.heap.size w w1 := ((Below.refl _ _).alloc (Nat.le_refl _) _).trans (hb1.mono (by simp))
  clear hb1
  go_wp2_with (first | (refine wpList_store_row rfl 139 _ _ rfl w1.heap.size kindsArr rfl rfl 139 _ (heap_alloc_last w1 _) kindsArr_size rfl kindsArr_one ?_; rw [World.setRow_alloc_new]))
  go_ret2
  exact ⟨ret_ie (Wd.mk_arg k s v (by omega)).2.symm (Wd.mk_arg k s v (by omega)).1.symm, hbw.alloc (by omega) _⟩
theorem make_bad (v : Int) (w : World) :
    Calls Tryd.prog 64 #[.agg #[.int .i64 0, .bool false, .int .i64 v]] w fun e w' => e = .returned (.tuple #[.int .u64 (Wd.mkW 0 false v), .int .i64 (Wd.mkE 0 false v)]) ∧ Below w.heap.size w w' := by
  go_enter Tryd.func64, Tryd.ntmps64
  go_wp2_with (go_at_call 78; refine (kinds_any _).mono ?_)
  rintro e w1 ⟨rfl, hb1⟩
  have c0 : w1.cell? ⟨w.heap.size, 0, none⟩ = some (.int .i64 0) := cell_new hb1 0 _ rfl
  have c1 : w1.cell? ⟨w.heap.size, 1, none⟩ = some (.bool false) := cell_new hb1 1 _ rfl
  have c2 : w1.cell? ⟨w.heap.size, 2, none⟩ = some (.int .i64 v) := cell_new hb1 2 _ rfl
  have hz : w.heap.size < w1.heap.size := by have := hb1.size; simp at this; omega
  have hbw : Below w.heap.size w w1 := ((Below.refl _ _).alloc (Nat.le_refl _) _).trans (hb1.mono (by simp))
  clear hb1
  have k0 : kindsArr[0]? = some (.bool false) := rfl
  have k1 : kindsArr[1]? = some (.func (.func 92) #[] #[]) := rfl
  have k2 : kindsArr[2]? = some (.func (.func 93) #[] #[]) := rfl
  have k3 : kindsArr[3]? = some (.func (.func 94) #[] #[]) := rfl
  go_wp2_with (first | (refine wpList_store_row rfl 139 _ _ rfl w1.heap.size kindsArr rfl rfl 139 _ (heap_alloc_last w1 _) kindsArr_size rfl kindsArr_one ?_; rw [World.setRow_alloc_new]) | (go_at_call 93; refine (layBad_any _ _).mono ?_; rintro e w' ⟨rfl, rfl⟩))
  go_ret2
  exact ⟨ret_ie (Wd.mk_arg 0 false v (by omega)).2.symm (Wd.mk_arg 0 false v (by omega)).1.symm, (hbw.alloc (by omega) _).alloc (by simp; omega) _⟩
theorem make_bad_s (v : Int) (w : World) :
    Calls Tryd.prog 64 #[.agg #[.int .i64 0, .bool true, .int .i64 v]] w fun e w' => e = .returned (.tuple #[.int .u64 (Wd.mkW 0 true v), .int .i64 (Wd.mkE 0 true v)]) ∧ Below w.heap.size w w' := by
  go_enter Tryd.func64, Tryd.ntmps64
  go_wp2_with (go_at_call 78; refine (kinds_any _).mono ?_)
  rintro e w1 ⟨rfl, hb1⟩
  have c0 : w1.cell? ⟨w.heap.size, 0, none⟩ = some (.int .i64 0) := cell_new hb1 0 _ rfl
  have c1 : w1.cell? ⟨w.heap.size, 1, none⟩ = some (.bool true) := cell_new hb1 1 _ rfl
  have c2 : w1.cell? ⟨w.heap.size, 2, none⟩ = some (.int .i64 v) := cell_new hb1 2 _ rfl
  have hz : w.heap.size < w1.heap.size := by have := hb1.size; simp at this; omega
  have hbw : Below w.heap.size w w1 := ((Below.refl _ _).alloc (Nat.le_refl _) _).trans (hb1.mono (by simp))
  clear hb1
  have k0 : kindsArr[0]? = some (.bool false) := rfl
  have k1 : kindsArr[1]? = some (.func (.func 92) #[] #[]) := rfl
  have k2 : kindsArr[2]? = some (.func (.func 93) #[] #[]) := rfl
  have k3 : kindsArr[3]? = some (.func (.func 94) #[] #[]) := rfl
  go_wp2_with (first | (refine wpList_store_row rfl 139 _ _ rfl w1.heap.size kindsArr rfl rfl 139 _ (heap_alloc_last w1 _) kindsArr_size rfl kindsArr_one ?_; rw [World.setRow_alloc_new]))
  go_ret2
  exact ⟨ret_ie (Wd.mk_arg 0 true v (by omega)).2.symm (Wd.mk_arg 0 true v (by omega)).1.symm, (hbw.alloc (by omega) _).alloc (by simp; omega) _⟩
theorem make_empty (w : World) :
    Calls Tryd.prog 64 #[.agg #[.int .i64 4, .bool false, .int .i64 0]] w fun e w' => e = .returned (.tuple #[.int .u64 (Wd.mkW 4 false 0), .int .i64 (Wd.mkE 4 false 0)]) ∧ Below w.heap.size w w' := by
  go_enter Tryd.func64, Tryd.ntmps64
  go_wp2_with (go_at_call 78; refine (kinds_any _).mono ?_)
  rintro e w1 ⟨rfl, hb1⟩
  have c0 : w1.cell? ⟨w.heap.size, 0, none⟩ = some (.int .i64 4) := cell_new hb1 0 _ rfl
  have c1 : w1.cell? ⟨w.heap.size, 1, none⟩ = some (.bool false) := cell_new hb1 1 _ rfl
  have c2 : w1.cell? ⟨w.heap.size, 2, none⟩ = some (.int .i64 0) := cell_new hb1 2 _ rfl
  have hz : w.heap.size < w1.heap.size := by have := hb1.size; simp at this; omega
  have hbw : Below w.heap.size w w1 := ((Below.refl _ _).alloc (Nat.le_refl _) _).trans (hb1.mono (by simp))
  clear hb1
  have k0 : kindsArr[16]? = some (.bool false) := rfl
  have k1 : kindsArr[17]? = some (.func (.func 92) #[] #[]) := rfl
  have k2 : kindsArr[18]? = some (.func (.func 103) #[] #[]) := rfl
  have k3 : kindsArr[19]? = some (.func (.func 104) #[] #[]) := rfl
  go_wp2_with (first | (refine wpList_store_row rfl 139 _ _ rfl w1.heap.size kindsArr rfl rfl 139 _ (heap_alloc_last w1 _) kindsArr_size rfl kindsArr_one ?_; rw [World.setRow_alloc_new]) | (go_at_call 103; refine (layEmpty_zero _).mono ?_; rintro e w' ⟨rfl, rfl⟩))
  go_ret2
  exact ⟨ret_ie Wd.mk_empty.2.symm Wd.mk_empty.1.symm, (hbw.alloc (by omega) _).alloc (by simp; omega) _⟩
theorem make_empty_not (v : Int) (w : World) (h : (v != 0) = true) :
    Calls Tryd.prog 64 #[.agg #[.int .i64 4, .bool false, .int .i64 v]] w fun e w' => e = .returned (.tuple #[.int .u64 (Wd.mkW 4 false v), .int .i64 (Wd.mkE 4 false v)]) ∧ Below w.heap.size w w' := by
  go_enter Tryd.func64, Tryd.ntmps64
  go_wp2_with (go_at_call 78; refine (kinds_any _).mono ?_)
  rintro e w1 ⟨rfl, hb1⟩
  have c0 : w1.cell? ⟨w.heap.size, 0, none⟩ = some (.int .i64 4) := cell_new hb1 0 _ rfl
  have c1 : w1.cell? ⟨w.heap.size, 1, none⟩ = some (.bool false) := cell_new hb1 1 _ rfl
  have c2 : w1.cell? ⟨w.heap.size, 2, none⟩ = some (.int .i64 v) := cell_new hb1 2 _ rfl
  have hz : w.heap.size < w1.heap.size := by have := hb1.size; simp at this; omega
  have hbw : Below w.heap.size w w1 := ((Below.refl _ _).alloc (Nat.le_refl _) _).trans (hb1.mono (by simp))
  clear hb1
  have k0 : kindsArr[16]? = some (.bool false) := rfl
  have k1 : kindsArr[17]? = some (.func (.func 92) #[] #[]) := rfl
  have k2 : kindsArr[18]? = some (.func (.func 103) #[] #[]) := rfl
  have k3 : kindsArr[19]? = some (.func (.func 104) #[] #[]) := rfl
  go_wp2_with (first | (refine wpList_store_row rfl 139 _ _ rfl w1.heap.size kindsArr rfl rfl 139 _ (heap_alloc_last w1 _) kindsArr_size rfl kindsArr_one ?_; rw [World.setRow_alloc_new]) | (go_at_call 103; refine (layEmpty_not _ _ h).mono ?_; rintro e w' ⟨rfl, rfl⟩))
  go_ret2
  exact ⟨ret_ie (Wd.mk_arg 4 false v (by simp at h; simp; omega)).2.symm (Wd.mk_arg 4 false v (by simp at h; simp; omega)).1.symm, (hbw.alloc (by omega) _).alloc (by simp; omega) _⟩
theorem make_empty_s (v : Int) (w : World) :
    Calls Tryd.prog 64 #[.agg #[.int .i64 4, .bool true, .int .i64 v]] w fun e w' => e = .returned (.tuple #[.int .u64 (Wd.mkW 4 true v), .int .i64 (Wd.mkE 4 true v)]) ∧ Below w.heap.size w w' := by
  go_enter Tryd.func64, Tryd.ntmps64
  go_wp2_with (go_at_call 78; refine (kinds_any _).mono ?_)
  rintro e w1 ⟨rfl, hb1⟩
  have c0 : w1.cell? ⟨w.heap.size, 0, none⟩ = some (.int .i64 4) := cell_new hb1 0 _ rfl
  have c1 : w1.cell? ⟨w.heap.size, 1, none⟩ = some (.bool true) := cell_new hb1 1 _ rfl
  have c2 : w1.cell? ⟨w.heap.size, 2, none⟩ = some (.int .i64 v) := cell_new hb1 2 _ rfl
  have hz : w.heap.size < w1.heap.size := by have := hb1.size; simp at this; omega
  have hbw : Below w.heap.size w w1 := ((Below.refl _ _).alloc (Nat.le_refl _) _).trans (hb1.mono (by simp))
  clear hb1
  have k0 : kindsArr[16]? = some (.bool false) := rfl
  have k1 : kindsArr[17]? = some (.func (.func 92) #[] #[]) := rfl
  have k2 : kindsArr[18]? = some (.func (.func 103) #[] #[]) := rfl
  have k3 : kindsArr[19]? = some (.func (.func 104) #[] #[]) := rfl
  go_wp2_with (first | (refine wpList_store_row rfl 139 _ _ rfl w1.heap.size kindsArr rfl rfl 139 _ (heap_alloc_last w1 _) kindsArr_size rfl kindsArr_one ?_; rw [World.setRow_alloc_new]))
  go_ret2
  exact ⟨ret_ie (Wd.mk_arg 4 true v (by simp)).2.symm (Wd.mk_arg 4 true v (by simp)).1.symm, (hbw.alloc (by omega) _).alloc (by simp; omega) _⟩
theorem make_null (w : World) :
    Calls Tryd.prog 64 #[.agg #[.int .i64 1, .bool false, .int .i64 0]] w fun e w' => e = .returned (.tuple #[.int .u64 (Wd.mkW 1 false 0), .int .i64 (Wd.mkE 1 false 0)]) ∧ Below w.heap.size w w' := by
  go_enter Tryd.func64, Tryd.ntmps64
  go_wp2_with (go_at_call 78; refine (kinds_any _).mono ?_)
  rintro e w1 ⟨rfl, hb1⟩
  have c0 : w1.cell? ⟨w.heap.size, 0, none⟩ = some (.int .i64 1) := cell_new hb1 0 _ rfl
  have c1 : w1.cell? ⟨w.heap.size, 1, none⟩ = some (.bool false) := cell_new hb1 1 _ rfl
  have c2 : w1.cell? ⟨w.heap.size, 2, none⟩ = some (.int .i64 0) := cell_new hb1 2 _ rfl
  have hz : w.heap.size < w1.heap.size := by have := hb1.size; simp at this; omega
  have hbw : Below w.heap.size w w1 := ((Below.refl _ _).alloc (Nat.le_refl _) _).trans (hb1.mono (by simp))
  clear hb1
  have k0 : kindsArr[4]? = some (.bool true) := rfl
  have k1 : kindsArr[5]? = some (.func (.func 92) #[] #[]) := rfl
  have k2 : kindsArr[6]? = some (.func (.func 95) #[] #[]) := rfl
  have k3 : kindsArr[7]? = some (.func (.func 96) #[] #[]) := rfl
  go_wp2_with (first | (refine wpList_store_row rfl 139 _ _ rfl w1.heap.size kindsArr rfl rfl 139 _ (heap_alloc_last w1 _) kindsArr_size rfl kindsArr_one ?_; rw [World.setRow_alloc_new]) | (go_at_call 95; refine (layNull_zero _).mono ?_; rintro e w' ⟨rfl, rfl⟩))
  go_ret2
  exact ⟨ret_ie (Wd.mk_null false).2.symm (Wd.mk_null false).1.symm, (hbw.alloc (by omega) _).alloc (by simp; omega) _⟩
theorem make_null_not (v : Int) (w : World) (h : (v != 0) = true) :
    Calls Tryd.prog 64 #[.agg #[.int .i64 1, .bool false, .int .i64 v]] w fun e w' => e = .returned (.tuple #[.int .u64 (Wd.mkW 1 false v), .int .i64 (Wd.mkE 1 false v)]) ∧ Below w.heap.size w w' := by
  go_enter Tryd.func64, Tryd.ntmps64
  go_wp2_with (go_at_call 78; refine (kinds_any _).mono ?_)
  rintro e w1 ⟨rfl, hb1⟩
  have c0 : w1.cell? ⟨w.heap.size, 0, none⟩ = some (.int .i64 1) := cell_new hb1 0 _ rfl
  have c1 : w1.cell? ⟨w.heap.size, 1, none⟩ = some (.bool false) := cell_new hb1 1 _ rfl
  have c2 : w1.cell? ⟨w.heap.size, 2, none⟩ = some (.int .i64 v) := cell_new hb1 2 _ rfl
  have hz : w.heap.size < w1.heap.size := by have := hb1.size; simp at this; omega
  have hbw : Below w.heap.size w w1 := ((Below.refl _ _).alloc (Nat.le_refl _) _).trans (hb1.mono (by simp))
  clear hb1
  have k0 : kindsArr[4]? = some (.bool true) := rfl
  have k1 : kindsArr[5]? = some (.func (.func 92) #[] #[]) := rfl
  have k2 : kindsArr[6]? = some (.func (.func 95) #[] #[]) := rfl
  have k3 : kindsArr[7]? = some (.func (.func 96) #[] #[]) := rfl
  go_wp2_with (first | (refine wpList_store_row rfl 139 _ _ rfl w1.heap.size kindsArr rfl rfl 139 _ (heap_alloc_last w1 _) kindsArr_size rfl kindsArr_one ?_; rw [World.setRow_alloc_new]) | (go_at_call 95; refine (layNull_not _ _ h).mono ?_; rintro e w' ⟨rfl, rfl⟩))
  go_ret2
  exact ⟨ret_ie (Wd.mk_arg 1 false v (by simp at h; simp; omega)).2.symm (Wd.mk_arg 1 false v (by simp at h; simp; omega)).1.symm, (hbw.alloc (by omega) _).alloc (by simp; omega) _⟩
theorem make_ptr (v : Int) (w : World) (h0 : 1 ≤ v) (h1 : v ≤ 16777215) :
    Calls Tryd.prog 64 #[.agg #[.int .i64 2, .bool false, .int .i64 v]] w fun e w' => e = .returned (.tuple #[.int .u64 (Wd.mkW 2 false v), .int .i64 (Wd.mkE 2 false v)]) ∧ Below w.heap.size w w' := by
  go_enter Tryd.func64, Tryd.ntmps64
  go_wp2_with (go_at_call 78; refine (kinds_any _).mono ?_)
  rintro e w1 ⟨rfl, hb1⟩
  have c0 : w1.cell? ⟨w.heap.size, 0, none⟩ = some (.int .i64 2) := cell_new hb1 0 _ rfl
  have c1 : w1.cell? ⟨w.heap.size, 1, none⟩ = some (.bool false) := cell_new hb1 1 _ rfl
  have c2 : w1.cell? ⟨w.heap.size, 2, none⟩ = some (.int .i64 v) := cell_new hb1 2 _ rfl
  have hz : w.heap.size < w1.heap.size := by have := hb1.size; simp at this; omega
  have hbw : Below w.heap.size w w1 := ((Below.refl _ _).alloc (Nat.le_refl _) _).trans (hb1.mono (by simp))
  clear hb1
  have k0 : kindsArr[8]? = some (.bool true) := rfl
  have k1 : kindsArr[9]? = some (.func (.func 97) #[] #[]) := rfl
  have k2 : kindsArr[10]? = some (.func (.func 98) #[] #[]) := rfl
  have k3 : kindsArr[11]? = some (.func (.func 99) #[] #[]) := rfl
  go_wp2_with (first | (refine wpList_store_row rfl 139 _ _ rfl w1.heap.size kindsArr rfl rfl 139 _ (heap_alloc_last w1 _) kindsArr_size rfl kindsArr_one ?_; rw [World.setRow_alloc_new]) | (go_at_call 98; refine (layPointer_in v (v * 8) _ h0 h1 rfl).mono ?_; rintro e w' ⟨rfl, rfl⟩))
  go_ret2
  exact ⟨ret_ie (by have := (Wd.mk_ptr false v h0 h1).2; simp at this; omega) (Wd.mk_ptr false v h0 h1).1.symm, (hbw.alloc (by omega) _).alloc (by simp; omega) _⟩
theorem make_ptr_out (v : Int) (w : World) (h : v < 1 ∨ 16777215 < v) :
    Calls Tryd.prog 64 #[.agg #[.int .i64 2, .bool false, .int .i64 v]] w fun e w' => e = .returned (.tuple #[.int .u64 (Wd.mkW 2 false v), .int .i64 (Wd.mkE 2 false v)]) ∧ Below w.heap.size w w' := by
  have H := hid h; clear h
  go_enter Tryd.func64, Tryd.ntmps64
  go_wp2_with (go_at_call 78; refine (kinds_any _).mono ?_)
  rintro e w1 ⟨rfl, hb1⟩
  have c0 : w1.cell? ⟨w.heap.size, 0, none⟩ = some (.int .i64 2) := cell_new hb1 0 _ rfl
  have c1 : w1.cell? ⟨w.heap.size, 1, none⟩ = some (.bool false) := cell_new hb1 1 _ rfl
  have c2 : w1.cell? ⟨w.heap.size, 2, none⟩ = some (.int .i64 v) := cell_new hb1 2 _ rfl
  have hz : w.heap.size < w1.heap.size := by have := hb1.size; simp at this; omega
  have hbw : Below w.heap.size w w1 := ((Below.refl _ _).alloc (Nat.le_refl _) _).trans (hb1.mono (by simp))
  clear hb1
  have k0 : kindsArr[8]? = some (.bool true) := rfl
  have k1 : kindsArr[9]? = some (.func (.func 97) #[] #[]) := rfl
  have k2 : kindsArr[10]? = some (.func (.func 98) #[] #[]) := rfl
  have k3 : kindsArr[11]? = some (.func (.func 99) #[] #[]) := rfl
  go_wp2_with (first | (refine wpList_store_row rfl 139 _ _ rfl w1.heap.size kindsArr rfl rfl 139 _ (heap_alloc_last w1 _) kindsArr_size rfl kindsArr_one ?_; rw [World.setRow_alloc_new]) | (go_at_call 98; refine (layPointer_out v _ H.out).mono ?_; rintro e w' ⟨rfl, rfl⟩))
  go_ret2
  exact ⟨ret_ie (Wd.mk_range2 false v H.out).2.symm (Wd.mk_range2 false v H.out).1.symm, (hbw.alloc (by omega) _).alloc (by simp; omega) _⟩
theorem make_scalar (v : Int) (w : World) (h0 : -576460752303423488 ≤ v) (h1 : v ≤ 576460752303423487) :
    Calls Tryd.prog 64 #[.agg #[.int .i64 3, .bool false, .int .i64 v]] w fun e w' => e = .returned (.tuple #[.int .u64 (Wd.mkW 3 false v), .int .i64 (Wd.mkE 3 false v)]) ∧ Below w.heap.size w w' := by
  go_enter Tryd.func64, Tryd.ntmps64
  go_wp2_with (go_at_call 78; refine (kinds_any _).mono ?_)
  rintro e w1 ⟨rfl, hb1⟩
  have c0 : w1.cell? ⟨w.heap.size, 0, none⟩ = some (.int .i64 3) := cell_new hb1 0 _ rfl
  have c1 : w1.cell? ⟨w.heap.size, 1, none⟩ = some (.bool false) := cell_new hb1 1 _ rfl
  have c2 : w1.cell? ⟨w.heap.size, 2, none⟩ = some (.int .i64 v) := cell_new hb1 2 _ rfl
  have hz : w.heap.size < w1.heap.size := by have := hb1.size; simp at this; omega
  have hbw : Below w.heap.size w w1 := ((Below.refl _ _).alloc (Nat.le_refl _) _).trans (hb1.mono (by simp))
  clear hb1
  have k0 : kindsArr[12]? = some (.bool true) := rfl
  have k1 : kindsArr[13]? = some (.func (.func 100) #[] #[]) := rfl
  have k2 : kindsArr[14]? = some (.func (.func 101) #[] #[]) := rfl
  have k3 : kindsArr[15]? = some (.func (.func 102) #[] #[]) := rfl
  go_wp2_with (first | (refine wpList_store_row rfl 139 _ _ rfl w1.heap.size kindsArr rfl rfl 139 _ (heap_alloc_last w1 _) kindsArr_size rfl kindsArr_one ?_; rw [World.setRow_alloc_new]) | (go_at_call 101; refine (layScalar_in v (8 * v + 4611686018427387908) _ h0 h1 rfl).mono ?_; rintro e w' ⟨rfl, rfl⟩))
  go_ret2
  exact ⟨ret_ie (by have := (Wd.mk_scalar false v h0 h1).2; simp at this; omega) (Wd.mk_scalar false v h0 h1).1.symm, (hbw.alloc (by omega) _).alloc (by simp; omega) _⟩
theorem make_scalar_out (v : Int) (w : World) (h : v < -576460752303423488 ∨ 576460752303423487 < v) :
    Calls Tryd.prog 64 #[.agg #[.int .i64 3, .bool false, .int .i64 v]] w fun e w' => e = .returned (.tuple #[.int .u64 (Wd.mkW 3 false v), .int .i64 (Wd.mkE 3 false v)]) ∧ Below w.heap.size w w' := by
  have H := hid h; clear h
  go_enter Tryd.func64, Tryd.ntmps64
  go_wp2_with (go_at_call 78; refine (kinds_any _).mono ?_)
  rintro e w1 ⟨rfl, hb1⟩
  have c0 : w1.cell? ⟨w.heap.size, 0, none⟩ = some (.int .i64 3) := cell_new hb1 0 _ rfl
  have c1 : w1.cell? ⟨w.heap.size, 1, none⟩ = some (.bool false) := cell_new hb1 1 _ rfl
  have c2 : w1.cell? ⟨w.heap.size, 2, none⟩ = some (.int .i64 v) := cell_new hb1 2 _ rfl
  have hz : w.heap.size < w1.heap.size := by have := hb1.size; simp at this; omega
  have hbw : Below w.heap.size w w1 := ((Below.refl _ _).alloc (Nat.le_refl _) _).trans (hb1.mono (by simp))
  clear hb1
  have k0 : kindsArr[12]? = some (.bool true) := rfl
  have k1 : kindsArr[13]? = some (.func (.func 100) #[] #[]) := rfl
  have k2 : kindsArr[14]? = some (.func (.func 101) #[] #[]) := rfl
  have k3 : kindsArr[15]? = some (.func (.func 102) #[] #[]) := rfl
  go_wp2_with (first | (refine wpList_store_row rfl 139 _ _ rfl w1.heap.size kindsArr rfl rfl 139 _ (heap_alloc_last w1 _) kindsArr_size rfl kindsArr_one ?_; rw [World.setRow_alloc_new]) | (go_at_call 101; refine (layScalar_out v _ H.out).mono ?_; rintro e w' ⟨rfl, rfl⟩))
  go_ret2
  exact ⟨ret_ie (Wd.mk_range3 false v H.out).2.symm (Wd.mk_range3 false v H.out).1.symm, (hbw.alloc (by omega) _).alloc (by simp; omega) _⟩
theorem make_null_s (w : World) :
    Calls Tryd.prog 64 #[.agg #[.int .i64 1, .bool true, .int .i64 0]] w fun e w' => e = .returned (.tuple #[.int .u64 (Wd.mkW 1 true 0), .int .i64 (Wd.mkE 1 true 0)]) ∧ Below w.heap.size w w' := by
  go_enter Tryd.func64, Tryd.ntmps64
  go_wp2_with (go_at_call 78; refine (kinds_any _).mono ?_)
  rintro e w1 ⟨rfl, hb1⟩
  have c0 : w1.cell? ⟨w.heap.size, 0, none⟩ = some (.int .i64 1) := cell_new hb1 0 _ rfl
  have c1 : w1.cell? ⟨w.heap.size, 1, none⟩ = some (.bool true) := cell_new hb1 1 _ rfl
  have c2 : w1.cell? ⟨w.heap.size, 2, none⟩ = some (.int .i64 0) := cell_new hb1 2 _ rfl
  have hz : w.heap.size < w1.heap.size := by have := hb1.size; simp at this; omega
  have hbw : Below w.heap.size w w1 := ((Below.refl _ _).alloc (Nat.le_refl _) _).trans (hb1.mono (by simp))
  clear hb1
  have k0 : kindsArr[4]? = some (.bool true) := rfl
  have k1 : kindsArr[5]? = some (.func (.func 92) #[] #[]) := rfl
  have k2 : kindsArr[6]? = some (.func (.func 95) #[] #[]) := rfl
  have k3 : kindsArr[7]? = some (.func (.func 96) #[] #[]) := rfl
  go_wp2_with (first | (refine wpList_store_row rfl 139 _ _ rfl w1.heap.size kindsArr rfl rfl 139 _ (heap_alloc_last w1 _) kindsArr_size rfl kindsArr_one ?_; rw [World.setRow_alloc_new]) | (go_at_call 95; refine (layNull_zero _).mono ?_; rintro e w' ⟨rfl, rfl⟩) | (go_at_call 79; refine (seal_at 0 1 _ (by omega) (by omega) (by omega)).mono ?_; rintro e w' ⟨rfl, rfl⟩))
  go_ret2
  exact ⟨ret_ie (Wd.mk_null true).2.symm (Wd.mk_null true).1.symm, (hbw.alloc (by omega) _).alloc (by simp; omega) _⟩
theorem make_null_not_s (v : Int) (w : World) (h : (v != 0) = true) :
    Calls Tryd.prog 64 #[.agg #[.int .i64 1, .bool true, .int .i64 v]] w fun e w' => e = .returned (.tuple #[.int .u64 (Wd.mkW 1 true v), .int .i64 (Wd.mkE 1 true v)]) ∧ Below w.heap.size w w' := by
  go_enter Tryd.func64, Tryd.ntmps64
  go_wp2_with (go_at_call 78; refine (kinds_any _).mono ?_)
  rintro e w1 ⟨rfl, hb1⟩
  have c0 : w1.cell? ⟨w.heap.size, 0, none⟩ = some (.int .i64 1) := cell_new hb1 0 _ rfl
  have c1 : w1.cell? ⟨w.heap.size, 1, none⟩ = some (.bool true) := cell_new hb1 1 _ rfl
  have c2 : w1.cell? ⟨w.heap.size, 2, none⟩ = some (.int .i64 v) := cell_new hb1 2 _ rfl
  have hz : w.heap.size < w1.heap.size := by have := hb1.size; simp at this; omega
  have hbw : Below w.heap.size w w1 := ((Below.refl _ _).alloc (Nat.le_refl _) _).trans (hb1.mono (by simp))
  clear hb1
  have k0 : kindsArr[4]? = some (.bool true) := rfl
  have k1 : kindsArr[5]? = some (.func (.func 92) #[] #[]) := rfl
  have k2 : kindsArr[6]? = some (.func (.func 95) #[] #[]) := rfl
  have k3 : kindsArr[7]? = some (.func (.func 96) #[] #[]) := rfl
  go_wp2_with (first | (refine wpList_store_row rfl 139 _ _ rfl w1.heap.size kindsArr rfl rfl 139 _ (heap_alloc_last w1 _) kindsArr_size rfl kindsArr_one ?_; rw [World.setRow_alloc_new]) | (go_at_call 95; refine (layNull_not _ _ h).mono ?_; rintro e w' ⟨rfl, rfl⟩))
  go_ret2
  exact ⟨ret_ie (Wd.mk_arg 1 true v (by simp at h; simp; omega)).2.symm (Wd.mk_arg 1 true v (by simp at h; simp; omega)).1.symm, (hbw.alloc (by omega) _).alloc (by simp; omega) _⟩
theorem make_ptr_s (v : Int) (w : World) (h0 : 1 ≤ v) (h1 : v ≤ 16777215) :
    Calls Tryd.prog 64 #[.agg #[.int .i64 2, .bool true, .int .i64 v]] w fun e w' => e = .returned (.tuple #[.int .u64 (Wd.mkW 2 true v), .int .i64 (Wd.mkE 2 true v)]) ∧ Below w.heap.size w w' := by
  go_enter Tryd.func64, Tryd.ntmps64
  go_wp2_with (go_at_call 78; refine (kinds_any _).mono ?_)
  rintro e w1 ⟨rfl, hb1⟩
  have c0 : w1.cell? ⟨w.heap.size, 0, none⟩ = some (.int .i64 2) := cell_new hb1 0 _ rfl
  have c1 : w1.cell? ⟨w.heap.size, 1, none⟩ = some (.bool true) := cell_new hb1 1 _ rfl
  have c2 : w1.cell? ⟨w.heap.size, 2, none⟩ = some (.int .i64 v) := cell_new hb1 2 _ rfl
  have hz : w.heap.size < w1.heap.size := by have := hb1.size; simp at this; omega
  have hbw : Below w.heap.size w w1 := ((Below.refl _ _).alloc (Nat.le_refl _) _).trans (hb1.mono (by simp))
  clear hb1
  have k0 : kindsArr[8]? = some (.bool true) := rfl
  have k1 : kindsArr[9]? = some (.func (.func 97) #[] #[]) := rfl
  have k2 : kindsArr[10]? = some (.func (.func 98) #[] #[]) := rfl
  have k3 : kindsArr[11]? = some (.func (.func 99) #[] #[]) := rfl
  go_wp2_with (first | (refine wpList_store_row rfl 139 _ _ rfl w1.heap.size kindsArr rfl rfl 139 _ (heap_alloc_last w1 _) kindsArr_size rfl kindsArr_one ?_; rw [World.setRow_alloc_new]) | (go_at_call 98; refine (layPointer_in v (v * 8) _ h0 h1 rfl).mono ?_; rintro e w' ⟨rfl, rfl⟩) | (go_at_call 79; refine (seal_at (v * 8) (v * 8 + 1) _ (by omega) (by omega) (by omega)).mono ?_; rintro e w' ⟨rfl, rfl⟩))
  go_ret2
  exact ⟨ret_ie (by have := (Wd.mk_ptr true v h0 h1).2; simp at this; omega) (Wd.mk_ptr true v h0 h1).1.symm, (hbw.alloc (by omega) _).alloc (by simp; omega) _⟩
theorem make_ptr_out_s (v : Int) (w : World) (h : v < 1 ∨ 16777215 < v) :
    Calls Tryd.prog 64 #[.agg #[.int .i64 2, .bool true, .int .i64 v]] w fun e w' => e = .returned (.tuple #[.int .u64 (Wd.mkW 2 true v), .int .i64 (Wd.mkE 2 true v)]) ∧ Below w.heap.size w w' := by
  have H := hid h; clear h
  go_enter Tryd.func64, Tryd.ntmps64
  go_wp2_with (go_at_call 78; refine (kinds_any _).mono ?_)
  rintro e w1 ⟨rfl, hb1⟩
  have c0 : w1.cell? ⟨w.heap.size, 0, none⟩ = some (.int .i64 2) := cell_new hb1 0 _ rfl
  have c1 : w1.cell? ⟨w.heap.size, 1, none⟩ = some (.bool true) := cell_new hb1 1 _ rfl
  have c2 : w1.cell? ⟨w.heap.size, 2, none⟩ = some (.int .i64 v) := cell_new hb1 2 _ rfl
  have hz : w.heap.size < w1.heap.size := by have := hb1.size; simp at this; omega
  have hbw : Below w.heap.size w w1 := ((Below.refl _ _).alloc (Nat.le_refl _) _).trans (hb1.mono (by simp))
  clear hb1
  have k0 : kindsArr[8]? = some (.bool true) := rfl
  have k1 : kindsArr[9]? = some (.func (.func 97) #[] #[]) := rfl
  have k2 : kindsArr[10]? = some (.func (.func 98) #[] #[]) := rfl
  have k3 : kindsArr[11]? = some (.func (.func 99) #[] #[]) := rfl
  go_wp2_with (first | (refine wpList_store_row rfl 139 _ _ rfl w1.heap.size kindsArr rfl rfl 139 _ (heap_alloc_last w1 _) kindsArr_size rfl kindsArr_one ?_; rw [World.setRow_alloc_new]) | (go_at_call 98; refine (layPointer_out v _ H.out).mono ?_; rintro e w' ⟨rfl, rfl⟩))
  go_ret2
  exact ⟨ret_ie (Wd.mk_range2 true v H.out).2.symm (Wd.mk_range2 true v H.out).1.symm, (hbw.alloc (by omega) _).alloc (by simp; omega) _⟩
theorem make_scalar_s (v : Int) (w : World) (h0 : -576460752303423488 ≤ v) (h1 : v ≤ 576460752303423487) :
    Calls Tryd.prog 64 #[.agg #[.int .i64 3, .bool true, .int .i64 v]] w fun e w' => e = .returned (.tuple #[.int .u64 (Wd.mkW 3 true v), .int .i64 (Wd.mkE 3 true v)]) ∧ Below w.heap.size w w' := by
  go_enter Tryd.func64, Tryd.ntmps64
  go_wp2_with (go_at_call 78; refine (kinds_any _).mono ?_)
  rintro e w1 ⟨rfl, hb1⟩
  have c0 : w1.cell? ⟨w.heap.size, 0, none⟩ = some (.int .i64 3) := cell_new hb1 0 _ rfl
  have c1 : w1.cell? ⟨w.heap.size, 1, none⟩ = some (.bool true) := cell_new hb1 1 _ rfl
  have c2 : w1.cell? ⟨w.heap.size, 2, none⟩ = some (.int .i64 v) := cell_new hb1 2 _ rfl
  have hz : w.heap.size < w1.heap.size := by have := hb1.size; simp at this; omega
  have hbw : Below w.heap.size w w1 := ((Below.refl _ _).alloc (Nat.le_refl _) _).trans (hb1.mono (by simp))
  clear hb1
  have k0 : kindsArr[12]? = some (.bool true) := rfl
  have k1 : kindsArr[13]? = some (.func (.func 100) #[] #[]) := rfl
  have k2 : kindsArr[14]? = some (.func (.func 101) #[] #[]) := rfl
  have k3 : kindsArr[15]? = some (.func (.func 102) #[] #[]) := rfl
  go_wp2_with (first | (refine wpList_store_row rfl 139 _ _ rfl w1.heap.size kindsArr rfl rfl 139 _ (heap_alloc_last w1 _) kindsArr_size rfl kindsArr_one ?_; rw [World.setRow_alloc_new]) | (go_at_call 101; refine (layScalar_in v (8 * v + 4611686018427387908) _ h0 h1 rfl).mono ?_; rintro e w' ⟨rfl, rfl⟩) | (go_at_call 79; refine (seal_at (8 * v + 4611686018427387908) (8 * v + 4611686018427387908 + 1) _ (by omega) (by omega) (by omega)).mono ?_; rintro e w' ⟨rfl, rfl⟩))
  go_ret2
  exact ⟨ret_ie (by have := (Wd.mk_scalar true v h0 h1).2; simp at this; omega) (Wd.mk_scalar true v h0 h1).1.symm, (hbw.alloc (by omega) _).alloc (by simp; omega) _⟩
theorem make_scalar_out_s (v : Int) (w : World) (h : v < -576460752303423488 ∨ 576460752303423487 < v) :
    Calls Tryd.prog 64 #[.agg #[.int .i64 3, .bool true, .int .i64 v]] w fun e w' => e = .returned (.tuple #[.int .u64 (Wd.mkW 3 true v), .int .i64 (Wd.mkE 3 true v)]) ∧ Below w.heap.size w w' := by
  have H := hid h; clear h
  go_enter Tryd.func64, Tryd.ntmps64
  go_wp2_with (go_at_call 78; refine (kinds_any _).mono ?_)
  rintro e w1 ⟨rfl, hb1⟩
  have c0 : w1.cell? ⟨w.heap.size, 0, none⟩ = some (.int .i64 3) := cell_new hb1 0 _ rfl
  have c1 : w1.cell? ⟨w.heap.size, 1, none⟩ = some (.bool true) := cell_new hb1 1 _ rfl
  have c2 : w1.cell? ⟨w.heap.size, 2, none⟩ = some (.int .i64 v) := cell_new hb1 2 _ rfl
  have hz : w.heap.size < w1.heap.size := by have := hb1.size; simp at this; omega
  have hbw : Below w.heap.size w w1 := ((Below.refl _ _).alloc (Nat.le_refl _) _).trans (hb1.mono (by simp))
  clear hb1
  have k0 : kindsArr[12]? = some (.bool true) := rfl
  have k1 : kindsArr[13]? = some (.func (.func 100) #[] #[]) := rfl
  have k2 : kindsArr[14]? = some (.func (.func 101) #[] #[]) := rfl
  have k3 : kindsArr[15]? = some (.func (.func 102) #[] #[]) := rfl
  go_wp2_with (first | (refine wpList_store_row rfl 139 _ _ rfl w1.heap.size kindsArr rfl rfl 139 _ (heap_alloc_last w1 _) kindsArr_size rfl kindsArr_one ?_; rw [World.setRow_alloc_new]) | (go_at_call 101; refine (layScalar_out v _ H.out).mono ?_; rintro e w' ⟨rfl, rfl⟩))
  go_ret2
  exact ⟨ret_ie (Wd.mk_range3 true v H.out).2.symm (Wd.mk_range3 true v H.out).1.symm, (hbw.alloc (by omega) _).alloc (by simp; omega) _⟩
/-- Make, whatever it is told. -/
theorem make_any (k : Int) (s : Bool) (v : Int) (w : World) :
    Calls Tryd.prog 64 #[.agg #[.int .i64 k, .bool s, .int .i64 v]] w fun e w' => e = .returned (.tuple #[.int .u64 (Wd.mkW k s v), .int .i64 (Wd.mkE k s v)]) ∧ Below w.heap.size w w' := by
  by_cases h1 : k < 0
  · exact make_low k s v w h1
  by_cases h2 : 5 ≤ k
  · exact make_high k s v w h2
  have hcs : k = 0 ∨ k = 1 ∨ k = 2 ∨ k = 3 ∨ k = 4 := by omega
  rcases hcs with rfl | rfl | rfl | rfl | rfl
  · cases s
    · exact make_bad v w
    · exact make_bad_s v w
  · by_cases hv : v = 0
    · subst hv
      cases s
      · exact make_null w
      · exact make_null_s w
    · cases s
      · exact make_null_not v w (by simpa using hv)
      · exact make_null_not_s v w (by simpa using hv)
  · by_cases hv : 1 ≤ v ∧ v ≤ 16777215
    · cases s
      · exact make_ptr v w hv.1 hv.2
      · exact make_ptr_s v w hv.1 hv.2
    · cases s
      · exact make_ptr_out v w (by omega)
      · exact make_ptr_out_s v w (by omega)
  · by_cases hv : -576460752303423488 ≤ v ∧ v ≤ 576460752303423487
    · cases s
      · exact make_scalar v w hv.1 hv.2
      · exact make_scalar_s v w hv.1 hv.2
    · cases s
      · exact make_scalar_out v w (by omega)
      · exact make_scalar_out_s v w (by omega)
  · cases s
    · by_cases hv : v = 0
      · subst hv
        exact make_empty w
      · exact make_empty_not v w (by simpa using hv)
    · exact make_empty_s v w
theorem ret_word {a a' c c' : Int} {b b' : Bool} (h : a = a') (h2 : b = b') (h3 : c = c') : Ending.returned (.agg #[.int .i64 a, .bool b, .int .i64 c]) = .returned (.agg #[.int .i64 a', .bool b', .int .i64 c']) := by rw [h, h2, h3]
end Go.Proofs.YtjfegimgpkeleaaDoor
