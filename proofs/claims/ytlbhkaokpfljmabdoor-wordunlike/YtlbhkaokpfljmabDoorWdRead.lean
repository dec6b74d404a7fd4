/- Package word's Read. -/
import Derived.Test.YtlbhkaokpfljmabDoorWdDigits
import Derived.Test.YtlbhkaokpfljmabDoorShelf
import Derived.WalkMore
import Derived.ScopeJumps
namespace Go.Proofs.YtlbhkaokpfljmabDoor
open Go.RowKit
theorem mkBytes (l : List UInt8) : (⟨l.toArray⟩ : ByteArray).toList = l := by rw [Wd.toL]
theorem cut_spec (s : ByteArray) (hs : s.size ≤ maxLen) : ∃ (B : ByteArray) (sl : Bool), (⟨(Lib.trimPrefix s.data.toList [33]).toArray⟩ : ByteArray) = B ∧ Lib.hasPrefix s.data.toList [33] = sl ∧ B.size ≤ maxLen ∧ Wd.rd s.data.toList = Wd.rdB sl B.toList := by
  refine ⟨_, _, rfl, rfl, ?_, ?_⟩
  · have h1 : (⟨(Lib.trimPrefix s.data.toList [33]).toArray⟩ : ByteArray).size ≤ s.size := by
      show (Lib.trimPrefix s.data.toList [33]).toArray.size ≤ s.data.size
      unfold Lib.trimPrefix
      split <;> simp
    omega
  · rw [mkBytes]
    unfold Wd.rd Lib.trimPrefix Lib.hasPrefix
    cases h : s.data.toList with
    | nil => rfl
    | cons c l =>
      by_cases hc : c = 33
      · subst hc; simp
      · have h2 : ¬ (33 : UInt8) = c := fun e => hc e.symm
        have h3 : (33 == c) = false := by simpa using h2
        simp [hc, List.isPrefixOf, h3]
/-- A scope out of which the run jumps to one label, once. -/
theorem wp_scope_once {P : Program} {Q : Exit → Act → World → Prop} {a : Act} {w : World} {c rest : Code} (l : Nat) (hf : findLabel c l = some rest)
    (first : c.wp P (Exit.jump l (fun a w => rest.wp P (Exit.noGoto Q) a w) Q) a w) : (Code.scope c).wp P Q a w :=
  wp_scope_jumps l (fun a w => rest.wp P (Exit.noGoto Q) a w) (fun _ _ => 0) hf first (fun a w hJ => Code.wp_mono (fun e a' w' h => by
    cases e <;> first | exact h | exact (h : False).elim) hJ)
theorem cut_at (s p B : ByteArray) (sl : Bool) (w : World) (h1 : (⟨(Lib.trimPrefix s.data.toList p.data.toList).toArray⟩ : ByteArray) = B) (h2 : Lib.hasPrefix s.data.toList p.data.toList = sl) :
    Calls Tryd.prog 17 #[.string s, .string p] w fun e w' => e = .returned (.tuple #[.string B, .bool sl]) ∧ w = w' := by
  subst h1 h2; exact (Tryd.strings_CutPrefix s p w).mono (fun _ _ h => ⟨h.1, h.2.symm⟩)
theorem has_at (s p : ByteArray) (sl : Bool) (w : World) (h2 : Lib.hasPrefix s.data.toList p.data.toList = sl) :
    Calls Tryd.prog 18 #[.string s, .string p] w fun e w' => e = .returned (.bool sl) ∧ w = w' := by
  subst h2; exact (Tryd.strings_HasPrefix s p w).mono (fun _ _ h => ⟨h.1, h.2.symm⟩)
theorem digits_at (s : ByteArray) (v : Int) (b : Bool) (w : World) (hs : s.size ≤ maxLen) (h1 : Wd.dgV s.toList = v) (h2 : Wd.isNum s.toList = b) :
    Calls Tryd.prog 19 #[.string s] w fun e w' => e = .returned (.tuple #[.int .i64 v, .bool b]) ∧ Below w.heap.size w w' := by
  subst h1 h2; exact digits_any s w hs
theorem ret_iep {p : Int × Int} {a c : Int} (h : p = (a, c)) : Ending.returned (.tuple #[.int .u64 a, .int .i64 c]) = .returned (.tuple #[.int .u64 p.1, .int .i64 p.2]) := by rw [h]
theorem ext_tail (B : ByteArray) : (B.extract 1 B.size).toList = B.toList.tail := by
  rw [Wd.toL, Wd.toL, Lib.extract_data]
  simp
  exact List.take_of_length_le (by simp)
theorem ext_size (B : ByteArray) (h : B.size ≤ maxLen) : (B.extract 1 B.size).size ≤ maxLen := by simp; omega
theorem has_head (B : ByteArray) (c : UInt8) : Lib.hasPrefix B.data.toList [c] = decide (B.toList.head? = some c) := by
  rw [Wd.toL]
  unfold Lib.hasPrefix
  cases B.data.toList with
  | nil => rfl
  | cons a l =>
    by_cases h : a = c
    · subst h; simp [List.isPrefixOf]
    · have h2 : (c == a) = false := by simp; exact fun e => h e.symm
      simp [List.isPrefixOf, h, h2]
theorem head_size (B : ByteArray) (c : UInt8) (h : B.toList.head? = some c) : 1 ≤ B.size := by
  rw [← Wd.toL_length]
  cases hs : B.toList with
  | nil => rw [hs] at h; simp at h
  | cons a l => simp
set_option maxHeartbeats 2000000 in
theorem read_null (s B : ByteArray) (sl : Bool) (w : World) (HB : Hid ((⟨(Lib.trimPrefix s.data.toList [33]).toArray⟩ : ByteArray) = B)) (HS : Hid (Lib.hasPrefix s.data.toList [33] = sl)) (h1 : (B.toList == [110, 117, 108, 108]) = true) :
    Calls Tryd.prog 11 #[.string s] w fun e w' => e = .returned (.tuple #[.int .u64 (Wd.rdB sl B.toList).1, .int .i64 (Wd.rdB sl B.toList).2]) ∧ Below w.heap.size w w' := by
  have HR : Hid (Wd.rdB sl B.toList = (Wd.mkW 1 sl 0, Wd.mkE 1 sl 0)) := by unfold Wd.rdB; rw [if_pos h1]; rfl
  go_enter Tryd.func11, Tryd.ntmps11
  go_wp2
  go_step3
  go_wp2_with (first | (go_at_call 17; refine (cut_at s _ B sl _ HB.out HS.out).mono ?_; rintro e w' ⟨rfl, rfl⟩) | (go_at_call 16; refine (make_any 1 sl 0 _).mono ?_))
  rintro e w1 ⟨rfl, hb⟩
  go_wp2
  rw [Exit.noGoto_ret]
  go_ret2
  exact ⟨ret_iep HR.out, ((Below.refl _ _).alloc (Nat.le_refl _) _).trans (hb.mono (by simp))⟩
set_option maxHeartbeats 2000000 in
theorem read_empty (s B : ByteArray) (sl : Bool) (w : World) (HB : Hid ((⟨(Lib.trimPrefix s.data.toList [33]).toArray⟩ : ByteArray) = B)) (HS : Hid (Lib.hasPrefix s.data.toList [33] = sl)) (h1 : (B.toList == [110, 117, 108, 108]) = false) (h2 : (B.toList == [101, 109, 112, 116, 121]) = true) :
    Calls Tryd.prog 11 #[.string s] w fun e w' => e = .returned (.tuple #[.int .u64 (Wd.rdB sl B.toList).1, .int .i64 (Wd.rdB sl B.toList).2]) ∧ Below w.heap.size w w' := by
  have HR : Hid (Wd.rdB sl B.toList = (Wd.mkW 4 sl 0, Wd.mkE 4 sl 0)) := by unfold Wd.rdB; rw [if_neg (by rw [h1]; decide), if_pos h2]; rfl
  go_enter Tryd.func11, Tryd.ntmps11
  go_wp2
  go_step3
  go_wp2_with (first | (go_at_call 17; refine (cut_at s _ B sl _ HB.out HS.out).mono ?_; rintro e w' ⟨rfl, rfl⟩) | (go_at_call 16; refine (make_any 4 sl 0 _).mono ?_))
  rintro e w1 ⟨rfl, hb⟩
  go_wp2
  rw [Exit.noGoto_ret]
  go_ret2
  exact ⟨ret_iep HR.out, ((Below.refl _ _).alloc (Nat.le_refl _) _).trans (hb.mono (by simp))⟩
set_option maxHeartbeats 2000000 in
theorem read_at_yes (s B : ByteArray) (sl : Bool) (w : World) (HB : Hid ((⟨(Lib.trimPrefix s.data.toList [33]).toArray⟩ : ByteArray) = B)) (HS : Hid (Lib.hasPrefix s.data.toList [33] = sl)) (h1 : (B.toList == [110, 117, 108, 108]) = false) (h2 : (B.toList == [101, 109, 112, 116, 121]) = false) (hsz : 1 ≤ B.size) (Hsz : Hid ((B.extract 1 B.size).size ≤ maxLen)) (H3 : Hid (Lib.hasPrefix B.data.toList [64] = true)) (H3h : Hid (B.toList.head? = some 64)) (v : Int) (Hv : Hid (Wd.dgV (B.extract 1 B.size).toList = v)) (Hn : Hid (Wd.isNum (B.extract 1 B.size).toList = true)) :
    Calls Tryd.prog 11 #[.string s] w fun e w' => e = .returned (.tuple #[.int .u64 (Wd.rdB sl B.toList).1, .int .i64 (Wd.rdB sl B.toList).2]) ∧ Below w.heap.size w w' := by
  have HR : Hid (Wd.rdB sl B.toList = (Wd.mkW 2 sl v, Wd.mkE 2 sl v)) := by unfold Wd.rdB; rw [if_neg (by rw [h1]; decide), if_neg (by rw [h2]; decide), if_pos H3h.out, ← ext_tail, if_pos Hn.out, show Wd.dgV (B.extract 1 B.size).toList = v from Hv.out]; rfl
  go_enter Tryd.func11, Tryd.ntmps11
  go_wp2
  go_step3
  go_wp2_with (first | (go_at_call 17; refine (cut_at s _ B sl _ HB.out HS.out).mono ?_; rintro e w' ⟨rfl, rfl⟩) | (go_at_call 18; refine (has_at B ⟨#[64]⟩ true _ H3.out).mono ?_; rintro e w' ⟨rfl, rfl⟩) | (go_at_call 19; refine (digits_at (B.extract 1 B.size) v true _ Hsz.out Hv.out Hn.out).mono ?_))
  rintro e w1 ⟨rfl, hb1⟩
  have c0 : w1.cell? ⟨w.heap.size, 0, none⟩ = some (.int .i64 2) := cell_new hb1 0 _ rfl
  have c1 : w1.cell? ⟨w.heap.size, 1, none⟩ = some (.bool sl) := cell_new hb1 1 _ rfl
  have c2 : w1.cell? ⟨w.heap.size, 2, none⟩ = some (.int .i64 0) := cell_new hb1 2 _ rfl
  have f2 := frozen_new hb1 2
  have hz : w.heap.size < w1.heap.size := by have := hb1.size; simp at this; omega
  have hbw : Below w.heap.size w w1 := ((Below.refl _ _).alloc (Nat.le_refl _) _).trans (hb1.mono (by simp))
  clear hb1
  go_wp2_with (go_at_call 16; refine (make_any 2 sl v _).mono ?_)
  rintro e w2 ⟨rfl, hb2⟩
  go_wp2
  rw [Exit.noGoto_ret]
  go_ret2
  exact ⟨ret_iep HR.out, (hbw.setCell (Nat.le_refl _) _).trans (hb2.mono (by simp [World.setCell]; omega))⟩
set_option maxHeartbeats 2000000 in
theorem read_at_no (s B : ByteArray) (sl : Bool) (w : World) (HB : Hid ((⟨(Lib.trimPrefix s.data.toList [33]).toArray⟩ : ByteArray) = B)) (HS : Hid (Lib.hasPrefix s.data.toList [33] = sl)) (h1 : (B.toList == [110, 117, 108, 108]) = false) (h2 : (B.toList == [101, 109, 112, 116, 121]) = false) (hsz : 1 ≤ B.size) (Hsz : Hid ((B.extract 1 B.size).size ≤ maxLen)) (H3 : Hid (Lib.hasPrefix B.data.toList [64] = true)) (H3h : Hid (B.toList.head? = some 64)) (v : Int) (Hv : Hid (Wd.dgV (B.extract 1 B.size).toList = v)) (Hn : Hid (Wd.isNum (B.extract 1 B.size).toList = false)) :
    Calls Tryd.prog 11 #[.string s] w fun e w' => e = .returned (.tuple #[.int .u64 (Wd.rdB sl B.toList).1, .int .i64 (Wd.rdB sl B.toList).2]) ∧ Below w.heap.size w w' := by
  have HR : Hid (Wd.rdB sl B.toList = (0, 2)) := by unfold Wd.rdB; rw [if_neg (by rw [h1]; decide), if_neg (by rw [h2]; decide), if_pos H3h.out, ← ext_tail, if_neg (by rw [show Wd.isNum (B.extract 1 B.size).toList = false from Hn.out]; decide)]; rfl
  go_enter Tryd.func11, Tryd.ntmps11
  go_wp2
  refine wp_scope_once 0 rfl ?_
  go_wp2_with (first | (go_at_call 17; refine (cut_at s _ B sl _ HB.out HS.out).mono ?_; rintro e w' ⟨rfl, rfl⟩) | (go_at_call 18; refine (has_at B ⟨#[64]⟩ true _ H3.out).mono ?_; rintro e w' ⟨rfl, rfl⟩) | (go_at_call 19; refine (digits_at (B.extract 1 B.size) v false _ Hsz.out Hv.out Hn.out).mono ?_))
  rintro e w1 ⟨rfl, hb1⟩
  have c0 : w1.cell? ⟨w.heap.size, 0, none⟩ = some (.int .i64 2) := cell_new hb1 0 _ rfl
  have c1 : w1.cell? ⟨w.heap.size, 1, none⟩ = some (.bool sl) := cell_new hb1 1 _ rfl
  have c2 : w1.cell? ⟨w.heap.size, 2, none⟩ = some (.int .i64 0) := cell_new hb1 2 _ rfl
  have f2 := frozen_new hb1 2
  have hz : w.heap.size < w1.heap.size := by have := hb1.size; simp at this; omega
  have hbw : Below w.heap.size w w1 := ((Below.refl _ _).alloc (Nat.le_refl _) _).trans (hb1.mono (by simp))
  clear hb1
  go_wp2
  go_step3
  refine ⟨rfl, ?_⟩
  go_wp2
  rw [Exit.noGoto_ret]
  go_ret2
  exact ⟨ret_iep HR.out, hbw.setCell (Nat.le_refl _) _⟩
set_option maxHeartbeats 2000000 in
theorem read_minus_yes (s B : ByteArray) (sl : Bool) (w : World) (HB : Hid ((⟨(Lib.trimPrefix s.data.toList [33]).toArray⟩ : ByteArray) = B)) (HS : Hid (Lib.hasPrefix s.data.toList [33] = sl)) (h1 : (B.toList == [110, 117, 108, 108]) = false) (h2 : (B.toList == [101, 109, 112, 116, 121]) = false) (hsz : 1 ≤ B.size) (Hsz : Hid ((B.extract 1 B.size).size ≤ maxLen)) (H3 : Hid (Lib.hasPrefix B.data.toList [64] = false)) (H4 : Hid (Lib.hasPrefix B.data.toList [45] = true)) (H4h : Hid (B.toList.head? = some 45)) (v : Int) (Hv : Hid (Wd.dgV (B.extract 1 B.size).toList = v)) (Hn : Hid (Wd.isNum (B.extract 1 B.size).toList = true)) (hv0 : (v == 0) = false) (hv1 : 0 ≤ v) (hv2 : v ≤ 576460752303423489) :
    Calls Tryd.prog 11 #[.string s] w fun e w' => e = .returned (.tuple #[.int .u64 (Wd.rdB sl B.toList).1, .int .i64 (Wd.rdB sl B.toList).2]) ∧ Below w.heap.size w w' := by
  have HR : Hid (Wd.rdB sl B.toList = (Wd.mkW 3 sl (-v), Wd.mkE 3 sl (-v))) := by unfold Wd.rdB; rw [if_neg (by rw [h1]; decide), if_neg (by rw [h2]; decide), if_neg (by rw [show B.toList.head? = some 45 from H4h.out]; decide), if_pos H4h.out, ← ext_tail, show Wd.dgV (B.extract 1 B.size).toList = v from Hv.out, if_pos ⟨Hn.out, by simpa using hv0⟩]; rfl
  go_enter Tryd.func11, Tryd.ntmps11
  go_wp2
  go_step3
  go_wp2_with (first | (go_at_call 17; refine (cut_at s _ B sl _ HB.out HS.out).mono ?_; rintro e w' ⟨rfl, rfl⟩) | (go_at_call_of 18 (Value.string { data := #[64] }); refine (has_at B ⟨#[64]⟩ false _ H3.out).mono ?_; rintro e w' ⟨rfl, rfl⟩) | (go_at_call_of 18 (Value.string { data := #[45] }); refine (has_at B ⟨#[45]⟩ true _ H4.out).mono ?_; rintro e w' ⟨rfl, rfl⟩) | (go_at_call 19; refine (digits_at (B.extract 1 B.size) v true _ Hsz.out Hv.out Hn.out).mono ?_))
  rintro e w1 ⟨rfl, hb1⟩
  have c0 : w1.cell? ⟨w.heap.size, 0, none⟩ = some (.int .i64 3) := cell_new hb1 0 _ rfl
  have c1 : w1.cell? ⟨w.heap.size, 1, none⟩ = some (.bool sl) := cell_new hb1 1 _ rfl
  have c2 : w1.cell? ⟨w.heap.size, 2, none⟩ = some (.int .i64 0) := cell_new hb1 2 _ rfl
  have f2 := frozen_new hb1 2
  have hz : w.heap.size < w1.heap.size := by have := hb1.size; simp at this; omega
  have hbw : Below w.heap.size w w1 := ((Below.refl _ _).alloc (Nat.le_refl _) _).trans (hb1.mono (by simp))
  clear hb1
  go_wp2_with (go_at_call 16; refine (make_any 3 sl (-v) _).mono ?_)
  rintro e w2 ⟨rfl, hb2⟩
  go_wp2
  rw [Exit.noGoto_ret]
  go_ret2
  exact ⟨ret_iep HR.out, ((hbw.setCell (Nat.le_refl _) _).setCell (Nat.le_refl _) _).trans (hb2.mono (by simp [World.setCell]; omega))⟩
set_option maxHeartbeats 2000000 in
theorem read_minus_zero (s B : ByteArray) (sl : Bool) (w : World) (HB : Hid ((⟨(Lib.trimPrefix s.data.toList [33]).toArray⟩ : ByteArray) = B)) (HS : Hid (Lib.hasPrefix s.data.toList [33] = sl)) (h1 : (B.toList == [110, 117, 108, 108]) = false) (h2 : (B.toList == [101, 109, 112, 116, 121]) = false) (hsz : 1 ≤ B.size) (Hsz : Hid ((B.extract 1 B.size).size ≤ maxLen)) (H3 : Hid (Lib.hasPrefix B.data.toList [64] = false)) (H4 : Hid (Lib.hasPrefix B.data.toList [45] = true)) (H4h : Hid (B.toList.head? = some 45)) (v : Int) (Hv : Hid (Wd.dgV (B.extract 1 B.size).toList = v)) (Hn : Hid (Wd.isNum (B.extract 1 B.size).toList = true)) (hv0 : (v == 0) = true) :
    Calls Tryd.prog 11 #[.string s] w fun e w' => e = .returned (.tuple #[.int .u64 (Wd.rdB sl B.toList).1, .int .i64 (Wd.rdB sl B.toList).2]) ∧ Below w.heap.size w w' := by
  have HR : Hid (Wd.rdB sl B.toList = (0, 2)) := by unfold Wd.rdB; rw [if_neg (by rw [h1]; decide), if_neg (by rw [h2]; decide), if_neg (by rw [show B.toList.head? = some 45 from H4h.out]; decide), if_pos H4h.out, ← ext_tail, show Wd.dgV (B.extract 1 B.size).toList = v from Hv.out, if_neg (fun h => h.2 (by simpa using hv0))]; rfl
  go_enter Tryd.func11, Tryd.ntmps11
  go_wp2
  refine wp_scope_once 0 rfl ?_
  go_wp2_with (first | (go_at_call 17; refine (cut_at s _ B sl _ HB.out HS.out).mono ?_; rintro e w' ⟨rfl, rfl⟩) | (go_at_call_of 18 (Value.string { data := #[64] }); refine (has_at B ⟨#[64]⟩ false _ H3.out).mono ?_; rintro e w' ⟨rfl, rfl⟩) | (go_at_call_of 18 (Value.string { data := #[45] }); refine (has_at B ⟨#[45]⟩ true _ H4.out).mono ?_; rintro e w' ⟨rfl, rfl⟩) | (go_at_call 19; refine (digits_at (B.extract 1 B.size) v true _ Hsz.out Hv.out Hn.out).mono ?_))
  rintro e w1 ⟨rfl, hb1⟩
  have c0 : w1.cell? ⟨w.heap.size, 0, none⟩ = some (.int .i64 3) := cell_new hb1 0 _ rfl
  have c1 : w1.cell? ⟨w.heap.size, 1, none⟩ = some (.bool sl) := cell_new hb1 1 _ rfl
  have c2 : w1.cell? ⟨w.heap.size, 2, none⟩ = some (.int .i64 0) := cell_new hb1 2 _ rfl
  have f2 := frozen_new hb1 2
  have hz : w.heap.size < w1.heap.size := by have := hb1.size; simp at this; omega
  have hbw : Below w.heap.size w w1 := ((Below.refl _ _).alloc (Nat.le_refl _) _).trans (hb1.mono (by simp))
  clear hb1
  go_wp2
  go_step3
  refine ⟨rfl, ?_⟩
  go_wp2
  rw [Exit.noGoto_ret]
  go_ret2
  exact ⟨ret_iep HR.out, hbw.setCell (Nat.le_refl _) _⟩
set_option maxHeartbeats 2000000 in
theorem read_minus_no (s B : ByteArray) (sl : Bool) (w : World) (HB : Hid ((⟨(Lib.trimPrefix s.data.toList [33]).toArray⟩ : ByteArray) = B)) (HS : Hid (Lib.hasPrefix s.data.toList [33] = sl)) (h1 : (B.toList == [110, 117, 108, 108]) = false) (h2 : (B.toList == [101, 109, 112, 116, 121]) = false) (hsz : 1 ≤ B.size) (Hsz : Hid ((B.extract 1 B.size).size ≤ maxLen)) (H3 : Hid (Lib.hasPrefix B.data.toList [64] = false)) (H4 : Hid (Lib.hasPrefix B.data.toList [45] = true)) (H4h : Hid (B.toList.head? = some 45)) (v : Int) (Hv : Hid (Wd.dgV (B.extract 1 B.size).toList = v)) (Hn : Hid (Wd.isNum (B.extract 1 B.size).toList = false)) :
    Calls Tryd.prog 11 #[.string s] w fun e w' => e = .returned (.tuple #[.int .u64 (Wd.rdB sl B.toList).1, .int .i64 (Wd.rdB sl B.toList).2]) ∧ Below w.heap.size w w' := by
  have HR : Hid (Wd.rdB sl B.toList = (0, 2)) := by unfold Wd.rdB; rw [if_neg (by rw [h1]; decide), if_neg (by rw [h2]; decide), if_neg (by rw [show B.toList.head? = some 45 from H4h.out]; decide), if_pos H4h.out, ← ext_tail, if_neg (fun h => by have := h.1; rw [show Wd.isNum (B.extract 1 B.size).toList = false from Hn.out] at this; cases this)]; rfl
  go_enter Tryd.func11, Tryd.ntmps11
  go_wp2
  refine wp_scope_once 0 rfl ?_
  go_wp2_with (first | (go_at_call 17; refine (cut_at s _ B sl _ HB.out HS.out).mono ?_; rintro e w' ⟨rfl, rfl⟩) | (go_at_call_of 18 (Value.string { data := #[64] }); refine (has_at B ⟨#[64]⟩ false _ H3.out).mono ?_; rintro e w' ⟨rfl, rfl⟩) | (go_at_call_of 18 (Value.string { data := #[45] }); refine (has_at B ⟨#[45]⟩ true _ H4.out).mono ?_; rintro e w' ⟨rfl, rfl⟩) | (go_at_call 19; refine (digits_at (B.extract 1 B.size) v false _ Hsz.out Hv.out Hn.out).mono ?_))
  rintro e w1 ⟨rfl, hb1⟩
  have c0 : w1.cell? ⟨w.heap.size, 0, none⟩ = some (.int .i64 3) := cell_new hb1 0 _ rfl
  have c1 : w1.cell? ⟨w.heap.size, 1, none⟩ = some (.bool sl) := cell_new hb1 1 _ rfl
  have c2 : w1.cell? ⟨w.heap.size, 2, none⟩ = some (.int .i64 0) := cell_new hb1 2 _ rfl
  have f2 := frozen_new hb1 2
  have hz : w.heap.size < w1.heap.size := by have := hb1.size; simp at this; omega
  have hbw : Below w.heap.size w w1 := ((Below.refl _ _).alloc (Nat.le_refl _) _).trans (hb1.mono (by simp))
  clear hb1
  go_wp2
  go_step3
  refine ⟨rfl, ?_⟩
  go_wp2
  rw [Exit.noGoto_ret]
  go_ret2
  exact ⟨ret_iep HR.out, hbw.setCell (Nat.le_refl _) _⟩
set_option maxHeartbeats 2000000 in
theorem read_plain_yes (s B : ByteArray) (sl : Bool) (w : World) (HB : Hid ((⟨(Lib.trimPrefix s.data.toList [33]).toArray⟩ : ByteArray) = B)) (HS : Hid (Lib.hasPrefix s.data.toList [33] = sl)) (h1 : (B.toList == [110, 117, 108, 108]) = false) (h2 : (B.toList == [101, 109, 112, 116, 121]) = false) (Hsz : Hid (B.size ≤ maxLen)) (H3 : Hid (Lib.hasPrefix B.data.toList [64] = false)) (H4 : Hid (Lib.hasPrefix B.data.toList [45] = false)) (H3h : Hid (¬ B.toList.head? = some 64)) (H4h : Hid (¬ B.toList.head? = some 45)) (v : Int) (Hv : Hid (Wd.dgV B.toList = v)) (Hn : Hid (Wd.isNum B.toList = true)) :
    Calls Tryd.prog 11 #[.string s] w fun e w' => e = .returned (.tuple #[.int .u64 (Wd.rdB sl B.toList).1, .int .i64 (Wd.rdB sl B.toList).2]) ∧ Below w.heap.size w w' := by
  have HR : Hid (Wd.rdB sl B.toList = (Wd.mkW 3 sl v, Wd.mkE 3 sl v)) := by unfold Wd.rdB; rw [if_neg (by rw [h1]; decide), if_neg (by rw [h2]; decide), if_neg H3h.out, if_neg H4h.out, if_pos Hn.out, show Wd.dgV B.toList = v from Hv.out]; rfl
  go_enter Tryd.func11, Tryd.ntmps11
  go_wp2
  go_step3
  go_wp2_with (first | (go_at_call 17; refine (cut_at s _ B sl _ HB.out HS.out).mono ?_; rintro e w' ⟨rfl, rfl⟩) | (go_at_call_of 18 (Value.string { data := #[64] }); refine (has_at B ⟨#[64]⟩ false _ H3.out).mono ?_; rintro e w' ⟨rfl, rfl⟩) | (go_at_call_of 18 (Value.string { data := #[45] }); refine (has_at B ⟨#[45]⟩ false _ H4.out).mono ?_; rintro e w' ⟨rfl, rfl⟩) | (go_at_call 19; refine (digits_at B v true _ Hsz.out Hv.out Hn.out).mono ?_))
  rintro e w1 ⟨rfl, hb1⟩
  have c0 : w1.cell? ⟨w.heap.size, 0, none⟩ = some (.int .i64 3) := cell_new hb1 0 _ rfl
  have c1 : w1.cell? ⟨w.heap.size, 1, none⟩ = some (.bool sl) := cell_new hb1 1 _ rfl
  have c2 : w1.cell? ⟨w.heap.size, 2, none⟩ = some (.int .i64 0) := cell_new hb1 2 _ rfl
  have f2 := frozen_new hb1 2
  have hz : w.heap.size < w1.heap.size := by have := hb1.size; simp at this; omega
  have hbw : Below w.heap.size w w1 := ((Below.refl _ _).alloc (Nat.le_refl _) _).trans (hb1.mono (by simp))
  clear hb1
  go_wp2_with (go_at_call 16; refine (make_any 3 sl v _).mono ?_)
  rintro e w2 ⟨rfl, hb2⟩
  go_wp2
  rw [Exit.noGoto_ret]
  go_ret2
  exact ⟨ret_iep HR.out, (hbw.setCell (Nat.le_refl _) _).trans (hb2.mono (by simp [World.setCell]; omega))⟩
set_option maxHeartbeats 2000000 in
theorem read_plain_no (s B : ByteArray) (sl : Bool) (w : World) (HB : Hid ((⟨(Lib.trimPrefix s.data.toList [33]).toArray⟩ : ByteArray) = B)) (HS : Hid (Lib.hasPrefix s.data.toList [33] = sl)) (h1 : (B.toList == [110, 117, 108, 108]) = false) (h2 : (B.toList == [101, 109, 112, 116, 121]) = false) (Hsz : Hid (B.size ≤ maxLen)) (H3 : Hid (Lib.hasPrefix B.data.toList [64] = false)) (H4 : Hid (Lib.hasPrefix B.data.toList [45] = false)) (H3h : Hid (¬ B.toList.head? = some 64)) (H4h : Hid (¬ B.toList.head? = some 45)) (v : Int) (Hv : Hid (Wd.dgV B.toList = v)) (Hn : Hid (Wd.isNum B.toList = false)) :
    Calls Tryd.prog 11 #[.string s] w fun e w' => e = .returned (.tuple #[.int .u64 (Wd.rdB sl B.toList).1, .int .i64 (Wd.rdB sl B.toList).2]) ∧ Below w.heap.size w w' := by
  have HR : Hid (Wd.rdB sl B.toList = (0, 2)) := by unfold Wd.rdB; rw [if_neg (by rw [h1]; decide), if_neg (by rw [h2]; decide), if_neg H3h.out, if_neg H4h.out, if_neg (by rw [show Wd.isNum B.toList = false from Hn.out]; decide)]; rfl
  go_enter Tryd.func11, Tryd.ntmps11
  go_wp2
  refine wp_scope_once 0 rfl ?_
  go_wp2_with (first | (go_at_call 17; refine (cut_at s _ B sl _ HB.out HS.out).mono ?_; rintro e w' ⟨rfl, rfl⟩) | (go_at_call_of 18 (Value.string { data := #[64] }); refine (has_at B ⟨#[64]⟩ false _ H3.out).mono ?_; rintro e w' ⟨rfl, rfl⟩) | (go_at_call_of 18 (Value.string { data := #[45] }); refine (has_at B ⟨#[45]⟩ false _ H4.out).mono ?_; rintro e w' ⟨rfl, rfl⟩) | (go_at_call 19; refine (digits_at B v false _ Hsz.out Hv.out Hn.out).mono ?_))
  rintro e w1 ⟨rfl, hb1⟩
  have c0 : w1.cell? ⟨w.heap.size, 0, none⟩ = some (.int .i64 3) := cell_new hb1 0 _ rfl
  have c1 : w1.cell? ⟨w.heap.size, 1, none⟩ = some (.bool sl) := cell_new hb1 1 _ rfl
  have c2 : w1.cell? ⟨w.heap.size, 2, none⟩ = some (.int .i64 0) := cell_new hb1 2 _ rfl
  have f2 := frozen_new hb1 2
  have hz : w.heap.size < w1.heap.size := by have := hb1.size; simp at this; omega
  have hbw : Below w.heap.size w w1 := ((Below.refl _ _).alloc (Nat.le_refl _) _).trans (hb1.mono (by simp))
  clear hb1
  go_wp2
  go_step3
  refine ⟨rfl, ?_⟩
  go_wp2
  rw [Exit.noGoto_ret]
  go_ret2
  exact ⟨ret_iep HR.out, hbw.setCell (Nat.le_refl _) _⟩
/-- Read, whatever the text. -/
theorem read_any (s : ByteArray) (w : World) (hs : s.size ≤ maxLen) :
    Calls Tryd.prog 11 #[.string s] w fun e w' => e = .returned (.tuple #[.int .u64 (Wd.rd s.data.toList).1, .int .i64 (Wd.rd s.data.toList).2]) ∧ Below w.heap.size w w' := by
  obtain ⟨B, sl, hB, hsl, hBs, hrd⟩ := cut_spec s hs
  rw [hrd]
  by_cases h1 : (B.toList == [110, 117, 108, 108]) = true
  · exact read_null s B sl w hB hsl h1
  have h1 : (B.toList == [110, 117, 108, 108]) = false := by simpa using h1
  by_cases h2 : (B.toList == [101, 109, 112, 116, 121]) = true
  · exact read_empty s B sl w hB hsl h1 h2
  have h2 : (B.toList == [101, 109, 112, 116, 121]) = false := by simpa using h2
  have hx := ext_size B hBs
  by_cases h3 : B.toList.head? = some 64
  · have e3 : Lib.hasPrefix B.data.toList [64] = true := by rw [has_head]; simpa using h3
    have hz := head_size B 64 h3
    cases hn : Wd.isNum (B.extract 1 B.size).toList
    · exact read_at_no s B sl w hB hsl h1 h2 hz hx e3 h3 _ rfl hn
    · exact read_at_yes s B sl w hB hsl h1 h2 hz hx e3 h3 _ rfl hn
  have e3 : Lib.hasPrefix B.data.toList [64] = false := by rw [has_head]; simpa using h3
  by_cases h4 : B.toList.head? = some 45
  · have e4 : Lib.hasPrefix B.data.toList [45] = true := by rw [has_head]; simpa using h4
    have hz := head_size B 45 h4
    cases hn : Wd.isNum (B.extract 1 B.size).toList
    · exact read_minus_no s B sl w hB hsl h1 h2 hz hx e3 e4 h4 _ rfl hn
    · have hbd := Wd.dgV_bd (B.extract 1 B.size).toList
      cases hv : (Wd.dgV (B.extract 1 B.size).toList == 0)
      · exact read_minus_yes s B sl w hB hsl h1 h2 hz hx e3 e4 h4 _ rfl hn hv hbd.1 hbd.2
      · exact read_minus_zero s B sl w hB hsl h1 h2 hz hx e3 e4 h4 _ rfl hn hv
  have e4 : Lib.hasPrefix B.data.toList [45] = false := by rw [has_head]; simpa using h4
  cases hn : Wd.isNum B.toList
  · exact read_plain_no s B sl w hB hsl h1 h2 hBs e3 e4 h3 h4 _ rfl hn
  · exact read_plain_yes s B sl w hB hsl h1 h2 hBs e3 e4 h3 h4 _ rfl hn
end Go.Proofs.YtlbhkaokpfljmabDoor
