/- Package word's Read. -/
import Derived.Test.YtfnnckbdaedlbaaDoorWdDigits
import Derived.Test.YtfnnckbdaedlbaaDoorShelf
import Derived.WalkMore
import Derived.ScopeJumps
namespace Go.Proofs.YtfnnckbdaedlbaaDoor
open Go.RowKit
theorem mkBytes (l : List UInt8) : (⟨l.toArray⟩ : ByteArray).toList = l := by rw [Wd.toL]
theorem cut_spec (s : ByteArray) (hs : s.size ≤ maxLen) : ∃ (B : ByteArray) (sl : Bool), (⟨(Lib.trimPrefix s.data.toList [33]).toArray⟩ : ByteArray) = B ∧ Lib.hasPrefix s.data.toList [33] = sl ∧ B.size ≤ maxLen ∧ Wd.rd s.data.toList = Wd.rdB sl B.toList := by
  refine ⟨_, _, rfl, rfl, ?_, ?_⟩
  · have h1 : (⟨(Lib.trimPrefix s.data.toList [33]).toArray⟩ : ByteArray).size ≤ s.size := by
      show (Lib.trimPrefix s.data.toList [33]).toArray.size ≤ s.data.size
      unfold Lib.trimPrefix
      split <;> simp
    omega
  · rw [mkBytes]
    unfold Wd.rd Lib.trimPrefix Lib.hasPrefix
    cases h : s.data.toList with
    | nil => rfl
    | cons c l =>
      by_cases hc : c = 33
      · subst hc; simp
      · have h2 : ¬ (33 : UInt8) = c := fun e => hc e.symm
        have h3 : (33 == c) = false := by simpa using h2
        simp [hc, List.isPrefixOf, h3]
theorem ret_iep {p : Int × Int} {a c : Int} (h : p = (a, c)) : Ending.returned (.tuple #[.int .u64 a, .int .i64 c]) = .returned (.tuple #[.int .u64 p.1, .int .i64 p.2]) := by rw [h]
theorem ext_tail (B : ByteArray) : (B.extract 1 B.size).toList = B.toList.tail := by
  rw [Wd.toL, Wd.toL, Lib.extract_data]
  simp
  exact List.take_of_length_le (by simp)
theorem ext_size (B : ByteArray) (h : B.size ≤ maxLen) : (B.extract 1 B.size).size ≤ maxLen := by simp; omega
theorem has_head (B : ByteArray) (c : UInt8) : Lib.hasPrefix B.data.toList [c] = decide (B.toList.head? = some c) := by
  rw [Wd.toL]
  unfold Lib.hasPrefix
  cases B.data.toList with
  | nil => rfl
  | cons a l =>
    by_cases h : a = c
    · subst h; simp [List.isPrefixOf]
    · have h2 : (c == a) = false := by simp; exact fun e => h e.symm
      simp [List.isPrefixOf, h, h2]
theorem head_size (B : ByteArray) (c : UInt8) (h : B.toList.head? = some c) : 1 ≤ B.size := by
  rw [← Wd.toL_length]
  cases hs : B.toList with
  | nil => rw [hs] at h; simp at h
  | cons a l => simp
end Go.Proofs.YtfnnckbdaedlbaaDoor
