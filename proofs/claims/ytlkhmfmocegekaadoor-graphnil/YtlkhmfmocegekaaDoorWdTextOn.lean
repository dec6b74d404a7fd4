/- Numbers in texts (chapter 1, P1.3), as plain functions of lists of bytes. -/
import Derived.Test.YtlkhmfmocegekaaDoorWdMathOn
import Derived.Laws.Strings
import Derived.Laws.RangeAny
namespace Go.Wd
/-- The number that digits make. -/
def val (l : List UInt8) : Nat := l.foldl (fun n c => n * 10 + (c.toNat - 48)) 0
/-- All are digits. -/
def dgs (l : List UInt8) : Bool := l.all fun c => decide (48 ≤ c.toNat) && decide (c.toNat ≤ 57)
/-- Digits without noughts ahead. -/
def isNum (l : List UInt8) : Bool := !l.isEmpty && dgs l && (!(l.head? == some 48) || l == [48])
/-- The number, or what stands for every one beyond. -/
def cap (n : Nat) : Int := if (n : Int) ≤ 576460752303423489 then n else 576460752303423489
def dgV (l : List UInt8) : Int := if isNum l = true then cap (val l) else 0
theorem val_snoc (l : List UInt8) (c : UInt8) : val (l ++ [c]) = val l * 10 + (c.toNat - 48) := by simp [val]
theorem dgs_snoc (l : List UInt8) (c : UInt8) : dgs (l ++ [c]) = (dgs l && (decide (48 ≤ c.toNat) && decide (c.toNat ≤ 57))) := by simp [dgs]
theorem cap_bd (n : Nat) : 0 ≤ cap n ∧ cap n ≤ 576460752303423489 := by unfold cap; split <;> omega
theorem cap_step (n d : Nat) : cap (n * 10 + d) = if cap n * 10 + d ≤ 576460752303423489 then cap n * 10 + d else 576460752303423489 := by
  unfold cap; split <;> split <;> (try split) <;> omega
theorem toL (s : ByteArray) : s.toList = s.data.toList := ByteArray.toList_eq s
theorem toL_length (s : ByteArray) : s.toList.length = s.size := by rw [toL]; rfl
theorem toL_get (s : ByteArray) (k : Nat) (h : k < s.size) : s.toList[k]'(by rw [toL_length]; exact h) = s[k] := by simp only [toL]; rfl
theorem take_snoc (s : ByteArray) (k : Nat) (h : k < s.size) : s.toList.take (k + 1) = s.toList.take k ++ [s[k]] := by
  rw [List.take_succ_eq_append_getElem (by rw [toL_length]; exact h), toL_get s k h]
theorem dgs_false (s : ByteArray) (k : Nat) (h : k < s.size) (hc : ¬ (48 ≤ s[k].toNat ∧ s[k].toNat ≤ 57)) : dgs s.toList = false := by
  have hm : s[k] ∈ s.toList := by rw [← toL_get s k h]; exact List.getElem_mem _
  unfold dgs
  rw [List.all_eq_false]
  exact ⟨s[k], hm, by simpa using hc⟩
theorem isNum_of_dgs_false {l : List UInt8} (h : dgs l = false) : isNum l = false := by unfold isNum; rw [h]; simp
theorem dgV_false {l : List UInt8} (h : isNum l = false) : dgV l = 0 := by unfold dgV; rw [h]; rfl
theorem dgV_true {l : List UInt8} (h : isNum l = true) : dgV l = cap (val l) := by unfold dgV; rw [if_pos h]
theorem dgV_bd (l : List UInt8) : 0 ≤ dgV l ∧ dgV l ≤ 576460752303423489 := by
  unfold dgV; split
  · exact cap_bd _
  · omega
theorem digit_step (s : ByteArray) (k : Nat) (V : Int) (C : Nat) (h : k < s.size) (hC : s[k].toNat = C) (h1 : 48 ≤ C) (hV : cap (val (s.toList.take k)) = V) :
    (if 576460752303423489 < V * 10 + ((C : Int) - 48) then 576460752303423489 else V * 10 + ((C : Int) - 48)) = cap (val (s.toList.take (k + 1))) := by
  rw [take_snoc s k h, val_snoc, hC, cap_step, hV]
  have e : ((C - 48 : Nat) : Int) = (C : Int) - 48 := by omega
  rw [e]
  split <;> split <;> omega
theorem dgs_step (s : ByteArray) (k : Nat) (C : Nat) (h : k < s.size) (hC : s[k].toNat = C) (h1 : 48 ≤ C) (h2 : C ≤ 57) (hd : dgs (s.toList.take k) = true) : dgs (s.toList.take (k + 1)) = true := by
  rw [take_snoc s k h, dgs_snoc, hd, hC]; simp [h1, h2]
theorem head0 (s : ByteArray) (h : 0 < s.size) : s.toList.head? = some s[0] := by
  rw [← toL_get s 0 h, List.head?_eq_getElem?]
  exact List.getElem?_eq_getElem _
theorem isNum_of (s : ByteArray) (h : 0 < s.size) (hc : ¬ s[0].toNat = 48) (hd : dgs s.toList = true) : isNum s.toList = true := by
  have hne : (s.toList.head? == some 48) = false := by
    rw [head0 s h]
    simp
    intro e
    rw [e] at hc
    exact hc rfl
  have he : s.toList.isEmpty = false := by
    have hl : 0 < s.toList.length := by rw [toL_length]; exact h
    cases hs : s.toList with
    | nil => rw [hs] at hl; simp at hl
    | cons a l => rfl
  unfold isNum
  rw [hd, hne, he]; rfl
theorem isNum_nought (s : ByteArray) (h : 0 < s.size) (hc : s[0].toNat = 48) (hn : (s.toList == [48]) = false) : isNum s.toList = false := by
  have hh : (s.toList.head? == some 48) = true := by
    rw [head0 s h]
    have : s[0] = 48 := UInt8.toNat_inj.1 hc
    rw [this]; rfl
  unfold isNum
  rw [hh, hn]; simp
theorem noEmpty (s : ByteArray) (h : 0 < s.size) : s.toList.isEmpty = false := by
  have hl : 0 < s.toList.length := by rw [toL_length]; exact h
  cases hs : s.toList with
  | nil => rw [hs] at hl; simp at hl
  | cons a l => rfl
/-- The word of a text behind its seal's sign, and the error's number (P1.3). -/
def rdB (s : Bool) (b : List UInt8) : Int × Int :=
  if (b == [110, 117, 108, 108]) = true then (mkW 1 s 0, mkE 1 s 0)
  else if (b == [101, 109, 112, 116, 121]) = true then (mkW 4 s 0, mkE 4 s 0)
  else if b.head? = some 64 then (if isNum b.tail = true then (mkW 2 s (dgV b.tail), mkE 2 s (dgV b.tail)) else (0, 2))
  else if b.head? = some 45 then (if isNum b.tail = true ∧ dgV b.tail ≠ 0 then (mkW 3 s (-(dgV b.tail)), mkE 3 s (-(dgV b.tail))) else (0, 2))
  else if isNum b = true then (mkW 3 s (dgV b), mkE 3 s (dgV b)) else (0, 2)
/-- The word of a text, and the error's number. -/
def rd (l : List UInt8) : Int × Int := if l.head? = some 33 then rdB true l.tail else rdB false l
end Go.Wd
/- Package word's digits. -/
namespace Go.Proofs.YtlkhmfmocegekaaDoor
open Go.RowKit
theorem ret_ib {a a' : Int} {b b' : Bool} (h : a = a') (h2 : b = b') : Ending.returned (.tuple #[.int .i64 a, .bool b]) = .returned (.tuple #[.int .i64 a', .bool b']) := by rw [h, h2]
end Go.Proofs.YtlkhmfmocegekaaDoor
