/- Package word's Read. -/
import Derived.Test.YtfnnckbdaedlbaaDoorWdOfOn
import Derived.Test.YtfnnckbdaedlbaaDoorShelf
import Derived.WalkMore
import Derived.ScopeJumps
import Derived.Lib.AppendIntMem
import Derived.Lib.ItoaLen
import Derived.Test.YtfnnckbdaedlbaaDoorWdLeafOn
namespace Go.Proofs.YtfnnckbdaedlbaaDoor
open Go.RowKit
theorem mkBytes (l : List UInt8) : (⟨l.toArray⟩ : ByteArray).toList = l := by rw [Wd.toL]
theorem cut_spec (s : ByteArray) (hs : s.size ≤ maxLen) : ∃ (B : ByteArray) (sl : Bool), (⟨(Lib.trimPrefix s.data.toList [33]).toArray⟩ : ByteArray) = B ∧ Lib.hasPrefix s.data.toList [33] = sl ∧ B.size ≤ maxLen ∧ Wd.rd s.data.toList = Wd.rdB sl B.toList := by
  refine ⟨_, _, rfl, rfl, ?_, ?_⟩
  · have h1 : (⟨(Lib.trimPrefix s.data.toList [33]).toArray⟩ : ByteArray).size ≤ s.size := by
      show (Lib.trimPrefix s.data.toList [33]).toArray.size ≤ s.data.size
      unfold Lib.trimPrefix
      split <;> simp
    omega
  · rw [mkBytes]
    unfold Wd.rd Lib.trimPrefix Lib.hasPrefix
    cases h : s.data.toList with
    | nil => rfl
    | cons c l =>
      by_cases hc : c = 33
      · subst hc; simp
      · have h2 : ¬ (33 : UInt8) = c := fun e => hc e.symm
        have h3 : (33 == c) = false := by simpa using h2
        simp [hc, List.isPrefixOf, h3]
theorem ret_iep {p : Int × Int} {a c : Int} (h : p = (a, c)) : Ending.returned (.tuple #[.int .u64 a, .int .i64 c]) = .returned (.tuple #[.int .u64 p.1, .int .i64 p.2]) := by rw [h]
theorem ext_tail (B : ByteArray) : (B.extract 1 B.size).toList = B.toList.tail := by
  rw [Wd.toL, Wd.toL, Lib.extract_data]
  simp
  exact List.take_of_length_le (by simp)
theorem ext_size (B : ByteArray) (h : B.size ≤ maxLen) : (B.extract 1 B.size).size ≤ maxLen := by simp; omega
theorem has_head (B : ByteArray) (c : UInt8) : Lib.hasPrefix B.data.toList [c] = decide (B.toList.head? = some c) := by
  rw [Wd.toL]
  unfold Lib.hasPrefix
  cases B.data.toList with
  | nil => rfl
  | cons a l =>
    by_cases h : a = c
    · subst h; simp [List.isPrefixOf]
    · have h2 : (c == a) = false := by simp; exact fun e => h e.symm
      simp [List.isPrefixOf, h, h2]
theorem head_size (B : ByteArray) (c : UInt8) (h : B.toList.head? = some c) : 1 ≤ B.size := by
  rw [← Wd.toL_length]
  cases hs : B.toList with
  | nil => rw [hs] at h; simp at h
  | cons a l => simp
end Go.Proofs.YtfnnckbdaedlbaaDoor
/- Package word's Text. -/
namespace Go.Proofs.YtfnnckbdaedlbaaDoor
open Go.RowKit
/-- The library's table of powers stands as it was laid. -/
def Tab (w : World) : Prop := Lib.TabIs Tryd.prog w "internal/strconv.uint64pow10" .u64 Lib.pow10Tab
theorem tab_lt {w : World} (h : Tab w) : ∃ g, Tryd.prog.globalNamed "internal/strconv.uint64pow10" = some g ∧ g < w.heap.size := by
  unfold Tab Lib.TabIs World.var? at h
  cases hg : Tryd.prog.globalNamed "internal/strconv.uint64pow10" with
  | none => rw [hg] at h; cases h
  | some g =>
    rw [hg] at h
    refine ⟨g, rfl, ?_⟩
    by_cases hlt : g < w.heap.size
    · exact hlt
    · have hn : w.heap[g]? = none := by simp; omega
      simp [hn] at h
theorem tab_below {w w' : World} (h : Tab w) (hb : Below w.heap.size w w') : Tab w' := by
  obtain ⟨g, hg, hlt⟩ := tab_lt h
  exact var?_below hb hg hlt h
/-- What FormatInt needs at a number: it is small, or the table stands. -/
def Fit (v : Int) (w : World) : Prop := (0 ≤ v ∧ v < 100) ∨ Tab w
theorem fit_below {v : Int} {w w' : World} (h : Fit v w) (hb : Below w.heap.size w w') : Fit v w' := h.imp id (fun t => tab_below t hb)
theorem format_any (v : Int) (w : World) (h0 : -9223372036854775808 ≤ v) (h1 : v ≤ 9223372036854775807) (h : Fit v w) :
    Calls Tryd.prog 54 #[.int .i64 v, .int .i64 10] w fun e w' => e = .returned (.string ⟨(Lib.itoa v).toArray⟩) ∧ Below w.heap.size w w' := by
  rcases h with ⟨ha, hb⟩ | h
  · obtain ⟨i, rfl⟩ := Int.eq_ofNat_of_zero_le ha
    refine (Tryd.strconv_FormatInt_10_small i (by omega) w).mono ?_
    rintro e w' ⟨rfl, rfl⟩
    refine ⟨?_, Below.refl _ _⟩
    unfold Lib.itoa
    rw [if_neg (by omega)]
    rfl
  · refine (Tryd.strconv_FormatInt_10 v h0 h1 w h).mono ?_
    rintro e w' ⟨rfl, k, os, rfl⟩
    exact ⟨rfl, Lib.below_grow _ _ (Nat.le_refl _) _ _⟩
theorem bytes_append (l m : List UInt8) : (⟨l.toArray⟩ : ByteArray) ++ (⟨m.toArray⟩ : ByteArray) = ⟨(l ++ m).toArray⟩ := by
  apply ByteArray.ext
  rw [ByteArray.data_append]
  simp
/-- A word's text without its seal's sign, by its kind and what it holds (P1.3). -/
def txB : Nat → Int → List UInt8
  | 1, _ => [110, 117, 108, 108]
  | 2, v => 64 :: Lib.itoa v
  | 3, v => Lib.itoa v
  | 4, _ => [101, 109, 112, 116, 121]
  | _, _ => [98, 97, 100]
theorem txB_len (k : Nat) (v : Int) (h0 : -9223372036854775808 ≤ v) (h1 : v ≤ 9223372036854775807) : (txB k v).length ≤ 22 := by
  have := Lib.itoa_length_le v h0 h1
  unfold txB
  split <;> simp <;> omega
/-- A word's text, by its kind, its seal and what it holds. -/
def txS (s : Bool) (k : Nat) (v : Int) : List UInt8 := if s = true then 33 :: txB k v else txB k v
theorem is_bd {x : Int} {k : Nat} {v : Int} (h : Wd.Is x k v) : -9223372036854775808 ≤ v ∧ v ≤ 9223372036854775807 := by
  rcases h with ⟨_, h, _⟩ | ⟨_, h1, h2, _⟩ | ⟨_, h1, h2, _⟩ | ⟨_, h, _⟩ | ⟨_, h, _⟩ <;> omega
end Go.Proofs.YtfnnckbdaedlbaaDoor
/- More on what words are (chapter 1). -/
namespace Go.Wd
theorem is_ofK {x : Int} {k : Nat} {v : Int} (h0 : 0 ≤ x) (h : Is x k v) : ofK x = k := (is_fun h0 h).1
theorem is_hold {x : Int} (h0 : 0 ≤ x) (h1 : 1 ≤ ofK x) (h3 : ofK x ≤ 3) {k : Nat} {v : Int} (h : Is x k v) : k = 1 ∨ k = 2 ∨ k = 3 := by
  have := is_ofK h0 h; omega
theorem is_noHold {x : Int} (h0 : 0 ≤ x) (h1 : ¬ (1 ≤ ofK x ∧ ofK x ≤ 3)) {k : Nat} {v : Int} (h : Is x k v) : k = 0 ∨ k = 4 := by
  have := is_ofK h0 h
  rcases h with ⟨rfl, _⟩ | ⟨rfl, _⟩ | ⟨rfl, _⟩ | ⟨rfl, _⟩ | ⟨rfl, _⟩ <;> simp_all
theorem has_is (x : Int) (_h0 : 0 ≤ x) : ∃ (k : Nat) (v : Int), Is x k v := by
  by_cases a : x ≤ 1
  · exact ⟨1, 0, .inl ⟨rfl, rfl, a⟩⟩
  by_cases b : x = 2
  · exact ⟨4, 0, .inr (.inr (.inr (.inl ⟨rfl, rfl, b⟩)))⟩
  by_cases c : x % 8 ≤ 1 ∧ x / 8 ≤ 16777215
  · exact ⟨2, x / 8, .inr (.inl ⟨rfl, by omega, by omega, by omega, by omega⟩)⟩
  by_cases d : 4 ≤ x % 8 ∧ x % 8 ≤ 5 ∧ x / 8 ≤ 1152921504606846975
  · exact ⟨3, x / 8 - 576460752303423488, .inr (.inr (.inl ⟨rfl, by omega, by omega, by omega, by omega⟩))⟩
  exact ⟨0, 0, .inr (.inr (.inr (.inr ⟨rfl, rfl, by omega, c, d⟩)))⟩
/-- A word that may be sealed, sealed, is of the same kind and holds the same. -/
theorem is_seal {x : Int} (h0 : 0 ≤ x) (h1 : 1 ≤ ofK x) (h3 : ofK x ≤ 3) : ofK (x - x % 2 + 1) = ofK x := by
  obtain ⟨k, v, h⟩ := has_is x h0
  have hk := is_hold h0 h1 h3 h
  have e := is_ofK h0 h
  rw [e]
  refine is_ofK (v := v) (by omega) ?_
  rcases h with ⟨rfl, rfl, h⟩ | ⟨rfl, h⟩ | ⟨rfl, h⟩ | ⟨rfl, _⟩ | ⟨rfl, _⟩
  · exact .inl ⟨rfl, rfl, by omega⟩
  · exact .inr (.inl ⟨rfl, by omega, by omega, by omega, by omega⟩)
  · exact .inr (.inr (.inl ⟨rfl, by omega, by omega, by omega, by omega⟩))
  · omega
  · omega
/-- A pointer's address; 0 of others. -/
def adr (x : Int) : Int := if ofK x = 2 then ofV x else 0
end Go.Wd
/- A word's text, as a function of the word. -/
namespace Go.Proofs.YtfnnckbdaedlbaaDoor
open Go.RowKit
theorem decDigits_small (u : Nat) (h : u < 10) : Lib.decDigits u = [UInt8.ofNat (48 + u)] := by rw [Lib.decDigits, dif_pos h]
theorem decDigits_big (u : Nat) (h : ¬ u < 10) : Lib.decDigits u = Lib.decDigits (u / 10) ++ [UInt8.ofNat (48 + u % 10)] := by rw [Lib.decDigits, dif_neg h]
theorem decDigits_len : ∀ (d u : Nat), u < 10 ^ (d + 1) → (Lib.decDigits u).length ≤ d + 1
  | 0, u, h => by rw [decDigits_small u (by omega)]; simp
  | d + 1, u, h => by
    by_cases hu : u < 10
    · rw [decDigits_small u hu]; simp
    · rw [decDigits_big u hu]
      have := decDigits_len d (u / 10) (by rw [Nat.pow_succ] at h; omega)
      simp; omega
theorem decDigits_len20 (u : Nat) (h : u ≤ 18446744073709551615) : (Lib.decDigits u).length ≤ 20 := decDigits_len 19 u (by omega)
/-- A word's text (P1.3). -/
def tx (x : Int) : List UInt8 := txS (Wd.ofS x) (Wd.ofK x).toNat (Wd.ofV x)
theorem ofV_bd (x : Int) (h0 : 0 ≤ x) : -9223372036854775808 ≤ Wd.ofV x ∧ Wd.ofV x ≤ 9223372036854775807 := by
  obtain ⟨k, v, h⟩ := Wd.has_is x h0
  rw [(Wd.is_fun h0 h).2.1]
  exact is_bd h
end Go.Proofs.YtfnnckbdaedlbaaDoor
