/- Package word's Read. -/
import Derived.Test.YtlkhmfmocegekaaDoorWdTextOn
import Derived.Test.YtlkhmfmocegekaaDoorShelf
import Derived.WalkMore
import Derived.ScopeJumps
import Derived.Lib.AppendIntMem
import Derived.Lib.ItoaLen
import Derived.Test.YtlkhmfmocegekaaDoorWdMathOn
namespace Go.Proofs.YtlkhmfmocegekaaDoor
open Go.RowKit
theorem mkBytes (l : List UInt8) : (⟨l.toArray⟩ : ByteArray).toList = l := by rw [Wd.toL]
theorem cut_spec (s : ByteArray) (hs : s.size ≤ maxLen) : ∃ (B : ByteArray) (sl : Bool), (⟨(Lib.trimPrefix s.data.toList [33]).toArray⟩ : ByteArray) = B ∧ Lib.hasPrefix s.data.toList [33] = sl ∧ B.size ≤ maxLen ∧ Wd.rd s.data.toList = Wd.rdB sl B.toList := by
  refine ⟨_, _, rfl, rfl, ?_, ?_⟩
  · have h1 : (⟨(Lib.trimPrefix s.data.toList [33]).toArray⟩ : ByteArray).size ≤ s.size := by
      show (Lib.trimPrefix s.data.toList [33]).toArray.size ≤ s.data.size
      unfold Lib.trimPrefix
      split <;> simp
    omega
  · rw [mkBytes]
    unfold Wd.rd Lib.trimPrefix Lib.hasPrefix
    cases h : s.data.toList with
    | nil => rfl
    | cons c l =>
      by_cases hc : c = 33
      · subst hc; simp
      · have h2 : ¬ (33 : UInt8) = c := fun e => hc e.symm
        have h3 : (33 == c) = false := by simpa using h2
        simp [hc, List.isPrefixOf, h3]
theorem ret_iep {p : Int × Int} {a c : Int} (h : p = (a, c)) : Ending.returned (.tuple #[.int .u64 a, .int .i64 c]) = .returned (.tuple #[.int .u64 p.1, .int .i64 p.2]) := by rw [h]
theorem ext_tail (B : ByteArray) : (B.extract 1 B.size).toList = B.toList.tail := by
  rw [Wd.toL, Wd.toL, Lib.extract_data]
  simp
  exact List.take_of_length_le (by simp)
theorem ext_size (B : ByteArray) (h : B.size ≤ maxLen) : (B.extract 1 B.size).size ≤ maxLen := by simp; omega
theorem has_head (B : ByteArray) (c : UInt8) : Lib.hasPrefix B.data.toList [c] = decide (B.toList.head? = some c) := by
  rw [Wd.toL]
  unfold Lib.hasPrefix
  cases B.data.toList with
  | nil => rfl
  | cons a l =>
    by_cases h : a = c
    · subst h; simp [List.isPrefixOf]
    · have h2 : (c == a) = false := by simp; exact fun e => h e.symm
      simp [List.isPrefixOf, h, h2]
theorem head_size (B : ByteArray) (c : UInt8) (h : B.toList.head? = some c) : 1 ≤ B.size := by
  rw [← Wd.toL_length]
  cases hs : B.toList with
  | nil => rw [hs] at h; simp at h
  | cons a l => simp
end Go.Proofs.YtlkhmfmocegekaaDoor
/- Package word's Text. -/
namespace Go.Proofs.YtlkhmfmocegekaaDoor
open Go.RowKit
/-- The library's table of powers stands as it was laid. -/
def Tab (w : World) : Prop := Lib.TabIs Tryd.prog w "internal/strconv.uint64pow10" .u64 Lib.pow10Tab
theorem tab_lt {w : World} (h : Tab w) : ∃ g, Tryd.prog.globalNamed "internal/strconv.uint64pow10" = some g ∧ g < w.heap.size := by
  unfold Tab Lib.TabIs World.var? at h
  cases hg : Tryd.prog.globalNamed "internal/strconv.uint64pow10" with
  | none => rw [hg] at h; cases h
  | some g =>
    rw [hg] at h
    refine ⟨g, rfl, ?_⟩
    by_cases hlt : g < w.heap.size
    · exact hlt
    · have hn : w.heap[g]? = none := by simp; omega
      simp [hn] at h
theorem tab_below {w w' : World} (h : Tab w) (hb : Below w.heap.size w w') : Tab w' := by
  obtain ⟨g, hg, hlt⟩ := tab_lt h
  exact var?_below hb hg hlt h
/-- What FormatInt needs at a number: it is small, or the table stands. -/
def Fit (v : Int) (w : World) : Prop := (0 ≤ v ∧ v < 100) ∨ Tab w
theorem fit_below {v : Int} {w w' : World} (h : Fit v w) (hb : Below w.heap.size w w') : Fit v w' := h.imp id (fun t => tab_below t hb)
theorem format_any (v : Int) (w : World) (h0 : -9223372036854775808 ≤ v) (h1 : v ≤ 9223372036854775807) (h : Fit v w) :
    Calls Tryd.prog 92 #[.int .i64 v, .int .i64 10] w fun e w' => e = .returned (.string ⟨(Lib.itoa v).toArray⟩) ∧ Below w.heap.size w w' := by
  rcases h with ⟨ha, hb⟩ | h
  · obtain ⟨i, rfl⟩ := Int.eq_ofNat_of_zero_le ha
    refine (Tryd.strconv_FormatInt_10_small i (by omega) w).mono ?_
    rintro e w' ⟨rfl, rfl⟩
    refine ⟨?_, Below.refl _ _⟩
    unfold Lib.itoa
    rw [if_neg (by omega)]
    rfl
  · refine (Tryd.strconv_FormatInt_10 v h0 h1 w h).mono ?_
    rintro e w' ⟨rfl, k, os, rfl⟩
    exact ⟨rfl, Lib.below_grow _ _ (Nat.le_refl _) _ _⟩
theorem bytes_append (l m : List UInt8) : (⟨l.toArray⟩ : ByteArray) ++ (⟨m.toArray⟩ : ByteArray) = ⟨(l ++ m).toArray⟩ := by
  apply ByteArray.ext
  rw [ByteArray.data_append]
  simp
/-- A word's text without its seal's sign, by its kind and what it holds (P1.3). -/
def txB : Nat → Int → List UInt8
  | 1, _ => [110, 117, 108, 108]
  | 2, v => 64 :: Lib.itoa v
  | 3, v => Lib.itoa v
  | 4, _ => [101, 109, 112, 116, 121]
  | _, _ => [98, 97, 100]
theorem txB_len (k : Nat) (v : Int) (h0 : -9223372036854775808 ≤ v) (h1 : v ≤ 9223372036854775807) : (txB k v).length ≤ 22 := by
  have := Lib.itoa_length_le v h0 h1
  unfold txB
  split <;> simp <;> omega
/-- A word's text, by its kind, its seal and what it holds. -/
def txS (s : Bool) (k : Nat) (v : Int) : List UInt8 := if s = true then 33 :: txB k v else txB k v
theorem is_bd {x : Int} {k : Nat} {v : Int} (h : Wd.Is x k v) : -9223372036854775808 ≤ v ∧ v ≤ 9223372036854775807 := by
  rcases h with ⟨_, h, _⟩ | ⟨_, h1, h2, _⟩ | ⟨_, h1, h2, _⟩ | ⟨_, h, _⟩ | ⟨_, h, _⟩ <;> omega
end Go.Proofs.YtlkhmfmocegekaaDoor
/- More on what words are (chapter 1). -/
namespace Go.Wd
theorem is_ofK {x : Int} {k : Nat} {v : Int} (h0 : 0 ≤ x) (h : Is x k v) : ofK x = k := (is_fun h0 h).1
theorem is_hold {x : Int} (h0 : 0 ≤ x) (h1 : 1 ≤ ofK x) (h3 : ofK x ≤ 3) {k : Nat} {v : Int} (h : Is x k v) : k = 1 ∨ k = 2 ∨ k = 3 := by
  have := is_ofK h0 h; omega
theorem is_noHold {x : Int} (h0 : 0 ≤ x) (h1 : ¬ (1 ≤ ofK x ∧ ofK x ≤ 3)) {k : Nat} {v : Int} (h : Is x k v) : k = 0 ∨ k = 4 := by
  have := is_ofK h0 h
  rcases h with ⟨rfl, _⟩ | ⟨rfl, _⟩ | ⟨rfl, _⟩ | ⟨rfl, _⟩ | ⟨rfl, _⟩ <;> simp_all
theorem has_is (x : Int) (_h0 : 0 ≤ x) : ∃ (k : Nat) (v : Int), Is x k v := by
  by_cases a : x ≤ 1
  · exact ⟨1, 0, .inl ⟨rfl, rfl, a⟩⟩
  by_cases b : x = 2
  · exact ⟨4, 0, .inr (.inr (.inr (.inl ⟨rfl, rfl, b⟩)))⟩
  by_cases c : x % 8 ≤ 1 ∧ x / 8 ≤ 16777215
  · exact ⟨2, x / 8, .inr (.inl ⟨rfl, by omega, by omega, by omega, by omega⟩)⟩
  by_cases d : 4 ≤ x % 8 ∧ x % 8 ≤ 5 ∧ x / 8 ≤ 1152921504606846975
  · exact ⟨3, x / 8 - 576460752303423488, .inr (.inr (.inl ⟨rfl, by omega, by omega, by omega, by omega⟩))⟩
  exact ⟨0, 0, .inr (.inr (.inr (.inr ⟨rfl, rfl, by omega, c, d⟩)))⟩
/-- A word that may be sealed, sealed, is of the same kind and holds the same. -/
theorem is_seal {x : Int} (h0 : 0 ≤ x) (h1 : 1 ≤ ofK x) (h3 : ofK x ≤ 3) : ofK (x - x % 2 + 1) = ofK x := by
  obtain ⟨k, v, h⟩ := has_is x h0
  have hk := is_hold h0 h1 h3 h
  have e := is_ofK h0 h
  rw [e]
  refine is_ofK (v := v) (by omega) ?_
  rcases h with ⟨rfl, rfl, h⟩ | ⟨rfl, h⟩ | ⟨rfl, h⟩ | ⟨rfl, _⟩ | ⟨rfl, _⟩
  · exact .inl ⟨rfl, rfl, by omega⟩
  · exact .inr (.inl ⟨rfl, by omega, by omega, by omega, by omega⟩)
  · exact .inr (.inr (.inl ⟨rfl, by omega, by omega, by omega, by omega⟩))
  · omega
  · omega
/-- A pointer's address; 0 of others. -/
def adr (x : Int) : Int := if ofK x = 2 then ofV x else 0
end Go.Wd
/- A word's text, as a function of the word. -/
namespace Go.Proofs.YtlkhmfmocegekaaDoor
open Go.RowKit
theorem decDigits_small (u : Nat) (h : u < 10) : Lib.decDigits u = [UInt8.ofNat (48 + u)] := by rw [Lib.decDigits, dif_pos h]
theorem decDigits_big (u : Nat) (h : ¬ u < 10) : Lib.decDigits u = Lib.decDigits (u / 10) ++ [UInt8.ofNat (48 + u % 10)] := by rw [Lib.decDigits, dif_neg h]
theorem decDigits_len : ∀ (d u : Nat), u < 10 ^ (d + 1) → (Lib.decDigits u).length ≤ d + 1
  | 0, u, h => by rw [decDigits_small u (by omega)]; simp
  | d + 1, u, h => by
    by_cases hu : u < 10
    · rw [decDigits_small u hu]; simp
    · rw [decDigits_big u hu]
      have := decDigits_len d (u / 10) (by rw [Nat.pow_succ] at h; omega)
      simp; omega
theorem decDigits_len20 (u : Nat) (h : u ≤ 18446744073709551615) : (Lib.decDigits u).length ≤ 20 := decDigits_len 19 u (by omega)
/-- A word's text (P1.3). -/
def tx (x : Int) : List UInt8 := txS (Wd.ofS x) (Wd.ofK x).toNat (Wd.ofV x)
theorem ofV_bd (x : Int) (h0 : 0 ≤ x) : -9223372036854775808 ≤ Wd.ofV x ∧ Wd.ofV x ≤ 9223372036854775807 := by
  obtain ⟨k, v, h⟩ := Wd.has_is x h0
  rw [(Wd.is_fun h0 h).2.1]
  exact is_bd h
end Go.Proofs.YtlkhmfmocegekaaDoor
/- The document's way to read a number (lapidaryref01), beside the program's: plain functions of lists of bytes. -/
namespace Go.Wd
theorem val_lt (l : List UInt8) (h : dgs l = true) : val l < 10 ^ l.length := by
  have key : ∀ (l : List UInt8) (n : Nat), dgs l = true → l.foldl (fun n c => n * 10 + (c.toNat - 48)) n < (n + 1) * 10 ^ l.length := by
    intro l
    induction l with
    | nil => intro n _; simp
    | cons c r ih =>
      intro n h
      simp only [dgs, List.all_cons, Bool.and_eq_true, decide_eq_true_eq] at h
      have := ih (n * 10 + (c.toNat - 48)) (by simpa [dgs] using h.2)
      simp only [List.foldl_cons, List.length_cons]
      have h2 : n * 10 + (c.toNat - 48) + 1 ≤ (n + 1) * 10 := by omega
      calc _ < (n * 10 + (c.toNat - 48) + 1) * 10 ^ r.length := this
        _ ≤ ((n + 1) * 10) * 10 ^ r.length := Nat.mul_le_mul_right _ h2
        _ = (n + 1) * 10 ^ (r.length + 1) := by rw [Nat.pow_succ, Nat.mul_assoc, Nat.mul_comm 10]
  simpa [val] using key l 0 h
theorem fold_ge (l : List UInt8) : ∀ n : Nat, n * 10 ^ l.length ≤ l.foldl (fun n c => n * 10 + (c.toNat - 48)) n := by
  induction l with
  | nil => intro n; simp
  | cons c r ih =>
    intro n
    have := ih (n * 10 + (c.toNat - 48))
    simp only [List.foldl_cons, List.length_cons]
    refine Nat.le_trans ?_ this
    rw [Nat.pow_succ, Nat.mul_comm (10 ^ r.length) 10, ← Nat.mul_assoc]
    exact Nat.mul_le_mul_right _ (by omega)
theorem val_ge (c : UInt8) (l : List UInt8) (h : 49 ≤ c.toNat) : 10 ^ l.length ≤ val (c :: l) := by
  have := fold_ge l (0 * 10 + (c.toNat - 48))
  simp only [val, List.foldl_cons]
  refine Nat.le_trans ?_ this
  have : 1 * 10 ^ l.length ≤ (0 * 10 + (c.toNat - 48)) * 10 ^ l.length := Nat.mul_le_mul_right _ (by omega)
  simpa using this
/-- Is it refused as no number: nothing there, noughts ahead, no digits? -/
def nmBad (less : Bool) (d : List UInt8) : Bool := d.isEmpty || (d.head? == some 48 && (less || decide (1 < d.length))) || !dgs d
/-- The document's number of digits d, with '-' ahead or not: the number, the error's. -/
def nmD (less : Bool) (d : List UInt8) : Int × Int :=
  if nmBad less d = true then (0, 2) else if 18 < d.length then (0, 4) else (if less = true then -(val d : Int) else val d, 0)
def nm (l : List UInt8) : Int × Int := if l.head? = some 45 then nmD true l.tail else nmD false l
/-- The word of a told number, or the error. -/
def mkN (k : Int) (s : Bool) (p : Int × Int) : Int × Int := if p.2 ≠ 0 then (0, p.2) else (mkW k s p.1, mkE k s p.1)
theorem cap_eq (n : Nat) (h : (n : Int) ≤ 576460752303423489) : cap n = n := by unfold cap; rw [if_pos h]
theorem cap_big (n : Nat) (h : 576460752303423489 ≤ (n : Int)) : cap n = 576460752303423489 := by
  unfold cap; split <;> omega
theorem mk_cap2 (s : Bool) (n : Nat) : mkW 2 s (cap n) = mkW 2 s n ∧ mkE 2 s (cap n) = mkE 2 s n := by
  by_cases h : (n : Int) ≤ 576460752303423489
  · rw [cap_eq n h]; exact ⟨rfl, rfl⟩
  · rw [cap_big n (by omega)]
    have a := mk_range2 s 576460752303423489 (by omega)
    have b := mk_range2 s n (by omega)
    rw [a.1, a.2, b.1, b.2]; exact ⟨rfl, rfl⟩
theorem mk_cap3 (s : Bool) (n : Nat) : mkW 3 s (cap n) = mkW 3 s n ∧ mkE 3 s (cap n) = mkE 3 s n := by
  by_cases h : (n : Int) ≤ 576460752303423489
  · rw [cap_eq n h]; exact ⟨rfl, rfl⟩
  · rw [cap_big n (by omega)]
    have a := mk_range3 s 576460752303423489 (by omega)
    have b := mk_range3 s n (by omega)
    rw [a.1, a.2, b.1, b.2]; exact ⟨rfl, rfl⟩
theorem mk_cap3n (s : Bool) (n : Nat) : mkW 3 s (-(cap n)) = mkW 3 s (-(n : Int)) ∧ mkE 3 s (-(cap n)) = mkE 3 s (-(n : Int)) := by
  by_cases h : (n : Int) ≤ 576460752303423489
  · rw [cap_eq n h]; exact ⟨rfl, rfl⟩
  · rw [cap_big n (by omega)]
    have a := mk_range3 s (-576460752303423489) (by omega)
    have b := mk_range3 s (-(n : Int)) (by omega)
    rw [a.1, a.2, b.1, b.2]; exact ⟨rfl, rfl⟩
theorem nm_isNum (d : List UInt8) : nmBad false d = !isNum d := by
  unfold nmBad isNum
  cases d with
  | nil => rfl
  | cons c r =>
    by_cases hc : c = 48
    · subst hc
      cases r with
      | nil => rfl
      | cons a t => simp
    · have hcb : (c == 48) = false := by simpa using hc
      simp [hcb]
theorem nm_isNum_less (d : List UInt8) : nmBad true d = !(isNum d && !(d == [48])) := by
  unfold nmBad isNum
  cases d with
  | nil => rfl
  | cons c r =>
    by_cases hc : c = 48
    · subst hc
      cases r with
      | nil => rfl
      | cons a t => simp
    · have hcb : (c == 48) = false := by simpa using hc
      simp [hcb]
theorem big_val (d : List UInt8) (less : Bool) (h : nmBad less d = false) (hl : 18 < d.length) : 1000000000000000000 ≤ val d := by
  cases d with
  | nil => simp at hl
  | cons c r =>
    unfold nmBad at h
    simp only [Bool.or_eq_false_iff, Bool.and_eq_false_iff, List.isEmpty_cons, List.head?_cons, Bool.not_eq_false', decide_eq_false_iff_not] at h
    obtain ⟨⟨_, h2⟩, h3⟩ := h
    have hlen : 1 < (c :: r).length := by omega
    have hc : ¬ c = 48 := by
      rcases h2 with h2 | h2
      · intro e; subst e; simp at h2
      · exact absurd hlen h2.2
    simp only [dgs, List.all_cons, Bool.and_eq_true, decide_eq_true_eq] at h3
    have hc2 : ¬ c.toNat = 48 := fun e => hc (UInt8.toNat_inj.1 e)
    have := val_ge c r (by omega)
    refine Nat.le_trans ?_ this
    have : 18 ≤ r.length := by simp at hl; omega
    calc 1000000000000000000 = 10 ^ 18 := by decide
      _ ≤ 10 ^ r.length := Nat.pow_le_pow_right (by decide) this
/-- What the program reads behind '@', and what the document does. -/
theorem rd_ptr (s : Bool) (d : List UInt8) : (if isNum d = true then (mkW 2 s (dgV d), mkE 2 s (dgV d)) else (0, 2)) = mkN 2 s (nmD false d) := by
  unfold nmD mkN
  rw [nm_isNum]
  cases hn : isNum d
  · simp
  · simp only [if_true, Bool.not_true]
    rw [dgV_true hn, (mk_cap2 s _).1, (mk_cap2 s _).2]
    by_cases hl : 18 < d.length
    · have hb := big_val d false (by rw [nm_isNum, hn]; rfl) hl
      have := mk_range2 s (val d : Int) (by omega)
      simp [hl, this.1, this.2]
    · simp [hl]
theorem rd_num (s : Bool) (d : List UInt8) : (if isNum d = true then (mkW 3 s (dgV d), mkE 3 s (dgV d)) else (0, 2)) = mkN 3 s (nmD false d) := by
  unfold nmD mkN
  rw [nm_isNum]
  cases hn : isNum d
  · simp
  · simp only [if_true, Bool.not_true]
    rw [dgV_true hn, (mk_cap3 s _).1, (mk_cap3 s _).2]
    by_cases hl : 18 < d.length
    · have hb := big_val d false (by rw [nm_isNum, hn]; rfl) hl
      have := mk_range3 s (val d : Int) (by omega)
      simp [hl, this.1, this.2]
    · simp [hl]
theorem val_pos (d : List UInt8) (h : isNum d = true) (hz : (d == [48]) = false) : 0 < val d := by
  cases d with
  | nil => simp [isNum] at h
  | cons c r =>
    unfold isNum at h
    rw [hz] at h
    simp only [List.isEmpty_cons, Bool.not_false, Bool.true_and, List.head?_cons, Bool.or_false, Bool.and_eq_true, Bool.not_eq_true', dgs, List.all_cons, decide_eq_true_eq] at h
    have hc : ¬ c = 48 := by intro e; subst e; simp at h
    have hc2 : ¬ c.toNat = 48 := fun e => hc (UInt8.toNat_inj.1 e)
    have h3 := val_ge c r (by omega)
    have : 0 < 10 ^ r.length := Nat.pow_pos (by decide)
    omega
theorem rd_neg (s : Bool) (d : List UInt8) : (if isNum d = true ∧ dgV d ≠ 0 then (mkW 3 s (-(dgV d)), mkE 3 s (-(dgV d))) else (0, 2)) = mkN 3 s (nmD true d) := by
  unfold nmD mkN
  rw [nm_isNum_less]
  cases hn : isNum d
  · simp
  · cases hz : (d == [48])
    · have hp := val_pos d hn hz
      have hcp : cap (val d) ≠ 0 := by unfold cap; split <;> omega
      rw [dgV_true hn, if_pos ⟨rfl, hcp⟩, (mk_cap3n s _).1, (mk_cap3n s _).2]
      by_cases hl : 18 < d.length
      · have hb := big_val d true (by rw [nm_isNum_less, hn, hz]; rfl) hl
        have := mk_range3 s (-(val d : Int)) (by omega)
        simp [hl, this.1, this.2]
      · simp [hl]
    · have hd : d = [48] := eq_of_beq hz
      subst hd
      rw [if_neg (fun h => h.2 (by decide))]
      rfl
/-- The document's word of a text behind its seal's sign. -/
def rrB (s : Bool) (b : List UInt8) : Int × Int :=
  if (b == [110, 117, 108, 108]) = true then (mkW 1 s 0, mkE 1 s 0)
  else if (b == [101, 109, 112, 116, 121]) = true then (mkW 4 s 0, mkE 4 s 0)
  else if b.head? = some 64 then (if b.tail.head? = some 45 then (0, 2) else mkN 2 s (nm b.tail))
  else mkN 3 s (nm b)
theorem rr_eq (s : Bool) (b : List UInt8) : rdB s b = rrB s b := by
  unfold rdB rrB
  split
  · rfl
  · split
    · rfl
    · split
      · rw [rd_ptr]
        split
        · rename_i h
          unfold nmD mkN
          rw [nm_isNum]
          have : isNum b.tail = false := by
            cases hb : b.tail with
            | nil => rfl
            | cons c r =>
              rw [hb] at h
              simp at h
              subst h
              rfl
          rw [this]; rfl
        · rename_i h
          unfold nm
          rw [if_neg h]
      · unfold nm
        split
        · rw [rd_neg]
        · rw [rd_num]
end Go.Wd
