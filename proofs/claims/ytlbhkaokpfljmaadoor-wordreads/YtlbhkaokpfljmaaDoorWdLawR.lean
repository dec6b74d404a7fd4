/- The document's Read, whatever the text; the walk of the law WordReads. -/
import Derived.Test.YtlbhkaokpfljmaaDoorWdRReadB
import Derived.Test.YtlbhkaokpfljmaaDoorWdWorks
namespace Go.Proofs.YtlbhkaokpfljmaaDoor
open Go.RowKit
theorem rread_bang (s B : ByteArray) (sl : Bool) (w : World) (hs' : s.size ≤ 9223372036854775807) (hBs : B.size ≤ maxLen) (hs0 : 0 < s.size) (tb : ((s[0].toNat : Int) == 33) = true) (HBe : s.extract 1 s.size = B) (HSl : sl = true) :
    Calls Tryd.prog 29 #[.string s] w fun e w' => e = .returned (.tuple #[.int .u64 (Wd.rrB sl B.toList).1, .int .i64 (Wd.rrB sl B.toList).2]) ∧ Below w.heap.size w w' := by
  have hBs' : B.size ≤ 9223372036854775807 := by unfold maxLen at hBs; exact hBs
  have hi : (0 : Int) < s.size := by omega
  by_cases h1 : (B.toList == [110, 117, 108, 108]) = true
  · exact rread_bang_null s B sl w hs' hBs' hs0 hi tb HBe HSl h1
  have h1 : (B.toList == [110, 117, 108, 108]) = false := by simpa using h1
  by_cases h2 : (B.toList == [101, 109, 112, 116, 121]) = true
  · exact rread_bang_empty s B sl w hs' hBs' hs0 hi tb HBe HSl h1 h2
  have h2 : (B.toList == [101, 109, 112, 116, 121]) = false := by simpa using h2
  by_cases hz : 0 < B.size
  · have hh := Wd.head0 B hz
    by_cases h3 : B[0].toNat = 64
    · have H3 : B.toList.head? = some 64 := by rw [hh, show B[0] = 64 from UInt8.toNat_inj.1 h3]
      have t3 : ((B[0].toNat : Int) == 64) = true := by rw [h3]; rfl
      have hx := ext_size B hBs
      obtain ⟨n, e, hn⟩ : ∃ n e, Wd.nm (B.extract 1 B.size).toList = (n, e) := ⟨_, _, rfl⟩
      by_cases hc0 : 0 < B.size - 1
      · have hD : 0 < (B.extract 1 B.size).size := by simp; omega
        have hh2 := Wd.head0 (B.extract 1 B.size) hD
        rw [ext_tail] at hh2
        by_cases h4 : (B.extract 1 B.size)[0].toNat = 45
        · exact rread_bang_at_minus s B sl w hs' hBs' hs0 hi tb HBe HSl h1 h2 hz (by omega) t3 H3 hc0 (by omega) (by rw [h4]; rfl) (by rw [hh2, show (B.extract 1 B.size)[0] = 45 from UInt8.toNat_inj.1 h4]; exact rfl)
        · have H4 : ¬ B.toList.tail.head? = some 45 := by
            rw [hh2]; intro h; simp only [Option.some.injEq] at h; rw [h] at h4; exact h4 rfl
          have t4 : (((B.extract 1 B.size)[0].toNat : Int) == 45) = false := by rw [beq_eq_false_iff_ne]; omega
          by_cases he : e = 0
          · subst he
            exact rread_bang_at_ok s B sl w hs' hBs' hs0 hi tb HBe HSl h1 h2 hz (by omega) t3 H3 hc0 (by omega) t4 H4 hx n hn
          · exact rread_bang_at_err s B sl w hs' hBs' hs0 hi tb HBe HSl h1 h2 hz (by omega) t3 H3 hc0 (by omega) t4 H4 hx n e hn (by simpa using he)
      · have hl : (B.extract 1 B.size).toList = [] := List.eq_nil_of_length_eq_zero (by rw [Wd.toL_length]; simp; omega)
        have H4 : ¬ B.toList.tail.head? = some 45 := by rw [← ext_tail, hl]; simp
        have he : e = 2 := by
          rw [hl] at hn
          have : Wd.nm [] = (0, 2) := rfl
          rw [this] at hn
          exact (Prod.mk.inj hn).2.symm
        exact rread_bang_at_err_nil s B sl w hs' hBs' hs0 hi tb HBe HSl h1 h2 hz (by omega) t3 H3 hc0 H4 hx n e hn (by rw [he]; rfl)
    · have H3 : ¬ B.toList.head? = some 64 := by
        rw [hh]; intro h; simp only [Option.some.injEq] at h; rw [h] at h3; exact h3 rfl
      have t3 : ((B[0].toNat : Int) == 64) = false := by rw [beq_eq_false_iff_ne]; omega
      obtain ⟨n, e, hn⟩ : ∃ n e, Wd.nm B.toList = (n, e) := ⟨_, _, rfl⟩
      by_cases he : e = 0
      · subst he
        exact rread_bang_num_ok s B sl w hs' hBs' hs0 hi tb HBe HSl h1 h2 hz (by omega) t3 H3 hBs n hn
      · exact rread_bang_num_err s B sl w hs' hBs' hs0 hi tb HBe HSl h1 h2 hz (by omega) t3 H3 hBs n e hn (by simpa using he)
  · have hl : B.toList = [] := List.eq_nil_of_length_eq_zero (by rw [Wd.toL_length]; omega)
    have H3 : ¬ B.toList.head? = some 64 := by rw [hl]; simp
    exact rread_bang_num_err_nil s B sl w hs' hBs' hs0 hi tb HBe HSl h1 h2 hz H3 hBs 0 2 (by rw [hl]; rfl) rfl
theorem rread_other (s B : ByteArray) (sl : Bool) (w : World) (hs' : s.size ≤ 9223372036854775807) (hBs : B.size ≤ maxLen) (hs0 : 0 < s.size) (tb : ((s[0].toNat : Int) == 33) = false) (HBe : s = B) (HSl : sl = false) :
    Calls Tryd.prog 29 #[.string s] w fun e w' => e = .returned (.tuple #[.int .u64 (Wd.rrB sl B.toList).1, .int .i64 (Wd.rrB sl B.toList).2]) ∧ Below w.heap.size w w' := by
  have hBs' : B.size ≤ 9223372036854775807 := by unfold maxLen at hBs; exact hBs
  have hi : (0 : Int) < s.size := by omega
  by_cases h1 : (B.toList == [110, 117, 108, 108]) = true
  · exact rread_other_null s B sl w hs' hBs' hs0 hi tb HBe HSl h1
  have h1 : (B.toList == [110, 117, 108, 108]) = false := by simpa using h1
  by_cases h2 : (B.toList == [101, 109, 112, 116, 121]) = true
  · exact rread_other_empty s B sl w hs' hBs' hs0 hi tb HBe HSl h1 h2
  have h2 : (B.toList == [101, 109, 112, 116, 121]) = false := by simpa using h2
  by_cases hz : 0 < B.size
  · have hh := Wd.head0 B hz
    by_cases h3 : B[0].toNat = 64
    · have H3 : B.toList.head? = some 64 := by rw [hh, show B[0] = 64 from UInt8.toNat_inj.1 h3]
      have t3 : ((B[0].toNat : Int) == 64) = true := by rw [h3]; rfl
      have hx := ext_size B hBs
      obtain ⟨n, e, hn⟩ : ∃ n e, Wd.nm (B.extract 1 B.size).toList = (n, e) := ⟨_, _, rfl⟩
      by_cases hc0 : 0 < B.size - 1
      · have hD : 0 < (B.extract 1 B.size).size := by simp; omega
        have hh2 := Wd.head0 (B.extract 1 B.size) hD
        rw [ext_tail] at hh2
        by_cases h4 : (B.extract 1 B.size)[0].toNat = 45
        · exact rread_other_at_minus s B sl w hs' hBs' hs0 hi tb HBe HSl h1 h2 hz (by omega) t3 H3 hc0 (by omega) (by rw [h4]; rfl) (by rw [hh2, show (B.extract 1 B.size)[0] = 45 from UInt8.toNat_inj.1 h4]; exact rfl)
        · have H4 : ¬ B.toList.tail.head? = some 45 := by
            rw [hh2]; intro h; simp only [Option.some.injEq] at h; rw [h] at h4; exact h4 rfl
          have t4 : (((B.extract 1 B.size)[0].toNat : Int) == 45) = false := by rw [beq_eq_false_iff_ne]; omega
          by_cases he : e = 0
          · subst he
            exact rread_other_at_ok s B sl w hs' hBs' hs0 hi tb HBe HSl h1 h2 hz (by omega) t3 H3 hc0 (by omega) t4 H4 hx n hn
          · exact rread_other_at_err s B sl w hs' hBs' hs0 hi tb HBe HSl h1 h2 hz (by omega) t3 H3 hc0 (by omega) t4 H4 hx n e hn (by simpa using he)
      · have hl : (B.extract 1 B.size).toList = [] := List.eq_nil_of_length_eq_zero (by rw [Wd.toL_length]; simp; omega)
        have H4 : ¬ B.toList.tail.head? = some 45 := by rw [← ext_tail, hl]; simp
        have he : e = 2 := by
          rw [hl] at hn
          have : Wd.nm [] = (0, 2) := rfl
          rw [this] at hn
          exact (Prod.mk.inj hn).2.symm
        exact rread_other_at_err_nil s B sl w hs' hBs' hs0 hi tb HBe HSl h1 h2 hz (by omega) t3 H3 hc0 H4 hx n e hn (by rw [he]; rfl)
    · have H3 : ¬ B.toList.head? = some 64 := by
        rw [hh]; intro h; simp only [Option.some.injEq] at h; rw [h] at h3; exact h3 rfl
      have t3 : ((B[0].toNat : Int) == 64) = false := by rw [beq_eq_false_iff_ne]; omega
      obtain ⟨n, e, hn⟩ : ∃ n e, Wd.nm B.toList = (n, e) := ⟨_, _, rfl⟩
      by_cases he : e = 0
      · subst he
        exact rread_other_num_ok s B sl w hs' hBs' hs0 hi tb HBe HSl h1 h2 hz (by omega) t3 H3 hBs n hn
      · exact rread_other_num_err s B sl w hs' hBs' hs0 hi tb HBe HSl h1 h2 hz (by omega) t3 H3 hBs n e hn (by simpa using he)
  · have hl : B.toList = [] := List.eq_nil_of_length_eq_zero (by rw [Wd.toL_length]; omega)
    have H3 : ¬ B.toList.head? = some 64 := by rw [hl]; simp
    exact rread_other_num_err_nil s B sl w hs' hBs' hs0 hi tb HBe HSl h1 h2 hz H3 hBs 0 2 (by rw [hl]; rfl) rfl
/-- The document's Read, whatever the text. -/
theorem rread_any (s : ByteArray) (w : World) (hs : s.size ≤ maxLen) :
    Calls Tryd.prog 29 #[.string s] w fun e w' => e = .returned (.tuple #[.int .u64 (Wd.rd s.data.toList).1, .int .i64 (Wd.rd s.data.toList).2]) ∧ Below w.heap.size w w' := by
  have hs' : s.size ≤ 9223372036854775807 := by unfold maxLen at hs; exact hs
  rw [← Wd.toL]
  by_cases h0 : 0 < s.size
  · have hh := Wd.head0 s h0
    by_cases hb : s[0].toNat = 33
    · have e : Wd.rd s.toList = Wd.rrB true (s.extract 1 s.size).toList := by
        unfold Wd.rd
        rw [hh, show s[0] = 33 from UInt8.toNat_inj.1 hb, if_pos rfl, Wd.rr_eq, ext_tail]
      rw [e]
      exact rread_bang s _ true w hs' (ext_size s hs) h0 (by rw [hb]; rfl) rfl rfl
    · have e : Wd.rd s.toList = Wd.rrB false s.toList := by
        unfold Wd.rd
        rw [if_neg, Wd.rr_eq]
        rw [hh]; intro h; simp only [Option.some.injEq] at h; rw [h] at hb; exact hb rfl
      rw [e]
      exact rread_other s _ false w hs' hs h0 (by rw [beq_eq_false_iff_ne]; omega) rfl rfl
  · have hl : s.toList = [] := List.eq_nil_of_length_eq_zero (by rw [Wd.toL_length]; omega)
    have e : Wd.rd s.toList = Wd.rrB false s.toList := by rw [hl]; exact Wd.rr_eq false []
    rw [e]
    exact rread_none_num_err_nil s s false w hs' hs' h0 rfl rfl (by rw [hl]; rfl) (by rw [hl]; rfl) h0 (by rw [hl]; exact fun h => by cases h) hs 0 2 (by rw [hl]; rfl) rfl
set_option maxHeartbeats 4000000 in
theorem wordReads_short (s : ByteArray) (w : World) (hs : s.size ≤ maxLen) (h : (s.size : Int) ≤ 300) :
    Calls Tryd.prog 8 #[.string s] w fun e w' => e = .returned (.bool true) ∧ Below w.heap.size w w' := by
  have HS := hid hs
  have hs' : s.size ≤ 9223372036854775807 := by unfold maxLen at hs; exact hs
  clear hs
  go_enter Tryd.func8, Tryd.ntmps8
  go_wp2_with (go_at_call 27; refine (read_any s _ HS.out).mono ?_)
  rintro e w1 ⟨rfl, b1⟩
  go_wp2_with (go_at_call 29; refine (rread_any s _ HS.out).mono ?_)
  rintro e w2 ⟨rfl, b2⟩
  have b : Below w.heap.size w w2 := b1.trans (b2.mono b1.size)
  have z : w.heap.size ≤ w2.heap.size := b.size
  clear b1 b2
  go_wp2_with (first | (go_at_call 13; refine (num_any _ _).mono ?_; rintro e w' ⟨rfl, rfl⟩) | (go_at_call 9; refine (works_any _).mono ?_))
  rintro e w5 ⟨rfl, b5⟩
  go_wp2
  go_ret
  exact ⟨rfl, b.trans (b5.mono z)⟩
theorem wordReads_long (s : ByteArray) (w : World) (_hs : s.size ≤ 9223372036854775807) (h : (300 : Int) < s.size) :
    Calls Tryd.prog 8 #[.string s] w fun e w' => e = .returned (.bool true) ∧ Below w.heap.size w w' := by
  go_enter Tryd.func8, Tryd.ntmps8
  go_wp2_with (go_at_call 9; refine (works_any _).mono ?_)
  rintro e w5 ⟨rfl, b5⟩
  go_wp2
  go_ret
  exact ⟨rfl, b5⟩
theorem wordReads_walk (s : ByteArray) (w : World) (hs : s.size ≤ maxLen) :
    Calls Tryd.prog 8 #[.string s] w fun e w' => e = .returned (.bool true) ∧ Below w.heap.size w w' := by
  by_cases h : (300 : Int) < s.size
  · exact wordReads_long s w (by unfold maxLen at hs; exact hs) h
  · exact wordReads_short s w hs (by omega)
end Go.Proofs.YtlbhkaokpfljmaaDoor
