/- Read of Text is the word (P1.4), as plain mathematics. -/
import Derived.Test.YtfnnckbdaedlbaaDoorWdReadOn
import Derived.Test.YtfnnckbdaedlbaaDoorWdNum
namespace Go.Proofs.YtfnnckbdaedlbaaDoor
theorem digit_nat (d : Nat) (h : d < 10) : (UInt8.ofNat (48 + d)).toNat = 48 + d := by
  rw [UInt8.toNat_ofNat']; omega
theorem dec_dgs : ∀ u : Nat, Wd.dgs (Lib.decDigits u) = true := by
  intro u
  induction u using Nat.strongRecOn with
  | _ u ih =>
    by_cases hu : u < 10
    · rw [decDigits_small u hu]
      simp only [Wd.dgs, List.all_cons, List.all_nil, digit_nat u hu]
      simp; omega
    · rw [decDigits_big u hu, Wd.dgs_snoc, ih (u / 10) (by omega), digit_nat (u % 10) (by omega)]
      simp; omega
theorem dec_val : ∀ u : Nat, Wd.val (Lib.decDigits u) = u := by
  intro u
  induction u using Nat.strongRecOn with
  | _ u ih =>
    by_cases hu : u < 10
    · rw [decDigits_small u hu]
      simp only [Wd.val, List.foldl_cons, List.foldl_nil, digit_nat u hu]
      omega
    · rw [decDigits_big u hu, Wd.val_snoc, ih (u / 10) (by omega), digit_nat (u % 10) (by omega)]
      omega
/-- The first digit: there is one, and it is a nought only of 0. -/
theorem dec_head : ∀ u : Nat, ∃ c r, Lib.decDigits u = c :: r ∧ 48 ≤ c.toNat ∧ c.toNat ≤ 57 ∧ (1 ≤ u → ¬ c = 48) := by
  intro u
  induction u using Nat.strongRecOn with
  | _ u ih =>
    by_cases hu : u < 10
    · refine ⟨_, [], decDigits_small u hu, ?_, ?_, fun h e => ?_⟩
      · rw [digit_nat u hu]; omega
      · rw [digit_nat u hu]; omega
      · have := congrArg UInt8.toNat e
        rw [digit_nat u hu] at this
        have h48 : (48 : UInt8).toNat = 48 := rfl
        omega
    · obtain ⟨c, r, e, h1, h2, h3⟩ := ih (u / 10) (by omega)
      exact ⟨c, r ++ [UInt8.ofNat (48 + u % 10)], by rw [decDigits_big u hu, e]; rfl, h1, h2, fun _ => h3 (by omega)⟩
theorem dec_isNum (u : Nat) : Wd.isNum (Lib.decDigits u) = true := by
  obtain ⟨c, r, e, h1, h2, h3⟩ := dec_head u
  have hd := dec_dgs u
  by_cases hu : 1 ≤ u
  · unfold Wd.isNum
    rw [hd, e]
    have hc : (c == 48) = false := by simpa using h3 hu
    simp [hc]
  · have : u = 0 := by omega
    subst this
    rw [decDigits_small 0 (by omega)]
    rfl
theorem dec_dgV (u : Nat) (h : (u : Int) ≤ 576460752303423489) : Wd.dgV (Lib.decDigits u) = u := by
  rw [Wd.dgV_true (dec_isNum u), dec_val, Wd.cap_eq u h]
/-- What stands ahead in digits is no letter and no sign. -/
theorem rdB_dec (s : Bool) (u : Nat) (h : (u : Int) ≤ 576460752303423489) : Wd.rdB s (Lib.decDigits u) = (Wd.mkW 3 s u, Wd.mkE 3 s u) := by
  have hn := dec_isNum u
  have hv := dec_dgV u h
  obtain ⟨c, r, e, h1, h2, _⟩ := dec_head u
  have n1 : ¬ c = 110 := by intro e; subst e; simp at h2
  have n2 : ¬ c = 101 := by intro e; subst e; simp at h2
  have n3 : ¬ c = 64 := by intro e; subst e; simp at h2
  have n4 : ¬ c = 45 := by intro e; subst e; simp at h1
  unfold Wd.rdB
  rw [hn, hv]
  rw [e]
  simp [n1, n2, n3, n4]
theorem rdB_neg (s : Bool) (u : Nat) (h0 : 1 ≤ u) (h : (u : Int) ≤ 576460752303423489) : Wd.rdB s (45 :: Lib.decDigits u) = (Wd.mkW 3 s (-(u : Int)), Wd.mkE 3 s (-(u : Int))) := by
  have hn := dec_isNum u
  have hv := dec_dgV u h
  unfold Wd.rdB
  simp [hn, hv]
  omega
theorem rdB_at (s : Bool) (u : Nat) (h : (u : Int) ≤ 576460752303423489) : Wd.rdB s (64 :: Lib.decDigits u) = (Wd.mkW 2 s u, Wd.mkE 2 s u) := by
  have hn := dec_isNum u
  have hv := dec_dgV u h
  unfold Wd.rdB
  simp [hn, hv]
theorem rdB_txB (s : Bool) {x : Int} {k : Nat} {v : Int} (h : Wd.Is x k v) (hk : k ≠ 0) : Wd.rdB s (txB k v) = (Wd.mkW k s v, Wd.mkE k s v) := by
  rcases h with ⟨rfl, rfl, h⟩ | ⟨rfl, h⟩ | ⟨rfl, h⟩ | ⟨rfl, rfl, h⟩ | ⟨rfl, rfl, h⟩
  · rfl
  · obtain ⟨u, rfl⟩ := Int.eq_ofNat_of_zero_le (show 0 ≤ v by omega)
    have e : txB 2 (u : Int) = 64 :: Lib.decDigits u := by
      show 64 :: Lib.itoa (u : Int) = _
      unfold Lib.itoa
      rw [if_neg (by omega)]
      rfl
    rw [e, rdB_at s u (by omega)]
    rfl
  · by_cases hv : v < 0
    · have e : txB 3 v = 45 :: Lib.decDigits v.natAbs := by
        show Lib.itoa v = _
        unfold Lib.itoa
        rw [if_pos hv]
      have hu : -((v.natAbs : Nat) : Int) = v := by omega
      rw [e, rdB_neg s v.natAbs (by omega) (by omega), hu]
      rfl
    · have e : txB 3 v = Lib.decDigits v.toNat := by
        show Lib.itoa v = _
        unfold Lib.itoa
        rw [if_neg hv]
      have hu : ((v.toNat : Nat) : Int) = v := by omega
      rw [e, rdB_dec s v.toNat (by omega), hu]
      rfl
  · rfl
  · exact absurd rfl hk
theorem txB_head {x : Int} {k : Nat} {v : Int} (h : Wd.Is x k v) : ¬ (txB k v).head? = some 33 := by
  rcases h with ⟨rfl, rfl, h⟩ | ⟨rfl, h⟩ | ⟨rfl, h⟩ | ⟨rfl, rfl, h⟩ | ⟨rfl, rfl, h⟩
  · decide
  · show ¬ (64 :: Lib.itoa v).head? = some 33
    simp
  · show ¬ (Lib.itoa v).head? = some 33
    unfold Lib.itoa
    split
    · simp
    · obtain ⟨c, r, e, h1, h2, _⟩ := dec_head v.toNat
      rw [e]
      intro hh
      simp at hh
      subst hh
      simp at h1
  · decide
  · decide
theorem rd_tx_good (x : Int) (h0 : 0 ≤ x) (hk : ¬ Wd.ofK x = 0) : Wd.rd (tx x) = (x, 0) := by
  obtain ⟨k, v, h⟩ := Wd.has_is x h0
  obtain ⟨e1, e2, e3⟩ := Wd.is_fun h0 h
  have hk0 : k ≠ 0 := by omega
  have hs : Wd.ofS x = decide (x % 2 = 1) := by rw [e3]; simp [hk0]
  have hm := Wd.mk_of h0 h hk0 (Wd.ofS x) hs
  have hr := rdB_txB (Wd.ofS x) h hk0
  rw [hm.1, hm.2] at hr
  have hh := txB_head h
  unfold tx txS Wd.rd
  rw [e1, e2]
  show (if (if Wd.ofS x = true then 33 :: txB k v else txB k v).head? = some 33 then _ else _) = _
  cases hsx : Wd.ofS x
  · rw [hsx] at hr
    rw [if_neg (by simpa using hh)]
    exact hr
  · rw [hsx] at hr
    rw [if_pos (by simp)]
    exact hr
theorem rd_tx_bad (x : Int) (h0 : 0 ≤ x) (hk : Wd.ofK x = 0) : Wd.rd (tx x) = (0, 2) := by
  obtain ⟨k, v, h⟩ := Wd.has_is x h0
  obtain ⟨e1, e2, e3⟩ := Wd.is_fun h0 h
  have hk0 : k = 0 := by omega
  subst hk0
  unfold tx
  rw [hk, e2, e3]
  rfl
end Go.Proofs.YtfnnckbdaedlbaaDoor
