/- The document's Do of layer 5, and its Load, Store, Cas. -/
import Derived.Test.YtlmkbnebpaopeaaArRef
namespace Go.Proofs.Ytlmkbnebpaopeaa
open Go.RowKit
set_option linter.unusedVariables false
/-- What the document's Do answers: words in a slice, an answer, an error. -/
def RDo (w : World) (b : Nat) (ys : List Int) (a er : Int) (e : Ending) (w' : World) : Prop :=
  ∃ b' off' c', e = .returned (.tuple #[.slice (some ⟨b', off', none⟩) ys.length c', .int .u64 a, .int .i64 er]) ∧ Ws w' b' off' ys ∧ (b' = b ∨ w.heap.size ≤ b') ∧ Below w.heap.size w w'
set_option maxHeartbeats 1000000 in
theorem rDo_arg (b off c : Nat) (xs : List Int) (k p o n : Int) (w : World) (hx : Ws w b off xs) (h1 : 1 ≤ xs.length) (h2 : xs.length ≤ 16384) (hk : ck k p o n = false) : Calls Try.prog 17 #[.slice (some ⟨b, off, none⟩) xs.length c, acc k p o n] w fun e w' => RDo w b xs 0 2 e w' := by
  have cc := fun W => rCheck_any k p o n W
  simp only [hk] at cc
  clear hk
  go_enter Try.func17, Try.ntmps17
  go_wp2_with (go_at_call 12; refine (cc _).mono ?_; rintro e w1 ⟨rfl, b1⟩; have d0 := at_row (row1 b1) 0 rfl; have d1 := at_row (row1 b1) 1 rfl; have d2 := at_row (row1 b1) 2 rfl; have d3 := at_row (row1 b1) 3 rfl; have hx1 := hx.below (bel1 b1); have HB := hid (bel1 b1); clear b1)
  go_ret3

  exact ⟨b, off, c, rfl, hx1, .inl rfl, HB.out⟩
set_option maxHeartbeats 1000000 in
theorem rDo_0 (b off c : Nat) (xs : List Int)  (w : World) (hx : Ws w b off xs) (h1 : 1 ≤ xs.length) (h2 : xs.length ≤ 16384) (hk : ck 0 0 0 0 = true) : Calls Try.prog 17 #[.slice (some ⟨b, off, none⟩) xs.length c, acc 0 0 0 0] w fun e w' => RDo w b xs 0 0 e w' := by
  have cc := fun W => rCheck_any 0 0 0 0 W
  simp only [hk] at cc
  clear hk
  go_enter Try.func17, Try.ntmps17
  go_wp2_with (go_at_call 12; refine (cc _).mono ?_; rintro e w1 ⟨rfl, b1⟩; have d0 := at_row (row1 b1) 0 rfl; have d1 := at_row (row1 b1) 1 rfl; have d2 := at_row (row1 b1) 2 rfl; have d3 := at_row (row1 b1) 3 rfl; have hx1 := hx.below (bel1 b1); have HB := hid (bel1 b1); clear b1)
  go_ret3

  exact ⟨b, off, c, rfl, hx1, .inl rfl, HB.out⟩
set_option maxHeartbeats 1000000 in
theorem rDo_low (b off c : Nat) (xs : List Int) (k p o n : Int) (w : World) (hx : Ws w b off xs) (h1 : 1 ≤ xs.length) (h2 : xs.length ≤ 16384) (hk : ck k p o n = true) (k0 : k ≠ 0) (hp : p < 0) : Calls Try.prog 17 #[.slice (some ⟨b, off, none⟩) xs.length c, acc k p o n] w fun e w' => RDo w b xs 0 4 e w' := by
  have cc := fun W => rCheck_any k p o n W
  simp only [hk] at cc
  clear hk
  have e0 : (k == 0) = false := by simpa using k0
  clear k0
  go_enter Try.func17, Try.ntmps17
  go_wp2_with (go_at_call 12; refine (cc _).mono ?_; rintro e w1 ⟨rfl, b1⟩; have d0 := at_row (row1 b1) 0 rfl; have d1 := at_row (row1 b1) 1 rfl; have d2 := at_row (row1 b1) 2 rfl; have d3 := at_row (row1 b1) 3 rfl; have hx1 := hx.below (bel1 b1); have HB := hid (bel1 b1); clear b1)
  go_ret3

  exact ⟨b, off, c, rfl, hx1, .inl rfl, HB.out⟩
set_option maxHeartbeats 1000000 in
theorem rDo_high (b off c : Nat) (xs : List Int) (k p o n : Int) (w : World) (hx : Ws w b off xs) (h1 : 1 ≤ xs.length) (h2 : xs.length ≤ 16384) (hk : ck k p o n = true) (k0 : k ≠ 0) (p0 : 0 ≤ p) (hp : (xs.length : Int) ≤ p) : Calls Try.prog 17 #[.slice (some ⟨b, off, none⟩) xs.length c, acc k p o n] w fun e w' => RDo w b xs 0 4 e w' := by
  have cc := fun W => rCheck_any k p o n W
  simp only [hk] at cc
  clear hk
  have e0 : (k == 0) = false := by simpa using k0
  clear k0
  go_enter Try.func17, Try.ntmps17
  go_wp2_with (go_at_call 12; refine (cc _).mono ?_; rintro e w1 ⟨rfl, b1⟩; have d0 := at_row (row1 b1) 0 rfl; have d1 := at_row (row1 b1) 1 rfl; have d2 := at_row (row1 b1) 2 rfl; have d3 := at_row (row1 b1) 3 rfl; have hx1 := hx.below (bel1 b1); have HB := hid (bel1 b1); clear b1)
  go_ret3

  exact ⟨b, off, c, rfl, hx1, .inl rfl, HB.out⟩
set_option maxHeartbeats 1000000 in
theorem rDo_1 (b off c : Nat) (xs : List Int) (p : Nat) (w : World) (hx : Ws w b off xs) (h1 : 1 ≤ xs.length) (h2 : xs.length ≤ 16384) (hk : ck 1 (p : Int) 0 0 = true) (hp : p < xs.length) : Calls Try.prog 17 #[.slice (some ⟨b, off, none⟩) xs.length c, acc 1 (p : Int) 0 0] w fun e w' => RDo w b xs (wat xs p) 0 e w' := by
  have cc := fun W => rCheck_any 1 (p : Int) 0 0 W
  simp only [hk] at cc
  clear hk
  go_enter Try.func17, Try.ntmps17
  go_wp2_with (go_at_call 12; refine (cc _).mono ?_; rintro e w1 ⟨rfl, b1⟩; have d0 := at_row (row1 b1) 0 rfl; have d1 := at_row (row1 b1) 1 rfl; have d2 := at_row (row1 b1) 2 rfl; have d3 := at_row (row1 b1) 3 rfl; have hx1 := hx.below (bel1 b1); have HB := hid (bel1 b1); clear b1; have hc := hx1 p hp; have hpl : (p : Int) < xs.length := by omega)
  go_ret3

  exact ⟨b, off, c, rfl, hx1, .inl rfl, HB.out⟩
set_option maxHeartbeats 1000000 in
theorem rDo_2 (b off c : Nat) (xs : List Int) (n : Int) (p : Nat) (w : World) (hx : Ws w b off xs) (h1 : 1 ≤ xs.length) (h2 : xs.length ≤ 16384) (hk : ck 2 (p : Int) 0 n = true) (hp : p < xs.length) : Calls Try.prog 17 #[.slice (some ⟨b, off, none⟩) xs.length c, acc 2 (p : Int) 0 n] w fun e w' => RDo w b (xs.set p n) 0 0 e w' := by
  have cc := fun W => rCheck_any 2 (p : Int) 0 n W
  simp only [hk] at cc
  clear hk
  go_enter Try.func17, Try.ntmps17
  go_wp2_with (first | (go_at_call 12; refine (cc _).mono ?_; rintro e w1 ⟨rfl, b1⟩; have d0 := at_row (row1 b1) 0 rfl; have d1 := at_row (row1 b1) 1 rfl; have d2 := at_row (row1 b1) 2 rfl; have d3 := at_row (row1 b1) 3 rfl; have hx1 := hx.below (bel1 b1); have HB := hid (bel1 b1); clear b1; have hc := hx1 p hp; have hpl : (p : Int) < xs.length := by omega) | (go_at_call 32; refine (rPut_at b off c p xs n _ hx1 hp h2).mono ?_; rintro e w2 ⟨g, c', rfl, hw2, hg2, b2⟩))
  go_ret3

  refine ⟨g, 0, c', by rw [List.length_set]; rfl, hw2, .inr (Nat.le_trans HB.out.size hg2), HB.out.trans (b2.mono HB.out.size)⟩
set_option maxHeartbeats 1000000 in
theorem rDo_3y (b off c : Nat) (xs : List Int) (n : Int) (p : Nat) (w : World) (hx : Ws w b off xs) (h1 : 1 ≤ xs.length) (h2 : xs.length ≤ 16384) (hk : ck 3 (p : Int) (wat xs p) n = true) (hp : p < xs.length) : Calls Try.prog 17 #[.slice (some ⟨b, off, none⟩) xs.length c, acc 3 (p : Int) (wat xs p) n] w fun e w' => RDo w b (xs.set p n) (wat xs p) 0 e w' := by
  have cc := fun W => rCheck_any 3 (p : Int) (wat xs p) n W
  simp only [hk] at cc
  clear hk
  go_enter Try.func17, Try.ntmps17
  go_wp2_with (first | (go_at_call 12; refine (cc _).mono ?_; rintro e w1 ⟨rfl, b1⟩; have d0 := at_row (row1 b1) 0 rfl; have d1 := at_row (row1 b1) 1 rfl; have d2 := at_row (row1 b1) 2 rfl; have d3 := at_row (row1 b1) 3 rfl; have hx1 := hx.below (bel1 b1); have HB := hid (bel1 b1); clear b1; have hc := hx1 p hp; have hpl : (p : Int) < xs.length := by omega) | (go_at_call 32; refine (rPut_at b off c p xs n _ hx1 hp h2).mono ?_; rintro e w2 ⟨g, c', rfl, hw2, hg2, b2⟩))
  go_ret3

  refine ⟨g, 0, c', by rw [List.length_set]; rfl, hw2, .inr (Nat.le_trans HB.out.size hg2), HB.out.trans (b2.mono HB.out.size)⟩
set_option maxHeartbeats 1000000 in
theorem rDo_3n (b off c : Nat) (xs : List Int) (o n : Int) (p : Nat) (w : World) (hx : Ws w b off xs) (h1 : 1 ≤ xs.length) (h2 : xs.length ≤ 16384) (hk : ck 3 (p : Int) o n = true) (hp : p < xs.length) (ho : (wat xs p == o) = false) : Calls Try.prog 17 #[.slice (some ⟨b, off, none⟩) xs.length c, acc 3 (p : Int) o n] w fun e w' => RDo w b xs (wat xs p) 0 e w' := by
  have cc := fun W => rCheck_any 3 (p : Int) o n W
  simp only [hk] at cc
  clear hk
  go_enter Try.func17, Try.ntmps17
  go_wp2_with (go_at_call 12; refine (cc _).mono ?_; rintro e w1 ⟨rfl, b1⟩; have d0 := at_row (row1 b1) 0 rfl; have d1 := at_row (row1 b1) 1 rfl; have d2 := at_row (row1 b1) 2 rfl; have d3 := at_row (row1 b1) 3 rfl; have hx1 := hx.below (bel1 b1); have HB := hid (bel1 b1); clear b1; have hc := hx1 p hp; have hpl : (p : Int) < xs.length := by omega)
  go_ret3

  exact ⟨b, off, c, rfl, hx1, .inl rfl, HB.out⟩
theorem rDo_at (b off c : Nat) (xs ys : List Int) (k p o n a er : Int) (w : World) (hx : Ws w b off xs) (h1 : 1 ≤ xs.length) (h2 : xs.length ≤ 16384) (H : Hid (dof xs k p o n = (ys, a, er))) :
    Calls Try.prog 17 #[.slice (some ⟨b, off, none⟩) xs.length c, acc k p o n] w fun e w' => RDo w b ys a er e w' := by
  have hd := H.out
  clear H
  unfold dof at hd
  by_cases hk : ck k p o n = false
  · rw [if_pos hk] at hd
    cases hd
    exact rDo_arg b off c xs k p o n w hx h1 h2 hk
  · rw [if_neg hk] at hd
    have hk' : ck k p o n = true := by simpa using hk
    rcases ck_cases hk' with ⟨rfl, rfl, rfl, rfl⟩ | hc
    · rw [if_pos rfl] at hd
      cases hd
      exact rDo_0 b off c xs w hx h1 h2 hk'
    · rw [if_neg (by omega)] at hd
      by_cases hp : (decide (0 ≤ p) && decide (p < xs.length)) = false
      · rw [if_pos hp] at hd
        cases hd
        by_cases hp0 : 0 ≤ p
        · simp [hp0] at hp
          exact rDo_high b off c xs k p o n w hx h1 h2 hk' (by omega) hp0 hp
        · exact rDo_low b off c xs k p o n w hx h1 h2 hk' (by omega) (by omega)
      · rw [if_neg hp] at hd
        simp at hp
        obtain ⟨q, rfl⟩ := Int.eq_ofNat_of_zero_le hp.1
        have hq : q < xs.length := by omega
        rw [Int.toNat_natCast] at hd
        rcases hc with ⟨rfl, rfl, rfl⟩ | ⟨rfl, rfl⟩ | rfl
        · rw [if_pos rfl] at hd
          cases hd
          exact rDo_1 b off c xs q w hx h1 h2 hk' hq
        · rw [if_neg (by decide), if_pos rfl] at hd
          cases hd
          exact rDo_2 b off c xs n q w hx h1 h2 hk' hq
        · rw [if_neg (by decide), if_neg (by decide)] at hd
          by_cases ho : wat xs q = o
          · rw [if_pos ho] at hd
            cases hd
            subst ho
            exact rDo_3y b off c xs n q w hx h1 h2 hk' hq
          · rw [if_neg ho] at hd
            cases hd
            exact rDo_3n b off c xs o n q w hx h1 h2 hk' hq (by simpa using ho)
theorem rLoad_any (p : Int) (w : World) : Calls Try.prog 19 #[.int .i64 p] w fun e w' => e = .returned (acc 1 p 0 0) ∧ Below w.heap.size w w' := by
  go_enter Try.func19, Try.ntmps19
  go_wp2
  exact bodyPost_ret (v := acc 1 p 0 0) (by simp [results, Try.results19, go_sem]) rfl ⟨rfl, below_alloc0 w _⟩
theorem rStore_any (p n : Int) (w : World) : Calls Try.prog 21 #[.int .i64 p, .int .u64 n] w fun e w' => e = .returned (acc 2 p 0 n) ∧ Below w.heap.size w w' := by
  go_enter Try.func21, Try.ntmps21
  go_wp2
  exact bodyPost_ret (v := acc 2 p 0 n) (by simp [results, Try.results21, go_sem]) rfl ⟨rfl, below_alloc0 w _⟩
theorem rCas_any (p o n : Int) (w : World) : Calls Try.prog 23 #[.int .i64 p, .int .u64 o, .int .u64 n] w fun e w' => e = .returned (acc 3 p o n) ∧ Below w.heap.size w w' := by
  go_enter Try.func23, Try.ntmps23
  go_wp2
  exact bodyPost_ret (v := acc 3 p o n) (by simp [results, Try.results23, go_sem]) rfl ⟨rfl, below_alloc0 w _⟩
end Go.Proofs.Ytlmkbnebpaopeaa
