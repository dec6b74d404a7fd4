/- strings.Join of two to five texts, one blank between. -/
import Derived.Test.YtfnnckbdaedlbaaDoorShBuild
import Derived.Test.YtfnnckbdaedlbaaDoorOpMathC
set_option linter.unusedVariables false
namespace Go.Oq
open Go.Sh
/-- The texts up to one, one blank between. -/
def jq (xs : List ByteArray) : Nat → List UInt8
  | 0 => (at' xs 0).data.toList
  | k + 1 => jq xs k ++ [32] ++ (at' xs (k + 1)).data.toList
theorem bsize' (x : ByteArray) : x.data.toList.length = x.size := by rw [Array.length_toList]; rfl
theorem jq_le (xs : List ByteArray) (h : ∀ i, (at' xs i).size ≤ 1000) : ∀ k, (jq xs k).length ≤ 1000 + 1001 * k
  | 0 => by rw [jq, bsize']; have := h 0; omega
  | k + 1 => by
    have := jq_le xs h k
    have h2 := h (k + 1)
    rw [jq, List.length_append, List.length_append, bsize']
    simp only [List.length_cons, List.length_nil]
    omega
theorem jn_snoc : ∀ (l : List (List UInt8)) (x : List UInt8), l ≠ [] → jn (l ++ [x]) = jn l ++ [32] ++ x
  | [], _, h => absurd rfl h
  | [a], x, _ => by simp [jn]
  | a :: b :: r, x, _ => by
    have := jn_snoc (b :: r) x (by simp)
    simp only [List.cons_append, jn] at this ⊢
    rw [this]
    simp
theorem jq_jn (xs : List ByteArray) : ∀ k, k < xs.length → jq xs k = jn ((xs.take (k + 1)).map (·.data.toList))
  | 0, h => by
    cases xs with
    | nil => simp at h
    | cons a r => simp [jq, jn, at']
  | k + 1, h => by
    rw [jq, jq_jn xs k (by omega), List.take_succ_eq_append_getElem (i := k + 1) h, List.map_append, List.map_cons, List.map_nil, jn_snoc _ _ (by
      intro e
      have := congrArg List.length e
      rw [List.length_map, List.length_take, List.length_nil] at this
      omega)]
    congr 2
    rw [at', List.getD_eq_getElem?_getD, List.getElem?_eq_getElem h]; rfl
theorem jq_all (xs : List ByteArray) (h : 0 < xs.length) : jq xs (xs.length - 1) = jn (xs.map (·.data.toList)) := by
  rw [jq_jn xs _ (by omega), List.take_of_length_le (by omega)]
end Go.Oq
namespace Go.Proofs.YtfnnckbdaedlbaaDoor
open Go.RowKit Go.Oq Go.Sh
theorem qjoin_1 (bk o c : Nat) (x sep : ByteArray) (w : World) (hc : w.cell? ⟨bk, o, none⟩ = some (.string x)) :
    Calls Tryd.prog 36 #[.slice (some ⟨bk, o, none⟩) 1 c, .string sep] w fun e w' => e = .returned (.string x) ∧ w' = w := by
  go_enter Tryd.func36, Tryd.ntmps36
  go_wp2
  go_ret
  exact ⟨rfl, rfl⟩
set_option maxRecDepth 100000 in
set_option maxHeartbeats 8000000 in
theorem qjoin_2 (bk o c : Nat) (xs : List ByteArray) (w : World) (hc : Hid (∀ i, i < 2 → w.cell? ⟨bk, o + i, none⟩ = some (.string (at' xs i)))) (hs : Hid (∀ i, (at' xs i).size ≤ 1000)) (hcap : 2 ≤ c) :
    Calls Tryd.prog 36 #[.slice (some ⟨bk, o, none⟩) 2 c, .string ⟨#[32]⟩] w fun e w' => e = .returned (.string ⟨(jq xs 1).toArray⟩) ∧ Below w.heap.size w w' := by
  have hbk : bk < w.heap.size := block_lt_of_cell (hc.out 0 (by omega))
  have hcap' : (2 : Int) ≤ c := by omega
  go_enter Tryd.func36, Tryd.ntmps36
  go_wp2_with fail
  go_loop [5, 41] (fun n i => ∃ k : Nat, k ≤ 2 ∧ i = .int .i64 (k : Int) ∧ ∃ m : Int, n = .int .i64 m ∧ 0 ≤ m ∧ m ≤ 5 + 1000 * k) (fun _ i => 2 - (intOf i).toNat)
  case atStart => exact ⟨0, by omega, rfl, _, rfl, by omega, by omega⟩
  case round =>
    obtain ⟨k, hk, rfl, m, rfl, m0, m1⟩ := hrel
    by_cases hkn : k < 2
    · have hcell := hc.out k hkn
      have hsz := hs.out k
      generalize at' xs k = x at hcell hsz
      have hsz' : (x.size : Int) ≤ 1000 := by omega
      have mm : m ≤ 5000 := by omega
      have hk3 : (k : Int) < 2 := by omega
      go_wp2
      exact ⟨⟨k + 1, by omega, by go_num, _, rfl, by omega, by omega⟩, by simp [intOf]; omega⟩
    · obtain rfl : k = 2 := by omega
      clear hkn
      obtain ⟨M, rfl⟩ : ∃ M : Nat, m = (M : Int) := ⟨m.toNat, by omega⟩
      have hg := Tryd.Builder_Grow_fresh w.heap.size w.heap.size M _ (Nat.le_refl _) (heap_alloc_last w (.cells #[.pointer none, .slice none 0 0] 109)) (by simp) (by omega)
      go_wp2_with (go_at_call 55; refine hg.mono ?_)
      first | (rintro e w1 ⟨he, h1, hb1⟩; subst he) | (rintro e w1 he h1 hb1; subst he)
      have B1 := hid ((below_alloc0 w (.cells #[.pointer none, .slice none 0 0] 109)).trans hb1)
      have H1 : Hid (IsB w.heap.size w.heap.size [] w1) := hid (Or.inr (Lib.BuilderAtF.of h1))
      clear h1 hb1 hg
      have c0 : w1.cell? ⟨bk, o, none⟩ = some (.string (at' xs 0)) := (B1.out.cell (p := ⟨bk, o, none⟩) hbk).trans (hc.out 0 (by omega))
      have s0 := hs.out 0
      have HJ0 : Hid ((at' xs 0).data.toList = jq xs 0) := hid rfl
      generalize at' xs 0 = x0 at c0 s0 HJ0
      go_wp2_with (go_at_call 56; refine (Write_any w.heap.size w.heap.size [] x0 w1 H1.out (by simp; omega) B1.out.size).mono ?_)
      first | (rintro e w2 ⟨he, h2, hb2⟩; subst he) | (rintro e w2 he h2 hb2; subst he)
      have B2 := hid (B1.out.trans hb2)
      rw [List.nil_append, HJ0.out] at h2
      have H2 := hid h2
      clear h2 hb2 H1 B1 c0 HJ0 s0
      go_wp2_with fail
      go_loopw [65] (fun i wr => ∃ k : Nat, k ≤ 1 ∧ i = .int .i64 (k : Int) ∧ Hid (IsB w.heap.size w.heap.size (jq xs k) wr) ∧ Hid (Below w.heap.size w wr)) (fun i _ => 1 - (intOf i).toNat)
      case atStart => exact ⟨0, by omega, rfl, H2, B2⟩
      case round =>
        obtain ⟨k, hk', rfl, HB, HW⟩ := hrel
        by_cases hkr : k < 1
        · have hcy : wr.cell? ⟨bk, o + 1 + k, none⟩ = some (.string (at' xs (k + 1))) := by
            rw [HW.out.cell (p := ⟨bk, o + 1 + k, none⟩) hbk, show o + 1 + k = o + (k + 1) by omega]
            exact hc.out (k + 1) (by omega)
          have hl := jq_le xs hs.out k
          have sy := hs.out (k + 1)
          have HJ : Hid (jq xs k ++ [32] ++ (at' xs (k + 1)).data.toList = jq xs (k + 1)) := hid rfl
          generalize at' xs (k + 1) = y at hcy sy HJ
          have hk3 : (k : Int) < 1 := by omega
          go_wp2_with (go_at_call 56; refine (Write_any w.heap.size w.heap.size (jq xs k) ⟨#[32]⟩ wr HB.out (by show _ + 1 ≤ _; omega) HW.out.size).mono ?_)
          first | (rintro e w3 ⟨he, h3, hb3⟩; subst he) | (rintro e w3 he h3 hb3; subst he)
          have B3 := hid (HW.out.trans hb3)
          have H3 : Hid (IsB w.heap.size w.heap.size (jq xs k ++ [32]) w3) := hid h3
          clear h3 hb3
          have hl3 : (jq xs k ++ [32]).length + y.size ≤ 1000000 := by rw [List.length_append]; simp only [List.length_cons, List.length_nil]; omega
          go_wp2_with (go_at_call 56; refine (Write_any w.heap.size w.heap.size (jq xs k ++ [32]) y w3 H3.out hl3 B3.out.size).mono ?_)
          first | (rintro e w4 ⟨he, h4, hb4⟩; subst he) | (rintro e w4 he h4 hb4; subst he)
          have B4 := hid (B3.out.trans hb4)
          rw [HJ.out] at h4
          have H4 := hid h4
          clear h4 hb4
          go_wp2
          exact ⟨⟨k + 1, by omega, by go_num, H4, B4⟩, by simp [intOf]; omega⟩
        · obtain rfl : k = 1 := by omega
          clear hkr
          go_wp2_with (go_at_call 57; refine (Tryd.Builder_String_any_f w.heap.size w.heap.size _ wr HB.out HW.out.size).mono ?_)
          first | (rintro e w5 ⟨he, _, hb5⟩; subst he) | (rintro e w5 he _ hb5; subst he)
          have B5 := hid (HW.out.trans hb5)
          clear hb5
          go_wp2
          go_ret
          exact ⟨rfl, B5.out⟩
set_option maxRecDepth 100000 in
set_option maxHeartbeats 8000000 in
theorem qjoin_3 (bk o c : Nat) (xs : List ByteArray) (w : World) (hc : Hid (∀ i, i < 3 → w.cell? ⟨bk, o + i, none⟩ = some (.string (at' xs i)))) (hs : Hid (∀ i, (at' xs i).size ≤ 1000)) (hcap : 3 ≤ c) :
    Calls Tryd.prog 36 #[.slice (some ⟨bk, o, none⟩) 3 c, .string ⟨#[32]⟩] w fun e w' => e = .returned (.string ⟨(jq xs 2).toArray⟩) ∧ Below w.heap.size w w' := by
  have hbk : bk < w.heap.size := block_lt_of_cell (hc.out 0 (by omega))
  have hcap' : (3 : Int) ≤ c := by omega
  go_enter Tryd.func36, Tryd.ntmps36
  go_wp2_with fail
  go_loop [5, 41] (fun n i => ∃ k : Nat, k ≤ 3 ∧ i = .int .i64 (k : Int) ∧ ∃ m : Int, n = .int .i64 m ∧ 0 ≤ m ∧ m ≤ 5 + 1000 * k) (fun _ i => 3 - (intOf i).toNat)
  case atStart => exact ⟨0, by omega, rfl, _, rfl, by omega, by omega⟩
  case round =>
    obtain ⟨k, hk, rfl, m, rfl, m0, m1⟩ := hrel
    by_cases hkn : k < 3
    · have hcell := hc.out k hkn
      have hsz := hs.out k
      generalize at' xs k = x at hcell hsz
      have hsz' : (x.size : Int) ≤ 1000 := by omega
      have mm : m ≤ 5000 := by omega
      have hk3 : (k : Int) < 3 := by omega
      go_wp2
      exact ⟨⟨k + 1, by omega, by go_num, _, rfl, by omega, by omega⟩, by simp [intOf]; omega⟩
    · obtain rfl : k = 3 := by omega
      clear hkn
      obtain ⟨M, rfl⟩ : ∃ M : Nat, m = (M : Int) := ⟨m.toNat, by omega⟩
      have hg := Tryd.Builder_Grow_fresh w.heap.size w.heap.size M _ (Nat.le_refl _) (heap_alloc_last w (.cells #[.pointer none, .slice none 0 0] 109)) (by simp) (by omega)
      go_wp2_with (go_at_call 55; refine hg.mono ?_)
      first | (rintro e w1 ⟨he, h1, hb1⟩; subst he) | (rintro e w1 he h1 hb1; subst he)
      have B1 := hid ((below_alloc0 w (.cells #[.pointer none, .slice none 0 0] 109)).trans hb1)
      have H1 : Hid (IsB w.heap.size w.heap.size [] w1) := hid (Or.inr (Lib.BuilderAtF.of h1))
      clear h1 hb1 hg
      have c0 : w1.cell? ⟨bk, o, none⟩ = some (.string (at' xs 0)) := (B1.out.cell (p := ⟨bk, o, none⟩) hbk).trans (hc.out 0 (by omega))
      have s0 := hs.out 0
      have HJ0 : Hid ((at' xs 0).data.toList = jq xs 0) := hid rfl
      generalize at' xs 0 = x0 at c0 s0 HJ0
      go_wp2_with (go_at_call 56; refine (Write_any w.heap.size w.heap.size [] x0 w1 H1.out (by simp; omega) B1.out.size).mono ?_)
      first | (rintro e w2 ⟨he, h2, hb2⟩; subst he) | (rintro e w2 he h2 hb2; subst he)
      have B2 := hid (B1.out.trans hb2)
      rw [List.nil_append, HJ0.out] at h2
      have H2 := hid h2
      clear h2 hb2 H1 B1 c0 HJ0 s0
      go_wp2_with fail
      go_loopw [65] (fun i wr => ∃ k : Nat, k ≤ 2 ∧ i = .int .i64 (k : Int) ∧ Hid (IsB w.heap.size w.heap.size (jq xs k) wr) ∧ Hid (Below w.heap.size w wr)) (fun i _ => 2 - (intOf i).toNat)
      case atStart => exact ⟨0, by omega, rfl, H2, B2⟩
      case round =>
        obtain ⟨k, hk', rfl, HB, HW⟩ := hrel
        by_cases hkr : k < 2
        · have hcy : wr.cell? ⟨bk, o + 1 + k, none⟩ = some (.string (at' xs (k + 1))) := by
            rw [HW.out.cell (p := ⟨bk, o + 1 + k, none⟩) hbk, show o + 1 + k = o + (k + 1) by omega]
            exact hc.out (k + 1) (by omega)
          have hl := jq_le xs hs.out k
          have sy := hs.out (k + 1)
          have HJ : Hid (jq xs k ++ [32] ++ (at' xs (k + 1)).data.toList = jq xs (k + 1)) := hid rfl
          generalize at' xs (k + 1) = y at hcy sy HJ
          have hk3 : (k : Int) < 2 := by omega
          go_wp2_with (go_at_call 56; refine (Write_any w.heap.size w.heap.size (jq xs k) ⟨#[32]⟩ wr HB.out (by show _ + 1 ≤ _; omega) HW.out.size).mono ?_)
          first | (rintro e w3 ⟨he, h3, hb3⟩; subst he) | (rintro e w3 he h3 hb3; subst he)
          have B3 := hid (HW.out.trans hb3)
          have H3 : Hid (IsB w.heap.size w.heap.size (jq xs k ++ [32]) w3) := hid h3
          clear h3 hb3
          have hl3 : (jq xs k ++ [32]).length + y.size ≤ 1000000 := by rw [List.length_append]; simp only [List.length_cons, List.length_nil]; omega
          go_wp2_with (go_at_call 56; refine (Write_any w.heap.size w.heap.size (jq xs k ++ [32]) y w3 H3.out hl3 B3.out.size).mono ?_)
          first | (rintro e w4 ⟨he, h4, hb4⟩; subst he) | (rintro e w4 he h4 hb4; subst he)
          have B4 := hid (B3.out.trans hb4)
          rw [HJ.out] at h4
          have H4 := hid h4
          clear h4 hb4
          go_wp2
          exact ⟨⟨k + 1, by omega, by go_num, H4, B4⟩, by simp [intOf]; omega⟩
        · obtain rfl : k = 2 := by omega
          clear hkr
          go_wp2_with (go_at_call 57; refine (Tryd.Builder_String_any_f w.heap.size w.heap.size _ wr HB.out HW.out.size).mono ?_)
          first | (rintro e w5 ⟨he, _, hb5⟩; subst he) | (rintro e w5 he _ hb5; subst he)
          have B5 := hid (HW.out.trans hb5)
          clear hb5
          go_wp2
          go_ret
          exact ⟨rfl, B5.out⟩
set_option maxRecDepth 100000 in
set_option maxHeartbeats 8000000 in
theorem qjoin_4 (bk o c : Nat) (xs : List ByteArray) (w : World) (hc : Hid (∀ i, i < 4 → w.cell? ⟨bk, o + i, none⟩ = some (.string (at' xs i)))) (hs : Hid (∀ i, (at' xs i).size ≤ 1000)) (hcap : 4 ≤ c) :
    Calls Tryd.prog 36 #[.slice (some ⟨bk, o, none⟩) 4 c, .string ⟨#[32]⟩] w fun e w' => e = .returned (.string ⟨(jq xs 3).toArray⟩) ∧ Below w.heap.size w w' := by
  have hbk : bk < w.heap.size := block_lt_of_cell (hc.out 0 (by omega))
  have hcap' : (4 : Int) ≤ c := by omega
  go_enter Tryd.func36, Tryd.ntmps36
  go_wp2_with fail
  go_loop [5, 41] (fun n i => ∃ k : Nat, k ≤ 4 ∧ i = .int .i64 (k : Int) ∧ ∃ m : Int, n = .int .i64 m ∧ 0 ≤ m ∧ m ≤ 5 + 1000 * k) (fun _ i => 4 - (intOf i).toNat)
  case atStart => exact ⟨0, by omega, rfl, _, rfl, by omega, by omega⟩
  case round =>
    obtain ⟨k, hk, rfl, m, rfl, m0, m1⟩ := hrel
    by_cases hkn : k < 4
    · have hcell := hc.out k hkn
      have hsz := hs.out k
      generalize at' xs k = x at hcell hsz
      have hsz' : (x.size : Int) ≤ 1000 := by omega
      have mm : m ≤ 5000 := by omega
      have hk3 : (k : Int) < 4 := by omega
      go_wp2
      exact ⟨⟨k + 1, by omega, by go_num, _, rfl, by omega, by omega⟩, by simp [intOf]; omega⟩
    · obtain rfl : k = 4 := by omega
      clear hkn
      obtain ⟨M, rfl⟩ : ∃ M : Nat, m = (M : Int) := ⟨m.toNat, by omega⟩
      have hg := Tryd.Builder_Grow_fresh w.heap.size w.heap.size M _ (Nat.le_refl _) (heap_alloc_last w (.cells #[.pointer none, .slice none 0 0] 109)) (by simp) (by omega)
      go_wp2_with (go_at_call 55; refine hg.mono ?_)
      first | (rintro e w1 ⟨he, h1, hb1⟩; subst he) | (rintro e w1 he h1 hb1; subst he)
      have B1 := hid ((below_alloc0 w (.cells #[.pointer none, .slice none 0 0] 109)).trans hb1)
      have H1 : Hid (IsB w.heap.size w.heap.size [] w1) := hid (Or.inr (Lib.BuilderAtF.of h1))
      clear h1 hb1 hg
      have c0 : w1.cell? ⟨bk, o, none⟩ = some (.string (at' xs 0)) := (B1.out.cell (p := ⟨bk, o, none⟩) hbk).trans (hc.out 0 (by omega))
      have s0 := hs.out 0
      have HJ0 : Hid ((at' xs 0).data.toList = jq xs 0) := hid rfl
      generalize at' xs 0 = x0 at c0 s0 HJ0
      go_wp2_with (go_at_call 56; refine (Write_any w.heap.size w.heap.size [] x0 w1 H1.out (by simp; omega) B1.out.size).mono ?_)
      first | (rintro e w2 ⟨he, h2, hb2⟩; subst he) | (rintro e w2 he h2 hb2; subst he)
      have B2 := hid (B1.out.trans hb2)
      rw [List.nil_append, HJ0.out] at h2
      have H2 := hid h2
      clear h2 hb2 H1 B1 c0 HJ0 s0
      go_wp2_with fail
      go_loopw [65] (fun i wr => ∃ k : Nat, k ≤ 3 ∧ i = .int .i64 (k : Int) ∧ Hid (IsB w.heap.size w.heap.size (jq xs k) wr) ∧ Hid (Below w.heap.size w wr)) (fun i _ => 3 - (intOf i).toNat)
      case atStart => exact ⟨0, by omega, rfl, H2, B2⟩
      case round =>
        obtain ⟨k, hk', rfl, HB, HW⟩ := hrel
        by_cases hkr : k < 3
        · have hcy : wr.cell? ⟨bk, o + 1 + k, none⟩ = some (.string (at' xs (k + 1))) := by
            rw [HW.out.cell (p := ⟨bk, o + 1 + k, none⟩) hbk, show o + 1 + k = o + (k + 1) by omega]
            exact hc.out (k + 1) (by omega)
          have hl := jq_le xs hs.out k
          have sy := hs.out (k + 1)
          have HJ : Hid (jq xs k ++ [32] ++ (at' xs (k + 1)).data.toList = jq xs (k + 1)) := hid rfl
          generalize at' xs (k + 1) = y at hcy sy HJ
          have hk3 : (k : Int) < 3 := by omega
          go_wp2_with (go_at_call 56; refine (Write_any w.heap.size w.heap.size (jq xs k) ⟨#[32]⟩ wr HB.out (by show _ + 1 ≤ _; omega) HW.out.size).mono ?_)
          first | (rintro e w3 ⟨he, h3, hb3⟩; subst he) | (rintro e w3 he h3 hb3; subst he)
          have B3 := hid (HW.out.trans hb3)
          have H3 : Hid (IsB w.heap.size w.heap.size (jq xs k ++ [32]) w3) := hid h3
          clear h3 hb3
          have hl3 : (jq xs k ++ [32]).length + y.size ≤ 1000000 := by rw [List.length_append]; simp only [List.length_cons, List.length_nil]; omega
          go_wp2_with (go_at_call 56; refine (Write_any w.heap.size w.heap.size (jq xs k ++ [32]) y w3 H3.out hl3 B3.out.size).mono ?_)
          first | (rintro e w4 ⟨he, h4, hb4⟩; subst he) | (rintro e w4 he h4 hb4; subst he)
          have B4 := hid (B3.out.trans hb4)
          rw [HJ.out] at h4
          have H4 := hid h4
          clear h4 hb4
          go_wp2
          exact ⟨⟨k + 1, by omega, by go_num, H4, B4⟩, by simp [intOf]; omega⟩
        · obtain rfl : k = 3 := by omega
          clear hkr
          go_wp2_with (go_at_call 57; refine (Tryd.Builder_String_any_f w.heap.size w.heap.size _ wr HB.out HW.out.size).mono ?_)
          first | (rintro e w5 ⟨he, _, hb5⟩; subst he) | (rintro e w5 he _ hb5; subst he)
          have B5 := hid (HW.out.trans hb5)
          clear hb5
          go_wp2
          go_ret
          exact ⟨rfl, B5.out⟩
set_option maxRecDepth 100000 in
set_option maxHeartbeats 8000000 in
theorem qjoin_5 (bk o c : Nat) (xs : List ByteArray) (w : World) (hc : Hid (∀ i, i < 5 → w.cell? ⟨bk, o + i, none⟩ = some (.string (at' xs i)))) (hs : Hid (∀ i, (at' xs i).size ≤ 1000)) (hcap : 5 ≤ c) :
    Calls Tryd.prog 36 #[.slice (some ⟨bk, o, none⟩) 5 c, .string ⟨#[32]⟩] w fun e w' => e = .returned (.string ⟨(jq xs 4).toArray⟩) ∧ Below w.heap.size w w' := by
  have hbk : bk < w.heap.size := block_lt_of_cell (hc.out 0 (by omega))
  have hcap' : (5 : Int) ≤ c := by omega
  go_enter Tryd.func36, Tryd.ntmps36
  go_wp2_with fail
  go_loop [5, 41] (fun n i => ∃ k : Nat, k ≤ 5 ∧ i = .int .i64 (k : Int) ∧ ∃ m : Int, n = .int .i64 m ∧ 0 ≤ m ∧ m ≤ 5 + 1000 * k) (fun _ i => 5 - (intOf i).toNat)
  case atStart => exact ⟨0, by omega, rfl, _, rfl, by omega, by omega⟩
  case round =>
    obtain ⟨k, hk, rfl, m, rfl, m0, m1⟩ := hrel
    by_cases hkn : k < 5
    · have hcell := hc.out k hkn
      have hsz := hs.out k
      generalize at' xs k = x at hcell hsz
      have hsz' : (x.size : Int) ≤ 1000 := by omega
      have mm : m ≤ 5000 := by omega
      have hk3 : (k : Int) < 5 := by omega
      go_wp2
      exact ⟨⟨k + 1, by omega, by go_num, _, rfl, by omega, by omega⟩, by simp [intOf]; omega⟩
    · obtain rfl : k = 5 := by omega
      clear hkn
      obtain ⟨M, rfl⟩ : ∃ M : Nat, m = (M : Int) := ⟨m.toNat, by omega⟩
      have hg := Tryd.Builder_Grow_fresh w.heap.size w.heap.size M _ (Nat.le_refl _) (heap_alloc_last w (.cells #[.pointer none, .slice none 0 0] 109)) (by simp) (by omega)
      go_wp2_with (go_at_call 55; refine hg.mono ?_)
      first | (rintro e w1 ⟨he, h1, hb1⟩; subst he) | (rintro e w1 he h1 hb1; subst he)
      have B1 := hid ((below_alloc0 w (.cells #[.pointer none, .slice none 0 0] 109)).trans hb1)
      have H1 : Hid (IsB w.heap.size w.heap.size [] w1) := hid (Or.inr (Lib.BuilderAtF.of h1))
      clear h1 hb1 hg
      have c0 : w1.cell? ⟨bk, o, none⟩ = some (.string (at' xs 0)) := (B1.out.cell (p := ⟨bk, o, none⟩) hbk).trans (hc.out 0 (by omega))
      have s0 := hs.out 0
      have HJ0 : Hid ((at' xs 0).data.toList = jq xs 0) := hid rfl
      generalize at' xs 0 = x0 at c0 s0 HJ0
      go_wp2_with (go_at_call 56; refine (Write_any w.heap.size w.heap.size [] x0 w1 H1.out (by simp; omega) B1.out.size).mono ?_)
      first | (rintro e w2 ⟨he, h2, hb2⟩; subst he) | (rintro e w2 he h2 hb2; subst he)
      have B2 := hid (B1.out.trans hb2)
      rw [List.nil_append, HJ0.out] at h2
      have H2 := hid h2
      clear h2 hb2 H1 B1 c0 HJ0 s0
      go_wp2_with fail
      go_loopw [65] (fun i wr => ∃ k : Nat, k ≤ 4 ∧ i = .int .i64 (k : Int) ∧ Hid (IsB w.heap.size w.heap.size (jq xs k) wr) ∧ Hid (Below w.heap.size w wr)) (fun i _ => 4 - (intOf i).toNat)
      case atStart => exact ⟨0, by omega, rfl, H2, B2⟩
      case round =>
        obtain ⟨k, hk', rfl, HB, HW⟩ := hrel
        by_cases hkr : k < 4
        · have hcy : wr.cell? ⟨bk, o + 1 + k, none⟩ = some (.string (at' xs (k + 1))) := by
            rw [HW.out.cell (p := ⟨bk, o + 1 + k, none⟩) hbk, show o + 1 + k = o + (k + 1) by omega]
            exact hc.out (k + 1) (by omega)
          have hl := jq_le xs hs.out k
          have sy := hs.out (k + 1)
          have HJ : Hid (jq xs k ++ [32] ++ (at' xs (k + 1)).data.toList = jq xs (k + 1)) := hid rfl
          generalize at' xs (k + 1) = y at hcy sy HJ
          have hk3 : (k : Int) < 4 := by omega
          go_wp2_with (go_at_call 56; refine (Write_any w.heap.size w.heap.size (jq xs k) ⟨#[32]⟩ wr HB.out (by show _ + 1 ≤ _; omega) HW.out.size).mono ?_)
          first | (rintro e w3 ⟨he, h3, hb3⟩; subst he) | (rintro e w3 he h3 hb3; subst he)
          have B3 := hid (HW.out.trans hb3)
          have H3 : Hid (IsB w.heap.size w.heap.size (jq xs k ++ [32]) w3) := hid h3
          clear h3 hb3
          have hl3 : (jq xs k ++ [32]).length + y.size ≤ 1000000 := by rw [List.length_append]; simp only [List.length_cons, List.length_nil]; omega
          go_wp2_with (go_at_call 56; refine (Write_any w.heap.size w.heap.size (jq xs k ++ [32]) y w3 H3.out hl3 B3.out.size).mono ?_)
          first | (rintro e w4 ⟨he, h4, hb4⟩; subst he) | (rintro e w4 he h4 hb4; subst he)
          have B4 := hid (B3.out.trans hb4)
          rw [HJ.out] at h4
          have H4 := hid h4
          clear h4 hb4
          go_wp2
          exact ⟨⟨k + 1, by omega, by go_num, H4, B4⟩, by simp [intOf]; omega⟩
        · obtain rfl : k = 4 := by omega
          clear hkr
          go_wp2_with (go_at_call 57; refine (Tryd.Builder_String_any_f w.heap.size w.heap.size _ wr HB.out HW.out.size).mono ?_)
          first | (rintro e w5 ⟨he, _, hb5⟩; subst he) | (rintro e w5 he _ hb5; subst he)
          have B5 := hid (HW.out.trans hb5)
          clear hb5
          go_wp2
          go_ret
          exact ⟨rfl, B5.out⟩
/-- Join of one to five texts. -/
theorem qjoin (bk c : Nat) (xs : List ByteArray) (w : World) (h1 : 1 ≤ xs.length) (h5 : xs.length ≤ 5) (hc : Hid (∀ i, i < xs.length → w.cell? ⟨bk, 0 + i, none⟩ = some (.string (at' xs i)))) (hs : Hid (∀ i, (at' xs i).size ≤ 1000)) (hcap : xs.length ≤ c) :
    Calls Tryd.prog 36 #[.slice (some ⟨bk, 0, none⟩) xs.length c, .string ⟨#[32]⟩] w fun e w' => e = .returned (.string (bs (jn (xs.map (·.data.toList))))) ∧ Below w.heap.size w w' := by
  have hj := jq_all xs (by omega)
  have : xs.length = 1 ∨ xs.length = 2 ∨ xs.length = 3 ∨ xs.length = 4 ∨ xs.length = 5 := by omega
  rcases this with e | e | e | e | e <;> rw [e] at hj hc hcap ⊢
  · refine (qjoin_1 bk 0 c (at' xs 0) ⟨#[32]⟩ w (hc.out 0 (by omega))).mono ?_
    rintro e' w' ⟨rfl, rfl⟩
    exact ⟨by rw [← hj]; rfl, Below.refl _ _⟩
  · refine (qjoin_2 bk 0 c xs w hc hs hcap).mono ?_
    rintro e' w' ⟨rfl, hb⟩
    exact ⟨by rw [← hj]; rfl, hb⟩
  · refine (qjoin_3 bk 0 c xs w hc hs hcap).mono ?_
    rintro e' w' ⟨rfl, hb⟩
    exact ⟨by rw [← hj]; rfl, hb⟩
  · refine (qjoin_4 bk 0 c xs w hc hs hcap).mono ?_
    rintro e' w' ⟨rfl, hb⟩
    exact ⟨by rw [← hj]; rfl, hb⟩
  · refine (qjoin_5 bk 0 c xs w hc hs hcap).mono ?_
    rintro e' w' ⟨rfl, hb⟩
    exact ⟨by rw [← hj]; rfl, hb⟩
end Go.Proofs.YtfnnckbdaedlbaaDoor
