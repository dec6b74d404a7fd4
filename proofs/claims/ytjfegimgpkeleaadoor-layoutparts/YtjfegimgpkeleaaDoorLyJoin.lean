/- strings.Join of one, two or three texts, one blank between. Typed by tools/gen06join.py. -/
import Derived.Test.YtjfegimgpkeleaaDoorShBuild
import Derived.Test.YtjfegimgpkeleaaDoorLyRefC
set_option linter.unusedVariables false
namespace Go.Ly
open Go.Sh
/-- The texts up to one, one blank between. -/
def jn (xs : List ByteArray) : Nat → List UInt8
  | 0 => (at' xs 0).data.toList
  | k + 1 => jn xs k ++ [32] ++ (at' xs (k + 1)).data.toList
theorem bsize (x : ByteArray) : x.data.toList.length = x.size := by rw [Array.length_toList]; rfl
theorem jn_le (xs : List ByteArray) (h : ∀ i, (at' xs i).size ≤ 1000) : ∀ k, (jn xs k).length ≤ 1000 + 1001 * k
  | 0 => by rw [jn, bsize]; have := h 0; omega
  | k + 1 => by
    have := jn_le xs h k
    have h2 := h (k + 1)
    rw [jn, List.length_append, List.length_append, bsize]
    simp only [List.length_cons, List.length_nil]
    omega
end Go.Ly
namespace Go.Proofs.YtjfegimgpkeleaaDoor
open Go.RowKit Go.Ly Go.Sh
theorem join_1 (bk o c : Nat) (x sep : ByteArray) (w : World) (hc : w.cell? ⟨bk, o, none⟩ = some (.string x)) :
    Calls Tryd.prog 40 #[.slice (some ⟨bk, o, none⟩) 1 c, .string sep] w fun e w' => e = .returned (.string x) ∧ w' = w := by
  go_enter Tryd.func40, Tryd.ntmps40
  go_wp2
  go_ret
  exact ⟨rfl, rfl⟩
set_option maxRecDepth 100000 in
set_option maxHeartbeats 8000000 in
theorem join_2 (bk o c : Nat) (xs : List ByteArray) (w : World) (hc : Hid (∀ i, i < 2 → w.cell? ⟨bk, o + i, none⟩ = some (.string (at' xs i)))) (hs : Hid (∀ i, (at' xs i).size ≤ 1000)) (hcap : 2 ≤ c) :
    Calls Tryd.prog 40 #[.slice (some ⟨bk, o, none⟩) 2 c, .string ⟨#[32]⟩] w fun e w' => e = .returned (.string ⟨(jn xs 1).toArray⟩) ∧ Below w.heap.size w w' := by
  have hbk : bk < w.heap.size := block_lt_of_cell (hc.out 0 (by omega))
  have hcap' : (2 : Int) ≤ c := by omega
  go_enter Tryd.func40, Tryd.ntmps40
  go_wp2_with fail
  go_loop [5, 41] (fun n i => ∃ k : Nat, k ≤ 2 ∧ i = .int .i64 (k : Int) ∧ ∃ m : Int, n = .int .i64 m ∧ 0 ≤ m ∧ m ≤ 5 + 1000 * k) (fun _ i => 2 - (intOf i).toNat)
  case atStart => exact ⟨0, by omega, rfl, _, rfl, by omega, by omega⟩
  case round =>
    obtain ⟨k, hk, rfl, m, rfl, m0, m1⟩ := hrel
    by_cases hkn : k < 2
    · have hcell := hc.out k hkn
      have hsz := hs.out k
      generalize at' xs k = x at hcell hsz
      have hsz' : (x.size : Int) ≤ 1000 := by omega
      have mm : m ≤ 5000 := by omega
      have hk3 : (k : Int) < 2 := by omega
      go_wp2
      exact ⟨⟨k + 1, by omega, by go_num, _, rfl, by omega, by omega⟩, by simp [intOf]; omega⟩
    · obtain rfl : k = 2 := by omega
      clear hkn
      obtain ⟨M, rfl⟩ : ∃ M : Nat, m = (M : Int) := ⟨m.toNat, by omega⟩
      have hg := Tryd.Builder_Grow_fresh w.heap.size w.heap.size M _ (Nat.le_refl _) (heap_alloc_last w (.cells #[.pointer none, .slice none 0 0] 104)) (by simp) (by omega)
      go_wp2_with (go_at_call 57; refine hg.mono ?_)
      first | (rintro e w1 ⟨he, h1, hb1⟩; subst he) | (rintro e w1 he h1 hb1; subst he)
      have B1 := hid ((below_alloc0 w (.cells #[.pointer none, .slice none 0 0] 104)).trans hb1)
      have H1 : Hid (IsB w.heap.size w.heap.size [] w1) := hid (Or.inr (Lib.BuilderAtF.of h1))
      clear h1 hb1 hg
      have c0 : w1.cell? ⟨bk, o, none⟩ = some (.string (at' xs 0)) := (B1.out.cell (p := ⟨bk, o, none⟩) hbk).trans (hc.out 0 (by omega))
      have s0 := hs.out 0
      have HJ0 : Hid ((at' xs 0).data.toList = jn xs 0) := hid rfl
      generalize at' xs 0 = x0 at c0 s0 HJ0
      go_wp2_with (go_at_call 58; refine (Write_any w.heap.size w.heap.size [] x0 w1 H1.out (by simp; omega) B1.out.size).mono ?_)
      first | (rintro e w2 ⟨he, h2, hb2⟩; subst he) | (rintro e w2 he h2 hb2; subst he)
      have B2 := hid (B1.out.trans hb2)
      rw [List.nil_append, HJ0.out] at h2
      have H2 := hid h2
      clear h2 hb2 H1 B1 c0 HJ0 s0
      go_wp2_with fail
      go_loopw [65] (fun i wr => ∃ k : Nat, k ≤ 1 ∧ i = .int .i64 (k : Int) ∧ Hid (IsB w.heap.size w.heap.size (jn xs k) wr) ∧ Hid (Below w.heap.size w wr)) (fun i _ => 1 - (intOf i).toNat)
      case atStart => exact ⟨0, by omega, rfl, H2, B2⟩
      case round =>
        obtain ⟨k, hk', rfl, HB, HW⟩ := hrel
        by_cases hkr : k < 1
        · have hcy : wr.cell? ⟨bk, o + 1 + k, none⟩ = some (.string (at' xs (k + 1))) := by
            rw [HW.out.cell (p := ⟨bk, o + 1 + k, none⟩) hbk, show o + 1 + k = o + (k + 1) by omega]
            exact hc.out (k + 1) (by omega)
          have hl := jn_le xs hs.out k
          have sy := hs.out (k + 1)
          have HJ : Hid (jn xs k ++ [32] ++ (at' xs (k + 1)).data.toList = jn xs (k + 1)) := hid rfl
          generalize at' xs (k + 1) = y at hcy sy HJ
          have hk3 : (k : Int) < 1 := by omega
          go_wp2_with (go_at_call 58; refine (Write_any w.heap.size w.heap.size (jn xs k) ⟨#[32]⟩ wr HB.out (by show _ + 1 ≤ _; omega) HW.out.size).mono ?_)
          first | (rintro e w3 ⟨he, h3, hb3⟩; subst he) | (rintro e w3 he h3 hb3; subst he)
          have B3 := hid (HW.out.trans hb3)
          have H3 : Hid (IsB w.heap.size w.heap.size (jn xs k ++ [32]) w3) := hid h3
          clear h3 hb3
          have hl3 : (jn xs k ++ [32]).length + y.size ≤ 1000000 := by rw [List.length_append]; simp only [List.length_cons, List.length_nil]; omega
          go_wp2_with (go_at_call 58; refine (Write_any w.heap.size w.heap.size (jn xs k ++ [32]) y w3 H3.out hl3 B3.out.size).mono ?_)
          first | (rintro e w4 ⟨he, h4, hb4⟩; subst he) | (rintro e w4 he h4 hb4; subst he)
          have B4 := hid (B3.out.trans hb4)
          rw [HJ.out] at h4
          have H4 := hid h4
          clear h4 hb4
          go_wp2
          exact ⟨⟨k + 1, by omega, by go_num, H4, B4⟩, by simp [intOf]; omega⟩
        · obtain rfl : k = 1 := by omega
          clear hkr
          go_wp2_with (go_at_call 59; refine (Tryd.Builder_String_any_f w.heap.size w.heap.size _ wr HB.out HW.out.size).mono ?_)
          first | (rintro e w5 ⟨he, _, hb5⟩; subst he) | (rintro e w5 he _ hb5; subst he)
          have B5 := hid (HW.out.trans hb5)
          clear hb5
          go_wp2
          go_ret
          exact ⟨rfl, B5.out⟩
set_option maxRecDepth 100000 in
set_option maxHeartbeats 8000000 in
theorem join_3 (bk o c : Nat) (xs : List ByteArray) (w : World) (hc : Hid (∀ i, i < 3 → w.cell? ⟨bk, o + i, none⟩ = some (.string (at' xs i)))) (hs : Hid (∀ i, (at' xs i).size ≤ 1000)) (hcap : 3 ≤ c) :
    Calls Tryd.prog 40 #[.slice (some ⟨bk, o, none⟩) 3 c, .string ⟨#[32]⟩] w fun e w' => e = .returned (.string ⟨(jn xs 2).toArray⟩) ∧ Below w.heap.size w w' := by
  have hbk : bk < w.heap.size := block_lt_of_cell (hc.out 0 (by omega))
  have hcap' : (3 : Int) ≤ c := by omega
  go_enter Tryd.func40, Tryd.ntmps40
  go_wp2_with fail
  go_loop [5, 41] (fun n i => ∃ k : Nat, k ≤ 3 ∧ i = .int .i64 (k : Int) ∧ ∃ m : Int, n = .int .i64 m ∧ 0 ≤ m ∧ m ≤ 5 + 1000 * k) (fun _ i => 3 - (intOf i).toNat)
  case atStart => exact ⟨0, by omega, rfl, _, rfl, by omega, by omega⟩
  case round =>
    obtain ⟨k, hk, rfl, m, rfl, m0, m1⟩ := hrel
    by_cases hkn : k < 3
    · have hcell := hc.out k hkn
      have hsz := hs.out k
      generalize at' xs k = x at hcell hsz
      have hsz' : (x.size : Int) ≤ 1000 := by omega
      have mm : m ≤ 5000 := by omega
      have hk3 : (k : Int) < 3 := by omega
      go_wp2
      exact ⟨⟨k + 1, by omega, by go_num, _, rfl, by omega, by omega⟩, by simp [intOf]; omega⟩
    · obtain rfl : k = 3 := by omega
      clear hkn
      obtain ⟨M, rfl⟩ : ∃ M : Nat, m = (M : Int) := ⟨m.toNat, by omega⟩
      have hg := Tryd.Builder_Grow_fresh w.heap.size w.heap.size M _ (Nat.le_refl _) (heap_alloc_last w (.cells #[.pointer none, .slice none 0 0] 104)) (by simp) (by omega)
      go_wp2_with (go_at_call 57; refine hg.mono ?_)
      first | (rintro e w1 ⟨he, h1, hb1⟩; subst he) | (rintro e w1 he h1 hb1; subst he)
      have B1 := hid ((below_alloc0 w (.cells #[.pointer none, .slice none 0 0] 104)).trans hb1)
      have H1 : Hid (IsB w.heap.size w.heap.size [] w1) := hid (Or.inr (Lib.BuilderAtF.of h1))
      clear h1 hb1 hg
      have c0 : w1.cell? ⟨bk, o, none⟩ = some (.string (at' xs 0)) := (B1.out.cell (p := ⟨bk, o, none⟩) hbk).trans (hc.out 0 (by omega))
      have s0 := hs.out 0
      have HJ0 : Hid ((at' xs 0).data.toList = jn xs 0) := hid rfl
      generalize at' xs 0 = x0 at c0 s0 HJ0
      go_wp2_with (go_at_call 58; refine (Write_any w.heap.size w.heap.size [] x0 w1 H1.out (by simp; omega) B1.out.size).mono ?_)
      first | (rintro e w2 ⟨he, h2, hb2⟩; subst he) | (rintro e w2 he h2 hb2; subst he)
      have B2 := hid (B1.out.trans hb2)
      rw [List.nil_append, HJ0.out] at h2
      have H2 := hid h2
      clear h2 hb2 H1 B1 c0 HJ0 s0
      go_wp2_with fail
      go_loopw [65] (fun i wr => ∃ k : Nat, k ≤ 2 ∧ i = .int .i64 (k : Int) ∧ Hid (IsB w.heap.size w.heap.size (jn xs k) wr) ∧ Hid (Below w.heap.size w wr)) (fun i _ => 2 - (intOf i).toNat)
      case atStart => exact ⟨0, by omega, rfl, H2, B2⟩
      case round =>
        obtain ⟨k, hk', rfl, HB, HW⟩ := hrel
        by_cases hkr : k < 2
        · have hcy : wr.cell? ⟨bk, o + 1 + k, none⟩ = some (.string (at' xs (k + 1))) := by
            rw [HW.out.cell (p := ⟨bk, o + 1 + k, none⟩) hbk, show o + 1 + k = o + (k + 1) by omega]
            exact hc.out (k + 1) (by omega)
          have hl := jn_le xs hs.out k
          have sy := hs.out (k + 1)
          have HJ : Hid (jn xs k ++ [32] ++ (at' xs (k + 1)).data.toList = jn xs (k + 1)) := hid rfl
          generalize at' xs (k + 1) = y at hcy sy HJ
          have hk3 : (k : Int) < 2 := by omega
          go_wp2_with (go_at_call 58; refine (Write_any w.heap.size w.heap.size (jn xs k) ⟨#[32]⟩ wr HB.out (by show _ + 1 ≤ _; omega) HW.out.size).mono ?_)
          first | (rintro e w3 ⟨he, h3, hb3⟩; subst he) | (rintro e w3 he h3 hb3; subst he)
          have B3 := hid (HW.out.trans hb3)
          have H3 : Hid (IsB w.heap.size w.heap.size (jn xs k ++ [32]) w3) := hid h3
          clear h3 hb3
          have hl3 : (jn xs k ++ [32]).length + y.size ≤ 1000000 := by rw [List.length_append]; simp only [List.length_cons, List.length_nil]; omega
          go_wp2_with (go_at_call 58; refine (Write_any w.heap.size w.heap.size (jn xs k ++ [32]) y w3 H3.out hl3 B3.out.size).mono ?_)
          first | (rintro e w4 ⟨he, h4, hb4⟩; subst he) | (rintro e w4 he h4 hb4; subst he)
          have B4 := hid (B3.out.trans hb4)
          rw [HJ.out] at h4
          have H4 := hid h4
          clear h4 hb4
          go_wp2
          exact ⟨⟨k + 1, by omega, by go_num, H4, B4⟩, by simp [intOf]; omega⟩
        · obtain rfl : k = 2 := by omega
          clear hkr
          go_wp2_with (go_at_call 59; refine (Tryd.Builder_String_any_f w.heap.size w.heap.size _ wr HB.out HW.out.size).mono ?_)
          first | (rintro e w5 ⟨he, _, hb5⟩; subst he) | (rintro e w5 he _ hb5; subst he)
          have B5 := hid (HW.out.trans hb5)
          clear hb5
          go_wp2
          go_ret
          exact ⟨rfl, B5.out⟩
end Go.Proofs.YtjfegimgpkeleaaDoor
