/- The law ShapeMost. -/
import Derived.Test.YtngnjlmpmpdnjaaDoorShLawB
namespace Go.Proofs.YtngnjlmpmpdnjaaDoor
open Go.RowKit Go.Sh
def sA (ss : List ByteArray) (j : Nat) : Int := 2 + ((at' ss j).size : Int)
theorem most_bound (ss : List ByteArray) : ∀ k, k ≤ ss.length → (∀ j, j < k → sA ss j ≤ most (ss.take k)) ∧ (1 ≤ k → ∃ j, j < k ∧ sA ss j = most (ss.take k))
  | 0, _ => ⟨fun j hj => by omega, fun h => by omega⟩
  | k + 1, hk => by
    obtain ⟨h1, h2⟩ := most_bound ss k (by omega)
    have e := most_take (l := ss) (k := k) (by omega)
    have e' : sA ss k = 2 + ((at' ss k).size : Int) := rfl
    rw [← e'] at e
    refine ⟨fun j hj => ?_, fun _ => ?_⟩
    · by_cases hj2 : j < k
      · have := h1 j hj2
        omega
      · obtain rfl : j = k := by omega
        omega
    · by_cases hk0 : k = 0
      · subst hk0
        have : most (ss.take 0) = 0 := rfl
        rw [this] at e
        refine ⟨0, by omega, ?_⟩
        rw [e]
        omega
      · obtain ⟨j, hj, hj2⟩ := h2 (by omega)
        by_cases hm : sA ss k ≤ most (ss.take k)
        · exact ⟨j, by omega, by rw [e, hj2]; omega⟩
        · exact ⟨k, by omega, by rw [e]; omega⟩
theorem most_le {ss : List ByteArray} {j : Nat} (h : j < ss.length) : sA ss j ≤ most ss := by
  have := (most_bound ss ss.length (Nat.le_refl _)).1 j h
  rwa [List.take_length] at this
theorem most_hit {ss : List ByteArray} (h : 1 ≤ ss.length) : ∃ j, j < ss.length ∧ sA ss j = most ss := by
  have := (most_bound ss ss.length (Nat.le_refl _)).2 h
  rwa [List.take_length] at this
def hitK (ss : List ByteArray) (k : Nat) : Bool := (List.range k).any (fun j => decide (sA ss j = most ss))
theorem hitK_succ (ss : List ByteArray) (k : Nat) : hitK ss (k + 1) = (hitK ss k || decide (sA ss k = most ss)) := by
  simp [hitK, List.range_succ]
theorem hitK_all {ss : List ByteArray} (h : 1 ≤ ss.length) : hitK ss ss.length = true := by
  obtain ⟨j, hj, he⟩ := most_hit h
  rw [hitK, List.any_eq_true]
  exact ⟨j, by simpa using hj, by simpa using he⟩
theorem shapeMost_no (v : Value) (ss : List ByteArray) (w : World) (h : IsTab w v ss) (hr : right ss = false) : Holds 8 #[v] w := by
  have HM : Hid (ms ss = (0, 2)) := hid (by simp [ms, hr])
  have T0 := hid h
  clear h hr
  obtain ⟨x, hx⟩ : ∃ x, vs ss = x := ⟨_, rfl⟩
  have c := Most_at v ss 0 2 w T0.out HM.out
  go_enter Tryd.func8, Tryd.ntmps8
  go_wp2_with (go_at_call 13; refine c.mono ?_)
  rintro e w1 ⟨rfl, b1⟩
  have B1 := hid b1
  have cv := vast_any v ss w1 (T0.out.below (Nat.le_refl _) b1)
  rw [hx] at cv
  clear b1 T0 c hx
  cases x with
  | true =>
    go_wp2_with (first | (go_at_call 9; refine cv.mono ?_; rintro e w4 ⟨rfl, rfl⟩) | (go_at_call 10; refine (works_any _).mono ?_; rintro e w6 ⟨rfl, b6⟩))
    go_ret
    exact ⟨rfl, B1.out.trans (b6.mono B1.out.size)⟩
  | false =>
    go_wp2_with (first | (go_at_call 9; refine cv.mono ?_; rintro e w4 ⟨rfl, rfl⟩) | (go_at_call 15; refine (num_any _ _).mono ?_; rintro e w9 ⟨rfl, rfl⟩) | (go_at_call 10; refine (works_any _).mono ?_; rintro e w6 ⟨rfl, b6⟩))
    go_ret
    exact ⟨rfl, B1.out.trans (b6.mono B1.out.size)⟩
theorem right_vs {ss : List ByteArray} (h : right ss = true) : vs ss = false := by
  have h1 := right_len h
  simp only [right, Bool.and_eq_true, List.all_eq_true] at h
  simp only [vs, Bool.or_eq_false_iff, decide_eq_false_iff_not, List.any_eq_false, decide_eq_true_eq]
  refine ⟨by omega, fun x hx => ?_⟩
  have := one_size (h.2 x hx)
  omega
set_option maxRecDepth 100000 in
set_option maxHeartbeats 4000000 in
theorem shapeMost_yes (v : Value) (ss : List ByteArray) (w : World) (h : IsTab w v ss) (hr : right ss = true) : Holds 8 #[v] w := by
  obtain ⟨m, hm⟩ : ∃ m, m = most ss := ⟨_, rfl⟩
  have HM : Hid (ms ss = (m, 0)) := hid (by simp [ms, hr, hm])
  have HMo := hid hm
  have T0 := hid h
  have hv := right_vs hr
  have HR := hid hr
  have HSZ : Hid (∀ k : Nat, k < ss.length → sz ss k = (sA ss k, 0)) := hid (fun k hk => by
    have : inR (k : Int) ss.length = true := by simp [inR]; omega
    rw [sz_in hr this]; rfl)
  have HLE : Hid (∀ k : Nat, k < ss.length → sA ss k ≤ m) := hid (fun k hk => by rw [hm]; exact most_le hk)
  obtain ⟨r1, r16⟩ := right_len hr
  have HAll := hid (hitK_all r1)
  have c := Most_at v ss m 0 w T0.out HM.out
  obtain ⟨a, cap, rfl⟩ := h.len
  obtain ⟨len, hlen⟩ : ∃ len, len = ss.length := ⟨_, rfl⟩
  have HL := hid hlen
  rw [← hlen] at r16 c ⊢
  rw [← hlen] at T0
  clear hlen h hr hm r1
  go_enter Tryd.func8, Tryd.ntmps8
  go_wp2_with (go_at_call 13; refine c.mono ?_)
  rintro e w1 ⟨rfl, b1⟩
  have B1 := hid b1
  have T1 := hid (T0.out.below (Nat.le_refl _) b1)
  have cv := vast_any (.slice a len cap) ss w1 T1.out
  rw [hv] at cv
  clear b1 T0 c hv
  go_wp2_with (first | (go_at_call 9; refine cv.mono ?_; rintro e w4 ⟨rfl, hw4⟩; rw [hw4]; clear hw4) | (go_at_call 15; refine (num_any _ _).mono ?_; rintro e w9 ⟨rfl, hw9⟩; rw [hw9]; clear hw9))
  go_loopw [5, 6] (fun hv i wr => ∃ k : Nat, k ≤ len ∧ i = .int .i64 k ∧ hv = .bool (hitK ss k) ∧ Below w1.heap.size w1 wr) (fun _ i _ => len - (intOf i).toNat)
  case atStart => exact ⟨0, by omega, rfl, rfl, Below.refl _ _⟩
  case round =>
    obtain ⟨k, hk, rfl, rfl, ar⟩ := hrel
    by_cases hlt : k < len
    · have HE := hid (hitK_succ ss k)
      have hle := HLE.out k (by rw [← HL.out]; exact hlt)
      have cs := Size_at (.slice a len cap) ss k (sA ss k) 0 wr (T1.out.below (Nat.le_refl _) ar) (HSZ.out k (by rw [← HL.out]; exact hlt))
      rw [← HMo.out] at HE
      generalize sA ss k = y at *
      obtain ⟨h0, hh0⟩ : ∃ h0, hitK ss k = h0 := ⟨_, rfl⟩
      rw [hh0] at HE ⊢
      clear hh0
      cases h0 with
      | true =>
        go_wp2_with (first | (go_at_call 11; refine cs.mono ?_; rintro e w2 ⟨rfl, b2⟩) | (go_at_call 15; refine (num_any _ _).mono ?_; rintro e w9 ⟨rfl, rfl⟩))
        exact ⟨⟨k + 1, by omega, by simp, by rw [HE.out]; rfl, ar.trans (b2.mono ar.size)⟩, by simp [intOf]; omega⟩
      | false =>
        by_cases hy : y = m
        · have hy' : (y == m) = true := by simpa using hy
          have HD : Hid (decide (y = m) = true) := hid (decide_eq_true hy)
          clear hy
          go_wp2_with (first | (go_at_call 11; refine cs.mono ?_; rintro e w2 ⟨rfl, b2⟩) | (go_at_call 15; refine (num_any _ _).mono ?_; rintro e w9 ⟨rfl, rfl⟩))
          exact ⟨⟨k + 1, by omega, by simp, by rw [HE.out, HD.out]; rfl, ar.trans (b2.mono ar.size)⟩, by simp [intOf]; omega⟩
        · have hy' : (y == m) = false := by simpa using hy
          have HD : Hid (decide (y = m) = false) := hid (decide_eq_false hy)
          clear hy
          go_wp2_with (first | (go_at_call 11; refine cs.mono ?_; rintro e w2 ⟨rfl, b2⟩) | (go_at_call 15; refine (num_any _ _).mono ?_; rintro e w9 ⟨rfl, rfl⟩))
          exact ⟨⟨k + 1, by omega, by simp, by rw [HE.out, HD.out]; rfl, ar.trans (b2.mono ar.size)⟩, by simp [intOf]; omega⟩
    · obtain rfl : k = len := by omega
      have ht : hitK ss k = true := by rw [HL.out]; exact HAll.out
      rw [ht]
      clear ht
      go_wp2_with (go_at_call 10; refine (works_any _).mono ?_; rintro e w6 ⟨rfl, b6⟩)
      go_ret
      exact ⟨rfl, (B1.out.trans (ar.mono B1.out.size)).trans (b6.mono (Nat.le_trans B1.out.size ar.size))⟩
theorem shapeMost_walk (v : Value) (ss : List ByteArray) (w : World) (h : IsTab w v ss) : Holds 8 #[v] w := by
  cases hr : right ss with
  | true => exact shapeMost_yes v ss w h hr
  | false => exact shapeMost_no v ss w h hr
end Go.Proofs.YtngnjlmpmpdnjaaDoor
