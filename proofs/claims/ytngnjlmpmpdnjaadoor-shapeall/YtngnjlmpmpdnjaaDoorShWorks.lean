/- The laws' own helpers: num, vast, works. -/
import Derived.Test.YtngnjlmpmpdnjaaDoorShRefR
namespace Go.Proofs.YtngnjlmpmpdnjaaDoor
open Go.RowKit Go.Sh
theorem num_any (n : Int) (w : World) : Calls Tryd.prog 15 #[.int .i64 n] w fun e w' => e = .returned (.int .i64 n) ∧ w' = w := by
  go_enter Tryd.func15, Tryd.ntmps15
  go_wp2
  go_ret
  exact ⟨rfl, rfl⟩
def vs (ss : List ByteArray) : Bool := decide (20 < ss.length) || ss.any (fun s => decide (20 < s.size))
theorem vast_many (a : Option Addr) (len cap : Nat) (h : 20 < len) (w : World) : Calls Tryd.prog 9 #[.slice a len cap] w fun e w' => e = .returned (.bool true) ∧ w' = w := by
  have h2 : (20 : Int) < (len : Int) := by omega
  go_enter Tryd.func9, Tryd.ntmps9
  go_wp2
  go_ret
  exact ⟨rfl, rfl⟩
theorem vast_none (a : Option Addr) (cap : Nat) (w : World) : Calls Tryd.prog 9 #[.slice a 0 cap] w fun e w' => e = .returned (.bool false) ∧ w' = w := by
  go_enter Tryd.func9, Tryd.ntmps9
  go_wp2
  go_loopw [3] (fun i wr => i = .int .i64 0 ∧ wr = w) (fun _ _ => 0)
  case atStart => exact ⟨rfl, rfl⟩
  case round =>
    obtain ⟨rfl, rfl⟩ := hrel
    go_wp2
    go_ret
    exact ⟨rfl, rfl⟩
set_option maxRecDepth 100000 in
set_option maxHeartbeats 2000000 in
theorem vast_some (b off cap : Nat) (ss : List ByteArray) (w : World) (h20 : ss.length ≤ 20) (hc : Hid (∀ i, i < ss.length → w.cell? ⟨b, off + i, none⟩ = some (.string (at' ss i)))) :
    Calls Tryd.prog 9 #[.slice (some ⟨b, off, none⟩) ss.length cap] w fun e w' => e = .returned (.bool (ss.any (fun s => decide (20 < s.size)))) ∧ w' = w := by
  have g2 : (ss.length : Int) ≤ 20 := by omega
  obtain ⟨len, hlen⟩ : ∃ len, len = ss.length := ⟨_, rfl⟩
  have HL := hid hlen
  rw [← hlen] at h20 g2
  rw [← hlen]
  clear hlen
  go_enter Tryd.func9, Tryd.ntmps9
  go_wp2
  go_loopw [3] (fun i wr => ∃ k : Nat, k ≤ len ∧ i = .int .i64 k ∧ wr = w ∧ Hid (∀ j, j < k → (at' ss j).size ≤ 20)) (fun i _ => len - (intOf i).toNat)
  case atStart => exact ⟨0, by omega, rfl, rfl, hid (fun j hj => by omega)⟩
  case round =>
    obtain ⟨k, hk, rfl, rfl, hall⟩ := hrel
    by_cases hlt : k < len
    · have hcr := hc.out k (by rw [← HL.out]; exact hlt)
      obtain ⟨x, hx⟩ : ∃ x, x = at' ss k := ⟨_, rfl⟩
      rw [← hx] at hcr
      have HX := hid hx
      clear hx
      by_cases ho : 20 < x.size
      · have ho' : (20 : Int) < (x.size : Int) := by omega
        have HN : Hid (ss.any (fun s => decide (20 < s.size)) = true) := hid (by
          rw [List.any_eq_true]
          exact ⟨x, by rw [HX.out]; exact at_mem (by rw [← HL.out]; exact hlt), by simpa using ho⟩)
        clear ho
        go_wp2
        go_ret
        exact ⟨ret_bool HN.out.symm, rfl⟩
      · have ho' : (x.size : Int) ≤ 20 := by omega
        go_wp2
        refine ⟨⟨k + 1, by omega, by simp, trivial, hid (fun j hj => ?_)⟩, by simp [intOf]; omega⟩
        by_cases hj2 : j < k
        · exact hall.out j hj2
        · obtain rfl : j = k := by omega
          rw [← HX.out]; omega
    · obtain rfl : k = len := by omega
      have HN : Hid (ss.any (fun s => decide (20 < s.size)) = false) := hid (by
        rw [List.any_eq_false]
        intro p hp
        obtain ⟨i, hi, rfl⟩ := List.mem_iff_getElem.1 hp
        have := hall.out i (by rw [HL.out]; exact hi)
        rw [at', List.getD_eq_getElem?_getD, List.getElem?_eq_getElem hi, Option.getD_some] at this
        simpa using this)
      go_wp2
      go_ret
      exact ⟨ret_bool HN.out.symm, rfl⟩
theorem vast_any (v : Value) (ss : List ByteArray) (w : World) (h : IsTab w v ss) :
    Calls Tryd.prog 9 #[v] w fun e w' => e = .returned (.bool (vs ss)) ∧ w' = w := by
  by_cases h0 : ss.length = 0
  · obtain ⟨a, cap, rfl⟩ := h.len
    rw [h0]
    refine (vast_none a cap w).mono ?_
    rintro e w' ⟨rfl, b⟩
    exact ⟨ret_bool (by rw [List.eq_nil_of_length_eq_zero h0]; rfl), b⟩
  · by_cases h20 : ss.length ≤ 20
    · obtain ⟨b, off, cap, rfl, hc⟩ := h.some (by omega)
      refine (vast_some b off cap ss w h20 (hid hc)).mono ?_
      rintro e w' ⟨rfl, b⟩
      exact ⟨ret_bool (by simp [vs, show ¬ 20 < ss.length by omega]), b⟩
    · obtain ⟨a, cap, rfl⟩ := h.len
      refine (vast_many a _ cap (by omega) w).mono ?_
      rintro e w' ⟨rfl, b⟩
      exact ⟨ret_bool (by simp [vs, show 20 < ss.length by omega]), b⟩
/-- The table of the chapter's rows. -/
def chap : List ByteArray := [⟨#[112, 115]⟩, ⟨#[]⟩]
theorem chap_tab (w : World) : IsTab (w.alloc (.cells #[.string ⟨#[112, 115]⟩, .string ⟨#[]⟩] 42)) (.slice (some ⟨w.heap.size, 0, none⟩) 2 2) chap := by
  refine .inr ⟨w.heap.size, 0, 2, rfl, fun i hi => ?_⟩
  have : i = 0 ∨ i = 1 := by simp [chap] at hi; omega
  rcases this with rfl | rfl
  · exact cell_last w _ _ 0 _ rfl
  · exact cell_last w _ _ 1 _ rfl
theorem Size_at (v : Value) (ss : List ByteArray) (n a c : Int) (w : World) (h : IsTab w v ss) (hk : sz ss n = (a, c)) :
    Calls Tryd.prog 11 #[v, .int .i64 n] w fun e w' => e = .returned (.tuple #[.int .i64 a, .int .i64 c]) ∧ Below w.heap.size w w' := by
  have := Size_any v ss n w h
  rwa [hk] at this
theorem Is_at (v : Value) (ss : List ByteArray) (n f k c : Int) (w : World) (h : IsTab w v ss) (hk : iz ss n f k = c) :
    Calls Tryd.prog 20 #[v, .int .i64 n, .int .i64 f, .int .i64 k] w fun e w' => e = .returned (.int .i64 c) ∧ Below w.heap.size w w' := by
  subst hk; exact Is_any v ss n f k w h
theorem Text_at (v : Value) (ss : List ByteArray) (x : ByteArray) (c : Int) (w : World) (h : IsTab w v ss) (hk : tx ss = (x, c)) :
    Calls Tryd.prog 24 #[v] w fun e w' => e = .returned (.tuple #[.string x, .int .i64 c]) ∧ Below w.heap.size w w' := by
  have := Text_any v ss w h
  rwa [hk] at this
theorem px_no : rdOk ⟨#[112, 120]⟩ = false := by decide
set_option maxRecDepth 100000 in
set_option maxHeartbeats 8000000 in
theorem works_any (w : World) : Calls Tryd.prog 10 #[] w fun e w' => e = .returned (.bool true) ∧ Below w.heap.size w w' := by
  have T0 := hid (chap_tab w)
  have B0 := hid (below_alloc0 w (.cells #[.string ⟨#[112, 115]⟩, .string ⟨#[]⟩] 42))
  go_enter Tryd.func10, Tryd.ntmps10
  go_wp2_with (go_at_call 11; refine (Size_at _ chap 0 4 0 _ T0.out (by decide)).mono ?_)
  rintro e w1 ⟨rfl, b1⟩
  have T1 := hid (T0.out.below (Nat.le_refl _) b1)
  have B1 := hid (B0.out.trans (b1.mono B0.out.size))
  clear T0 B0 b1
  go_wp2_with (go_at_call 11; refine (Size_at _ chap 1 2 0 _ T1.out (by decide)).mono ?_)
  rintro e w2 ⟨rfl, b2⟩
  have T2 := hid (T1.out.below (Nat.le_refl _) b2)
  have B2 := hid (B1.out.trans (b2.mono B1.out.size))
  clear T1 B1 b2
  go_wp2_with (go_at_call 11; refine (Size_at _ chap 2 0 130 _ T2.out (by decide)).mono ?_)
  rintro e w3 ⟨rfl, b3⟩
  have T3 := hid (T2.out.below (Nat.le_refl _) b3)
  have B3 := hid (B2.out.trans (b3.mono B2.out.size))
  clear T2 B2 b3
  go_wp2_with (go_at_call 18; refine (Kind_at _ chap 0 1 1 0 _ T3.out (by decide)).mono ?_)
  rintro e w4 ⟨rfl, b4⟩
  have T4 := hid (T3.out.below (Nat.le_refl _) b4)
  have B4 := hid (B3.out.trans (b4.mono B3.out.size))
  clear T3 B3 b4
  go_wp2_with (go_at_call 20; refine (Is_at _ chap 0 1 0 132 _ T4.out (by decide)).mono ?_)
  rintro e w5 ⟨rfl, b5⟩
  have T5 := hid (T4.out.below (Nat.le_refl _) b5)
  have B5 := hid (B4.out.trans (b5.mono B4.out.size))
  clear T4 B4 b5
  go_wp2_with (go_at_call 24; refine (Text_at _ chap ⟨#[112, 115, 32, 45]⟩ 0 _ T5.out (by decide)).mono ?_)
  rintro e w6 ⟨rfl, b6⟩
  have B6 := hid (B5.out.trans (b6.mono B5.out.size))
  clear T5 B5 b6
  have cr := Read_any ⟨#[112, 120]⟩ w6 (by decide)
  rw [px_no] at cr
  go_wp2_with (go_at_call 25; refine cr.mono ?_)
  rintro e w7 ⟨v7, rfl, _, b7⟩
  have B7 := hid (B6.out.trans (b7.mono B6.out.size))
  clear B6 b7 cr
  simp only [er]
  go_wp2_with (go_at_call 15; refine (num_any _ _).mono ?_; rintro e w9 ⟨rfl, rfl⟩)
  go_ret
  exact ⟨rfl, B7.out⟩
end Go.Proofs.YtngnjlmpmpdnjaaDoor
