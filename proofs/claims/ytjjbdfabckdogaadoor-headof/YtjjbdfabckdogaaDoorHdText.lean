/- package head: Text; numbers below 16 in texts. -/
import Derived.Test.YtjjbdfabckdogaaDoorHdMore
namespace Go.Hd
/-- A number below 16 as a text. -/
def it (k : Nat) : ByteArray := if k < 10 then ⟨#[UInt8.ofNat (48 + k)]⟩ else ⟨#[49, UInt8.ofNat (38 + k)]⟩
theorem it_size (k : Nat) : (it k).size ≤ 2 := by
  unfold it; split <;> simp [ByteArray.size]
theorem nm_size (k : Nat) : (nm k).size ≤ 5 := by
  unfold nm; split <;> decide
theorem lt16 {k : Nat} (h : k < 16) : k = 0 ∨ k = 1 ∨ k = 2 ∨ k = 3 ∨ k = 4 ∨ k = 5 ∨ k = 6 ∨ k = 7 ∨ k = 8 ∨ k = 9 ∨ k = 10 ∨ k = 11 ∨ k = 12 ∨ k = 13 ∨ k = 14 ∨ k = 15 := by omega
/-- A header's text. -/
def hx (s m : Nat) : ByteArray := it s ++ ⟨#[32]⟩ ++ nm m
/-- What Text answers. -/
def txv (x : Int) : ByteArray × Int := if isH x then (hx (x / 32).toNat (x / 8 % 4).toNat, 0) else (⟨#[]⟩, 2)
theorem isH_nat {x : Int} (h : isH x = true) : ∃ s m : Nat, s < 16 ∧ m < 3 ∧ x / 32 = s ∧ x / 8 % 4 = m := by
  obtain ⟨h1, _, _⟩ := isH_is h
  obtain ⟨a, b, c, d⟩ := ok_yes h1
  exact ⟨(x / 32).toNat, (x / 8 % 4).toNat, by omega, by omega, by omega, by omega⟩
end Go.Hd
namespace Go.Proofs.YtjjbdfabckdogaaDoor
open Go.RowKit Go.Hd Go.Sh Go.Sort
set_option maxRecDepth 100000 in
theorem small_at (k : Nat) (w : World) (hk : k < 16) : Calls Tryd.prog 47 #[.int .i64 (k : Int)] w fun e w' => e = .returned (.string (it k)) ∧ w' = w := by
  rcases lt16 hk with rfl | rfl | rfl | rfl | rfl | rfl | rfl | rfl | rfl | rfl | rfl | rfl | rfl | rfl | rfl | rfl
  all_goals
    clear hk
    go_enter Tryd.func47, Tryd.ntmps47
    go_wp2
    go_ret
    exact ⟨by kernel_rfl, rfl⟩
theorem format_at (k : Nat) (w : World) (hk : k < 16) : Calls Tryd.prog 43 #[.int .i64 (k : Int), .int .i64 10] w fun e w' => e = .returned (.string (it k)) ∧ w' = w := by
  have c := small_at k w hk
  have h1 : (k : Int) < 100 := by omega
  go_enter Tryd.func43, Tryd.ntmps43
  go_wp2_with (go_at_call 47; refine c.mono ?_)
  rintro e w1 ⟨rfl, hw⟩; rw [hw]; clear hw w1
  go_wp2
  go_ret
  exact ⟨rfl, rfl⟩
theorem iitoa_at (k : Nat) (w : World) (hk : k < 16) : Calls Tryd.prog 36 #[.int .i64 (k : Int)] w fun e w' => e = .returned (.string (it k)) ∧ w' = w := by
  have c := format_at k w hk
  go_enter Tryd.func36, Tryd.ntmps36
  go_wp2_with (go_at_call 43; refine c.mono ?_)
  rintro e w1 ⟨rfl, hw⟩; rw [hw]; clear hw w1
  go_wp2
  go_ret
  exact ⟨rfl, rfl⟩
theorem itoa_at (k : Nat) (w : World) (hk : k < 16) : Calls Tryd.prog 30 #[.int .i64 (k : Int)] w fun e w' => e = .returned (.string (it k)) ∧ w' = w := by
  have c := iitoa_at k w hk
  go_enter Tryd.func30, Tryd.ntmps30
  go_wp2_with (go_at_call 36; refine c.mono ?_)
  rintro e w1 ⟨rfl, hw⟩; rw [hw]; clear hw w1
  go_wp2
  go_ret
  exact ⟨rfl, rfl⟩
set_option maxHeartbeats 2000000 in
theorem text_no (x : Int) (w : World) (x0 : 0 ≤ x) (x1 : x ≤ 18446744073709551615) (h : isH x = false) : Calls Tryd.prog 20 #[.int .u64 x] w fun e w' => e = .returned (.tuple #[.string ⟨#[]⟩, .int .i64 2]) ∧ Below w.heap.size w w' := by
  have c := fun W => of_no x W x0 x1 h
  clear h x0 x1
  go_enter Tryd.func20, Tryd.ntmps20
  go_wp2_with (go_at_call 11; refine (c _).mono ?_)
  rintro e w1 ⟨rfl, b1⟩
  go_wp2
  go_ret2
  exact ⟨rfl, b1.alloc b1.size _⟩
set_option maxHeartbeats 2000000 in
theorem text_is (x : Int) (s m : Nat) (w : World) (x0 : 0 ≤ x) (x1 : x ≤ 18446744073709551615) (h : isH x = true) (hs : s < 16) (hm : m < 3) (es : x / 32 = s) (em : x / 8 % 4 = m) (hN : Names w) :
    Calls Tryd.prog 20 #[.int .u64 x] w fun e w' => e = .returned (.tuple #[.string (hx s m), .int .i64 0]) ∧ Below w.heap.size w w' := by
  have c := fun W => of_yes x W x0 x1 h
  rw [es, em] at c
  have HN := hid hN
  have HS : Hid (it s ++ ⟨#[32]⟩ ++ nm m = hx s m) := hid rfl
  have ci := fun W => itoa_at s W hs
  have zi := it_size s
  have zn := nm_size m
  have m3 : (m : Int) < 3 := by omega
  clear h x0 x1 es em hN hs
  generalize it s = T at *
  generalize hx s m = R at *
  go_enter Tryd.func20, Tryd.ntmps20
  go_wp2_with (go_at_call 11; refine (c _).mono ?_)
  rintro e w1 ⟨rfl, b1⟩
  go_wp2_with fail
  have c0 := cell_last w1 #[.int .i64 (s : Int), .int .i64 (m : Int)] 24 0 _ rfl
  have c1 := cell_last w1 #[.int .i64 (s : Int), .int .i64 (m : Int)] 24 1 _ rfl
  have bw := b1.alloc b1.size (.cells #[.int .i64 (s : Int), .int .i64 (m : Int)] 24)
  have cn := (HN.out.below bw).2 m hm
  clear b1 HN hm
  generalize nm m = N at *
  generalize w1.alloc (.cells #[.int .i64 (s : Int), .int .i64 (m : Int)] 24) = W at *
  generalize w1.heap.size = g at *
  have c0 := cell_regrown c0
  have c1 := cell_regrown c1
  have cn := cell_regrown cn
  have cI : ∀ d os, Calls Tryd.prog 30 #[.int .i64 (s : Int)] (grow (redrawn W d) os) fun e w'' => e = .returned (.string T) ∧ ∃ p : Regrown, w'' = grow (redrawn W p.d) p.os := fun d os => Calls.regrown_of ((ci _).mono fun _ _ h => ⟨h.1, h.2 ▸ Below.refl _ _⟩)
  refine wp_region_quiet_below (by kernel_rfl) (by kernel_rfl) ?_
  repeat (go_big_quiet_step ((first | (go_at_call 30; exact cI _ _))))
  refine wpQuiet_nil ?_
  intro _ hw'
  obtain ⟨⟨dq, osq⟩, hw''⟩ := hw'
  subst hw''
  go_wp2
  go_ret2
  exact ⟨by rw [HS.out]; rfl, bw.trans ((below_regrown W dq osq).mono bw.size)⟩
theorem text_at (x : Int) (T : ByteArray) (c : Int) (w : World) (x0 : 0 ≤ x) (x1 : x ≤ 18446744073709551615) (hN : Names w) (h : txv x = (T, c)) :
    Calls Tryd.prog 20 #[.int .u64 x] w fun e w' => e = .returned (.tuple #[.string T, .int .i64 c]) ∧ Below w.heap.size w w' := by
  by_cases hi : isH x = true
  · obtain ⟨s, m, hs, hm, es, em⟩ := isH_nat hi
    rw [txv, if_pos hi, es, em] at h
    simp only [Prod.mk.injEq, Int.toNat_natCast] at h
    obtain ⟨rfl, rfl⟩ := h
    exact text_is x s m w x0 x1 hi hs hm es em hN
  · rw [txv, if_neg hi] at h
    simp only [Prod.mk.injEq] at h
    obtain ⟨rfl, rfl⟩ := h
    exact text_no x w x0 x1 (by simpa using hi)
end Go.Proofs.YtjjbdfabckdogaaDoor
