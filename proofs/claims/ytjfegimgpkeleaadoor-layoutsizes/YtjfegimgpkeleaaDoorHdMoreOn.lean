/- package head: Of by what is answered, Marked, Size, Name. -/
import Derived.Test.YtjfegimgpkeleaaDoorShTabOn
import Derived.Test.YtjfegimgpkeleaaDoorShRefOn
namespace Go.Hd
/-- What Of answers. -/
def ofv (x : Int) : Int × Int × Bool := if isH x then (x / 32, x / 8 % 4, true) else (0, 0, false)
theorem isH_ok {x : Int} (h : isH x = true) (m : Int) : ok (x / 32) m = mk m := by
  obtain ⟨h1, _, _⟩ := isH_is h
  obtain ⟨a, b, _, _⟩ := ok_yes h1
  simp [ok, a, b]
theorem mkd_no {x m : Int} (h : isH x = false) : mkd x m = (0, 2) := by simp [mkd, h]
theorem mkd_out {x m : Int} (h : mk m = false) : mkd x m = (0, 2) := by simp [mkd, h]
theorem mkd_in {x m : Int} (h : isH x = true) (hm : mk m = true) : mkd x m = (wd (x / 32) m, 0) := by simp [mkd, h, hm]
/-- What Size answers. -/
def szH (x : Int) (ss : List ByteArray) : Int × Int := if isH x then Sh.sz ss (x / 32) else (0, 2)
/-- The marks' names. -/
def nm : Nat → ByteArray
  | 0 => ⟨#[119, 104, 105, 116, 101]⟩
  | 1 => ⟨#[103, 114, 101, 121]⟩
  | 2 => ⟨#[98, 108, 97, 99, 107]⟩
  | _ => ⟨#[]⟩
end Go.Hd
namespace Go.Proofs.YtjfegimgpkeleaaDoor
open Go.RowKit Go.Hd Go.Sh
end Go.Proofs.YtjfegimgpkeleaaDoor
/- package head: Text; numbers below 16 in texts. -/
namespace Go.Hd
/-- A number below 16 as a text. -/
def it (k : Nat) : ByteArray := if k < 10 then ⟨#[UInt8.ofNat (48 + k)]⟩ else ⟨#[49, UInt8.ofNat (38 + k)]⟩
theorem it_size (k : Nat) : (it k).size ≤ 2 := by
  unfold it; split <;> simp [ByteArray.size]
theorem nm_size (k : Nat) : (nm k).size ≤ 5 := by
  unfold nm; split <;> decide
theorem lt16 {k : Nat} (h : k < 16) : k = 0 ∨ k = 1 ∨ k = 2 ∨ k = 3 ∨ k = 4 ∨ k = 5 ∨ k = 6 ∨ k = 7 ∨ k = 8 ∨ k = 9 ∨ k = 10 ∨ k = 11 ∨ k = 12 ∨ k = 13 ∨ k = 14 ∨ k = 15 := by omega
/-- A header's text. -/
def hx (s m : Nat) : ByteArray := it s ++ ⟨#[32]⟩ ++ nm m
/-- What Text answers. -/
def txv (x : Int) : ByteArray × Int := if isH x then (hx (x / 32).toNat (x / 8 % 4).toNat, 0) else (⟨#[]⟩, 2)
theorem isH_nat {x : Int} (h : isH x = true) : ∃ s m : Nat, s < 16 ∧ m < 3 ∧ x / 32 = s ∧ x / 8 % 4 = m := by
  obtain ⟨h1, _, _⟩ := isH_is h
  obtain ⟨a, b, c, d⟩ := ok_yes h1
  exact ⟨(x / 32).toNat, (x / 8 % 4).toNat, by omega, by omega, by omega, by omega⟩
end Go.Hd
namespace Go.Proofs.YtjfegimgpkeleaaDoor
open Go.RowKit Go.Hd Go.Sh Go.Sort
set_option maxRecDepth 100000 in
theorem small_at (k : Nat) (w : World) (hk : k < 16) : Calls Tryd.prog 85 #[.int .i64 (k : Int)] w fun e w' => e = .returned (.string (it k)) ∧ w' = w := by
  rcases lt16 hk with rfl | rfl | rfl | rfl | rfl | rfl | rfl | rfl | rfl | rfl | rfl | rfl | rfl | rfl | rfl | rfl
  all_goals
    clear hk
    go_enter Tryd.func85, Tryd.ntmps85
    go_wp2
    go_ret
    exact ⟨by kernel_rfl, rfl⟩
theorem format_at (k : Nat) (w : World) (hk : k < 16) : Calls Tryd.prog 71 #[.int .i64 (k : Int), .int .i64 10] w fun e w' => e = .returned (.string (it k)) ∧ w' = w := by
  have c := small_at k w hk
  have h1 : (k : Int) < 100 := by omega
  go_enter Tryd.func71, Tryd.ntmps71
  go_wp2_with (go_at_call 85; refine c.mono ?_)
  rintro e w1 ⟨rfl, hw⟩; rw [hw]; clear hw w1
  go_wp2
  go_ret
  exact ⟨rfl, rfl⟩
theorem iitoa_at (k : Nat) (w : World) (hk : k < 16) : Calls Tryd.prog 56 #[.int .i64 (k : Int)] w fun e w' => e = .returned (.string (it k)) ∧ w' = w := by
  have c := format_at k w hk
  go_enter Tryd.func56, Tryd.ntmps56
  go_wp2_with (go_at_call 71; refine c.mono ?_)
  rintro e w1 ⟨rfl, hw⟩; rw [hw]; clear hw w1
  go_wp2
  go_ret
  exact ⟨rfl, rfl⟩
theorem itoa_at (k : Nat) (w : World) (hk : k < 16) : Calls Tryd.prog 39 #[.int .i64 (k : Int)] w fun e w' => e = .returned (.string (it k)) ∧ w' = w := by
  have c := iitoa_at k w hk
  go_enter Tryd.func39, Tryd.ntmps39
  go_wp2_with (go_at_call 56; refine c.mono ?_)
  rintro e w1 ⟨rfl, hw⟩; rw [hw]; clear hw w1
  go_wp2
  go_ret
  exact ⟨rfl, rfl⟩
end Go.Proofs.YtjfegimgpkeleaaDoor
/- The document's functions (lapidaryref04): Make, Word, Of, Marked, Size, Name. -/
namespace Go.Proofs.YtjfegimgpkeleaaDoor
open Go.RowKit Go.Hd Go.Sh
theorem rword_at (s m : Int) (w : World) (s0 : 0 ≤ s) (s1 : s ≤ 15) (m0 : 0 ≤ m) (m1 : m ≤ 2) : Calls Tryd.prog 34 #[.int .i64 s, .int .i64 m] w fun e w' => e = .returned (.int .u64 (wd s m)) ∧ w' = w := by
  have H : Hid (8 * (4 * s + m) + 6 = wd s m) := hid rfl
  go_enter Tryd.func34, Tryd.ntmps34
  go_wp2
  go_ret
  exact ⟨ret_int H.out, rfl⟩
end Go.Proofs.YtjfegimgpkeleaaDoor
