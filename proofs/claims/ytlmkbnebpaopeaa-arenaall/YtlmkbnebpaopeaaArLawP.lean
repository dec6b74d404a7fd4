/- The walk of the law ArenaPlay. -/
import Derived.Test.YtlmkbnebpaopeaaArLawO
namespace Go.Proofs.Ytlmkbnebpaopeaa
open Go.RowKit Go.Shelf
/-- Where a play stands: the arena has the words that the list has; nothing that came in is changed. -/
structure PlR (w : World) (A B b off : Nat) (xs : List Int) (W : World) : Prop where
  ar : IsAr W A B xs
  ws : Ws W b off xs
  ne : b ≠ B
  new : w.heap.size ≤ B
  bel : Below w.heap.size w W
theorem PlR.did {w W W' : World} {A B b off : Nat} {xs : List Int} (h : PlR w A B b off xs W) (hg : W.grownBy W' (some B)) : Ws W' b off xs ∧ Below w.heap.size w W' :=
  ⟨h.ws.grown hg h.ne, below_grown h.bel h.bel.size hg h.new⟩
theorem PlR.next {w W W' W'' : World} {A B b off b' off' : Nat} {xs ys : List Int} (h : PlR w A B b off xs W) (ha : IsAr W' A B ys) (hg : W.grownBy W' (some B)) (hw : Ws W'' b' off' ys) (hb : b' = b ∨ W'.heap.size ≤ b') (hl : Below W'.heap.size W' W'') : PlR w A B b' off' ys W'' := by
  have hB := (h.did hg).2
  refine ⟨ha.below hl, hw, ?_, h.new, hB.trans (hl.mono hB.size)⟩
  have := ha.ltB
  rcases hb with rfl | hb
  · exact h.ne
  · omega
theorem Accs.at {w W : World} {b off len : Nat} {q : Nat → Acs} (h : Accs w b off len q) (hb : Below w.heap.size w W) (i : Nat) (hi : i < len) : AcS b (off + i * 4) (q i).k (q i).p (q i).o (q i).n W ∧ 0 ≤ (q i).n ∧ (q i).n ≤ 18446744073709551615 := h.below hb i hi
set_option maxRecDepth 100000 in
set_option maxHeartbeats 8000000 in
theorem arenaPlay_run (b off c : Nat) (xs : List Int) (a2 : Option Addr) (len cap : Nat) (w : World) (hx : Ws w b off xs) (hi : InW xs) (h1 : 1 ≤ xs.length) (h2 : xs.length ≤ 300) (h3 : len ≤ 80) (hq : IsAccs w a2 len) :
    Calls Try.prog 5 #[.slice (some ⟨b, off, none⟩) xs.length c, .slice a2 len cap] w fun e w' => e = .returned (.bool true) ∧ Below w.heap.size w w' := by
  have h2' : (xs.length : Int) ≤ 300 := by omega
  have h3' : (len : Int) ≤ 80 := by omega
  have hz := len_ne h1
  have co := Of_yes b off c xs w hx h1 (by omega)
  have hb : b < w.heap.size := block_lt_of_cell (hx 0 h1)
  have hP : PlR w (w.heap.size + 1) w.heap.size b off xs (made w xs) := ⟨made_ar w xs hi h1 (by omega), hx.below (made_below w xs), by omega, Nat.le_refl _, made_below w xs⟩
  generalize made w xs = w1 at *
  have HP := hid hP
  have HQ := hid hq
  clear hP hq hx hi hb
  go_enter Try.func5, Try.ntmps5
  go_wp2_with (first | (go_at_call 14; refine co.mono ?_; rintro e w' ⟨rfl, hw⟩; rw [hw]; clear hw) | (go_at_call 10; refine (anum_any _ _).mono ?_; rintro e w' ⟨rfl, hw⟩; rw [hw]; clear hw))
  clear co hz
  go_loopw [0, 7] (fun l i wr => ∃ (k b' off' c' : Nat) (ys : List Int), k ≤ len ∧ i = .int .i64 k ∧ l = .slice (some ⟨b', off', none⟩) ys.length c' ∧ Hid (PlR w (w.heap.size + 1) w.heap.size b' off' ys wr)) (fun _ i _ => len - (intOf i).toNat)
  case atStart => exact ⟨0, b, off, c, xs, Nat.zero_le _, rfl, rfl, HP⟩
  case round =>
    obtain ⟨k, b', off', c', ys, hk, rfl, rfl, HR⟩ := hrel
    clear HP
    by_cases hlt : k < len
    · have hlt' : (k : Int) < len := by omega
      rcases HQ.out with h0 | ⟨b2, off2, q, rfl, hq⟩
      · omega
      have HA := hid hq
      clear hq
      obtain ⟨zs, a, er, HD⟩ : ∃ zs a er, Hid (dof ys (q k).k (q k).p (q k).o (q k).n = (zs, a, er)) := ⟨_, _, _, hid rfl⟩
      obtain ⟨hS, n0, n1⟩ := HA.out.at HR.out.bel k hlt
      have HA1 : Hid (∀ W, Below w.heap.size w W → AcS b2 (off2 + k * 4) (q k).k (q k).p (q k).o (q k).n W) := hid (fun W hb => (HA.out.at hb k hlt).1)
      clear HA
      generalize (q k).k = xk at *
      generalize (q k).p = xp at *
      generalize (q k).o = xo at *
      generalize (q k).n = xn at *
      have hne : (a != a) = false := by simp
      have hee : (er != er) = false := by simp
      go_wp2_with (go_at_call 16; refine (Do_at _ _ ys zs xk xp xo xn a er _ HR.out.ar n0 n1 HD).mono ?_)
      rintro e w2 ⟨rfl, ar2, g2⟩
      have hd := HR.out.did g2
      have hS2 := HA1.out w2 hd.2
      have hy := hd.1
      clear hS hd
      go_wp2_with (go_at_call 17; refine (rDo_at b' off' c' ys zs xk xp xo xn a er _ hy HR.out.ar.pos HR.out.ar.le HD).mono ?_)
      rintro e w3 ⟨b3, off3, c3, rfl, hw3, hb3, bl3⟩
      have HN := hid (HR.out.next ar2 g2 hw3 hb3 bl3)
      clear hy hS2 hw3 hb3 bl3 ar2 g2
      go_wp2_with (go_at_call 10; refine (anum_any _ _).mono ?_; rintro e w' ⟨rfl, hw⟩; rw [hw]; clear hw)
      go_roundw
      case rel => exact ⟨k + 1, b3, off3, c3, zs, by omega, by go_num, rfl, HN⟩
      case measure => simp [intOf]; omega
    · have ch := has_at _ _ b' off' c' ys wr HR.out.ar HR.out.ws
      go_wp2_with (first | (go_at_call 15; refine ch.mono ?_; rintro e w4 ⟨rfl, b4⟩) | (go_at_call 9; refine (aworks_any _).mono ?_; rintro e w' ⟨rfl, bq⟩))
      go_ret
      exact ⟨rfl, HR.out.bel.trans ((b4.trans (bq.mono b4.size)).mono HR.out.bel.size)⟩
set_option maxRecDepth 100000 in
set_option maxHeartbeats 4000000 in
theorem arenaPlay_huge (a a2 : Option Addr) (n c len cap : Nat) (w : World) (h : 16384 < n) :
    Calls Try.prog 5 #[.slice a n c, .slice a2 len cap] w fun e w' => e = .returned (.bool true) ∧ Below w.heap.size w w' := by
  have h' : 300 < (n : Int) := by omega
  have co := Of_no a n c w (by omega)
  go_enter Try.func5, Try.ntmps5
  go_wp2_with (first | (go_at_call 14; refine co.mono ?_; rintro e w' ⟨rfl, hw⟩; rw [hw]; clear hw) | (go_at_call 10; refine (anum_any _ _).mono ?_; rintro e w' ⟨rfl, hw⟩; rw [hw]; clear hw) | (go_at_call 9; refine (aworks_any _).mono ?_; rintro e w' ⟨rfl, bq⟩))
  go_ret
  exact ⟨rfl, bq⟩
set_option maxRecDepth 100000 in
set_option maxHeartbeats 4000000 in
theorem arenaPlay_long (b off c : Nat) (xs : List Int) (a2 : Option Addr) (len cap : Nat) (w : World) (hx : Ws w b off xs) (h : 300 < xs.length) (h2 : xs.length ≤ 16384) :
    Calls Try.prog 5 #[.slice (some ⟨b, off, none⟩) xs.length c, .slice a2 len cap] w fun e w' => e = .returned (.bool true) ∧ Below w.heap.size w w' := by
  have h' : 300 < (xs.length : Int) := by omega
  have co := Of_yes b off c xs w hx (by omega) (by omega)
  have hB := made_below w xs
  generalize made w xs = w1 at *
  have HB := hid hB
  clear hB hx
  go_enter Try.func5, Try.ntmps5
  go_wp2_with (first | (go_at_call 14; refine co.mono ?_; rintro e w' ⟨rfl, hw⟩; rw [hw]; clear hw) | (go_at_call 10; refine (anum_any _ _).mono ?_; rintro e w' ⟨rfl, hw⟩; rw [hw]; clear hw) | (go_at_call 9; refine (aworks_any _).mono ?_; rintro e w' ⟨rfl, bq⟩))
  go_ret
  exact ⟨rfl, HB.out.trans (bq.mono HB.out.size)⟩
set_option maxRecDepth 100000 in
set_option maxHeartbeats 4000000 in
theorem arenaPlay_many (b off c : Nat) (xs : List Int) (a2 : Option Addr) (len cap : Nat) (w : World) (hx : Ws w b off xs) (h1 : 1 ≤ xs.length) (h2 : xs.length ≤ 300) (h3 : 80 < len) :
    Calls Try.prog 5 #[.slice (some ⟨b, off, none⟩) xs.length c, .slice a2 len cap] w fun e w' => e = .returned (.bool true) ∧ Below w.heap.size w w' := by
  have h2' : (xs.length : Int) ≤ 300 := by omega
  have h3' : 80 < (len : Int) := by omega
  have hz := len_ne h1
  have co := Of_yes b off c xs w hx (by omega) (by omega)
  have hB := made_below w xs
  generalize made w xs = w1 at *
  have HB := hid hB
  clear hB hx
  go_enter Try.func5, Try.ntmps5
  go_wp2_with (first | (go_at_call 14; refine co.mono ?_; rintro e w' ⟨rfl, hw⟩; rw [hw]; clear hw) | (go_at_call 10; refine (anum_any _ _).mono ?_; rintro e w' ⟨rfl, hw⟩; rw [hw]; clear hw) | (go_at_call 9; refine (aworks_any _).mono ?_; rintro e w' ⟨rfl, bq⟩))
  go_ret
  exact ⟨rfl, HB.out.trans (bq.mono HB.out.size)⟩
set_option maxRecDepth 100000 in
set_option maxHeartbeats 4000000 in
theorem arenaPlay_none1 (a a2 : Option Addr) (c len cap : Nat) (w : World) (h3 : 80 < len) :
    Calls Try.prog 5 #[.slice a 0 c, .slice a2 len cap] w fun e w' => e = .returned (.bool true) ∧ Below w.heap.size w w' := by
  have h3' : 80 < (len : Int) := by omega
  have co := Of_no a 0 c w (by omega)
  go_enter Try.func5, Try.ntmps5
  go_wp2_with (first | (go_at_call 14; refine co.mono ?_; rintro e w' ⟨rfl, hw⟩; rw [hw]; clear hw) | (go_at_call 10; refine (anum_any _ _).mono ?_; rintro e w' ⟨rfl, hw⟩; rw [hw]; clear hw) | (go_at_call 9; refine (aworks_any _).mono ?_; rintro e w' ⟨rfl, bq⟩))
  go_ret
  exact ⟨rfl, bq⟩
set_option maxRecDepth 100000 in
set_option maxHeartbeats 4000000 in
theorem arenaPlay_none0 (a a2 : Option Addr) (c len cap : Nat) (w : World) (h3 : len ≤ 80) :
    Calls Try.prog 5 #[.slice a 0 c, .slice a2 len cap] w fun e w' => e = .returned (.bool true) ∧ Below w.heap.size w w' := by
  have h3' : (len : Int) ≤ 80 := by omega
  have co := Of_no a 0 c w (by omega)
  go_enter Try.func5, Try.ntmps5
  go_wp2_with (first | (go_at_call 14; refine co.mono ?_; rintro e w' ⟨rfl, hw⟩; rw [hw]; clear hw) | (go_at_call 10; refine (anum_any _ _).mono ?_; rintro e w' ⟨rfl, hw⟩; rw [hw]; clear hw) | (go_at_call 9; refine (aworks_any _).mono ?_; rintro e w' ⟨rfl, bq⟩))
  go_ret
  exact ⟨rfl, bq⟩
theorem arenaPlay_walk (a a2 : Option Addr) (n c len cap : Nat) (w : World) (hw : IsWs w a n) (hq : IsAccs w a2 len) :
    Calls Try.prog 5 #[.slice a n c, .slice a2 len cap] w fun e w' => e = .returned (.bool true) ∧ Below w.heap.size w w' := by
  by_cases h : 16384 < n
  · exact arenaPlay_huge a a2 n c len cap w h
  by_cases h0 : n = 0
  · subst h0
    by_cases h3 : 80 < len
    · exact arenaPlay_none1 a a2 c len cap w h3
    · exact arenaPlay_none0 a a2 c len cap w (by omega)
  · rcases hw with rfl | ⟨b, off, xs, rfl, rfl, hx, hi⟩
    · exact absurd rfl h0
    by_cases h1 : 300 < xs.length
    · exact arenaPlay_long b off c xs a2 len cap w hx h1 (by omega)
    by_cases h3 : 80 < len
    · exact arenaPlay_many b off c xs a2 len cap w hx (by omega) (by omega) h3
    · exact arenaPlay_run b off c xs a2 len cap w hx hi (by omega) (by omega) (by omega) hq
end Go.Proofs.Ytlmkbnebpaopeaa
