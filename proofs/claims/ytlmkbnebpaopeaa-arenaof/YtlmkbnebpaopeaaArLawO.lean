/- The walk of the law ArenaOf. -/
import Derived.Test.YtlmkbnebpaopeaaArLawC
namespace Go.Proofs.Ytlmkbnebpaopeaa
open Go.RowKit Go.Shelf
theorem has_z (A B g c n : Nat) (w : World) (ha : IsAr w A B (List.replicate n 0)) (hx : Ws w g 0 (List.replicate n 0)) :
    Calls Try.prog 15 #[.pointer (some ⟨A, 0, none⟩), .slice (some ⟨g, 0, none⟩) n c] w fun e W' => e = .returned (.bool true) ∧ Below w.heap.size w W' := by
  have := has_at A B g 0 c _ w ha hx
  rwa [List.length_replicate] at this
theorem ws_new (w : World) (xs : List Int) (t : TypeId) : Ws (w.alloc (.cells (wds xs) t)) w.heap.size 0 xs := fun i hi => by
  rw [Nat.zero_add]
  exact cell_last w _ _ i _ (wds_get xs i hi)
set_option maxRecDepth 100000 in
set_option maxHeartbeats 4000000 in
theorem arenaOf_long (n : Int) (a : Option Addr) (len c : Nat) (w : World) (h : 300 < len) :
    Calls Try.prog 4 #[.int .i64 n, .slice a len c] w fun e w' => e = .returned (.bool true) ∧ Below w.heap.size w w' := by
  have h' : 300 < (len : Int) := by omega
  clear h
  go_enter Try.func4, Try.ntmps4
  go_wp2_with (first | (go_at_call 9; refine (aworks_any _).mono ?_; rintro e w' ⟨rfl, bq⟩))
  go_ret
  exact ⟨rfl, bq⟩
set_option maxRecDepth 100000 in
set_option maxHeartbeats 4000000 in
theorem arenaOf_much (n : Int) (a : Option Addr) (len c : Nat) (w : World) (h : len ≤ 300) (hn : 20000 < n) :
    Calls Try.prog 4 #[.int .i64 n, .slice a len c] w fun e w' => e = .returned (.bool true) ∧ Below w.heap.size w w' := by
  have h' : (len : Int) ≤ 300 := by omega
  clear h
  go_enter Try.func4, Try.ntmps4
  go_wp2_with (first | (go_at_call 9; refine (aworks_any _).mono ?_; rintro e w' ⟨rfl, bq⟩))
  go_ret
  exact ⟨rfl, bq⟩
set_option maxRecDepth 100000 in
set_option maxHeartbeats 4000000 in
theorem arenaOf_badLow0 (n : Int) (a : Option Addr) (c : Nat) (w : World) (hn : n < 1) :
    Calls Try.prog 4 #[.int .i64 n, .slice a 0 c] w fun e w' => e = .returned (.bool true) ∧ Below w.heap.size w w' := by
  have cn := New_no n w (by omega)
  have hn3 : n ≤ 20000 := by omega
  have co := Of_no a 0 c w (by omega)
  go_enter Try.func4, Try.ntmps4
  go_wp2_with (first | (go_at_call 13; refine cn.mono ?_; rintro e w' ⟨rfl, hw⟩; rw [hw]; clear hw) | (go_at_call 14; refine co.mono ?_; rintro e w' ⟨rfl, hw⟩; rw [hw]; clear hw) | (go_at_call 10; refine (anum_any _ _).mono ?_; rintro e w' ⟨rfl, hw⟩; rw [hw]; clear hw) | (go_at_call 9; refine (aworks_any _).mono ?_; rintro e w' ⟨rfl, bq⟩))
  go_ret
  exact ⟨rfl, bq⟩
set_option maxRecDepth 100000 in
set_option maxHeartbeats 4000000 in
theorem arenaOf_badLow1 (n : Int) (b off c : Nat) (xs : List Int) (w : World) (hx : Ws w b off xs) (hi : InW xs) (h1 : 1 ≤ xs.length) (h2 : xs.length ≤ 300) (hn : n < 1) :
    Calls Try.prog 4 #[.int .i64 n, .slice (some ⟨b, off, none⟩) xs.length c] w fun e w' => e = .returned (.bool true) ∧ Below w.heap.size w w' := by
  have cn := New_no n w (by omega)
  have hn3 : n ≤ 20000 := by omega
  have h300 : (xs.length : Int) ≤ 300 := by omega
  have hz := len_ne h1
  have co := Of_yes b off c xs w hx h1 (by omega)
  have hA := made_ar w xs hi h1 (by omega)
  have hB := made_below w xs
  have hX := hx.below hB
  generalize made w xs = w2 at *
  have ch := has_at _ _ b off c xs w2 hA hX
  have HB := hid hB
  clear hA hX hx hB hi
  go_enter Try.func4, Try.ntmps4
  go_wp2_with (first | (go_at_call 13; refine cn.mono ?_; rintro e w' ⟨rfl, hw⟩; rw [hw]; clear hw) | (go_at_call 14; refine co.mono ?_; rintro e w' ⟨rfl, hw⟩; rw [hw]; clear hw) | (go_at_call 10; refine (anum_any _ _).mono ?_; rintro e w' ⟨rfl, hw⟩; rw [hw]; clear hw) | (go_at_call 15; refine ch.mono ?_; rintro e w3 ⟨rfl, b3⟩) | (go_at_call 9; refine (aworks_any _).mono ?_; rintro e w' ⟨rfl, bq⟩))
  go_ret
  exact ⟨rfl, HB.out.trans ((b3.trans (bq.mono b3.size)).mono HB.out.size)⟩
set_option maxRecDepth 100000 in
set_option maxHeartbeats 4000000 in
theorem arenaOf_badHigh0 (n : Int) (a : Option Addr) (c : Nat) (w : World) (hn : 16384 < n) (hn3 : n ≤ 20000) :
    Calls Try.prog 4 #[.int .i64 n, .slice a 0 c] w fun e w' => e = .returned (.bool true) ∧ Below w.heap.size w w' := by
  have cn := New_no n w (by omega)
  have hn1 : 1 ≤ n := by omega
  have co := Of_no a 0 c w (by omega)
  go_enter Try.func4, Try.ntmps4
  go_wp2_with (first | (go_at_call 13; refine cn.mono ?_; rintro e w' ⟨rfl, hw⟩; rw [hw]; clear hw) | (go_at_call 14; refine co.mono ?_; rintro e w' ⟨rfl, hw⟩; rw [hw]; clear hw) | (go_at_call 10; refine (anum_any _ _).mono ?_; rintro e w' ⟨rfl, hw⟩; rw [hw]; clear hw) | (go_at_call 9; refine (aworks_any _).mono ?_; rintro e w' ⟨rfl, bq⟩))
  go_ret
  exact ⟨rfl, bq⟩
set_option maxRecDepth 100000 in
set_option maxHeartbeats 4000000 in
theorem arenaOf_badHigh1 (n : Int) (b off c : Nat) (xs : List Int) (w : World) (hx : Ws w b off xs) (hi : InW xs) (h1 : 1 ≤ xs.length) (h2 : xs.length ≤ 300) (hn : 16384 < n) (hn3 : n ≤ 20000) :
    Calls Try.prog 4 #[.int .i64 n, .slice (some ⟨b, off, none⟩) xs.length c] w fun e w' => e = .returned (.bool true) ∧ Below w.heap.size w w' := by
  have cn := New_no n w (by omega)
  have hn1 : 1 ≤ n := by omega
  have h300 : (xs.length : Int) ≤ 300 := by omega
  have hz := len_ne h1
  have co := Of_yes b off c xs w hx h1 (by omega)
  have hA := made_ar w xs hi h1 (by omega)
  have hB := made_below w xs
  have hX := hx.below hB
  generalize made w xs = w2 at *
  have ch := has_at _ _ b off c xs w2 hA hX
  have HB := hid hB
  clear hA hX hx hB hi
  go_enter Try.func4, Try.ntmps4
  go_wp2_with (first | (go_at_call 13; refine cn.mono ?_; rintro e w' ⟨rfl, hw⟩; rw [hw]; clear hw) | (go_at_call 14; refine co.mono ?_; rintro e w' ⟨rfl, hw⟩; rw [hw]; clear hw) | (go_at_call 10; refine (anum_any _ _).mono ?_; rintro e w' ⟨rfl, hw⟩; rw [hw]; clear hw) | (go_at_call 15; refine ch.mono ?_; rintro e w3 ⟨rfl, b3⟩) | (go_at_call 9; refine (aworks_any _).mono ?_; rintro e w' ⟨rfl, bq⟩))
  go_ret
  exact ⟨rfl, HB.out.trans ((b3.trans (bq.mono b3.size)).mono HB.out.size)⟩
set_option maxRecDepth 100000 in
set_option maxHeartbeats 4000000 in
theorem arenaOf_good0 (n : Nat) (a : Option Addr) (c : Nat) (w : World) (n1 : 1 ≤ n) (n2 : n ≤ 16384) :
    Calls Try.prog 4 #[.int .i64 n, .slice a 0 c] w fun e w' => e = .returned (.bool true) ∧ Below w.heap.size w w' := by
  have n1' : 1 ≤ (n : Int) := by omega
  have n2' : (n : Int) ≤ 16384 := by omega
  have n3' : (n : Int) ≤ 20000 := by omega
  have cn := New_yes n w n1 n2
  have hA := made_ar w (List.replicate n 0) (InW.zeros n) (by simpa using n1) (by simpa using n2)
  have hB := made_below w (List.replicate n 0)
  have hmk := make_words 33 Try.underlying33 n (by omega)
  have ch := fun (W : World) (bw : Below (made w (List.replicate n 0)).heap.size (made w (List.replicate n 0)) W) => has_z (w.heap.size + 1) w.heap.size W.heap.size n n (W.alloc (.cells (wds (List.replicate n 0)) 28)) ((hA.below bw).alloc _) (ws_new W _ _)
  generalize made w (List.replicate n 0) = w1 at *
  generalize wds (List.replicate n 0) = zs at *
  have co := Of_no a 0 c w1 (by omega)
  have HB := hid hB
  have CH := hid ch
  clear hA hB ch
  go_enter Try.func4, Try.ntmps4
  go_wp2_with (first | (go_at_call 13; refine cn.mono ?_; rintro e w' ⟨rfl, hw⟩; rw [hw]; clear hw) | (go_at_call 14; refine co.mono ?_; rintro e w' ⟨rfl, hw⟩; rw [hw]; clear hw) | (go_at_call 10; refine (anum_any _ _).mono ?_; rintro e w' ⟨rfl, hw⟩; rw [hw]; clear hw) | (go_at_call 15; refine (CH.out _ (Below.refl _ _)).mono ?_; rintro e w3 ⟨rfl, b3⟩) | (go_at_call 9; refine (aworks_any _).mono ?_; rintro e w' ⟨rfl, bq⟩))
  go_ret
  exact ⟨rfl, HB.out.trans (((bel1 b3).trans (bq.mono (Nat.le_of_lt (siz1 b3)))).mono HB.out.size)⟩
set_option maxRecDepth 100000 in
set_option maxHeartbeats 4000000 in
theorem arenaOf_good1 (n : Nat) (b off c : Nat) (xs : List Int) (w : World) (hx : Ws w b off xs) (hi : InW xs) (h1 : 1 ≤ xs.length) (h2 : xs.length ≤ 300) (n1 : 1 ≤ n) (n2 : n ≤ 16384) :
    Calls Try.prog 4 #[.int .i64 n, .slice (some ⟨b, off, none⟩) xs.length c] w fun e w' => e = .returned (.bool true) ∧ Below w.heap.size w w' := by
  have n1' : 1 ≤ (n : Int) := by omega
  have n2' : (n : Int) ≤ 16384 := by omega
  have n3' : (n : Int) ≤ 20000 := by omega
  have cn := New_yes n w n1 n2
  have hA := made_ar w (List.replicate n 0) (InW.zeros n) (by simpa using n1) (by simpa using n2)
  have hB := made_below w (List.replicate n 0)
  have hmk := make_words 33 Try.underlying33 n (by omega)
  have ch := fun (W : World) (bw : Below (made w (List.replicate n 0)).heap.size (made w (List.replicate n 0)) W) => has_z (w.heap.size + 1) w.heap.size W.heap.size n n (W.alloc (.cells (wds (List.replicate n 0)) 28)) ((hA.below bw).alloc _) (ws_new W _ _)
  have h300 : (xs.length : Int) ≤ 300 := by omega
  have hz := len_ne h1
  generalize made w (List.replicate n 0) = w1 at *
  generalize wds (List.replicate n 0) = zs at *
  have hx1 := hx.below hB
  have co := Of_yes b off c xs w1 hx1 h1 (by omega)
  have hA2 := made_ar w1 xs hi h1 (by omega)
  have hB2 := made_below w1 xs
  have hX2 := hx1.below hB2
  generalize made w1 xs = w2 at *
  have ch2 := fun (W : World) (bw : Below w2.heap.size w2 W) => has_at _ _ b off c xs W (hA2.below bw) (hX2.below bw)
  have HB := hid (hB.trans (hB2.mono hB.size))
  have HB2 := hid hB2
  have CH := hid ch
  have CH2 := hid ch2
  clear hA hB ch ch2 hx hx1 hX2 hA2 hB2 hi
  go_enter Try.func4, Try.ntmps4
  go_wp2_with (first | (go_at_call 13; refine cn.mono ?_; rintro e w' ⟨rfl, hw⟩; rw [hw]; clear hw) | (go_at_call 14; refine co.mono ?_; rintro e w' ⟨rfl, hw⟩; rw [hw]; clear hw) | (go_at_call 10; refine (anum_any _ _).mono ?_; rintro e w' ⟨rfl, hw⟩; rw [hw]; clear hw) | (go_at_call 15; refine (CH.out _ HB2.out).mono ?_))
  rintro e w3 ⟨rfl, b3⟩
  have c3 := CH2.out _ (bel1 b3)
  clear CH CH2 co cn
  go_wp2_with (first | (go_at_call 10; refine (anum_any _ _).mono ?_; rintro e w' ⟨rfl, hw⟩; rw [hw]; clear hw) | (go_at_call 15; refine c3.mono ?_; rintro e w4 ⟨rfl, b4⟩) | (go_at_call 9; refine (aworks_any _).mono ?_; rintro e w' ⟨rfl, bq⟩))
  go_ret
  exact ⟨rfl, HB.out.trans (((bel1 b3).trans ((b4.trans (bq.mono b4.size)).mono (Nat.le_of_lt (siz1 b3)))).mono HB.out.size)⟩
theorem arenaOf_walk (n : Int) (a : Option Addr) (len c : Nat) (w : World) (hw : IsWs w a len) :
    Calls Try.prog 4 #[.int .i64 n, .slice a len c] w fun e w' => e = .returned (.bool true) ∧ Below w.heap.size w w' := by
  by_cases h : 300 < len
  · exact arenaOf_long n a len c w h
  by_cases hn : 20000 < n
  · exact arenaOf_much n a len c w (by omega) hn
  rcases hw with rfl | ⟨b, off, xs, rfl, rfl, hx, hi⟩
  · by_cases h1 : n < 1
    · exact arenaOf_badLow0 n a c w h1
    by_cases h2 : 16384 < n
    · exact arenaOf_badHigh0 n a c w h2 (by omega)
    obtain ⟨m, rfl⟩ := Int.eq_ofNat_of_zero_le (show 0 ≤ n by omega)
    exact arenaOf_good0 m a c w (by omega) (by omega)
  · by_cases h0 : xs.length = 0
    · rw [h0]
      by_cases h1 : n < 1
      · exact arenaOf_badLow0 n _ c w h1
      by_cases h2 : 16384 < n
      · exact arenaOf_badHigh0 n _ c w h2 (by omega)
      obtain ⟨m, rfl⟩ := Int.eq_ofNat_of_zero_le (show 0 ≤ n by omega)
      exact arenaOf_good0 m _ c w (by omega) (by omega)
    · by_cases h1 : n < 1
      · exact arenaOf_badLow1 n b off c xs w hx hi (by omega) (by omega) h1
      by_cases h2 : 16384 < n
      · exact arenaOf_badHigh1 n b off c xs w hx hi (by omega) (by omega) h2 (by omega)
      obtain ⟨m, rfl⟩ := Int.eq_ofNat_of_zero_le (show 0 ≤ n by omega)
      exact arenaOf_good1 m b off c xs w hx hi (by omega) (by omega) (by omega) (by omega)
end Go.Proofs.Ytlmkbnebpaopeaa
