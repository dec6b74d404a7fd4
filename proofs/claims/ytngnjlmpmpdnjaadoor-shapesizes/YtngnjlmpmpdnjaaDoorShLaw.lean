/- The laws ShapeSizes, ShapeKinds, ShapeTexts, ShapeReads, ShapeMost. -/
import Derived.Test.YtngnjlmpmpdnjaaDoorShWorks
namespace Go.Proofs.YtngnjlmpmpdnjaaDoor
open Go.RowKit Go.Sh
abbrev Holds (f : Nat) (args : Array Value) (w : World) : Prop := Calls Tryd.prog f args w fun e w' => e = .returned (.bool true) ∧ Below w.heap.size w w'
theorem rSize_at (v : Value) (ss : List ByteArray) (n a c : Int) (w : World) (h : IsTab w v ss) (hk : sz ss n = (a, c)) :
    Calls Tryd.prog 12 #[v, .int .i64 n] w fun e w' => e = .returned (.tuple #[.int .i64 a, .int .i64 c]) ∧ w' = w := by
  have := rSize_any v ss n w h
  rwa [hk] at this
theorem Most_at (v : Value) (ss : List ByteArray) (a c : Int) (w : World) (h : IsTab w v ss) (hk : ms ss = (a, c)) :
    Calls Tryd.prog 13 #[v] w fun e w' => e = .returned (.tuple #[.int .i64 a, .int .i64 c]) ∧ Below w.heap.size w w' := by
  have := Most_any v ss w h
  rwa [hk] at this
theorem check_at (v : Value) (ss : List ByteArray) (b : Bool) (w : World) (h : IsTab w v ss) (hk : right ss = b) :
    Calls Tryd.prog 16 #[v] w fun e w' => e = .returned (.int .i64 (er b)) ∧ Below w.heap.size w w' := by
  subst hk; exact check_any v ss w h
theorem rRight_at (v : Value) (ss : List ByteArray) (b : Bool) (w : World) (h : IsTab w v ss) (hk : right ss = b) :
    Calls Tryd.prog 14 #[v] w fun e w' => e = .returned (.bool b) ∧ w' = w := by
  subst hk; exact rRight_any v ss w h
theorem shapeSizes_vast (v : Value) (ss : List ByteArray) (n : Int) (w : World) (h : IsTab w v ss) (hv : vs ss = true) : Holds 3 #[v, .int .i64 n] w := by
  have c := vast_any v ss w h
  rw [hv] at c
  clear hv h
  go_enter Tryd.func3, Tryd.ntmps3
  go_wp2_with (first | (go_at_call 9; refine c.mono ?_; rintro e w1 ⟨rfl, rfl⟩) | (go_at_call 10; refine (works_any _).mono ?_; rintro e w2 ⟨rfl, b2⟩))
  go_ret
  exact ⟨rfl, b2⟩
set_option maxHeartbeats 4000000 in
theorem shapeSizes_no (v : Value) (ss : List ByteArray) (n : Int) (w : World) (h : IsTab w v ss) (hv : vs ss = false) (hr : right ss = false) : Holds 3 #[v, .int .i64 n] w := by
  have c := vast_any v ss w h
  rw [hv] at c
  have HZ := hid (sz_no (n := n) hr)
  have HM : Hid (ms ss = (0, 2)) := hid (by simp [ms, hr])
  have HR := hid hr
  have T0 := hid h
  clear hv h hr
  go_enter Tryd.func3, Tryd.ntmps3
  go_wp2_with (first | (go_at_call 9; refine c.mono ?_; rintro e w1 ⟨rfl, rfl⟩) | (go_at_call 11; refine (Size_at _ ss n 0 2 _ T0.out HZ.out).mono ?_))
  rintro e w1 ⟨rfl, b1⟩
  have B1 := hid b1
  have T1 := hid (T0.out.below (Nat.le_refl _) b1)
  clear b1 T0
  go_wp2_with (first | (go_at_call 12; refine (rSize_at _ ss n 0 2 _ T1.out HZ.out).mono ?_; rintro e w2 ⟨rfl, rfl⟩) | (go_at_call 13; refine (Most_at _ ss 0 2 _ T1.out HM.out).mono ?_))
  rintro e w3 ⟨rfl, b3⟩
  have B3 := hid (B1.out.trans (b3.mono B1.out.size))
  have T3 := hid (T1.out.below (Nat.le_refl _) b3)
  clear b3 T1 B1
  go_wp2_with (first | (go_at_call 14; refine (rRight_at _ ss false _ T3.out HR.out).mono ?_; rintro e w4 ⟨rfl, rfl⟩) | (go_at_call 15; refine (num_any _ _).mono ?_; rintro e w9 ⟨rfl, rfl⟩) | (go_at_call 16; refine (check_at _ ss false _ T3.out HR.out).mono ?_))
  rintro e w5 ⟨rfl, b5⟩
  have B5 := hid (B3.out.trans (b5.mono B3.out.size))
  clear b5 T3 B3
  simp only [er]
  go_wp2_with (first | (go_at_call 15; refine (num_any _ _).mono ?_; rintro e w9 ⟨rfl, rfl⟩) | (go_at_call 10; refine (works_any _).mono ?_))
  rintro e w6 ⟨rfl, b6⟩
  go_wp2
  go_ret
  exact ⟨rfl, B5.out.trans (b6.mono B5.out.size)⟩
set_option maxHeartbeats 4000000 in
theorem shapeSizes_yes (v : Value) (ss : List ByteArray) (n : Int) (w : World) (h : IsTab w v ss) (hv : vs ss = false) (hr : right ss = true) : Holds 3 #[v, .int .i64 n] w := by
  have c := vast_any v ss w h
  rw [hv] at c
  obtain ⟨a, cc, hz⟩ : ∃ a cc, sz ss n = (a, cc) := ⟨_, _, rfl⟩
  have HZ := hid hz
  obtain ⟨m, hm⟩ : ∃ m, m = most ss := ⟨_, rfl⟩
  have HM : Hid (ms ss = (m, 0)) := hid (by simp [ms, hr, hm])
  have HMo := hid hm
  have HR := hid hr
  have T0 := hid h
  clear hv h hr hz hm
  go_enter Tryd.func3, Tryd.ntmps3
  go_wp2_with (first | (go_at_call 9; refine c.mono ?_; rintro e w1 ⟨rfl, rfl⟩) | (go_at_call 11; refine (Size_at _ ss n a cc _ T0.out HZ.out).mono ?_))
  rintro e w1 ⟨rfl, b1⟩
  have B1 := hid b1
  have T1 := hid (T0.out.below (Nat.le_refl _) b1)
  clear b1 T0
  go_wp2_with (first | (go_at_call 12; refine (rSize_at _ ss n a cc _ T1.out HZ.out).mono ?_; rintro e w2 ⟨rfl, rfl⟩) | (go_at_call 13; refine (Most_at _ ss m 0 _ T1.out HM.out).mono ?_))
  rintro e w3 ⟨rfl, b3⟩
  have B3 := hid (B1.out.trans (b3.mono B1.out.size))
  have T3 := hid (T1.out.below (Nat.le_refl _) b3)
  clear b3 T1 B1
  have cm := rMost_any v ss w3 T3.out HR.out
  rw [← HMo.out] at cm
  go_wp2_with (first | (go_at_call 14; refine (rRight_at _ ss true _ T3.out HR.out).mono ?_; rintro e w4 ⟨rfl, rfl⟩) | (go_at_call 15; refine (num_any _ _).mono ?_; rintro e w9 ⟨rfl, rfl⟩) | (go_at_call 17; refine cm.mono ?_; rintro e w9 ⟨rfl, rfl⟩) | (go_at_call 16; refine (check_at _ ss true _ T3.out HR.out).mono ?_))
  rintro e w5 ⟨rfl, b5⟩
  have B5 := hid (B3.out.trans (b5.mono B3.out.size))
  clear b5 T3 B3
  simp only [er]
  go_wp2_with (first | (go_at_call 15; refine (num_any _ _).mono ?_; rintro e w9 ⟨rfl, rfl⟩) | (go_at_call 10; refine (works_any _).mono ?_))
  rintro e w6 ⟨rfl, b6⟩
  go_wp2
  go_ret
  exact ⟨rfl, B5.out.trans (b6.mono B5.out.size)⟩
theorem shapeSizes_walk (v : Value) (ss : List ByteArray) (n : Int) (w : World) (h : IsTab w v ss) : Holds 3 #[v, .int .i64 n] w := by
  cases hv : vs ss with
  | true => exact shapeSizes_vast v ss n w h hv
  | false =>
    cases hr : right ss with
    | true => exact shapeSizes_yes v ss n w h hv hr
    | false => exact shapeSizes_no v ss n w h hv hr
theorem rKind_at (v : Value) (ss : List ByteArray) (n f a c : Int) (w : World) (h : IsTab w v ss) (hk : kd ss n f = (a, c)) :
    Calls Tryd.prog 19 #[v, .int .i64 n, .int .i64 f] w fun e w' => e = .returned (.tuple #[.int .i64 a, .int .i64 c]) ∧ w' = w := by
  have := rKind_any v ss n f w h
  rwa [hk] at this
theorem shapeKinds_vast (v : Value) (ss : List ByteArray) (n f k : Int) (w : World) (h : IsTab w v ss) (hv : vs ss = true) : Holds 4 #[v, .int .i64 n, .int .i64 f, .int .i64 k] w := by
  have c := vast_any v ss w h
  rw [hv] at c
  clear hv h
  go_enter Tryd.func4, Tryd.ntmps4
  go_wp2_with (first | (go_at_call 9; refine c.mono ?_; rintro e w1 ⟨rfl, rfl⟩) | (go_at_call 10; refine (works_any _).mono ?_; rintro e w2 ⟨rfl, b2⟩))
  go_ret
  exact ⟨rfl, b2⟩
set_option maxHeartbeats 4000000 in
theorem shapeKinds_few (v : Value) (ss : List ByteArray) (n f k : Int) (w : World) (h : IsTab w v ss) (hv : vs ss = false) : Holds 4 #[v, .int .i64 n, .int .i64 f, .int .i64 k] w := by
  have c := vast_any v ss w h
  rw [hv] at c
  obtain ⟨a, cc, hz⟩ : ∃ a cc, kd ss n f = (a, cc) := ⟨_, _, rfl⟩
  have HZ := hid hz
  obtain ⟨i, hi⟩ : ∃ i, iz ss n f k = i := ⟨_, rfl⟩
  have HI := hid hi
  have T0 := hid h
  clear hv h hz hi
  go_enter Tryd.func4, Tryd.ntmps4
  go_wp2_with (first | (go_at_call 9; refine c.mono ?_; rintro e w1 ⟨rfl, rfl⟩) | (go_at_call 18; refine (Kind_at _ ss n f a cc _ T0.out HZ.out).mono ?_))
  rintro e w1 ⟨rfl, b1⟩
  have B1 := hid b1
  have T1 := hid (T0.out.below (Nat.le_refl _) b1)
  clear b1 T0
  go_wp2_with (first | (go_at_call 19; refine (rKind_at _ ss n f a cc _ T1.out HZ.out).mono ?_; rintro e w2 ⟨rfl, rfl⟩) | (go_at_call 15; refine (num_any _ _).mono ?_; rintro e w9 ⟨rfl, rfl⟩) | (go_at_call 20; refine (Is_at _ ss n f k i _ T1.out HI.out).mono ?_))
  rintro e w3 ⟨rfl, b3⟩
  have B3 := hid (B1.out.trans (b3.mono B1.out.size))
  have T3 := hid (T1.out.below (Nat.le_refl _) b3)
  clear b3 T1 B1
  have ci := rIs_any v ss n f k w3 T3.out
  rw [HI.out] at ci
  go_wp2_with (first | (go_at_call 15; refine (num_any _ _).mono ?_; rintro e w9 ⟨rfl, rfl⟩) | (go_at_call 21; refine ci.mono ?_; rintro e w9 ⟨rfl, rfl⟩) | (go_at_call 10; refine (works_any _).mono ?_))
  rintro e w6 ⟨rfl, b6⟩
  go_wp2
  go_ret
  exact ⟨rfl, B3.out.trans (b6.mono B3.out.size)⟩
theorem shapeKinds_walk (v : Value) (ss : List ByteArray) (n f k : Int) (w : World) (h : IsTab w v ss) : Holds 4 #[v, .int .i64 n, .int .i64 f, .int .i64 k] w := by
  cases hv : vs ss with
  | true => exact shapeKinds_vast v ss n f k w h hv
  | false => exact shapeKinds_few v ss n f k w h hv
end Go.Proofs.YtngnjlmpmpdnjaaDoor
