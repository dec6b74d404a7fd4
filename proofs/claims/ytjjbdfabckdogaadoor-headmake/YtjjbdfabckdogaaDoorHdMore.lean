/- package head: Of by what is answered, Marked, Size, Name. -/
import Derived.Test.YtjjbdfabckdogaaDoorHdTop
namespace Go.Hd
/-- What Of answers. -/
def ofv (x : Int) : Int × Int × Bool := if isH x then (x / 32, x / 8 % 4, true) else (0, 0, false)
theorem isH_ok {x : Int} (h : isH x = true) (m : Int) : ok (x / 32) m = mk m := by
  obtain ⟨h1, _, _⟩ := isH_is h
  obtain ⟨a, b, _, _⟩ := ok_yes h1
  simp [ok, a, b]
theorem mkd_no {x m : Int} (h : isH x = false) : mkd x m = (0, 2) := by simp [mkd, h]
theorem mkd_out {x m : Int} (h : mk m = false) : mkd x m = (0, 2) := by simp [mkd, h]
theorem mkd_in {x m : Int} (h : isH x = true) (hm : mk m = true) : mkd x m = (wd (x / 32) m, 0) := by simp [mkd, h, hm]
/-- What Size answers. -/
def szH (x : Int) (ss : List ByteArray) : Int × Int := if isH x then Sh.sz ss (x / 32) else (0, 2)
/-- The marks' names. -/
def nm : Nat → ByteArray
  | 0 => ⟨#[119, 104, 105, 116, 101]⟩
  | 1 => ⟨#[103, 114, 101, 121]⟩
  | 2 => ⟨#[98, 108, 97, 99, 107]⟩
  | _ => ⟨#[]⟩
end Go.Hd
namespace Go.Proofs.YtjjbdfabckdogaaDoor
open Go.RowKit Go.Hd Go.Sh
theorem of_yes (x : Int) (w : World) (x0 : 0 ≤ x) (x1 : x ≤ 18446744073709551615) (h : isH x = true) : Calls Tryd.prog 11 #[.int .u64 x] w fun e w' => e = .returned (.tuple #[.agg #[.int .i64 (x / 32), .int .i64 (x / 8 % 4)], .bool true]) ∧ Below w.heap.size w w' := by
  obtain ⟨h1, h2, _⟩ := isH_is h
  exact of_right x w x0 x1 (by rw [h2]; rfl) h1
theorem of_no (x : Int) (w : World) (x0 : 0 ≤ x) (x1 : x ≤ 18446744073709551615) (h : isH x = false) : Calls Tryd.prog 11 #[.int .u64 x] w fun e w' => e = .returned (.tuple #[.agg #[.int .i64 0, .int .i64 0], .bool false]) ∧ Below w.heap.size w w' := by
  by_cases h2 : x % 8 = 6
  · exact of_wrong x w x0 x1 (by rw [h2]; rfl) (by simpa [isH, h2] using h)
  · exact of_odd x w x0 x1 (by simpa using h2)
theorem of_at (x a b : Int) (t : Bool) (w : World) (x0 : 0 ≤ x) (x1 : x ≤ 18446744073709551615) (h : ofv x = (a, b, t)) : Calls Tryd.prog 11 #[.int .u64 x] w fun e w' => e = .returned (.tuple #[.agg #[.int .i64 a, .int .i64 b], .bool t]) ∧ Below w.heap.size w w' := by
  by_cases hi : isH x = true
  · rw [ofv, if_pos hi] at h
    simp only [Prod.mk.injEq] at h
    obtain ⟨rfl, rfl, rfl⟩ := h
    exact of_yes x w x0 x1 hi
  · rw [ofv, if_neg hi] at h
    simp only [Prod.mk.injEq] at h
    obtain ⟨rfl, rfl, rfl⟩ := h
    exact of_no x w x0 x1 (by simpa using hi)
set_option maxHeartbeats 2000000 in
theorem marked_no (x m : Int) (w : World) (x0 : 0 ≤ x) (x1 : x ≤ 18446744073709551615) (h : isH x = false) : Calls Tryd.prog 15 #[.int .u64 x, .int .i64 m] w fun e w' => e = .returned (.tuple #[.int .u64 0, .int .i64 2]) ∧ Below w.heap.size w w' := by
  have c := fun W => of_no x W x0 x1 h
  clear h x0 x1
  go_enter Tryd.func15, Tryd.ntmps15
  go_wp2_with (go_at_call 11; refine (c _).mono ?_)
  rintro e w1 ⟨rfl, b1⟩
  go_wp2
  go_ret2
  exact ⟨rfl, b1.alloc b1.size _⟩
set_option maxHeartbeats 2000000 in
theorem marked_is (x m A B : Int) (w : World) (x0 : 0 ≤ x) (x1 : x ≤ 18446744073709551615) (h : isH x = true)
    (cm : ∀ W, Calls Tryd.prog 9 #[.agg #[.int .i64 (x / 32), .int .i64 m]] W fun e w' => e = .returned (.tuple #[.int .u64 A, .int .i64 B]) ∧ Below W.heap.size W w') :
    Calls Tryd.prog 15 #[.int .u64 x, .int .i64 m] w fun e w' => e = .returned (.tuple #[.int .u64 A, .int .i64 B]) ∧ Below w.heap.size w w' := by
  have c := fun W => of_yes x W x0 x1 h
  generalize x / 32 = s at *
  generalize x / 8 % 4 = t at *
  clear h x0 x1
  go_enter Tryd.func15, Tryd.ntmps15
  go_wp2_with (go_at_call 11; refine (c _).mono ?_)
  rintro e w1 ⟨rfl, b1⟩
  go_wp2_with (go_at_call 9; refine (cm _).mono ?_)
  rintro e w2 ⟨rfl, b2⟩
  go_wp2
  go_ret2
  exact ⟨rfl, b1.trans ((bel1 b2).mono b1.size)⟩
theorem marked_any (x m : Int) (w : World) (x0 : 0 ≤ x) (x1 : x ≤ 18446744073709551615) : Calls Tryd.prog 15 #[.int .u64 x, .int .i64 m] w fun e w' => e = .returned (.tuple #[.int .u64 (mkd x m).1, .int .i64 (mkd x m).2]) ∧ Below w.heap.size w w' := by
  by_cases hi : isH x = true
  · by_cases hm : mk m = true
    · rw [mkd_in hi hm]
      exact marked_is x m _ _ w x0 x1 hi (fun W => make_yes _ m W ((isH_ok hi m).trans hm))
    · have hm' : mk m = false := by simpa using hm
      rw [mkd_out hm']
      exact marked_is x m _ _ w x0 x1 hi (fun W => make_no _ m W ((isH_ok hi m).trans hm'))
  · have hi' : isH x = false := by simpa using hi
    rw [mkd_no hi']
    exact marked_no x m w x0 x1 hi'
theorem marked_at (x m a c : Int) (w : World) (x0 : 0 ≤ x) (x1 : x ≤ 18446744073709551615) (h : mkd x m = (a, c)) : Calls Tryd.prog 15 #[.int .u64 x, .int .i64 m] w fun e w' => e = .returned (.tuple #[.int .u64 a, .int .i64 c]) ∧ Below w.heap.size w w' := by
  have := marked_any x m w x0 x1
  rwa [h] at this
set_option maxHeartbeats 2000000 in
theorem hSize_no (x : Int) (v : Value) (w : World) (x0 : 0 ≤ x) (x1 : x ≤ 18446744073709551615) (h : isH x = false) : Calls Tryd.prog 18 #[.int .u64 x, v] w fun e w' => e = .returned (.tuple #[.int .i64 0, .int .i64 2]) ∧ Below w.heap.size w w' := by
  have c := fun W => of_no x W x0 x1 h
  clear h x0 x1
  go_enter Tryd.func18, Tryd.ntmps18
  go_wp2_with (go_at_call 11; refine (c _).mono ?_)
  rintro e w1 ⟨rfl, b1⟩
  go_wp2
  go_ret2
  exact ⟨rfl, b1.alloc b1.size _⟩
set_option maxHeartbeats 2000000 in
theorem hSize_is (x : Int) (v : Value) (ss : List ByteArray) (w : World) (x0 : 0 ≤ x) (x1 : x ≤ 18446744073709551615) (h : isH x = true) (ht : IsTab w v ss) :
    Calls Tryd.prog 18 #[.int .u64 x, v] w fun e w' => e = .returned (.tuple #[.int .i64 (sz ss (x / 32)).1, .int .i64 (sz ss (x / 32)).2]) ∧ Below w.heap.size w w' := by
  have c := fun W => of_yes x W x0 x1 h
  have HT := hid ht
  clear ht
  have cs := fun W hW => Size_any v ss (x / 32) W hW
  generalize (sz ss (x / 32)).1 = A at *
  generalize (sz ss (x / 32)).2 = B at *
  generalize x / 32 = s at *
  generalize x / 8 % 4 = t at *
  clear h x0 x1
  go_enter Tryd.func18, Tryd.ntmps18
  go_wp2_with (go_at_call 11; refine (c _).mono ?_)
  rintro e w1 ⟨rfl, b1⟩
  go_wp2_with (go_at_call 28; refine (cs _ (HT.out.below (Nat.le_refl _) (b1.alloc b1.size _))).mono ?_)
  rintro e w2 ⟨rfl, b2⟩
  go_wp2
  go_ret2
  exact ⟨rfl, b1.trans ((bel1 b2).mono b1.size)⟩
theorem hSize_at (x : Int) (v : Value) (ss : List ByteArray) (a b : Int) (w : World) (x0 : 0 ≤ x) (x1 : x ≤ 18446744073709551615) (ht : IsTab w v ss) (h : szH x ss = (a, b)) :
    Calls Tryd.prog 18 #[.int .u64 x, v] w fun e w' => e = .returned (.tuple #[.int .i64 a, .int .i64 b]) ∧ Below w.heap.size w w' := by
  by_cases hi : isH x = true
  · rw [szH, if_pos hi] at h
    have := hSize_is x v ss w x0 x1 hi ht
    rwa [h] at this
  · rw [szH, if_neg hi] at h
    obtain ⟨rfl, rfl⟩ := Prod.mk.inj h
    exact hSize_no x v w x0 x1 (by simpa using hi)
/-- The table of names stands as it was laid. -/
def Names (w : World) : Prop := 0 < w.heap.size ∧ ∀ i, i < 3 → w.cell? ⟨0, i, none⟩ = some (.string (nm i))
theorem Names.below {w w' : World} (h : Names w) (hb : Below w.heap.size w w') : Names w' :=
  ⟨Nat.lt_of_lt_of_le h.1 hb.size, fun i hi => (hb.cell (p := ⟨0, i, none⟩) h.1).trans (h.2 i hi)⟩
set_option maxHeartbeats 1000000 in
theorem name_in (k : Nat) (T : ByteArray) (w : World) (hk : k < 3) (hT : nm k = T) (h : Names w) :
    Calls Tryd.prog 22 #[.int .i64 (k : Int)] w fun e w' => e = .returned (.tuple #[.string T, .bool true]) ∧ w' = w := by
  have hc := h.2 k hk
  rw [hT] at hc
  have k3 : (k : Int) < 3 := by omega
  have c := isMark_any k w
  rw [show mk (k : Int) = true by simp [mk]; omega] at c
  clear h hk hT
  go_enter Tryd.func22, Tryd.ntmps22
  go_wp2_with (go_at_call 32; refine c.mono ?_)
  rintro e w1 ⟨rfl, hw⟩; rw [hw]; clear hw w1
  go_wp2
  go_ret2
  exact ⟨rfl, rfl⟩
theorem name_out (p : Int) (w : World) (h : mk p = false) :
    Calls Tryd.prog 22 #[.int .i64 p] w fun e w' => e = .returned (.tuple #[.string ⟨#[]⟩, .bool false]) ∧ w' = w := by
  have c := isMark_any p w
  rw [h] at c
  clear h
  go_enter Tryd.func22, Tryd.ntmps22
  go_wp2_with (go_at_call 32; refine c.mono ?_)
  rintro e w1 ⟨rfl, hw⟩; rw [hw]; clear hw w1
  go_wp2
  go_ret2
  exact ⟨rfl, rfl⟩
end Go.Proofs.YtjjbdfabckdogaaDoor
