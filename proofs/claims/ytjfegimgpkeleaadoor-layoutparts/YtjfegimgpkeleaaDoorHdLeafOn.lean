/- package head: isMark, a header under way (may, word), a word's parts. -/
import Derived.Test.YtjfegimgpkeleaaDoorBsKit
import Derived.Test.YtjfegimgpkeleaaDoorShSizeOn
namespace Go.Hd
/-- May it be a mark, a header? -/
def mk (m : Int) : Bool := decide (0 ≤ m) && decide (m ≤ 2)
def ok (s m : Int) : Bool := decide (0 ≤ s) && decide (s < 16) && mk m
/-- A header's word. -/
def wd (s m : Int) : Int := 8 * (4 * s + m) + 6
theorem mk_yes {m : Int} (h : mk m = true) : 0 ≤ m ∧ m ≤ 2 := by simpa [mk] using h
theorem ok_yes {s m : Int} (h : ok s m = true) : 0 ≤ s ∧ s < 16 ∧ 0 ≤ m ∧ m ≤ 2 := by
  simp [ok, mk] at h; omega
theorem sixteen {s : Int} (h0 : 0 ≤ s) (h1 : s < 16) : s = 0 ∨ s = 1 ∨ s = 2 ∨ s = 3 ∨ s = 4 ∨ s = 5 ∨ s = 6 ∨ s = 7 ∨ s = 8 ∨ s = 9 ∨ s = 10 ∨ s = 11 ∨ s = 12 ∨ s = 13 ∨ s = 14 ∨ s = 15 := by omega
theorem three {m : Int} (h0 : 0 ≤ m) (h1 : m ≤ 2) : m = 0 ∨ m = 1 ∨ m = 2 := by omega
theorem or_wd (s m : Int) (s0 : 0 ≤ s) (s1 : s < 16) (m0 : 0 ≤ m) (m1 : m ≤ 2) : bits .or .u64 (bits .or .u64 (s * 32) (m * 8)) 6 = wd s m := by
  rcases three m0 m1 with rfl | rfl | rfl <;>
  rcases sixteen s0 s1 with rfl | rfl | rfl | rfl | rfl | rfl | rfl | rfl | rfl | rfl | rfl | rfl | rfl | rfl | rfl | rfl <;> rfl
end Go.Hd
namespace Go.Proofs.YtjfegimgpkeleaaDoor
open Go.RowKit Go.Hd
theorem isMark_any (m : Int) (w : World) : Calls Tryd.prog 91 #[.int .i64 m] w fun e w' => e = .returned (.bool (mk m)) ∧ w' = w := by
  by_cases h0 : m < 0
  · have H : Hid (mk m = false) := hid (by simp [mk]; omega)
    go_enter Tryd.func91, Tryd.ntmps91
    go_wp2
    go_ret
    exact ⟨ret_bool H.out.symm, rfl⟩
  · have h0' : 0 ≤ m := by omega
    clear h0
    by_cases h1 : m ≤ 2
    · have H : Hid (mk m = true) := hid (by simp [mk]; omega)
      go_enter Tryd.func91, Tryd.ntmps91
      go_wp2
      go_ret
      exact ⟨ret_bool H.out.symm, rfl⟩
    · have H : Hid (decide (m ≤ 2) = mk m) := hid (by simp [mk, h0'])
      have h1' : 2 < m := by omega
      clear h1
      go_enter Tryd.func91, Tryd.ntmps91
      go_wp2
      go_ret
      exact ⟨ret_bool H.out, rfl⟩
theorem hmay_any (s m : Int) (w : World) : Calls Tryd.prog 75 #[.agg #[.int .i64 s, .int .i64 m]] w fun e w' => e = .returned (.bool (ok s m)) ∧ Below w.heap.size w w' := by
  by_cases h0 : s < 0
  · have H : Hid (ok s m = false) := hid (by simp [ok]; omega)
    go_enter Tryd.func75, Tryd.ntmps75
    go_wp2
    go_ret
    exact ⟨ret_bool H.out.symm, below_alloc0 w _⟩
  · have h0' : 0 ≤ s := by omega
    clear h0
    by_cases h1 : s < 16
    · have H : Hid (mk m = ok s m) := hid (by simp [ok, h0', h1])
      go_enter Tryd.func75, Tryd.ntmps75
      go_wp2_with (go_at_call 91; refine (isMark_any m _).mono ?_; rintro e w1 ⟨rfl, hw⟩; rw [hw]; clear hw)
      go_ret
      exact ⟨ret_bool H.out, below_alloc0 w _⟩
    · have H : Hid (ok s m = false) := hid (by simp [ok]; omega)
      have h1' : 16 ≤ s := by omega
      clear h1
      go_enter Tryd.func75, Tryd.ntmps75
      go_wp2
      go_ret
      exact ⟨ret_bool H.out.symm, below_alloc0 w _⟩
theorem hword_any (s m : Int) (w : World) (h : ok s m = true) : Calls Tryd.prog 76 #[.agg #[.int .i64 s, .int .i64 m]] w fun e w' => e = .returned (.int .u64 (wd s m)) ∧ Below w.heap.size w w' := by
  obtain ⟨s0, s1, m0, m1⟩ := ok_yes h
  have H := hid (or_wd s m s0 s1 m0 m1)
  clear h
  go_enter Tryd.func76, Tryd.ntmps76
  go_wp2
  go_ret
  exact ⟨ret_int H.out, below_alloc0 w _⟩
end Go.Proofs.YtjfegimgpkeleaaDoor
/- package head: Make, Of, Marked, Size, Name. -/
namespace Go.Hd
/-- Is it a header's word? -/
def isH (x : Int) : Bool := decide (x % 8 = 6) && ok (x / 32) (x / 8 % 4)
theorem isH_wd {s m : Int} (h : ok s m = true) : isH (wd s m) = true ∧ wd s m / 32 = s ∧ wd s m / 8 % 4 = m ∧ 0 ≤ wd s m ∧ wd s m ≤ 510 := by
  obtain ⟨a, b, c, d⟩ := ok_yes h
  have e1 : wd s m / 32 = s := by unfold wd; omega
  have e2 : wd s m / 8 % 4 = m := by unfold wd; omega
  have e3 : wd s m % 8 = 6 := by unfold wd; omega
  refine ⟨?_, e1, e2, ?_, ?_⟩
  · unfold isH; rw [e1, e2, e3, h]; rfl
  · unfold wd; omega
  · unfold wd; omega
theorem isH_is {x : Int} (h : isH x = true) : ok (x / 32) (x / 8 % 4) = true ∧ x % 8 = 6 ∧ wd (x / 32) (x / 8 % 4) = x := by
  simp only [isH, Bool.and_eq_true, decide_eq_true_eq] at h
  refine ⟨h.2, h.1, ?_⟩
  unfold wd; omega
def mkd (x m : Int) : Int × Int := if isH x && mk m then (wd (x / 32) m, 0) else (0, 2)
end Go.Hd
namespace Go.Proofs.YtjfegimgpkeleaaDoor
open Go.RowKit Go.Hd Go.Sh
theorem below2 (w : World) (A B : Obj) : Below w.heap.size w ((w.alloc A).alloc B) := (below_alloc0 w A).alloc (by simp) B
set_option maxHeartbeats 1000000 in
theorem make_yes (s m : Int) (w : World) (h : ok s m = true) : Calls Tryd.prog 62 #[.agg #[.int .i64 s, .int .i64 m]] w fun e w' => e = .returned (.tuple #[.int .u64 (wd s m), .int .i64 0]) ∧ Below w.heap.size w w' := by
  have c := fun W => hmay_any s m W
  rw [h] at c
  have c2 := fun W => hword_any s m W h
  clear h
  go_enter Tryd.func62, Tryd.ntmps62
  go_wp2_with (go_at_call 75; refine (c _).mono ?_)
  rintro e w1 ⟨rfl, b1⟩
  have c0 := at_row (row2b b1) 0 rfl
  have c1 := at_row (row2b b1) 1 rfl
  have bw := bel2 b1
  clear b1
  go_wp2_with (go_at_call 76; refine (c2 _).mono ?_)
  rintro e w2 ⟨rfl, b2⟩
  go_wp2
  go_ret2
  exact ⟨rfl, bw.trans (b2.mono bw.size)⟩
set_option maxHeartbeats 1000000 in
theorem make_no (s m : Int) (w : World) (h : ok s m = false) : Calls Tryd.prog 62 #[.agg #[.int .i64 s, .int .i64 m]] w fun e w' => e = .returned (.tuple #[.int .u64 0, .int .i64 2]) ∧ Below w.heap.size w w' := by
  have c := fun W => hmay_any s m W
  rw [h] at c
  clear h
  go_enter Tryd.func62, Tryd.ntmps62
  go_wp2_with (go_at_call 75; refine (c _).mono ?_)
  rintro e w1 ⟨rfl, b1⟩
  have bw := bel2 b1
  clear b1
  go_wp2
  go_ret2
  exact ⟨rfl, bw⟩
end Go.Proofs.YtjfegimgpkeleaaDoor
