/- package head: Make, Of, Marked, Size, Name. -/
import Derived.Test.YtjfegimgpkeleaaDoorHdLeaf
import Derived.Test.YtjfegimgpkeleaaDoorShTop
namespace Go.Hd
/-- Is it a header's word? -/
def isH (x : Int) : Bool := decide (x % 8 = 6) && ok (x / 32) (x / 8 % 4)
theorem isH_wd {s m : Int} (h : ok s m = true) : isH (wd s m) = true ∧ wd s m / 32 = s ∧ wd s m / 8 % 4 = m ∧ 0 ≤ wd s m ∧ wd s m ≤ 510 := by
  obtain ⟨a, b, c, d⟩ := ok_yes h
  have e1 : wd s m / 32 = s := by unfold wd; omega
  have e2 : wd s m / 8 % 4 = m := by unfold wd; omega
  have e3 : wd s m % 8 = 6 := by unfold wd; omega
  refine ⟨?_, e1, e2, ?_, ?_⟩
  · unfold isH; rw [e1, e2, e3, h]; rfl
  · unfold wd; omega
  · unfold wd; omega
theorem isH_is {x : Int} (h : isH x = true) : ok (x / 32) (x / 8 % 4) = true ∧ x % 8 = 6 ∧ wd (x / 32) (x / 8 % 4) = x := by
  simp only [isH, Bool.and_eq_true, decide_eq_true_eq] at h
  refine ⟨h.2, h.1, ?_⟩
  unfold wd; omega
def mkd (x m : Int) : Int × Int := if isH x && mk m then (wd (x / 32) m, 0) else (0, 2)
end Go.Hd
namespace Go.Proofs.YtjfegimgpkeleaaDoor
open Go.RowKit Go.Hd Go.Sh
theorem below2 (w : World) (A B : Obj) : Below w.heap.size w ((w.alloc A).alloc B) := (below_alloc0 w A).alloc (by simp) B
set_option maxHeartbeats 1000000 in
theorem make_yes (s m : Int) (w : World) (h : ok s m = true) : Calls Tryd.prog 62 #[.agg #[.int .i64 s, .int .i64 m]] w fun e w' => e = .returned (.tuple #[.int .u64 (wd s m), .int .i64 0]) ∧ Below w.heap.size w w' := by
  have c := fun W => hmay_any s m W
  rw [h] at c
  have c2 := fun W => hword_any s m W h
  clear h
  go_enter Tryd.func62, Tryd.ntmps62
  go_wp2_with (go_at_call 75; refine (c _).mono ?_)
  rintro e w1 ⟨rfl, b1⟩
  have c0 := at_row (row2b b1) 0 rfl
  have c1 := at_row (row2b b1) 1 rfl
  have bw := bel2 b1
  clear b1
  go_wp2_with (go_at_call 76; refine (c2 _).mono ?_)
  rintro e w2 ⟨rfl, b2⟩
  go_wp2
  go_ret2
  exact ⟨rfl, bw.trans (b2.mono bw.size)⟩
set_option maxHeartbeats 1000000 in
theorem make_no (s m : Int) (w : World) (h : ok s m = false) : Calls Tryd.prog 62 #[.agg #[.int .i64 s, .int .i64 m]] w fun e w' => e = .returned (.tuple #[.int .u64 0, .int .i64 2]) ∧ Below w.heap.size w w' := by
  have c := fun W => hmay_any s m W
  rw [h] at c
  clear h
  go_enter Tryd.func62, Tryd.ntmps62
  go_wp2_with (go_at_call 75; refine (c _).mono ?_)
  rintro e w1 ⟨rfl, b1⟩
  have bw := bel2 b1
  clear b1
  go_wp2
  go_ret2
  exact ⟨rfl, bw⟩
end Go.Proofs.YtjfegimgpkeleaaDoor
