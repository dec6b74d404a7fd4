/- The walk of the law WordOf. -/
import Derived.Test.YtlbhkaokpfljmaaDoorWdSeals
import Derived.Test.YtlbhkaokpfljmaaDoorWdSlice
import Derived.Lib.QuietBelow
namespace Go.Proofs.YtlbhkaokpfljmaaDoor
open Go.RowKit Go.Sort
theorem make_bad_of (x : Int) (w : World) (h : Wd.ofK x = 0) : Calls Tryd.prog 11 #[.agg #[.int .i64 (Wd.ofK x), .bool (Wd.ofS x), .int .i64 (Wd.ofV x)]] w fun e w' => e = .returned (.tuple #[.int .u64 0, .int .i64 2]) ∧ Below w.heap.size w w' := by
  have hm := Wd.mk_bad (Wd.ofS x) (Wd.ofV x)
  rw [h]
  exact (make_any _ _ _ w).mono fun _ _ e => ⟨e.1.trans (ret_ie hm.2 hm.1), e.2⟩
theorem make_good_of (x : Int) (w : World) (h0 : 0 ≤ x) (h : ¬ Wd.ofK x = 0) : Calls Tryd.prog 11 #[.agg #[.int .i64 (Wd.ofK x), .bool (Wd.ofS x), .int .i64 (Wd.ofV x)]] w fun e w' => e = .returned (.tuple #[.int .u64 x, .int .i64 0]) ∧ Below w.heap.size w w' := by
  obtain ⟨k, v, hi⟩ := Wd.has_is x h0
  obtain ⟨e1, e2, e3⟩ := Wd.is_fun h0 hi
  have hk : k ≠ 0 := by omega
  have hs : Wd.ofS x = decide (x % 2 = 1) := by rw [e3]; simp [hk]
  have hm := Wd.mk_of h0 hi hk (Wd.ofS x) hs
  rw [← e1, ← e2] at hm
  exact (make_any _ _ _ w).mono fun _ _ e => ⟨e.1.trans (ret_ie hm.2 hm.1), e.2⟩
set_option maxRecDepth 100000 in
set_option maxHeartbeats 4000000 in
theorem wordOf_loop (b off len cap : Nat) (zs : List Int) (w : World) (hlen : len ≤ 60) (hc : Hid (Cells w b off len zs)) :
    Calls Tryd.prog 3 #[.slice (some ⟨b, off, none⟩) len cap] w fun e w' => e = .returned (.bool true) ∧ Below w.heap.size w w' := by
  have hgt : ¬ (60 : Int) < (len : Int) := by omega
  go_enter Tryd.func3, Tryd.ntmps3
  go_wp2
  go_loopw [3] (fun i wr => ∃ k : Nat, k ≤ len ∧ i = .int .i64 k ∧ Below w.heap.size w wr) (fun i _ => len - (intOf i).toNat)
  case atStart => exact ⟨0, by omega, rfl, Below.refl _ _⟩
  case round =>
    obtain ⟨k, hk, rfl, a0⟩ := hrel
    have z0 : w.heap.size ≤ wr.heap.size := a0.size
    by_cases hlt : k < len
    · obtain ⟨hbk, hcell, x0, x1⟩ := hc.out k hlt
      have hcr : wr.cell? ⟨b, off + k, none⟩ = some (.int .u64 (zs.getD k 0)) := (a0.cell (p := ⟨b, off + k, none⟩) hbk).trans hcell
      generalize zs.getD k 0 = x at *
      have Hcell := hid hcell; clear hcell
      go_wp2_with (go_at_call 10; refine (of_fn x _ x0 x1).mono ?_)
      rintro e w1 ⟨rfl, b1⟩
      have a1 : Below w.heap.size w w1 := a0.trans (b1.mono z0)
      have z1 : w.heap.size ≤ w1.heap.size := a1.size
      clear b1
      have w1b : b < w1.heap.size := by omega
      by_cases hbad : Wd.ofK x = 0
      · have HZ := hid hbad
        have hz : (Wd.ofK x == 0) = true := by simpa using hbad
        have hz2 : (Wd.ofK x != 0) = false := by simpa using hbad
        clear hbad
        go_wp2_with (go_at_call 11; refine (make_bad_of x _ HZ.out).mono ?_)
        rintro e w2 ⟨rfl, b2⟩
        have c0 := cell_regrown (show w2.cell? ⟨w1.heap.size, 0, none⟩ = some (.int .i64 (Wd.ofK x)) from cell_new b2 0 _ rfl)
        have c1 := cell_regrown (show w2.cell? ⟨w1.heap.size, 1, none⟩ = some (.bool (Wd.ofS x)) from cell_new b2 1 _ rfl)
        have c2 := cell_regrown (show w2.cell? ⟨w1.heap.size, 2, none⟩ = some (.int .i64 (Wd.ofV x)) from cell_new b2 2 _ rfl)
        have a2 : Below w.heap.size w w2 := (a1.alloc z1 _).trans (b2.mono (by simp; omega))
        have z2 : w.heap.size ≤ w2.heap.size := a2.size
        have hcw := cell_regrown (show w2.cell? ⟨b, off + k, none⟩ = some (.int .u64 x) from (a2.cell (p := ⟨b, off + k, none⟩) hbk).trans Hcell.out)
        clear b2 a1 z1 a0 z0 hcr
        have cR : ∀ d os, Calls Tryd.prog 12 #[.int .u64 x] (grow (redrawn w2 d) os) fun e w'' => e = .returned (.agg #[.int .i64 (Wd.ofK x), .bool (Wd.ofS x), .int .i64 (Wd.ofV x)]) ∧ ∃ p : Regrown, w'' = grow (redrawn w2 p.d) p.os := fun d os => Calls.regrown_of (rof_any x _ x0 x1)
        have cN : ∀ d os, Calls Tryd.prog 13 #[.int .i64 2] (grow (redrawn w2 d) os) fun e w'' => e = .returned (.int .i64 2) ∧ ∃ p : Regrown, w'' = grow (redrawn w2 p.d) p.os := fun d os => Calls.regrown_of ((num_any 2 _).mono fun _ _ h => ⟨h.1, h.2 ▸ Below.refl _ _⟩)
        go_wp2_with fail
        refine wp_region_quiet_below (by kernel_rfl) (by kernel_rfl) ?_
        repeat (go_big_quiet_step ((first | (go_at_call 12; exact cR _ _) | (go_at_call 13; exact cN _ _))))
        refine wpQuiet_nil ?_
        intro _ hw'
        obtain ⟨⟨dq, osq⟩, hw''⟩ := hw'
        subst hw''
        go_wp2
        go_roundw
        case rel => exact ⟨k + 1, by omega, by go_num, a2.trans ((below_regrown w2 dq osq).mono z2)⟩
        case measure => simp [intOf]; omega
      · have HZ := hid hbad
        have hz : (Wd.ofK x == 0) = false := by simpa using hbad
        have hz2 : (Wd.ofK x != 0) = true := by simpa using hbad
        clear hbad
        go_wp2_with (go_at_call 11; refine (make_good_of x _ x0 HZ.out).mono ?_)
        rintro e w2 ⟨rfl, b2⟩
        have c0 := cell_regrown (show w2.cell? ⟨w1.heap.size, 0, none⟩ = some (.int .i64 (Wd.ofK x)) from cell_new b2 0 _ rfl)
        have c1 := cell_regrown (show w2.cell? ⟨w1.heap.size, 1, none⟩ = some (.bool (Wd.ofS x)) from cell_new b2 1 _ rfl)
        have c2 := cell_regrown (show w2.cell? ⟨w1.heap.size, 2, none⟩ = some (.int .i64 (Wd.ofV x)) from cell_new b2 2 _ rfl)
        have a2 : Below w.heap.size w w2 := (a1.alloc z1 _).trans (b2.mono (by simp; omega))
        have z2 : w.heap.size ≤ w2.heap.size := a2.size
        have hcw := cell_regrown (show w2.cell? ⟨b, off + k, none⟩ = some (.int .u64 x) from (a2.cell (p := ⟨b, off + k, none⟩) hbk).trans Hcell.out)
        clear b2 a1 z1 a0 z0 hcr
        have cR : ∀ d os, Calls Tryd.prog 12 #[.int .u64 x] (grow (redrawn w2 d) os) fun e w'' => e = .returned (.agg #[.int .i64 (Wd.ofK x), .bool (Wd.ofS x), .int .i64 (Wd.ofV x)]) ∧ ∃ p : Regrown, w'' = grow (redrawn w2 p.d) p.os := fun d os => Calls.regrown_of (rof_any x _ x0 x1)
        have cN : ∀ d os, Calls Tryd.prog 13 #[.int .i64 0] (grow (redrawn w2 d) os) fun e w'' => e = .returned (.int .i64 0) ∧ ∃ p : Regrown, w'' = grow (redrawn w2 p.d) p.os := fun d os => Calls.regrown_of ((num_any 0 _).mono fun _ _ h => ⟨h.1, h.2 ▸ Below.refl _ _⟩)
        go_wp2_with fail
        refine wp_region_quiet_below (by kernel_rfl) (by kernel_rfl) ?_
        repeat (go_big_quiet_step ((first | (go_at_call 12; exact cR _ _) | (go_at_call 13; exact cN _ _))))
        refine wpQuiet_nil ?_
        intro _ hw'
        obtain ⟨⟨dq, osq⟩, hw''⟩ := hw'
        subst hw''
        go_wp2
        go_roundw
        case rel => exact ⟨k + 1, by omega, by go_num, a2.trans ((below_regrown w2 dq osq).mono z2)⟩
        case measure => simp [intOf]; omega
    · go_wp2_with (go_at_call 9; refine (works_any _).mono ?_)
      rintro e w1 ⟨rfl, b1⟩
      go_wp2
      go_ret
      exact ⟨rfl, a0.trans (b1.mono z0)⟩
set_option maxHeartbeats 4000000 in
theorem wordOf_zero (a : Option Addr) (cap : Nat) (w : World) : Calls Tryd.prog 3 #[.slice a 0 cap] w fun e w' => e = .returned (.bool true) ∧ Below w.heap.size w w' := by
  go_enter Tryd.func3, Tryd.ntmps3
  go_wp2
  refine wp_loop_rounds 1 ?_
  rw [rounds_succ]
  go_wp2_with (go_at_call 9; refine (works_any _).mono ?_)
  rintro e w1 ⟨rfl, b1⟩
  go_wp2
  go_ret
  exact ⟨rfl, b1⟩
theorem wordOf_long (a : Option Addr) (len cap : Nat) (w : World) (h : (60 : Int) < len) : Calls Tryd.prog 3 #[.slice a len cap] w fun e w' => e = .returned (.bool true) ∧ Below w.heap.size w w' := by
  go_enter Tryd.func3, Tryd.ntmps3
  go_wp2_with (go_at_call 9; refine (works_any _).mono ?_)
  rintro e w1 ⟨rfl, b1⟩
  go_wp2
  go_ret
  exact ⟨rfl, b1⟩
theorem wordOf_walk (a : Option Addr) (len cap : Nat) (zs : List Int) (w : World) (h : IsRow w a len cap zs) : Calls Tryd.prog 3 #[.slice a len cap] w fun e w' => e = .returned (.bool true) ∧ Below w.heap.size w w' := by
  rcases h with ⟨rfl, rfl, rfl, rfl⟩ | ⟨x, rfl, hl, hm, hz, hcell, hwz⟩
  · exact wordOf_zero none 0 w
  · by_cases h0 : 0 < len
    · by_cases h1 : len ≤ 60
      · obtain ⟨b, off, rfl, hc⟩ := IsRow.cells h0 hl hz hcell hwz
        exact wordOf_loop b off len cap zs w h1 hc
      · exact wordOf_long (some x) len cap w (by omega)
    · obtain rfl : len = 0 := by omega
      exact wordOf_zero (some x) cap w
end Go.Proofs.YtlbhkaokpfljmaaDoor
