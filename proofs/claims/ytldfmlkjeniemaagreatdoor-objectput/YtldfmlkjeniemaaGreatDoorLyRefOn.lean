/- The document's answers for layer 6: Right, Size, Ack, List, Base, Space, At. -/
import Derived.Test.YtldfmlkjeniemaaGreatDoorLyFaceOn
import Derived.Test.YtldfmlkjeniemaaGreatDoorObBoxOn
import Derived.Test.YtldfmlkjeniemaaGreatDoorHdTopOn
set_option linter.unusedVariables false
namespace Go.Proofs.YtldfmlkjeniemaaGreatDoor
open Go.RowKit Go.Ly Go.Sh Go.Sort
set_option maxRecDepth 100000 in
set_option maxHeartbeats 4000000 in
theorem rgt6_no (t s : Int) (a : Option Addr) (n c : Nat) (w : World) (h : nums t s = false) :
    Calls Tryz.prog 16 #[planV t s a n c] w fun e w' => e = .returned (.bool false) ∧ Below w.heap.size w w' := by
  by_cases h1 : t < 1
  · go_enter Tryz.func16, Tryz.ntmps16
    go_wp2
    go_ret
    exact ⟨rfl, below_alloc0 w _⟩
  · have h1' : 1 ≤ t := by omega
    by_cases h2 : 8 < t
    · clear h1
      go_enter Tryz.func16, Tryz.ntmps16
      go_wp2
      go_ret
      exact ⟨rfl, below_alloc0 w _⟩
    · have h2' : t ≤ 8 := by omega
      by_cases h3 : s < 32
      · clear h1 h2
        go_enter Tryz.func16, Tryz.ntmps16
        go_wp2
        go_ret
        exact ⟨rfl, below_alloc0 w _⟩
      · have h3' : 32 ≤ s := by omega
        have h4' : 4096 < s := by
          simp [nums, h1', h2', h3'] at h; omega
        clear h1 h2 h3 h
        go_enter Tryz.func16, Tryz.ntmps16
        go_wp2
        go_ret
        exact ⟨rfl, below_alloc0 w _⟩
set_option maxRecDepth 100000 in
set_option maxHeartbeats 4000000 in
theorem rgt6_at (t s : Int) (a : Option Addr) (n c : Nat) (ss : List ByteArray) (w : World) (r : Bool) (hT : IsTab w (.slice a n c) ss) (hr : Hid (rgt t s ss = r)) :
    Calls Tryz.prog 16 #[planV t s a n c] w fun e w' => e = .returned (.bool r) ∧ Below w.heap.size w w' := by
  have hr := hr.out
  rcases Bool.eq_false_or_eq_true (nums t s) with hn | hn
  · obtain ⟨t0, t1, s0, s1⟩ := nums_yes hn
    rw [rgt, hn, Bool.true_and] at hr
    have cr := rRight_any _ ss _ (hT.below (Nat.le_refl _) (below_alloc0 w (.cells #[.int .i64 t, .int .i64 s, .slice a n c] 24)))
    rw [hr] at cr
    clear hr hn hT
    go_enter Tryz.func16, Tryz.ntmps16
    go_wp2_with (go_at_call 40; refine cr.mono ?_; rintro e w1 ⟨rfl, hw⟩; rw [hw]; clear hw)
    go_ret
    exact ⟨rfl, below_alloc0 w _⟩
  · rw [rgt, hn, Bool.false_and] at hr
    subst hr
    exact rgt6_no t s a n c w hn
theorem rSize6 (t s : Int) (a : Option Addr) (n c : Nat) (w : World) (t0 : 1 ≤ t) (t1 : t ≤ 8) (s0 : 32 ≤ s) (s1 : s ≤ 4096) :
    Calls Tryz.prog 17 #[planV t s a n c] w fun e w' => e = .returned (.int .i64 (3 + t + t + 2 * s)) ∧ Below w.heap.size w w' := by
  go_enter Tryz.func17, Tryz.ntmps17
  go_wp2
  go_ret
  exact ⟨ret_int (by omega), below_alloc0 w _⟩
theorem rBase6_0 (t s : Int) (a : Option Addr) (n c : Nat) (w : World) (t0 : 1 ≤ t) (t1 : t ≤ 8) (s0 : 32 ≤ s) (s1 : s ≤ 4096) :
    Calls Tryz.prog 39 #[planV t s a n c, .int .i64 0] w fun e w' => e = .returned (.int .i64 (3 + t + t)) ∧ Below w.heap.size w w' := by
  go_enter Tryz.func39, Tryz.ntmps39
  go_wp2
  go_ret
  exact ⟨ret_int (by omega), below_alloc0 w _⟩
theorem rBase6_1 (t s : Int) (a : Option Addr) (n c : Nat) (w : World) (t0 : 1 ≤ t) (t1 : t ≤ 8) (s0 : 32 ≤ s) (s1 : s ≤ 4096) :
    Calls Tryz.prog 39 #[planV t s a n c, .int .i64 1] w fun e w' => e = .returned (.int .i64 (3 + t + t + s)) ∧ Below w.heap.size w w' := by
  go_enter Tryz.func39, Tryz.ntmps39
  go_wp2
  go_ret
  exact ⟨ret_int (by omega), below_alloc0 w _⟩
end Go.Proofs.YtldfmlkjeniemaaGreatDoor
/- The document's answers for layer 6: Space, Part. -/
set_option linter.unusedVariables false
namespace Go.Proofs.YtldfmlkjeniemaaGreatDoor
open Go.RowKit Go.Ly Go.Sh Go.Sort
set_option maxRecDepth 100000 in
set_option maxHeartbeats 4000000 in
theorem rSpace6_lo (t s x : Int) (a : Option Addr) (n c : Nat) (w : World) (t0 : 1 ≤ t) (t1 : t ≤ 8) (s0 : 32 ≤ s) (s1 : s ≤ 4096) (h : x < 3 + t + t) :
    Calls Tryz.prog 38 #[planV t s a n c, .int .i64 x] w fun e w' => e = .returned (.int .i64 (-1)) ∧ Below w.heap.size w w' := by
  have cb := fun W => rBase6_0 t s a n c W t0 t1 s0 s1
  go_enter Tryz.func38, Tryz.ntmps38
  go_wp2_with (go_at_call 39; refine (cb _).mono ?_; rintro e w1 ⟨rfl, b1⟩)
  go_ret
  exact ⟨rfl, bel1 b1⟩
set_option maxRecDepth 100000 in
set_option maxHeartbeats 4000000 in
theorem rSpace6_hi (t s x : Int) (a : Option Addr) (n c : Nat) (w : World) (t0 : 1 ≤ t) (t1 : t ≤ 8) (s0 : 32 ≤ s) (s1 : s ≤ 4096) (h : 3 + t + t + 2 * s ≤ x) :
    Calls Tryz.prog 38 #[planV t s a n c, .int .i64 x] w fun e w' => e = .returned (.int .i64 (-1)) ∧ Below w.heap.size w w' := by
  have cb := fun W => rBase6_0 t s a n c W t0 t1 s0 s1
  have cs := fun W => rSize6 t s a n c W t0 t1 s0 s1
  have h' : 3 + t + t ≤ x := by omega
  go_enter Tryz.func38, Tryz.ntmps38
  go_wp2_with (go_at_call 39; refine (cb _).mono ?_)
  rintro e w1 ⟨rfl, b1⟩
  have B1 := hid (bel1 b1)
  have R1 := row1 b1
  clear b1
  have p0 := at_row R1 0 rfl
  have p1 := at_row R1 1 rfl
  have p2 := at_row R1 2 rfl
  clear R1
  go_wp2_with (go_at_call 17; refine (cs _).mono ?_; rintro e w2 ⟨rfl, b2⟩)
  go_ret
  exact ⟨rfl, B1.out.trans (b2.mono B1.out.size)⟩
set_option maxRecDepth 100000 in
set_option maxHeartbeats 4000000 in
theorem rSpace6_in (t s x q : Int) (a : Option Addr) (n c : Nat) (w : World) (t0 : 1 ≤ t) (t1 : t ≤ 8) (s0 : 32 ≤ s) (s1 : s ≤ 4096) (h0 : 3 + t + t ≤ x) (h1 : x < 3 + t + t + 2 * s) (hq : Hid ((x - (3 + t + t)) / s = q)) :
    Calls Tryz.prog 38 #[planV t s a n c, .int .i64 x] w fun e w' => e = .returned (.int .i64 q) ∧ Below w.heap.size w w' := by
  have cb := fun W => rBase6_0 t s a n c W t0 t1 s0 s1
  have cs := fun W => rSize6 t s a n c W t0 t1 s0 s1
  have z0 : 0 ≤ x - (3 + t + t) := by omega
  have sne : (s == 0) = false := by rw [beq_eq_false_iff_ne]; omega
  go_enter Tryz.func38, Tryz.ntmps38
  go_wp2_with (go_at_call 39; refine (cb _).mono ?_)
  rintro e w1 ⟨rfl, b1⟩
  have B1 := hid (bel1 b1)
  have R1 := row1 b1
  have HR1 := hid R1
  clear b1
  have p0 := at_row R1 0 rfl
  have p1 := at_row R1 1 rfl
  have p2 := at_row R1 2 rfl
  clear R1
  go_wp2_with (go_at_call 17; refine (cs _).mono ?_)
  rintro e w2 ⟨rfl, b2⟩
  have R2 := row_below HR1.out b2
  have B2 := hid (B1.out.trans (b2.mono B1.out.size))
  clear p0 p1 p2 b2 B1 HR1
  have p0 := at_row R2 0 rfl
  have p1 := at_row R2 1 rfl
  have p2 := at_row R2 2 rfl
  clear R2
  go_wp2_with fail
  go_ret
  exact ⟨ret_int hq.out, B2.out⟩
/-- What is read and written while a part is told. -/
def Rst (g h : Nat) (t s : Int) (a : Option Addr) (n c : Nat) (W : World) : Prop := g ≠ h ∧ W.heap[g]? = some (.cells #[.int .i64 t, .int .i64 s, .slice a n c] 24) ∧ ∃ u v z, W.heap[h]? = some (.cells #[u, v, z] 102)
def cuV (W : World) (h i : Nat) : Value := (W.cell? ⟨h, i, none⟩).getD undef
abbrev PtS (g h : Nat) (t s : Int) (a : Option Addr) (n c : Nat) (W : World) : Prop :=
  W.cell? ⟨g, 0, none⟩ = some (.int .i64 t) ∧ W.cell? ⟨g, 1, none⟩ = some (.int .i64 s) ∧ W.cell? ⟨g, 2, none⟩ = some (.slice a n c) ∧
  W.cell? ⟨h, 0, none⟩ = some (cuV W h 0) ∧ W.cell? ⟨h, 1, none⟩ = some (cuV W h 1) ∧ W.cell? ⟨h, 2, none⟩ = some (cuV W h 2) ∧
  W.frozen? ⟨h, 0, none⟩ = false ∧ W.frozen? ⟨h, 1, none⟩ = false ∧ W.frozen? ⟨h, 2, none⟩ = false ∧ Rst g h t s a n c W
theorem ptS_of {g h : Nat} {t s : Int} {a : Option Addr} {n c : Nat} {W : World} (k : Rst g h t s a n c W) : PtS g h t s a n c W := by
  obtain ⟨hne, hg, u, v, z, hh⟩ := k
  refine ⟨at_row hg 0 rfl, at_row hg 1 rfl, at_row hg 2 rfl, ?_, ?_, ?_, fz_row hh 0, fz_row hh 1, fz_row hh 2, ⟨hne, hg, u, v, z, hh⟩⟩
  · rw [cuV, at_row hh 0 rfl]; rfl
  · rw [cuV, at_row hh 1 rfl]; rfl
  · rw [cuV, at_row hh 2 rfl]; rfl
theorem ptS_below {g h : Nat} {t s : Int} {a : Option Addr} {n c : Nat} {W W' : World} (k : PtS g h t s a n c W) (b : Below W.heap.size W W') : PtS g h t s a n c W' := by
  obtain ⟨hne, hg, u, v, z, hh⟩ := k.2.2.2.2.2.2.2.2.2
  exact ptS_of ⟨hne, row_below hg b, u, v, z, row_below hh b⟩
theorem other_row {w : World} {g h i : Nat} {v : Value} {O : Obj} (hne : g ≠ h) (k : w.heap[g]? = some O) : (w.setCell ⟨h, i, none⟩ v).heap[g]? = some O := by
  simp [World.setCell, Array.getElem?_modify, Ne.symm hne, k]
theorem rst_set3 {g h : Nat} {t s : Int} {a : Option Addr} {n c : Nat} {W : World} (k : PtS g h t s a n c W) (x y z' : Value) : PtS g h t s a n c (((W.setCell ⟨h, 0, none⟩ x).setCell ⟨h, 1, none⟩ y).setCell ⟨h, 2, none⟩ z') := by
  obtain ⟨hne, hg, u, v, z, hh⟩ := k.2.2.2.2.2.2.2.2.2
  exact ptS_of ⟨hne, other_row hne (other_row hne (other_row hne hg)), x, y, z', set3_row hh x y z'⟩
theorem ptS_drew {g h : Nat} {t s : Int} {a : Option Addr} {n c : Nat} {W : World} (k : PtS g h t s a n c W) : PtS g h t s a n c W.drew := ptS_of k.2.2.2.2.2.2.2.2.2
end Go.Proofs.YtldfmlkjeniemaaGreatDoor
/- package head: Text; numbers below 16 in texts. -/
namespace Go.Hd
/-- A number below 16 as a text. -/
def it (k : Nat) : ByteArray := if k < 10 then ⟨#[UInt8.ofNat (48 + k)]⟩ else ⟨#[49, UInt8.ofNat (38 + k)]⟩
theorem it_size (k : Nat) : (it k).size ≤ 2 := by
  unfold it; split <;> simp [ByteArray.size]
theorem nm_size (k : Nat) : (nm k).size ≤ 5 := by
  unfold nm; split <;> decide
theorem lt16 {k : Nat} (h : k < 16) : k = 0 ∨ k = 1 ∨ k = 2 ∨ k = 3 ∨ k = 4 ∨ k = 5 ∨ k = 6 ∨ k = 7 ∨ k = 8 ∨ k = 9 ∨ k = 10 ∨ k = 11 ∨ k = 12 ∨ k = 13 ∨ k = 14 ∨ k = 15 := by omega
/-- A header's text. -/
def hx (s m : Nat) : ByteArray := it s ++ ⟨#[32]⟩ ++ nm m
/-- What Text answers. -/
def txv (x : Int) : ByteArray × Int := if isH x then (hx (x / 32).toNat (x / 8 % 4).toNat, 0) else (⟨#[]⟩, 2)
theorem isH_nat {x : Int} (h : isH x = true) : ∃ s m : Nat, s < 16 ∧ m < 3 ∧ x / 32 = s ∧ x / 8 % 4 = m := by
  obtain ⟨h1, _, _⟩ := isH_is h
  obtain ⟨a, b, c, d⟩ := ok_yes h1
  exact ⟨(x / 32).toNat, (x / 8 % 4).toNat, by omega, by omega, by omega, by omega⟩
end Go.Hd
namespace Go.Proofs.YtldfmlkjeniemaaGreatDoor
open Go.RowKit Go.Hd Go.Sh Go.Sort
end Go.Proofs.YtldfmlkjeniemaaGreatDoor
/- The document's functions (lapidaryref04): Make, Word, Of, Marked, Size, Name. -/
namespace Go.Proofs.YtldfmlkjeniemaaGreatDoor
open Go.RowKit Go.Hd Go.Sh
set_option maxHeartbeats 1000000 in
theorem rmake_yes (s m : Int) (w : World) (h : ok s m = true) : Calls Tryz.prog 35 #[.agg #[.int .i64 s, .int .i64 m]] w fun e w' => e = .returned (.tuple #[.int .u64 (wd s m), .int .i64 0]) ∧ Below w.heap.size w w' := by
  obtain ⟨s0, s1, m0, m1⟩ := ok_yes h
  have s1' : s ≤ 15 := by omega
  clear h
  have H : Hid (8 * (4 * s + m) + 6 = wd s m) := hid rfl
  go_enter Tryz.func35, Tryz.ntmps35
  go_wp2
  go_ret2
  exact ⟨by rw [← H.out]; rfl, below_alloc0 w _⟩
set_option maxHeartbeats 1000000 in
theorem rmake_no (s m : Int) (w : World) (h : ok s m = false) : Calls Tryz.prog 35 #[.agg #[.int .i64 s, .int .i64 m]] w fun e w' => e = .returned (.tuple #[.int .u64 0, .int .i64 2]) ∧ Below w.heap.size w w' := by
  by_cases h0 : s < 0
  · clear h
    go_enter Tryz.func35, Tryz.ntmps35
    go_wp2
    go_ret2
    exact ⟨rfl, below_alloc0 w _⟩
  · have h0' : 0 ≤ s := by omega
    clear h0
    by_cases h1 : 15 < s
    · clear h
      go_enter Tryz.func35, Tryz.ntmps35
      go_wp2
      go_ret2
      exact ⟨rfl, below_alloc0 w _⟩
    · have h1' : s ≤ 15 := by omega
      clear h1
      by_cases h2 : m < 0
      · clear h
        go_enter Tryz.func35, Tryz.ntmps35
        go_wp2
        go_ret2
        exact ⟨rfl, below_alloc0 w _⟩
      · have h2' : 0 ≤ m := by omega
        have h3 : 2 < m := by
          have e : ¬ (m ≤ 2) := by
            intro hm
            have : ok s m = true := by simp [ok, mk]; omega
            rw [h] at this; cases this
          omega
        clear h h2
        go_enter Tryz.func35, Tryz.ntmps35
        go_wp2
        go_ret2
        exact ⟨rfl, below_alloc0 w _⟩
theorem rword_at (s m : Int) (w : World) (s0 : 0 ≤ s) (s1 : s ≤ 15) (m0 : 0 ≤ m) (m1 : m ≤ 2) : Calls Tryz.prog 42 #[.int .i64 s, .int .i64 m] w fun e w' => e = .returned (.int .u64 (wd s m)) ∧ w' = w := by
  have H : Hid (8 * (4 * s + m) + 6 = wd s m) := hid rfl
  go_enter Tryz.func42, Tryz.ntmps42
  go_wp2
  go_ret
  exact ⟨ret_int H.out, rfl⟩
set_option maxHeartbeats 1000000 in
theorem rof_no_a (x : Int) (w : World) (x0 : 0 ≤ x) (x1 : x ≤ 18446744073709551615) (h : (x % 8 != 6) = true) : Calls Tryz.prog 28 #[.int .u64 x] w fun e w' => e = .returned (.tuple #[.agg #[.int .i64 0, .int .i64 0], .bool false]) ∧ Below w.heap.size w w' := by
  have n0 : 0 ≤ x / 8 := by omega
  have n1 : x / 8 ≤ 18446744073709551615 := by omega
  go_enter Tryz.func28, Tryz.ntmps28
  go_wp2
  exact bodyPost_ret (v := .tuple #[.agg #[.int .i64 0, .int .i64 0], .bool false]) (by simp [results, Tryz.results28, go_sem]) rfl ⟨rfl, below_alloc0 w _⟩
set_option maxHeartbeats 1000000 in
theorem rof_no_b (x : Int) (w : World) (x0 : 0 ≤ x) (x1 : x ≤ 18446744073709551615) (h : (x % 8 != 6) = false) (h2 : 64 ≤ x / 8) : Calls Tryz.prog 28 #[.int .u64 x] w fun e w' => e = .returned (.tuple #[.agg #[.int .i64 0, .int .i64 0], .bool false]) ∧ Below w.heap.size w w' := by
  have n0 : 0 ≤ x / 8 := by omega
  have n1 : x / 8 ≤ 18446744073709551615 := by omega
  go_enter Tryz.func28, Tryz.ntmps28
  go_wp2
  exact bodyPost_ret (v := .tuple #[.agg #[.int .i64 0, .int .i64 0], .bool false]) (by simp [results, Tryz.results28, go_sem]) rfl ⟨rfl, below_alloc0 w _⟩
set_option maxHeartbeats 1000000 in
theorem rof_no_c (x : Int) (w : World) (x0 : 0 ≤ x) (x1 : x ≤ 18446744073709551615) (h : (x % 8 != 6) = false) (h2 : x / 8 < 64) (h3 : (x / 8 % 4 == 3) = true) : Calls Tryz.prog 28 #[.int .u64 x] w fun e w' => e = .returned (.tuple #[.agg #[.int .i64 0, .int .i64 0], .bool false]) ∧ Below w.heap.size w w' := by
  have n0 : 0 ≤ x / 8 := by omega
  have n1 : x / 8 ≤ 18446744073709551615 := by omega
  go_enter Tryz.func28, Tryz.ntmps28
  go_wp2
  exact bodyPost_ret (v := .tuple #[.agg #[.int .i64 0, .int .i64 0], .bool false]) (by simp [results, Tryz.results28, go_sem]) rfl ⟨rfl, below_alloc0 w _⟩
set_option maxHeartbeats 1000000 in
theorem rof_in (x : Int) (w : World) (x0 : 0 ≤ x) (x1 : x ≤ 18446744073709551615) (h : (x % 8 != 6) = false) (h2 : x / 8 < 64) (h3 : (x / 8 % 4 == 3) = false) : Calls Tryz.prog 28 #[.int .u64 x] w fun e w' => e = .returned (.tuple #[.agg #[.int .i64 (x / 32), .int .i64 (x / 8 % 4)], .bool true]) ∧ Below w.heap.size w w' := by
  have e1 : x / 8 / 4 = x / 32 := by omega
  have n0 : 0 ≤ x / 8 := by omega
  have n9 : x / 8 ≤ 18446744073709551615 := by omega
  have n1 : 0 ≤ x / 8 % 4 := by omega
  have n2 : x / 8 % 4 ≤ 3 := by omega
  have k0 : 0 ≤ x / 8 / 4 := by omega
  have k1 : x / 8 / 4 ≤ 15 := by omega
  rw [← e1]
  clear e1
  go_enter Tryz.func28, Tryz.ntmps28
  go_wp2
  exact bodyPost_ret (v := .tuple #[.agg #[.int .i64 (x / 8 / 4), .int .i64 (x / 8 % 4)], .bool true]) (by simp [results, Tryz.results28, go_sem]) rfl ⟨rfl, below_alloc0 w _⟩
theorem rof_yes (x : Int) (w : World) (x0 : 0 ≤ x) (x1 : x ≤ 18446744073709551615) (h : isH x = true) : Calls Tryz.prog 28 #[.int .u64 x] w fun e w' => e = .returned (.tuple #[.agg #[.int .i64 (x / 32), .int .i64 (x / 8 % 4)], .bool true]) ∧ Below w.heap.size w w' := by
  obtain ⟨h1, h2, _⟩ := isH_is h
  obtain ⟨a, b, c, d⟩ := ok_yes h1
  exact rof_in x w x0 x1 (by rw [h2]; rfl) (by omega) (by rw [beq_eq_false_iff_ne]; omega)
theorem rof_no (x : Int) (w : World) (x0 : 0 ≤ x) (x1 : x ≤ 18446744073709551615) (h : isH x = false) : Calls Tryz.prog 28 #[.int .u64 x] w fun e w' => e = .returned (.tuple #[.agg #[.int .i64 0, .int .i64 0], .bool false]) ∧ Below w.heap.size w w' := by
  by_cases h2 : x % 8 = 6
  · by_cases h3 : 64 ≤ x / 8
    · exact rof_no_b x w x0 x1 (by rw [h2]; rfl) h3
    · refine rof_no_c x w x0 x1 (by rw [h2]; rfl) (by omega) ?_
      have : ¬ (x / 8 % 4 ≤ 2) := by
        intro hm
        have : isH x = true := by simp [isH, ok, mk, h2]; omega
        rw [h] at this; cases this
      simp; omega
  · exact rof_no_a x w x0 x1 (by simpa using h2)
theorem hrof_at (x a b : Int) (t : Bool) (w : World) (x0 : 0 ≤ x) (x1 : x ≤ 18446744073709551615) (h : ofv x = (a, b, t)) : Calls Tryz.prog 28 #[.int .u64 x] w fun e w' => e = .returned (.tuple #[.agg #[.int .i64 a, .int .i64 b], .bool t]) ∧ Below w.heap.size w w' := by
  by_cases hi : isH x = true
  · rw [ofv, if_pos hi] at h
    simp only [Prod.mk.injEq] at h
    obtain ⟨rfl, rfl, rfl⟩ := h
    exact rof_yes x w x0 x1 hi
  · rw [ofv, if_neg hi] at h
    simp only [Prod.mk.injEq] at h
    obtain ⟨rfl, rfl, rfl⟩ := h
    exact rof_no x w x0 x1 (by simpa using hi)
end Go.Proofs.YtldfmlkjeniemaaGreatDoor
/- The document's functions (lapidaryref04): Marked, Size, Name. -/
namespace Go.Proofs.YtldfmlkjeniemaaGreatDoor
open Go.RowKit Go.Hd Go.Sh
set_option maxHeartbeats 2000000 in
theorem rhSize_no (x : Int) (v : Value) (w : World) (x0 : 0 ≤ x) (x1 : x ≤ 18446744073709551615) (h : isH x = false) : Calls Tryz.prog 58 #[.int .u64 x, v] w fun e w' => e = .returned (.tuple #[.int .i64 0, .int .i64 2]) ∧ Below w.heap.size w w' := by
  have c := fun W => rof_no x W x0 x1 h
  clear h x0 x1
  go_enter Tryz.func58, Tryz.ntmps58
  go_wp2_with (go_at_call 28; refine (c _).mono ?_)
  rintro e w1 ⟨rfl, b1⟩
  go_wp2
  go_ret2
  exact ⟨rfl, b1.alloc b1.size _⟩
set_option maxHeartbeats 2000000 in
theorem rhSize_is (x : Int) (v : Value) (ss : List ByteArray) (w : World) (x0 : 0 ≤ x) (x1 : x ≤ 18446744073709551615) (h : isH x = true) (ht : IsTab w v ss) :
    Calls Tryz.prog 58 #[.int .u64 x, v] w fun e w' => e = .returned (.tuple #[.int .i64 (sz ss (x / 32)).1, .int .i64 (sz ss (x / 32)).2]) ∧ Below w.heap.size w w' := by
  have c := fun W => rof_yes x W x0 x1 h
  have HT := hid ht
  clear ht
  have cs := fun W hW => rSize_any v ss (x / 32) W hW
  generalize (sz ss (x / 32)).1 = A at *
  generalize (sz ss (x / 32)).2 = B at *
  generalize x / 32 = s at *
  generalize x / 8 % 4 = t at *
  clear h x0 x1
  go_enter Tryz.func58, Tryz.ntmps58
  go_wp2_with (go_at_call 28; refine (c _).mono ?_)
  rintro e w1 ⟨rfl, b1⟩
  go_wp2_with (go_at_call 37; refine (cs _ (HT.out.below (Nat.le_refl _) (b1.alloc b1.size _))).mono ?_)
  rintro e w2 ⟨rfl, hw⟩; rw [hw]; clear hw w2
  go_wp2
  go_ret2
  exact ⟨rfl, b1.alloc b1.size _⟩
theorem rhSize_at (x : Int) (v : Value) (ss : List ByteArray) (a b : Int) (w : World) (x0 : 0 ≤ x) (x1 : x ≤ 18446744073709551615) (ht : IsTab w v ss) (h : szH x ss = (a, b)) :
    Calls Tryz.prog 58 #[.int .u64 x, v] w fun e w' => e = .returned (.tuple #[.int .i64 a, .int .i64 b]) ∧ Below w.heap.size w w' := by
  by_cases hi : isH x = true
  · rw [szH, if_pos hi] at h
    have := rhSize_is x v ss w x0 x1 hi ht
    rwa [h] at this
  · rw [szH, if_neg hi] at h
    obtain ⟨rfl, rfl⟩ := Prod.mk.inj h
    exact rhSize_no x v w x0 x1 (by simpa using hi)
end Go.Proofs.YtldfmlkjeniemaaGreatDoor
