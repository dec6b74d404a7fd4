import Derived.Test.YtldfmlkjeniemaaDoorBsKitOn
import Derived.Test.YtldfmlkjeniemaaDoorWdSpecOn
/- Plain facts of package pack: bounds, frontiers, claims; nothing of the program's text. -/
namespace Go.Pk
/-- Are all numbers from a to b? -/
def win (a b : Int) (zs : List Int) : Bool := zs.all fun n => decide (a ≤ n) && decide (n ≤ b)
theorem win_one (a b x : Int) : win a b [x] = decide (a ≤ x ∧ x ≤ b) := by
  simp [win]
theorem win_three (a b x y z : Int) : win a b [x, y, z] = decide ((a ≤ x ∧ x ≤ b) ∧ (a ≤ y ∧ y ≤ b) ∧ (a ≤ z ∧ z ≤ b)) := by
  simp [win]
theorem win_out (a b : Int) (zs : List Int) (k : Nat) (hk : k < zs.length) (h : ¬ (a ≤ zs.getD k 0 ∧ zs.getD k 0 ≤ b)) : win a b zs = false := by
  unfold win
  rw [List.all_eq_false]
  refine ⟨zs[k], List.getElem_mem hk, ?_⟩
  simp only [List.getD_eq_getElem?_getD, List.getElem?_eq_getElem hk, Option.getD_some] at h
  simp
  omega
theorem win_all (a b : Int) (zs : List Int) (h : ∀ k, k < zs.length → a ≤ zs.getD k 0 ∧ zs.getD k 0 ≤ b) : win a b zs = true := by
  unfold win
  rw [List.all_eq_true]
  intro x hx
  obtain ⟨k, hk, rfl⟩ := List.mem_iff_getElem.1 hx
  have := h k hk
  simp only [List.getD_eq_getElem?_getD, List.getElem?_eq_getElem hk, Option.getD_some] at this
  simp
  omega
/-- May a frontier be? -/
def frOk (s l h o : Int) : Bool := decide ((s = 0 ∨ s = 1) ∧ 0 ≤ l ∧ l ≤ 4096 ∧ 0 ≤ h ∧ h ≤ 4096 ∧ 0 ≤ o ∧ o ≤ 4096 ∧ l + o ≤ h)
theorem frOk_yes {s l h o : Int} (e : frOk s l h o = true) : (s = 0 ∨ s = 1) ∧ 0 ≤ l ∧ l ≤ 4096 ∧ 0 ≤ h ∧ h ≤ 4096 ∧ 0 ≤ o ∧ o ≤ 4096 ∧ l + o ≤ h := of_decide_eq_true e
theorem frOk_mk {s l h o : Int} (e : (s = 0 ∨ s = 1) ∧ 0 ≤ l ∧ l ≤ 4096 ∧ 0 ≤ h ∧ h ≤ 4096 ∧ 0 ≤ o ∧ o ≤ 4096 ∧ l + o ≤ h) : frOk s l h o = true := decide_eq_true e
theorem frOk_no {s l h o : Int} (e : ¬ ((s = 0 ∨ s = 1) ∧ 0 ≤ l ∧ l ≤ 4096 ∧ 0 ≤ h ∧ h ≤ 4096 ∧ 0 ≤ o ∧ o ≤ 4096 ∧ l + o ≤ h)) : frOk s l h o = false := decide_eq_false e
theorem frOk_not {s l h o : Int} (e : frOk s l h o = false) : ¬ ((s = 0 ∨ s = 1) ∧ 0 ≤ l ∧ l ≤ 4096 ∧ 0 ≤ h ∧ h ≤ 4096 ∧ 0 ≤ o ∧ o ≤ 4096 ∧ l + o ≤ h) := of_decide_eq_false e
/-- May a request be? -/
def rqOk (e p : Int) : Bool := decide (0 ≤ e ∧ e ≤ 1099511627775 ∧ 0 ≤ p ∧ p ≤ 6)
theorem rqOk_yes {e p : Int} (h : rqOk e p = true) : 0 ≤ e ∧ e ≤ 1099511627775 ∧ 0 ≤ p ∧ p ≤ 6 := of_decide_eq_true h
theorem rqOk_mk {e p : Int} (h : 0 ≤ e ∧ e ≤ 1099511627775 ∧ 0 ≤ p ∧ p ≤ 6) : rqOk e p = true := decide_eq_true h
theorem rqOk_no {e p : Int} (h : ¬ (0 ≤ e ∧ e ≤ 1099511627775 ∧ 0 ≤ p ∧ p ≤ 6)) : rqOk e p = false := decide_eq_false h
theorem rqOk_not {e p : Int} (h : rqOk e p = false) : ¬ (0 ≤ e ∧ e ≤ 1099511627775 ∧ 0 ≤ p ∧ p ≤ 6) := of_decide_eq_false h
end Go.Pk
/- package layout: within and what it makes; a plan under way: the extents of its kinds. -/
namespace Go.Proofs.YtldfmlkjeniemaaDoor
open Go.RowKit Go.Ly
theorem lwithin_any (a b : Int) (w : World) :
    Calls Tryd.prog 66 #[.int .i64 a, .int .i64 b] w fun e w' => e = .returned (.func (.func 81) #[] #[.pointer (some ⟨w.heap.size, 0, none⟩), .pointer (some ⟨w.heap.size + 1, 0, none⟩)]) ∧
      w' = (w.alloc (.cells #[.int .i64 a] 3)).alloc (.cells #[.int .i64 b] 3) := by
  go_enter Tryd.func66, Tryd.ntmps66
  go_wp2
  go_ret
  exact ⟨by simp, rfl⟩
set_option maxHeartbeats 1000000 in
theorem lwin_at (a b : Int) (ga gb g off len cap : Nat) (zs : List Int) (w : World) (ha : w.cell? ⟨ga, 0, none⟩ = some (.int .i64 a)) (hb : w.cell? ⟨gb, 0, none⟩ = some (.int .i64 b)) (hz : Hid (zs.length = len)) (hlen : len ≤ 100)
    (hc : Hid (∀ i, i < len → w.cell? ⟨g, off + i, none⟩ = some (.int .i64 (zs.getD i 0)))) :
    Calls Tryd.prog 81 #[.slice (some ⟨g, off, none⟩) len cap, .pointer (some ⟨ga, 0, none⟩), .pointer (some ⟨gb, 0, none⟩)] w fun e w' => e = .returned (.bool (Pk.win a b zs)) ∧ w' = w := by
  go_enter Tryd.func81, Tryd.ntmps81
  go_wp2
  go_loop [9] (fun i => ∃ k : Nat, k ≤ len ∧ i = .int .i64 k ∧ Hid (∀ j, j < k → a ≤ zs.getD j 0 ∧ zs.getD j 0 ≤ b)) (fun i => len - (intOf i).toNat)
  case atStart => exact ⟨0, by omega, rfl, fun j hj => by omega⟩
  case round =>
    obtain ⟨k, hk, rfl, hN⟩ := hrel
    by_cases hlt : k < len
    · have hcell := hc.out k hlt
      have hW := hid (fun h => Pk.win_out a b zs k (by rw [hz.out]; exact hlt) h)
      have hN2 := hid (fun (h : a ≤ zs.getD k 0 ∧ zs.getD k 0 ≤ b) j (hj : j < k + 1) => show a ≤ zs.getD j 0 ∧ zs.getD j 0 ≤ b from by
        rcases Nat.lt_succ_iff_lt_or_eq.1 hj with h1 | h1
        · exact hN.out j h1
        · rw [h1]; exact h)
      clear hN
      generalize zs.getD k 0 = x at *
      by_cases h1 : x < a
      · go_wp2
        go_ret
        exact ⟨ret_bool (hW.out (by omega)).symm, rfl⟩
      · have h1' : a ≤ x := by omega
        clear h1
        by_cases h2 : b < x
        · go_wp2
          go_ret
          exact ⟨ret_bool (hW.out (by omega)).symm, rfl⟩
        · have h2' : x ≤ b := by omega
          clear h2
          go_wp2
          go_round
          case rel => exact ⟨k + 1, by omega, by go_num, hN2.out ⟨h1', h2'⟩⟩
          case measure => simp [intOf]; omega
    · have hall := hid (Pk.win_all a b zs (fun j hj => hN.out j (by have := hz.out; omega)))
      go_wp2
      go_ret
      exact ⟨ret_bool hall.out.symm, rfl⟩
theorem lwin_none (ga gb cap : Nat) (p : Option Addr) (w : World) :
    Calls Tryd.prog 81 #[.slice p 0 cap, .pointer (some ⟨ga, 0, none⟩), .pointer (some ⟨gb, 0, none⟩)] w fun e w' => e = .returned (.bool true) ∧ w' = w := by
  go_enter Tryd.func81, Tryd.ntmps81
  go_wp2
  go_loop [9] (fun i => i = .int .i64 0) (fun _ => 0)
  case atStart => rfl
  case round =>
    subst hrel
    go_wp2
    go_ret
    exact ⟨rfl, rfl⟩
/-- .. of one number. -/
theorem lwin_one (a b x : Int) (ga gb g cap : Nat) (c : Bool) (w : World) (ha : w.cell? ⟨ga, 0, none⟩ = some (.int .i64 a)) (hb : w.cell? ⟨gb, 0, none⟩ = some (.int .i64 b)) (hx : w.cell? ⟨g, 0, none⟩ = some (.int .i64 x))
    (hc : Hid ((decide (a ≤ x) && decide (x ≤ b)) = c)) :
    Calls Tryd.prog 81 #[.slice (some ⟨g, 0, none⟩) 1 cap, .pointer (some ⟨ga, 0, none⟩), .pointer (some ⟨gb, 0, none⟩)] w fun e w' => e = .returned (.bool c) ∧ w' = w := by
  refine (lwin_at a b ga gb g 0 1 cap [x] w ha hb (hid rfl) (by omega) (hid (fun i hi => ?_))).mono ?_
  · obtain rfl : i = 0 := by omega
    simpa using hx
  · rintro e w' ⟨rfl, rfl⟩
    exact ⟨ret_bool (by rw [← hc.out]; simp [Pk.win]), rfl⟩
/-- Two bounds in memory. -/
def Wn (w : World) (ga gb : Nat) (a b : Int) : Prop := w.cell? ⟨ga, 0, none⟩ = some (.int .i64 a) ∧ w.cell? ⟨gb, 0, none⟩ = some (.int .i64 b)
theorem Wn.below {w w' : World} {ga gb : Nat} {a b : Int} (h : Wn w ga gb a b) (k : Below w.heap.size w w') : Wn w' ga gb a b :=
  ⟨(k.cell (p := ⟨ga, 0, none⟩) (block_lt_of_cell h.1)).trans h.1, (k.cell (p := ⟨gb, 0, none⟩) (block_lt_of_cell h.2)).trans h.2⟩
theorem lwithin_at (a b : Int) (w : World) :
    Calls Tryd.prog 66 #[.int .i64 a, .int .i64 b] w fun e w' => ∃ ga gb, e = .returned (.func (.func 81) #[] #[.pointer (some ⟨ga, 0, none⟩), .pointer (some ⟨gb, 0, none⟩)]) ∧ Wn w' ga gb a b ∧ Below w.heap.size w w' := by
  refine (lwithin_any a b w).mono ?_
  rintro e w' ⟨rfl, rfl⟩
  have k : Below ((w.alloc (.cells #[.int .i64 a] 3)).alloc (.cells #[.int .i64 b] 3)).heap.size ((w.alloc (.cells #[.int .i64 a] 3)).alloc (.cells #[.int .i64 b] 3)) ((w.alloc (.cells #[.int .i64 a] 3)).alloc (.cells #[.int .i64 b] 3)) := Below.refl _ _
  exact ⟨_, _, rfl, ⟨at_row (row2a k) 0 rfl, at_row (row2b k) 0 rfl⟩, bel2 k⟩
/-- .. of one number, in a new block. -/
theorem lwin_new (a b x : Int) (ga gb : Nat) (c : Bool) (w : World) (h : Wn w ga gb a b) (hc : Hid ((decide (a ≤ x) && decide (x ≤ b)) = c)) :
    Calls Tryd.prog 81 #[.slice (some ⟨w.heap.size, 0, none⟩) 1 1, .pointer (some ⟨ga, 0, none⟩), .pointer (some ⟨gb, 0, none⟩)] (w.alloc (.cells #[.int .i64 x] 3)) fun e w' => e = .returned (.bool c) ∧ Below w.heap.size w w' := by
  have k := h.below (below_alloc0 w (.cells #[.int .i64 x] 3))
  refine (lwin_one a b x ga gb w.heap.size 1 c _ k.1 k.2 (cell_last w _ _ 0 _ rfl) hc).mono ?_
  rintro e w' ⟨rfl, rfl⟩
  exact ⟨rfl, below_alloc0 w _⟩
/-- A plan as a value. -/
abbrev planV (t s : Int) (a : Option Addr) (n c : Nat) : Value := .agg #[.int .i64 t, .int .i64 s, .slice a n c]
theorem plNone_any (t s : Int) (a : Option Addr) (n c : Nat) (w : World) : Calls Tryd.prog 94 #[planV t s a n c] w fun e w' => e = .returned (.tuple #[.int .i64 0, .int .i64 0]) ∧ Below w.heap.size w w' := by
  go_enter Tryd.func94, Tryd.ntmps94
  go_wp2
  go_ret2
  exact ⟨rfl, below_alloc0 w _⟩
theorem plOne_any (t s : Int) (a : Option Addr) (n c : Nat) (w : World) : Calls Tryd.prog 95 #[planV t s a n c] w fun e w' => e = .returned (.tuple #[.int .i64 1, .int .i64 1]) ∧ Below w.heap.size w w' := by
  go_enter Tryd.func95, Tryd.ntmps95
  go_wp2
  go_ret2
  exact ⟨rfl, below_alloc0 w _⟩
theorem plThread_any (t s : Int) (a : Option Addr) (n c : Nat) (w : World) : Calls Tryd.prog 96 #[planV t s a n c] w fun e w' => e = .returned (.tuple #[.int .i64 t, .int .i64 1]) ∧ Below w.heap.size w w' := by
  go_enter Tryd.func96, Tryd.ntmps96
  go_wp2
  go_ret2
  exact ⟨rfl, below_alloc0 w _⟩
theorem plSpace_any (t s : Int) (a : Option Addr) (n c : Nat) (w : World) : Calls Tryd.prog 97 #[planV t s a n c] w fun e w' => e = .returned (.tuple #[.int .i64 2, .int .i64 s]) ∧ Below w.heap.size w w' := by
  go_enter Tryd.func97, Tryd.ntmps97
  go_wp2
  go_quiet (fail)
  go_wp2
  go_ret2
  exact ⟨rfl, below_drewN (below_alloc0 w _) _⟩
end Go.Proofs.YtldfmlkjeniemaaDoor
