/- Package word's Of. -/
import Derived.Test.YtldfmlkjeniemaaDoorHdTopOn
import Derived.Deep.RegionHeld3
import Derived.BigRegion
import Derived.Test.YtldfmlkjeniemaaDoorObMathOn
import Derived.Test.YtldfmlkjeniemaaDoorShMathOn
namespace Go.Proofs.YtldfmlkjeniemaaDoor
open Go.RowKit
theorem cell_new {w w1 : World} {cs : Array Value} {t : TypeId} (hb : Below (w.alloc (.cells cs t)).heap.size (w.alloc (.cells cs t)) w1) (j : Nat) (v : Value) (hv : cs[j]? = some v) : w1.cell? ⟨w.heap.size, j, none⟩ = some v :=
  (hb.cell (p := ⟨w.heap.size, j, none⟩) (by simp)).trans ((cell_of_row _ _ j _ _ _ (heap_alloc_last w _)).trans hv)
theorem frozen_new {w w1 : World} {cs : Array Value} {t : TypeId} (hb : Below (w.alloc (.cells cs t)).heap.size (w.alloc (.cells cs t)) w1) (j : Nat) : w1.frozen? ⟨w.heap.size, j, none⟩ = false :=
  (hb.frozen (p := ⟨w.heap.size, j, none⟩) (by simp)).trans (frozen_of_row _ _ j _ _ (heap_alloc_last w _))
theorem keep3 (w1 : World) (g : Nat) (v0 v1 v2 : Value) (cs : Array Value) (t : TypeId) (j : Nat) (v : Value) (hv : cs[j]? = some v) :
    ((((w1.setCell ⟨g, 0, none⟩ v0).setCell ⟨g, 1, none⟩ v1).setCell ⟨g, 2, none⟩ v2).alloc (.cells cs t)).drew.cell? ⟨w1.heap.size, j, none⟩ = some v := by
  have hs : (((w1.setCell ⟨g, 0, none⟩ v0).setCell ⟨g, 1, none⟩ v1).setCell ⟨g, 2, none⟩ v2).heap.size = w1.heap.size := by simp [World.setCell]
  have h := heap_alloc_last (((w1.setCell ⟨g, 0, none⟩ v0).setCell ⟨g, 1, none⟩ v1).setCell ⟨g, 2, none⟩ v2) (.cells cs t)
  rw [hs] at h
  exact (cell_of_row _ _ j cs t _ h).trans hv
theorem below3 {w w1 : World} (h : Below w.heap.size w w1) (v0 v1 v2 : Value) (o : Obj) (hz : w.heap.size < w1.heap.size) :
    Below w.heap.size w ((((w1.setCell ⟨w.heap.size, 0, none⟩ v0).setCell ⟨w.heap.size, 1, none⟩ v1).setCell ⟨w.heap.size, 2, none⟩ v2).alloc o).drew :=
  ((((h.setCell (Nat.le_refl _) _).setCell (Nat.le_refl _) _).setCell (Nat.le_refl _) _).alloc (by simp [World.setCell]; omega) _).drew
end Go.Proofs.YtldfmlkjeniemaaDoor
/- Package word's Make, and what stands on it alone: Pointer, Scalar, Empty. -/
namespace Go.Proofs.YtldfmlkjeniemaaDoor
open Go.RowKit
theorem ret_word {a a' c c' : Int} {b b' : Bool} (h : a = a') (h2 : b = b') (h3 : c = c') : Ending.returned (.agg #[.int .i64 a, .bool b, .int .i64 c]) = .returned (.agg #[.int .i64 a', .bool b', .int .i64 c']) := by rw [h, h2, h3]
end Go.Proofs.YtldfmlkjeniemaaDoor
/- Plain facts of package pack: bounds, frontiers, claims; nothing of the program's text. -/
namespace Go.Pk
/-- Are all numbers from a to b? -/
def win (a b : Int) (zs : List Int) : Bool := zs.all fun n => decide (a ≤ n) && decide (n ≤ b)
theorem win_one (a b x : Int) : win a b [x] = decide (a ≤ x ∧ x ≤ b) := by
  simp [win]
theorem win_three (a b x y z : Int) : win a b [x, y, z] = decide ((a ≤ x ∧ x ≤ b) ∧ (a ≤ y ∧ y ≤ b) ∧ (a ≤ z ∧ z ≤ b)) := by
  simp [win]
theorem win_out (a b : Int) (zs : List Int) (k : Nat) (hk : k < zs.length) (h : ¬ (a ≤ zs.getD k 0 ∧ zs.getD k 0 ≤ b)) : win a b zs = false := by
  unfold win
  rw [List.all_eq_false]
  refine ⟨zs[k], List.getElem_mem hk, ?_⟩
  simp only [List.getD_eq_getElem?_getD, List.getElem?_eq_getElem hk, Option.getD_some] at h
  simp
  omega
theorem win_all (a b : Int) (zs : List Int) (h : ∀ k, k < zs.length → a ≤ zs.getD k 0 ∧ zs.getD k 0 ≤ b) : win a b zs = true := by
  unfold win
  rw [List.all_eq_true]
  intro x hx
  obtain ⟨k, hk, rfl⟩ := List.mem_iff_getElem.1 hx
  have := h k hk
  simp only [List.getD_eq_getElem?_getD, List.getElem?_eq_getElem hk, Option.getD_some] at this
  simp
  omega
/-- May a frontier be? -/
def frOk (s l h o : Int) : Bool := decide ((s = 0 ∨ s = 1) ∧ 0 ≤ l ∧ l ≤ 4096 ∧ 0 ≤ h ∧ h ≤ 4096 ∧ 0 ≤ o ∧ o ≤ 4096 ∧ l + o ≤ h)
theorem frOk_yes {s l h o : Int} (e : frOk s l h o = true) : (s = 0 ∨ s = 1) ∧ 0 ≤ l ∧ l ≤ 4096 ∧ 0 ≤ h ∧ h ≤ 4096 ∧ 0 ≤ o ∧ o ≤ 4096 ∧ l + o ≤ h := of_decide_eq_true e
theorem frOk_mk {s l h o : Int} (e : (s = 0 ∨ s = 1) ∧ 0 ≤ l ∧ l ≤ 4096 ∧ 0 ≤ h ∧ h ≤ 4096 ∧ 0 ≤ o ∧ o ≤ 4096 ∧ l + o ≤ h) : frOk s l h o = true := decide_eq_true e
theorem frOk_no {s l h o : Int} (e : ¬ ((s = 0 ∨ s = 1) ∧ 0 ≤ l ∧ l ≤ 4096 ∧ 0 ≤ h ∧ h ≤ 4096 ∧ 0 ≤ o ∧ o ≤ 4096 ∧ l + o ≤ h)) : frOk s l h o = false := decide_eq_false e
theorem frOk_not {s l h o : Int} (e : frOk s l h o = false) : ¬ ((s = 0 ∨ s = 1) ∧ 0 ≤ l ∧ l ≤ 4096 ∧ 0 ≤ h ∧ h ≤ 4096 ∧ 0 ≤ o ∧ o ≤ 4096 ∧ l + o ≤ h) := of_decide_eq_false e
/-- May a request be? -/
def rqOk (e p : Int) : Bool := decide (0 ≤ e ∧ e ≤ 1099511627775 ∧ 0 ≤ p ∧ p ≤ 6)
theorem rqOk_yes {e p : Int} (h : rqOk e p = true) : 0 ≤ e ∧ e ≤ 1099511627775 ∧ 0 ≤ p ∧ p ≤ 6 := of_decide_eq_true h
theorem rqOk_mk {e p : Int} (h : 0 ≤ e ∧ e ≤ 1099511627775 ∧ 0 ≤ p ∧ p ≤ 6) : rqOk e p = true := decide_eq_true h
theorem rqOk_no {e p : Int} (h : ¬ (0 ≤ e ∧ e ≤ 1099511627775 ∧ 0 ≤ p ∧ p ≤ 6)) : rqOk e p = false := decide_eq_false h
theorem rqOk_not {e p : Int} (h : rqOk e p = false) : ¬ (0 ≤ e ∧ e ≤ 1099511627775 ∧ 0 ≤ p ∧ p ≤ 6) := of_decide_eq_false h
end Go.Pk
/- package layout: within and what it makes; a plan under way: the extents of its kinds. -/
namespace Go.Proofs.YtldfmlkjeniemaaDoor
open Go.RowKit Go.Ly
theorem lwithin_any (a b : Int) (w : World) :
    Calls Tryd.prog 66 #[.int .i64 a, .int .i64 b] w fun e w' => e = .returned (.func (.func 81) #[] #[.pointer (some ⟨w.heap.size, 0, none⟩), .pointer (some ⟨w.heap.size + 1, 0, none⟩)]) ∧
      w' = (w.alloc (.cells #[.int .i64 a] 3)).alloc (.cells #[.int .i64 b] 3) := by
  go_enter Tryd.func66, Tryd.ntmps66
  go_wp2
  go_ret
  exact ⟨by simp, rfl⟩
set_option maxHeartbeats 1000000 in
theorem lwin_at (a b : Int) (ga gb g off len cap : Nat) (zs : List Int) (w : World) (ha : w.cell? ⟨ga, 0, none⟩ = some (.int .i64 a)) (hb : w.cell? ⟨gb, 0, none⟩ = some (.int .i64 b)) (hz : Hid (zs.length = len)) (hlen : len ≤ 100)
    (hc : Hid (∀ i, i < len → w.cell? ⟨g, off + i, none⟩ = some (.int .i64 (zs.getD i 0)))) :
    Calls Tryd.prog 81 #[.slice (some ⟨g, off, none⟩) len cap, .pointer (some ⟨ga, 0, none⟩), .pointer (some ⟨gb, 0, none⟩)] w fun e w' => e = .returned (.bool (Pk.win a b zs)) ∧ w' = w := by
  go_enter Tryd.func81, Tryd.ntmps81
  go_wp2
  go_loop [9] (fun i => ∃ k : Nat, k ≤ len ∧ i = .int .i64 k ∧ Hid (∀ j, j < k → a ≤ zs.getD j 0 ∧ zs.getD j 0 ≤ b)) (fun i => len - (intOf i).toNat)
  case atStart => exact ⟨0, by omega, rfl, fun j hj => by omega⟩
  case round =>
    obtain ⟨k, hk, rfl, hN⟩ := hrel
    by_cases hlt : k < len
    · have hcell := hc.out k hlt
      have hW := hid (fun h => Pk.win_out a b zs k (by rw [hz.out]; exact hlt) h)
      have hN2 := hid (fun (h : a ≤ zs.getD k 0 ∧ zs.getD k 0 ≤ b) j (hj : j < k + 1) => show a ≤ zs.getD j 0 ∧ zs.getD j 0 ≤ b from by
        rcases Nat.lt_succ_iff_lt_or_eq.1 hj with h1 | h1
        · exact hN.out j h1
        · rw [h1]; exact h)
      clear hN
      generalize zs.getD k 0 = x at *
      by_cases h1 : x < a
      · go_wp2
        go_ret
        exact ⟨ret_bool (hW.out (by omega)).symm, rfl⟩
      · have h1' : a ≤ x := by omega
        clear h1
        by_cases h2 : b < x
        · go_wp2
          go_ret
          exact ⟨ret_bool (hW.out (by omega)).symm, rfl⟩
        · have h2' : x ≤ b := by omega
          clear h2
          go_wp2
          go_round
          case rel => exact ⟨k + 1, by omega, by go_num, hN2.out ⟨h1', h2'⟩⟩
          case measure => simp [intOf]; omega
    · have hall := hid (Pk.win_all a b zs (fun j hj => hN.out j (by have := hz.out; omega)))
      go_wp2
      go_ret
      exact ⟨ret_bool hall.out.symm, rfl⟩
theorem lwin_none (ga gb cap : Nat) (p : Option Addr) (w : World) :
    Calls Tryd.prog 81 #[.slice p 0 cap, .pointer (some ⟨ga, 0, none⟩), .pointer (some ⟨gb, 0, none⟩)] w fun e w' => e = .returned (.bool true) ∧ w' = w := by
  go_enter Tryd.func81, Tryd.ntmps81
  go_wp2
  go_loop [9] (fun i => i = .int .i64 0) (fun _ => 0)
  case atStart => rfl
  case round =>
    subst hrel
    go_wp2
    go_ret
    exact ⟨rfl, rfl⟩
/-- .. of one number. -/
theorem lwin_one (a b x : Int) (ga gb g cap : Nat) (c : Bool) (w : World) (ha : w.cell? ⟨ga, 0, none⟩ = some (.int .i64 a)) (hb : w.cell? ⟨gb, 0, none⟩ = some (.int .i64 b)) (hx : w.cell? ⟨g, 0, none⟩ = some (.int .i64 x))
    (hc : Hid ((decide (a ≤ x) && decide (x ≤ b)) = c)) :
    Calls Tryd.prog 81 #[.slice (some ⟨g, 0, none⟩) 1 cap, .pointer (some ⟨ga, 0, none⟩), .pointer (some ⟨gb, 0, none⟩)] w fun e w' => e = .returned (.bool c) ∧ w' = w := by
  refine (lwin_at a b ga gb g 0 1 cap [x] w ha hb (hid rfl) (by omega) (hid (fun i hi => ?_))).mono ?_
  · obtain rfl : i = 0 := by omega
    simpa using hx
  · rintro e w' ⟨rfl, rfl⟩
    exact ⟨ret_bool (by rw [← hc.out]; simp [Pk.win]), rfl⟩
/-- Two bounds in memory. -/
def Wn (w : World) (ga gb : Nat) (a b : Int) : Prop := w.cell? ⟨ga, 0, none⟩ = some (.int .i64 a) ∧ w.cell? ⟨gb, 0, none⟩ = some (.int .i64 b)
theorem Wn.below {w w' : World} {ga gb : Nat} {a b : Int} (h : Wn w ga gb a b) (k : Below w.heap.size w w') : Wn w' ga gb a b :=
  ⟨(k.cell (p := ⟨ga, 0, none⟩) (block_lt_of_cell h.1)).trans h.1, (k.cell (p := ⟨gb, 0, none⟩) (block_lt_of_cell h.2)).trans h.2⟩
theorem lwithin_at (a b : Int) (w : World) :
    Calls Tryd.prog 66 #[.int .i64 a, .int .i64 b] w fun e w' => ∃ ga gb, e = .returned (.func (.func 81) #[] #[.pointer (some ⟨ga, 0, none⟩), .pointer (some ⟨gb, 0, none⟩)]) ∧ Wn w' ga gb a b ∧ Below w.heap.size w w' := by
  refine (lwithin_any a b w).mono ?_
  rintro e w' ⟨rfl, rfl⟩
  have k : Below ((w.alloc (.cells #[.int .i64 a] 3)).alloc (.cells #[.int .i64 b] 3)).heap.size ((w.alloc (.cells #[.int .i64 a] 3)).alloc (.cells #[.int .i64 b] 3)) ((w.alloc (.cells #[.int .i64 a] 3)).alloc (.cells #[.int .i64 b] 3)) := Below.refl _ _
  exact ⟨_, _, rfl, ⟨at_row (row2a k) 0 rfl, at_row (row2b k) 0 rfl⟩, bel2 k⟩
/-- .. of one number, in a new block. -/
theorem lwin_new (a b x : Int) (ga gb : Nat) (c : Bool) (w : World) (h : Wn w ga gb a b) (hc : Hid ((decide (a ≤ x) && decide (x ≤ b)) = c)) :
    Calls Tryd.prog 81 #[.slice (some ⟨w.heap.size, 0, none⟩) 1 1, .pointer (some ⟨ga, 0, none⟩), .pointer (some ⟨gb, 0, none⟩)] (w.alloc (.cells #[.int .i64 x] 3)) fun e w' => e = .returned (.bool c) ∧ Below w.heap.size w w' := by
  have k := h.below (below_alloc0 w (.cells #[.int .i64 x] 3))
  refine (lwin_one a b x ga gb w.heap.size 1 c _ k.1 k.2 (cell_last w _ _ 0 _ rfl) hc).mono ?_
  rintro e w' ⟨rfl, rfl⟩
  exact ⟨rfl, below_alloc0 w _⟩
/-- A plan as a value. -/
abbrev planV (t s : Int) (a : Option Addr) (n c : Nat) : Value := .agg #[.int .i64 t, .int .i64 s, .slice a n c]
theorem plNone_any (t s : Int) (a : Option Addr) (n c : Nat) (w : World) : Calls Tryd.prog 94 #[planV t s a n c] w fun e w' => e = .returned (.tuple #[.int .i64 0, .int .i64 0]) ∧ Below w.heap.size w w' := by
  go_enter Tryd.func94, Tryd.ntmps94
  go_wp2
  go_ret2
  exact ⟨rfl, below_alloc0 w _⟩
theorem plOne_any (t s : Int) (a : Option Addr) (n c : Nat) (w : World) : Calls Tryd.prog 95 #[planV t s a n c] w fun e w' => e = .returned (.tuple #[.int .i64 1, .int .i64 1]) ∧ Below w.heap.size w w' := by
  go_enter Tryd.func95, Tryd.ntmps95
  go_wp2
  go_ret2
  exact ⟨rfl, below_alloc0 w _⟩
theorem plThread_any (t s : Int) (a : Option Addr) (n c : Nat) (w : World) : Calls Tryd.prog 96 #[planV t s a n c] w fun e w' => e = .returned (.tuple #[.int .i64 t, .int .i64 1]) ∧ Below w.heap.size w w' := by
  go_enter Tryd.func96, Tryd.ntmps96
  go_wp2
  go_ret2
  exact ⟨rfl, below_alloc0 w _⟩
theorem plSpace_any (t s : Int) (a : Option Addr) (n c : Nat) (w : World) : Calls Tryd.prog 97 #[planV t s a n c] w fun e w' => e = .returned (.tuple #[.int .i64 2, .int .i64 s]) ∧ Below w.heap.size w w' := by
  go_enter Tryd.func97, Tryd.ntmps97
  go_wp2
  go_quiet (fail)
  go_wp2
  go_ret2
  exact ⟨rfl, below_drewN (below_alloc0 w _) _⟩
end Go.Proofs.YtldfmlkjeniemaaDoor
/- package layout: the extents of a plan, the first word of a kind, how many words there are. -/
namespace Go.Proofs.YtldfmlkjeniemaaDoor
open Go.RowKit Go.Ly
theorem last2 (w : World) (A B : Obj) : ((w.alloc A).alloc B).heap[w.heap.size + 1]? = some B := row2b (Below.refl _ _)
theorem setRow2 (w : World) (A : Obj) (cs cs' : Array Value) (t : TypeId) : ((w.alloc A).alloc (.cells cs t)).setRow (w.heap.size + 1) cs' = (w.alloc A).alloc (.cells cs' t) := by
  have := World.setRow_alloc_new (w.alloc A) cs cs' t
  rwa [size_alloc] at this
/-- The extents of a plan, kind by kind. -/
def extArr (p : Value) : Array Value := #[.func (.func 94) #[p] #[], .func (.func 95) #[p] #[], .func (.func 95) #[p] #[], .func (.func 95) #[p] #[], .func (.func 96) #[p] #[], .func (.func 96) #[p] #[], .func (.func 97) #[p] #[]]
theorem extArr_one (p : Value) : (extArr p).all (·.oneCell') = true := by kernel_rfl
theorem extArr_size (p : Value) : (Tryd.prog.info? 141).map (·.size) = some (extArr p).size := by kernel_rfl
set_option maxHeartbeats 1000000 in
theorem extents_any (t s : Int) (a : Option Addr) (n c : Nat) (w : World) :
    Calls Tryd.prog 82 #[planV t s a n c] w fun e w' => e = .returned (.agg (extArr (planV t s a n c))) ∧ Below w.heap.size w w' := by
  go_enter Tryd.func82, Tryd.ntmps82
  go_wp2_with (refine wpList_store_row rfl 141 _ _ rfl (w.heap.size + 1) (extArr (planV t s a n c)) rfl rfl 141 _ (last2 w _ _) (extArr_size _) rfl (extArr_one _) ?_; rw [setRow2])
  refine bodyPost_ret (v := .agg (extArr (planV t s a n c))) (results_cell_row Tryd.results82 _ _ (w.heap.size + 1) 141 (extArr (planV t s a n c)) (0, 0) _ rfl (last2 w _ _) Tryd.underlying141 rfl (extArr_size _)) rfl ⟨rfl, (below_alloc0 w _).alloc (by simp) _⟩
theorem ext_at0 (p : Value) : (extArr p)[0]? = some (.func (.func 94) #[p] #[]) := rfl
theorem ext_at1 (p : Value) : (extArr p)[1]? = some (.func (.func 95) #[p] #[]) := rfl
theorem ext_at2 (p : Value) : (extArr p)[2]? = some (.func (.func 95) #[p] #[]) := rfl
theorem ext_at3 (p : Value) : (extArr p)[3]? = some (.func (.func 95) #[p] #[]) := rfl
theorem ext_at4 (p : Value) : (extArr p)[4]? = some (.func (.func 96) #[p] #[]) := rfl
theorem ext_at5 (p : Value) : (extArr p)[5]? = some (.func (.func 96) #[p] #[]) := rfl
theorem ext_at6 (p : Value) : (extArr p)[6]? = some (.func (.func 97) #[p] #[]) := rfl
set_option maxRecDepth 100000 in
set_option maxHeartbeats 4000000 in
theorem base_at (t s : Int) (a : Option Addr) (n c : Nat) (K : Nat) (w : World) (t0 : 1 ≤ t) (t1 : t ≤ 8) (s0 : 32 ≤ s) (s1 : s ≤ 4096) (hK : K ≤ 7) :
    Calls Tryd.prog 80 #[planV t s a n c, .int .i64 (K : Int)] w fun e w' => e = .returned (.int .i64 (bs t s K)) ∧ Below w.heap.size w w' := by
  have hK7 : (K : Int) ≤ 7 := by omega
  go_enter Tryd.func80, Tryd.ntmps80
  go_wp2_with (go_at_call 82; refine (extents_any t s a n c _).mono ?_)
  rintro e w1 ⟨rfl, b1⟩
  have B1 := hid (bel1 b1)
  have z1 := siz1 b1
  clear b1
  generalize hp : planV t s a n c = p
  have c0 := fun W => plNone_any t s a n c W
  have c1 := fun W => plOne_any t s a n c W
  have c2 := fun W => plThread_any t s a n c W
  have c3 := fun W => plSpace_any t s a n c W
  rw [hp] at c0 c1 c2 c3
  clear hp
  go_wp2_with (refine wpList_store_row rfl 141 _ _ rfl w1.heap.size (extArr p) rfl rfl 141 _ (heap_alloc_last w1 _) (extArr_size _) rfl (extArr_one _) ?_; rw [World.setRow_alloc_new])
  have hz1 := heap_alloc_last w1 (.cells (extArr p) 141)
  go_loopw [5, 16] (fun x i wr => ∃ k : Nat, k ≤ K ∧ i = .int .i64 (k : Int) ∧ ∃ y : Int, x = .int .i64 y ∧ Hid (y = bs t s k) ∧ 0 ≤ y ∧ y ≤ 20000 ∧ Hid (Below (w1.heap.size + 1) (w1.alloc (.cells (extArr p) 141)) wr)) (fun _ i _ => K - (intOf i).toNat)
  case atStart => exact ⟨0, by omega, rfl, 0, rfl, hid rfl, by omega, by omega, hid (Below.refl _ _)⟩
  case round =>
    obtain ⟨k, hk, rfl, y, rfl, hy, y0, y1, B⟩ := hrel
    by_cases hlt : k < K
    · have hrow : wr.heap[w1.heap.size]? = some (.cells (extArr p) 141) := (B.out.block _ (by omega)).trans hz1
      have hcs : k = 0 ∨ k = 1 ∨ k = 2 ∨ k = 3 ∨ k = 4 ∨ k = 5 ∨ k = 6 := by omega
      rcases hcs with rfl | rfl | rfl | rfl | rfl | rfl | rfl
      · have hc := at_row hrow 0 (ext_at0 p)
        have hv := hid (hy.out.trans (show bs t s 0 = 0 from rfl))
        have hw := hid (bs1 t s)
        clear hrow hy
        go_wp2_with (first | (go_at_call 94; refine (c0 _).mono ?_; rintro e w2 ⟨rfl, b2⟩) | (go_at_call 95; refine (c1 _).mono ?_; rintro e w2 ⟨rfl, b2⟩) | (go_at_call 96; refine (c2 _).mono ?_; rintro e w2 ⟨rfl, b2⟩) | (go_at_call 97; refine (c3 _).mono ?_; rintro e w2 ⟨rfl, b2⟩))
        have := hv.out
        have := hw.out
        go_roundw
        case rel => exact ⟨1, by omega, by go_num, _, rfl, hid (by omega), by omega, by omega, hid (B.out.trans (b2.mono (by have := B.out.size; simpa using this)))⟩
        case measure => simp [intOf]; omega
      · have hc := at_row hrow 1 (ext_at1 p)
        have hv := hid (hy.out.trans (bs1 t s))
        have hw := hid (bs2 t s)
        clear hrow hy
        go_wp2_with (first | (go_at_call 94; refine (c0 _).mono ?_; rintro e w2 ⟨rfl, b2⟩) | (go_at_call 95; refine (c1 _).mono ?_; rintro e w2 ⟨rfl, b2⟩) | (go_at_call 96; refine (c2 _).mono ?_; rintro e w2 ⟨rfl, b2⟩) | (go_at_call 97; refine (c3 _).mono ?_; rintro e w2 ⟨rfl, b2⟩))
        have := hv.out
        have := hw.out
        go_roundw
        case rel => exact ⟨2, by omega, by go_num, _, rfl, hid (by omega), by omega, by omega, hid (B.out.trans (b2.mono (by have := B.out.size; simpa using this)))⟩
        case measure => simp [intOf]; omega
      · have hc := at_row hrow 2 (ext_at2 p)
        have hv := hid (hy.out.trans (bs2 t s))
        have hw := hid (bs3 t s)
        clear hrow hy
        go_wp2_with (first | (go_at_call 94; refine (c0 _).mono ?_; rintro e w2 ⟨rfl, b2⟩) | (go_at_call 95; refine (c1 _).mono ?_; rintro e w2 ⟨rfl, b2⟩) | (go_at_call 96; refine (c2 _).mono ?_; rintro e w2 ⟨rfl, b2⟩) | (go_at_call 97; refine (c3 _).mono ?_; rintro e w2 ⟨rfl, b2⟩))
        have := hv.out
        have := hw.out
        go_roundw
        case rel => exact ⟨3, by omega, by go_num, _, rfl, hid (by omega), by omega, by omega, hid (B.out.trans (b2.mono (by have := B.out.size; simpa using this)))⟩
        case measure => simp [intOf]; omega
      · have hc := at_row hrow 3 (ext_at3 p)
        have hv := hid (hy.out.trans (bs3 t s))
        have hw := hid (bs4 t s)
        clear hrow hy
        go_wp2_with (first | (go_at_call 94; refine (c0 _).mono ?_; rintro e w2 ⟨rfl, b2⟩) | (go_at_call 95; refine (c1 _).mono ?_; rintro e w2 ⟨rfl, b2⟩) | (go_at_call 96; refine (c2 _).mono ?_; rintro e w2 ⟨rfl, b2⟩) | (go_at_call 97; refine (c3 _).mono ?_; rintro e w2 ⟨rfl, b2⟩))
        have := hv.out
        have := hw.out
        go_roundw
        case rel => exact ⟨4, by omega, by go_num, _, rfl, hid (by omega), by omega, by omega, hid (B.out.trans (b2.mono (by have := B.out.size; simpa using this)))⟩
        case measure => simp [intOf]; omega
      · have hc := at_row hrow 4 (ext_at4 p)
        have hv := hid (hy.out.trans (bs4 t s))
        have hw := hid (bs5 t s)
        clear hrow hy
        go_wp2_with (first | (go_at_call 94; refine (c0 _).mono ?_; rintro e w2 ⟨rfl, b2⟩) | (go_at_call 95; refine (c1 _).mono ?_; rintro e w2 ⟨rfl, b2⟩) | (go_at_call 96; refine (c2 _).mono ?_; rintro e w2 ⟨rfl, b2⟩) | (go_at_call 97; refine (c3 _).mono ?_; rintro e w2 ⟨rfl, b2⟩))
        have := hv.out
        have := hw.out
        go_roundw
        case rel => exact ⟨5, by omega, by go_num, _, rfl, hid (by omega), by omega, by omega, hid (B.out.trans (b2.mono (by have := B.out.size; simpa using this)))⟩
        case measure => simp [intOf]; omega
      · have hc := at_row hrow 5 (ext_at5 p)
        have hv := hid (hy.out.trans (bs5 t s))
        have hw := hid (bs6 t s)
        clear hrow hy
        go_wp2_with (first | (go_at_call 94; refine (c0 _).mono ?_; rintro e w2 ⟨rfl, b2⟩) | (go_at_call 95; refine (c1 _).mono ?_; rintro e w2 ⟨rfl, b2⟩) | (go_at_call 96; refine (c2 _).mono ?_; rintro e w2 ⟨rfl, b2⟩) | (go_at_call 97; refine (c3 _).mono ?_; rintro e w2 ⟨rfl, b2⟩))
        have := hv.out
        have := hw.out
        go_roundw
        case rel => exact ⟨6, by omega, by go_num, _, rfl, hid (by omega), by omega, by omega, hid (B.out.trans (b2.mono (by have := B.out.size; simpa using this)))⟩
        case measure => simp [intOf]; omega
      · have hc := at_row hrow 6 (ext_at6 p)
        have hv := hid (hy.out.trans (bs6 t s))
        have hw := hid (bs7 t s)
        clear hrow hy
        go_wp2_with (first | (go_at_call 94; refine (c0 _).mono ?_; rintro e w2 ⟨rfl, b2⟩) | (go_at_call 95; refine (c1 _).mono ?_; rintro e w2 ⟨rfl, b2⟩) | (go_at_call 96; refine (c2 _).mono ?_; rintro e w2 ⟨rfl, b2⟩) | (go_at_call 97; refine (c3 _).mono ?_; rintro e w2 ⟨rfl, b2⟩))
        have := hv.out
        have := hw.out
        go_roundw
        case rel => exact ⟨7, by omega, by go_num, _, rfl, hid (by omega), by omega, by omega, hid (B.out.trans (b2.mono (by have := B.out.size; simpa using this)))⟩
        case measure => simp [intOf]; omega
    · obtain rfl : k = K := by omega
      have HB := hid (B1.out.trans (((below_alloc0 w1 _).mono (by omega)).trans (B.out.mono (by omega))))
      clear B B1
      go_wp2
      go_ret
      exact ⟨ret_int hy.out, HB.out⟩
theorem size_at (t s : Int) (a : Option Addr) (n c : Nat) (w : World) (t0 : 1 ≤ t) (t1 : t ≤ 8) (s0 : 32 ≤ s) (s1 : s ≤ 4096) :
    Calls Tryd.prog 65 #[planV t s a n c] w fun e w' => e = .returned (.int .i64 (3 + t + t + 2 * s)) ∧ Below w.heap.size w w' := by
  have cb := fun W => base_at t s a n c 7 W t0 t1 s0 s1 (by omega)
  simp only [bs7] at cb
  go_enter Tryd.func65, Tryd.ntmps65
  go_wp2_with (go_at_call 80; refine (cb _).mono ?_; rintro e w1 ⟨rfl, b1⟩)
  go_ret
  exact ⟨rfl, bel1 b1⟩
end Go.Proofs.YtldfmlkjeniemaaDoor
