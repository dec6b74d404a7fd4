/- package arena: none, load, store, swap, do. -/
import Derived.Test.YtldfmlkjeniemaaGreatDoorArLeafOn
namespace Go.Proofs.YtldfmlkjeniemaaGreatDoor
open Go.RowKit
/-- A slice of the arena's words. -/
abbrev wsl (B : Nat) (xs : List Int) : Value := .slice (some ⟨B, 0, none⟩) xs.length xs.length
theorem wNone (s : Value) (k p o n : Int) (w : World) : Calls Tryz.prog 94 #[s, acc k p o n] w fun e w' => e = .returned (.int .u64 0) ∧ Below w.heap.size w w' := by
  go_enter Tryz.func94, Tryz.ntmps94
  go_wp2
  go_ret
  exact ⟨rfl, below_alloc0 w _⟩
theorem wLoad (A B : Nat) (xs : List Int) (k o n : Int) (p : Nat) (w : World) (h : IsAr w A B xs) (hp : p < xs.length) : Calls Tryz.prog 95 #[wsl B xs, acc k p o n] w fun e w' => e = .returned (.int .u64 (wat xs p)) ∧ Below w.heap.size w w' := by
  have hc := fun O => (h.alloc O).cell p hp
  have hl : (p : Int) < xs.length := by omega
  have hb := h.ltB
  generalize wat xs p = x at *
  go_enter Tryz.func95, Tryz.ntmps95
  go_wp2
  go_ret
  exact ⟨rfl, below_alloc0 w _⟩
theorem wStore (A B : Nat) (xs : List Int) (k o n : Int) (p : Nat) (w : World) (h : IsAr w A B xs) (hp : p < xs.length) (n0 : 0 ≤ n) (n1 : n ≤ 18446744073709551615) : Calls Tryz.prog 96 #[wsl B xs, acc k p o n] w fun e w' => e = .returned (.int .u64 0) ∧ IsAr w' A B (xs.set p n) ∧ w.grownBy w' (some B) := by
  have hc := fun O => (h.alloc O).cell p hp
  have hf := fun O => fz_row (h.alloc O).row p
  have hl : (p : Int) < xs.length := by omega
  have hb := h.ltB
  have H := fun O => hid ((h.set p n0 n1).alloc O)
  generalize wat xs p = x at *
  go_enter Tryz.func96, Tryz.ntmps96
  go_wp2
  go_ret
  exact ⟨rfl, (H _).out, grown_trans (grown_setCell w _ _ _) (World.grownBy_alloc _ _ _)⟩
theorem wSwap_yes (A B : Nat) (xs : List Int) (k n : Int) (p : Nat) (w : World) (h : IsAr w A B xs) (hp : p < xs.length) (n0 : 0 ≤ n) (n1 : n ≤ 18446744073709551615) : Calls Tryz.prog 97 #[wsl B xs, acc k p (wat xs p) n] w fun e w' => e = .returned (.int .u64 (wat xs p)) ∧ IsAr w' A B (xs.set p n) ∧ w.grownBy w' (some B) := by
  have hc := fun O => (h.alloc O).cell p hp
  have hf := fun O => fz_row (h.alloc O).row p
  have hl : (p : Int) < xs.length := by omega
  have hb := h.ltB
  have H := fun O => hid ((h.set p n0 n1).alloc O)
  generalize wat xs p = x at *
  go_enter Tryz.func97, Tryz.ntmps97
  go_wp2
  go_ret
  exact ⟨rfl, (H _).out, grown_trans (grown_setCell w _ _ _) (World.grownBy_alloc _ _ _)⟩
theorem wSwap_no (A B : Nat) (xs : List Int) (k o n : Int) (p : Nat) (w : World) (h : IsAr w A B xs) (hp : p < xs.length) (ho : (wat xs p == o) = false) : Calls Tryz.prog 97 #[wsl B xs, acc k p o n] w fun e w' => e = .returned (.int .u64 (wat xs p)) ∧ Below w.heap.size w w' := by
  have hc := fun O => (h.alloc O).cell p hp
  have hl : (p : Int) < xs.length := by omega
  have hb := h.ltB
  generalize wat xs p = x at *
  go_enter Tryz.func97, Tryz.ntmps97
  go_wp2
  go_ret
  exact ⟨rfl, below_alloc0 w _⟩
/-- What do reads: the access, the table of accesses. -/
abbrev DoS (g K : Nat) (k p o n : Int) (f : Value) (W : World) : Prop :=
  W.cell? ⟨g, 0, none⟩ = some (.int .i64 k) ∧ W.cell? ⟨g, 1, none⟩ = some (.int .i64 p) ∧ W.cell? ⟨g, 2, none⟩ = some (.int .u64 o) ∧ W.cell? ⟨g, 3, none⟩ = some (.int .u64 n) ∧ W.cell? ⟨g + 1, K, none⟩ = some f
theorem doS_of {w w1 : World} {K : Nat} {k p o n : Int} {f : Value} {cs : Array Value} {t : TypeId} (b : Below ((w.alloc (.cells #[.int .i64 k, .int .i64 p, .int .u64 o, .int .u64 n] 117)).alloc (.cells cs t)).heap.size ((w.alloc (.cells #[.int .i64 k, .int .i64 p, .int .u64 o, .int .u64 n] 117)).alloc (.cells cs t)) w1) (hf : cs[K]? = some f) : DoS w.heap.size K k p o n f w1 :=
  ⟨at_row (row2a b) 0 rfl, at_row (row2a b) 1 rfl, at_row (row2a b) 2 rfl, at_row (row2a b) 3 rfl, at_row (row2b b) K hf⟩
theorem doS_below {g K : Nat} {k p o n : Int} {f : Value} {W W' : World} (h : DoS g K k p o n f W) (b : Below W.heap.size W W') : DoS g K k p o n f W' := by
  obtain ⟨h0, h1, h2, h3, h4⟩ := h
  have q := fun {p : Addr} {v : Value} (h : W.cell? p = some v) => (b.cell (p := p) (block_lt_of_cell h)).trans h
  exact ⟨q h0, q h1, q h2, q h3, q h4⟩
theorem doS_grown {g K B : Nat} {k p o n : Int} {f : Value} {W W' : World} (h : DoS g K k p o n f W) (b : W.grownBy W' (some B)) (hB : B < g) : DoS g K k p o n f W' := by
  obtain ⟨h0, h1, h2, h3, h4⟩ := h
  exact ⟨grown_cell b (by show g ≠ B; omega) h0, grown_cell b (by show g ≠ B; omega) h1, grown_cell b (by show g ≠ B; omega) h2, grown_cell b (by show g ≠ B; omega) h3, grown_cell b (by show g + 1 ≠ B; omega) h4⟩
theorem doS_drew {g K : Nat} {k p o n : Int} {f : Value} {W : World} (h : DoS g K k p o n f W) : DoS g K k p o n f W.drew := h
/-- The table of accesses, as do lays it. -/
abbrev accTab (s : Value) : Array Value := #[.func (.func 94) #[s] #[], .func (.func 95) #[s] #[], .func (.func 96) #[s] #[], .func (.func 97) #[s] #[]]
set_option maxHeartbeats 2000000 in
theorem wDo_none (B : Nat) (xs : List Int) (p o n : Int) (w : World) : Calls Tryz.prog 83 #[wsl B xs, acc 0 p o n] w fun e w' => e = .returned (.int .u64 0) ∧ Below w.heap.size w w' := by
  go_enter Tryz.func83, Tryz.ntmps83
  go_wp2
  have hS := doS_of (w := w) (K := 0) (f := .func (.func 94) #[wsl B xs] #[]) (k := 0) (p := p) (o := o) (n := n) (cs := accTab (wsl B xs)) (t := 158) (Below.refl _ _) rfl
  have hB := bel_two w (.cells #[.int .i64 0, .int .i64 p, .int .u64 o, .int .u64 n] 117) (.cells (accTab (wsl B xs)) 158)
  revert hS hB
  generalize World.alloc (World.alloc w _) _ = w2
  intro hS hB
  have HS := hid hS
  clear hS
  go_region_held3 (DoS w.heap.size 0 0 p o n (.func (.func 94) #[wsl B xs] #[])) (with_reducible (first | assumption | exact doS_drew HS.out | (refine doS_below (W := ?w1) ?hf ?hb; (case hb => assumption); (case hf => assumption)))) (first | (go_at_call 94; refine (wNone _ _ _ _ _ _).mono ?_; rintro e w1 ⟨rfl, b1⟩))
  go_wp2
  go_ret
  exact ⟨rfl, hB.trans (((Below.refl _ w2).drew.trans b1).mono hB.size)⟩
set_option maxHeartbeats 2000000 in
theorem wDo_load (A B : Nat) (xs : List Int) (o n : Int) (p : Nat) (w : World) (h : IsAr w A B xs) (hp : p < xs.length) : Calls Tryz.prog 83 #[wsl B xs, acc 1 (p : Int) o n] w fun e w' => e = .returned (.int .u64 (wat xs p)) ∧ Below w.heap.size w w' := by
  go_enter Tryz.func83, Tryz.ntmps83
  go_wp2
  have hS := doS_of (w := w) (K := 1) (f := .func (.func 95) #[wsl B xs] #[]) (k := 1) (p := (p : Int)) (o := o) (n := n) (cs := accTab (wsl B xs)) (t := 158) (Below.refl _ _) rfl
  have hB := bel_two w (.cells #[.int .i64 1, .int .i64 (p : Int), .int .u64 o, .int .u64 n] 117) (.cells (accTab (wsl B xs)) 158)
  revert hS hB
  generalize World.alloc (World.alloc w _) _ = w2
  intro hS hB
  have HS := hid hS
  clear hS
  have HA := hid ((h.grown (grown_below hB none) (by simp) (by simp)).grown (row := none) (grown_below (Below.refl _ w2).drew none) (by simp) (by simp))
  go_region_held3 (DoS w.heap.size 1 1 (p : Int) o n (.func (.func 95) #[wsl B xs] #[])) (with_reducible (first | assumption | exact doS_drew HS.out | (refine doS_below (W := ?w1) ?hf ?hb; (case hb => assumption); (case hf => assumption)))) (first | (go_at_call 95; refine (wLoad A B xs _ _ _ p _ HA.out hp).mono ?_; rintro e w1 ⟨rfl, b1⟩))
  go_wp2
  go_ret
  exact ⟨rfl, hB.trans (((Below.refl _ w2).drew.trans b1).mono hB.size)⟩
set_option maxHeartbeats 2000000 in
theorem wDo_store (A B : Nat) (xs : List Int) (o n : Int) (p : Nat) (w : World) (h : IsAr w A B xs) (hp : p < xs.length) (n0 : 0 ≤ n) (n1 : n ≤ 18446744073709551615) : Calls Tryz.prog 83 #[wsl B xs, acc 2 (p : Int) o n] w fun e w' => e = .returned (.int .u64 0) ∧ IsAr w' A B (xs.set p n) ∧ w.grownBy w' (some B) := by
  go_enter Tryz.func83, Tryz.ntmps83
  go_wp2
  have hS := doS_of (w := w) (K := 2) (f := .func (.func 96) #[wsl B xs] #[]) (k := 2) (p := (p : Int)) (o := o) (n := n) (cs := accTab (wsl B xs)) (t := 158) (Below.refl _ _) rfl
  have hB := bel_two w (.cells #[.int .i64 2, .int .i64 (p : Int), .int .u64 o, .int .u64 n] 117) (.cells (accTab (wsl B xs)) 158)
  revert hS hB
  generalize World.alloc (World.alloc w _) _ = w2
  intro hS hB
  have HS := hid hS
  clear hS
  have HA := hid ((h.grown (grown_below hB none) (by simp) (by simp)).grown (row := none) (grown_below (Below.refl _ w2).drew none) (by simp) (by simp))
  have HBlt := hid h.ltB
  go_region_held3 (DoS w.heap.size 2 2 (p : Int) o n (.func (.func 96) #[wsl B xs] #[])) (with_reducible (first | assumption | exact doS_drew HS.out | (refine doS_grown (W := ?w1) ?hf ?hb HBlt.out; (case hb => assumption); (case hf => assumption)))) (first | (go_at_call 96; refine (wStore A B xs _ _ _ p _ HA.out hp n0 n1).mono ?_; rintro e w1 ⟨rfl, a1, b1⟩))
  go_wp2
  go_ret
  exact ⟨rfl, a1, grown_trans (grown_below hB _) (grown_trans (grown_below (Below.refl _ w2).drew _) b1)⟩
set_option maxHeartbeats 2000000 in
theorem wDo_swap (A B : Nat) (xs : List Int) (n : Int) (p : Nat) (w : World) (h : IsAr w A B xs) (hp : p < xs.length) (n0 : 0 ≤ n) (n1 : n ≤ 18446744073709551615) : Calls Tryz.prog 83 #[wsl B xs, acc 3 (p : Int) (wat xs p) n] w fun e w' => e = .returned (.int .u64 (wat xs p)) ∧ IsAr w' A B (xs.set p n) ∧ w.grownBy w' (some B) := by
  go_enter Tryz.func83, Tryz.ntmps83
  go_wp2
  have hS := doS_of (w := w) (K := 3) (f := .func (.func 97) #[wsl B xs] #[]) (k := 3) (p := (p : Int)) (o := (wat xs p)) (n := n) (cs := accTab (wsl B xs)) (t := 158) (Below.refl _ _) rfl
  have hB := bel_two w (.cells #[.int .i64 3, .int .i64 (p : Int), .int .u64 (wat xs p), .int .u64 n] 117) (.cells (accTab (wsl B xs)) 158)
  revert hS hB
  generalize World.alloc (World.alloc w _) _ = w2
  intro hS hB
  have HS := hid hS
  clear hS
  have HA := hid ((h.grown (grown_below hB none) (by simp) (by simp)).grown (row := none) (grown_below (Below.refl _ w2).drew none) (by simp) (by simp))
  have HBlt := hid h.ltB
  go_region_held3 (DoS w.heap.size 3 3 (p : Int) (wat xs p) n (.func (.func 97) #[wsl B xs] #[])) (with_reducible (first | assumption | exact doS_drew HS.out | (refine doS_grown (W := ?w1) ?hf ?hb HBlt.out; (case hb => assumption); (case hf => assumption)))) (first | (go_at_call 97; refine (wSwap_yes A B xs _ _ p _ HA.out hp n0 n1).mono ?_; rintro e w1 ⟨rfl, a1, b1⟩))
  go_wp2
  go_ret
  exact ⟨rfl, a1, grown_trans (grown_below hB _) (grown_trans (grown_below (Below.refl _ w2).drew _) b1)⟩
set_option maxHeartbeats 2000000 in
theorem wDo_keep (A B : Nat) (xs : List Int) (o n : Int) (p : Nat) (w : World) (h : IsAr w A B xs) (hp : p < xs.length) (ho : (wat xs p == o) = false) : Calls Tryz.prog 83 #[wsl B xs, acc 3 (p : Int) o n] w fun e w' => e = .returned (.int .u64 (wat xs p)) ∧ Below w.heap.size w w' := by
  go_enter Tryz.func83, Tryz.ntmps83
  go_wp2
  have hS := doS_of (w := w) (K := 3) (f := .func (.func 97) #[wsl B xs] #[]) (k := 3) (p := (p : Int)) (o := o) (n := n) (cs := accTab (wsl B xs)) (t := 158) (Below.refl _ _) rfl
  have hB := bel_two w (.cells #[.int .i64 3, .int .i64 (p : Int), .int .u64 o, .int .u64 n] 117) (.cells (accTab (wsl B xs)) 158)
  revert hS hB
  generalize World.alloc (World.alloc w _) _ = w2
  intro hS hB
  have HS := hid hS
  clear hS
  have HA := hid ((h.grown (grown_below hB none) (by simp) (by simp)).grown (row := none) (grown_below (Below.refl _ w2).drew none) (by simp) (by simp))
  go_region_held3 (DoS w.heap.size 3 3 (p : Int) o n (.func (.func 97) #[wsl B xs] #[])) (with_reducible (first | assumption | exact doS_drew HS.out | (refine doS_below (W := ?w1) ?hf ?hb; (case hb => assumption); (case hf => assumption)))) (first | (go_at_call 97; refine (wSwap_no A B xs _ _ _ p _ HA.out hp ho).mono ?_; rintro e w1 ⟨rfl, b1⟩))
  go_wp2
  go_ret
  exact ⟨rfl, hB.trans (((Below.refl _ w2).drew.trans b1).mono hB.size)⟩
end Go.Proofs.YtldfmlkjeniemaaGreatDoor
/- package arena: Do. -/
namespace Go.Proofs.YtldfmlkjeniemaaGreatDoor
open Go.RowKit
set_option maxHeartbeats 1000000 in
/-- No arena: ErrNil. -/
theorem Do_nil (q : Value) (c : Nat) (a : Option Addr) (k p o n : Int) (w : World) (h : Faces w q (.slice a 0 c)) : Calls Tryz.prog 65 #[q, acc k p o n] w fun e w' => e = .returned (.tuple #[.int .u64 0, .int .i64 1]) ∧ Below w.heap.size w w' := by
  have cl := fun O => Len_at q a 0 c (w.alloc O) (h.below (below_alloc0 w O))
  go_enter Tryz.func65, Tryz.ntmps65
  go_wp2
  refine wp_scope_once 0 rfl ?_
  go_wp2_with (go_at_call 50; refine (cl _).mono ?_; rintro e w' ⟨rfl, hw⟩; rw [hw]; clear hw)
  go_step3
  refine ⟨rfl, ?_⟩
  go_wp2
  rw [Exit.noGoto_ret]
  go_ret2
  exact ⟨rfl, below_alloc0 w _⟩
/-- What Do reads: the arena's face, the access. -/
abbrev FcS (A B g : Nat) (xs : List Int) (k p o n : Int) (W : World) : Prop :=
  W.cell? ⟨A, 0, none⟩ = some (wsl B xs) ∧ W.cell? ⟨g, 0, none⟩ = some (.int .i64 k) ∧ W.cell? ⟨g, 1, none⟩ = some (.int .i64 p) ∧ W.cell? ⟨g, 2, none⟩ = some (.int .u64 o) ∧ W.cell? ⟨g, 3, none⟩ = some (.int .u64 n)
theorem fcS_of {w w1 : World} {A B : Nat} {xs : List Int} {k p o n : Int} (h : IsAr w A B xs) (b : Below (w.alloc (.cells #[.int .i64 k, .int .i64 p, .int .u64 o, .int .u64 n] 117)).heap.size (w.alloc (.cells #[.int .i64 k, .int .i64 p, .int .u64 o, .int .u64 n] 117)) w1) : FcS A B w.heap.size xs k p o n w1 :=
  ⟨((h.alloc _).below b).fcell, at_row (row1 b) 0 rfl, at_row (row1 b) 1 rfl, at_row (row1 b) 2 rfl, at_row (row1 b) 3 rfl⟩
theorem fcS_grown {g A B : Nat} {xs : List Int} {k p o n : Int} {W W' : World} (h : FcS A B g xs k p o n W) (b : W.grownBy W' (some B)) (hB : g ≠ B) (hA : A ≠ B) : FcS A B g xs k p o n W' := by
  obtain ⟨h0, h1, h2, h3, h4⟩ := h
  exact ⟨grown_cell b hA h0, grown_cell b hB h1, grown_cell b hB h2, grown_cell b hB h3, grown_cell b hB h4⟩
theorem fcS_below {g A B : Nat} {xs : List Int} {k p o n : Int} {W W' : World} (h : FcS A B g xs k p o n W) (b : Below W.heap.size W W') : FcS A B g xs k p o n W' := by
  obtain ⟨h0, h1, h2, h3, h4⟩ := h
  have q := fun {p : Addr} {v : Value} (h : W.cell? p = some v) => (b.cell (p := p) (block_lt_of_cell h)).trans h
  exact ⟨q h0, q h1, q h2, q h3, q h4⟩
theorem len_ne {xs : List Int} (h : 1 ≤ xs.length) : ((xs.length : Int) == 0) = false := by rw [beq_eq_false_iff_ne]; omega
set_option maxHeartbeats 1000000 in
/-- An access that may not be: ErrArg. -/
theorem Do_arg (A B : Nat) (xs : List Int) (k p o n : Int) (w : World) (h : IsAr w A B xs) (hk : ck k p o n = false) : Calls Tryz.prog 65 #[.pointer (some ⟨A, 0, none⟩), acc k p o n] w fun e w' => e = .returned (.tuple #[.int .u64 0, .int .i64 2]) ∧ Below w.heap.size w w' := by
  have cl := fun O => Len_at _ _ _ _ (w.alloc O) (h.alloc O).faces
  have cc := fun W => Check_any k p o n W
  simp only [hk] at cc
  have hl := len_ne h.pos
  clear hk
  go_enter Tryz.func65, Tryz.ntmps65
  go_wp2
  refine wp_scope_once 0 rfl ?_
  go_wp2_with (first | (go_at_call 50; refine (cl _).mono ?_; rintro e w' ⟨rfl, hw⟩; rw [hw]; clear hw) | (go_at_call 81; refine (cc _).mono ?_; rintro e w1 ⟨rfl, b1⟩))
  go_step3
  refine ⟨rfl, ?_⟩
  go_wp2
  rw [Exit.noGoto_ret]
  go_ret2
  exact ⟨rfl, bel1 b1⟩
set_option maxHeartbeats 2000000 in
/-- No word of that number: ErrRange. -/
theorem Do_range (A B : Nat) (xs : List Int) (k p o n : Int) (w : World) (h : IsAr w A B xs) (hk : ck k p o n = true) (hp : (decide (0 ≤ p) && decide (p < xs.length)) = false) : Calls Tryz.prog 65 #[.pointer (some ⟨A, 0, none⟩), acc k p o n] w fun e w' => e = .returned (.tuple #[.int .u64 0, .int .i64 4]) ∧ Below w.heap.size w w' := by
  have cl := fun O => Len_at _ _ _ _ (w.alloc O) (h.alloc O).faces
  have cc := fun W => Check_any k p o n W
  simp only [hk] at cc
  have hl := len_ne h.pos
  have ch := fun W => wHas_any (some ⟨B, 0, none⟩) xs.length xs.length p W
  rw [hp] at ch
  clear hk hp
  go_enter Tryz.func65, Tryz.ntmps65
  go_wp2
  refine wp_scope_once 0 rfl ?_
  go_wp2_with (first | (go_at_call 50; refine (cl _).mono ?_; rintro e w' ⟨rfl, hw⟩; rw [hw]; clear hw) | (go_at_call 81; refine (cc _).mono ?_; rintro e w1 ⟨rfl, b1⟩))
  have HS := hid (fcS_of h b1)
  have HB := hid (bel1 b1)
  clear b1
  have hS := HS.out
  go_quiet ((go_at_call 82; exact Calls.quiet_of_same (ch _)))
  go_wp2
  go_step3
  refine ⟨rfl, ?_⟩
  go_wp2
  rw [Exit.noGoto_ret]
  go_ret2
  exact ⟨rfl, bdrewN HB.out _⟩
set_option maxHeartbeats 4000000 in
theorem Do_0 (A B : Nat) (xs : List Int) (w : World) (h : IsAr w A B xs) (hk : ck 0 0 0 0 = true) : Calls Tryz.prog 65 #[.pointer (some ⟨A, 0, none⟩), acc 0 0 0 0] w fun e w' => e = .returned (.tuple #[.int .u64 0, .int .i64 0]) ∧ Below w.heap.size w w' := by
  have cl := fun O => Len_at _ _ _ _ (w.alloc O) (h.alloc O).faces
  have cc := fun W => Check_any 0 0 0 0 W
  simp only [hk] at cc
  have hl := len_ne h.pos
  have hlt := h.ltB
  have ch := fun W => wHas_any (some ⟨B, 0, none⟩) xs.length xs.length 0 W
  have hp' : (decide (0 ≤ (0 : Int)) && decide ((0 : Int) < xs.length)) = true := by have := h.pos; simp; omega
  rw [hp'] at ch
  clear hk hp'
  go_enter Tryz.func65, Tryz.ntmps65
  go_wp2
  refine wp_scope_once 0 rfl ?_
  go_wp2_with (first | (go_at_call 50; refine (cl _).mono ?_; rintro e w' ⟨rfl, hw⟩; rw [hw]; clear hw) | (go_at_call 81; refine (cc _).mono ?_; rintro e w1 ⟨rfl, b1⟩))
  have HS := hid (fcS_of h b1)
  have HB := hid (bel1 b1)
  have HA := hid ((h.alloc _).below b1)
  clear b1
  have hS := HS.out
  go_quiet ((go_at_call 82; exact Calls.quiet_of_same (ch _)))
  clear hS
  have HS2 : Hid (FcS A B w.heap.size xs 0 0 0 0 (w1.drewN nq).drew) := HS
  have HB2 := hid ((bdrewN HB.out nq).drew)
  have HA2 := hid (HA.out.below (bdrewN (Below.refl _ w1) nq).drew)
  clear HS HB HA
  go_wp2
  revert HS2 HB2 HA2
  generalize w1.drewN nq = w2
  intro HS2 HB2 HA2
  go_region_held3 (FcS A B w.heap.size xs 0 0 0 0) (with_reducible (first | assumption | exact HS2.out | (refine fcS_below (W := ?w1) ?hf ?hb; (case hb => assumption); (case hf => assumption)))) (first | (go_at_call 83; refine (wDo_none B xs _ _ _ _).mono ?_; rintro e w3 ⟨rfl, b3⟩))
  go_wp2
  rw [ajump_ret]
  go_ret2
  exact ⟨rfl, HB2.out.trans (b3.mono HB2.out.size)⟩
set_option maxHeartbeats 4000000 in
theorem Do_1 (A B : Nat) (xs : List Int) (p : Nat) (w : World) (h : IsAr w A B xs) (hk : ck 1 (p : Int) 0 0 = true) (hp : p < xs.length) : Calls Tryz.prog 65 #[.pointer (some ⟨A, 0, none⟩), acc 1 (p : Int) 0 0] w fun e w' => e = .returned (.tuple #[.int .u64 (wat xs p), .int .i64 0]) ∧ Below w.heap.size w w' := by
  have cl := fun O => Len_at _ _ _ _ (w.alloc O) (h.alloc O).faces
  have cc := fun W => Check_any 1 (p : Int) 0 0 W
  simp only [hk] at cc
  have hl := len_ne h.pos
  have hlt := h.ltB
  have ch := fun W => wHas_any (some ⟨B, 0, none⟩) xs.length xs.length (p : Int) W
  have hp' : (decide (0 ≤ ((p : Int) : Int)) && decide (((p : Int) : Int) < xs.length)) = true := by simp; omega
  rw [hp'] at ch
  clear hk hp'
  go_enter Tryz.func65, Tryz.ntmps65
  go_wp2
  refine wp_scope_once 0 rfl ?_
  go_wp2_with (first | (go_at_call 50; refine (cl _).mono ?_; rintro e w' ⟨rfl, hw⟩; rw [hw]; clear hw) | (go_at_call 81; refine (cc _).mono ?_; rintro e w1 ⟨rfl, b1⟩))
  have HS := hid (fcS_of h b1)
  have HB := hid (bel1 b1)
  have HA := hid ((h.alloc _).below b1)
  clear b1
  have hS := HS.out
  go_quiet ((go_at_call 82; exact Calls.quiet_of_same (ch _)))
  clear hS
  have HS2 : Hid (FcS A B w.heap.size xs 1 (p : Int) 0 0 (w1.drewN nq).drew) := HS
  have HB2 := hid ((bdrewN HB.out nq).drew)
  have HA2 := hid (HA.out.below (bdrewN (Below.refl _ w1) nq).drew)
  clear HS HB HA
  go_wp2
  revert HS2 HB2 HA2
  generalize w1.drewN nq = w2
  intro HS2 HB2 HA2
  go_region_held3 (FcS A B w.heap.size xs 1 (p : Int) 0 0) (with_reducible (first | assumption | exact HS2.out | (refine fcS_below (W := ?w1) ?hf ?hb; (case hb => assumption); (case hf => assumption)))) (first | (go_at_call 83; refine (wDo_load A B xs _ _ p _ HA2.out hp).mono ?_; rintro e w3 ⟨rfl, b3⟩))
  go_wp2
  rw [ajump_ret]
  go_ret2
  exact ⟨rfl, HB2.out.trans (b3.mono HB2.out.size)⟩
set_option maxHeartbeats 4000000 in
theorem Do_2 (A B : Nat) (xs : List Int) (n : Int) (p : Nat) (w : World) (h : IsAr w A B xs) (hk : ck 2 (p : Int) 0 n = true) (hp : p < xs.length) (n0 : 0 ≤ n) (n1 : n ≤ 18446744073709551615) : Calls Tryz.prog 65 #[.pointer (some ⟨A, 0, none⟩), acc 2 (p : Int) 0 n] w fun e w' => e = .returned (.tuple #[.int .u64 0, .int .i64 0]) ∧ IsAr w' A B (xs.set p n) ∧ w.grownBy w' (some B) := by
  have HNE : Hid (w.heap.size ≠ B) := hid (by have := h.ltB; omega)
  have HNA := hid h.ne
  have cl := fun O => Len_at _ _ _ _ (w.alloc O) (h.alloc O).faces
  have cc := fun W => Check_any 2 (p : Int) 0 n W
  simp only [hk] at cc
  have hl := len_ne h.pos
  have hlt := h.ltB
  have ch := fun W => wHas_any (some ⟨B, 0, none⟩) xs.length xs.length (p : Int) W
  have hp' : (decide (0 ≤ ((p : Int) : Int)) && decide (((p : Int) : Int) < xs.length)) = true := by simp; omega
  rw [hp'] at ch
  clear hk hp'
  go_enter Tryz.func65, Tryz.ntmps65
  go_wp2
  refine wp_scope_once 0 rfl ?_
  go_wp2_with (first | (go_at_call 50; refine (cl _).mono ?_; rintro e w' ⟨rfl, hw⟩; rw [hw]; clear hw) | (go_at_call 81; refine (cc _).mono ?_; rintro e w1 ⟨rfl, b1⟩))
  have HS := hid (fcS_of h b1)
  have HB := hid (bel1 b1)
  have HA := hid ((h.alloc _).below b1)
  clear b1
  have hS := HS.out
  go_quiet ((go_at_call 82; exact Calls.quiet_of_same (ch _)))
  clear hS
  have HS2 : Hid (FcS A B w.heap.size xs 2 (p : Int) 0 n (w1.drewN nq).drew) := HS
  have HB2 := hid ((bdrewN HB.out nq).drew)
  have HA2 := hid (HA.out.below (bdrewN (Below.refl _ w1) nq).drew)
  clear HS HB HA
  go_wp2
  revert HS2 HB2 HA2
  generalize w1.drewN nq = w2
  intro HS2 HB2 HA2
  go_region_held3 (FcS A B w.heap.size xs 2 (p : Int) 0 n) (with_reducible (first | assumption | exact HS2.out | (refine fcS_grown (W := ?w1) ?hf ?hb HNE.out HNA.out; (case hb => assumption); (case hf => assumption)))) (first | (go_at_call 83; refine (wDo_store A B xs _ _ p _ HA2.out hp n0 n1).mono ?_; rintro e w3 ⟨rfl, a3, b3⟩))
  go_wp2
  rw [ajump_ret]
  go_ret2
  exact ⟨rfl, a3, grown_trans (grown_below HB2.out _) b3⟩
set_option maxHeartbeats 4000000 in
theorem Do_3y (A B : Nat) (xs : List Int) (n : Int) (p : Nat) (w : World) (h : IsAr w A B xs) (hk : ck 3 (p : Int) (wat xs p) n = true) (hp : p < xs.length) (n0 : 0 ≤ n) (n1 : n ≤ 18446744073709551615) : Calls Tryz.prog 65 #[.pointer (some ⟨A, 0, none⟩), acc 3 (p : Int) (wat xs p) n] w fun e w' => e = .returned (.tuple #[.int .u64 (wat xs p), .int .i64 0]) ∧ IsAr w' A B (xs.set p n) ∧ w.grownBy w' (some B) := by
  have HNE : Hid (w.heap.size ≠ B) := hid (by have := h.ltB; omega)
  have HNA := hid h.ne
  have cl := fun O => Len_at _ _ _ _ (w.alloc O) (h.alloc O).faces
  have cc := fun W => Check_any 3 (p : Int) (wat xs p) n W
  simp only [hk] at cc
  have hl := len_ne h.pos
  have hlt := h.ltB
  have ch := fun W => wHas_any (some ⟨B, 0, none⟩) xs.length xs.length (p : Int) W
  have hp' : (decide (0 ≤ ((p : Int) : Int)) && decide (((p : Int) : Int) < xs.length)) = true := by simp; omega
  rw [hp'] at ch
  clear hk hp'
  go_enter Tryz.func65, Tryz.ntmps65
  go_wp2
  refine wp_scope_once 0 rfl ?_
  go_wp2_with (first | (go_at_call 50; refine (cl _).mono ?_; rintro e w' ⟨rfl, hw⟩; rw [hw]; clear hw) | (go_at_call 81; refine (cc _).mono ?_; rintro e w1 ⟨rfl, b1⟩))
  have HS := hid (fcS_of h b1)
  have HB := hid (bel1 b1)
  have HA := hid ((h.alloc _).below b1)
  clear b1
  have hS := HS.out
  go_quiet ((go_at_call 82; exact Calls.quiet_of_same (ch _)))
  clear hS
  have HS2 : Hid (FcS A B w.heap.size xs 3 (p : Int) (wat xs p) n (w1.drewN nq).drew) := HS
  have HB2 := hid ((bdrewN HB.out nq).drew)
  have HA2 := hid (HA.out.below (bdrewN (Below.refl _ w1) nq).drew)
  clear HS HB HA
  go_wp2
  revert HS2 HB2 HA2
  generalize w1.drewN nq = w2
  intro HS2 HB2 HA2
  go_region_held3 (FcS A B w.heap.size xs 3 (p : Int) (wat xs p) n) (with_reducible (first | assumption | exact HS2.out | (refine fcS_grown (W := ?w1) ?hf ?hb HNE.out HNA.out; (case hb => assumption); (case hf => assumption)))) (first | (go_at_call 83; refine (wDo_swap A B xs _ p _ HA2.out hp n0 n1).mono ?_; rintro e w3 ⟨rfl, a3, b3⟩))
  go_wp2
  rw [ajump_ret]
  go_ret2
  exact ⟨rfl, a3, grown_trans (grown_below HB2.out _) b3⟩
set_option maxHeartbeats 4000000 in
theorem Do_3n (A B : Nat) (xs : List Int) (o n : Int) (p : Nat) (w : World) (h : IsAr w A B xs) (hk : ck 3 (p : Int) o n = true) (hp : p < xs.length) (ho : (wat xs p == o) = false) : Calls Tryz.prog 65 #[.pointer (some ⟨A, 0, none⟩), acc 3 (p : Int) o n] w fun e w' => e = .returned (.tuple #[.int .u64 (wat xs p), .int .i64 0]) ∧ Below w.heap.size w w' := by
  have cl := fun O => Len_at _ _ _ _ (w.alloc O) (h.alloc O).faces
  have cc := fun W => Check_any 3 (p : Int) o n W
  simp only [hk] at cc
  have hl := len_ne h.pos
  have hlt := h.ltB
  have ch := fun W => wHas_any (some ⟨B, 0, none⟩) xs.length xs.length (p : Int) W
  have hp' : (decide (0 ≤ ((p : Int) : Int)) && decide (((p : Int) : Int) < xs.length)) = true := by simp; omega
  rw [hp'] at ch
  clear hk hp'
  go_enter Tryz.func65, Tryz.ntmps65
  go_wp2
  refine wp_scope_once 0 rfl ?_
  go_wp2_with (first | (go_at_call 50; refine (cl _).mono ?_; rintro e w' ⟨rfl, hw⟩; rw [hw]; clear hw) | (go_at_call 81; refine (cc _).mono ?_; rintro e w1 ⟨rfl, b1⟩))
  have HS := hid (fcS_of h b1)
  have HB := hid (bel1 b1)
  have HA := hid ((h.alloc _).below b1)
  clear b1
  have hS := HS.out
  go_quiet ((go_at_call 82; exact Calls.quiet_of_same (ch _)))
  clear hS
  have HS2 : Hid (FcS A B w.heap.size xs 3 (p : Int) o n (w1.drewN nq).drew) := HS
  have HB2 := hid ((bdrewN HB.out nq).drew)
  have HA2 := hid (HA.out.below (bdrewN (Below.refl _ w1) nq).drew)
  clear HS HB HA
  go_wp2
  revert HS2 HB2 HA2
  generalize w1.drewN nq = w2
  intro HS2 HB2 HA2
  go_region_held3 (FcS A B w.heap.size xs 3 (p : Int) o n) (with_reducible (first | assumption | exact HS2.out | (refine fcS_below (W := ?w1) ?hf ?hb; (case hb => assumption); (case hf => assumption)))) (first | (go_at_call 83; refine (wDo_keep A B xs _ _ p _ HA2.out hp ho).mono ?_; rintro e w3 ⟨rfl, b3⟩))
  go_wp2
  rw [ajump_ret]
  go_ret2
  exact ⟨rfl, HB2.out.trans (b3.mono HB2.out.size)⟩
end Go.Proofs.YtldfmlkjeniemaaGreatDoor
