/- package arena: none, load, store, swap, do. -/
import Derived.Test.YtldfmlkjeniemaaGreatDoorArLeafOn
namespace Go.Proofs.YtldfmlkjeniemaaGreatDoor
open Go.RowKit
/-- A slice of the arena's words. -/
abbrev wsl (B : Nat) (xs : List Int) : Value := .slice (some ⟨B, 0, none⟩) xs.length xs.length
theorem wNone (s : Value) (k p o n : Int) (w : World) : Calls Tryz.prog 94 #[s, acc k p o n] w fun e w' => e = .returned (.int .u64 0) ∧ Below w.heap.size w w' := by
  go_enter Tryz.func94, Tryz.ntmps94
  go_wp2
  go_ret
  exact ⟨rfl, below_alloc0 w _⟩
theorem wLoad (A B : Nat) (xs : List Int) (k o n : Int) (p : Nat) (w : World) (h : IsAr w A B xs) (hp : p < xs.length) : Calls Tryz.prog 95 #[wsl B xs, acc k p o n] w fun e w' => e = .returned (.int .u64 (wat xs p)) ∧ Below w.heap.size w w' := by
  have hc := fun O => (h.alloc O).cell p hp
  have hl : (p : Int) < xs.length := by omega
  have hb := h.ltB
  generalize wat xs p = x at *
  go_enter Tryz.func95, Tryz.ntmps95
  go_wp2
  go_ret
  exact ⟨rfl, below_alloc0 w _⟩
theorem wStore (A B : Nat) (xs : List Int) (k o n : Int) (p : Nat) (w : World) (h : IsAr w A B xs) (hp : p < xs.length) (n0 : 0 ≤ n) (n1 : n ≤ 18446744073709551615) : Calls Tryz.prog 96 #[wsl B xs, acc k p o n] w fun e w' => e = .returned (.int .u64 0) ∧ IsAr w' A B (xs.set p n) ∧ w.grownBy w' (some B) := by
  have hc := fun O => (h.alloc O).cell p hp
  have hf := fun O => fz_row (h.alloc O).row p
  have hl : (p : Int) < xs.length := by omega
  have hb := h.ltB
  have H := fun O => hid ((h.set p n0 n1).alloc O)
  generalize wat xs p = x at *
  go_enter Tryz.func96, Tryz.ntmps96
  go_wp2
  go_ret
  exact ⟨rfl, (H _).out, grown_trans (grown_setCell w _ _ _) (World.grownBy_alloc _ _ _)⟩
theorem wSwap_yes (A B : Nat) (xs : List Int) (k n : Int) (p : Nat) (w : World) (h : IsAr w A B xs) (hp : p < xs.length) (n0 : 0 ≤ n) (n1 : n ≤ 18446744073709551615) : Calls Tryz.prog 97 #[wsl B xs, acc k p (wat xs p) n] w fun e w' => e = .returned (.int .u64 (wat xs p)) ∧ IsAr w' A B (xs.set p n) ∧ w.grownBy w' (some B) := by
  have hc := fun O => (h.alloc O).cell p hp
  have hf := fun O => fz_row (h.alloc O).row p
  have hl : (p : Int) < xs.length := by omega
  have hb := h.ltB
  have H := fun O => hid ((h.set p n0 n1).alloc O)
  generalize wat xs p = x at *
  go_enter Tryz.func97, Tryz.ntmps97
  go_wp2
  go_ret
  exact ⟨rfl, (H _).out, grown_trans (grown_setCell w _ _ _) (World.grownBy_alloc _ _ _)⟩
theorem wSwap_no (A B : Nat) (xs : List Int) (k o n : Int) (p : Nat) (w : World) (h : IsAr w A B xs) (hp : p < xs.length) (ho : (wat xs p == o) = false) : Calls Tryz.prog 97 #[wsl B xs, acc k p o n] w fun e w' => e = .returned (.int .u64 (wat xs p)) ∧ Below w.heap.size w w' := by
  have hc := fun O => (h.alloc O).cell p hp
  have hl : (p : Int) < xs.length := by omega
  have hb := h.ltB
  generalize wat xs p = x at *
  go_enter Tryz.func97, Tryz.ntmps97
  go_wp2
  go_ret
  exact ⟨rfl, below_alloc0 w _⟩
/-- What do reads: the access, the table of accesses. -/
abbrev DoS (g K : Nat) (k p o n : Int) (f : Value) (W : World) : Prop :=
  W.cell? ⟨g, 0, none⟩ = some (.int .i64 k) ∧ W.cell? ⟨g, 1, none⟩ = some (.int .i64 p) ∧ W.cell? ⟨g, 2, none⟩ = some (.int .u64 o) ∧ W.cell? ⟨g, 3, none⟩ = some (.int .u64 n) ∧ W.cell? ⟨g + 1, K, none⟩ = some f
theorem doS_of {w w1 : World} {K : Nat} {k p o n : Int} {f : Value} {cs : Array Value} {t : TypeId} (b : Below ((w.alloc (.cells #[.int .i64 k, .int .i64 p, .int .u64 o, .int .u64 n] 117)).alloc (.cells cs t)).heap.size ((w.alloc (.cells #[.int .i64 k, .int .i64 p, .int .u64 o, .int .u64 n] 117)).alloc (.cells cs t)) w1) (hf : cs[K]? = some f) : DoS w.heap.size K k p o n f w1 :=
  ⟨at_row (row2a b) 0 rfl, at_row (row2a b) 1 rfl, at_row (row2a b) 2 rfl, at_row (row2a b) 3 rfl, at_row (row2b b) K hf⟩
theorem doS_below {g K : Nat} {k p o n : Int} {f : Value} {W W' : World} (h : DoS g K k p o n f W) (b : Below W.heap.size W W') : DoS g K k p o n f W' := by
  obtain ⟨h0, h1, h2, h3, h4⟩ := h
  have q := fun {p : Addr} {v : Value} (h : W.cell? p = some v) => (b.cell (p := p) (block_lt_of_cell h)).trans h
  exact ⟨q h0, q h1, q h2, q h3, q h4⟩
theorem doS_grown {g K B : Nat} {k p o n : Int} {f : Value} {W W' : World} (h : DoS g K k p o n f W) (b : W.grownBy W' (some B)) (hB : B < g) : DoS g K k p o n f W' := by
  obtain ⟨h0, h1, h2, h3, h4⟩ := h
  exact ⟨grown_cell b (by show g ≠ B; omega) h0, grown_cell b (by show g ≠ B; omega) h1, grown_cell b (by show g ≠ B; omega) h2, grown_cell b (by show g ≠ B; omega) h3, grown_cell b (by show g + 1 ≠ B; omega) h4⟩
theorem doS_drew {g K : Nat} {k p o n : Int} {f : Value} {W : World} (h : DoS g K k p o n f W) : DoS g K k p o n f W.drew := h
/-- The table of accesses, as do lays it. -/
abbrev accTab (s : Value) : Array Value := #[.func (.func 94) #[s] #[], .func (.func 95) #[s] #[], .func (.func 96) #[s] #[], .func (.func 97) #[s] #[]]
set_option maxHeartbeats 2000000 in
theorem wDo_none (B : Nat) (xs : List Int) (p o n : Int) (w : World) : Calls Tryz.prog 83 #[wsl B xs, acc 0 p o n] w fun e w' => e = .returned (.int .u64 0) ∧ Below w.heap.size w w' := by
  go_enter Tryz.func83, Tryz.ntmps83
  go_wp2
  have hS := doS_of (w := w) (K := 0) (f := .func (.func 94) #[wsl B xs] #[]) (k := 0) (p := p) (o := o) (n := n) (cs := accTab (wsl B xs)) (t := 158) (Below.refl _ _) rfl
  have hB := bel_two w (.cells #[.int .i64 0, .int .i64 p, .int .u64 o, .int .u64 n] 117) (.cells (accTab (wsl B xs)) 158)
  revert hS hB
  generalize World.alloc (World.alloc w _) _ = w2
  intro hS hB
  have HS := hid hS
  clear hS
  go_region_held3 (DoS w.heap.size 0 0 p o n (.func (.func 94) #[wsl B xs] #[])) (with_reducible (first | assumption | exact doS_drew HS.out | (refine doS_below (W := ?w1) ?hf ?hb; (case hb => assumption); (case hf => assumption)))) (first | (go_at_call 94; refine (wNone _ _ _ _ _ _).mono ?_; rintro e w1 ⟨rfl, b1⟩))
  go_wp2
  go_ret
  exact ⟨rfl, hB.trans (((Below.refl _ w2).drew.trans b1).mono hB.size)⟩
set_option maxHeartbeats 2000000 in
theorem wDo_load (A B : Nat) (xs : List Int) (o n : Int) (p : Nat) (w : World) (h : IsAr w A B xs) (hp : p < xs.length) : Calls Tryz.prog 83 #[wsl B xs, acc 1 (p : Int) o n] w fun e w' => e = .returned (.int .u64 (wat xs p)) ∧ Below w.heap.size w w' := by
  go_enter Tryz.func83, Tryz.ntmps83
  go_wp2
  have hS := doS_of (w := w) (K := 1) (f := .func (.func 95) #[wsl B xs] #[]) (k := 1) (p := (p : Int)) (o := o) (n := n) (cs := accTab (wsl B xs)) (t := 158) (Below.refl _ _) rfl
  have hB := bel_two w (.cells #[.int .i64 1, .int .i64 (p : Int), .int .u64 o, .int .u64 n] 117) (.cells (accTab (wsl B xs)) 158)
  revert hS hB
  generalize World.alloc (World.alloc w _) _ = w2
  intro hS hB
  have HS := hid hS
  clear hS
  have HA := hid ((h.grown (grown_below hB none) (by simp) (by simp)).grown (row := none) (grown_below (Below.refl _ w2).drew none) (by simp) (by simp))
  go_region_held3 (DoS w.heap.size 1 1 (p : Int) o n (.func (.func 95) #[wsl B xs] #[])) (with_reducible (first | assumption | exact doS_drew HS.out | (refine doS_below (W := ?w1) ?hf ?hb; (case hb => assumption); (case hf => assumption)))) (first | (go_at_call 95; refine (wLoad A B xs _ _ _ p _ HA.out hp).mono ?_; rintro e w1 ⟨rfl, b1⟩))
  go_wp2
  go_ret
  exact ⟨rfl, hB.trans (((Below.refl _ w2).drew.trans b1).mono hB.size)⟩
set_option maxHeartbeats 2000000 in
theorem wDo_store (A B : Nat) (xs : List Int) (o n : Int) (p : Nat) (w : World) (h : IsAr w A B xs) (hp : p < xs.length) (n0 : 0 ≤ n) (n1 : n ≤ 18446744073709551615) : Calls Tryz.prog 83 #[wsl B xs, acc 2 (p : Int) o n] w fun e w' => e = .returned (.int .u64 0) ∧ IsAr w' A B (xs.set p n) ∧ w.grownBy w' (some B) := by
  go_enter Tryz.func83, Tryz.ntmps83
  go_wp2
  have hS := doS_of (w := w) (K := 2) (f := .func (.func 96) #[wsl B xs] #[]) (k := 2) (p := (p : Int)) (o := o) (n := n) (cs := accTab (wsl B xs)) (t := 158) (Below.refl _ _) rfl
  have hB := bel_two w (.cells #[.int .i64 2, .int .i64 (p : Int), .int .u64 o, .int .u64 n] 117) (.cells (accTab (wsl B xs)) 158)
  revert hS hB
  generalize World.alloc (World.alloc w _) _ = w2
  intro hS hB
  have HS := hid hS
  clear hS
  have HA := hid ((h.grown (grown_below hB none) (by simp) (by simp)).grown (row := none) (grown_below (Below.refl _ w2).drew none) (by simp) (by simp))
  have HBlt := hid h.ltB
  go_region_held3 (DoS w.heap.size 2 2 (p : Int) o n (.func (.func 96) #[wsl B xs] #[])) (with_reducible (first | assumption | exact doS_drew HS.out | (refine doS_grown (W := ?w1) ?hf ?hb HBlt.out; (case hb => assumption); (case hf => assumption)))) (first | (go_at_call 96; refine (wStore A B xs _ _ _ p _ HA.out hp n0 n1).mono ?_; rintro e w1 ⟨rfl, a1, b1⟩))
  go_wp2
  go_ret
  exact ⟨rfl, a1, grown_trans (grown_below hB _) (grown_trans (grown_below (Below.refl _ w2).drew _) b1)⟩
set_option maxHeartbeats 2000000 in
theorem wDo_swap (A B : Nat) (xs : List Int) (n : Int) (p : Nat) (w : World) (h : IsAr w A B xs) (hp : p < xs.length) (n0 : 0 ≤ n) (n1 : n ≤ 18446744073709551615) : Calls Tryz.prog 83 #[wsl B xs, acc 3 (p : Int) (wat xs p) n] w fun e w' => e = .returned (.int .u64 (wat xs p)) ∧ IsAr w' A B (xs.set p n) ∧ w.grownBy w' (some B) := by
  go_enter Tryz.func83, Tryz.ntmps83
  go_wp2
  have hS := doS_of (w := w) (K := 3) (f := .func (.func 97) #[wsl B xs] #[]) (k := 3) (p := (p : Int)) (o := (wat xs p)) (n := n) (cs := accTab (wsl B xs)) (t := 158) (Below.refl _ _) rfl
  have hB := bel_two w (.cells #[.int .i64 3, .int .i64 (p : Int), .int .u64 (wat xs p), .int .u64 n] 117) (.cells (accTab (wsl B xs)) 158)
  revert hS hB
  generalize World.alloc (World.alloc w _) _ = w2
  intro hS hB
  have HS := hid hS
  clear hS
  have HA := hid ((h.grown (grown_below hB none) (by simp) (by simp)).grown (row := none) (grown_below (Below.refl _ w2).drew none) (by simp) (by simp))
  have HBlt := hid h.ltB
  go_region_held3 (DoS w.heap.size 3 3 (p : Int) (wat xs p) n (.func (.func 97) #[wsl B xs] #[])) (with_reducible (first | assumption | exact doS_drew HS.out | (refine doS_grown (W := ?w1) ?hf ?hb HBlt.out; (case hb => assumption); (case hf => assumption)))) (first | (go_at_call 97; refine (wSwap_yes A B xs _ _ p _ HA.out hp n0 n1).mono ?_; rintro e w1 ⟨rfl, a1, b1⟩))
  go_wp2
  go_ret
  exact ⟨rfl, a1, grown_trans (grown_below hB _) (grown_trans (grown_below (Below.refl _ w2).drew _) b1)⟩
set_option maxHeartbeats 2000000 in
theorem wDo_keep (A B : Nat) (xs : List Int) (o n : Int) (p : Nat) (w : World) (h : IsAr w A B xs) (hp : p < xs.length) (ho : (wat xs p == o) = false) : Calls Tryz.prog 83 #[wsl B xs, acc 3 (p : Int) o n] w fun e w' => e = .returned (.int .u64 (wat xs p)) ∧ Below w.heap.size w w' := by
  go_enter Tryz.func83, Tryz.ntmps83
  go_wp2
  have hS := doS_of (w := w) (K := 3) (f := .func (.func 97) #[wsl B xs] #[]) (k := 3) (p := (p : Int)) (o := o) (n := n) (cs := accTab (wsl B xs)) (t := 158) (Below.refl _ _) rfl
  have hB := bel_two w (.cells #[.int .i64 3, .int .i64 (p : Int), .int .u64 o, .int .u64 n] 117) (.cells (accTab (wsl B xs)) 158)
  revert hS hB
  generalize World.alloc (World.alloc w _) _ = w2
  intro hS hB
  have HS := hid hS
  clear hS
  have HA := hid ((h.grown (grown_below hB none) (by simp) (by simp)).grown (row := none) (grown_below (Below.refl _ w2).drew none) (by simp) (by simp))
  go_region_held3 (DoS w.heap.size 3 3 (p : Int) o n (.func (.func 97) #[wsl B xs] #[])) (with_reducible (first | assumption | exact doS_drew HS.out | (refine doS_below (W := ?w1) ?hf ?hb; (case hb => assumption); (case hf => assumption)))) (first | (go_at_call 97; refine (wSwap_no A B xs _ _ _ p _ HA.out hp ho).mono ?_; rintro e w1 ⟨rfl, b1⟩))
  go_wp2
  go_ret
  exact ⟨rfl, hB.trans (((Below.refl _ w2).drew.trans b1).mono hB.size)⟩
end Go.Proofs.YtldfmlkjeniemaaGreatDoor
