/- package op: kinds: the table of kinds, each with the numbers that it names, as functions that tell where they stand. Typed by tools/gen08kinds.py. -/
import Derived.Test.YtlkhmfmocegekaaDoorBsKit
import Derived.Test.YtlkhmfmocegekaaDoorOpMathBOn
import Derived.Great.Walk
namespace Go.Proofs.YtlkhmfmocegekaaDoor
open Go.RowKit Go.Oq
/-- The function that tells where a number stands. -/
def gfn : Nat → Nat
  | 1 => 78 | 2 => 79 | 3 => 80 | 4 => 81 | 5 => 82 | 6 => 83 | _ => 84
def gV (j : Nat) : Value := .func (.func (gfn j)) #[] #[]
/-- The function that tells a kind's answer. -/
def tfn : Nat → Nat
  | 2 => 86 | 4 => 87 | 5 => 88 | 7 => 87 | 8 => 87 | _ => 85
def grwA (js : List Nat) : Array Value := (js.map gV).toArray
/-- A kind, where its two lists stand. -/
def kcell (v1 v2 : Value) (K : Nat) : Array Value := #[.string (nam K), v1, v2, .bool (opn K), .int .i64 (fld K), .func (.func (tfn K)) #[] #[]]
/-- Behind how many blocks a kind's lists stand. -/
def nb : Nat → Nat
  | 1 => 1 | 2 => 2 | 3 => 3 | 4 => 4 | 5 => 5 | 6 => 6 | 7 => 8 | 8 => 10 | 9 => 11 | _ => 12
def sb : Nat → Nat
  | 6 => 7 | _ => 9
def slN (B : Nat) (b : Nat) (js : List Nat) : Value := if js = [] then .slice none 0 0 else .slice (some ⟨B + b, 0, none⟩) js.length js.length
/-- A kind's cells, where the table was made ahead of block B + 1. -/
def kc (B K : Nat) : Array Value := kcell (slN B (nb K) (nums K)) (slN B (sb K) (scas K)) K
/-- No kind. -/
def kz : Array Value := #[.string ⟨#[]⟩, .slice none 0 0, .slice none 0 0, .bool false, .int .i64 0, .nilFunc]
def zarr : Array Value := kz ++ kz ++ kz ++ kz ++ kz ++ kz ++ kz ++ kz ++ kz ++ kz ++ kz ++ kz
def karr (B : Nat) : Array Value := kz ++ kc B 1 ++ kc B 2 ++ kc B 3 ++ kc B 4 ++ kc B 5 ++ kc B 6 ++ kc B 7 ++ kc B 8 ++ kc B 9 ++ kc B 10 ++ kc B 11
/-- The lists, in the order in which they are made. -/
def krow : Nat → Obj
  | 0 => .cells (grwA [1, 5]) 152
  | 1 => .cells (grwA [1, 4, 2]) 152
  | 2 => .cells (grwA [1, 4, 2]) 152
  | 3 => .cells (grwA [1, 4, 2, 3]) 152
  | 4 => .cells (grwA [1, 4]) 152
  | 5 => .cells (grwA [1, 4]) 152
  | 6 => .cells (grwA [6]) 155
  | 7 => .cells (grwA [1, 4]) 152
  | 8 => .cells (grwA [6, 7]) 155
  | 9 => .cells (grwA [1, 2]) 152
  | 10 => .cells (grwA [1, 2]) 152
  | 11 => .cells (grwA [1]) 152
  | _ => .cells #[] 152
def kW (w : World) : Nat → World
  | 0 => w.alloc (.cells zarr 148)
  | m + 1 => (kW w m).alloc (krow m)
theorem kW_size (w : World) : ∀ m, (kW w m).heap.size = w.heap.size + (m + 1)
  | 0 => by rw [kW, size_alloc]
  | m + 1 => by rw [kW, size_alloc, kW_size w m]; rfl
theorem kW_below (w : World) : ∀ m, Below w.heap.size w (kW w m)
  | 0 => below_alloc0 w _
  | m + 1 => (kW_below w m).alloc (by rw [kW_size]; omega) _
theorem kW_row (w : World) (i : Nat) : ∀ m, i < m → (kW w m).heap[w.heap.size + (i + 1)]? = some (krow i)
  | 0, h => by omega
  | m + 1, h => by
    by_cases hm : i = m
    · subst hm
      rw [← kW_size w i]
      exact heap_alloc_last _ _
    · rw [kW, Below.heap_alloc _ _ _ (by rw [kW_size]; omega)]
      exact kW_row w i m (by omega)
theorem kW_arr (w : World) : ∀ m, (kW w m).heap[w.heap.size]? = some (.cells zarr 148)
  | 0 => heap_alloc_last _ _
  | m + 1 => by
    rw [kW, Below.heap_alloc _ _ _ (by rw [kW_size]; omega)]
    exact kW_arr w m
theorem arr_size : (Tryd.prog.info? 148).map (·.size) = some 72 := by kernel_rfl
theorem karr_one (B : Nat) : (karr B).all (·.oneCell') = true := by kernel_rfl
theorem unhid {p : Prop} (h : Hid p) : p := h.out
set_option maxHeartbeats 4000000 in
set_option maxRecDepth 100000 in
theorem kinds_any (w : World) :
    Calls Tryd.prog 75 #[] w fun e w' => e = .returned (.agg (karr w.heap.size)) ∧ w' = (kW w 12).setRow w.heap.size (karr w.heap.size) := by
  go_enter Tryd.func75, Tryd.ntmps75
  go_wp2_with (refine Great.wpList_buildSliceTo rfl 124 152 2 _ rfl (w.heap.size + 1) (kW_size w 0) (some 10) rfl Tryd.underlying124 (grwA [1, 5]) (by kernel_rfl) ?_; refine unhid (p := wpList _ _ _ _ _ (kW w 1)) ?_)
  refine hid ?_
  go_wp2_with (refine wpList_buildTo rfl 128 _ rfl (some 11) rfl (kc w.heap.size 1) (by kernel_rfl) ?_; refine unhid ?_)
  refine hid ?_
  go_wp2_with (refine Great.wpList_buildSliceTo rfl 124 152 3 _ rfl (w.heap.size + 2) (kW_size w 1) (some 15) rfl Tryd.underlying124 (grwA [1, 4, 2]) (by kernel_rfl) ?_; refine unhid (p := wpList _ _ _ _ _ (kW w 2)) ?_)
  refine hid ?_
  go_wp2_with (refine wpList_buildTo rfl 128 _ rfl (some 16) rfl (kc w.heap.size 2) (by kernel_rfl) ?_; refine unhid ?_)
  refine hid ?_
  go_wp2_with (refine Great.wpList_buildSliceTo rfl 124 152 3 _ rfl (w.heap.size + 3) (kW_size w 2) (some 20) rfl Tryd.underlying124 (grwA [1, 4, 2]) (by kernel_rfl) ?_; refine unhid (p := wpList _ _ _ _ _ (kW w 3)) ?_)
  refine hid ?_
  go_wp2_with (refine wpList_buildTo rfl 128 _ rfl (some 21) rfl (kc w.heap.size 3) (by kernel_rfl) ?_; refine unhid ?_)
  refine hid ?_
  go_wp2_with (refine Great.wpList_buildSliceTo rfl 124 152 4 _ rfl (w.heap.size + 4) (kW_size w 3) (some 26) rfl Tryd.underlying124 (grwA [1, 4, 2, 3]) (by kernel_rfl) ?_; refine unhid (p := wpList _ _ _ _ _ (kW w 4)) ?_)
  refine hid ?_
  go_wp2_with (refine wpList_buildTo rfl 128 _ rfl (some 27) rfl (kc w.heap.size 4) (by kernel_rfl) ?_; refine unhid ?_)
  refine hid ?_
  go_wp2_with (refine Great.wpList_buildSliceTo rfl 124 152 2 _ rfl (w.heap.size + 5) (kW_size w 4) (some 30) rfl Tryd.underlying124 (grwA [1, 4]) (by kernel_rfl) ?_; refine unhid (p := wpList _ _ _ _ _ (kW w 5)) ?_)
  refine hid ?_
  go_wp2_with (refine wpList_buildTo rfl 128 _ rfl (some 31) rfl (kc w.heap.size 5) (by kernel_rfl) ?_; refine unhid ?_)
  refine hid ?_
  go_wp2_with (refine Great.wpList_buildSliceTo rfl 124 152 2 _ rfl (w.heap.size + 6) (kW_size w 5) (some 34) rfl Tryd.underlying124 (grwA [1, 4]) (by kernel_rfl) ?_; refine unhid (p := wpList _ _ _ _ _ (kW w 6)) ?_)
  refine hid ?_
  go_wp2_with (refine Great.wpList_buildSliceTo rfl 125 155 1 _ rfl (w.heap.size + 7) (kW_size w 6) (some 36) rfl Tryd.underlying125 (grwA [6]) (by kernel_rfl) ?_; refine unhid (p := wpList _ _ _ _ _ (kW w 7)) ?_)
  refine hid ?_
  go_wp2_with (refine wpList_buildTo rfl 128 _ rfl (some 37) rfl (kc w.heap.size 6) (by kernel_rfl) ?_; refine unhid ?_)
  refine hid ?_
  go_wp2_with (refine Great.wpList_buildSliceTo rfl 124 152 2 _ rfl (w.heap.size + 8) (kW_size w 7) (some 40) rfl Tryd.underlying124 (grwA [1, 4]) (by kernel_rfl) ?_; refine unhid (p := wpList _ _ _ _ _ (kW w 8)) ?_)
  refine hid ?_
  go_wp2_with (refine Great.wpList_buildSliceTo rfl 125 155 2 _ rfl (w.heap.size + 9) (kW_size w 8) (some 43) rfl Tryd.underlying125 (grwA [6, 7]) (by kernel_rfl) ?_; refine unhid (p := wpList _ _ _ _ _ (kW w 9)) ?_)
  refine hid ?_
  go_wp2_with (refine wpList_buildTo rfl 128 _ rfl (some 44) rfl (kc w.heap.size 7) (by kernel_rfl) ?_; refine unhid ?_)
  refine hid ?_
  go_wp2_with (refine Great.wpList_buildSliceTo rfl 124 152 2 _ rfl (w.heap.size + 10) (kW_size w 9) (some 47) rfl Tryd.underlying124 (grwA [1, 2]) (by kernel_rfl) ?_; refine unhid (p := wpList _ _ _ _ _ (kW w 10)) ?_)
  refine hid ?_
  go_wp2_with (refine wpList_buildTo rfl 128 _ rfl (some 48) rfl (kc w.heap.size 8) (by kernel_rfl) ?_; refine unhid ?_)
  refine hid ?_
  go_wp2_with (refine Great.wpList_buildSliceTo rfl 124 152 2 _ rfl (w.heap.size + 11) (kW_size w 10) (some 51) rfl Tryd.underlying124 (grwA [1, 2]) (by kernel_rfl) ?_; refine unhid (p := wpList _ _ _ _ _ (kW w 11)) ?_)
  refine hid ?_
  go_wp2_with (refine wpList_buildTo rfl 128 _ rfl (some 52) rfl (kc w.heap.size 9) (by kernel_rfl) ?_; refine unhid ?_)
  refine hid ?_
  go_wp2_with (refine Great.wpList_buildSliceTo rfl 124 152 1 _ rfl (w.heap.size + 12) (kW_size w 11) (some 54) rfl Tryd.underlying124 (grwA [1]) (by kernel_rfl) ?_; refine unhid (p := wpList _ _ _ _ _ (kW w 12)) ?_)
  refine hid ?_
  go_wp2_with (refine wpList_buildTo rfl 128 _ rfl (some 55) rfl (kc w.heap.size 10) (by kernel_rfl) ?_; refine unhid ?_)
  refine hid ?_
  go_wp2_with (refine wpList_buildTo rfl 128 _ rfl (some 56) rfl (kc w.heap.size 11) (by kernel_rfl) ?_; refine unhid ?_)
  refine hid ?_
  go_wp2_with (refine wpList_buildTo rfl 148 _ rfl (some 57) rfl (karr w.heap.size) (by kernel_rfl) ?_; refine unhid ?_)
  refine hid ?_
  go_wp2_with (refine wpList_store_rowTo rfl 148 _ _ rfl rfl w.heap.size (karr w.heap.size) rfl rfl 148 zarr (kW_arr w 12) (arr_size.trans (by kernel_rfl)) (by kernel_rfl) (karr_one _) ?_)
  refine bodyPost_ret (v := .agg (karr w.heap.size)) (results_cell_row Tryd.results75 _ _ w.heap.size 148 (karr w.heap.size) (0, 0) _ rfl (setRow_heap _ _ _ _ _ _ (kW_arr w 12)) Tryd.underlying148 rfl (arr_size.trans (by kernel_rfl))) rfl ⟨rfl, rfl⟩
end Go.Proofs.YtlkhmfmocegekaaDoor
/- Plain facts of package pack: bounds, frontiers, claims; nothing of the program's text. -/
namespace Go.Pk
/-- Are all numbers from a to b? -/
def win (a b : Int) (zs : List Int) : Bool := zs.all fun n => decide (a ≤ n) && decide (n ≤ b)
theorem win_one (a b x : Int) : win a b [x] = decide (a ≤ x ∧ x ≤ b) := by
  simp [win]
theorem win_three (a b x y z : Int) : win a b [x, y, z] = decide ((a ≤ x ∧ x ≤ b) ∧ (a ≤ y ∧ y ≤ b) ∧ (a ≤ z ∧ z ≤ b)) := by
  simp [win]
theorem win_out (a b : Int) (zs : List Int) (k : Nat) (hk : k < zs.length) (h : ¬ (a ≤ zs.getD k 0 ∧ zs.getD k 0 ≤ b)) : win a b zs = false := by
  unfold win
  rw [List.all_eq_false]
  refine ⟨zs[k], List.getElem_mem hk, ?_⟩
  simp only [List.getD_eq_getElem?_getD, List.getElem?_eq_getElem hk, Option.getD_some] at h
  simp
  omega
theorem win_all (a b : Int) (zs : List Int) (h : ∀ k, k < zs.length → a ≤ zs.getD k 0 ∧ zs.getD k 0 ≤ b) : win a b zs = true := by
  unfold win
  rw [List.all_eq_true]
  intro x hx
  obtain ⟨k, hk, rfl⟩ := List.mem_iff_getElem.1 hx
  have := h k hk
  simp only [List.getD_eq_getElem?_getD, List.getElem?_eq_getElem hk, Option.getD_some] at this
  simp
  omega
/-- May a frontier be? -/
def frOk (s l h o : Int) : Bool := decide ((s = 0 ∨ s = 1) ∧ 0 ≤ l ∧ l ≤ 4096 ∧ 0 ≤ h ∧ h ≤ 4096 ∧ 0 ≤ o ∧ o ≤ 4096 ∧ l + o ≤ h)
theorem frOk_yes {s l h o : Int} (e : frOk s l h o = true) : (s = 0 ∨ s = 1) ∧ 0 ≤ l ∧ l ≤ 4096 ∧ 0 ≤ h ∧ h ≤ 4096 ∧ 0 ≤ o ∧ o ≤ 4096 ∧ l + o ≤ h := of_decide_eq_true e
theorem frOk_mk {s l h o : Int} (e : (s = 0 ∨ s = 1) ∧ 0 ≤ l ∧ l ≤ 4096 ∧ 0 ≤ h ∧ h ≤ 4096 ∧ 0 ≤ o ∧ o ≤ 4096 ∧ l + o ≤ h) : frOk s l h o = true := decide_eq_true e
theorem frOk_no {s l h o : Int} (e : ¬ ((s = 0 ∨ s = 1) ∧ 0 ≤ l ∧ l ≤ 4096 ∧ 0 ≤ h ∧ h ≤ 4096 ∧ 0 ≤ o ∧ o ≤ 4096 ∧ l + o ≤ h)) : frOk s l h o = false := decide_eq_false e
theorem frOk_not {s l h o : Int} (e : frOk s l h o = false) : ¬ ((s = 0 ∨ s = 1) ∧ 0 ≤ l ∧ l ≤ 4096 ∧ 0 ≤ h ∧ h ≤ 4096 ∧ 0 ≤ o ∧ o ≤ 4096 ∧ l + o ≤ h) := of_decide_eq_false e
/-- May a request be? -/
def rqOk (e p : Int) : Bool := decide (0 ≤ e ∧ e ≤ 1099511627775 ∧ 0 ≤ p ∧ p ≤ 6)
theorem rqOk_yes {e p : Int} (h : rqOk e p = true) : 0 ≤ e ∧ e ≤ 1099511627775 ∧ 0 ≤ p ∧ p ≤ 6 := of_decide_eq_true h
theorem rqOk_mk {e p : Int} (h : 0 ≤ e ∧ e ≤ 1099511627775 ∧ 0 ≤ p ∧ p ≤ 6) : rqOk e p = true := decide_eq_true h
theorem rqOk_no {e p : Int} (h : ¬ (0 ≤ e ∧ e ≤ 1099511627775 ∧ 0 ≤ p ∧ p ≤ 6)) : rqOk e p = false := decide_eq_false h
theorem rqOk_not {e p : Int} (h : rqOk e p = false) : ¬ (0 ≤ e ∧ e ≤ 1099511627775 ∧ 0 ≤ p ∧ p ≤ 6) := of_decide_eq_false h
end Go.Pk
/- package op: within at its three types. -/
namespace Go.Proofs.YtlkhmfmocegekaaDoor
open Go.RowKit
set_option maxHeartbeats 1000000 in
theorem owithin_int (a b : Int) (g off len cap : Nat) (zs : List Int) (w : World) (hz : Hid (zs.length = len)) (hlen : len ≤ 100)
    (hc : Hid (∀ i, i < len → w.cell? ⟨g, off + i, none⟩ = some (.int .i64 (zs.getD i 0)))) :
    Calls Tryd.prog 52 #[.int .i64 a, .int .i64 b, .slice (some ⟨g, off, none⟩) len cap] w fun e w' => e = .returned (.bool (Pk.win a b zs)) ∧ w' = w := by
  go_enter Tryd.func52, Tryd.ntmps52
  go_wp2
  go_loop [11] (fun i => ∃ k : Nat, k ≤ len ∧ i = .int .i64 k ∧ Hid (∀ j, j < k → a ≤ zs.getD j 0 ∧ zs.getD j 0 ≤ b)) (fun i => len - (intOf i).toNat)
  case atStart => exact ⟨0, by omega, rfl, fun j hj => by omega⟩
  case round =>
    obtain ⟨k, hk, rfl, hN⟩ := hrel
    by_cases hlt : k < len
    · have hcell := hc.out k hlt
      have hW := hid (fun h => Pk.win_out a b zs k (by rw [hz.out]; exact hlt) h)
      have hN2 := hid (fun (h : a ≤ zs.getD k 0 ∧ zs.getD k 0 ≤ b) j (hj : j < k + 1) => show a ≤ zs.getD j 0 ∧ zs.getD j 0 ≤ b from by
        rcases Nat.lt_succ_iff_lt_or_eq.1 hj with h1 | h1
        · exact hN.out j h1
        · rw [h1]; exact h)
      clear hN
      generalize zs.getD k 0 = x at *
      by_cases h1 : x < a
      · go_wp2
        go_ret
        exact ⟨ret_bool (hW.out (by omega)).symm, rfl⟩
      · have h1' : a ≤ x := by omega
        clear h1
        by_cases h2 : b < x
        · go_wp2
          go_ret
          exact ⟨ret_bool (hW.out (by omega)).symm, rfl⟩
        · have h2' : x ≤ b := by omega
          clear h2
          go_wp2
          go_round
          case rel => exact ⟨k + 1, by omega, by go_num, hN2.out ⟨h1', h2'⟩⟩
          case measure => simp [intOf]; omega
    · have hall := hid (Pk.win_all a b zs (fun j hj => hN.out j (by have := hz.out; omega)))
      go_wp2
      go_ret
      exact ⟨ret_bool hall.out.symm, rfl⟩
set_option maxHeartbeats 1000000 in
theorem owithin_i64 (a b : Int) (g off len cap : Nat) (zs : List Int) (w : World) (hz : Hid (zs.length = len)) (hlen : len ≤ 100)
    (hc : Hid (∀ i, i < len → w.cell? ⟨g, off + i, none⟩ = some (.int .i64 (zs.getD i 0)))) :
    Calls Tryd.prog 53 #[.int .i64 a, .int .i64 b, .slice (some ⟨g, off, none⟩) len cap] w fun e w' => e = .returned (.bool (Pk.win a b zs)) ∧ w' = w := by
  go_enter Tryd.func53, Tryd.ntmps53
  go_wp2
  go_loop [11] (fun i => ∃ k : Nat, k ≤ len ∧ i = .int .i64 k ∧ Hid (∀ j, j < k → a ≤ zs.getD j 0 ∧ zs.getD j 0 ≤ b)) (fun i => len - (intOf i).toNat)
  case atStart => exact ⟨0, by omega, rfl, fun j hj => by omega⟩
  case round =>
    obtain ⟨k, hk, rfl, hN⟩ := hrel
    by_cases hlt : k < len
    · have hcell := hc.out k hlt
      have hW := hid (fun h => Pk.win_out a b zs k (by rw [hz.out]; exact hlt) h)
      have hN2 := hid (fun (h : a ≤ zs.getD k 0 ∧ zs.getD k 0 ≤ b) j (hj : j < k + 1) => show a ≤ zs.getD j 0 ∧ zs.getD j 0 ≤ b from by
        rcases Nat.lt_succ_iff_lt_or_eq.1 hj with h1 | h1
        · exact hN.out j h1
        · rw [h1]; exact h)
      clear hN
      generalize zs.getD k 0 = x at *
      by_cases h1 : x < a
      · go_wp2
        go_ret
        exact ⟨ret_bool (hW.out (by omega)).symm, rfl⟩
      · have h1' : a ≤ x := by omega
        clear h1
        by_cases h2 : b < x
        · go_wp2
          go_ret
          exact ⟨ret_bool (hW.out (by omega)).symm, rfl⟩
        · have h2' : x ≤ b := by omega
          clear h2
          go_wp2
          go_round
          case rel => exact ⟨k + 1, by omega, by go_num, hN2.out ⟨h1', h2'⟩⟩
          case measure => simp [intOf]; omega
    · have hall := hid (Pk.win_all a b zs (fun j hj => hN.out j (by have := hz.out; omega)))
      go_wp2
      go_ret
      exact ⟨ret_bool hall.out.symm, rfl⟩
set_option maxHeartbeats 1000000 in
theorem owithin_k (a b : Int) (g off len cap : Nat) (zs : List Int) (w : World) (hz : Hid (zs.length = len)) (hlen : len ≤ 100)
    (hc : Hid (∀ i, i < len → w.cell? ⟨g, off + i, none⟩ = some (.int .i64 (zs.getD i 0)))) :
    Calls Tryd.prog 74 #[.int .i64 a, .int .i64 b, .slice (some ⟨g, off, none⟩) len cap] w fun e w' => e = .returned (.bool (Pk.win a b zs)) ∧ w' = w := by
  go_enter Tryd.func74, Tryd.ntmps74
  go_wp2
  go_loop [11] (fun i => ∃ k : Nat, k ≤ len ∧ i = .int .i64 k ∧ Hid (∀ j, j < k → a ≤ zs.getD j 0 ∧ zs.getD j 0 ≤ b)) (fun i => len - (intOf i).toNat)
  case atStart => exact ⟨0, by omega, rfl, fun j hj => by omega⟩
  case round =>
    obtain ⟨k, hk, rfl, hN⟩ := hrel
    by_cases hlt : k < len
    · have hcell := hc.out k hlt
      have hW := hid (fun h => Pk.win_out a b zs k (by rw [hz.out]; exact hlt) h)
      have hN2 := hid (fun (h : a ≤ zs.getD k 0 ∧ zs.getD k 0 ≤ b) j (hj : j < k + 1) => show a ≤ zs.getD j 0 ∧ zs.getD j 0 ≤ b from by
        rcases Nat.lt_succ_iff_lt_or_eq.1 hj with h1 | h1
        · exact hN.out j h1
        · rw [h1]; exact h)
      clear hN
      generalize zs.getD k 0 = x at *
      by_cases h1 : x < a
      · go_wp2
        go_ret
        exact ⟨ret_bool (hW.out (by omega)).symm, rfl⟩
      · have h1' : a ≤ x := by omega
        clear h1
        by_cases h2 : b < x
        · go_wp2
          go_ret
          exact ⟨ret_bool (hW.out (by omega)).symm, rfl⟩
        · have h2' : x ≤ b := by omega
          clear h2
          go_wp2
          go_round
          case rel => exact ⟨k + 1, by omega, by go_num, hN2.out ⟨h1', h2'⟩⟩
          case measure => simp [intOf]; omega
    · have hall := hid (Pk.win_all a b zs (fun j hj => hN.out j (by have := hz.out; omega)))
      go_wp2
      go_ret
      exact ⟨ret_bool hall.out.symm, rfl⟩
end Go.Proofs.YtlkhmfmocegekaaDoor
