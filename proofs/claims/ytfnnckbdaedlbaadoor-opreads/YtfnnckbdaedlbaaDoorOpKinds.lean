/- package op: kinds: the table of kinds, each with the numbers that it names, as functions that tell where they stand. Typed by tools/gen08kinds.py. -/
import Derived.Test.YtfnnckbdaedlbaaDoorBsKit
import Derived.Test.YtfnnckbdaedlbaaDoorOpMathC
import Derived.Great.Walk
namespace Go.Proofs.YtfnnckbdaedlbaaDoor
open Go.RowKit Go.Oq
/-- The function that tells where a number stands. -/
def gfn : Nat → Nat
  | 1 => 61 | 2 => 62 | 3 => 63 | 4 => 64 | 5 => 65 | 6 => 66 | _ => 67
def gV (j : Nat) : Value := .func (.func (gfn j)) #[] #[]
/-- The function that tells a kind's answer. -/
def tfn : Nat → Nat
  | 2 => 69 | 4 => 70 | 5 => 71 | 7 => 70 | 8 => 70 | _ => 68
def grwA (js : List Nat) : Array Value := (js.map gV).toArray
/-- A kind, where its two lists stand. -/
def kcell (v1 v2 : Value) (K : Nat) : Array Value := #[.string (nam K), v1, v2, .bool (opn K), .int .i64 (fld K), .func (.func (tfn K)) #[] #[]]
/-- Behind how many blocks a kind's lists stand. -/
def nb : Nat → Nat
  | 1 => 1 | 2 => 2 | 3 => 3 | 4 => 4 | 5 => 5 | 6 => 6 | 7 => 8 | 8 => 10 | 9 => 11 | _ => 12
def sb : Nat → Nat
  | 6 => 7 | _ => 9
def slN (B : Nat) (b : Nat) (js : List Nat) : Value := if js = [] then .slice none 0 0 else .slice (some ⟨B + b, 0, none⟩) js.length js.length
/-- A kind's cells, where the table was made ahead of block B + 1. -/
def kc (B K : Nat) : Array Value := kcell (slN B (nb K) (nums K)) (slN B (sb K) (scas K)) K
/-- No kind. -/
def kz : Array Value := #[.string ⟨#[]⟩, .slice none 0 0, .slice none 0 0, .bool false, .int .i64 0, .nilFunc]
def zarr : Array Value := kz ++ kz ++ kz ++ kz ++ kz ++ kz ++ kz ++ kz ++ kz ++ kz ++ kz ++ kz
def karr (B : Nat) : Array Value := kz ++ kc B 1 ++ kc B 2 ++ kc B 3 ++ kc B 4 ++ kc B 5 ++ kc B 6 ++ kc B 7 ++ kc B 8 ++ kc B 9 ++ kc B 10 ++ kc B 11
/-- The lists, in the order in which they are made. -/
def krow : Nat → Obj
  | 0 => .cells (grwA [1, 5]) 79
  | 1 => .cells (grwA [1, 4, 2]) 79
  | 2 => .cells (grwA [1, 4, 2]) 79
  | 3 => .cells (grwA [1, 4, 2, 3]) 79
  | 4 => .cells (grwA [1, 4]) 79
  | 5 => .cells (grwA [1, 4]) 79
  | 6 => .cells (grwA [6]) 82
  | 7 => .cells (grwA [1, 4]) 79
  | 8 => .cells (grwA [6, 7]) 82
  | 9 => .cells (grwA [1, 2]) 79
  | 10 => .cells (grwA [1, 2]) 79
  | 11 => .cells (grwA [1]) 79
  | _ => .cells #[] 79
def kW (w : World) : Nat → World
  | 0 => w.alloc (.cells zarr 96)
  | m + 1 => (kW w m).alloc (krow m)
theorem kW_size (w : World) : ∀ m, (kW w m).heap.size = w.heap.size + (m + 1)
  | 0 => by rw [kW, size_alloc]
  | m + 1 => by rw [kW, size_alloc, kW_size w m]; rfl
theorem kW_below (w : World) : ∀ m, Below w.heap.size w (kW w m)
  | 0 => below_alloc0 w _
  | m + 1 => (kW_below w m).alloc (by rw [kW_size]; omega) _
theorem kW_row (w : World) (i : Nat) : ∀ m, i < m → (kW w m).heap[w.heap.size + (i + 1)]? = some (krow i)
  | 0, h => by omega
  | m + 1, h => by
    by_cases hm : i = m
    · subst hm
      rw [← kW_size w i]
      exact heap_alloc_last _ _
    · rw [kW, Below.heap_alloc _ _ _ (by rw [kW_size]; omega)]
      exact kW_row w i m (by omega)
theorem kW_arr (w : World) : ∀ m, (kW w m).heap[w.heap.size]? = some (.cells zarr 96)
  | 0 => heap_alloc_last _ _
  | m + 1 => by
    rw [kW, Below.heap_alloc _ _ _ (by rw [kW_size]; omega)]
    exact kW_arr w m
theorem arr_size : (Tryd.prog.info? 96).map (·.size) = some 72 := by kernel_rfl
theorem karr_one (B : Nat) : (karr B).all (·.oneCell') = true := by kernel_rfl
theorem unhid {p : Prop} (h : Hid p) : p := h.out
set_option maxHeartbeats 4000000 in
set_option maxRecDepth 100000 in
theorem kinds_any (w : World) :
    Calls Tryd.prog 48 #[] w fun e w' => e = .returned (.agg (karr w.heap.size)) ∧ w' = (kW w 12).setRow w.heap.size (karr w.heap.size) := by
  go_enter Tryd.func48, Tryd.ntmps48
  go_wp2_with (refine Great.wpList_buildSliceTo rfl 59 79 2 _ rfl (w.heap.size + 1) (kW_size w 0) (some 10) rfl Tryd.underlying59 (grwA [1, 5]) (by kernel_rfl) ?_; refine unhid (p := wpList _ _ _ _ _ (kW w 1)) ?_)
  refine hid ?_
  go_wp2_with (refine wpList_buildTo rfl 63 _ rfl (some 11) rfl (kc w.heap.size 1) (by kernel_rfl) ?_; refine unhid ?_)
  refine hid ?_
  go_wp2_with (refine Great.wpList_buildSliceTo rfl 59 79 3 _ rfl (w.heap.size + 2) (kW_size w 1) (some 15) rfl Tryd.underlying59 (grwA [1, 4, 2]) (by kernel_rfl) ?_; refine unhid (p := wpList _ _ _ _ _ (kW w 2)) ?_)
  refine hid ?_
  go_wp2_with (refine wpList_buildTo rfl 63 _ rfl (some 16) rfl (kc w.heap.size 2) (by kernel_rfl) ?_; refine unhid ?_)
  refine hid ?_
  go_wp2_with (refine Great.wpList_buildSliceTo rfl 59 79 3 _ rfl (w.heap.size + 3) (kW_size w 2) (some 20) rfl Tryd.underlying59 (grwA [1, 4, 2]) (by kernel_rfl) ?_; refine unhid (p := wpList _ _ _ _ _ (kW w 3)) ?_)
  refine hid ?_
  go_wp2_with (refine wpList_buildTo rfl 63 _ rfl (some 21) rfl (kc w.heap.size 3) (by kernel_rfl) ?_; refine unhid ?_)
  refine hid ?_
  go_wp2_with (refine Great.wpList_buildSliceTo rfl 59 79 4 _ rfl (w.heap.size + 4) (kW_size w 3) (some 26) rfl Tryd.underlying59 (grwA [1, 4, 2, 3]) (by kernel_rfl) ?_; refine unhid (p := wpList _ _ _ _ _ (kW w 4)) ?_)
  refine hid ?_
  go_wp2_with (refine wpList_buildTo rfl 63 _ rfl (some 27) rfl (kc w.heap.size 4) (by kernel_rfl) ?_; refine unhid ?_)
  refine hid ?_
  go_wp2_with (refine Great.wpList_buildSliceTo rfl 59 79 2 _ rfl (w.heap.size + 5) (kW_size w 4) (some 30) rfl Tryd.underlying59 (grwA [1, 4]) (by kernel_rfl) ?_; refine unhid (p := wpList _ _ _ _ _ (kW w 5)) ?_)
  refine hid ?_
  go_wp2_with (refine wpList_buildTo rfl 63 _ rfl (some 31) rfl (kc w.heap.size 5) (by kernel_rfl) ?_; refine unhid ?_)
  refine hid ?_
  go_wp2_with (refine Great.wpList_buildSliceTo rfl 59 79 2 _ rfl (w.heap.size + 6) (kW_size w 5) (some 34) rfl Tryd.underlying59 (grwA [1, 4]) (by kernel_rfl) ?_; refine unhid (p := wpList _ _ _ _ _ (kW w 6)) ?_)
  refine hid ?_
  go_wp2_with (refine Great.wpList_buildSliceTo rfl 60 82 1 _ rfl (w.heap.size + 7) (kW_size w 6) (some 36) rfl Tryd.underlying60 (grwA [6]) (by kernel_rfl) ?_; refine unhid (p := wpList _ _ _ _ _ (kW w 7)) ?_)
  refine hid ?_
  go_wp2_with (refine wpList_buildTo rfl 63 _ rfl (some 37) rfl (kc w.heap.size 6) (by kernel_rfl) ?_; refine unhid ?_)
  refine hid ?_
  go_wp2_with (refine Great.wpList_buildSliceTo rfl 59 79 2 _ rfl (w.heap.size + 8) (kW_size w 7) (some 40) rfl Tryd.underlying59 (grwA [1, 4]) (by kernel_rfl) ?_; refine unhid (p := wpList _ _ _ _ _ (kW w 8)) ?_)
  refine hid ?_
  go_wp2_with (refine Great.wpList_buildSliceTo rfl 60 82 2 _ rfl (w.heap.size + 9) (kW_size w 8) (some 43) rfl Tryd.underlying60 (grwA [6, 7]) (by kernel_rfl) ?_; refine unhid (p := wpList _ _ _ _ _ (kW w 9)) ?_)
  refine hid ?_
  go_wp2_with (refine wpList_buildTo rfl 63 _ rfl (some 44) rfl (kc w.heap.size 7) (by kernel_rfl) ?_; refine unhid ?_)
  refine hid ?_
  go_wp2_with (refine Great.wpList_buildSliceTo rfl 59 79 2 _ rfl (w.heap.size + 10) (kW_size w 9) (some 47) rfl Tryd.underlying59 (grwA [1, 2]) (by kernel_rfl) ?_; refine unhid (p := wpList _ _ _ _ _ (kW w 10)) ?_)
  refine hid ?_
  go_wp2_with (refine wpList_buildTo rfl 63 _ rfl (some 48) rfl (kc w.heap.size 8) (by kernel_rfl) ?_; refine unhid ?_)
  refine hid ?_
  go_wp2_with (refine Great.wpList_buildSliceTo rfl 59 79 2 _ rfl (w.heap.size + 11) (kW_size w 10) (some 51) rfl Tryd.underlying59 (grwA [1, 2]) (by kernel_rfl) ?_; refine unhid (p := wpList _ _ _ _ _ (kW w 11)) ?_)
  refine hid ?_
  go_wp2_with (refine wpList_buildTo rfl 63 _ rfl (some 52) rfl (kc w.heap.size 9) (by kernel_rfl) ?_; refine unhid ?_)
  refine hid ?_
  go_wp2_with (refine Great.wpList_buildSliceTo rfl 59 79 1 _ rfl (w.heap.size + 12) (kW_size w 11) (some 54) rfl Tryd.underlying59 (grwA [1]) (by kernel_rfl) ?_; refine unhid (p := wpList _ _ _ _ _ (kW w 12)) ?_)
  refine hid ?_
  go_wp2_with (refine wpList_buildTo rfl 63 _ rfl (some 55) rfl (kc w.heap.size 10) (by kernel_rfl) ?_; refine unhid ?_)
  refine hid ?_
  go_wp2_with (refine wpList_buildTo rfl 63 _ rfl (some 56) rfl (kc w.heap.size 11) (by kernel_rfl) ?_; refine unhid ?_)
  refine hid ?_
  go_wp2_with (refine wpList_buildTo rfl 96 _ rfl (some 57) rfl (karr w.heap.size) (by kernel_rfl) ?_; refine unhid ?_)
  refine hid ?_
  go_wp2_with (refine wpList_store_rowTo rfl 96 _ _ rfl rfl w.heap.size (karr w.heap.size) rfl rfl 96 zarr (kW_arr w 12) (arr_size.trans (by kernel_rfl)) (by kernel_rfl) (karr_one _) ?_)
  refine bodyPost_ret (v := .agg (karr w.heap.size)) (results_cell_row Tryd.results48 _ _ w.heap.size 96 (karr w.heap.size) (0, 0) _ rfl (setRow_heap _ _ _ _ _ _ (kW_arr w 12)) Tryd.underlying96 rfl (arr_size.trans (by kernel_rfl))) rfl ⟨rfl, rfl⟩
end Go.Proofs.YtfnnckbdaedlbaaDoor
