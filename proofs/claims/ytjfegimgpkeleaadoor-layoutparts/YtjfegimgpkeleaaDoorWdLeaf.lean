/- The leaves of package word: contracts of bits' methods and of the functions of kinds. -/
import Derived.Test.YtjfegimgpkeleaaDoorProg
import Derived.Test.YtjfegimgpkeleaaDoorWdMath
import Derived.Test.YtjfegimgpkeleaaDoorBsKit
import Derived.WalkKit
import Derived.WalkLawsBesides
import Derived.WalkSpells
import Derived.BigQuiet
import Derived.Outline
import Derived.Deep.WholeRow
import Derived.Laws.EntriesVeiled
namespace Go.Proofs.YtjfegimgpkeleaaDoor
open Go.RowKit
theorem seal_at (b p : Int) (w : World) (h0 : 0 ≤ b) (h1 : b ≤ 18446744073709551615) (hp : b - b % 2 + 1 = p) :
    Calls Tryd.prog 79 #[.int .u64 b] w fun e w' => e = .returned (.int .u64 p) ∧ w' = w := by
  have H : Hid (bits .or .u64 b 1 = p) := (Wd.or_one b h0 h1).trans hp
  clear hp
  go_enter Tryd.func79, Tryd.ntmps79
  go_wp2
  go_ret
  exact ⟨ret_int H.out, rfl⟩
theorem number_at (b r : Int) (w : World) (h0 : 0 ≤ b) (h1 : b ≤ 18446744073709551615) (hr : b / 8 = r) :
    Calls Tryd.prog 97 #[.int .u64 b] w fun e w' => e = .returned (.int .i64 r) ∧ w' = w := by
  have H : Hid (b / 8 = r) := hr
  clear hr
  go_enter Tryd.func97, Tryd.ntmps97
  go_wp2
  go_ret
  exact ⟨ret_int H.out, rfl⟩
theorem scalarValue_at (b r : Int) (w : World) (h0 : 0 ≤ b) (h1 : b ≤ 18446744073709551615) (hr : b / 8 + -576460752303423488 = r) :
    Calls Tryd.prog 100 #[.int .u64 b] w fun e w' => e = .returned (.int .i64 r) ∧ w' = w := by
  have H : Hid (b / 8 + -576460752303423488 = r) := hr
  clear hr
  go_enter Tryd.func100, Tryd.ntmps100
  go_wp2
  go_ret
  exact ⟨ret_int H.out, rfl⟩
theorem noValue_any (b : Int) (w : World) :
    Calls Tryd.prog 92 #[.int .u64 b] w fun e w' => e = .returned (.int .i64 0) ∧ w' = w := by
  go_enter Tryd.func92, Tryd.ntmps92
  go_wp2
  go_ret
  exact ⟨rfl, rfl⟩
theorem layBad_any (b : Int) (w : World) :
    Calls Tryd.prog 93 #[.int .i64 b] w fun e w' => e = .returned (.tuple #[.int .u64 0, .int .i64 2]) ∧ w' = w := by
  go_enter Tryd.func93, Tryd.ntmps93
  go_wp2
  go_ret2
  exact ⟨rfl, rfl⟩
theorem layNull_zero (w : World) :
    Calls Tryd.prog 95 #[.int .i64 0] w fun e w' => e = .returned (.tuple #[.int .u64 0, .int .i64 0]) ∧ w' = w := by
  go_enter Tryd.func95, Tryd.ntmps95
  go_wp2
  go_ret2
  exact ⟨rfl, rfl⟩
theorem layNull_not (b : Int) (w : World) (h : (b != 0) = true) :
    Calls Tryd.prog 95 #[.int .i64 b] w fun e w' => e = .returned (.tuple #[.int .u64 0, .int .i64 2]) ∧ w' = w := by
  go_enter Tryd.func95, Tryd.ntmps95
  go_wp2
  go_ret2
  exact ⟨rfl, rfl⟩
theorem layEmpty_zero (w : World) :
    Calls Tryd.prog 103 #[.int .i64 0] w fun e w' => e = .returned (.tuple #[.int .u64 2, .int .i64 0]) ∧ w' = w := by
  go_enter Tryd.func103, Tryd.ntmps103
  go_wp2
  go_ret2
  exact ⟨rfl, rfl⟩
theorem layEmpty_not (b : Int) (w : World) (h : (b != 0) = true) :
    Calls Tryd.prog 103 #[.int .i64 b] w fun e w' => e = .returned (.tuple #[.int .u64 0, .int .i64 2]) ∧ w' = w := by
  go_enter Tryd.func103, Tryd.ntmps103
  go_wp2
  go_ret2
  exact ⟨rfl, rfl⟩
theorem layPointer_in (v r : Int) (w : World) (h0 : 1 ≤ v) (h1 : v ≤ 16777215) (hr : v * 8 = r) :
    Calls Tryd.prog 98 #[.int .i64 v] w fun e w' => e = .returned (.tuple #[.int .u64 r, .int .i64 0]) ∧ w' = w := by
  have H : Hid (v * 8 = r) := hr
  clear hr
  go_enter Tryd.func98, Tryd.ntmps98
  go_wp2
  go_ret2
  exact ⟨ret_ie H.out rfl, rfl⟩
theorem layPointer_out (v : Int) (w : World) (h : v < 1 ∨ 16777215 < v) :
    Calls Tryd.prog 98 #[.int .i64 v] w fun e w' => e = .returned (.tuple #[.int .u64 0, .int .i64 4]) ∧ w' = w := by
  rcases h with h | h
  · go_enter Tryd.func98, Tryd.ntmps98
    go_wp2
    go_ret2
    exact ⟨rfl, rfl⟩
  · have h2 : 1 ≤ v := by omega
    go_enter Tryd.func98, Tryd.ntmps98
    go_wp2
    go_ret2
    exact ⟨rfl, rfl⟩
theorem layScalar_in (v r : Int) (w : World) (h0 : -576460752303423488 ≤ v) (h1 : v ≤ 576460752303423487) (hr : 8 * v + 4611686018427387908 = r) :
    Calls Tryd.prog 101 #[.int .i64 v] w fun e w' => e = .returned (.tuple #[.int .u64 r, .int .i64 0]) ∧ w' = w := by
  have H : Hid (bits .or .u64 ((v + 576460752303423488) * 8) 4 = r) := by
    rw [Wd.or_four _ (by omega) (by omega)]; show _ = _; omega
  clear hr
  go_enter Tryd.func101, Tryd.ntmps101
  go_wp2
  go_ret2
  exact ⟨ret_ie H.out rfl, rfl⟩
theorem layScalar_out (v : Int) (w : World) (h : v < -576460752303423488 ∨ 576460752303423487 < v) :
    Calls Tryd.prog 101 #[.int .i64 v] w fun e w' => e = .returned (.tuple #[.int .u64 0, .int .i64 4]) ∧ w' = w := by
  rcases h with h | h
  · go_enter Tryd.func101, Tryd.ntmps101
    go_wp2
    go_ret2
    exact ⟨rfl, rfl⟩
  · have h2 : -576460752303423488 ≤ v := by omega
    go_enter Tryd.func101, Tryd.ntmps101
    go_wp2
    go_ret2
    exact ⟨rfl, rfl⟩
def kindsArr : Array Value := #[.bool false, .func (.func 92) #[] #[], .func (.func 93) #[] #[], .func (.func 94) #[] #[], .bool true, .func (.func 92) #[] #[], .func (.func 95) #[] #[], .func (.func 96) #[] #[], .bool true, .func (.func 97) #[] #[], .func (.func 98) #[] #[], .func (.func 99) #[] #[], .bool true, .func (.func 100) #[] #[], .func (.func 101) #[] #[], .func (.func 102) #[] #[], .bool false, .func (.func 92) #[] #[], .func (.func 103) #[] #[], .func (.func 104) #[] #[]]
theorem kindsArr_one : kindsArr.all (·.oneCell') = true := by kernel_rfl
theorem kindsArr_size : (Tryd.prog.info? 139).map (·.size) = some kindsArr.size := by kernel_rfl
theorem kinds_any (w : World) :
    Calls Tryd.prog 78 #[] w fun e w' => e = .returned (.agg kindsArr) ∧ Below w.heap.size w w' := by
  go_enter Tryd.func78, Tryd.ntmps78
  go_wp2_with (refine wpList_store_row rfl 139 _ _ rfl w.heap.size kindsArr rfl rfl 139 _ (heap_alloc_last w _) kindsArr_size rfl kindsArr_one ?_; rw [World.setRow_alloc_new])
  refine bodyPost_ret (v := .agg kindsArr) (results_cell_row Tryd.results78 _ _ w.heap.size 139 kindsArr (0, 0) _ rfl (heap_alloc_last w _) Tryd.underlying139 rfl kindsArr_size) rfl ⟨rfl, (Below.refl _ _).alloc (Nat.le_refl _) _⟩
end Go.Proofs.YtjfegimgpkeleaaDoor
