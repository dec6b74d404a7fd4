/- The leaves of package word: contracts of bits' methods and of the functions of kinds. -/
import Derived.Test.YtlbhkaokpfljmabDoorProg
import Derived.Test.YtlbhkaokpfljmabDoorWdMath
import Derived.WalkKit
import Derived.WalkLawsBesides
import Derived.WalkSpells
import Derived.BigQuiet
import Derived.Outline
import Derived.Deep.WholeRow
import Derived.Laws.EntriesVeiled
namespace Go.Proofs.YtlbhkaokpfljmabDoor
open Go.RowKit
theorem ret_int {k : IntKind} {a b : Int} (h : a = b) : Ending.returned (.int k a) = .returned (.int k b) := by rw [h]
theorem ret_bool {a b : Bool} (h : a = b) : Ending.returned (.bool a) = .returned (.bool b) := by rw [h]
theorem ret_ie {a b c d : Int} (h : a = b) (h2 : c = d) : Ending.returned (.tuple #[.int .u64 a, .int .i64 c]) = .returned (.tuple #[.int .u64 b, .int .i64 d]) := by rw [h, h2]
theorem plain_at (b p : Int) (w : World) (h0 : 0 ≤ b) (h1 : b ≤ 18446744073709551615) (hp : b - b % 2 = p) :
    Calls Tryd.prog 15 #[.int .u64 b] w fun e w' => e = .returned (.int .u64 p) ∧ w' = w := by
  have H : Hid (bits .andNot .u64 b 1 = p) := (Wd.andNot_one b h0 h1).trans hp
  clear hp
  go_enter Tryd.func15, Tryd.ntmps15
  go_wp2
  go_ret
  exact ⟨ret_int H.out, rfl⟩
theorem seal_at (b p : Int) (w : World) (h0 : 0 ≤ b) (h1 : b ≤ 18446744073709551615) (hp : b - b % 2 + 1 = p) :
    Calls Tryd.prog 33 #[.int .u64 b] w fun e w' => e = .returned (.int .u64 p) ∧ w' = w := by
  have H : Hid (bits .or .u64 b 1 = p) := (Wd.or_one b h0 h1).trans hp
  clear hp
  go_enter Tryd.func33, Tryd.ntmps33
  go_wp2
  go_ret
  exact ⟨ret_int H.out, rfl⟩
theorem sealed_at (b : Int) (s : Bool) (w : World) (h0 : 0 ≤ b) (h1 : b ≤ 18446744073709551615) (hp : (b % 2 != 0) = s) :
    Calls Tryd.prog 8 #[.int .u64 b] w fun e w' => e = .returned (.bool s) ∧ w' = w := by
  have H : Hid ((bits .and .u64 b 1 != 0) = s) := by rw [and_one_u64 b h0 h1]; exact hp
  clear hp
  go_enter Tryd.func8, Tryd.ntmps8
  go_wp2
  go_ret
  exact ⟨ret_bool H.out, rfl⟩
theorem number_at (b r : Int) (w : World) (h0 : 0 ≤ b) (h1 : b ≤ 18446744073709551615) (hr : b / 8 = r) :
    Calls Tryd.prog 25 #[.int .u64 b] w fun e w' => e = .returned (.int .i64 r) ∧ w' = w := by
  have H : Hid (b / 8 = r) := hr
  clear hr
  go_enter Tryd.func25, Tryd.ntmps25
  go_wp2
  go_ret
  exact ⟨ret_int H.out, rfl⟩
theorem scalarValue_at (b r : Int) (w : World) (h0 : 0 ≤ b) (h1 : b ≤ 18446744073709551615) (hr : b / 8 + -576460752303423488 = r) :
    Calls Tryd.prog 28 #[.int .u64 b] w fun e w' => e = .returned (.int .i64 r) ∧ w' = w := by
  have H : Hid (b / 8 + -576460752303423488 = r) := hr
  clear hr
  go_enter Tryd.func28, Tryd.ntmps28
  go_wp2
  go_ret
  exact ⟨ret_int H.out, rfl⟩
theorem noValue_any (b : Int) (w : World) :
    Calls Tryd.prog 20 #[.int .u64 b] w fun e w' => e = .returned (.int .i64 0) ∧ w' = w := by
  go_enter Tryd.func20, Tryd.ntmps20
  go_wp2
  go_ret
  exact ⟨rfl, rfl⟩
theorem layBad_any (b : Int) (w : World) :
    Calls Tryd.prog 21 #[.int .i64 b] w fun e w' => e = .returned (.tuple #[.int .u64 0, .int .i64 2]) ∧ w' = w := by
  go_enter Tryd.func21, Tryd.ntmps21
  go_wp2
  go_ret2
  exact ⟨rfl, rfl⟩
theorem layNull_zero (w : World) :
    Calls Tryd.prog 23 #[.int .i64 0] w fun e w' => e = .returned (.tuple #[.int .u64 0, .int .i64 0]) ∧ w' = w := by
  go_enter Tryd.func23, Tryd.ntmps23
  go_wp2
  go_ret2
  exact ⟨rfl, rfl⟩
theorem layNull_not (b : Int) (w : World) (h : (b != 0) = true) :
    Calls Tryd.prog 23 #[.int .i64 b] w fun e w' => e = .returned (.tuple #[.int .u64 0, .int .i64 2]) ∧ w' = w := by
  go_enter Tryd.func23, Tryd.ntmps23
  go_wp2
  go_ret2
  exact ⟨rfl, rfl⟩
theorem layEmpty_zero (w : World) :
    Calls Tryd.prog 31 #[.int .i64 0] w fun e w' => e = .returned (.tuple #[.int .u64 2, .int .i64 0]) ∧ w' = w := by
  go_enter Tryd.func31, Tryd.ntmps31
  go_wp2
  go_ret2
  exact ⟨rfl, rfl⟩
theorem layEmpty_not (b : Int) (w : World) (h : (b != 0) = true) :
    Calls Tryd.prog 31 #[.int .i64 b] w fun e w' => e = .returned (.tuple #[.int .u64 0, .int .i64 2]) ∧ w' = w := by
  go_enter Tryd.func31, Tryd.ntmps31
  go_wp2
  go_ret2
  exact ⟨rfl, rfl⟩
theorem layPointer_in (v r : Int) (w : World) (h0 : 1 ≤ v) (h1 : v ≤ 16777215) (hr : v * 8 = r) :
    Calls Tryd.prog 26 #[.int .i64 v] w fun e w' => e = .returned (.tuple #[.int .u64 r, .int .i64 0]) ∧ w' = w := by
  have H : Hid (v * 8 = r) := hr
  clear hr
  go_enter Tryd.func26, Tryd.ntmps26
  go_wp2
  go_ret2
  exact ⟨ret_ie H.out rfl, rfl⟩
theorem layPointer_out (v : Int) (w : World) (h : v < 1 ∨ 16777215 < v) :
    Calls Tryd.prog 26 #[.int .i64 v] w fun e w' => e = .returned (.tuple #[.int .u64 0, .int .i64 4]) ∧ w' = w := by
  rcases h with h | h
  · go_enter Tryd.func26, Tryd.ntmps26
    go_wp2
    go_ret2
    exact ⟨rfl, rfl⟩
  · have h2 : 1 ≤ v := by omega
    go_enter Tryd.func26, Tryd.ntmps26
    go_wp2
    go_ret2
    exact ⟨rfl, rfl⟩
theorem layScalar_in (v r : Int) (w : World) (h0 : -576460752303423488 ≤ v) (h1 : v ≤ 576460752303423487) (hr : 8 * v + 4611686018427387908 = r) :
    Calls Tryd.prog 29 #[.int .i64 v] w fun e w' => e = .returned (.tuple #[.int .u64 r, .int .i64 0]) ∧ w' = w := by
  have H : Hid (bits .or .u64 ((v + 576460752303423488) * 8) 4 = r) := by
    rw [Wd.or_four _ (by omega) (by omega)]; show _ = _; omega
  clear hr
  go_enter Tryd.func29, Tryd.ntmps29
  go_wp2
  go_ret2
  exact ⟨ret_ie H.out rfl, rfl⟩
theorem layScalar_out (v : Int) (w : World) (h : v < -576460752303423488 ∨ 576460752303423487 < v) :
    Calls Tryd.prog 29 #[.int .i64 v] w fun e w' => e = .returned (.tuple #[.int .u64 0, .int .i64 4]) ∧ w' = w := by
  rcases h with h | h
  · go_enter Tryd.func29, Tryd.ntmps29
    go_wp2
    go_ret2
    exact ⟨rfl, rfl⟩
  · have h2 : -576460752303423488 ≤ v := by omega
    go_enter Tryd.func29, Tryd.ntmps29
    go_wp2
    go_ret2
    exact ⟨rfl, rfl⟩
def kindsArr : Array Value := #[.bool false, .func (.func 20) #[] #[], .func (.func 21) #[] #[], .func (.func 22) #[] #[], .bool true, .func (.func 20) #[] #[], .func (.func 23) #[] #[], .func (.func 24) #[] #[], .bool true, .func (.func 25) #[] #[], .func (.func 26) #[] #[], .func (.func 27) #[] #[], .bool true, .func (.func 28) #[] #[], .func (.func 29) #[] #[], .func (.func 30) #[] #[], .bool false, .func (.func 20) #[] #[], .func (.func 31) #[] #[], .func (.func 32) #[] #[]]
theorem kindsArr_one : kindsArr.all (·.oneCell') = true := by kernel_rfl
theorem kindsArr_size : (Tryd.prog.info? 45).map (·.size) = some kindsArr.size := by kernel_rfl
theorem kinds_any (w : World) :
    Calls Tryd.prog 14 #[] w fun e w' => e = .returned (.agg kindsArr) ∧ Below w.heap.size w w' := by
  go_enter Tryd.func14, Tryd.ntmps14
  go_wp2_with (refine wpList_store_row rfl 45 _ _ rfl w.heap.size kindsArr rfl rfl 45 _ (heap_alloc_last w _) kindsArr_size rfl kindsArr_one ?_; rw [World.setRow_alloc_new])
  refine bodyPost_ret (v := .agg kindsArr) (results_cell_row Tryd.results14 _ _ w.heap.size 45 kindsArr (0, 0) _ rfl (heap_alloc_last w _) Tryd.underlying45 rfl kindsArr_size) rfl ⟨rfl, (Below.refl _ _).alloc (Nat.le_refl _) _⟩
end Go.Proofs.YtlbhkaokpfljmabDoor
