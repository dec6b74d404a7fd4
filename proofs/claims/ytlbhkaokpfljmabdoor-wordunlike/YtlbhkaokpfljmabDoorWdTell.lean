/- Package word's tell: which kind a word is of, and what it holds. -/
import Derived.Test.YtlbhkaokpfljmabDoorWdLeaf
namespace Go.Proofs.YtlbhkaokpfljmabDoor
open Go.RowKit
theorem kind_at0 (w : World) : (Instr.index 45 (.agg kindsArr) (.int .i64 0)).run Tryd.prog w = .ok (.agg #[.bool false, .func (.func 20) #[] #[], .func (.func 21) #[] #[], .func (.func 22) #[] #[]]) w := by kernel_rfl
theorem kind_at1 (w : World) : (Instr.index 45 (.agg kindsArr) (.int .i64 1)).run Tryd.prog w = .ok (.agg #[.bool true, .func (.func 20) #[] #[], .func (.func 23) #[] #[], .func (.func 24) #[] #[]]) w := by kernel_rfl
theorem kind_at2 (w : World) : (Instr.index 45 (.agg kindsArr) (.int .i64 2)).run Tryd.prog w = .ok (.agg #[.bool true, .func (.func 25) #[] #[], .func (.func 26) #[] #[], .func (.func 27) #[] #[]]) w := by kernel_rfl
theorem kind_at3 (w : World) : (Instr.index 45 (.agg kindsArr) (.int .i64 3)).run Tryd.prog w = .ok (.agg #[.bool true, .func (.func 28) #[] #[], .func (.func 29) #[] #[], .func (.func 30) #[] #[]]) w := by kernel_rfl
theorem kind_at4 (w : World) : (Instr.index 45 (.agg kindsArr) (.int .i64 4)).run Tryd.prog w = .ok (.agg #[.bool false, .func (.func 20) #[] #[], .func (.func 31) #[] #[], .func (.func 32) #[] #[]]) w := by kernel_rfl
/-- What tell hands back, by the kind's number. -/
def toldV : Nat → Int → Int → Value
  | 1, x, v => .agg #[.int .u64 x, .bool true, .func (.func 20) #[] #[], .func (.func 23) #[] #[], .func (.func 24) #[] #[], .int .i64 1, .int .i64 v]
  | 2, x, v => .agg #[.int .u64 x, .bool true, .func (.func 25) #[] #[], .func (.func 26) #[] #[], .func (.func 27) #[] #[], .int .i64 2, .int .i64 v]
  | 3, x, v => .agg #[.int .u64 x, .bool true, .func (.func 28) #[] #[], .func (.func 29) #[] #[], .func (.func 30) #[] #[], .int .i64 3, .int .i64 v]
  | 4, x, v => .agg #[.int .u64 x, .bool false, .func (.func 20) #[] #[], .func (.func 31) #[] #[], .func (.func 32) #[] #[], .int .i64 4, .int .i64 v]
  | _, x, v => .agg #[.int .u64 x, .bool false, .func (.func 20) #[] #[], .func (.func 21) #[] #[], .func (.func 22) #[] #[], .int .i64 0, .int .i64 v]
theorem hid {p : Prop} (h : p) : Hid p := h
theorem below_setRow {B : Nat} {a w : World} (h : Below B a w) {g : Nat} (hg : B ≤ g) (cs : Array Value) : Below B a (w.setRow g cs) :=
  h.trans ⟨rfl, rfl, rfl, by simp, fun k hk => setRow_other w g k cs (by omega)⟩
theorem told_size : (Tryd.prog.info? 37).map (·.size) = some 7 := by kernel_rfl
/-- No kind ahead of number k lays the plain word p. -/
def NoneTill (x p : Int) (k : Int) : Prop :=
  (2 ≤ k → ¬ p = 0) ∧ (3 ≤ k → ¬ (p % 8 = 0 ∧ p / 8 ≤ 16777215)) ∧ (4 ≤ k → ¬ (p % 8 = 4 ∧ p / 8 ≤ 1152921504606846975)) ∧ (5 ≤ k → ¬ (p = 2 ∧ x = p))
theorem bad_of (x p : Int) (h0 : 0 ≤ p) (hp1 : p ≤ x) (hp2 : x ≤ p + 1) (hp3 : p % 2 < 1) (h : NoneTill x p 5) : Wd.Is x 0 0 := by
  obtain ⟨a, b, c, d⟩ := h
  have a := a (by omega)
  have b := b (by omega)
  have c := c (by omega)
  have d := d (by omega)
  exact .inr (.inr (.inr (.inr ⟨rfl, rfl, by omega, by omega, by omega⟩)))
set_option maxHeartbeats 4000000 in
theorem tell_any (x p : Int) (w : World) (h0 : 0 ≤ x) (h1 : x ≤ 18446744073709551615) (hp : Hid (x - x % 2 = p)) (hp0 : 0 ≤ p) (hp1 : p ≤ x) (hp2 : x ≤ p + 1) (hp3 : p % 2 < 1) :
    Calls Tryd.prog 7 #[.int .u64 x] w fun e w' => ∃ (k : Nat) (v : Int), e = .returned (toldV k x v) ∧ Wd.Is x k v ∧ Below w.heap.size w w' := by
  go_enter Tryd.func7, Tryd.ntmps7
  go_wp2_with (go_at_call 14; refine (kinds_any _).mono ?_)
  rintro e w1 ⟨rfl, hb1⟩
  have hz : w.heap.size + 1 ≤ w1.heap.size := by have := hb1.size; simpa using this
  have hbw : Below w.heap.size w w1 := ((Below.refl _ _).alloc (Nat.le_refl _) _).trans (hb1.mono (by simp))
  have hr1 := hid ((hb1.block w.heap.size (by simp)).trans (heap_alloc_last w _))
  clear hb1
  go_wp2_with (first | (refine wpList_store_row rfl 45 _ _ rfl w1.heap.size kindsArr rfl rfl 45 _ (heap_alloc_last w1 _) kindsArr_size rfl kindsArr_one ?_; rw [World.setRow_alloc_new]) | refine wpList_load_row rfl 45 _ rfl w1.heap.size rfl 45 kindsArr (0, 0) _ (heap_alloc_last w1 _) Tryd.underlying45 rfl kindsArr_size ?_)
  go_loopw [13] (fun i wr => ∃ k : Int, i = .int .i64 k ∧ 0 ≤ k ∧ k ≤ 5 ∧ Hid (NoneTill x p k) ∧ Below (w1.heap.size + 1) (w1.alloc (.cells kindsArr 45)) wr) (fun i _ => 5 - (intOf i).toNat)
  case atStart => exact ⟨0, rfl, by omega, by omega, ⟨by omega, by omega, by omega, by omega⟩, Below.refl _ _⟩
  case round =>
    obtain ⟨k, rfl, hk0, hk5, hN, hb⟩ := hrel
    have hb' : Below w.heap.size (w1.alloc (.cells kindsArr 45)) wr := hb.mono (by omega)
    have hb0 : Below w.heap.size w1 (w1.alloc (.cells kindsArr 45)) := (Below.refl _ _).alloc (by omega) _
    have hzr : w1.heap.size + 1 ≤ wr.heap.size := by have := hb.size; simpa using this
    have HR := hid (fun (O : Obj) (nq : Nat) => (show ((wr.alloc O).drewN nq).heap[w.heap.size]? = _ from (Below.heap_alloc wr O w.heap.size (by omega)).trans ((hb.block _ (by omega)).trans ((Below.heap_alloc w1 _ _ (by omega)).trans hr1.out))))
    have hcs : k = 0 ∨ k = 1 ∨ k = 2 ∨ k = 3 ∨ k = 4 ∨ k = 5 := by omega
    rcases hcs with rfl | rfl | rfl | rfl | rfl | rfl
    · have hkk := kind_at0
      go_wp2_with fail
      go_quiet ((first | (go_at_call 15; exact Calls.quiet_of_same (plain_at x p _ h0 h1 hp.out)) | (go_at_call 20; exact Calls.quiet_of_same (noValue_any p _))))
      go_wp2_with (first | (go_at_call 21; refine (layBad_any _ _).mono ?_; rintro e w' ⟨rfl, rfl⟩) | (go_at_call 15; refine (plain_at x p _ h0 h1 hp.out).mono ?_; rintro e w' ⟨rfl, rfl⟩))
      go_roundw
      case rel => exact ⟨1, rfl, by omega, by omega, (by have h := hN.out; unfold NoneTill Hid at *; omega), below_drewN (hb.alloc (by omega) _) _⟩
      case measure => simp [intOf]
    · have hkk := kind_at1
      by_cases hA : p = 0
      · have HA := hid hA; clear hA
        have ht : ((0 : Int) == p) = true := by have := HA.out; simp; omega
        go_wp2_with fail
        go_quiet ((first | (go_at_call 15; exact Calls.quiet_of_same (plain_at x p _ h0 h1 hp.out)) | (go_at_call 20; exact Calls.quiet_of_same (noValue_any p _))))
        go_wp2_with (first | (go_at_call 23; refine (layNull_zero _).mono ?_; rintro e w' ⟨rfl, rfl⟩) | (go_at_call 15; refine (plain_at x p _ h0 h1 hp.out).mono ?_; rintro e w' ⟨rfl, rfl⟩) | (refine wpList_store_row rfl 37 _ _ rfl w.heap.size _ rfl rfl 37 _ (HR.out _ nq) told_size rfl (by kernel_rfl) ?_))
        refine bodyPost_ret (v := toldV 1 x 0) (results_cell_row Tryd.results7 _ _ w.heap.size 37 _ (0, 0) _ rfl (setRow_heap _ _ _ _ _ _ (HR.out _ nq)) Tryd.underlying37 rfl told_size) rfl ⟨1, 0, rfl, Or.inl ⟨rfl, rfl, by have := HA.out; omega⟩, below_setRow (below_drewN (hbw.trans ((hb0.trans hb').alloc (by omega) _)) _) (Nat.le_refl _) _⟩
      · have hne : ((0 : Int) == p) = false := by simp; omega
        go_wp2_with fail
        go_quiet ((first | (go_at_call 15; exact Calls.quiet_of_same (plain_at x p _ h0 h1 hp.out)) | (go_at_call 20; exact Calls.quiet_of_same (noValue_any p _))))
        go_wp2_with (first | (go_at_call 23; refine (layNull_zero _).mono ?_; rintro e w' ⟨rfl, rfl⟩) | (go_at_call 15; refine (plain_at x p _ h0 h1 hp.out).mono ?_; rintro e w' ⟨rfl, rfl⟩))
        go_roundw
        case rel => exact ⟨2, rfl, by omega, by omega, (by have h := hN.out; unfold NoneTill Hid at *; omega), below_drewN (hb.alloc (by omega) _) _⟩
        case measure => simp [intOf]
    · have hkk := kind_at2
      by_cases hA : p / 8 ≤ 16777215
      · by_cases hC : p / 8 < 1
        · go_wp2_with fail
          go_quiet ((first | (go_at_call 15; exact Calls.quiet_of_same (plain_at x p _ h0 h1 hp.out)) | (go_at_call 25; exact Calls.quiet_of_same (number_at p _ _ hp0 (by omega) rfl))))
          go_wp2_with (first | (go_at_call 26; refine (layPointer_out _ _ (by omega)).mono ?_; rintro e w' ⟨rfl, rfl⟩) | (go_at_call 15; refine (plain_at x p _ h0 h1 hp.out).mono ?_; rintro e w' ⟨rfl, rfl⟩))
          go_roundw
          case rel => exact ⟨3, rfl, by omega, by omega, (by have h := hN.out; unfold NoneTill Hid at *; omega), below_drewN (hb.alloc (by omega) _) _⟩
          case measure => simp [intOf]
        · by_cases hB : p % 8 = 0
          · have HB := hid hB; clear hB
            go_wp2_with fail
            go_quiet ((first | (go_at_call 15; exact Calls.quiet_of_same (plain_at x p _ h0 h1 hp.out)) | (go_at_call 25; exact Calls.quiet_of_same (number_at p _ _ hp0 (by omega) rfl))))
            go_wp2_with (first | (go_at_call 26; refine (layPointer_in (p / 8) p _ (by omega) hA (by have := HB.out; omega)).mono ?_; rintro e w' ⟨rfl, rfl⟩) | (go_at_call 15; refine (plain_at x p _ h0 h1 hp.out).mono ?_; rintro e w' ⟨rfl, rfl⟩) | (refine wpList_store_row rfl 37 _ _ rfl w.heap.size _ rfl rfl 37 _ (HR.out _ nq) told_size rfl (by kernel_rfl) ?_))
            refine bodyPost_ret (v := toldV 2 x (p / 8)) (results_cell_row Tryd.results7 _ _ w.heap.size 37 _ (0, 0) _ rfl (setRow_heap _ _ _ _ _ _ (HR.out _ nq)) Tryd.underlying37 rfl told_size) rfl ⟨2, (p / 8), rfl, Or.inr (Or.inl ⟨rfl, by omega, hA, by have := HB.out; omega, by have := HB.out; omega⟩), below_setRow (below_drewN (hbw.trans ((hb0.trans hb').alloc (by omega) _)) _) (Nat.le_refl _) _⟩
          · have hne : (p / 8 * 8 == p) = false := by simp; omega
            go_wp2_with fail
            go_quiet ((first | (go_at_call 15; exact Calls.quiet_of_same (plain_at x p _ h0 h1 hp.out)) | (go_at_call 25; exact Calls.quiet_of_same (number_at p _ _ hp0 (by omega) rfl))))
            go_wp2_with (first | (go_at_call 26; refine (layPointer_in (p / 8) (p / 8 * 8) _ (by omega) hA rfl).mono ?_; rintro e w' ⟨rfl, rfl⟩) | (go_at_call 15; refine (plain_at x p _ h0 h1 hp.out).mono ?_; rintro e w' ⟨rfl, rfl⟩))
            go_roundw
            case rel => exact ⟨3, rfl, by omega, by omega, (by have h := hN.out; unfold NoneTill Hid at *; omega), below_drewN (hb.alloc (by omega) _) _⟩
            case measure => simp [intOf]
      · go_wp2_with fail
        go_quiet ((first | (go_at_call 15; exact Calls.quiet_of_same (plain_at x p _ h0 h1 hp.out)) | (go_at_call 25; exact Calls.quiet_of_same (number_at p _ _ hp0 (by omega) rfl))))
        go_wp2_with (first | (go_at_call 26; refine (layPointer_out _ _ (by omega)).mono ?_; rintro e w' ⟨rfl, rfl⟩) | (go_at_call 15; refine (plain_at x p _ h0 h1 hp.out).mono ?_; rintro e w' ⟨rfl, rfl⟩))
        go_roundw
        case rel => exact ⟨3, rfl, by omega, by omega, (by have h := hN.out; unfold NoneTill Hid at *; omega), below_drewN (hb.alloc (by omega) _) _⟩
        case measure => simp [intOf]
    · have hkk := kind_at3
      by_cases hA : p / 8 ≤ 1152921504606846975
      · by_cases hB : p % 8 = 4
        · have HB := hid hB; clear hB
          go_wp2_with fail
          go_quiet ((first | (go_at_call 15; exact Calls.quiet_of_same (plain_at x p _ h0 h1 hp.out)) | (go_at_call 28; exact Calls.quiet_of_same (scalarValue_at p _ _ hp0 (by omega) rfl))))
          go_wp2_with (first | (go_at_call 29; refine (layScalar_in (p / 8 + -576460752303423488) p _ (by omega) (by omega) (by have := HB.out; omega)).mono ?_; rintro e w' ⟨rfl, rfl⟩) | (go_at_call 15; refine (plain_at x p _ h0 h1 hp.out).mono ?_; rintro e w' ⟨rfl, rfl⟩) | (refine wpList_store_row rfl 37 _ _ rfl w.heap.size _ rfl rfl 37 _ (HR.out _ nq) told_size rfl (by kernel_rfl) ?_))
          refine bodyPost_ret (v := toldV 3 x (p / 8 + -576460752303423488)) (results_cell_row Tryd.results7 _ _ w.heap.size 37 _ (0, 0) _ rfl (setRow_heap _ _ _ _ _ _ (HR.out _ nq)) Tryd.underlying37 rfl told_size) rfl ⟨3, (p / 8 + -576460752303423488), rfl, Or.inr (Or.inr (Or.inl ⟨rfl, by omega, by omega, by have := HB.out; omega, by have := HB.out; omega⟩)), below_setRow (below_drewN (hbw.trans ((hb0.trans hb').alloc (by omega) _)) _) (Nat.le_refl _) _⟩
        · have hne : (8 * (p / 8 + -576460752303423488) + 4611686018427387908 == p) = false := by simp; omega
          go_wp2_with fail
          go_quiet ((first | (go_at_call 15; exact Calls.quiet_of_same (plain_at x p _ h0 h1 hp.out)) | (go_at_call 28; exact Calls.quiet_of_same (scalarValue_at p _ _ hp0 (by omega) rfl))))
          go_wp2_with (first | (go_at_call 29; refine (layScalar_in (p / 8 + -576460752303423488) _ _ (by omega) (by omega) rfl).mono ?_; rintro e w' ⟨rfl, rfl⟩) | (go_at_call 15; refine (plain_at x p _ h0 h1 hp.out).mono ?_; rintro e w' ⟨rfl, rfl⟩))
          go_roundw
          case rel => exact ⟨4, rfl, by omega, by omega, (by have h := hN.out; unfold NoneTill Hid at *; omega), below_drewN (hb.alloc (by omega) _) _⟩
          case measure => simp [intOf]
      · go_wp2_with fail
        go_quiet ((first | (go_at_call 15; exact Calls.quiet_of_same (plain_at x p _ h0 h1 hp.out)) | (go_at_call 28; exact Calls.quiet_of_same (scalarValue_at p _ _ hp0 (by omega) rfl))))
        go_wp2_with (first | (go_at_call 29; refine (layScalar_out _ _ (by omega)).mono ?_; rintro e w' ⟨rfl, rfl⟩) | (go_at_call 15; refine (plain_at x p _ h0 h1 hp.out).mono ?_; rintro e w' ⟨rfl, rfl⟩))
        go_roundw
        case rel => exact ⟨4, rfl, by omega, by omega, (by have h := hN.out; unfold NoneTill Hid at *; omega), below_drewN (hb.alloc (by omega) _) _⟩
        case measure => simp [intOf]
    · have hkk := kind_at4
      by_cases hA : p = 2
      · have HA := hid hA; clear hA
        have ht : ((2 : Int) == p) = true := by have := HA.out; simp; omega
        by_cases hB : x = 2
        · have HB := hid hB; clear hB
          go_wp2_with fail
          go_quiet ((first | (go_at_call 15; exact Calls.quiet_of_same (plain_at x p _ h0 h1 hp.out)) | (go_at_call 20; exact Calls.quiet_of_same (noValue_any p _))))
          go_wp2_with (first | (go_at_call 31; refine (layEmpty_zero _).mono ?_; rintro e w' ⟨rfl, rfl⟩) | (go_at_call 15; refine (plain_at x p _ h0 h1 hp.out).mono ?_; rintro e w' ⟨rfl, rfl⟩) | (refine wpList_store_row rfl 37 _ _ rfl w.heap.size _ rfl rfl 37 _ (HR.out _ nq) told_size rfl (by kernel_rfl) ?_) | (go_at_call 8; refine (sealed_at x false _ h0 h1 (by have := HB.out; have := HA.out; simp; omega)).mono ?_; rintro e w' ⟨rfl, rfl⟩))
          refine bodyPost_ret (v := toldV 4 x 0) (results_cell_row Tryd.results7 _ _ w.heap.size 37 _ (0, 0) _ rfl (setRow_heap _ _ _ _ _ _ (HR.out _ nq)) Tryd.underlying37 rfl told_size) rfl ⟨4, 0, rfl, Or.inr (Or.inr (Or.inr (Or.inl ⟨rfl, rfl, HB.out⟩))), below_setRow (below_drewN (hbw.trans ((hb0.trans hb').alloc (by omega) _)) _) (Nat.le_refl _) _⟩
        · have HB := hid hB; clear hB
          go_wp2_with fail
          go_quiet ((first | (go_at_call 15; exact Calls.quiet_of_same (plain_at x p _ h0 h1 hp.out)) | (go_at_call 20; exact Calls.quiet_of_same (noValue_any p _))))
          go_wp2_with (first | (go_at_call 31; refine (layEmpty_zero _).mono ?_; rintro e w' ⟨rfl, rfl⟩) | (go_at_call 15; refine (plain_at x p _ h0 h1 hp.out).mono ?_; rintro e w' ⟨rfl, rfl⟩) | (go_at_call 8; refine (sealed_at x true _ h0 h1 (by have := HB.out; have := HA.out; simp; omega)).mono ?_; rintro e w' ⟨rfl, rfl⟩))
          go_roundw
          case rel => exact ⟨5, rfl, by omega, by omega, (by have h := hN.out; have := HB.out; have := HA.out; unfold NoneTill Hid at *; omega), below_drewN (hb.alloc (by omega) _) _⟩
          case measure => simp [intOf]
      · have hne : ((2 : Int) == p) = false := by simp; omega
        go_wp2_with fail
        go_quiet ((first | (go_at_call 15; exact Calls.quiet_of_same (plain_at x p _ h0 h1 hp.out)) | (go_at_call 20; exact Calls.quiet_of_same (noValue_any p _))))
        go_wp2_with (first | (go_at_call 31; refine (layEmpty_zero _).mono ?_; rintro e w' ⟨rfl, rfl⟩) | (go_at_call 15; refine (plain_at x p _ h0 h1 hp.out).mono ?_; rintro e w' ⟨rfl, rfl⟩))
        go_roundw
        case rel => exact ⟨5, rfl, by omega, by omega, (by have h := hN.out; unfold NoneTill Hid at *; omega), below_drewN (hb.alloc (by omega) _) _⟩
        case measure => simp [intOf]
    · have hc0 : wr.cell? ⟨w1.heap.size, 0, none⟩ = some (.bool false) := (hb.cell (p := ⟨w1.heap.size, 0, none⟩) (by simp)).trans (cell_of_row _ _ 0 kindsArr _ _ (heap_alloc_last w1 _))
      have hc1 : wr.cell? ⟨w1.heap.size, 1, none⟩ = some (.func (.func 20) #[] #[]) := (hb.cell (p := ⟨w1.heap.size, 1, none⟩) (by simp)).trans (cell_of_row _ _ 1 kindsArr _ _ (heap_alloc_last w1 _))
      have hc2 : wr.cell? ⟨w1.heap.size, 2, none⟩ = some (.func (.func 21) #[] #[]) := (hb.cell (p := ⟨w1.heap.size, 2, none⟩) (by simp)).trans (cell_of_row _ _ 2 kindsArr _ _ (heap_alloc_last w1 _))
      have hc3 : wr.cell? ⟨w1.heap.size, 3, none⟩ = some (.func (.func 22) #[] #[]) := (hb.cell (p := ⟨w1.heap.size, 3, none⟩) (by simp)).trans (cell_of_row _ _ 3 kindsArr _ _ (heap_alloc_last w1 _))
      have HR2 := hid (show wr.heap[w.heap.size]? = _ from (hb.block _ (by omega)).trans ((Below.heap_alloc w1 _ _ (by omega)).trans hr1.out))
      go_wp2_with (refine wpList_store_row rfl 37 _ _ rfl w.heap.size _ rfl rfl 37 _ HR2.out told_size rfl (by kernel_rfl) ?_)
      refine bodyPost_ret (v := toldV 0 x 0) (results_cell_row Tryd.results7 _ _ w.heap.size 37 _ (0, 0) _ rfl (setRow_heap _ _ _ _ _ _ HR2.out) Tryd.underlying37 rfl told_size) rfl ⟨0, 0, rfl, bad_of x p hp0 hp1 hp2 hp3 hN.out, below_setRow (hbw.trans (hb0.trans hb')) (Nat.le_refl _) _⟩
end Go.Proofs.YtlbhkaokpfljmabDoor
