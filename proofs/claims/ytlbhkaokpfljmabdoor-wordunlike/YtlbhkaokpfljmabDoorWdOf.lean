/- Package word's Of. -/
import Derived.Test.YtlbhkaokpfljmabDoorWdTell
import Derived.Test.YtlbhkaokpfljmabDoorWdSpec
import Derived.Deep.RegionHeld3
import Derived.BigRegion
namespace Go.Proofs.YtlbhkaokpfljmabDoor
open Go.RowKit
theorem cell_new {w w1 : World} {cs : Array Value} {t : TypeId} (hb : Below (w.alloc (.cells cs t)).heap.size (w.alloc (.cells cs t)) w1) (j : Nat) (v : Value) (hv : cs[j]? = some v) : w1.cell? ⟨w.heap.size, j, none⟩ = some v :=
  (hb.cell (p := ⟨w.heap.size, j, none⟩) (by simp)).trans ((cell_of_row _ _ j _ _ _ (heap_alloc_last w _)).trans hv)
theorem frozen_new {w w1 : World} {cs : Array Value} {t : TypeId} (hb : Below (w.alloc (.cells cs t)).heap.size (w.alloc (.cells cs t)) w1) (j : Nat) : w1.frozen? ⟨w.heap.size, j, none⟩ = false :=
  (hb.frozen (p := ⟨w.heap.size, j, none⟩) (by simp)).trans (frozen_of_row _ _ j _ _ (heap_alloc_last w _))
theorem keep3 (w1 : World) (g : Nat) (v0 v1 v2 : Value) (cs : Array Value) (t : TypeId) (j : Nat) (v : Value) (hv : cs[j]? = some v) :
    ((((w1.setCell ⟨g, 0, none⟩ v0).setCell ⟨g, 1, none⟩ v1).setCell ⟨g, 2, none⟩ v2).alloc (.cells cs t)).drew.cell? ⟨w1.heap.size, j, none⟩ = some v := by
  have hs : (((w1.setCell ⟨g, 0, none⟩ v0).setCell ⟨g, 1, none⟩ v1).setCell ⟨g, 2, none⟩ v2).heap.size = w1.heap.size := by simp [World.setCell]
  have h := heap_alloc_last (((w1.setCell ⟨g, 0, none⟩ v0).setCell ⟨g, 1, none⟩ v1).setCell ⟨g, 2, none⟩ v2) (.cells cs t)
  rw [hs] at h
  exact (cell_of_row _ _ j cs t _ h).trans hv
theorem below3 {w w1 : World} (h : Below w.heap.size w w1) (v0 v1 v2 : Value) (o : Obj) (hz : w.heap.size < w1.heap.size) :
    Below w.heap.size w ((((w1.setCell ⟨w.heap.size, 0, none⟩ v0).setCell ⟨w.heap.size, 1, none⟩ v1).setCell ⟨w.heap.size, 2, none⟩ v2).alloc o).drew :=
  ((((h.setCell (Nat.le_refl _) _).setCell (Nat.le_refl _) _).setCell (Nat.le_refl _) _).alloc (by simp [World.setCell]; omega) _).drew
set_option maxHeartbeats 2000000 in
theorem of_any (x : Int) (w : World) (h0 : 0 ≤ x) (h1 : x ≤ 18446744073709551615) :
    Calls Tryd.prog 4 #[.int .u64 x] w fun e w' => ∃ (k : Nat) (v : Int), e = .returned (.agg #[.int .i64 k, .bool (decide (k ≠ 0) && decide (x % 2 = 1)), .int .i64 v]) ∧ Wd.Is x k v ∧ Below w.heap.size w w' := by
  go_enter Tryd.func4, Tryd.ntmps4
  go_wp2_with (go_at_call 7; refine (tell_any x _ _ h0 h1 (hid rfl) (by omega) (by omega) (by omega) (by omega)).mono ?_)
  rintro e w1 ⟨k, v, rfl, hIs, hb1⟩
  have c0 := cell_new hb1 0 _ rfl
  have c1 := cell_new hb1 1 _ rfl
  have c2 := cell_new hb1 2 _ rfl
  have f0 := frozen_new hb1 0
  have f1 := frozen_new hb1 1
  have f2 := frozen_new hb1 2
  have hz : w.heap.size < w1.heap.size := by have := hb1.size; simp at this; omega
  have hbw : Below w.heap.size w w1 := ((Below.refl _ _).alloc (Nat.le_refl _) _).trans (hb1.mono (by simp))
  clear hb1
  rcases hIs with ⟨rfl, rfl, h⟩ | ⟨rfl, h⟩ | ⟨rfl, h⟩ | ⟨rfl, rfl, h⟩ | ⟨rfl, rfl, h1, h2, h3⟩
  · simp only [toldV]
    by_cases hB : x % 2 = 1
    · have HB := hid hB; clear hB
      go_wp2_with fail
      go_region_held3 (fun w' => w'.cell? ⟨w1.heap.size, 0, none⟩ = some (.int .u64 x) ∧ w'.cell? ⟨w1.heap.size, 1, none⟩ = some (.bool true) ∧ w'.cell? ⟨w1.heap.size, 5, none⟩ = some (.int .i64 1) ∧ w'.cell? ⟨w1.heap.size, 6, none⟩ = some (.int .i64 0)) (first | (go_keep; done) | exact ⟨keep3 w1 w.heap.size _ _ _ _ _ 0 _ rfl, keep3 w1 w.heap.size _ _ _ _ _ 1 _ rfl, keep3 w1 w.heap.size _ _ _ _ _ 5 _ rfl, keep3 w1 w.heap.size _ _ _ _ _ 6 _ rfl⟩) ((go_at_call 8; refine (sealed_at x true _ h0 h1 (by have := HB.out; simp; omega)).mono ?_; rintro e w' ⟨rfl, rfl⟩))
      go_wp2
      refine bodyPost_ret (v := .agg #[.int .i64 1, .bool true, .int .i64 0]) (by simp [results, Tryd.results4, go_sem, c0, c1, c2, hz]) rfl ⟨1, 0, by have := HB.out; simp [this], Or.inl ⟨rfl, rfl, h⟩, below3 hbw _ _ _ _ hz⟩
    · have HB := hid hB; clear hB
      go_wp2_with fail
      go_region_held3 (fun w' => w'.cell? ⟨w1.heap.size, 0, none⟩ = some (.int .u64 x) ∧ w'.cell? ⟨w1.heap.size, 1, none⟩ = some (.bool true) ∧ w'.cell? ⟨w1.heap.size, 5, none⟩ = some (.int .i64 1) ∧ w'.cell? ⟨w1.heap.size, 6, none⟩ = some (.int .i64 0)) (first | (go_keep; done) | exact ⟨keep3 w1 w.heap.size _ _ _ _ _ 0 _ rfl, keep3 w1 w.heap.size _ _ _ _ _ 1 _ rfl, keep3 w1 w.heap.size _ _ _ _ _ 5 _ rfl, keep3 w1 w.heap.size _ _ _ _ _ 6 _ rfl⟩) ((go_at_call 8; refine (sealed_at x false _ h0 h1 (by have := HB.out; simp; omega)).mono ?_; rintro e w' ⟨rfl, rfl⟩))
      go_wp2
      refine bodyPost_ret (v := .agg #[.int .i64 1, .bool false, .int .i64 0]) (by simp [results, Tryd.results4, go_sem, c0, c1, c2, hz]) rfl ⟨1, 0, by have := HB.out; simp [this], Or.inl ⟨rfl, rfl, h⟩, below3 hbw _ _ _ _ hz⟩
  · simp only [toldV]
    by_cases hB : x % 2 = 1
    · have HB := hid hB; clear hB
      go_wp2_with fail
      go_region_held3 (fun w' => w'.cell? ⟨w1.heap.size, 0, none⟩ = some (.int .u64 x) ∧ w'.cell? ⟨w1.heap.size, 1, none⟩ = some (.bool true) ∧ w'.cell? ⟨w1.heap.size, 5, none⟩ = some (.int .i64 2) ∧ w'.cell? ⟨w1.heap.size, 6, none⟩ = some (.int .i64 v)) (first | (go_keep; done) | exact ⟨keep3 w1 w.heap.size _ _ _ _ _ 0 _ rfl, keep3 w1 w.heap.size _ _ _ _ _ 1 _ rfl, keep3 w1 w.heap.size _ _ _ _ _ 5 _ rfl, keep3 w1 w.heap.size _ _ _ _ _ 6 _ rfl⟩) ((go_at_call 8; refine (sealed_at x true _ h0 h1 (by have := HB.out; simp; omega)).mono ?_; rintro e w' ⟨rfl, rfl⟩))
      go_wp2
      refine bodyPost_ret (v := .agg #[.int .i64 2, .bool true, .int .i64 v]) (by simp [results, Tryd.results4, go_sem, c0, c1, c2, hz]) rfl ⟨2, v, by have := HB.out; simp [this], Or.inr (Or.inl ⟨rfl, h⟩), below3 hbw _ _ _ _ hz⟩
    · have HB := hid hB; clear hB
      go_wp2_with fail
      go_region_held3 (fun w' => w'.cell? ⟨w1.heap.size, 0, none⟩ = some (.int .u64 x) ∧ w'.cell? ⟨w1.heap.size, 1, none⟩ = some (.bool true) ∧ w'.cell? ⟨w1.heap.size, 5, none⟩ = some (.int .i64 2) ∧ w'.cell? ⟨w1.heap.size, 6, none⟩ = some (.int .i64 v)) (first | (go_keep; done) | exact ⟨keep3 w1 w.heap.size _ _ _ _ _ 0 _ rfl, keep3 w1 w.heap.size _ _ _ _ _ 1 _ rfl, keep3 w1 w.heap.size _ _ _ _ _ 5 _ rfl, keep3 w1 w.heap.size _ _ _ _ _ 6 _ rfl⟩) ((go_at_call 8; refine (sealed_at x false _ h0 h1 (by have := HB.out; simp; omega)).mono ?_; rintro e w' ⟨rfl, rfl⟩))
      go_wp2
      refine bodyPost_ret (v := .agg #[.int .i64 2, .bool false, .int .i64 v]) (by simp [results, Tryd.results4, go_sem, c0, c1, c2, hz]) rfl ⟨2, v, by have := HB.out; simp [this], Or.inr (Or.inl ⟨rfl, h⟩), below3 hbw _ _ _ _ hz⟩
  · simp only [toldV]
    by_cases hB : x % 2 = 1
    · have HB := hid hB; clear hB
      go_wp2_with fail
      go_region_held3 (fun w' => w'.cell? ⟨w1.heap.size, 0, none⟩ = some (.int .u64 x) ∧ w'.cell? ⟨w1.heap.size, 1, none⟩ = some (.bool true) ∧ w'.cell? ⟨w1.heap.size, 5, none⟩ = some (.int .i64 3) ∧ w'.cell? ⟨w1.heap.size, 6, none⟩ = some (.int .i64 v)) (first | (go_keep; done) | exact ⟨keep3 w1 w.heap.size _ _ _ _ _ 0 _ rfl, keep3 w1 w.heap.size _ _ _ _ _ 1 _ rfl, keep3 w1 w.heap.size _ _ _ _ _ 5 _ rfl, keep3 w1 w.heap.size _ _ _ _ _ 6 _ rfl⟩) ((go_at_call 8; refine (sealed_at x true _ h0 h1 (by have := HB.out; simp; omega)).mono ?_; rintro e w' ⟨rfl, rfl⟩))
      go_wp2
      refine bodyPost_ret (v := .agg #[.int .i64 3, .bool true, .int .i64 v]) (by simp [results, Tryd.results4, go_sem, c0, c1, c2, hz]) rfl ⟨3, v, by have := HB.out; simp [this], Or.inr (Or.inr (Or.inl ⟨rfl, h⟩)), below3 hbw _ _ _ _ hz⟩
    · have HB := hid hB; clear hB
      go_wp2_with fail
      go_region_held3 (fun w' => w'.cell? ⟨w1.heap.size, 0, none⟩ = some (.int .u64 x) ∧ w'.cell? ⟨w1.heap.size, 1, none⟩ = some (.bool true) ∧ w'.cell? ⟨w1.heap.size, 5, none⟩ = some (.int .i64 3) ∧ w'.cell? ⟨w1.heap.size, 6, none⟩ = some (.int .i64 v)) (first | (go_keep; done) | exact ⟨keep3 w1 w.heap.size _ _ _ _ _ 0 _ rfl, keep3 w1 w.heap.size _ _ _ _ _ 1 _ rfl, keep3 w1 w.heap.size _ _ _ _ _ 5 _ rfl, keep3 w1 w.heap.size _ _ _ _ _ 6 _ rfl⟩) ((go_at_call 8; refine (sealed_at x false _ h0 h1 (by have := HB.out; simp; omega)).mono ?_; rintro e w' ⟨rfl, rfl⟩))
      go_wp2
      refine bodyPost_ret (v := .agg #[.int .i64 3, .bool false, .int .i64 v]) (by simp [results, Tryd.results4, go_sem, c0, c1, c2, hz]) rfl ⟨3, v, by have := HB.out; simp [this], Or.inr (Or.inr (Or.inl ⟨rfl, h⟩)), below3 hbw _ _ _ _ hz⟩
  · simp only [toldV]
    have H := hid h; clear h
    go_wp2_with fail
    go_region
    go_wp2
    refine bodyPost_ret (v := .agg #[.int .i64 4, .bool false, .int .i64 0]) (by simp [results, Tryd.results4, go_sem, c0, c1, c2, hz]) rfl ⟨4, 0, by have := H.out; subst this; rfl, Or.inr (Or.inr (Or.inr (Or.inl ⟨rfl, rfl, H.out⟩))), below3 hbw _ _ _ _ hz⟩
  · simp only [toldV]
    go_wp2_with fail
    go_region
    go_wp2
    refine bodyPost_ret (v := .agg #[.int .i64 0, .bool false, .int .i64 0]) (by simp [results, Tryd.results4, go_sem, c0, c1, c2, hz]) rfl ⟨0, 0, by simp, Or.inr (Or.inr (Or.inr (Or.inr ⟨rfl, rfl, by omega, h2, h3⟩))), below3 hbw _ _ _ _ hz⟩
end Go.Proofs.YtlbhkaokpfljmabDoor
