/- The laws' own helpers of stage 6: num, vast, works. Typed by tools/gen06works.py. -/
import Derived.Test.YtjfegimgpkeleaaDoorLyText
set_option linter.unusedVariables false
namespace Go.Proofs.YtjfegimgpkeleaaDoor
open Go.RowKit Go.Ly Go.Sh
theorem lnum_any (n : Int) (w : World) : Calls Tryd.prog 13 #[.int .i64 n] w fun e w' => e = .returned (.int .i64 n) ∧ w' = w := by
  go_enter Tryd.func13, Tryd.ntmps13
  go_wp2
  go_ret
  exact ⟨rfl, rfl⟩
theorem lat_mem {l : List ByteArray} {k : Nat} (h : k < l.length) : at' l k ∈ l := by
  rw [at', List.getD_eq_getElem?_getD, List.getElem?_eq_getElem h]
  exact List.getElem_mem h
/-- More than is looked at. -/
def lvs (ss : List ByteArray) : Bool := decide (20 < ss.length) || ss.any (fun s => decide (20 < s.size))
abbrev aplanO (t s : Int) (a : Option Addr) (n c : Nat) : Obj := .cells #[.int .i64 t, .int .i64 s, .slice a n c] 24
theorem lvast_many (t s : Int) (a : Option Addr) (len cap : Nat) (h : 20 < len) (w : World) : Calls Tryd.prog 8 #[planV t s a len cap] w fun e w' => e = .returned (.bool true) ∧ Below w.heap.size w w' := by
  have h2 : (20 : Int) < (len : Int) := by omega
  go_enter Tryd.func8, Tryd.ntmps8
  go_wp2
  go_ret
  exact ⟨rfl, below_alloc0 _ _⟩
theorem lvast_none (t s : Int) (a : Option Addr) (cap : Nat) (w : World) : Calls Tryd.prog 8 #[planV t s a 0 cap] w fun e w' => e = .returned (.bool false) ∧ Below w.heap.size w w' := by
  go_enter Tryd.func8, Tryd.ntmps8
  go_wp2
  go_loopw [3] (fun i wr => i = .int .i64 0 ∧ wr = w.alloc (aplanO t s a 0 cap)) (fun _ _ => 0)
  case atStart => exact ⟨rfl, rfl⟩
  case round =>
    obtain ⟨rfl, rfl⟩ := hrel
    go_wp2
    go_ret
    exact ⟨rfl, below_alloc0 _ _⟩
set_option maxRecDepth 100000 in
set_option maxHeartbeats 2000000 in
theorem lvast_some (t s : Int) (b off cap : Nat) (ss : List ByteArray) (w : World) (h20 : ss.length ≤ 20) (hc : Hid (∀ i, i < ss.length → w.cell? ⟨b, off + i, none⟩ = some (.string (at' ss i)))) :
    Calls Tryd.prog 8 #[planV t s (some ⟨b, off, none⟩) ss.length cap] w fun e w' => e = .returned (.bool (ss.any (fun s => decide (20 < s.size)))) ∧ Below w.heap.size w w' := by
  have g2 : (ss.length : Int) ≤ 20 := by omega
  obtain ⟨len, hlen⟩ : ∃ len, len = ss.length := ⟨_, rfl⟩
  have HL := hid hlen
  rw [← hlen] at h20 g2
  rw [← hlen]
  clear hlen
  go_enter Tryd.func8, Tryd.ntmps8
  go_wp2
  go_loopw [3] (fun i wr => ∃ k : Nat, k ≤ len ∧ i = .int .i64 k ∧ wr = w.alloc (aplanO t s (some ⟨b, off, none⟩) len cap) ∧ Hid (∀ j, j < k → (at' ss j).size ≤ 20)) (fun i _ => len - (intOf i).toNat)
  case atStart => exact ⟨0, by omega, rfl, rfl, hid (fun j hj => by omega)⟩
  case round =>
    obtain ⟨k, hk, rfl, rfl, hall⟩ := hrel
    by_cases hlt : k < len
    · have hcr := cell_al (aplanO t s (some ⟨b, off, none⟩) len cap) (hc.out k (by rw [← HL.out]; exact hlt))
      obtain ⟨x, hx⟩ : ∃ x, x = at' ss k := ⟨_, rfl⟩
      rw [← hx] at hcr
      have HX := hid hx
      clear hx
      by_cases ho : 20 < x.size
      · have ho' : (20 : Int) < (x.size : Int) := by omega
        have HN : Hid (ss.any (fun s => decide (20 < s.size)) = true) := hid (by
          rw [List.any_eq_true]
          exact ⟨x, by rw [HX.out]; exact lat_mem (by rw [← HL.out]; exact hlt), by simpa using ho⟩)
        clear ho
        go_wp2
        go_ret
        exact ⟨ret_bool HN.out.symm, below_alloc0 _ _⟩
      · have ho' : (x.size : Int) ≤ 20 := by omega
        go_wp2
        refine ⟨⟨k + 1, by omega, by simp, trivial, hid (fun j hj => ?_)⟩, by simp [intOf]; omega⟩
        by_cases hj2 : j < k
        · exact hall.out j hj2
        · obtain rfl : j = k := by omega
          rw [← HX.out]; omega
    · obtain rfl : k = len := by omega
      have HN : Hid (ss.any (fun s => decide (20 < s.size)) = false) := hid (by
        rw [List.any_eq_false]
        intro p hp
        obtain ⟨i, hi, rfl⟩ := List.mem_iff_getElem.1 hp
        have := hall.out i (by rw [HL.out]; exact hi)
        rw [at', List.getD_eq_getElem?_getD, List.getElem?_eq_getElem hi, Option.getD_some] at this
        simpa using this)
      go_wp2
      go_ret
      exact ⟨ret_bool HN.out.symm, below_alloc0 _ _⟩
theorem lvast_any (t s : Int) (a : Option Addr) (n c : Nat) (ss : List ByteArray) (w : World) (h : IsTab w (.slice a n c) ss) :
    Calls Tryd.prog 8 #[planV t s a n c] w fun e w' => e = .returned (.bool (lvs ss)) ∧ Below w.heap.size w w' := by
  by_cases h0 : ss.length = 0
  · obtain ⟨a', cap, e0⟩ := h.len
    obtain ⟨rfl, rfl, rfl⟩ := Value.slice.inj e0
    rw [h0]
    refine (lvast_none t s a c w).mono ?_
    rintro e w' ⟨rfl, b⟩
    exact ⟨ret_bool (by rw [List.eq_nil_of_length_eq_zero h0]; rfl), b⟩
  · by_cases h20 : ss.length ≤ 20
    · obtain ⟨b, off, cap, e0, hc⟩ := h.some (by omega)
      obtain ⟨rfl, rfl, rfl⟩ := Value.slice.inj e0
      refine (lvast_some t s b off c ss w h20 (hid hc)).mono ?_
      rintro e w' ⟨rfl, b⟩
      exact ⟨ret_bool (by simp [lvs, show ¬ 20 < ss.length by omega]), b⟩
    · obtain ⟨a', cap, e0⟩ := h.len
      obtain ⟨rfl, rfl, rfl⟩ := Value.slice.inj e0
      refine (lvast_many t s a _ c (by omega) w).mono ?_
      rintro e w' ⟨rfl, b⟩
      exact ⟨ret_bool (by simp [lvs, show 20 < ss.length by omega]), b⟩
/-- The table of the chapter's rows. -/
def chap6 : List ByteArray := [⟨#[112]⟩]
theorem chap6_tab (w : World) : IsTab (w.alloc (.cells #[.string ⟨#[112]⟩] 58)) (.slice (some ⟨w.heap.size, 0, none⟩) 1 1) chap6 := by
  refine .inr ⟨w.heap.size, 0, 1, rfl, fun i hi => ?_⟩
  obtain rfl : i = 0 := by simp [chap6] at hi; omega
  exact cell_last w _ _ 0 _ rfl
/-- What every later law's world has. -/
structure LAll (w : World) : Prop where
  nums : LNums w
  names : LNames w
  tab : Tab w
theorem LAll.below {w w' : World} (h : LAll w) (hb : Below w.heap.size w w') : LAll w' := ⟨h.nums.below hb, h.names.below hb, tab_below h.tab hb⟩
theorem chap_text : txl 2 40 chap6 4 = (⟨#[97, 99, 107, 32, 49]⟩, 0) := by decide +kernel
set_option maxRecDepth 100000 in
set_option maxHeartbeats 8000000 in
theorem lworks_any (w : World) (hA : LAll w) : Calls Tryd.prog 9 #[] w fun e w' => e = .returned (.bool true) ∧ Below w.heap.size w w' := by
  have HA := hid hA
  clear hA
  have T0 := hid ((chap6_tab w).below (Nat.le_refl _) (below_alloc0 _ (aplanO 2 40 (some ⟨w.heap.size, 0, none⟩) 1 1)))
  have B0 := hid (below2' w (.cells #[.string ⟨#[112]⟩] 58) (aplanO 2 40 (some ⟨w.heap.size, 0, none⟩) 1 1))
  have R0 : Hid (((w.alloc (.cells #[.string ⟨#[112]⟩] 58)).alloc (aplanO 2 40 (some ⟨w.heap.size, 0, none⟩) 1 1)).heap[w.heap.size + 1]? = some (aplanO 2 40 (some ⟨w.heap.size, 0, none⟩) 1 1)) := hid (row2b (Below.refl _ _))
  go_enter Tryd.func9, Tryd.ntmps9
  go_wp2_with (go_at_call 10; refine (LSize_at 2 40 _ 1 1 chap6 _ 87 0 T0.out (hid (by decide))).mono ?_)
  rintro e w1 ⟨rfl, b⟩
  have T1 := hid (T0.out.below (Nat.le_refl _) b)
  have R1 := hid (row_below R0.out b)
  have B1 := hid (B0.out.trans (b.mono B0.out.size))
  clear T0 R0 B0 b
  have p0 := at_row R1.out 0 rfl
  have p1 := at_row R1.out 1 rfl
  have p2 := at_row R1.out 2 rfl
  go_wp2_with (go_at_call 17; refine (Ack_at 2 40 1 4 0 _ 1 1 chap6 _ T1.out (HA.out.below B1.out).nums (hid (by decide))).mono ?_)
  rintro e w2 ⟨rfl, b⟩
  have T2 := hid (T1.out.below (Nat.le_refl _) b)
  have R2 := hid (row_below R1.out b)
  have B2 := hid (B1.out.trans (b.mono B1.out.size))
  clear T1 R1 B1 b p0 p1 p2
  have p0 := at_row R2.out 0 rfl
  have p1 := at_row R2.out 1 rfl
  have p2 := at_row R2.out 2 rfl
  go_wp2_with (go_at_call 18; refine (List_at 2 40 0 5 0 _ 1 1 chap6 _ T2.out (HA.out.below B2.out).nums (hid (by decide))).mono ?_)
  rintro e w3 ⟨rfl, b⟩
  have T3 := hid (T2.out.below (Nat.le_refl _) b)
  have R3 := hid (row_below R2.out b)
  have B3 := hid (B2.out.trans (b.mono B2.out.size))
  clear T2 R2 B2 b p0 p1 p2
  have p0 := at_row R3.out 0 rfl
  have p1 := at_row R3.out 1 rfl
  have p2 := at_row R3.out 2 rfl
  go_wp2_with (go_at_call 19; refine (Base_at 2 40 1 47 0 _ 1 1 chap6 _ T3.out (HA.out.below B3.out).nums (hid (by decide))).mono ?_)
  rintro e w4 ⟨rfl, b⟩
  have T4 := hid (T3.out.below (Nat.le_refl _) b)
  have R4 := hid (row_below R3.out b)
  have B4 := hid (B3.out.trans (b.mono B3.out.size))
  clear T3 R3 B3 b p0 p1 p2
  have p0 := at_row R4.out 0 rfl
  have p1 := at_row R4.out 1 rfl
  have p2 := at_row R4.out 2 rfl
  go_wp2_with (go_at_call 23; refine (Part_at 2 40 50 6 1 3 0 _ 1 1 chap6 _ T4.out (hid (by decide))).mono ?_)
  rintro e w5 ⟨rfl, b⟩
  have T5 := hid (T4.out.below (Nat.le_refl _) b)
  have R5 := hid (row_below R4.out b)
  have B5 := hid (B4.out.trans (b.mono B4.out.size))
  clear T4 R4 B4 b p0 p1 p2
  have RP : Hid ((w5.alloc (.cells #[.int .i64 6, .int .i64 1, .int .i64 3] 45)).heap[w5.heap.size]? = some (.cells #[.int .i64 6, .int .i64 1, .int .i64 3] 45)) := hid (row1 (Below.refl _ _))
  have bA := below_alloc0 w5 (.cells #[.int .i64 6, .int .i64 1, .int .i64 3] 45)
  have T6 := hid (T5.out.below (Nat.le_refl _) bA)
  have R6 := hid (row_below R5.out bA)
  have B6 := hid (B5.out.trans (bA.mono B5.out.size))
  clear T5 R5 B5 bA
  have p0 := at_row R6.out 0 rfl
  have p1 := at_row R6.out 1 rfl
  have p2 := at_row R6.out 2 rfl
  go_wp2_with (go_at_call 24; refine (LText_at 2 40 4 ⟨#[97, 99, 107, 32, 49]⟩ 0 _ 1 1 chap6 _ T6.out (HA.out.below B6.out).nums (HA.out.below B6.out).names (HA.out.below B6.out).tab (hid chap_text)).mono ?_)
  rintro e w7 ⟨rfl, b⟩
  have T7 := hid (T6.out.below (Nat.le_refl _) b)
  have R7 := hid (row_below R6.out b)
  have RP7 := hid (row_below RP.out b)
  have B7 := hid (B6.out.trans (b.mono B6.out.size))
  clear T6 R6 B6 b RP p0 p1 p2
  have p0 := at_row R7.out 0 rfl
  have p1 := at_row R7.out 1 rfl
  have p2 := at_row R7.out 2 rfl
  generalize w5.heap.size = G5 at *
  go_wp2_with (go_at_call 23; refine (Part_at 2 40 87 0 0 0 4 _ 1 1 chap6 _ T7.out (hid (by decide))).mono ?_)
  rintro e w8 ⟨rfl, b⟩
  have RP8 := hid (row_below (row_below RP7.out b) (below_alloc0 w8 zPart))
  have B8 := hid ((B7.out.trans (b.mono B7.out.size)).trans ((below_alloc0 w8 zPart).mono (B7.out.trans (b.mono B7.out.size)).size))
  clear T7 R7 B7 b RP7 p0 p1 p2
  have p0 := at_row RP8.out 0 rfl
  have p1 := at_row RP8.out 1 rfl
  have p2 := at_row RP8.out 2 rfl
  go_wp2_with (go_at_call 13; refine (lnum_any _ _).mono ?_; rintro e w9 ⟨rfl, rfl⟩)
  go_ret
  exact ⟨rfl, B8.out⟩
end Go.Proofs.YtjfegimgpkeleaaDoor
