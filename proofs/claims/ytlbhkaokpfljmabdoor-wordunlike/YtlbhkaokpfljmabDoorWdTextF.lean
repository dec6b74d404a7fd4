/- Package word's Text. -/
import Derived.Test.YtlbhkaokpfljmabDoorWdRead
import Derived.Lib.AppendIntMem
import Derived.Lib.ItoaLen
namespace Go.Proofs.YtlbhkaokpfljmabDoor
open Go.RowKit
/-- The library's table of powers stands as it was laid. -/
def Tab (w : World) : Prop := Lib.TabIs Tryd.prog w "internal/strconv.uint64pow10" .u64 Lib.pow10Tab
theorem tab_lt {w : World} (h : Tab w) : ∃ g, Tryd.prog.globalNamed "internal/strconv.uint64pow10" = some g ∧ g < w.heap.size := by
  unfold Tab Lib.TabIs World.var? at h
  cases hg : Tryd.prog.globalNamed "internal/strconv.uint64pow10" with
  | none => rw [hg] at h; cases h
  | some g =>
    rw [hg] at h
    refine ⟨g, rfl, ?_⟩
    by_cases hlt : g < w.heap.size
    · exact hlt
    · have hn : w.heap[g]? = none := by simp; omega
      simp [hn] at h
theorem tab_below {w w' : World} (h : Tab w) (hb : Below w.heap.size w w') : Tab w' := by
  obtain ⟨g, hg, hlt⟩ := tab_lt h
  exact var?_below hb hg hlt h
/-- What FormatInt needs at a number: it is small, or the table stands. -/
def Fit (v : Int) (w : World) : Prop := (0 ≤ v ∧ v < 100) ∨ Tab w
theorem fit_below {v : Int} {w w' : World} (h : Fit v w) (hb : Below w.heap.size w w') : Fit v w' := h.imp id (fun t => tab_below t hb)
theorem format_any (v : Int) (w : World) (h0 : -9223372036854775808 ≤ v) (h1 : v ≤ 9223372036854775807) (h : Fit v w) :
    Calls Tryd.prog 36 #[.int .i64 v, .int .i64 10] w fun e w' => e = .returned (.string ⟨(Lib.itoa v).toArray⟩) ∧ Below w.heap.size w w' := by
  rcases h with ⟨ha, hb⟩ | h
  · obtain ⟨i, rfl⟩ := Int.eq_ofNat_of_zero_le ha
    refine (Tryd.strconv_FormatInt_10_small i (by omega) w).mono ?_
    rintro e w' ⟨rfl, rfl⟩
    refine ⟨?_, Below.refl _ _⟩
    unfold Lib.itoa
    rw [if_neg (by omega)]
    rfl
  · refine (Tryd.strconv_FormatInt_10 v h0 h1 w h).mono ?_
    rintro e w' ⟨rfl, k, os, rfl⟩
    exact ⟨rfl, Lib.below_grow _ _ (Nat.le_refl _) _ _⟩
theorem ret_str {a b : ByteArray} (h : a = b) : Ending.returned (.string a) = .returned (.string b) := by rw [h]
theorem bytes_append (l m : List UInt8) : (⟨l.toArray⟩ : ByteArray) ++ (⟨m.toArray⟩ : ByteArray) = ⟨(l ++ m).toArray⟩ := by
  apply ByteArray.ext
  rw [ByteArray.data_append]
  simp
/-- A word's text without its seal's sign, by its kind and what it holds (P1.3). -/
def txB : Nat → Int → List UInt8
  | 1, _ => [110, 117, 108, 108]
  | 2, v => 64 :: Lib.itoa v
  | 3, v => Lib.itoa v
  | 4, _ => [101, 109, 112, 116, 121]
  | _, _ => [98, 97, 100]
theorem textPointer_at (v : Int) (S : ByteArray) (w : World) (h0 : -9223372036854775808 ≤ v) (h1 : v ≤ 9223372036854775807) (h : Hid (Fit v w)) (hS : Hid ((⟨(txB 2 v).toArray⟩ : ByteArray) = S)) :
    Calls Tryd.prog 27 #[.int .i64 v] w fun e w' => e = .returned (.string S) ∧ Below w.heap.size w w' := by
  have hl := Lib.itoa_length_le v h0 h1
  generalize hs : (⟨(Lib.itoa v).toArray⟩ : ByteArray) = T
  have hsz : T.size ≤ 21 := by rw [← hs]; exact hl
  have HT : Hid (({ data := #[64] } : ByteArray) ++ T = S) := by rw [← hs]; exact (bytes_append [64] (Lib.itoa v)).trans hS.out
  go_enter Tryd.func27, Tryd.ntmps27
  go_wp2_with (go_at_call 36; refine (format_any v _ h0 h1 h.out).mono ?_)
  rintro e w1 ⟨rfl, hb⟩
  rw [hs]
  clear hs
  go_wp2
  go_ret
  exact ⟨ret_str HT.out, hb⟩
theorem textScalar_at (v : Int) (S : ByteArray) (w : World) (h0 : -9223372036854775808 ≤ v) (h1 : v ≤ 9223372036854775807) (h : Hid (Fit v w)) (hS : Hid ((⟨(txB 3 v).toArray⟩ : ByteArray) = S)) :
    Calls Tryd.prog 30 #[.int .i64 v] w fun e w' => e = .returned (.string S) ∧ Below w.heap.size w w' := by
  go_enter Tryd.func30, Tryd.ntmps30
  go_wp2_with (go_at_call 36; refine (format_any v _ h0 h1 h.out).mono ?_)
  rintro e w1 ⟨rfl, hb⟩
  rw [show (⟨(Lib.itoa v).toArray⟩ : ByteArray) = S from hS.out]
  go_wp2
  go_ret
  exact ⟨rfl, hb⟩
theorem textBad_at (v : Int) (S : ByteArray) (w : World) (hS : Hid ((⟨(txB 0 v).toArray⟩ : ByteArray) = S)) :
    Calls Tryd.prog 22 #[.int .i64 v] w fun e w' => e = .returned (.string S) ∧ Below w.heap.size w w' := by
  go_enter Tryd.func22, Tryd.ntmps22
  go_wp2
  go_ret
  exact ⟨ret_str hS.out, Below.refl _ _⟩
theorem textNull_at (v : Int) (S : ByteArray) (w : World) (hS : Hid ((⟨(txB 1 v).toArray⟩ : ByteArray) = S)) :
    Calls Tryd.prog 24 #[.int .i64 v] w fun e w' => e = .returned (.string S) ∧ Below w.heap.size w w' := by
  go_enter Tryd.func24, Tryd.ntmps24
  go_wp2
  go_ret
  exact ⟨ret_str hS.out, Below.refl _ _⟩
theorem textEmpty_at (v : Int) (S : ByteArray) (w : World) (hS : Hid ((⟨(txB 4 v).toArray⟩ : ByteArray) = S)) :
    Calls Tryd.prog 32 #[.int .i64 v] w fun e w' => e = .returned (.string S) ∧ Below w.heap.size w w' := by
  go_enter Tryd.func32, Tryd.ntmps32
  go_wp2
  go_ret
  exact ⟨ret_str hS.out, Below.refl _ _⟩
theorem txB_len (k : Nat) (v : Int) (h0 : -9223372036854775808 ≤ v) (h1 : v ≤ 9223372036854775807) : (txB k v).length ≤ 22 := by
  have := Lib.itoa_length_le v h0 h1
  unfold txB
  split <;> simp <;> omega
/-- A word's text, by its kind, its seal and what it holds. -/
def txS (s : Bool) (k : Nat) (v : Int) : List UInt8 := if s = true then 33 :: txB k v else txB k v
theorem is_bd {x : Int} {k : Nat} {v : Int} (h : Wd.Is x k v) : -9223372036854775808 ≤ v ∧ v ≤ 9223372036854775807 := by
  rcases h with ⟨_, h, _⟩ | ⟨_, h1, h2, _⟩ | ⟨_, h1, h2, _⟩ | ⟨_, h, _⟩ | ⟨_, h, _⟩ <;> omega
set_option maxHeartbeats 2000000 in
theorem text_any (x : Int) (w : World) (h0 : 0 ≤ x) (h1 : x ≤ 18446744073709551615) (hf : Hid (∀ k v, Wd.Is x k v → Fit v w)) :
    Calls Tryd.prog 6 #[.int .u64 x] w fun e w' => ∃ (k : Nat) (v : Int), e = .returned (.string ⟨(txS (decide (k ≠ 0) && decide (x % 2 = 1)) k v).toArray⟩) ∧ Wd.Is x k v ∧ Below w.heap.size w w' := by
  go_enter Tryd.func6, Tryd.ntmps6
  go_wp2_with (go_at_call 7; refine (tell_any x _ _ h0 h1 (hid rfl) (by omega) (by omega) (by omega) (by omega)).mono ?_)
  rintro e w1 ⟨k, v, rfl, hIs, hbw⟩
  have HI := hid hIs
  have hfit := hid (fun (w' : World) (hb : Below w.heap.size w w') => fit_below (hf.out k v hIs) hb)
  clear hf
  obtain ⟨hv0, hv1⟩ := is_bd hIs
  have hl := txB_len k v hv0 hv1
  generalize hS : (⟨(txB k v).toArray⟩ : ByteArray) = S
  have hsz : S.size ≤ 22 := by rw [← hS]; exact hl
  have HS := hid hS
  have HT : Hid (({ data := #[33] } : ByteArray) ++ S = ⟨(33 :: txB k v).toArray⟩) := by rw [← hS]; exact bytes_append [33] (txB k v)
  clear hS hl
  rcases hIs with ⟨rfl, rfl, h⟩ | ⟨rfl, h⟩ | ⟨rfl, h⟩ | ⟨rfl, rfl, h⟩ | ⟨rfl, rfl, h⟩
  · clear h
    simp only [toldV]
    by_cases hB : x % 2 = 1
    · have HB := hid hB; clear hB
      go_wp2_with (first | (go_at_call 24; refine (textNull_at 0 S _ HS).mono ?_) | (go_at_call 8; refine (sealed_at x true _ h0 h1 (by have := HB.out; simp; omega)).mono ?_; rintro e w' ⟨rfl, rfl⟩))
      rintro e w2 ⟨rfl, hb2⟩
      go_wp2
      go_ret
      refine ⟨1, 0, ret_str ?_, HI.out, (hbw.alloc (by have := hbw.size; omega) _).trans (hb2.mono (by simp; have := hbw.size; omega))⟩
      rw [show (decide ((1 : Nat) ≠ 0) && decide (x % 2 = 1)) = true by have := HB.out; simp; omega]
      exact HT.out
    · have HB := hid hB; clear hB
      go_wp2_with (first | (go_at_call 24; refine (textNull_at 0 S _ HS).mono ?_) | (go_at_call 8; refine (sealed_at x false _ h0 h1 (by have := HB.out; simp; omega)).mono ?_; rintro e w' ⟨rfl, rfl⟩))
      rintro e w2 ⟨rfl, hb2⟩
      go_wp2
      go_ret
      refine ⟨1, 0, ret_str ?_, HI.out, (hbw.alloc (by have := hbw.size; omega) _).trans (hb2.mono (by simp; have := hbw.size; omega))⟩
      rw [show (decide ((1 : Nat) ≠ 0) && decide (x % 2 = 1)) = false by have := HB.out; simp; omega]
      exact HS.out.symm
  · clear h
    simp only [toldV]
    by_cases hB : x % 2 = 1
    · have HB := hid hB; clear hB
      go_wp2_with (first | (go_at_call 27; refine (textPointer_at v S _ hv0 hv1 (hfit.out _ (hbw.alloc (by have := hbw.size; omega) _)) HS).mono ?_) | (go_at_call 8; refine (sealed_at x true _ h0 h1 (by have := HB.out; simp; omega)).mono ?_; rintro e w' ⟨rfl, rfl⟩))
      rintro e w2 ⟨rfl, hb2⟩
      go_wp2
      go_ret
      refine ⟨2, v, ret_str ?_, HI.out, (hbw.alloc (by have := hbw.size; omega) _).trans (hb2.mono (by simp; have := hbw.size; omega))⟩
      rw [show (decide ((2 : Nat) ≠ 0) && decide (x % 2 = 1)) = true by have := HB.out; simp; omega]
      exact HT.out
    · have HB := hid hB; clear hB
      go_wp2_with (first | (go_at_call 27; refine (textPointer_at v S _ hv0 hv1 (hfit.out _ (hbw.alloc (by have := hbw.size; omega) _)) HS).mono ?_) | (go_at_call 8; refine (sealed_at x false _ h0 h1 (by have := HB.out; simp; omega)).mono ?_; rintro e w' ⟨rfl, rfl⟩))
      rintro e w2 ⟨rfl, hb2⟩
      go_wp2
      go_ret
      refine ⟨2, v, ret_str ?_, HI.out, (hbw.alloc (by have := hbw.size; omega) _).trans (hb2.mono (by simp; have := hbw.size; omega))⟩
      rw [show (decide ((2 : Nat) ≠ 0) && decide (x % 2 = 1)) = false by have := HB.out; simp; omega]
      exact HS.out.symm
  · clear h
    simp only [toldV]
    by_cases hB : x % 2 = 1
    · have HB := hid hB; clear hB
      go_wp2_with (first | (go_at_call 30; refine (textScalar_at v S _ hv0 hv1 (hfit.out _ (hbw.alloc (by have := hbw.size; omega) _)) HS).mono ?_) | (go_at_call 8; refine (sealed_at x true _ h0 h1 (by have := HB.out; simp; omega)).mono ?_; rintro e w' ⟨rfl, rfl⟩))
      rintro e w2 ⟨rfl, hb2⟩
      go_wp2
      go_ret
      refine ⟨3, v, ret_str ?_, HI.out, (hbw.alloc (by have := hbw.size; omega) _).trans (hb2.mono (by simp; have := hbw.size; omega))⟩
      rw [show (decide ((3 : Nat) ≠ 0) && decide (x % 2 = 1)) = true by have := HB.out; simp; omega]
      exact HT.out
    · have HB := hid hB; clear hB
      go_wp2_with (first | (go_at_call 30; refine (textScalar_at v S _ hv0 hv1 (hfit.out _ (hbw.alloc (by have := hbw.size; omega) _)) HS).mono ?_) | (go_at_call 8; refine (sealed_at x false _ h0 h1 (by have := HB.out; simp; omega)).mono ?_; rintro e w' ⟨rfl, rfl⟩))
      rintro e w2 ⟨rfl, hb2⟩
      go_wp2
      go_ret
      refine ⟨3, v, ret_str ?_, HI.out, (hbw.alloc (by have := hbw.size; omega) _).trans (hb2.mono (by simp; have := hbw.size; omega))⟩
      rw [show (decide ((3 : Nat) ≠ 0) && decide (x % 2 = 1)) = false by have := HB.out; simp; omega]
      exact HS.out.symm
  · have HX := hid h; clear h
    simp only [toldV]
    go_wp2_with (first | (go_at_call 32; refine (textEmpty_at 0 S _ HS).mono ?_))
    rintro e w2 ⟨rfl, hb2⟩
    go_wp2
    go_ret
    refine ⟨4, 0, ret_str ?_, HI.out, (hbw.alloc (by have := hbw.size; omega) _).trans (hb2.mono (by simp; have := hbw.size; omega))⟩
    rw [show (decide ((4 : Nat) ≠ 0) && decide (x % 2 = 1)) = false by have := HX.out; rw [this]; rfl]
    exact HS.out.symm
  · clear h
    simp only [toldV]
    go_wp2_with (first | (go_at_call 22; refine (textBad_at 0 S _ HS).mono ?_))
    rintro e w2 ⟨rfl, hb2⟩
    go_wp2
    go_ret
    refine ⟨0, 0, ret_str ?_, HI.out, (hbw.alloc (by have := hbw.size; omega) _).trans (hb2.mono (by simp; have := hbw.size; omega))⟩
    rw [show (decide ((0 : Nat) ≠ 0) && decide (x % 2 = 1)) = false by simp]
    exact HS.out.symm
end Go.Proofs.YtlbhkaokpfljmabDoor
