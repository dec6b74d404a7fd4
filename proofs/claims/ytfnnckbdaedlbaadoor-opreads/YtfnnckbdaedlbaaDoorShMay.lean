/- package shape: may: a range over a text, a map asked at each letter. -/
import Derived.Test.YtfnnckbdaedlbaaDoorShLeaf
namespace Go.Proofs.YtfnnckbdaedlbaaDoor
open Go.RowKit Go.Sh
theorem may_long (s : ByteArray) (w : World) (h : 8 < s.size) : Calls Tryd.prog 49 #[.string s] w fun e w' => e = .returned (.bool false) ∧ Below w.heap.size w w' := by
  have h' : (8 : Int) < (s.size : Int) := by omega
  go_enter Tryd.func49, Tryd.ntmps49
  go_wp2
  go_ret
  exact ⟨rfl, Below.refl _ _⟩
/-- What the letters are, from a place on: the decoded one is a letter just if the byte is. -/
theorem lok_decode (s : ByteArray) (pos : Nat) (h : pos < s.size) : lok ((Utf8.decode s pos).1 : Int) = okB (s.data.toList.getD pos 0) := by
  have hl : pos < s.data.toList.length := by rw [Array.length_toList]; exact h
  have hg : s.data.toList.getD pos 0 = s[pos]'h := by
    rw [List.getD_eq_getElem?_getD, List.getElem?_eq_getElem hl, Option.getD_some]
    rfl
  rw [hg]
  by_cases ha : (s[pos]'h).toNat < 128
  · rw [decode_ascii s pos h ha]
    generalize s[pos]'h = b
    simp only [lok, okB]
    rw [Bool.eq_iff_iff]
    simp only [Bool.or_eq_true, beq_iff_eq]
    constructor
    · rintro (h | h)
      · left; apply UInt8.toNat_inj.1; simp; omega
      · right; apply UInt8.toNat_inj.1; simp; omega
    · rintro (h | h) <;> subst h <;> simp
  · have hd := (decode_high s pos h (by omega)).1
    generalize hb : s[pos]'h = b
    rw [hb] at ha
    have e1 : lok ((Utf8.decode s pos).1 : Int) = false := by
      simp only [lok, Bool.or_eq_false_iff, beq_eq_false_iff_ne]
      constructor <;> omega
    have e2 : okB b = false := by
      simp only [okB, Bool.or_eq_false_iff, beq_eq_false_iff_ne]
      constructor <;> (rintro rfl; simp at ha)
    rw [e1, e2]
/-- Where the byte is a letter, it is decoded as itself. -/
theorem decode_okB (s : ByteArray) (pos : Nat) (h : pos < s.size) (hb : okB (s.data.toList.getD pos 0) = true) : (Utf8.decode s pos).2 = 1 ∧ lk ((Utf8.decode s pos).1 : Int) = kb (s.data.toList.getD pos 0) := by
  have hl : pos < s.data.toList.length := by rw [Array.length_toList]; exact h
  have hg : s.data.toList.getD pos 0 = s[pos]'h := by
    rw [List.getD_eq_getElem?_getD, List.getElem?_eq_getElem hl, Option.getD_some]
    rfl
  rw [hg] at hb ⊢
  simp only [okB, Bool.or_eq_true, beq_iff_eq] at hb
  have ha : (s[pos]'h).toNat < 128 := by
    rcases hb with hb | hb <;> rw [hb] <;> decide
  rw [decode_ascii s pos h ha]
  refine ⟨rfl, ?_⟩
  rcases hb with hb | hb <;> rw [hb] <;> decide
theorem all_upto (s : ByteArray) (pos : Nat) (h : ∀ j, j < pos → okB (s.data.toList.getD j 0) = true) (hp : s.size ≤ pos) (h8 : s.size ≤ 8) : one s = true := by
  simp only [one, Bool.and_eq_true, decide_eq_true_eq, List.all_eq_true]
  refine ⟨h8, fun x hx => ?_⟩
  obtain ⟨i, hi, rfl⟩ := List.mem_iff_getElem.1 hx
  have hl : i < s.size := by rw [Array.length_toList] at hi; exact hi
  have := h i (by omega)
  rwa [List.getD_eq_getElem?_getD, List.getElem?_eq_getElem hi] at this
theorem one_no (s : ByteArray) (pos : Nat) (hp : pos < s.size) (h : okB (s.data.toList.getD pos 0) = false) : one s = false := by
  simp only [one, Bool.and_eq_false_iff, List.all_eq_false]
  right
  have hl : pos < s.data.toList.length := by rw [Array.length_toList]; exact hp
  refine ⟨_, List.getElem_mem hl, ?_⟩
  rw [List.getD_eq_getElem?_getD, List.getElem?_eq_getElem hl, Option.getD_some] at h
  simpa using h
set_option maxRecDepth 100000 in
set_option maxHeartbeats 2000000 in
theorem may_short (s : ByteArray) (w : World) (h : s.size ≤ 8) : Calls Tryd.prog 49 #[.string s] w fun e w' => e = .returned (.bool (one s)) ∧ Below w.heap.size w w' := by
  have h' : (s.size : Int) ≤ 8 := by omega
  go_enter Tryd.func49, Tryd.ntmps49
  go_wp2_with (go_at_call 72; refine (letters_any _).mono ?_; rintro e w' ⟨rfl, rfl⟩)
  go_loopw [] (fun wr => ∃ (pos : Nat), wr.heap[w.heap.size]? = some lettersObj ∧ wr.heap[w.heap.size + 1]? = some (.stringIter s pos) ∧ Below w.heap.size w wr ∧ ∀ j, j < pos → okB (s.data.toList.getD j 0) = true) (fun wr => s.size - wr.iterPos (w.heap.size + 1))
  case atStart =>
    refine ⟨0, ?_, ?_, ((Below.refl _ w).alloc (Nat.le_refl _) _).alloc (by simp) _, fun j hj => by omega⟩
    · exact (Below.heap_alloc _ _ _ (by simp)).trans (heap_alloc_last w _)
    · have := World.iter_heap (w.alloc lettersObj) s 0
      simpa using this
  case round =>
    obtain ⟨pos, hm, hit, hbw, hall⟩ := hrel
    by_cases hp : pos < s.size
    · have hnx : ∀ ty, (Instr.next (.pointer (some ⟨w.heap.size + 1, 0, none⟩)) true ty).run Tryd.prog wr = _ := fun ty => Lib.run_next_any_at wr (w.heap.size + 1) s pos ty hit hp
      have hm2 : (wr.iterAt (w.heap.size + 1) s (pos + (Utf8.decode s pos).2)).heap[w.heap.size]? = some lettersObj := (Lib.iterAt_other wr _ _ s _ (by omega)).trans hm
      have hit2 := Lib.iterAt_heap wr (w.heap.size + 1) s pos (pos + (Utf8.decode s pos).2) hit
      have hbw2 := Lib.below_iterAt hbw (k := w.heap.size + 1) (by omega) s (pos + (Utf8.decode s pos).2)
      have hlk := lookup_ok _ _ hm2 ((Utf8.decode s pos).1 : Int)
      have hlo := lok_decode s pos hp
      by_cases hb : okB (s.data.toList.getD pos 0) = true
      · rw [hlo, hb] at hlk
        go_wp2
        obtain ⟨hw1, _⟩ := decode_okB s pos hp hb
        go_roundw
        case rel =>
          refine ⟨pos + (Utf8.decode s pos).2, hm2, hit2, hbw2, fun j hj => ?_⟩
          rw [hw1] at hj
          by_cases hj2 : j < pos
          · exact hall j hj2
          · obtain rfl : j = pos := by omega
            exact hb
        case measure =>
          simp only [World.iterPos, hit2, hit]
          omega
      · have hb' : okB (s.data.toList.getD pos 0) = false := by simpa using hb
        rw [hlo, hb'] at hlk
        go_wp2
        go_ret
        exact ⟨ret_bool (one_no s pos hp hb').symm, hbw2⟩
    · have hnx : ∀ ty, (Instr.next (.pointer (some ⟨w.heap.size + 1, 0, none⟩)) true ty).run Tryd.prog wr = _ := fun ty => Lib.run_next_end_at wr (w.heap.size + 1) s pos ty hit hp
      go_wp2
      go_ret
      exact ⟨ret_bool (all_upto s pos hall (by omega) h).symm, hbw⟩
theorem may_any (s : ByteArray) (w : World) : Calls Tryd.prog 49 #[.string s] w fun e w' => e = .returned (.bool (one s)) ∧ Below w.heap.size w w' := by
  by_cases h : s.size ≤ 8
  · exact may_short s w h
  · refine (may_long s w (by omega)).mono ?_
    rintro e w' ⟨rfl, b⟩
    have : one s = false := by simp [one, h]
    exact ⟨by rw [this], b⟩
end Go.Proofs.YtfnnckbdaedlbaaDoor
