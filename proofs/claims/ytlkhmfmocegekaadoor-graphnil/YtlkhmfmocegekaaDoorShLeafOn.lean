/- package shape's leaves: letters (a map made anew), may (a range over a text). -/
import Derived.Test.YtlkhmfmocegekaaDoorBsKit
import Derived.Test.YtlkhmfmocegekaaDoorWdRtOn
import Derived.Lib.OthersKept
import Derived.MapKept
namespace Go.Proofs.YtlkhmfmocegekaaDoor
open Go.RowKit
/-- The map that letters makes. -/
def lettersObj : Obj := .map #[{ key := .int .i32 112, val := .int .i64 0, born := 0 }, { key := .int .i32 115, val := .int .i64 1, born := 1 }] 2
theorem set_alloc_new (w : World) (o o' : Obj) : ({ w.alloc o with heap := (w.alloc o).heap.setIfInBounds w.heap.size o' } : World) = w.alloc o' := by
  have e : (w.heap.push o).setIfInBounds w.heap.size o' = w.heap.push o' := by
    apply Array.ext_getElem?
    intro i
    by_cases h : i = w.heap.size
    · subst h; simp
    · simp [Array.getElem?_push, h, Ne.symm h]
  show ({ w with heap := (w.heap.push o).setIfInBounds w.heap.size o' } : World) = { w with heap := w.heap.push o' }
  rw [e]
theorem mapUpdate_new (w : World) (es : Array MapEntry) (c : Nat) (k : Int) (x : Value) (hf : Instr.findNow (.int .i32) (.int .i32 k) es.toList 0 = some none) :
    (Instr.mapUpdate 118 (.map (some w.heap.size)) (.int .i32 k) x).run Tryd.prog (w.alloc (.map es c)) = .ok () (w.alloc (.map (es.push { key := .int .i32 k, val := x, born := c }) (c + 1))) := by
  have hm := Tryd.underlying118
  have hk := Tryd.underlying21
  have hb := heap_alloc_last w (.map es c)
  have hc : (Instr.checkKey false 10000 21 (.int .i32 k)).run Tryd.prog (w.alloc (.map es c)) = .ok () (w.alloc (.map es c)) := MapKept.run_checkKey (k := .int .i32 k) hk (by simp [MapKept.IsKey]) false 9999
  simp [Instr.mapUpdate, run_underlying hm, MapKept.run_getObj_map hb, hc, MapKept.run_findKey hk hf, MapKept.run_setObj_map _ hb, Result.andThen]
  exact set_alloc_new w _ _
theorem letters_any (w : World) : Calls Tryd.prog 50 #[] w fun e w' => e = .returned (.map (some w.heap.size)) ∧ w' = w.alloc lettersObj := by
  have hmm := @run_makeMap Tryd.prog
  have u1 := mapUpdate_new w #[] 0 112 (.int .i64 0) rfl
  have u2 := mapUpdate_new w #[{ key := .int .i32 112, val := .int .i64 0, born := 0 }] 1 115 (.int .i64 1) rfl
  simp only [List.push_toArray, List.nil_append, List.cons_append] at u1 u2
  go_enter Tryd.func50, Tryd.ntmps50
  go_wp2
  go_ret
  exact ⟨rfl, rfl⟩
/-- What a letter's kind is in that map; none is 0, false. -/
def lk (r : Int) : Int := if r = 115 then 1 else 0
def lok (r : Int) : Bool := r == 112 || r == 115
theorem find_letters (r : Int) : Instr.findNow (.int .i32) (.int .i32 r) [{ key := .int .i32 112, val := .int .i64 0, born := 0 }, { key := .int .i32 115, val := .int .i64 1, born := 1 }] 0
    = some (if r = 112 then some (0, .int .i64 0) else if r = 115 then some (1, .int .i64 1) else none) := by
  by_cases h1 : r = 112
  · subst h1; rfl
  · by_cases h2 : r = 115
    · subst h2; rfl
    · have e1 : (r == 112) = false := by simpa using h1
      have e2 : (r == 115) = false := by simpa using h2
      simp [Instr.findNow, Instr.sameNow, h1, h2, e1, e2]
theorem lookup_ok (w : World) (g : Nat) (hb : w.heap[g]? = some lettersObj) (r : Int) :
    (Instr.lookup 118 (.map (some g)) (.int .i32 r) true).run Tryd.prog w = .ok (.tuple #[.int .i64 (lk r), .bool (lok r)]) w := by
  have hm := Tryd.underlying118
  have hk := Tryd.underlying21
  have hc : (Instr.checkKey false 10000 21 (.int .i32 r)).run Tryd.prog w = .ok () w := MapKept.run_checkKey (k := .int .i32 r) hk (by simp [MapKept.IsKey]) false 9999
  have hf := MapKept.run_findKey (P := Tryd.prog) (w := w) hk (find_letters r)
  have hz := Tryd.zeroValue120 w
  by_cases h1 : r = 112
  · subst h1
    simp [Instr.lookup, run_underlying hm, MapKept.run_getObj_map hb, hc, hf, Result.andThen, lk, lok]
  · by_cases h2 : r = 115
    · subst h2
      simp [Instr.lookup, run_underlying hm, MapKept.run_getObj_map hb, hc, hf, Result.andThen, lk, lok]
    · simp [Instr.lookup, run_underlying hm, MapKept.run_getObj_map hb, hc, hf, Result.andThen, lk, lok, h1, h2, hz]
theorem lookup_plain (w : World) (g : Nat) (hb : w.heap[g]? = some lettersObj) (r : Int) :
    (Instr.lookup 118 (.map (some g)) (.int .i32 r) false).run Tryd.prog w = .ok (.int .i64 (lk r)) w := by
  have hm := Tryd.underlying118
  have hk := Tryd.underlying21
  have hc : (Instr.checkKey false 10000 21 (.int .i32 r)).run Tryd.prog w = .ok () w := MapKept.run_checkKey (k := .int .i32 r) hk (by simp [MapKept.IsKey]) false 9999
  have hf := MapKept.run_findKey (P := Tryd.prog) (w := w) hk (find_letters r)
  have hz := Tryd.zeroValue120 w
  by_cases h1 : r = 112
  · subst h1
    simp [Instr.lookup, run_underlying hm, MapKept.run_getObj_map hb, hc, hf, Result.andThen, lk]
  · by_cases h2 : r = 115
    · subst h2
      simp [Instr.lookup, run_underlying hm, MapKept.run_getObj_map hb, hc, hf, Result.andThen, lk]
    · simp [Instr.lookup, run_underlying hm, MapKept.run_getObj_map hb, hc, hf, Result.andThen, lk, h1, h2, hz]
end Go.Proofs.YtlkhmfmocegekaaDoor
/- package shape: may: a range over a text, a map asked at each letter. -/
namespace Go.Proofs.YtlkhmfmocegekaaDoor
open Go.RowKit Go.Sh
theorem may_long (s : ByteArray) (w : World) (h : 8 < s.size) : Calls Tryd.prog 49 #[.string s] w fun e w' => e = .returned (.bool false) ∧ Below w.heap.size w w' := by
  have h' : (8 : Int) < (s.size : Int) := by omega
  go_enter Tryd.func49, Tryd.ntmps49
  go_wp2
  go_ret
  exact ⟨rfl, Below.refl _ _⟩
/-- What the letters are, from a place on: the decoded one is a letter just if the byte is. -/
theorem lok_decode (s : ByteArray) (pos : Nat) (h : pos < s.size) : lok ((Utf8.decode s pos).1 : Int) = okB (s.data.toList.getD pos 0) := by
  have hl : pos < s.data.toList.length := by rw [Array.length_toList]; exact h
  have hg : s.data.toList.getD pos 0 = s[pos]'h := by
    rw [List.getD_eq_getElem?_getD, List.getElem?_eq_getElem hl, Option.getD_some]
    rfl
  rw [hg]
  by_cases ha : (s[pos]'h).toNat < 128
  · rw [decode_ascii s pos h ha]
    generalize s[pos]'h = b
    simp only [lok, okB]
    rw [Bool.eq_iff_iff]
    simp only [Bool.or_eq_true, beq_iff_eq]
    constructor
    · rintro (h | h)
      · left; apply UInt8.toNat_inj.1; simp; omega
      · right; apply UInt8.toNat_inj.1; simp; omega
    · rintro (h | h) <;> subst h <;> simp
  · have hd := (decode_high s pos h (by omega)).1
    generalize hb : s[pos]'h = b
    rw [hb] at ha
    have e1 : lok ((Utf8.decode s pos).1 : Int) = false := by
      simp only [lok, Bool.or_eq_false_iff, beq_eq_false_iff_ne]
      constructor <;> omega
    have e2 : okB b = false := by
      simp only [okB, Bool.or_eq_false_iff, beq_eq_false_iff_ne]
      constructor <;> (rintro rfl; simp at ha)
    rw [e1, e2]
/-- Where the byte is a letter, it is decoded as itself. -/
theorem decode_okB (s : ByteArray) (pos : Nat) (h : pos < s.size) (hb : okB (s.data.toList.getD pos 0) = true) : (Utf8.decode s pos).2 = 1 ∧ lk ((Utf8.decode s pos).1 : Int) = kb (s.data.toList.getD pos 0) := by
  have hl : pos < s.data.toList.length := by rw [Array.length_toList]; exact h
  have hg : s.data.toList.getD pos 0 = s[pos]'h := by
    rw [List.getD_eq_getElem?_getD, List.getElem?_eq_getElem hl, Option.getD_some]
    rfl
  rw [hg] at hb ⊢
  simp only [okB, Bool.or_eq_true, beq_iff_eq] at hb
  have ha : (s[pos]'h).toNat < 128 := by
    rcases hb with hb | hb <;> rw [hb] <;> decide
  rw [decode_ascii s pos h ha]
  refine ⟨rfl, ?_⟩
  rcases hb with hb | hb <;> rw [hb] <;> decide
theorem all_upto (s : ByteArray) (pos : Nat) (h : ∀ j, j < pos → okB (s.data.toList.getD j 0) = true) (hp : s.size ≤ pos) (h8 : s.size ≤ 8) : one s = true := by
  simp only [one, Bool.and_eq_true, decide_eq_true_eq, List.all_eq_true]
  refine ⟨h8, fun x hx => ?_⟩
  obtain ⟨i, hi, rfl⟩ := List.mem_iff_getElem.1 hx
  have hl : i < s.size := by rw [Array.length_toList] at hi; exact hi
  have := h i (by omega)
  rwa [List.getD_eq_getElem?_getD, List.getElem?_eq_getElem hi] at this
theorem one_no (s : ByteArray) (pos : Nat) (hp : pos < s.size) (h : okB (s.data.toList.getD pos 0) = false) : one s = false := by
  simp only [one, Bool.and_eq_false_iff, List.all_eq_false]
  right
  have hl : pos < s.data.toList.length := by rw [Array.length_toList]; exact hp
  refine ⟨_, List.getElem_mem hl, ?_⟩
  rw [List.getD_eq_getElem?_getD, List.getElem?_eq_getElem hl, Option.getD_some] at h
  simpa using h
set_option maxRecDepth 100000 in
set_option maxHeartbeats 2000000 in
theorem may_short (s : ByteArray) (w : World) (h : s.size ≤ 8) : Calls Tryd.prog 49 #[.string s] w fun e w' => e = .returned (.bool (one s)) ∧ Below w.heap.size w w' := by
  have h' : (s.size : Int) ≤ 8 := by omega
  go_enter Tryd.func49, Tryd.ntmps49
  go_wp2_with (go_at_call 50; refine (letters_any _).mono ?_; rintro e w' ⟨rfl, rfl⟩)
  go_loopw [] (fun wr => ∃ (pos : Nat), wr.heap[w.heap.size]? = some lettersObj ∧ wr.heap[w.heap.size + 1]? = some (.stringIter s pos) ∧ Below w.heap.size w wr ∧ ∀ j, j < pos → okB (s.data.toList.getD j 0) = true) (fun wr => s.size - wr.iterPos (w.heap.size + 1))
  case atStart =>
    refine ⟨0, ?_, ?_, ((Below.refl _ w).alloc (Nat.le_refl _) _).alloc (by simp) _, fun j hj => by omega⟩
    · exact (Below.heap_alloc _ _ _ (by simp)).trans (heap_alloc_last w _)
    · have := World.iter_heap (w.alloc lettersObj) s 0
      simpa using this
  case round =>
    obtain ⟨pos, hm, hit, hbw, hall⟩ := hrel
    by_cases hp : pos < s.size
    · have hnx : ∀ ty, (Instr.next (.pointer (some ⟨w.heap.size + 1, 0, none⟩)) true ty).run Tryd.prog wr = _ := fun ty => Lib.run_next_any_at wr (w.heap.size + 1) s pos ty hit hp
      have hm2 : (wr.iterAt (w.heap.size + 1) s (pos + (Utf8.decode s pos).2)).heap[w.heap.size]? = some lettersObj := (Lib.iterAt_other wr _ _ s _ (by omega)).trans hm
      have hit2 := Lib.iterAt_heap wr (w.heap.size + 1) s pos (pos + (Utf8.decode s pos).2) hit
      have hbw2 := Lib.below_iterAt hbw (k := w.heap.size + 1) (by omega) s (pos + (Utf8.decode s pos).2)
      have hlk := lookup_ok _ _ hm2 ((Utf8.decode s pos).1 : Int)
      have hlo := lok_decode s pos hp
      by_cases hb : okB (s.data.toList.getD pos 0) = true
      · rw [hlo, hb] at hlk
        go_wp2
        obtain ⟨hw1, _⟩ := decode_okB s pos hp hb
        go_roundw
        case rel =>
          refine ⟨pos + (Utf8.decode s pos).2, hm2, hit2, hbw2, fun j hj => ?_⟩
          rw [hw1] at hj
          by_cases hj2 : j < pos
          · exact hall j hj2
          · obtain rfl : j = pos := by omega
            exact hb
        case measure =>
          simp only [World.iterPos, hit2, hit]
          omega
      · have hb' : okB (s.data.toList.getD pos 0) = false := by simpa using hb
        rw [hlo, hb'] at hlk
        go_wp2
        go_ret
        exact ⟨ret_bool (one_no s pos hp hb').symm, hbw2⟩
    · have hnx : ∀ ty, (Instr.next (.pointer (some ⟨w.heap.size + 1, 0, none⟩)) true ty).run Tryd.prog wr = _ := fun ty => Lib.run_next_end_at wr (w.heap.size + 1) s pos ty hit hp
      go_wp2
      go_ret
      exact ⟨ret_bool (all_upto s pos hall (by omega) h).symm, hbw⟩
theorem may_any (s : ByteArray) (w : World) : Calls Tryd.prog 49 #[.string s] w fun e w' => e = .returned (.bool (one s)) ∧ Below w.heap.size w w' := by
  by_cases h : s.size ≤ 8
  · exact may_short s w h
  · refine (may_long s w (by omega)).mono ?_
    rintro e w' ⟨rfl, b⟩
    have : one s = false := by simp [one, h]
    exact ⟨by rw [this], b⟩
end Go.Proofs.YtlkhmfmocegekaaDoor
