/- package shape's leaves: letters (a map made anew), may (a range over a text). -/
import Derived.Test.YtfnnckbdaedlbaaDoorBsKit
import Derived.Test.YtfnnckbdaedlbaaDoorShMath
import Derived.Lib.OthersKept
import Derived.MapKept
namespace Go.Proofs.YtfnnckbdaedlbaaDoor
open Go.RowKit
/-- The map that letters makes. -/
def lettersObj : Obj := .map #[{ key := .int .i32 112, val := .int .i64 0, born := 0 }, { key := .int .i32 115, val := .int .i64 1, born := 1 }] 2
theorem set_alloc_new (w : World) (o o' : Obj) : ({ w.alloc o with heap := (w.alloc o).heap.setIfInBounds w.heap.size o' } : World) = w.alloc o' := by
  have e : (w.heap.push o).setIfInBounds w.heap.size o' = w.heap.push o' := by
    apply Array.ext_getElem?
    intro i
    by_cases h : i = w.heap.size
    · subst h; simp
    · simp [Array.getElem?_push, h, Ne.symm h]
  show ({ w with heap := (w.heap.push o).setIfInBounds w.heap.size o' } : World) = { w with heap := w.heap.push o' }
  rw [e]
theorem mapUpdate_new (w : World) (es : Array MapEntry) (c : Nat) (k : Int) (x : Value) (hf : Instr.findNow (.int .i32) (.int .i32 k) es.toList 0 = some none) :
    (Instr.mapUpdate 126 (.map (some w.heap.size)) (.int .i32 k) x).run Tryd.prog (w.alloc (.map es c)) = .ok () (w.alloc (.map (es.push { key := .int .i32 k, val := x, born := c }) (c + 1))) := by
  have hm := Tryd.underlying126
  have hk := Tryd.underlying21
  have hb := heap_alloc_last w (.map es c)
  have hc : (Instr.checkKey false 10000 21 (.int .i32 k)).run Tryd.prog (w.alloc (.map es c)) = .ok () (w.alloc (.map es c)) := MapKept.run_checkKey (k := .int .i32 k) hk (by simp [MapKept.IsKey]) false 9999
  simp [Instr.mapUpdate, run_underlying hm, MapKept.run_getObj_map hb, hc, MapKept.run_findKey hk hf, MapKept.run_setObj_map _ hb, Result.andThen]
  exact set_alloc_new w _ _
theorem letters_any (w : World) : Calls Tryd.prog 72 #[] w fun e w' => e = .returned (.map (some w.heap.size)) ∧ w' = w.alloc lettersObj := by
  have hmm := @run_makeMap Tryd.prog
  have u1 := mapUpdate_new w #[] 0 112 (.int .i64 0) rfl
  have u2 := mapUpdate_new w #[{ key := .int .i32 112, val := .int .i64 0, born := 0 }] 1 115 (.int .i64 1) rfl
  simp only [List.push_toArray, List.nil_append, List.cons_append] at u1 u2
  go_enter Tryd.func72, Tryd.ntmps72
  go_wp2
  go_ret
  exact ⟨rfl, rfl⟩
/-- What a letter's kind is in that map; none is 0, false. -/
def lk (r : Int) : Int := if r = 115 then 1 else 0
def lok (r : Int) : Bool := r == 112 || r == 115
theorem find_letters (r : Int) : Instr.findNow (.int .i32) (.int .i32 r) [{ key := .int .i32 112, val := .int .i64 0, born := 0 }, { key := .int .i32 115, val := .int .i64 1, born := 1 }] 0
    = some (if r = 112 then some (0, .int .i64 0) else if r = 115 then some (1, .int .i64 1) else none) := by
  by_cases h1 : r = 112
  · subst h1; rfl
  · by_cases h2 : r = 115
    · subst h2; rfl
    · have e1 : (r == 112) = false := by simpa using h1
      have e2 : (r == 115) = false := by simpa using h2
      simp [Instr.findNow, Instr.sameNow, h1, h2, e1, e2]
theorem lookup_ok (w : World) (g : Nat) (hb : w.heap[g]? = some lettersObj) (r : Int) :
    (Instr.lookup 126 (.map (some g)) (.int .i32 r) true).run Tryd.prog w = .ok (.tuple #[.int .i64 (lk r), .bool (lok r)]) w := by
  have hm := Tryd.underlying126
  have hk := Tryd.underlying21
  have hc : (Instr.checkKey false 10000 21 (.int .i32 r)).run Tryd.prog w = .ok () w := MapKept.run_checkKey (k := .int .i32 r) hk (by simp [MapKept.IsKey]) false 9999
  have hf := MapKept.run_findKey (P := Tryd.prog) (w := w) hk (find_letters r)
  have hz := Tryd.zeroValue26 w
  by_cases h1 : r = 112
  · subst h1
    simp [Instr.lookup, run_underlying hm, MapKept.run_getObj_map hb, hc, hf, Result.andThen, lk, lok]
  · by_cases h2 : r = 115
    · subst h2
      simp [Instr.lookup, run_underlying hm, MapKept.run_getObj_map hb, hc, hf, Result.andThen, lk, lok]
    · simp [Instr.lookup, run_underlying hm, MapKept.run_getObj_map hb, hc, hf, Result.andThen, lk, lok, h1, h2, hz]
theorem lookup_plain (w : World) (g : Nat) (hb : w.heap[g]? = some lettersObj) (r : Int) :
    (Instr.lookup 126 (.map (some g)) (.int .i32 r) false).run Tryd.prog w = .ok (.int .i64 (lk r)) w := by
  have hm := Tryd.underlying126
  have hk := Tryd.underlying21
  have hc : (Instr.checkKey false 10000 21 (.int .i32 r)).run Tryd.prog w = .ok () w := MapKept.run_checkKey (k := .int .i32 r) hk (by simp [MapKept.IsKey]) false 9999
  have hf := MapKept.run_findKey (P := Tryd.prog) (w := w) hk (find_letters r)
  have hz := Tryd.zeroValue26 w
  by_cases h1 : r = 112
  · subst h1
    simp [Instr.lookup, run_underlying hm, MapKept.run_getObj_map hb, hc, hf, Result.andThen, lk]
  · by_cases h2 : r = 115
    · subst h2
      simp [Instr.lookup, run_underlying hm, MapKept.run_getObj_map hb, hc, hf, Result.andThen, lk]
    · simp [Instr.lookup, run_underlying hm, MapKept.run_getObj_map hb, hc, hf, Result.andThen, lk, h1, h2, hz]
end Go.Proofs.YtfnnckbdaedlbaaDoor
