/- package layout: the extents of a plan, the first word of a kind, how many words there are. -/
import Derived.Test.YtldfmlkjeniemaaGreatDoorLyMathOn
import Derived.Test.YtldfmlkjeniemaaGreatDoorBsKitOn
import Derived.Lib.OthersKept
import Derived.MapKept
namespace Go.Proofs.YtldfmlkjeniemaaGreatDoor
open Go.RowKit Go.Ly
theorem last2 (w : World) (A B : Obj) : ((w.alloc A).alloc B).heap[w.heap.size + 1]? = some B := row2b (Below.refl _ _)
theorem setRow2 (w : World) (A : Obj) (cs cs' : Array Value) (t : TypeId) : ((w.alloc A).alloc (.cells cs t)).setRow (w.heap.size + 1) cs' = (w.alloc A).alloc (.cells cs' t) := by
  have := World.setRow_alloc_new (w.alloc A) cs cs' t
  rwa [size_alloc] at this
/-- The extents of a plan, kind by kind. -/
def extArr (p : Value) : Array Value := #[.func (.func 102) #[p] #[], .func (.func 103) #[p] #[], .func (.func 103) #[p] #[], .func (.func 103) #[p] #[], .func (.func 104) #[p] #[], .func (.func 104) #[p] #[], .func (.func 105) #[p] #[]]
theorem extArr_one (p : Value) : (extArr p).all (·.oneCell') = true := by kernel_rfl
theorem extArr_size (p : Value) : (Tryz.prog.info? 151).map (·.size) = some (extArr p).size := by kernel_rfl
set_option maxHeartbeats 1000000 in
theorem extents_any (t s : Int) (a : Option Addr) (n c : Nat) (w : World) :
    Calls Tryz.prog 89 #[planV t s a n c] w fun e w' => e = .returned (.agg (extArr (planV t s a n c))) ∧ Below w.heap.size w w' := by
  go_enter Tryz.func89, Tryz.ntmps89
  go_wp2_with (refine wpList_store_row rfl 151 _ _ rfl (w.heap.size + 1) (extArr (planV t s a n c)) rfl rfl 151 _ (last2 w _ _) (extArr_size _) rfl (extArr_one _) ?_; rw [setRow2])
  refine bodyPost_ret (v := .agg (extArr (planV t s a n c))) (results_cell_row Tryz.results89 _ _ (w.heap.size + 1) 151 (extArr (planV t s a n c)) (0, 0) _ rfl (last2 w _ _) Tryz.underlying151 rfl (extArr_size _)) rfl ⟨rfl, (below_alloc0 w _).alloc (by simp) _⟩
theorem ext_at0 (p : Value) : (extArr p)[0]? = some (.func (.func 102) #[p] #[]) := rfl
theorem ext_at1 (p : Value) : (extArr p)[1]? = some (.func (.func 103) #[p] #[]) := rfl
theorem ext_at2 (p : Value) : (extArr p)[2]? = some (.func (.func 103) #[p] #[]) := rfl
theorem ext_at3 (p : Value) : (extArr p)[3]? = some (.func (.func 103) #[p] #[]) := rfl
theorem ext_at4 (p : Value) : (extArr p)[4]? = some (.func (.func 104) #[p] #[]) := rfl
theorem ext_at5 (p : Value) : (extArr p)[5]? = some (.func (.func 104) #[p] #[]) := rfl
theorem ext_at6 (p : Value) : (extArr p)[6]? = some (.func (.func 105) #[p] #[]) := rfl
set_option maxRecDepth 100000 in
set_option maxHeartbeats 4000000 in
theorem base_at (t s : Int) (a : Option Addr) (n c : Nat) (K : Nat) (w : World) (t0 : 1 ≤ t) (t1 : t ≤ 8) (s0 : 32 ≤ s) (s1 : s ≤ 4096) (hK : K ≤ 7) :
    Calls Tryz.prog 87 #[planV t s a n c, .int .i64 (K : Int)] w fun e w' => e = .returned (.int .i64 (bs t s K)) ∧ Below w.heap.size w w' := by
  have hK7 : (K : Int) ≤ 7 := by omega
  go_enter Tryz.func87, Tryz.ntmps87
  go_wp2_with (go_at_call 89; refine (extents_any t s a n c _).mono ?_)
  rintro e w1 ⟨rfl, b1⟩
  have B1 := hid (bel1 b1)
  have z1 := siz1 b1
  clear b1
  generalize hp : planV t s a n c = p
  have c0 := fun W => plNone_any t s a n c W
  have c1 := fun W => plOne_any t s a n c W
  have c2 := fun W => plThread_any t s a n c W
  have c3 := fun W => plSpace_any t s a n c W
  rw [hp] at c0 c1 c2 c3
  clear hp
  go_wp2_with (refine wpList_store_row rfl 151 _ _ rfl w1.heap.size (extArr p) rfl rfl 151 _ (heap_alloc_last w1 _) (extArr_size _) rfl (extArr_one _) ?_; rw [World.setRow_alloc_new])
  have hz1 := heap_alloc_last w1 (.cells (extArr p) 151)
  go_loopw [5, 16] (fun x i wr => ∃ k : Nat, k ≤ K ∧ i = .int .i64 (k : Int) ∧ ∃ y : Int, x = .int .i64 y ∧ Hid (y = bs t s k) ∧ 0 ≤ y ∧ y ≤ 20000 ∧ Hid (Below (w1.heap.size + 1) (w1.alloc (.cells (extArr p) 151)) wr)) (fun _ i _ => K - (intOf i).toNat)
  case atStart => exact ⟨0, by omega, rfl, 0, rfl, hid rfl, by omega, by omega, hid (Below.refl _ _)⟩
  case round =>
    obtain ⟨k, hk, rfl, y, rfl, hy, y0, y1, B⟩ := hrel
    by_cases hlt : k < K
    · have hrow : wr.heap[w1.heap.size]? = some (.cells (extArr p) 151) := (B.out.block _ (by omega)).trans hz1
      have hcs : k = 0 ∨ k = 1 ∨ k = 2 ∨ k = 3 ∨ k = 4 ∨ k = 5 ∨ k = 6 := by omega
      rcases hcs with rfl | rfl | rfl | rfl | rfl | rfl | rfl
      · have hc := at_row hrow 0 (ext_at0 p)
        have hv := hid (hy.out.trans (show bs t s 0 = 0 from rfl))
        have hw := hid (bs1 t s)
        clear hrow hy
        go_wp2_with (first | (go_at_call 102; refine (c0 _).mono ?_; rintro e w2 ⟨rfl, b2⟩) | (go_at_call 103; refine (c1 _).mono ?_; rintro e w2 ⟨rfl, b2⟩) | (go_at_call 104; refine (c2 _).mono ?_; rintro e w2 ⟨rfl, b2⟩) | (go_at_call 105; refine (c3 _).mono ?_; rintro e w2 ⟨rfl, b2⟩))
        have := hv.out
        have := hw.out
        go_roundw
        case rel => exact ⟨1, by omega, by go_num, _, rfl, hid (by omega), by omega, by omega, hid (B.out.trans (b2.mono (by have := B.out.size; simpa using this)))⟩
        case measure => simp [intOf]; omega
      · have hc := at_row hrow 1 (ext_at1 p)
        have hv := hid (hy.out.trans (bs1 t s))
        have hw := hid (bs2 t s)
        clear hrow hy
        go_wp2_with (first | (go_at_call 102; refine (c0 _).mono ?_; rintro e w2 ⟨rfl, b2⟩) | (go_at_call 103; refine (c1 _).mono ?_; rintro e w2 ⟨rfl, b2⟩) | (go_at_call 104; refine (c2 _).mono ?_; rintro e w2 ⟨rfl, b2⟩) | (go_at_call 105; refine (c3 _).mono ?_; rintro e w2 ⟨rfl, b2⟩))
        have := hv.out
        have := hw.out
        go_roundw
        case rel => exact ⟨2, by omega, by go_num, _, rfl, hid (by omega), by omega, by omega, hid (B.out.trans (b2.mono (by have := B.out.size; simpa using this)))⟩
        case measure => simp [intOf]; omega
      · have hc := at_row hrow 2 (ext_at2 p)
        have hv := hid (hy.out.trans (bs2 t s))
        have hw := hid (bs3 t s)
        clear hrow hy
        go_wp2_with (first | (go_at_call 102; refine (c0 _).mono ?_; rintro e w2 ⟨rfl, b2⟩) | (go_at_call 103; refine (c1 _).mono ?_; rintro e w2 ⟨rfl, b2⟩) | (go_at_call 104; refine (c2 _).mono ?_; rintro e w2 ⟨rfl, b2⟩) | (go_at_call 105; refine (c3 _).mono ?_; rintro e w2 ⟨rfl, b2⟩))
        have := hv.out
        have := hw.out
        go_roundw
        case rel => exact ⟨3, by omega, by go_num, _, rfl, hid (by omega), by omega, by omega, hid (B.out.trans (b2.mono (by have := B.out.size; simpa using this)))⟩
        case measure => simp [intOf]; omega
      · have hc := at_row hrow 3 (ext_at3 p)
        have hv := hid (hy.out.trans (bs3 t s))
        have hw := hid (bs4 t s)
        clear hrow hy
        go_wp2_with (first | (go_at_call 102; refine (c0 _).mono ?_; rintro e w2 ⟨rfl, b2⟩) | (go_at_call 103; refine (c1 _).mono ?_; rintro e w2 ⟨rfl, b2⟩) | (go_at_call 104; refine (c2 _).mono ?_; rintro e w2 ⟨rfl, b2⟩) | (go_at_call 105; refine (c3 _).mono ?_; rintro e w2 ⟨rfl, b2⟩))
        have := hv.out
        have := hw.out
        go_roundw
        case rel => exact ⟨4, by omega, by go_num, _, rfl, hid (by omega), by omega, by omega, hid (B.out.trans (b2.mono (by have := B.out.size; simpa using this)))⟩
        case measure => simp [intOf]; omega
      · have hc := at_row hrow 4 (ext_at4 p)
        have hv := hid (hy.out.trans (bs4 t s))
        have hw := hid (bs5 t s)
        clear hrow hy
        go_wp2_with (first | (go_at_call 102; refine (c0 _).mono ?_; rintro e w2 ⟨rfl, b2⟩) | (go_at_call 103; refine (c1 _).mono ?_; rintro e w2 ⟨rfl, b2⟩) | (go_at_call 104; refine (c2 _).mono ?_; rintro e w2 ⟨rfl, b2⟩) | (go_at_call 105; refine (c3 _).mono ?_; rintro e w2 ⟨rfl, b2⟩))
        have := hv.out
        have := hw.out
        go_roundw
        case rel => exact ⟨5, by omega, by go_num, _, rfl, hid (by omega), by omega, by omega, hid (B.out.trans (b2.mono (by have := B.out.size; simpa using this)))⟩
        case measure => simp [intOf]; omega
      · have hc := at_row hrow 5 (ext_at5 p)
        have hv := hid (hy.out.trans (bs5 t s))
        have hw := hid (bs6 t s)
        clear hrow hy
        go_wp2_with (first | (go_at_call 102; refine (c0 _).mono ?_; rintro e w2 ⟨rfl, b2⟩) | (go_at_call 103; refine (c1 _).mono ?_; rintro e w2 ⟨rfl, b2⟩) | (go_at_call 104; refine (c2 _).mono ?_; rintro e w2 ⟨rfl, b2⟩) | (go_at_call 105; refine (c3 _).mono ?_; rintro e w2 ⟨rfl, b2⟩))
        have := hv.out
        have := hw.out
        go_roundw
        case rel => exact ⟨6, by omega, by go_num, _, rfl, hid (by omega), by omega, by omega, hid (B.out.trans (b2.mono (by have := B.out.size; simpa using this)))⟩
        case measure => simp [intOf]; omega
      · have hc := at_row hrow 6 (ext_at6 p)
        have hv := hid (hy.out.trans (bs6 t s))
        have hw := hid (bs7 t s)
        clear hrow hy
        go_wp2_with (first | (go_at_call 102; refine (c0 _).mono ?_; rintro e w2 ⟨rfl, b2⟩) | (go_at_call 103; refine (c1 _).mono ?_; rintro e w2 ⟨rfl, b2⟩) | (go_at_call 104; refine (c2 _).mono ?_; rintro e w2 ⟨rfl, b2⟩) | (go_at_call 105; refine (c3 _).mono ?_; rintro e w2 ⟨rfl, b2⟩))
        have := hv.out
        have := hw.out
        go_roundw
        case rel => exact ⟨7, by omega, by go_num, _, rfl, hid (by omega), by omega, by omega, hid (B.out.trans (b2.mono (by have := B.out.size; simpa using this)))⟩
        case measure => simp [intOf]; omega
    · obtain rfl : k = K := by omega
      have HB := hid (B1.out.trans (((below_alloc0 w1 _).mono (by omega)).trans (B.out.mono (by omega))))
      clear B B1
      go_wp2
      go_ret
      exact ⟨ret_int hy.out, HB.out⟩
theorem size_at (t s : Int) (a : Option Addr) (n c : Nat) (w : World) (t0 : 1 ≤ t) (t1 : t ≤ 8) (s0 : 32 ≤ s) (s1 : s ≤ 4096) :
    Calls Tryz.prog 73 #[planV t s a n c] w fun e w' => e = .returned (.int .i64 (3 + t + t + 2 * s)) ∧ Below w.heap.size w w' := by
  have cb := fun W => base_at t s a n c 7 W t0 t1 s0 s1 (by omega)
  simp only [bs7] at cb
  go_enter Tryz.func73, Tryz.ntmps73
  go_wp2_with (go_at_call 87; refine (cb _).mono ?_; rintro e w1 ⟨rfl, b1⟩)
  go_ret
  exact ⟨rfl, bel1 b1⟩
end Go.Proofs.YtldfmlkjeniemaaGreatDoor
/- package shape's leaves: letters (a map made anew), may (a range over a text). -/
namespace Go.Proofs.YtldfmlkjeniemaaGreatDoor
open Go.RowKit
/-- The map that letters makes. -/
def lettersObj : Obj := .map #[{ key := .int .i32 112, val := .int .i64 0, born := 0 }, { key := .int .i32 115, val := .int .i64 1, born := 1 }] 2
theorem set_alloc_new (w : World) (o o' : Obj) : ({ w.alloc o with heap := (w.alloc o).heap.setIfInBounds w.heap.size o' } : World) = w.alloc o' := by
  have e : (w.heap.push o).setIfInBounds w.heap.size o' = w.heap.push o' := by
    apply Array.ext_getElem?
    intro i
    by_cases h : i = w.heap.size
    · subst h; simp
    · simp [Array.getElem?_push, h, Ne.symm h]
  show ({ w with heap := (w.heap.push o).setIfInBounds w.heap.size o' } : World) = { w with heap := w.heap.push o' }
  rw [e]
theorem mapUpdate_new (w : World) (es : Array MapEntry) (c : Nat) (k : Int) (x : Value) (hf : Instr.findNow (.int .i32) (.int .i32 k) es.toList 0 = some none) :
    (Instr.mapUpdate 169 (.map (some w.heap.size)) (.int .i32 k) x).run Tryz.prog (w.alloc (.map es c)) = .ok () (w.alloc (.map (es.push { key := .int .i32 k, val := x, born := c }) (c + 1))) := by
  have hm := Tryz.underlying169
  have hk := Tryz.underlying21
  have hb := heap_alloc_last w (.map es c)
  have hc : (Instr.checkKey false 10000 21 (.int .i32 k)).run Tryz.prog (w.alloc (.map es c)) = .ok () (w.alloc (.map es c)) := MapKept.run_checkKey (k := .int .i32 k) hk (by simp [MapKept.IsKey]) false 9999
  simp [Instr.mapUpdate, run_underlying hm, MapKept.run_getObj_map hb, hc, MapKept.run_findKey hk hf, MapKept.run_setObj_map _ hb, Result.andThen]
  exact set_alloc_new w _ _
theorem letters_any (w : World) : Calls Tryz.prog 110 #[] w fun e w' => e = .returned (.map (some w.heap.size)) ∧ w' = w.alloc lettersObj := by
  have hmm := @run_makeMap Tryz.prog
  have u1 := mapUpdate_new w #[] 0 112 (.int .i64 0) rfl
  have u2 := mapUpdate_new w #[{ key := .int .i32 112, val := .int .i64 0, born := 0 }] 1 115 (.int .i64 1) rfl
  simp only [List.push_toArray, List.nil_append, List.cons_append] at u1 u2
  go_enter Tryz.func110, Tryz.ntmps110
  go_wp2
  go_ret
  exact ⟨rfl, rfl⟩
/-- What a letter's kind is in that map; none is 0, false. -/
def lk (r : Int) : Int := if r = 115 then 1 else 0
def lok (r : Int) : Bool := r == 112 || r == 115
theorem find_letters (r : Int) : Instr.findNow (.int .i32) (.int .i32 r) [{ key := .int .i32 112, val := .int .i64 0, born := 0 }, { key := .int .i32 115, val := .int .i64 1, born := 1 }] 0
    = some (if r = 112 then some (0, .int .i64 0) else if r = 115 then some (1, .int .i64 1) else none) := by
  by_cases h1 : r = 112
  · subst h1; rfl
  · by_cases h2 : r = 115
    · subst h2; rfl
    · have e1 : (r == 112) = false := by simpa using h1
      have e2 : (r == 115) = false := by simpa using h2
      simp [Instr.findNow, Instr.sameNow, h1, h2, e1, e2]
theorem lookup_ok (w : World) (g : Nat) (hb : w.heap[g]? = some lettersObj) (r : Int) :
    (Instr.lookup 169 (.map (some g)) (.int .i32 r) true).run Tryz.prog w = .ok (.tuple #[.int .i64 (lk r), .bool (lok r)]) w := by
  have hm := Tryz.underlying169
  have hk := Tryz.underlying21
  have hc : (Instr.checkKey false 10000 21 (.int .i32 r)).run Tryz.prog w = .ok () w := MapKept.run_checkKey (k := .int .i32 r) hk (by simp [MapKept.IsKey]) false 9999
  have hf := MapKept.run_findKey (P := Tryz.prog) (w := w) hk (find_letters r)
  have hz := Tryz.zeroValue171 w
  by_cases h1 : r = 112
  · subst h1
    simp [Instr.lookup, run_underlying hm, MapKept.run_getObj_map hb, hc, hf, Result.andThen, lk, lok]
  · by_cases h2 : r = 115
    · subst h2
      simp [Instr.lookup, run_underlying hm, MapKept.run_getObj_map hb, hc, hf, Result.andThen, lk, lok]
    · simp [Instr.lookup, run_underlying hm, MapKept.run_getObj_map hb, hc, hf, Result.andThen, lk, lok, h1, h2, hz]
theorem lookup_plain (w : World) (g : Nat) (hb : w.heap[g]? = some lettersObj) (r : Int) :
    (Instr.lookup 169 (.map (some g)) (.int .i32 r) false).run Tryz.prog w = .ok (.int .i64 (lk r)) w := by
  have hm := Tryz.underlying169
  have hk := Tryz.underlying21
  have hc : (Instr.checkKey false 10000 21 (.int .i32 r)).run Tryz.prog w = .ok () w := MapKept.run_checkKey (k := .int .i32 r) hk (by simp [MapKept.IsKey]) false 9999
  have hf := MapKept.run_findKey (P := Tryz.prog) (w := w) hk (find_letters r)
  have hz := Tryz.zeroValue171 w
  by_cases h1 : r = 112
  · subst h1
    simp [Instr.lookup, run_underlying hm, MapKept.run_getObj_map hb, hc, hf, Result.andThen, lk]
  · by_cases h2 : r = 115
    · subst h2
      simp [Instr.lookup, run_underlying hm, MapKept.run_getObj_map hb, hc, hf, Result.andThen, lk]
    · simp [Instr.lookup, run_underlying hm, MapKept.run_getObj_map hb, hc, hf, Result.andThen, lk, h1, h2, hz]
end Go.Proofs.YtldfmlkjeniemaaGreatDoor
/- package shape: may: a range over a text, a map asked at each letter. -/
namespace Go.Proofs.YtldfmlkjeniemaaGreatDoor
open Go.RowKit Go.Sh
theorem may_long (s : ByteArray) (w : World) (h : 8 < s.size) : Calls Tryz.prog 101 #[.string s] w fun e w' => e = .returned (.bool false) ∧ Below w.heap.size w w' := by
  have h' : (8 : Int) < (s.size : Int) := by omega
  go_enter Tryz.func101, Tryz.ntmps101
  go_wp2
  go_ret
  exact ⟨rfl, Below.refl _ _⟩
/-- What the letters are, from a place on: the decoded one is a letter just if the byte is. -/
theorem lok_decode (s : ByteArray) (pos : Nat) (h : pos < s.size) : lok ((Utf8.decode s pos).1 : Int) = okB (s.data.toList.getD pos 0) := by
  have hl : pos < s.data.toList.length := by rw [Array.length_toList]; exact h
  have hg : s.data.toList.getD pos 0 = s[pos]'h := by
    rw [List.getD_eq_getElem?_getD, List.getElem?_eq_getElem hl, Option.getD_some]
    rfl
  rw [hg]
  by_cases ha : (s[pos]'h).toNat < 128
  · rw [decode_ascii s pos h ha]
    generalize s[pos]'h = b
    simp only [lok, okB]
    rw [Bool.eq_iff_iff]
    simp only [Bool.or_eq_true, beq_iff_eq]
    constructor
    · rintro (h | h)
      · left; apply UInt8.toNat_inj.1; simp; omega
      · right; apply UInt8.toNat_inj.1; simp; omega
    · rintro (h | h) <;> subst h <;> simp
  · have hd := (decode_high s pos h (by omega)).1
    generalize hb : s[pos]'h = b
    rw [hb] at ha
    have e1 : lok ((Utf8.decode s pos).1 : Int) = false := by
      simp only [lok, Bool.or_eq_false_iff, beq_eq_false_iff_ne]
      constructor <;> omega
    have e2 : okB b = false := by
      simp only [okB, Bool.or_eq_false_iff, beq_eq_false_iff_ne]
      constructor <;> (rintro rfl; simp at ha)
    rw [e1, e2]
/-- Where the byte is a letter, it is decoded as itself. -/
theorem decode_okB (s : ByteArray) (pos : Nat) (h : pos < s.size) (hb : okB (s.data.toList.getD pos 0) = true) : (Utf8.decode s pos).2 = 1 ∧ lk ((Utf8.decode s pos).1 : Int) = kb (s.data.toList.getD pos 0) := by
  have hl : pos < s.data.toList.length := by rw [Array.length_toList]; exact h
  have hg : s.data.toList.getD pos 0 = s[pos]'h := by
    rw [List.getD_eq_getElem?_getD, List.getElem?_eq_getElem hl, Option.getD_some]
    rfl
  rw [hg] at hb ⊢
  simp only [okB, Bool.or_eq_true, beq_iff_eq] at hb
  have ha : (s[pos]'h).toNat < 128 := by
    rcases hb with hb | hb <;> rw [hb] <;> decide
  rw [decode_ascii s pos h ha]
  refine ⟨rfl, ?_⟩
  rcases hb with hb | hb <;> rw [hb] <;> decide
theorem all_upto (s : ByteArray) (pos : Nat) (h : ∀ j, j < pos → okB (s.data.toList.getD j 0) = true) (hp : s.size ≤ pos) (h8 : s.size ≤ 8) : one s = true := by
  simp only [one, Bool.and_eq_true, decide_eq_true_eq, List.all_eq_true]
  refine ⟨h8, fun x hx => ?_⟩
  obtain ⟨i, hi, rfl⟩ := List.mem_iff_getElem.1 hx
  have hl : i < s.size := by rw [Array.length_toList] at hi; exact hi
  have := h i (by omega)
  rwa [List.getD_eq_getElem?_getD, List.getElem?_eq_getElem hi] at this
theorem one_no (s : ByteArray) (pos : Nat) (hp : pos < s.size) (h : okB (s.data.toList.getD pos 0) = false) : one s = false := by
  simp only [one, Bool.and_eq_false_iff, List.all_eq_false]
  right
  have hl : pos < s.data.toList.length := by rw [Array.length_toList]; exact hp
  refine ⟨_, List.getElem_mem hl, ?_⟩
  rw [List.getD_eq_getElem?_getD, List.getElem?_eq_getElem hl, Option.getD_some] at h
  simpa using h
set_option maxRecDepth 100000 in
set_option maxHeartbeats 2000000 in
theorem may_short (s : ByteArray) (w : World) (h : s.size ≤ 8) : Calls Tryz.prog 101 #[.string s] w fun e w' => e = .returned (.bool (one s)) ∧ Below w.heap.size w w' := by
  have h' : (s.size : Int) ≤ 8 := by omega
  go_enter Tryz.func101, Tryz.ntmps101
  go_wp2_with (go_at_call 110; refine (letters_any _).mono ?_; rintro e w' ⟨rfl, rfl⟩)
  go_loopw [] (fun wr => ∃ (pos : Nat), wr.heap[w.heap.size]? = some lettersObj ∧ wr.heap[w.heap.size + 1]? = some (.stringIter s pos) ∧ Below w.heap.size w wr ∧ ∀ j, j < pos → okB (s.data.toList.getD j 0) = true) (fun wr => s.size - wr.iterPos (w.heap.size + 1))
  case atStart =>
    refine ⟨0, ?_, ?_, ((Below.refl _ w).alloc (Nat.le_refl _) _).alloc (by simp) _, fun j hj => by omega⟩
    · exact (Below.heap_alloc _ _ _ (by simp)).trans (heap_alloc_last w _)
    · have := World.iter_heap (w.alloc lettersObj) s 0
      simpa using this
  case round =>
    obtain ⟨pos, hm, hit, hbw, hall⟩ := hrel
    by_cases hp : pos < s.size
    · have hnx : ∀ ty, (Instr.next (.pointer (some ⟨w.heap.size + 1, 0, none⟩)) true ty).run Tryz.prog wr = _ := fun ty => Lib.run_next_any_at wr (w.heap.size + 1) s pos ty hit hp
      have hm2 : (wr.iterAt (w.heap.size + 1) s (pos + (Utf8.decode s pos).2)).heap[w.heap.size]? = some lettersObj := (Lib.iterAt_other wr _ _ s _ (by omega)).trans hm
      have hit2 := Lib.iterAt_heap wr (w.heap.size + 1) s pos (pos + (Utf8.decode s pos).2) hit
      have hbw2 := Lib.below_iterAt hbw (k := w.heap.size + 1) (by omega) s (pos + (Utf8.decode s pos).2)
      have hlk := lookup_ok _ _ hm2 ((Utf8.decode s pos).1 : Int)
      have hlo := lok_decode s pos hp
      by_cases hb : okB (s.data.toList.getD pos 0) = true
      · rw [hlo, hb] at hlk
        go_wp2
        obtain ⟨hw1, _⟩ := decode_okB s pos hp hb
        go_roundw
        case rel =>
          refine ⟨pos + (Utf8.decode s pos).2, hm2, hit2, hbw2, fun j hj => ?_⟩
          rw [hw1] at hj
          by_cases hj2 : j < pos
          · exact hall j hj2
          · obtain rfl : j = pos := by omega
            exact hb
        case measure =>
          simp only [World.iterPos, hit2, hit]
          omega
      · have hb' : okB (s.data.toList.getD pos 0) = false := by simpa using hb
        rw [hlo, hb'] at hlk
        go_wp2
        go_ret
        exact ⟨ret_bool (one_no s pos hp hb').symm, hbw2⟩
    · have hnx : ∀ ty, (Instr.next (.pointer (some ⟨w.heap.size + 1, 0, none⟩)) true ty).run Tryz.prog wr = _ := fun ty => Lib.run_next_end_at wr (w.heap.size + 1) s pos ty hit hp
      go_wp2
      go_ret
      exact ⟨ret_bool (all_upto s pos hall (by omega) h).symm, hbw⟩
theorem may_any (s : ByteArray) (w : World) : Calls Tryz.prog 101 #[.string s] w fun e w' => e = .returned (.bool (one s)) ∧ Below w.heap.size w w' := by
  by_cases h : s.size ≤ 8
  · exact may_short s w h
  · refine (may_long s w (by omega)).mono ?_
    rintro e w' ⟨rfl, b⟩
    have : one s = false := by simp [one, h]
    exact ⟨by rw [this], b⟩
end Go.Proofs.YtldfmlkjeniemaaGreatDoor
