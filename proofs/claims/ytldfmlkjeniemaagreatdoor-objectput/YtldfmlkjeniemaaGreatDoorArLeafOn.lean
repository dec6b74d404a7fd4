/- package arena: list, Len, All, has, New, Of. -/
import Derived.Test.YtldfmlkjeniemaaGreatDoorLyMayOn
import Derived.Laws.IdiomCopy
import Derived.Laws.MakeOwn
namespace Go.Proofs.YtldfmlkjeniemaaGreatDoor
open Go.RowKit
theorem list_at (p s : Value) (w : World) (h : Faces w p s) : Calls Tryz.prog 61 #[p] w fun e w' => e = .returned s ∧ w' = w := by
  rcases h with ⟨rfl, rfl⟩ | ⟨A, rfl, hc⟩
  · go_enter Tryz.func61, Tryz.ntmps61
    go_wp2
    go_ret
    exact ⟨rfl, rfl⟩
  · go_enter Tryz.func61, Tryz.ntmps61
    go_wp2
    go_ret
    exact ⟨rfl, rfl⟩
theorem Len_at (p : Value) (a : Option Addr) (n c : Nat) (w : World) (h : Faces w p (.slice a n c)) : Calls Tryz.prog 50 #[p] w fun e w' => e = .returned (.int .i64 n) ∧ w' = w := by
  have cl := list_at p _ w h
  go_enter Tryz.func50, Tryz.ntmps50
  go_wp2_with (go_at_call 61; refine cl.mono ?_; rintro e w' ⟨rfl, hw⟩; rw [hw]; clear hw)
  go_ret
  exact ⟨rfl, rfl⟩
theorem all_any (a : Option Addr) (n c : Nat) (w : World) : Calls Tryz.prog 78 #[.slice a n c] w fun e w' => e = .returned (.func (.func 91) #[] #[.pointer (some ⟨w.heap.size, 0, none⟩)]) ∧ w' = w.alloc (.cells #[.slice a n c] 57) := by
  go_enter Tryz.func78, Tryz.ntmps78
  go_wp2
  go_ret
  exact ⟨rfl, rfl⟩
theorem AllA_at (p : Value) (a : Option Addr) (n c : Nat) (w : World) (h : Faces w p (.slice a n c)) : Calls Tryz.prog 60 #[p] w fun e w' => e = .returned (.func (.func 91) #[] #[.pointer (some ⟨w.heap.size, 0, none⟩)]) ∧ w' = w.alloc (.cells #[.slice a n c] 57) := by
  have cl := list_at p _ w h
  go_enter Tryz.func60, Tryz.ntmps60
  go_wp2_with (first | (go_at_call 61; refine cl.mono ?_; rintro e w' ⟨rfl, hw⟩; rw [hw]; clear hw) | (go_at_call 78; refine (all_any _ _ _ _).mono ?_; rintro e w' ⟨rfl, rfl⟩))
  go_ret
  exact ⟨rfl, rfl⟩
theorem wHas_any (a : Option Addr) (n c : Nat) (at_ : Int) (w : World) : Calls Tryz.prog 82 #[.slice a n c, .int .i64 at_] w fun e w' => e = .returned (.bool (decide (0 ≤ at_) && decide (at_ < n))) ∧ w' = w := by
  by_cases h : 0 ≤ at_
  · go_enter Tryz.func82, Tryz.ntmps82
    go_wp2
    go_ret
    exact ⟨ret_bool (by simp [h]), rfl⟩
  · have h' : at_ < 0 := by omega
    clear h
    go_enter Tryz.func82, Tryz.ntmps82
    go_wp2
    go_ret
    exact ⟨ret_bool (by simp; omega), rfl⟩
theorem New_no (n : Int) (w : World) (h : n < 1 ∨ 16384 < n) : Calls Tryz.prog 18 #[.int .i64 n] w fun e w' => e = .returned (.tuple #[.pointer none, .int .i64 2]) ∧ w' = w := by
  rcases h with h | h
  · go_enter Tryz.func18, Tryz.ntmps18
    go_wp2
    go_ret2
    exact ⟨rfl, rfl⟩
  · have h1 : 1 ≤ n := by omega
    go_enter Tryz.func18, Tryz.ntmps18
    go_wp2
    go_ret2
    exact ⟨rfl, rfl⟩
/-- The world behind New, and behind Of: an arena with these words. -/
def made (w : World) (xs : List Int) : World :=
  (w.alloc (.cells (wds xs) 39)).alloc (.cells #[.slice (some ⟨w.heap.size, 0, none⟩) xs.length xs.length] 59)
theorem made_size (w : World) (xs : List Int) : (made w xs).heap.size = w.heap.size + 2 := by simp [made]
theorem made_below (w : World) (xs : List Int) : Below w.heap.size w (made w xs) := ((Below.refl _ w).alloc (Nat.le_refl _) _).alloc (by simp) _
theorem made_ar (w : World) (xs : List Int) (hb : InW xs) (h1 : 1 ≤ xs.length) (h2 : xs.length ≤ 16384) : IsAr (made w xs) (w.heap.size + 1) w.heap.size xs := by
  refine ⟨?_, ?_, by omega, hb, h1, h2⟩
  · have := heap_alloc_last (w.alloc (.cells (wds xs) 39)) (.cells #[.slice (some ⟨w.heap.size, 0, none⟩) xs.length xs.length] 59)
    rwa [size_alloc] at this
  · exact (Below.heap_alloc _ _ _ (by simp)).trans (heap_alloc_last w _)
theorem made_zeros (n : Nat) : madeCells #[.int .u64 0] n = wds (List.replicate n 0) := by
  apply Array.ext
  · simp [madeCells, wds]
  · intro i h1 h2
    simp [madeCells, wds, Nat.mod_one]
theorem make_words (t : TypeId) (ht : Tryz.prog.underlying t = some (.slice 39)) (n : Nat) (h : n ≤ 20000) (u : World) : (Instr.makeSlice t (.int .i64 n) (.int .i64 n)).run Tryz.prog u = .ok (.slice (some ⟨u.heap.size, 0, none⟩) n n) (u.alloc (.cells (wds (List.replicate n 0)) 39)) := by
  have := run_makeSlice (P := Tryz.prog) u t 39 Tryz.t39 (.int .u64 0) ht (by kernel_rfl) (by kernel_rfl) .i64 .i64 n n (by omega) (Int.le_refl _) (by show (n : Int).toNat * 1 ≤ _; omega) (by show ((8 : Nat) : Int) * n ≤ _; omega) (by omega)
  rw [this]
  have e : (n : Int).toNat * Tryz.t39.size = n := by show (n : Int).toNat * 1 = n; omega
  rw [e, Int.toNat_natCast]
  show _ = Result.ok _ (u.alloc (.cells (wds (List.replicate n 0)) _))
  rw [← made_zeros]
  rfl
theorem New_yes (n : Nat) (w : World) (h1 : 1 ≤ n) (h2 : n ≤ 16384) : Calls Tryz.prog 18 #[.int .i64 n] w fun e w' => e = .returned (.tuple #[.pointer (some ⟨w.heap.size + 1, 0, none⟩), .int .i64 0]) ∧ w' = made w (List.replicate n 0) := by
  have h1' : 1 ≤ (n : Int) := by omega
  have h2' : (n : Int) ≤ 16384 := by omega
  have hmk := make_words 57 Tryz.underlying57 n (by omega)
  generalize hz : wds (List.replicate n 0) = zs at hmk
  have HZ := hid hz
  clear hz
  go_enter Tryz.func18, Tryz.ntmps18
  go_wp2
  go_ret2
  refine ⟨by simp, ?_⟩
  rw [made, HZ.out, List.length_replicate]
theorem setRow_alloc_old (w : World) (O : Obj) (g : Nat) (c : Array Value) (h : g < w.heap.size) : (w.alloc O).setRow g c = (w.setRow g c).alloc O := by
  cases w with
  | mk heap tape drawn os output =>
    simp only [World.setRow, World.alloc]
    congr 1
    apply Array.ext
    · simp
    · intro k h1 h2
      simp only [Array.getElem_modify, Array.getElem_push, Array.size_modify]
      simp only [Array.size_modify, Array.size_push] at h1
      by_cases hk : k < heap.size
      · simp [hk]
      · have : g ≠ k := by simp at h; omega
        simp [hk, this]
theorem ar_copy (w : World) (ty : TypeId) (xs zs : List Int) (b off c : Nat) (hx : Ws w b off xs) (hl : zs.length = xs.length) (u : World) (hu : u = made w zs) :
    (Builtin.copy_ #[57, 25] ty #[.slice (some ⟨w.heap.size, 0, none⟩) zs.length zs.length, .slice (some ⟨b, off, none⟩) xs.length c]).run Tryz.prog u = .ok (goInt xs.length) (made w xs) := by
  subst hu
  have hr : (made w zs).heap[w.heap.size]? = some (.cells (wds zs) 39) := (Below.heap_alloc _ _ _ (by simp)).trans (heap_alloc_last w _)
  have := run_copy_row Tryz.prog (made w zs) 57 25 ty 39 w.heap.size 0 zs.length zs.length ⟨b, off, none⟩ xs.length c (wds zs) 39 (wds xs).toList Tryz.underlying57 (by kernel_rfl) hr
    (by simp [wds, hl]) (hx.below (made_below w zs)).list (by simp [wds, hl]) (wds_one xs)
  rw [this]
  have e0 : ((wds zs).toList.take 0 ++ (wds xs).toList ++ (wds zs).toList.drop (0 + (wds xs).toList.length)).toArray = wds xs := by
    simp [wds, hl]
  have e1 : (made w zs).setRow w.heap.size (wds xs) = made w xs := by
    rw [made, setRow_alloc_old _ _ _ _ (by simp), World.setRow_alloc_new, hl]
    rfl
  rw [e0, e1]
  simp [wds]
theorem Of_no (a : Option Addr) (n c : Nat) (w : World) (h : n = 0 ∨ 16384 < n) : Calls Tryz.prog 6 #[.slice a n c] w fun e w' => e = .returned (.tuple #[.pointer none, .int .i64 2]) ∧ w' = w := by
  have cn := New_no n w (by omega)
  go_enter Tryz.func6, Tryz.ntmps6
  go_wp2_with (go_at_call 18; refine cn.mono ?_; rintro e w' ⟨rfl, hw⟩; rw [hw]; clear hw)
  go_ret2
  exact ⟨rfl, rfl⟩
theorem Of_yes (b off c : Nat) (xs : List Int) (w : World) (hx : Ws w b off xs) (h1 : 1 ≤ xs.length) (h2 : xs.length ≤ 16384) : Calls Tryz.prog 6 #[.slice (some ⟨b, off, none⟩) xs.length c] w fun e w' => e = .returned (.tuple #[.pointer (some ⟨w.heap.size + 1, 0, none⟩), .int .i64 0]) ∧ w' = made w xs := by
  have cn := New_yes xs.length w h1 h2
  have hl : (List.replicate xs.length (0 : Int)).length = xs.length := by simp
  have hf := (made_ar w (List.replicate xs.length 0) (InW.zeros _) (by simpa using h1) (by simpa using h2)).fcell
  rw [hl] at hf
  have hcp := fun ty => ar_copy w ty xs (List.replicate xs.length 0) b off c hx hl
  rw [hl] at hcp
  generalize hu : made w (List.replicate xs.length 0) = u at cn hf hcp
  have hcp := fun ty => hcp ty u rfl
  clear hu
  go_enter Tryz.func6, Tryz.ntmps6
  go_wp2_with (go_at_call 18; refine cn.mono ?_; rintro e w' ⟨rfl, hw⟩; rw [hw]; clear hw)
  go_ret2
  exact ⟨rfl, rfl⟩
end Go.Proofs.YtldfmlkjeniemaaGreatDoor
/- package arena: Check. -/
namespace Go.Proofs.YtldfmlkjeniemaaGreatDoor
open Go.RowKit
/-- An access. -/
abbrev acc (k p o n : Int) : Value := .agg #[.int .i64 k, .int .i64 p, .int .u64 o, .int .u64 n]
/-- May the access be? -/
def ck (k p o n : Int) : Bool := (k == 0 && p == 0 && o == 0 && n == 0) || (k == 1 && o == 0 && n == 0) || (k == 2 && o == 0) || k == 3
set_option maxHeartbeats 1000000 in
theorem check_other (k p o n : Int) (w : World) (h0 : (k == 0) = false) (h1 : (k == 1) = false) (h2 : (k == 2) = false) (h3 : (k == 3) = false) : Calls Tryz.prog 81 #[acc k p o n] w fun e w' => e = .returned (.int .i64 2) ∧ Below w.heap.size w w' := by
  go_enter Tryz.func81, Tryz.ntmps81
  go_wp2
  refine wp_scope_once 0 rfl ?_
  go_wp2
  go_step3
  refine ⟨rfl, ?_⟩
  go_wp2
  rw [Exit.noGoto_ret]
  go_ret
  exact ⟨rfl, bel_two w _ _⟩
set_option maxHeartbeats 1000000 in
theorem check_0 (w : World) : Calls Tryz.prog 81 #[acc 0 0 0 0] w fun e w' => e = .returned (.int .i64 0) ∧ Below w.heap.size w w' := by
  go_enter Tryz.func81, Tryz.ntmps81
  go_wp2
  refine wp_scope_once 0 rfl ?_
  go_wp2
  rw [ajump_ret]
  go_ret
  exact ⟨rfl, bel_two w _ _⟩
set_option maxHeartbeats 1000000 in
theorem check_0p (p o n : Int) (w : World) (h : (p == 0) = false) : Calls Tryz.prog 81 #[acc 0 p o n] w fun e w' => e = .returned (.int .i64 2) ∧ Below w.heap.size w w' := by
  go_enter Tryz.func81, Tryz.ntmps81
  go_wp2
  refine wp_scope_once 0 rfl ?_
  go_wp2
  go_step3
  refine ⟨rfl, ?_⟩
  go_wp2
  rw [Exit.noGoto_ret]
  go_ret
  exact ⟨rfl, bel_two w _ _⟩
set_option maxHeartbeats 1000000 in
theorem check_0o (o n : Int) (w : World) (h : (o == 0) = false) : Calls Tryz.prog 81 #[acc 0 0 o n] w fun e w' => e = .returned (.int .i64 2) ∧ Below w.heap.size w w' := by
  go_enter Tryz.func81, Tryz.ntmps81
  go_wp2
  refine wp_scope_once 0 rfl ?_
  go_wp2
  go_step3
  refine ⟨rfl, ?_⟩
  go_wp2
  rw [Exit.noGoto_ret]
  go_ret
  exact ⟨rfl, bel_two w _ _⟩
set_option maxHeartbeats 1000000 in
theorem check_0n (n : Int) (w : World) (h : (n == 0) = false) : Calls Tryz.prog 81 #[acc 0 0 0 n] w fun e w' => e = .returned (.int .i64 2) ∧ Below w.heap.size w w' := by
  go_enter Tryz.func81, Tryz.ntmps81
  go_wp2
  refine wp_scope_once 0 rfl ?_
  go_wp2
  go_step3
  refine ⟨rfl, ?_⟩
  go_wp2
  rw [Exit.noGoto_ret]
  go_ret
  exact ⟨rfl, bel_two w _ _⟩
set_option maxHeartbeats 1000000 in
theorem check_1 (p : Int) (w : World) : Calls Tryz.prog 81 #[acc 1 p 0 0] w fun e w' => e = .returned (.int .i64 0) ∧ Below w.heap.size w w' := by
  go_enter Tryz.func81, Tryz.ntmps81
  go_wp2
  refine wp_scope_once 0 rfl ?_
  go_wp2
  rw [ajump_ret]
  go_ret
  exact ⟨rfl, bel_two w _ _⟩
set_option maxHeartbeats 1000000 in
theorem check_1o (p o n : Int) (w : World) (h : (o == 0) = false) : Calls Tryz.prog 81 #[acc 1 p o n] w fun e w' => e = .returned (.int .i64 2) ∧ Below w.heap.size w w' := by
  go_enter Tryz.func81, Tryz.ntmps81
  go_wp2
  refine wp_scope_once 0 rfl ?_
  go_wp2
  go_step3
  refine ⟨rfl, ?_⟩
  go_wp2
  rw [Exit.noGoto_ret]
  go_ret
  exact ⟨rfl, bel_two w _ _⟩
set_option maxHeartbeats 1000000 in
theorem check_1n (p n : Int) (w : World) (h : (n == 0) = false) : Calls Tryz.prog 81 #[acc 1 p 0 n] w fun e w' => e = .returned (.int .i64 2) ∧ Below w.heap.size w w' := by
  go_enter Tryz.func81, Tryz.ntmps81
  go_wp2
  refine wp_scope_once 0 rfl ?_
  go_wp2
  go_step3
  refine ⟨rfl, ?_⟩
  go_wp2
  rw [Exit.noGoto_ret]
  go_ret
  exact ⟨rfl, bel_two w _ _⟩
set_option maxHeartbeats 1000000 in
theorem check_2 (p n : Int) (w : World) : Calls Tryz.prog 81 #[acc 2 p 0 n] w fun e w' => e = .returned (.int .i64 0) ∧ Below w.heap.size w w' := by
  go_enter Tryz.func81, Tryz.ntmps81
  go_wp2
  refine wp_scope_once 0 rfl ?_
  go_wp2
  go_region
  go_wp2
  rw [ajump_ret]
  go_ret
  exact ⟨rfl, (bel_two w _ _).drew⟩
set_option maxHeartbeats 1000000 in
theorem check_2o (p o n : Int) (w : World) (h : (o == 0) = false) : Calls Tryz.prog 81 #[acc 2 p o n] w fun e w' => e = .returned (.int .i64 2) ∧ Below w.heap.size w w' := by
  go_enter Tryz.func81, Tryz.ntmps81
  go_wp2
  refine wp_scope_once 0 rfl ?_
  go_wp2
  go_region
  go_wp2
  go_step3
  refine ⟨rfl, ?_⟩
  go_wp2
  rw [Exit.noGoto_ret]
  go_ret
  exact ⟨rfl, (bel_two w _ _).drew⟩
set_option maxHeartbeats 1000000 in
theorem check_3 (p o n : Int) (w : World) : Calls Tryz.prog 81 #[acc 3 p o n] w fun e w' => e = .returned (.int .i64 0) ∧ Below w.heap.size w w' := by
  go_enter Tryz.func81, Tryz.ntmps81
  go_wp2
  refine wp_scope_once 0 rfl ?_
  go_wp2
  rw [ajump_ret]
  go_ret
  exact ⟨rfl, bel_two w _ _⟩
theorem Check_any (k p o n : Int) (w : World) : Calls Tryz.prog 81 #[acc k p o n] w fun e w' => e = .returned (.int .i64 (if ck k p o n then 0 else 2)) ∧ Below w.heap.size w w' := by
  by_cases h0 : k = 0
  · subst h0
    by_cases hp : p = 0
    · subst hp
      by_cases ho : o = 0
      · subst ho
        by_cases hn : n = 0
        · subst hn; exact check_0 w
        · have e : ck 0 0 0 n = false := by simp [ck, hn]
          rw [e]; exact check_0n n w (by simpa using hn)
      · have e : ck 0 0 o n = false := by simp [ck, ho]
        rw [e]; exact check_0o o n w (by simpa using ho)
    · have e : ck 0 p o n = false := by simp [ck, hp]
      rw [e]; exact check_0p p o n w (by simpa using hp)
  · by_cases h1 : k = 1
    · subst h1
      by_cases ho : o = 0
      · subst ho
        by_cases hn : n = 0
        · subst hn; exact check_1 p w
        · have e : ck 1 p 0 n = false := by simp [ck, hn]
          rw [e]; exact check_1n p n w (by simpa using hn)
      · have e : ck 1 p o n = false := by simp [ck, ho]
        rw [e]; exact check_1o p o n w (by simpa using ho)
    · by_cases h2 : k = 2
      · subst h2
        by_cases ho : o = 0
        · subst ho; exact check_2 p n w
        · have e : ck 2 p o n = false := by simp [ck, ho]
          rw [e]; exact check_2o p o n w (by simpa using ho)
      · by_cases h3 : k = 3
        · subst h3; exact check_3 p o n w
        · have e : ck k p o n = false := by simp [ck, h0, h1, h2, h3]
          rw [e]; exact check_other k p o n w (by simpa using h0) (by simpa using h1) (by simpa using h2) (by simpa using h3)
end Go.Proofs.YtldfmlkjeniemaaGreatDoor
