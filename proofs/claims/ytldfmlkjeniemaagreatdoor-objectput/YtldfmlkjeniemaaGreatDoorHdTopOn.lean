/- package head: Make, Of, Marked, Size, Name. -/
import Derived.Test.YtldfmlkjeniemaaGreatDoorArCallOn
import Derived.Test.YtldfmlkjeniemaaGreatDoorBsKitOn
import Derived.Test.YtldfmlkjeniemaaGreatDoorLyMathOn
import Derived.Test.YtldfmlkjeniemaaGreatDoorLyMayOn
namespace Go.Hd
/-- Is it a header's word? -/
def isH (x : Int) : Bool := decide (x % 8 = 6) && ok (x / 32) (x / 8 % 4)
theorem isH_wd {s m : Int} (h : ok s m = true) : isH (wd s m) = true ∧ wd s m / 32 = s ∧ wd s m / 8 % 4 = m ∧ 0 ≤ wd s m ∧ wd s m ≤ 510 := by
  obtain ⟨a, b, c, d⟩ := ok_yes h
  have e1 : wd s m / 32 = s := by unfold wd; omega
  have e2 : wd s m / 8 % 4 = m := by unfold wd; omega
  have e3 : wd s m % 8 = 6 := by unfold wd; omega
  refine ⟨?_, e1, e2, ?_, ?_⟩
  · unfold isH; rw [e1, e2, e3, h]; rfl
  · unfold wd; omega
  · unfold wd; omega
theorem isH_is {x : Int} (h : isH x = true) : ok (x / 32) (x / 8 % 4) = true ∧ x % 8 = 6 ∧ wd (x / 32) (x / 8 % 4) = x := by
  simp only [isH, Bool.and_eq_true, decide_eq_true_eq] at h
  refine ⟨h.2, h.1, ?_⟩
  unfold wd; omega
def mkd (x m : Int) : Int × Int := if isH x && mk m then (wd (x / 32) m, 0) else (0, 2)
end Go.Hd
namespace Go.Proofs.YtldfmlkjeniemaaGreatDoor
open Go.RowKit Go.Hd Go.Sh
theorem below2 (w : World) (A B : Obj) : Below w.heap.size w ((w.alloc A).alloc B) := (below_alloc0 w A).alloc (by simp) B
set_option maxHeartbeats 1000000 in
theorem make_yes (s m : Int) (w : World) (h : ok s m = true) : Calls Tryz.prog 62 #[.agg #[.int .i64 s, .int .i64 m]] w fun e w' => e = .returned (.tuple #[.int .u64 (wd s m), .int .i64 0]) ∧ Below w.heap.size w w' := by
  have c := fun W => hmay_any s m W
  rw [h] at c
  have c2 := fun W => hword_any s m W h
  clear h
  go_enter Tryz.func62, Tryz.ntmps62
  go_wp2_with (go_at_call 77; refine (c _).mono ?_)
  rintro e w1 ⟨rfl, b1⟩
  have c0 := at_row (row2b b1) 0 rfl
  have c1 := at_row (row2b b1) 1 rfl
  have bw := bel2 b1
  clear b1
  go_wp2_with (go_at_call 79; refine (c2 _).mono ?_)
  rintro e w2 ⟨rfl, b2⟩
  go_wp2
  go_ret2
  exact ⟨rfl, bw.trans (b2.mono bw.size)⟩
set_option maxHeartbeats 1000000 in
theorem make_no (s m : Int) (w : World) (h : ok s m = false) : Calls Tryz.prog 62 #[.agg #[.int .i64 s, .int .i64 m]] w fun e w' => e = .returned (.tuple #[.int .u64 0, .int .i64 2]) ∧ Below w.heap.size w w' := by
  have c := fun W => hmay_any s m W
  rw [h] at c
  clear h
  go_enter Tryz.func62, Tryz.ntmps62
  go_wp2_with (go_at_call 77; refine (c _).mono ?_)
  rintro e w1 ⟨rfl, b1⟩
  have bw := bel2 b1
  clear b1
  go_wp2
  go_ret2
  exact ⟨rfl, bw⟩
set_option maxHeartbeats 1000000 in
theorem of_odd (x : Int) (w : World) (x0 : 0 ≤ x) (x1 : x ≤ 18446744073709551615) (h : (x % 8 != 6) = true) : Calls Tryz.prog 57 #[.int .u64 x] w fun e w' => e = .returned (.tuple #[.agg #[.int .i64 0, .int .i64 0], .bool false]) ∧ Below w.heap.size w w' := by
  go_enter Tryz.func57, Tryz.ntmps57
  go_wp2
  refine wp_scope_once 0 rfl ?_
  go_wp2_with (go_at_call 76; refine (part_tag x _ x0 x1).mono ?_; rintro e w1 ⟨rfl, hw⟩; rw [hw]; clear hw)
  go_step3
  refine ⟨rfl, ?_⟩
  go_wp2
  rw [Exit.noGoto_ret]
  refine bodyPost_ret (v := .tuple #[.agg #[.int .i64 0, .int .i64 0], .bool false]) (by simp [results, Tryz.results57, go_sem]) rfl ⟨rfl, ?_⟩
  exact below2 w _ _
set_option maxHeartbeats 2000000 in
theorem of_wrong (x : Int) (w : World) (x0 : 0 ≤ x) (x1 : x ≤ 18446744073709551615) (h : (x % 8 != 6) = false) (hk : ok (x / 32) (x / 8 % 4) = false) : Calls Tryz.prog 57 #[.int .u64 x] w fun e w' => e = .returned (.tuple #[.agg #[.int .i64 0, .int .i64 0], .bool false]) ∧ Below w.heap.size w w' := by
  have ct := fun W => part_tag x W x0 x1
  have cs := fun W => part_shape x W x0 x1
  have cm := fun W => part_mark x W x0 x1
  have c := fun W => hmay_any (x / 32) (x / 8 % 4) W
  rw [hk] at c
  have s0 : 0 ≤ x / 32 := by omega
  have s1 : x / 32 ≤ 576460752303423487 := by omega
  have m0 : 0 ≤ x / 8 % 4 := by omega
  have m1 : x / 8 % 4 ≤ 3 := by omega
  generalize x / 32 = s at *
  generalize x / 8 % 4 = m at *
  generalize x % 8 = t at *
  clear hk x0 x1
  go_enter Tryz.func57, Tryz.ntmps57
  go_wp2
  refine wp_scope_once 0 rfl ?_
  go_wp2_with (go_at_call 76; refine (ct _).mono ?_)
  rintro e w1 ⟨rfl, hw⟩; rw [hw]; clear hw w1
  go_wp2_with (go_at_call 76; refine (cs _).mono ?_)
  rintro e w1 ⟨rfl, hw⟩; rw [hw]; clear hw w1
  go_wp2_with (go_at_call 76; refine (cm _).mono ?_)
  rintro e w1 ⟨rfl, hw⟩; rw [hw]; clear hw w1
  go_wp2_with (go_at_call 77; refine (c _).mono ?_)
  rintro e w1 ⟨rfl, b1⟩
  have d0 := at_row (row2a b1) 0 rfl
  have d1 := at_row (row2a b1) 1 rfl
  have f0 := fz_row (row2a b1) 0
  have f1 := fz_row (row2a b1) 1
  have bw := bel2 b1
  clear b1
  go_wp2
  go_step3
  refine ⟨rfl, ?_⟩
  go_wp2
  rw [Exit.noGoto_ret]
  refine bodyPost_ret (v := .tuple #[.agg #[.int .i64 0, .int .i64 0], .bool false]) (by simp [results, Tryz.results57, go_sem, d0, d1]) rfl ⟨rfl, ?_⟩
  exact two_set bw (Nat.le_refl _) _ _
set_option maxHeartbeats 2000000 in
theorem of_right (x : Int) (w : World) (x0 : 0 ≤ x) (x1 : x ≤ 18446744073709551615) (h : (x % 8 != 6) = false) (hk : ok (x / 32) (x / 8 % 4) = true) : Calls Tryz.prog 57 #[.int .u64 x] w fun e w' => e = .returned (.tuple #[.agg #[.int .i64 (x / 32), .int .i64 (x / 8 % 4)], .bool true]) ∧ Below w.heap.size w w' := by
  have ct := fun W => part_tag x W x0 x1
  have cs := fun W => part_shape x W x0 x1
  have cm := fun W => part_mark x W x0 x1
  have c := fun W => hmay_any (x / 32) (x / 8 % 4) W
  rw [hk] at c
  have s0 : 0 ≤ x / 32 := by omega
  have s1 : x / 32 ≤ 576460752303423487 := by omega
  have m0 : 0 ≤ x / 8 % 4 := by omega
  have m1 : x / 8 % 4 ≤ 3 := by omega
  generalize x / 32 = s at *
  generalize x / 8 % 4 = m at *
  generalize x % 8 = t at *
  clear hk x0 x1
  go_enter Tryz.func57, Tryz.ntmps57
  go_wp2
  refine wp_scope_once 0 rfl ?_
  go_wp2_with (go_at_call 76; refine (ct _).mono ?_)
  rintro e w1 ⟨rfl, hw⟩; rw [hw]; clear hw w1
  go_wp2_with (go_at_call 76; refine (cs _).mono ?_)
  rintro e w1 ⟨rfl, hw⟩; rw [hw]; clear hw w1
  go_wp2_with (go_at_call 76; refine (cm _).mono ?_)
  rintro e w1 ⟨rfl, hw⟩; rw [hw]; clear hw w1
  go_wp2_with (go_at_call 77; refine (c _).mono ?_)
  rintro e w1 ⟨rfl, b1⟩
  have d0 := at_row (row2a b1) 0 rfl
  have d1 := at_row (row2a b1) 1 rfl
  have f0 := fz_row (row2a b1) 0
  have f1 := fz_row (row2a b1) 1
  have c0 := at_row (row2b b1) 0 rfl
  have c1 := at_row (row2b b1) 1 rfl
  have bw := bel2 b1
  clear b1
  go_wp2
  rw [jump_ret]
  refine bodyPost_ret (v := .tuple #[.agg #[.int .i64 s, .int .i64 m], .bool true]) (by simp [results, Tryz.results57, go_sem, d0, d1]) rfl ⟨rfl, ?_⟩
  exact two_set bw (Nat.le_refl _) _ _
end Go.Proofs.YtldfmlkjeniemaaGreatDoor
/- package head: Of by what is answered, Marked, Size, Name. -/
namespace Go.Hd
/-- What Of answers. -/
def ofv (x : Int) : Int × Int × Bool := if isH x then (x / 32, x / 8 % 4, true) else (0, 0, false)
theorem isH_ok {x : Int} (h : isH x = true) (m : Int) : ok (x / 32) m = mk m := by
  obtain ⟨h1, _, _⟩ := isH_is h
  obtain ⟨a, b, _, _⟩ := ok_yes h1
  simp [ok, a, b]
theorem mkd_no {x m : Int} (h : isH x = false) : mkd x m = (0, 2) := by simp [mkd, h]
theorem mkd_out {x m : Int} (h : mk m = false) : mkd x m = (0, 2) := by simp [mkd, h]
theorem mkd_in {x m : Int} (h : isH x = true) (hm : mk m = true) : mkd x m = (wd (x / 32) m, 0) := by simp [mkd, h, hm]
/-- What Size answers. -/
def szH (x : Int) (ss : List ByteArray) : Int × Int := if isH x then Sh.sz ss (x / 32) else (0, 2)
/-- The marks' names. -/
def nm : Nat → ByteArray
  | 0 => ⟨#[119, 104, 105, 116, 101]⟩
  | 1 => ⟨#[103, 114, 101, 121]⟩
  | 2 => ⟨#[98, 108, 97, 99, 107]⟩
  | _ => ⟨#[]⟩
end Go.Hd
namespace Go.Proofs.YtldfmlkjeniemaaGreatDoor
open Go.RowKit Go.Hd Go.Sh
theorem of_yes (x : Int) (w : World) (x0 : 0 ≤ x) (x1 : x ≤ 18446744073709551615) (h : isH x = true) : Calls Tryz.prog 57 #[.int .u64 x] w fun e w' => e = .returned (.tuple #[.agg #[.int .i64 (x / 32), .int .i64 (x / 8 % 4)], .bool true]) ∧ Below w.heap.size w w' := by
  obtain ⟨h1, h2, _⟩ := isH_is h
  exact of_right x w x0 x1 (by rw [h2]; rfl) h1
theorem of_no (x : Int) (w : World) (x0 : 0 ≤ x) (x1 : x ≤ 18446744073709551615) (h : isH x = false) : Calls Tryz.prog 57 #[.int .u64 x] w fun e w' => e = .returned (.tuple #[.agg #[.int .i64 0, .int .i64 0], .bool false]) ∧ Below w.heap.size w w' := by
  by_cases h2 : x % 8 = 6
  · exact of_wrong x w x0 x1 (by rw [h2]; rfl) (by simpa [isH, h2] using h)
  · exact of_odd x w x0 x1 (by simpa using h2)
theorem hof_at (x a b : Int) (t : Bool) (w : World) (x0 : 0 ≤ x) (x1 : x ≤ 18446744073709551615) (h : ofv x = (a, b, t)) : Calls Tryz.prog 57 #[.int .u64 x] w fun e w' => e = .returned (.tuple #[.agg #[.int .i64 a, .int .i64 b], .bool t]) ∧ Below w.heap.size w w' := by
  by_cases hi : isH x = true
  · rw [ofv, if_pos hi] at h
    simp only [Prod.mk.injEq] at h
    obtain ⟨rfl, rfl, rfl⟩ := h
    exact of_yes x w x0 x1 hi
  · rw [ofv, if_neg hi] at h
    simp only [Prod.mk.injEq] at h
    obtain ⟨rfl, rfl, rfl⟩ := h
    exact of_no x w x0 x1 (by simpa using hi)
set_option maxHeartbeats 2000000 in
theorem hSize_no (x : Int) (v : Value) (w : World) (x0 : 0 ≤ x) (x1 : x ≤ 18446744073709551615) (h : isH x = false) : Calls Tryz.prog 63 #[.int .u64 x, v] w fun e w' => e = .returned (.tuple #[.int .i64 0, .int .i64 2]) ∧ Below w.heap.size w w' := by
  have c := fun W => of_no x W x0 x1 h
  clear h x0 x1
  go_enter Tryz.func63, Tryz.ntmps63
  go_wp2_with (go_at_call 57; refine (c _).mono ?_)
  rintro e w1 ⟨rfl, b1⟩
  go_wp2
  go_ret2
  exact ⟨rfl, b1.alloc b1.size _⟩
set_option maxHeartbeats 2000000 in
theorem hSize_is (x : Int) (v : Value) (ss : List ByteArray) (w : World) (x0 : 0 ≤ x) (x1 : x ≤ 18446744073709551615) (h : isH x = true) (ht : IsTab w v ss) :
    Calls Tryz.prog 63 #[.int .u64 x, v] w fun e w' => e = .returned (.tuple #[.int .i64 (sz ss (x / 32)).1, .int .i64 (sz ss (x / 32)).2]) ∧ Below w.heap.size w w' := by
  have c := fun W => of_yes x W x0 x1 h
  have HT := hid ht
  clear ht
  have cs := fun W hW => Size_any v ss (x / 32) W hW
  generalize (sz ss (x / 32)).1 = A at *
  generalize (sz ss (x / 32)).2 = B at *
  generalize x / 32 = s at *
  generalize x / 8 % 4 = t at *
  clear h x0 x1
  go_enter Tryz.func63, Tryz.ntmps63
  go_wp2_with (go_at_call 57; refine (c _).mono ?_)
  rintro e w1 ⟨rfl, b1⟩
  go_wp2_with (go_at_call 80; refine (cs _ (HT.out.below (Nat.le_refl _) (b1.alloc b1.size _))).mono ?_)
  rintro e w2 ⟨rfl, b2⟩
  go_wp2
  go_ret2
  exact ⟨rfl, b1.trans ((bel1 b2).mono b1.size)⟩
theorem hSize_at (x : Int) (v : Value) (ss : List ByteArray) (a b : Int) (w : World) (x0 : 0 ≤ x) (x1 : x ≤ 18446744073709551615) (ht : IsTab w v ss) (h : szH x ss = (a, b)) :
    Calls Tryz.prog 63 #[.int .u64 x, v] w fun e w' => e = .returned (.tuple #[.int .i64 a, .int .i64 b]) ∧ Below w.heap.size w w' := by
  by_cases hi : isH x = true
  · rw [szH, if_pos hi] at h
    have := hSize_is x v ss w x0 x1 hi ht
    rwa [h] at this
  · rw [szH, if_neg hi] at h
    obtain ⟨rfl, rfl⟩ := Prod.mk.inj h
    exact hSize_no x v w x0 x1 (by simpa using hi)
end Go.Proofs.YtldfmlkjeniemaaGreatDoor
/- package object: a heap in memory; its words loaded; fits, words, mustStand. -/
namespace Go.Proofs.YtldfmlkjeniemaaGreatDoor
open Go.RowKit Go.Ly Go.Hd Go.Sh Go.Ob
/-- A plan that may be, and an arena of it. -/
structure IsHp (W : World) (t s : Int) (a : Option Addr) (n c : Nat) (ss : List ByteArray) (A B : Nat) (xs : List Int) : Prop where
  tab : IsTab W (.slice a n c) ss
  nums : LNums W
  ar : IsAr W A B xs
  rg : rgt t s ss = true
  len : (xs.length : Int) = 3 + t + t + 2 * s
theorem IsHp.below {W W' : World} {t s : Int} {a : Option Addr} {n c : Nat} {ss : List ByteArray} {A B : Nat} {xs : List Int} (h : IsHp W t s a n c ss A B xs) (b : Below W.heap.size W W') : IsHp W' t s a n c ss A B xs :=
  ⟨h.tab.below (Nat.le_refl _) b, h.nums.below b, h.ar.below b, h.rg, h.len⟩
theorem ck_load (q : Nat) : ck 1 (q : Int) 0 0 = true := by simp [ck]
theorem Load_in (A B : Nat) (xs : List Int) (q : Nat) (w : World) (h : IsAr w A B xs) (hq : q < xs.length) :
    Calls Tryz.prog 54 #[.pointer (some ⟨A, 0, none⟩), .int .i64 (q : Int)] w fun e w' => e = .returned (.tuple #[.int .u64 (wat xs q), .int .i64 0]) ∧ Below w.heap.size w w' := by
  go_enter Tryz.func54, Tryz.ntmps54
  go_wp2_with (go_at_call 65; refine (Do_1 A B xs q _ h (ck_load q) hq).mono ?_; rintro e w' ⟨rfl, b1⟩)
  go_ret2
  exact ⟨rfl, b1⟩
/-- The box that leads to the arena. -/
abbrev arO (A : Nat) : Obj := .cells #[.pointer (some ⟨A, 0, none⟩)] 30
theorem oload_at (L A B : Nat) (xs : List Int) (q : Nat) (w : World) (h : IsAr w A B xs) (hL : w.heap[L]? = some (arO A)) (hq : q < xs.length) :
    Calls Tryz.prog 53 #[.int .i64 (q : Int), .pointer (some ⟨L, 0, none⟩)] w fun e w' => e = .returned (.int .u64 (wat xs q)) ∧ Below w.heap.size w w' := by
  have hc := at_row hL 0 rfl
  go_enter Tryz.func53, Tryz.ntmps53
  go_wp2_with (go_at_call 54; refine (Load_in A B xs q _ h hq).mono ?_; rintro e w' ⟨rfl, b1⟩)
  go_ret
  exact ⟨rfl, b1⟩
/-- An object under way. -/
abbrev loadV (L : Nat) : Value := .func (.func 53) #[] #[.pointer (some ⟨L, 0, none⟩)]
abbrev objC (t s : Int) (a : Option Addr) (n c : Nat) (L : Nat) (p e : Int) : Array Value := #[.int .i64 t, .int .i64 s, .slice a n c, loadV L, .int .i64 p, .int .i64 e]
abbrev objV (t s : Int) (a : Option Addr) (n c : Nat) (L : Nat) (p e : Int) : Value := .agg (objC t s a n c L p e)
abbrev objO (t s : Int) (a : Option Addr) (n c : Nat) (L : Nat) (p e : Int) : Obj := .cells (objC t s a n c L p e) 69
theorem fits_any (t s : Int) (a : Option Addr) (n c : Nat) (L : Nat) (p e z : Int) (w : World) (r : Bool) (p0 : 0 ≤ p) (p1 : p ≤ 20000) (e0 : 0 ≤ e) (e1 : e ≤ 20000) (hr : Hid (decide (z ≤ e - p) = r)) :
    Calls Tryz.prog 64 #[objV t s a n c L p e, .int .i64 z] w fun e' w' => e' = .returned (.bool r) ∧ Below w.heap.size w w' := by
  go_enter Tryz.func64, Tryz.ntmps64
  go_wp2
  go_ret
  exact ⟨ret_bool hr.out, below_alloc0 _ _⟩
end Go.Proofs.YtldfmlkjeniemaaGreatDoor
/- Plain: how many words an object has that stands at a word of an arena; what is asked ahead of it. -/
namespace Go.Proofs.YtldfmlkjeniemaaGreatDoor
open Go.RowKit Go.Ly Go.Hd Go.Sh Go.Ob
/-- How many words the object has that stands at the word p of a space that ends at e; 0: none stands there. -/
def osz (xs : List Int) (ss : List ByteArray) (e p : Int) : Int :=
  if (szH (wat xs p.toNat) ss).2 = 0 ∧ (szH (wat xs p.toNat) ss).1 ≤ e - p then (szH (wat xs p.toNat) ss).1 else 0
theorem szH_is {x : Int} {ss : List ByteArray} (h : (szH x ss).2 = 0) : isH x = true ∧ 2 ≤ (szH x ss).1 ∧ (szH x ss).1 ≤ 10 ∧ szH x ss = sz ss (x / 32) := by
  unfold szH at h ⊢
  by_cases hi : isH x = true
  · rw [if_pos hi] at h ⊢
    refine ⟨hi, ?_, ?_, rfl⟩
    all_goals
      unfold sz at h ⊢
      by_cases hr : right ss = true
      · rw [if_pos hr] at h ⊢
        by_cases hn : inR (x / 32) ss.length = true
        · rw [if_pos hn]
          have hl : (x / 32).toNat < ss.length := by simp [inR] at hn; omega
          have := one_size (right_all hr _ hl)
          simp only
          omega
        · rw [if_neg hn] at h; cases h
      · rw [if_neg hr] at h; cases h
  · rw [if_neg hi] at h; cases h
theorem osz_yes {xs : List Int} {ss : List ByteArray} {e p : Int} (h : (szH (wat xs p.toNat) ss).2 = 0) (k : (szH (wat xs p.toNat) ss).1 ≤ e - p) : osz xs ss e p = (szH (wat xs p.toNat) ss).1 := if_pos ⟨h, k⟩
theorem osz_no1 {xs : List Int} {ss : List ByteArray} {e p : Int} (h : ¬ (szH (wat xs p.toNat) ss).2 = 0) : osz xs ss e p = 0 := if_neg fun k => h k.1
theorem osz_no2 {xs : List Int} {ss : List ByteArray} {e p : Int} (h : ¬ (szH (wat xs p.toNat) ss).1 ≤ e - p) : osz xs ss e p = 0 := if_neg fun k => h k.2
theorem osz_cases (xs : List Int) (ss : List ByteArray) (e p : Int) : osz xs ss e p = 0 ∨ (2 ≤ osz xs ss e p ∧ osz xs ss e p ≤ 10 ∧ osz xs ss e p ≤ e - p ∧ isH (wat xs p.toNat) = true ∧ szH (wat xs p.toNat) ss = (osz xs ss e p, 0)) := by
  by_cases h : (szH (wat xs p.toNat) ss).2 = 0
  · by_cases k : (szH (wat xs p.toNat) ss).1 ≤ e - p
    · right
      rw [osz_yes h k]
      obtain ⟨h1, h2, h3, _⟩ := szH_is h
      exact ⟨h2, h3, k, h1, Prod.ext rfl h⟩
    · exact .inl (osz_no2 k)
  · exact .inl (osz_no1 h)
theorem osz_le (xs : List Int) (ss : List ByteArray) (e p : Int) : 0 ≤ osz xs ss e p ∧ osz xs ss e p ≤ 10 := by
  rcases osz_cases xs ss e p with h | h <;> omega
/-- Where the space ends that a word is of. -/
def eo (t s p : Int) : Int := p - (p - (3 + t + t)) % s + s
/-- Is it a word of a space? -/
def spc (t s p : Int) : Bool := decide (3 + t + t ≤ p) && decide (p < 3 + t + t + 2 * s)
theorem eo_in {t s p q : Int} (_hs : 32 ≤ s) (h0 : 3 + t + t + q * s ≤ p) (h1 : p < 3 + t + t + q * s + s) : eo t s p = 3 + t + t + q * s + s := by
  have : (p - (3 + t + t)) % s = p - (3 + t + t) - q * s := by
    rw [show p - (3 + t + t) = (p - (3 + t + t) - q * s) + s * q by rw [Int.mul_comm s q]; omega, Int.add_mul_emod_self_left]
    rw [show p - (3 + t + t) - q * s + s * q - q * s = p - (3 + t + t) - q * s by rw [Int.mul_comm s q]; omega]
    exact Int.emod_eq_of_lt (by omega) (by omega)
  unfold eo
  omega
theorem eo_bd {t s p : Int} (hs : 32 ≤ s) (h : spc t s p = true) : p < eo t s p ∧ eo t s p ≤ 3 + t + t + 2 * s ∧ eo t s p ≤ p + s := by
  simp [spc] at h
  by_cases h1 : p < 3 + t + t + s
  · have := eo_in (q := 0) hs (by omega) (by omega : p < 3 + t + t + 0 * s + s)
    omega
  · have := eo_in (q := 1) hs (by omega) (by omega : p < 3 + t + t + 1 * s + s)
    omega
/-- The error of a call that asks for an object that stands there. -/
def stv (g : Bool) (t s : Int) (xs : List Int) (ss : List ByteArray) (p : Int) : Int :=
  if g = false then 2 else if spc t s p = false then 4 else if osz xs ss (eo t s p) p = 0 then 170 else 0
end Go.Proofs.YtldfmlkjeniemaaGreatDoor
/- package object: words, mustStand. -/
namespace Go.Proofs.YtldfmlkjeniemaaGreatDoor
open Go.RowKit Go.Ly Go.Hd Go.Sh Go.Ob Go.Sort
theorem IsHp.size {W : World} {t s : Int} {a : Option Addr} {n c : Nat} {ss : List ByteArray} {A B : Nat} {xs : List Int} (h : IsHp W t s a n c ss A B xs) : 1 ≤ t ∧ t ≤ 8 ∧ 32 ≤ s ∧ s ≤ 4096 ∧ xs.length ≤ 9000 := by
  obtain ⟨a1, a2, a3, a4, _⟩ := rgt_yes h.rg
  have := h.len
  exact ⟨a1, a2, a3, a4, by omega⟩
set_option maxRecDepth 100000 in
set_option maxHeartbeats 2000000 in
theorem words_err (t s : Int) (a : Option Addr) (n c : Nat) (ss : List ByteArray) (L A B : Nat) (xs : List Int) (q : Nat) (e z er : Int) (w : World) (h : IsHp w t s a n c ss A B xs) (hL : w.heap[L]? = some (arO A)) (hq : q < xs.length)
    (hz : Hid (szH (wat xs q) ss = (z, er))) (he : (er != 0) = true) :
    Calls Tryz.prog 71 #[objV t s a n c L (q : Int) e] w fun e' w' => e' = .returned (.int .i64 0) ∧ Below w.heap.size w w' := by
  have hb := h.ar.bnd.get q
  have bw := below_alloc0 w (objO t s a n c L (q : Int) e)
  have cl := fun d os => Calls.regrown_of (oload_at L A B xs q (grow (redrawn (w.alloc (objO t s a n c L (q : Int) e)) d) os) (h.ar.below (bw.trans ((below_regrown _ d os).mono bw.size))) (row_below hL (bw.trans ((below_regrown _ d os).mono bw.size))) hq)
  have cs := fun d os => Calls.regrown_of (hSize_at (wat xs q) (.slice a n c) ss z er (grow (redrawn (w.alloc (objO t s a n c L (q : Int) e)) d) os) hb.1 hb.2 (h.tab.below (Nat.le_refl _) (bw.trans ((below_regrown _ d os).mono bw.size))) hz.out)
  clear hb
  have c2 := cell_regrown (cell_last w (objC t s a n c L (q : Int) e) 69 2 _ rfl)
  have c3 := cell_regrown (cell_last w (objC t s a n c L (q : Int) e) 69 3 _ rfl)
  have c4 := cell_regrown (cell_last w (objC t s a n c L (q : Int) e) 69 4 _ rfl)
  generalize wat xs q = x at *
  clear h hL hz
  go_enter Tryz.func71, Tryz.ntmps71
  go_wp2_with fail
  generalize w.alloc (objO t s a n c L (q : Int) e) = W at *
  refine wp_region_quiet_below (by kernel_rfl) (by kernel_rfl) ?_
  repeat (go_big_quiet_step ((first | (go_at_call 53; exact cl _ _) | (go_at_call 63; exact cs _ _))))
  refine wpQuiet_nil ?_
  intro _ hw'
  obtain ⟨⟨dq, osq⟩, hw''⟩ := hw'
  subst hw''
  go_wp2
  go_ret
  exact ⟨rfl, bw.trans ((below_regrown W dq osq).mono bw.size)⟩
set_option maxRecDepth 100000 in
set_option maxHeartbeats 2000000 in
theorem words_fit (t s : Int) (a : Option Addr) (n c : Nat) (ss : List ByteArray) (L A B : Nat) (xs : List Int) (q : Nat) (e z : Int) (r : Bool) (w : World) (h : IsHp w t s a n c ss A B xs) (hL : w.heap[L]? = some (arO A)) (hq : q < xs.length) (e0 : 0 ≤ e) (e1 : e ≤ 20000)
    (hz : Hid (szH (wat xs q) ss = (z, 0))) (hr : Hid (decide (z ≤ e - (q : Int)) = r)) :
    Calls Tryz.prog 71 #[objV t s a n c L (q : Int) e] w fun e' w' => e' = .returned (.int .i64 (cond r z 0)) ∧ Below w.heap.size w w' := by
  have hb := h.ar.bnd.get q
  have q9 : (q : Int) ≤ 20000 := by have := h.ar.le; omega
  have bw := below_alloc0 w (objO t s a n c L (q : Int) e)
  have cl := fun d os => Calls.regrown_of (oload_at L A B xs q (grow (redrawn (w.alloc (objO t s a n c L (q : Int) e)) d) os) (h.ar.below (bw.trans ((below_regrown _ d os).mono bw.size))) (row_below hL (bw.trans ((below_regrown _ d os).mono bw.size))) hq)
  have cs := fun d os => Calls.regrown_of (hSize_at (wat xs q) (.slice a n c) ss z 0 (grow (redrawn (w.alloc (objO t s a n c L (q : Int) e)) d) os) hb.1 hb.2 (h.tab.below (Nat.le_refl _) (bw.trans ((below_regrown _ d os).mono bw.size))) hz.out)
  clear hb
  have c2 := cell_regrown (cell_last w (objC t s a n c L (q : Int) e) 69 2 _ rfl)
  have c3 := cell_regrown (cell_last w (objC t s a n c L (q : Int) e) 69 3 _ rfl)
  have c4 := cell_regrown (cell_last w (objC t s a n c L (q : Int) e) 69 4 _ rfl)
  have c0 := cell_regrown (cell_last w (objC t s a n c L (q : Int) e) 69 0 _ rfl)
  have c1 := cell_regrown (cell_last w (objC t s a n c L (q : Int) e) 69 1 _ rfl)
  have c5 := cell_regrown (cell_last w (objC t s a n c L (q : Int) e) 69 5 _ rfl)
  have cf := fun W => fits_any t s a n c L (q : Int) e z W r (by omega) q9 e0 e1 hr
  generalize wat xs q = x at *
  clear h hL hz hr
  go_enter Tryz.func71, Tryz.ntmps71
  go_wp2_with fail
  generalize w.alloc (objO t s a n c L (q : Int) e) = W at *
  have hzW := bw.size
  refine wp_region_quiet_below (by kernel_rfl) (by kernel_rfl) ?_
  repeat (go_big_quiet_step ((first | (go_at_call 53; exact cl _ _) | (go_at_call 63; exact cs _ _))))
  refine wpQuiet_nil ?_
  intro _ hw'
  obtain ⟨⟨dq, osq⟩, hw''⟩ := hw'
  subst hw''
  have B1 := hid (bw.trans ((below_regrown W dq osq).mono hzW))
  have hz1 : w.heap.size ≤ (grow (redrawn W dq) osq).heap.size := by have := (below_regrown W dq osq).size; omega
  cases r
  all_goals
    go_wp2_with (go_at_call 64; refine (cf _).mono ?_)
    rintro e' w2 ⟨rfl, b2⟩
    go_wp2
    go_ret
    exact ⟨rfl, B1.out.trans (b2.mono hz1)⟩
theorem words_any (t s : Int) (a : Option Addr) (n c : Nat) (ss : List ByteArray) (L A B : Nat) (xs : List Int) (q : Nat) (e z : Int) (w : World) (h : IsHp w t s a n c ss A B xs) (hL : w.heap[L]? = some (arO A)) (hq : q < xs.length) (e0 : 0 ≤ e) (e1 : e ≤ 20000) (hz : Hid (osz xs ss e q = z)) :
    Calls Tryz.prog 71 #[objV t s a n c L (q : Int) e] w fun e' w' => e' = .returned (.int .i64 z) ∧ Below w.heap.size w w' := by
  have hz := hz.out
  by_cases he : (szH (wat xs q) ss).2 = 0
  · by_cases hk : (szH (wat xs q) ss).1 ≤ e - (q : Int)
    · have := words_fit t s a n c ss L A B xs q e (szH (wat xs q) ss).1 true w h hL hq e0 e1 (hid (Prod.ext rfl he)) (hid (by simpa using hk))
      rw [osz_yes (by simpa using he) (by simpa using hk)] at hz
      simp only [Int.toNat_natCast] at hz
      rw [hz] at this
      exact this
    · have := words_fit t s a n c ss L A B xs q e (szH (wat xs q) ss).1 false w h hL hq e0 e1 (hid (Prod.ext rfl he)) (hid (by simpa using hk))
      rw [osz_no2 (by simpa using hk)] at hz
      rw [← hz]
      exact this
  · have := words_err t s a n c ss L A B xs q e (szH (wat xs q) ss).1 (szH (wat xs q) ss).2 w h hL hq (hid rfl) (by simpa using he)
    rw [osz_no1 (by simpa using he)] at hz
    rw [← hz]
    exact this
set_option maxHeartbeats 1000000 in
theorem mustStand_no (t s : Int) (a : Option Addr) (n c : Nat) (ss : List ByteArray) (L A B : Nat) (xs : List Int) (q : Nat) (e : Int) (w : World) (h : IsHp w t s a n c ss A B xs) (hL : w.heap[L]? = some (arO A)) (hq : q < xs.length) (e0 : 0 ≤ e) (e1 : e ≤ 20000) (hz : Hid (osz xs ss e q = 0)) :
    Calls Tryz.prog 56 #[objV t s a n c L (q : Int) e] w fun e' w' => e' = upE 170 ∧ Below w.heap.size w w' := by
  have bw := below_alloc0 w (objO t s a n c L (q : Int) e)
  have cw := words_any t s a n c ss L A B xs q e 0 _ (h.below bw) (row_below hL bw) hq e0 e1 hz
  clear h hL hz
  go_enter Tryz.func56, Tryz.ntmps56
  go_wp2_with (first | (go_at_call 71; refine cw.mono ?_; rintro e w' ⟨rfl, b1⟩) | (go_at_call 51; refine (giveUp_any _ _).mono ?_; rintro e w' ⟨rfl, hw⟩; rw [hw]; clear hw))
  exact ⟨rfl, rfl, bel1 b1⟩
set_option maxHeartbeats 1000000 in
theorem mustStand_yes (t s : Int) (a : Option Addr) (n c : Nat) (ss : List ByteArray) (L A B : Nat) (xs : List Int) (q : Nat) (e z : Int) (w : World) (h : IsHp w t s a n c ss A B xs) (hL : w.heap[L]? = some (arO A)) (hq : q < xs.length) (e0 : 0 ≤ e) (e1 : e ≤ 20000) (hz : Hid (osz xs ss e q = z)) (z0 : (z == 0) = false) :
    Calls Tryz.prog 56 #[objV t s a n c L (q : Int) e] w fun e' w' => e' = .returned (.int .i64 z) ∧ Below w.heap.size w w' := by
  have bw := below_alloc0 w (objO t s a n c L (q : Int) e)
  have cw := words_any t s a n c ss L A B xs q e z _ (h.below bw) (row_below hL bw) hq e0 e1 hz
  clear h hL hz
  go_enter Tryz.func56, Tryz.ntmps56
  go_wp2_with (go_at_call 71; refine cw.mono ?_; rintro e w' ⟨rfl, b1⟩)
  go_ret
  exact ⟨rfl, bel1 b1⟩
end Go.Proofs.YtldfmlkjeniemaaGreatDoor
