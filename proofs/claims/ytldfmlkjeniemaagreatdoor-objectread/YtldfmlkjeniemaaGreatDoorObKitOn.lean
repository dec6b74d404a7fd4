/- package object: a heap in memory; its words loaded; fits, words, mustStand. -/
import Derived.Test.YtldfmlkjeniemaaGreatDoorBsKitOn
import Derived.Test.YtldfmlkjeniemaaGreatDoorObMathOn
import Derived.Test.YtldfmlkjeniemaaGreatDoorLyXmayOn
import Derived.Test.YtldfmlkjeniemaaGreatDoorArCallOn
import Derived.Test.YtldfmlkjeniemaaGreatDoorHdTopOn
namespace Go.Proofs.YtldfmlkjeniemaaGreatDoor
open Go.RowKit Go.Ly Go.Hd Go.Sh Go.Ob
/-- A plan that may be, and an arena of it. -/
structure IsHp (W : World) (t s : Int) (a : Option Addr) (n c : Nat) (ss : List ByteArray) (A B : Nat) (xs : List Int) : Prop where
  tab : IsTab W (.slice a n c) ss
  nums : LNums W
  ar : IsAr W A B xs
  rg : rgt t s ss = true
  len : (xs.length : Int) = 3 + t + t + 2 * s
theorem IsHp.below {W W' : World} {t s : Int} {a : Option Addr} {n c : Nat} {ss : List ByteArray} {A B : Nat} {xs : List Int} (h : IsHp W t s a n c ss A B xs) (b : Below W.heap.size W W') : IsHp W' t s a n c ss A B xs :=
  ⟨h.tab.below (Nat.le_refl _) b, h.nums.below b, h.ar.below b, h.rg, h.len⟩
theorem ck_load (q : Nat) : ck 1 (q : Int) 0 0 = true := by simp [ck]
theorem Load_in (A B : Nat) (xs : List Int) (q : Nat) (w : World) (h : IsAr w A B xs) (hq : q < xs.length) :
    Calls Tryz.prog 54 #[.pointer (some ⟨A, 0, none⟩), .int .i64 (q : Int)] w fun e w' => e = .returned (.tuple #[.int .u64 (wat xs q), .int .i64 0]) ∧ Below w.heap.size w w' := by
  go_enter Tryz.func54, Tryz.ntmps54
  go_wp2_with (go_at_call 65; refine (Do_1 A B xs q _ h (ck_load q) hq).mono ?_; rintro e w' ⟨rfl, b1⟩)
  go_ret2
  exact ⟨rfl, b1⟩
/-- The box that leads to the arena. -/
abbrev arO (A : Nat) : Obj := .cells #[.pointer (some ⟨A, 0, none⟩)] 30
theorem oload_at (L A B : Nat) (xs : List Int) (q : Nat) (w : World) (h : IsAr w A B xs) (hL : w.heap[L]? = some (arO A)) (hq : q < xs.length) :
    Calls Tryz.prog 53 #[.int .i64 (q : Int), .pointer (some ⟨L, 0, none⟩)] w fun e w' => e = .returned (.int .u64 (wat xs q)) ∧ Below w.heap.size w w' := by
  have hc := at_row hL 0 rfl
  go_enter Tryz.func53, Tryz.ntmps53
  go_wp2_with (go_at_call 54; refine (Load_in A B xs q _ h hq).mono ?_; rintro e w' ⟨rfl, b1⟩)
  go_ret
  exact ⟨rfl, b1⟩
/-- An object under way. -/
abbrev loadV (L : Nat) : Value := .func (.func 53) #[] #[.pointer (some ⟨L, 0, none⟩)]
abbrev objC (t s : Int) (a : Option Addr) (n c : Nat) (L : Nat) (p e : Int) : Array Value := #[.int .i64 t, .int .i64 s, .slice a n c, loadV L, .int .i64 p, .int .i64 e]
abbrev objV (t s : Int) (a : Option Addr) (n c : Nat) (L : Nat) (p e : Int) : Value := .agg (objC t s a n c L p e)
abbrev objO (t s : Int) (a : Option Addr) (n c : Nat) (L : Nat) (p e : Int) : Obj := .cells (objC t s a n c L p e) 69
theorem fits_any (t s : Int) (a : Option Addr) (n c : Nat) (L : Nat) (p e z : Int) (w : World) (r : Bool) (p0 : 0 ≤ p) (p1 : p ≤ 20000) (e0 : 0 ≤ e) (e1 : e ≤ 20000) (hr : Hid (decide (z ≤ e - p) = r)) :
    Calls Tryz.prog 64 #[objV t s a n c L p e, .int .i64 z] w fun e' w' => e' = .returned (.bool r) ∧ Below w.heap.size w w' := by
  go_enter Tryz.func64, Tryz.ntmps64
  go_wp2
  go_ret
  exact ⟨ret_bool hr.out, below_alloc0 _ _⟩
end Go.Proofs.YtldfmlkjeniemaaGreatDoor
/- Plain: how many words an object has that stands at a word of an arena; what is asked ahead of it. -/
namespace Go.Proofs.YtldfmlkjeniemaaGreatDoor
open Go.RowKit Go.Ly Go.Hd Go.Sh Go.Ob
/-- How many words the object has that stands at the word p of a space that ends at e; 0: none stands there. -/
def osz (xs : List Int) (ss : List ByteArray) (e p : Int) : Int :=
  if (szH (wat xs p.toNat) ss).2 = 0 ∧ (szH (wat xs p.toNat) ss).1 ≤ e - p then (szH (wat xs p.toNat) ss).1 else 0
theorem szH_is {x : Int} {ss : List ByteArray} (h : (szH x ss).2 = 0) : isH x = true ∧ 2 ≤ (szH x ss).1 ∧ (szH x ss).1 ≤ 10 ∧ szH x ss = sz ss (x / 32) := by
  unfold szH at h ⊢
  by_cases hi : isH x = true
  · rw [if_pos hi] at h ⊢
    refine ⟨hi, ?_, ?_, rfl⟩
    all_goals
      unfold sz at h ⊢
      by_cases hr : right ss = true
      · rw [if_pos hr] at h ⊢
        by_cases hn : inR (x / 32) ss.length = true
        · rw [if_pos hn]
          have hl : (x / 32).toNat < ss.length := by simp [inR] at hn; omega
          have := one_size (right_all hr _ hl)
          simp only
          omega
        · rw [if_neg hn] at h; cases h
      · rw [if_neg hr] at h; cases h
  · rw [if_neg hi] at h; cases h
theorem osz_yes {xs : List Int} {ss : List ByteArray} {e p : Int} (h : (szH (wat xs p.toNat) ss).2 = 0) (k : (szH (wat xs p.toNat) ss).1 ≤ e - p) : osz xs ss e p = (szH (wat xs p.toNat) ss).1 := if_pos ⟨h, k⟩
theorem osz_no1 {xs : List Int} {ss : List ByteArray} {e p : Int} (h : ¬ (szH (wat xs p.toNat) ss).2 = 0) : osz xs ss e p = 0 := if_neg fun k => h k.1
theorem osz_no2 {xs : List Int} {ss : List ByteArray} {e p : Int} (h : ¬ (szH (wat xs p.toNat) ss).1 ≤ e - p) : osz xs ss e p = 0 := if_neg fun k => h k.2
theorem osz_cases (xs : List Int) (ss : List ByteArray) (e p : Int) : osz xs ss e p = 0 ∨ (2 ≤ osz xs ss e p ∧ osz xs ss e p ≤ 10 ∧ osz xs ss e p ≤ e - p ∧ isH (wat xs p.toNat) = true ∧ szH (wat xs p.toNat) ss = (osz xs ss e p, 0)) := by
  by_cases h : (szH (wat xs p.toNat) ss).2 = 0
  · by_cases k : (szH (wat xs p.toNat) ss).1 ≤ e - p
    · right
      rw [osz_yes h k]
      obtain ⟨h1, h2, h3, _⟩ := szH_is h
      exact ⟨h2, h3, k, h1, Prod.ext rfl h⟩
    · exact .inl (osz_no2 k)
  · exact .inl (osz_no1 h)
theorem osz_le (xs : List Int) (ss : List ByteArray) (e p : Int) : 0 ≤ osz xs ss e p ∧ osz xs ss e p ≤ 10 := by
  rcases osz_cases xs ss e p with h | h <;> omega
/-- Where the space ends that a word is of. -/
def eo (t s p : Int) : Int := p - (p - (3 + t + t)) % s + s
/-- Is it a word of a space? -/
def spc (t s p : Int) : Bool := decide (3 + t + t ≤ p) && decide (p < 3 + t + t + 2 * s)
theorem eo_in {t s p q : Int} (_hs : 32 ≤ s) (h0 : 3 + t + t + q * s ≤ p) (h1 : p < 3 + t + t + q * s + s) : eo t s p = 3 + t + t + q * s + s := by
  have : (p - (3 + t + t)) % s = p - (3 + t + t) - q * s := by
    rw [show p - (3 + t + t) = (p - (3 + t + t) - q * s) + s * q by rw [Int.mul_comm s q]; omega, Int.add_mul_emod_self_left]
    rw [show p - (3 + t + t) - q * s + s * q - q * s = p - (3 + t + t) - q * s by rw [Int.mul_comm s q]; omega]
    exact Int.emod_eq_of_lt (by omega) (by omega)
  unfold eo
  omega
theorem eo_bd {t s p : Int} (hs : 32 ≤ s) (h : spc t s p = true) : p < eo t s p ∧ eo t s p ≤ 3 + t + t + 2 * s ∧ eo t s p ≤ p + s := by
  simp [spc] at h
  by_cases h1 : p < 3 + t + t + s
  · have := eo_in (q := 0) hs (by omega) (by omega : p < 3 + t + t + 0 * s + s)
    omega
  · have := eo_in (q := 1) hs (by omega) (by omega : p < 3 + t + t + 1 * s + s)
    omega
/-- The error of a call that asks for an object that stands there. -/
def stv (g : Bool) (t s : Int) (xs : List Int) (ss : List ByteArray) (p : Int) : Int :=
  if g = false then 2 else if spc t s p = false then 4 else if osz xs ss (eo t s p) p = 0 then 170 else 0
end Go.Proofs.YtldfmlkjeniemaaGreatDoor
/- package object: words, mustStand. -/
namespace Go.Proofs.YtldfmlkjeniemaaGreatDoor
open Go.RowKit Go.Ly Go.Hd Go.Sh Go.Ob Go.Sort
theorem IsHp.size {W : World} {t s : Int} {a : Option Addr} {n c : Nat} {ss : List ByteArray} {A B : Nat} {xs : List Int} (h : IsHp W t s a n c ss A B xs) : 1 ≤ t ∧ t ≤ 8 ∧ 32 ≤ s ∧ s ≤ 4096 ∧ xs.length ≤ 9000 := by
  obtain ⟨a1, a2, a3, a4, _⟩ := rgt_yes h.rg
  have := h.len
  exact ⟨a1, a2, a3, a4, by omega⟩
set_option maxRecDepth 100000 in
set_option maxHeartbeats 2000000 in
theorem words_err (t s : Int) (a : Option Addr) (n c : Nat) (ss : List ByteArray) (L A B : Nat) (xs : List Int) (q : Nat) (e z er : Int) (w : World) (h : IsHp w t s a n c ss A B xs) (hL : w.heap[L]? = some (arO A)) (hq : q < xs.length)
    (hz : Hid (szH (wat xs q) ss = (z, er))) (he : (er != 0) = true) :
    Calls Tryz.prog 71 #[objV t s a n c L (q : Int) e] w fun e' w' => e' = .returned (.int .i64 0) ∧ Below w.heap.size w w' := by
  have hb := h.ar.bnd.get q
  have bw := below_alloc0 w (objO t s a n c L (q : Int) e)
  have cl := fun d os => Calls.regrown_of (oload_at L A B xs q (grow (redrawn (w.alloc (objO t s a n c L (q : Int) e)) d) os) (h.ar.below (bw.trans ((below_regrown _ d os).mono bw.size))) (row_below hL (bw.trans ((below_regrown _ d os).mono bw.size))) hq)
  have cs := fun d os => Calls.regrown_of (hSize_at (wat xs q) (.slice a n c) ss z er (grow (redrawn (w.alloc (objO t s a n c L (q : Int) e)) d) os) hb.1 hb.2 (h.tab.below (Nat.le_refl _) (bw.trans ((below_regrown _ d os).mono bw.size))) hz.out)
  clear hb
  have c2 := cell_regrown (cell_last w (objC t s a n c L (q : Int) e) 69 2 _ rfl)
  have c3 := cell_regrown (cell_last w (objC t s a n c L (q : Int) e) 69 3 _ rfl)
  have c4 := cell_regrown (cell_last w (objC t s a n c L (q : Int) e) 69 4 _ rfl)
  generalize wat xs q = x at *
  clear h hL hz
  go_enter Tryz.func71, Tryz.ntmps71
  go_wp2_with fail
  generalize w.alloc (objO t s a n c L (q : Int) e) = W at *
  refine wp_region_quiet_below (by kernel_rfl) (by kernel_rfl) ?_
  repeat (go_big_quiet_step ((first | (go_at_call 53; exact cl _ _) | (go_at_call 63; exact cs _ _))))
  refine wpQuiet_nil ?_
  intro _ hw'
  obtain ⟨⟨dq, osq⟩, hw''⟩ := hw'
  subst hw''
  go_wp2
  go_ret
  exact ⟨rfl, bw.trans ((below_regrown W dq osq).mono bw.size)⟩
set_option maxRecDepth 100000 in
set_option maxHeartbeats 2000000 in
theorem words_fit (t s : Int) (a : Option Addr) (n c : Nat) (ss : List ByteArray) (L A B : Nat) (xs : List Int) (q : Nat) (e z : Int) (r : Bool) (w : World) (h : IsHp w t s a n c ss A B xs) (hL : w.heap[L]? = some (arO A)) (hq : q < xs.length) (e0 : 0 ≤ e) (e1 : e ≤ 20000)
    (hz : Hid (szH (wat xs q) ss = (z, 0))) (hr : Hid (decide (z ≤ e - (q : Int)) = r)) :
    Calls Tryz.prog 71 #[objV t s a n c L (q : Int) e] w fun e' w' => e' = .returned (.int .i64 (cond r z 0)) ∧ Below w.heap.size w w' := by
  have hb := h.ar.bnd.get q
  have q9 : (q : Int) ≤ 20000 := by have := h.ar.le; omega
  have bw := below_alloc0 w (objO t s a n c L (q : Int) e)
  have cl := fun d os => Calls.regrown_of (oload_at L A B xs q (grow (redrawn (w.alloc (objO t s a n c L (q : Int) e)) d) os) (h.ar.below (bw.trans ((below_regrown _ d os).mono bw.size))) (row_below hL (bw.trans ((below_regrown _ d os).mono bw.size))) hq)
  have cs := fun d os => Calls.regrown_of (hSize_at (wat xs q) (.slice a n c) ss z 0 (grow (redrawn (w.alloc (objO t s a n c L (q : Int) e)) d) os) hb.1 hb.2 (h.tab.below (Nat.le_refl _) (bw.trans ((below_regrown _ d os).mono bw.size))) hz.out)
  clear hb
  have c2 := cell_regrown (cell_last w (objC t s a n c L (q : Int) e) 69 2 _ rfl)
  have c3 := cell_regrown (cell_last w (objC t s a n c L (q : Int) e) 69 3 _ rfl)
  have c4 := cell_regrown (cell_last w (objC t s a n c L (q : Int) e) 69 4 _ rfl)
  have c0 := cell_regrown (cell_last w (objC t s a n c L (q : Int) e) 69 0 _ rfl)
  have c1 := cell_regrown (cell_last w (objC t s a n c L (q : Int) e) 69 1 _ rfl)
  have c5 := cell_regrown (cell_last w (objC t s a n c L (q : Int) e) 69 5 _ rfl)
  have cf := fun W => fits_any t s a n c L (q : Int) e z W r (by omega) q9 e0 e1 hr
  generalize wat xs q = x at *
  clear h hL hz hr
  go_enter Tryz.func71, Tryz.ntmps71
  go_wp2_with fail
  generalize w.alloc (objO t s a n c L (q : Int) e) = W at *
  have hzW := bw.size
  refine wp_region_quiet_below (by kernel_rfl) (by kernel_rfl) ?_
  repeat (go_big_quiet_step ((first | (go_at_call 53; exact cl _ _) | (go_at_call 63; exact cs _ _))))
  refine wpQuiet_nil ?_
  intro _ hw'
  obtain ⟨⟨dq, osq⟩, hw''⟩ := hw'
  subst hw''
  have B1 := hid (bw.trans ((below_regrown W dq osq).mono hzW))
  have hz1 : w.heap.size ≤ (grow (redrawn W dq) osq).heap.size := by have := (below_regrown W dq osq).size; omega
  cases r
  all_goals
    go_wp2_with (go_at_call 64; refine (cf _).mono ?_)
    rintro e' w2 ⟨rfl, b2⟩
    go_wp2
    go_ret
    exact ⟨rfl, B1.out.trans (b2.mono hz1)⟩
theorem words_any (t s : Int) (a : Option Addr) (n c : Nat) (ss : List ByteArray) (L A B : Nat) (xs : List Int) (q : Nat) (e z : Int) (w : World) (h : IsHp w t s a n c ss A B xs) (hL : w.heap[L]? = some (arO A)) (hq : q < xs.length) (e0 : 0 ≤ e) (e1 : e ≤ 20000) (hz : Hid (osz xs ss e q = z)) :
    Calls Tryz.prog 71 #[objV t s a n c L (q : Int) e] w fun e' w' => e' = .returned (.int .i64 z) ∧ Below w.heap.size w w' := by
  have hz := hz.out
  by_cases he : (szH (wat xs q) ss).2 = 0
  · by_cases hk : (szH (wat xs q) ss).1 ≤ e - (q : Int)
    · have := words_fit t s a n c ss L A B xs q e (szH (wat xs q) ss).1 true w h hL hq e0 e1 (hid (Prod.ext rfl he)) (hid (by simpa using hk))
      rw [osz_yes (by simpa using he) (by simpa using hk)] at hz
      simp only [Int.toNat_natCast] at hz
      rw [hz] at this
      exact this
    · have := words_fit t s a n c ss L A B xs q e (szH (wat xs q) ss).1 false w h hL hq e0 e1 (hid (Prod.ext rfl he)) (hid (by simpa using hk))
      rw [osz_no2 (by simpa using hk)] at hz
      rw [← hz]
      exact this
  · have := words_err t s a n c ss L A B xs q e (szH (wat xs q) ss).1 (szH (wat xs q) ss).2 w h hL hq (hid rfl) (by simpa using he)
    rw [osz_no1 (by simpa using he)] at hz
    rw [← hz]
    exact this
set_option maxHeartbeats 1000000 in
theorem mustStand_no (t s : Int) (a : Option Addr) (n c : Nat) (ss : List ByteArray) (L A B : Nat) (xs : List Int) (q : Nat) (e : Int) (w : World) (h : IsHp w t s a n c ss A B xs) (hL : w.heap[L]? = some (arO A)) (hq : q < xs.length) (e0 : 0 ≤ e) (e1 : e ≤ 20000) (hz : Hid (osz xs ss e q = 0)) :
    Calls Tryz.prog 56 #[objV t s a n c L (q : Int) e] w fun e' w' => e' = upE 170 ∧ Below w.heap.size w w' := by
  have bw := below_alloc0 w (objO t s a n c L (q : Int) e)
  have cw := words_any t s a n c ss L A B xs q e 0 _ (h.below bw) (row_below hL bw) hq e0 e1 hz
  clear h hL hz
  go_enter Tryz.func56, Tryz.ntmps56
  go_wp2_with (first | (go_at_call 71; refine cw.mono ?_; rintro e w' ⟨rfl, b1⟩) | (go_at_call 51; refine (giveUp_any _ _).mono ?_; rintro e w' ⟨rfl, hw⟩; rw [hw]; clear hw))
  exact ⟨rfl, rfl, bel1 b1⟩
set_option maxHeartbeats 1000000 in
theorem mustStand_yes (t s : Int) (a : Option Addr) (n c : Nat) (ss : List ByteArray) (L A B : Nat) (xs : List Int) (q : Nat) (e z : Int) (w : World) (h : IsHp w t s a n c ss A B xs) (hL : w.heap[L]? = some (arO A)) (hq : q < xs.length) (e0 : 0 ≤ e) (e1 : e ≤ 20000) (hz : Hid (osz xs ss e q = z)) (z0 : (z == 0) = false) :
    Calls Tryz.prog 56 #[objV t s a n c L (q : Int) e] w fun e' w' => e' = .returned (.int .i64 z) ∧ Below w.heap.size w w' := by
  have bw := below_alloc0 w (objO t s a n c L (q : Int) e)
  have cw := words_any t s a n c ss L A B xs q e z _ (h.below bw) (row_below hL bw) hq e0 e1 hz
  clear h hL hz
  go_enter Tryz.func56, Tryz.ntmps56
  go_wp2_with (go_at_call 71; refine cw.mono ?_; rintro e w' ⟨rfl, b1⟩)
  go_ret
  exact ⟨rfl, bel1 b1⟩
end Go.Proofs.YtldfmlkjeniemaaGreatDoor
