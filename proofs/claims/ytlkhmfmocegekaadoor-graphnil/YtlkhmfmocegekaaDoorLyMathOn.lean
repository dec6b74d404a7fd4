/- The plain mathematics of layer 6: plans, their parts, where they stand; no model in it. -/
import Derived.Test.YtlkhmfmocegekaaDoorWdRtOn
import Derived.Test.YtlkhmfmocegekaaDoorBsKit
import Derived.Test.YtlkhmfmocegekaaDoorOpKindsOn
namespace Go.Ly
open Go.Sh
/-- May there be so many threads, and so many words in a space? -/
def nums (t s : Int) : Bool := decide (1 ≤ t) && decide (t ≤ 8) && (decide (32 ≤ s) && decide (s ≤ 4096))
/-- May it be a plan? -/
def rgt (t s : Int) (ss : List ByteArray) : Bool := nums t s && right ss
/-- How many parts there are of a kind, and how many words each has. -/
def prt (t : Int) : Nat → Int
  | 0 => 0
  | 1 => 1
  | 2 => 1
  | 3 => 1
  | 4 => t
  | 5 => t
  | _ => 2
def wrd (s : Int) : Nat → Int
  | 0 => 0
  | 1 => 1
  | 2 => 1
  | 3 => 1
  | 4 => 1
  | 5 => 1
  | _ => s
/-- The first word of a kind. -/
def bs (t s : Int) : Nat → Int
  | 0 => 0
  | k + 1 => bs t s k + prt t k * wrd s k
theorem bs1 (t s : Int) : bs t s 1 = 0 := by simp [bs, prt]
theorem bs2 (t s : Int) : bs t s 2 = 1 := by simp [bs, prt, wrd]
theorem bs3 (t s : Int) : bs t s 3 = 2 := by simp [bs, prt, wrd]
theorem bs4 (t s : Int) : bs t s 4 = 3 := by simp [bs, prt, wrd]
theorem bs5 (t s : Int) : bs t s 5 = 3 + t := by simp [bs, prt, wrd]
theorem bs6 (t s : Int) : bs t s 6 = 3 + t + t := by simp [bs, prt, wrd]
theorem bs7 (t s : Int) : bs t s 7 = 3 + t + t + 2 * s := by
  show bs t s 6 + prt t 6 * wrd s 6 = _
  rw [bs6]; rfl
/-- May it be a part? -/
def mayP (k n a : Int) : Bool := decide (1 ≤ k) && decide (k ≤ 6) && (decide (4 ≤ k) || decide (n = 0)) && (decide (6 ≤ k) || decide (a = 0))
/-- Is the part there? -/
def hasP (t s k n a : Int) : Bool := decide (0 ≤ n) && decide (n ≤ prt t k.toNat - 1) && (decide (0 ≤ a) && decide (a ≤ wrd s k.toNat - 1))
/-- A part's word, and the error, of a plan that may be. -/
def av (t s k n a : Int) : Int × Int :=
  if mayP k n a = true then (if hasP t s k n a = true then (bs t s k.toNat + n * wrd s k.toNat + a, 0) else (0, 4)) else (0, 2)
/-- A word's kind. -/
def kn (t a : Int) : Nat := if a < 1 then 1 else if a < 2 then 2 else if a < 3 then 3 else if a < 3 + t then 4 else if a < 3 + t + t then 5 else 6
/-- Its part. -/
def pt (t s a : Int) : Int × Int × Int := ((kn t a : Int), (a - bs t s (kn t a)) / wrd s (kn t a), (a - bs t s (kn t a)) % wrd s (kn t a))
theorem kn_cases (t a : Int) : kn t a = 1 ∨ kn t a = 2 ∨ kn t a = 3 ∨ kn t a = 4 ∨ kn t a = 5 ∨ kn t a = 6 := by
  unfold kn; repeat (first | split | omega)
/-- By what the word is: its part, written out. -/
theorem pt_is {t s a : Int} (s1 : 32 ≤ s) (a0 : 0 ≤ a) (a1 : a < 3 + t + t + 2 * s) :
    (a = 0 ∧ pt t s a = (1, 0, 0)) ∨ (a = 1 ∧ pt t s a = (2, 0, 0)) ∨ (a = 2 ∧ pt t s a = (3, 0, 0)) ∨ (3 ≤ a ∧ a < 3 + t ∧ pt t s a = (4, a - 3, 0)) ∨
    (3 + t ≤ a ∧ a < 3 + t + t ∧ pt t s a = (5, a - 3 - t, 0)) ∨ (3 + t + t ≤ a ∧ a < 3 + t + t + s ∧ pt t s a = (6, 0, a - (3 + t + t))) ∨ (3 + t + t + s ≤ a ∧ pt t s a = (6, 1, a - (3 + t + t + s))) := by
  unfold pt kn
  by_cases h1 : a < 1
  · left; refine ⟨by omega, ?_⟩; rw [if_pos h1, bs1]; simp [wrd]; omega
  rw [if_neg h1]
  by_cases h2 : a < 2
  · right; left; refine ⟨by omega, ?_⟩; rw [if_pos h2, bs2]; simp [wrd]; omega
  rw [if_neg h2]
  by_cases h3 : a < 3
  · right; right; left; refine ⟨by omega, ?_⟩; rw [if_pos h3, bs3]; simp [wrd]; omega
  rw [if_neg h3]
  by_cases h4 : a < 3 + t
  · right; right; right; left; refine ⟨by omega, by omega, ?_⟩; rw [if_pos h4, bs4]; simp [wrd]
  rw [if_neg h4]
  by_cases h5 : a < 3 + t + t
  · right; right; right; right; left; refine ⟨by omega, by omega, ?_⟩; rw [if_pos h5, bs5]; simp [wrd]; omega
  rw [if_neg h5, bs6]
  by_cases h6 : a < 3 + t + t + s
  · right; right; right; right; right; left
    refine ⟨by omega, h6, ?_⟩
    have e1 : (a - (3 + t + t)) / s = 0 := Int.ediv_eq_zero_of_lt (by omega) (by omega)
    have e2 : (a - (3 + t + t)) % s = a - (3 + t + t) := Int.emod_eq_of_lt (by omega) (by omega)
    simp [wrd, e1, e2]
  · right; right; right; right; right; right
    refine ⟨by omega, ?_⟩
    have e0 : a - (3 + t + t) = (a - (3 + t + t + s)) + 1 * s := by omega
    have e1 : (a - (3 + t + t)) / s = 1 := by
      rw [e0, Int.add_mul_ediv_right _ _ (by omega), Int.ediv_eq_zero_of_lt (by omega) (by omega)]; rfl
    have e2 : (a - (3 + t + t)) % s = a - (3 + t + t + s) := by
      rw [e0, Int.add_mul_emod_self_right, Int.emod_eq_of_lt (by omega) (by omega)]
    simp [wrd, e1, e2]
/-- The part's own word. -/
theorem av_yes {t s k n a : Int} {v e : Int} (h : av t s k n a = (v, e)) (he : e = 0) (t1 : 1 ≤ t) (s1 : 32 ≤ s) :
    (k = 1 ∧ n = 0 ∧ a = 0 ∧ v = 0) ∨ (k = 2 ∧ n = 0 ∧ a = 0 ∧ v = 1) ∨ (k = 3 ∧ n = 0 ∧ a = 0 ∧ v = 2) ∨ (k = 4 ∧ 0 ≤ n ∧ n < t ∧ a = 0 ∧ v = 3 + n) ∨
    (k = 5 ∧ 0 ≤ n ∧ n < t ∧ a = 0 ∧ v = 3 + t + n) ∨ (k = 6 ∧ n = 0 ∧ 0 ≤ a ∧ a < s ∧ v = 3 + t + t + a) ∨ (k = 6 ∧ n = 1 ∧ 0 ≤ a ∧ a < s ∧ v = 3 + t + t + s + a) := by
  subst he
  unfold av at h
  by_cases hm : mayP k n a = true
  · rw [if_pos hm] at h
    by_cases hh : hasP t s k n a = true
    · rw [if_pos hh] at h
      simp only [Prod.mk.injEq, and_true] at h
      simp only [mayP, Bool.and_eq_true, Bool.or_eq_true, decide_eq_true_eq] at hm
      simp only [hasP, Bool.and_eq_true, decide_eq_true_eq] at hh
      have hk : k = 1 ∨ k = 2 ∨ k = 3 ∨ k = 4 ∨ k = 5 ∨ k = 6 := by omega
      rcases hk with rfl | rfl | rfl | rfl | rfl | rfl
      · have := bs1 t s; simp [wrd, prt, this] at h hh; omega
      · have := bs2 t s; simp [wrd, prt, this] at h hh; omega
      · have := bs3 t s; simp [wrd, prt, this] at h hh; omega
      · have := bs4 t s; simp [wrd, prt, this] at h hh; omega
      · have := bs5 t s; simp [wrd, prt, this] at h hh; omega
      · have := bs6 t s; simp [wrd, prt, this] at h hh
        have hn : n = 0 ∨ n = 1 := by omega
        rcases hn with rfl | rfl
        · simp at h; omega
        · simp at h; omega
    · rw [if_neg hh] at h; simp at h
  · rw [if_neg hm] at h; simp at h
/-- A part that may be and is there. -/
theorem av_in {t s k n a : Int} (hm : mayP k n a = true) (hh : hasP t s k n a = true) : av t s k n a = (bs t s k.toNat + n * wrd s k.toNat + a, 0) := by
  unfold av; rw [if_pos hm, if_pos hh]
/-- At of Part is the word's number. -/
theorem av_pt {t s a : Int} (s1 : 32 ≤ s) (a0 : 0 ≤ a) (a1 : a < 3 + t + t + 2 * s) {k n b : Int} (h : pt t s a = (k, n, b)) : av t s k n b = (a, 0) := by
  rcases pt_is s1 a0 a1 with ⟨e, f⟩ | ⟨e, f⟩ | ⟨e, f⟩ | ⟨e, e2, f⟩ | ⟨e, e2, f⟩ | ⟨e, e2, f⟩ | ⟨e, f⟩ <;> rw [f] at h <;> simp only [Prod.mk.injEq] at h <;> obtain ⟨rfl, rfl, rfl⟩ := h
  · rw [av_in (by decide) (by simp [hasP, prt, wrd])]; show (bs t s 1 + _, _) = _; rw [bs1]; simp [e]
  · rw [av_in (by decide) (by simp [hasP, prt, wrd])]; show (bs t s 2 + _ * _ + _, _) = _; rw [bs2]; simp [e]
  · rw [av_in (by decide) (by simp [hasP, prt, wrd])]; show (bs t s 3 + _ * _ + _, _) = _; rw [bs3]; simp [e]
  · rw [av_in (by simp [mayP]) (by simp [hasP, prt, wrd]; omega)]; show (bs t s 4 + (a - 3) * 1 + 0, (0 : Int)) = _; rw [bs4, Prod.mk.injEq]; exact ⟨by omega, rfl⟩
  · rw [av_in (by simp [mayP]) (by simp [hasP, prt, wrd]; omega)]; show (bs t s 5 + (a - 3 - t) * 1 + 0, (0 : Int)) = _; rw [bs5, Prod.mk.injEq]; exact ⟨by omega, rfl⟩
  · rw [av_in (by simp [mayP]) (by simp [hasP, prt, wrd]; omega)]; show (bs t s 6 + 0 * s + (a - (3 + t + t)), (0 : Int)) = _; rw [bs6, Prod.mk.injEq]; exact ⟨by omega, rfl⟩
  · rw [av_in (by simp [mayP]) (by simp [hasP, prt, wrd]; omega)]; show (bs t s 6 + 1 * s + (a - (3 + t + t + s)), (0 : Int)) = _; rw [bs6, Prod.mk.injEq]; exact ⟨by omega, rfl⟩
/-- No two parts are at one word. -/
theorem av_inj {t s k n a k' n' a' v v' e e' : Int} (t1 : 1 ≤ t) (s1 : 32 ≤ s) (h : av t s k n a = (v, e)) (h' : av t s k' n' a' = (v', e')) (he : e = 0) (he' : e' = 0) : v = v' ↔ (k = k' ∧ n = n' ∧ a = a') := by
  have h1 := av_yes h he t1 s1
  have h2 := av_yes h' he' t1 s1
  omega
theorem av_err (t s k n a v e : Int) (h : av t s k n a = (v, e)) : (e = 0 ∨ e = 2 ∨ e = 4) ∧ (e = 0 ∨ v = 0) := by
  unfold av at h
  split at h
  · split at h <;> simp at h <;> omega
  · simp at h; omega
theorem nums_yes {t s : Int} (h : nums t s = true) : 1 ≤ t ∧ t ≤ 8 ∧ 32 ≤ s ∧ s ≤ 4096 := by
  simp only [nums, Bool.and_eq_true, decide_eq_true_eq] at h
  omega
theorem rgt_yes {t s : Int} {ss : List ByteArray} (h : rgt t s ss = true) : 1 ≤ t ∧ t ≤ 8 ∧ 32 ≤ s ∧ s ≤ 4096 ∧ right ss = true := by
  simp only [rgt, Bool.and_eq_true] at h
  obtain ⟨a, b, c, d⟩ := nums_yes h.1
  exact ⟨a, b, c, d, h.2⟩
end Go.Ly
/- package layout: within and what it makes; a plan under way: the extents of its kinds. -/
namespace Go.Proofs.YtlkhmfmocegekaaDoor
open Go.RowKit Go.Ly
theorem lwithin_any (a b : Int) (w : World) :
    Calls Tryd.prog 45 #[.int .i64 a, .int .i64 b] w fun e w' => e = .returned (.func (.func 68) #[] #[.pointer (some ⟨w.heap.size, 0, none⟩), .pointer (some ⟨w.heap.size + 1, 0, none⟩)]) ∧
      w' = (w.alloc (.cells #[.int .i64 a] 3)).alloc (.cells #[.int .i64 b] 3) := by
  go_enter Tryd.func45, Tryd.ntmps45
  go_wp2
  go_ret
  exact ⟨by simp, rfl⟩
set_option maxHeartbeats 1000000 in
theorem lwin_at (a b : Int) (ga gb g off len cap : Nat) (zs : List Int) (w : World) (ha : w.cell? ⟨ga, 0, none⟩ = some (.int .i64 a)) (hb : w.cell? ⟨gb, 0, none⟩ = some (.int .i64 b)) (hz : Hid (zs.length = len)) (hlen : len ≤ 100)
    (hc : Hid (∀ i, i < len → w.cell? ⟨g, off + i, none⟩ = some (.int .i64 (zs.getD i 0)))) :
    Calls Tryd.prog 68 #[.slice (some ⟨g, off, none⟩) len cap, .pointer (some ⟨ga, 0, none⟩), .pointer (some ⟨gb, 0, none⟩)] w fun e w' => e = .returned (.bool (Pk.win a b zs)) ∧ w' = w := by
  go_enter Tryd.func68, Tryd.ntmps68
  go_wp2
  go_loop [9] (fun i => ∃ k : Nat, k ≤ len ∧ i = .int .i64 k ∧ Hid (∀ j, j < k → a ≤ zs.getD j 0 ∧ zs.getD j 0 ≤ b)) (fun i => len - (intOf i).toNat)
  case atStart => exact ⟨0, by omega, rfl, fun j hj => by omega⟩
  case round =>
    obtain ⟨k, hk, rfl, hN⟩ := hrel
    by_cases hlt : k < len
    · have hcell := hc.out k hlt
      have hW := hid (fun h => Pk.win_out a b zs k (by rw [hz.out]; exact hlt) h)
      have hN2 := hid (fun (h : a ≤ zs.getD k 0 ∧ zs.getD k 0 ≤ b) j (hj : j < k + 1) => show a ≤ zs.getD j 0 ∧ zs.getD j 0 ≤ b from by
        rcases Nat.lt_succ_iff_lt_or_eq.1 hj with h1 | h1
        · exact hN.out j h1
        · rw [h1]; exact h)
      clear hN
      generalize zs.getD k 0 = x at *
      by_cases h1 : x < a
      · go_wp2
        go_ret
        exact ⟨ret_bool (hW.out (by omega)).symm, rfl⟩
      · have h1' : a ≤ x := by omega
        clear h1
        by_cases h2 : b < x
        · go_wp2
          go_ret
          exact ⟨ret_bool (hW.out (by omega)).symm, rfl⟩
        · have h2' : x ≤ b := by omega
          clear h2
          go_wp2
          go_round
          case rel => exact ⟨k + 1, by omega, by go_num, hN2.out ⟨h1', h2'⟩⟩
          case measure => simp [intOf]; omega
    · have hall := hid (Pk.win_all a b zs (fun j hj => hN.out j (by have := hz.out; omega)))
      go_wp2
      go_ret
      exact ⟨ret_bool hall.out.symm, rfl⟩
theorem lwin_none (ga gb cap : Nat) (p : Option Addr) (w : World) :
    Calls Tryd.prog 68 #[.slice p 0 cap, .pointer (some ⟨ga, 0, none⟩), .pointer (some ⟨gb, 0, none⟩)] w fun e w' => e = .returned (.bool true) ∧ w' = w := by
  go_enter Tryd.func68, Tryd.ntmps68
  go_wp2
  go_loop [9] (fun i => i = .int .i64 0) (fun _ => 0)
  case atStart => rfl
  case round =>
    subst hrel
    go_wp2
    go_ret
    exact ⟨rfl, rfl⟩
/-- .. of one number. -/
theorem lwin_one (a b x : Int) (ga gb g cap : Nat) (c : Bool) (w : World) (ha : w.cell? ⟨ga, 0, none⟩ = some (.int .i64 a)) (hb : w.cell? ⟨gb, 0, none⟩ = some (.int .i64 b)) (hx : w.cell? ⟨g, 0, none⟩ = some (.int .i64 x))
    (hc : Hid ((decide (a ≤ x) && decide (x ≤ b)) = c)) :
    Calls Tryd.prog 68 #[.slice (some ⟨g, 0, none⟩) 1 cap, .pointer (some ⟨ga, 0, none⟩), .pointer (some ⟨gb, 0, none⟩)] w fun e w' => e = .returned (.bool c) ∧ w' = w := by
  refine (lwin_at a b ga gb g 0 1 cap [x] w ha hb (hid rfl) (by omega) (hid (fun i hi => ?_))).mono ?_
  · obtain rfl : i = 0 := by omega
    simpa using hx
  · rintro e w' ⟨rfl, rfl⟩
    exact ⟨ret_bool (by rw [← hc.out]; simp [Pk.win]), rfl⟩
/-- Two bounds in memory. -/
def Wn (w : World) (ga gb : Nat) (a b : Int) : Prop := w.cell? ⟨ga, 0, none⟩ = some (.int .i64 a) ∧ w.cell? ⟨gb, 0, none⟩ = some (.int .i64 b)
theorem Wn.below {w w' : World} {ga gb : Nat} {a b : Int} (h : Wn w ga gb a b) (k : Below w.heap.size w w') : Wn w' ga gb a b :=
  ⟨(k.cell (p := ⟨ga, 0, none⟩) (block_lt_of_cell h.1)).trans h.1, (k.cell (p := ⟨gb, 0, none⟩) (block_lt_of_cell h.2)).trans h.2⟩
theorem lwithin_at (a b : Int) (w : World) :
    Calls Tryd.prog 45 #[.int .i64 a, .int .i64 b] w fun e w' => ∃ ga gb, e = .returned (.func (.func 68) #[] #[.pointer (some ⟨ga, 0, none⟩), .pointer (some ⟨gb, 0, none⟩)]) ∧ Wn w' ga gb a b ∧ Below w.heap.size w w' := by
  refine (lwithin_any a b w).mono ?_
  rintro e w' ⟨rfl, rfl⟩
  have k : Below ((w.alloc (.cells #[.int .i64 a] 3)).alloc (.cells #[.int .i64 b] 3)).heap.size ((w.alloc (.cells #[.int .i64 a] 3)).alloc (.cells #[.int .i64 b] 3)) ((w.alloc (.cells #[.int .i64 a] 3)).alloc (.cells #[.int .i64 b] 3)) := Below.refl _ _
  exact ⟨_, _, rfl, ⟨at_row (row2a k) 0 rfl, at_row (row2b k) 0 rfl⟩, bel2 k⟩
/-- .. of one number, in a new block. -/
theorem lwin_new (a b x : Int) (ga gb : Nat) (c : Bool) (w : World) (h : Wn w ga gb a b) (hc : Hid ((decide (a ≤ x) && decide (x ≤ b)) = c)) :
    Calls Tryd.prog 68 #[.slice (some ⟨w.heap.size, 0, none⟩) 1 1, .pointer (some ⟨ga, 0, none⟩), .pointer (some ⟨gb, 0, none⟩)] (w.alloc (.cells #[.int .i64 x] 3)) fun e w' => e = .returned (.bool c) ∧ Below w.heap.size w w' := by
  have k := h.below (below_alloc0 w (.cells #[.int .i64 x] 3))
  refine (lwin_one a b x ga gb w.heap.size 1 c _ k.1 k.2 (cell_last w _ _ 0 _ rfl) hc).mono ?_
  rintro e w' ⟨rfl, rfl⟩
  exact ⟨rfl, below_alloc0 w _⟩
/-- A plan as a value. -/
abbrev planV (t s : Int) (a : Option Addr) (n c : Nat) : Value := .agg #[.int .i64 t, .int .i64 s, .slice a n c]
end Go.Proofs.YtlkhmfmocegekaaDoor
