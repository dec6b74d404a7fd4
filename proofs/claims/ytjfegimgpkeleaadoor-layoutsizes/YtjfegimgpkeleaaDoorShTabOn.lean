/- Tables of shapes in memory; Check. -/
import Derived.Test.YtjfegimgpkeleaaDoorShAllBOn
import Derived.Laws.BitsAllLaws
import Derived.RowKit
import Derived.WalkSmall
namespace Go.Proofs.YtjfegimgpkeleaaDoor
open Go.RowKit Go.Sh
/-- A table that lies in memory: none of its shapes, or so many cells that each hold a text. -/
def IsTab (w : World) (v : Value) (ss : List ByteArray) : Prop :=
  (ss = [] ∧ ∃ a cap, v = .slice a 0 cap) ∨ ∃ b off cap, v = .slice (some ⟨b, off, none⟩) ss.length cap ∧ ∀ i, i < ss.length → w.cell? ⟨b, off + i, none⟩ = some (.string (at' ss i))
theorem IsTab.below {w w' : World} {v : Value} {ss : List ByteArray} (h : IsTab w v ss) {B : Nat} (hB : w.heap.size ≤ B) (b : Below B w w') : IsTab w' v ss := by
  rcases h with h | ⟨bb, off, cap, rfl, hc⟩
  · exact .inl h
  · exact .inr ⟨bb, off, cap, rfl, fun i hi => (b.cell (p := ⟨bb, off + i, none⟩) (Nat.lt_of_lt_of_le (block_lt_of_cell (hc i hi)) hB)).trans (hc i hi)⟩
theorem IsTab.len {w : World} {v : Value} {ss : List ByteArray} (h : IsTab w v ss) : ∃ a cap, v = .slice a ss.length cap := by
  rcases h with ⟨rfl, a, cap, rfl⟩ | ⟨bb, off, cap, rfl, _⟩
  · exact ⟨a, cap, rfl⟩
  · exact ⟨_, cap, rfl⟩
theorem IsTab.some {w : World} {v : Value} {ss : List ByteArray} (h : IsTab w v ss) (h0 : 1 ≤ ss.length) : ∃ b off cap, v = .slice (some ⟨b, off, none⟩) ss.length cap ∧ ∀ i, i < ss.length → w.cell? ⟨b, off + i, none⟩ = some (.string (at' ss i)) := by
  rcases h with ⟨rfl, _⟩ | h
  · simp at h0
  · exact h
theorem jump_ret {l : Nat} {J : Act → World → Prop} {Q : Exit → Act → World → Prop} {a : Act} {w : World} : Exit.jump l J Q .ret a w = Q .ret a w := rfl
def er (b : Bool) : Int := if b then 0 else 2
set_option maxHeartbeats 2000000 in
theorem check_none (a : Option Addr) (cap : Nat) (w : World) :
    Calls Tryd.prog 46 #[.slice a 0 cap] w fun e w' => e = .returned (.int .i64 2) ∧ Below w.heap.size w w' := by
  go_enter Tryd.func46, Tryd.ntmps46
  go_wp2
  refine wp_scope_once 0 rfl ?_
  go_wp2
  go_step3
  refine ⟨rfl, ?_⟩
  go_wp2
  rw [Exit.noGoto_ret]
  go_ret
  exact ⟨rfl, Below.refl _ _⟩
set_option maxHeartbeats 2000000 in
theorem check_many (a : Option Addr) (len cap : Nat) (h : 16 < len) (w : World) :
    Calls Tryd.prog 46 #[.slice a len cap] w fun e w' => e = .returned (.int .i64 2) ∧ Below w.heap.size w w' := by
  have h1 : (1 : Int) ≤ (len : Int) := by omega
  have h2 : (16 : Int) < (len : Int) := by omega
  go_enter Tryd.func46, Tryd.ntmps46
  go_wp2
  refine wp_scope_once 0 rfl ?_
  go_wp2
  go_step3
  refine ⟨rfl, ?_⟩
  go_wp2
  rw [Exit.noGoto_ret]
  go_ret
  exact ⟨rfl, Below.refl _ _⟩
set_option maxRecDepth 100000 in
set_option maxHeartbeats 2000000 in
theorem check_some (b off cap : Nat) (ss : List ByteArray) (w : World) (h1 : 1 ≤ ss.length) (h16 : ss.length ≤ 16) (hc : Hid (∀ i, i < ss.length → w.cell? ⟨b, off + i, none⟩ = some (.string (at' ss i)))) :
    Calls Tryd.prog 46 #[.slice (some ⟨b, off, none⟩) ss.length cap] w fun e w' => e = .returned (.int .i64 (er (ss.all one))) ∧ Below w.heap.size w w' := by
  have g1 : (1 : Int) ≤ (ss.length : Int) := by omega
  have g2 : (ss.length : Int) ≤ 16 := by omega
  obtain ⟨len, hlen⟩ : ∃ len, len = ss.length := ⟨_, rfl⟩
  have HL := hid hlen
  rw [← hlen] at h1 h16 g1 g2
  rw [← hlen]
  clear hlen
  go_enter Tryd.func46, Tryd.ntmps46
  go_wp2
  refine wp_scope_once 0 rfl ?_
  go_wp2
  go_loopw [15] (fun i wr => ∃ k : Nat, k ≤ len ∧ i = .int .i64 k ∧ Below w.heap.size w wr ∧ Hid (∀ j, j < k → one (at' ss j) = true)) (fun i _ => len - (intOf i).toNat)
  case atStart => exact ⟨0, by omega, rfl, Below.refl _ _, hid (fun j hj => by omega)⟩
  case round =>
    obtain ⟨k, hk, rfl, ar, hall⟩ := hrel
    by_cases hlt : k < len
    · have hcell := hc.out k (by rw [← HL.out]; exact hlt)
      have hbk := block_lt_of_cell hcell
      have hcr : wr.cell? ⟨b, off + k, none⟩ = some (.string (at' ss k)) := (ar.cell (p := ⟨b, off + k, none⟩) hbk).trans hcell
      have Hcell := hid hcell
      clear hcell
      obtain ⟨x, hx⟩ : ∃ x, x = at' ss k := ⟨_, rfl⟩
      rw [← hx] at hcr
      have HX := hid hx
      clear hx
      by_cases ho : one x = true
      · have c := may_any x wr
        rw [ho] at c
        go_wp2_with (go_at_call 61; refine c.mono ?_; rintro e w2 ⟨rfl, b2⟩)
        go_roundw
        case rel =>
          refine ⟨k + 1, by omega, by simp, ar.trans (b2.mono ar.size), hid (fun j hj => ?_)⟩
          by_cases hj2 : j < k
          · exact hall.out j hj2
          · obtain rfl : j = k := by omega
            rw [← HX.out]; exact ho
        case measure => simp [intOf]; omega
      · have ho' : one x = false := by simpa using ho
        have c := may_any x wr
        rw [ho'] at c
        have HN : Hid (ss.all one = false) := hid (all_take_false (k := k) (by rw [← HL.out]; exact hlt) (by rw [← HX.out]; exact ho'))
        go_wp2_with (go_at_call 61; refine c.mono ?_; rintro e w2 ⟨rfl, b2⟩)
        go_step3
        refine ⟨rfl, ?_⟩
        go_wp2
        rw [Exit.noGoto_ret]
        go_ret
        exact ⟨ret_int (by rw [HN.out]; rfl), ar.trans (b2.mono ar.size)⟩
    · obtain rfl : k = len := by omega
      have HN : Hid (ss.all one = true) := hid (all_of_at (fun j hj => hall.out j (by rw [HL.out]; exact hj)))
      go_wp2
      rw [jump_ret]
      go_ret
      exact ⟨ret_int (by rw [HN.out]; rfl), ar⟩
theorem check_any (v : Value) (ss : List ByteArray) (w : World) (h : IsTab w v ss) :
    Calls Tryd.prog 46 #[v] w fun e w' => e = .returned (.int .i64 (er (right ss))) ∧ Below w.heap.size w w' := by
  by_cases h0 : ss.length = 0
  · obtain ⟨a, cap, rfl⟩ := h.len
    rw [h0]
    refine (check_none a cap w).mono ?_
    rintro e w' ⟨rfl, b⟩
    exact ⟨ret_int (by simp [right, h0, er]), b⟩
  · by_cases h16 : ss.length ≤ 16
    · obtain ⟨b, off, cap, rfl, hc⟩ := h.some (by omega)
      refine (check_some b off cap ss w (by omega) h16 (hid hc)).mono ?_
      rintro e w' ⟨rfl, b⟩
      exact ⟨ret_int (by simp [right, h16, show 1 ≤ ss.length by omega]), b⟩
    · obtain ⟨a, cap, rfl⟩ := h.len
      refine (check_many a _ cap (by omega) w).mono ?_
      rintro e w' ⟨rfl, b⟩
      exact ⟨ret_int (by simp [right, h16, er]), b⟩
end Go.Proofs.YtjfegimgpkeleaaDoor
/- package shape: findShape, greatest, size, Size, Most, Kind, Is. -/
namespace Go.Proofs.YtjfegimgpkeleaaDoor
open Go.RowKit Go.Sh
def fs (ss : List ByteArray) (n : Int) : ByteArray × Int := if right ss then (if inR n ss.length then (at' ss n.toNat, 0) else (ByteArray.empty, 130)) else (ByteArray.empty, 2)
theorem ret_si {a b : ByteArray} {c d : Int} (h : a = b) (h2 : c = d) : Ending.returned (.tuple #[.string a, .int .i64 c]) = .returned (.tuple #[.string b, .int .i64 d]) := by rw [h, h2]
theorem fs_no {ss : List ByteArray} {n : Int} (h : right ss = false) : fs ss n = (ByteArray.empty, 2) := by simp [fs, h]
theorem fs_out {ss : List ByteArray} {n : Int} (h : right ss = true) (h2 : inR n ss.length = false) : fs ss n = (ByteArray.empty, 130) := by simp [fs, h, h2]
theorem fs_in {ss : List ByteArray} {k : Nat} (h : right ss = true) (h2 : k < ss.length) : fs ss k = (at' ss k, 0) := by simp [fs, h, inR, h2]
theorem sz_no {ss : List ByteArray} {n : Int} (h : right ss = false) : sz ss n = (0, 2) := by simp [sz, h]
theorem sz_out {ss : List ByteArray} {n : Int} (h : right ss = true) (h2 : inR n ss.length = false) : sz ss n = (0, 130) := by simp [sz, h, h2]
theorem sz_in {ss : List ByteArray} {n : Int} (h : right ss = true) (h2 : inR n ss.length = true) : sz ss n = (2 + ((at' ss n.toNat).size : Int), 0) := by simp [sz, h, h2]
theorem inR_lt {n : Int} {k : Nat} (h : inR n k = true) : n.toNat < k := by simp [inR] at h; omega
/-- What Most answers. -/
def ms (ss : List ByteArray) : Int × Int := if right ss then (most ss, 0) else (0, 2)
end Go.Proofs.YtjfegimgpkeleaaDoor
/- package head: Make, Of, Marked, Size, Name. -/
namespace Go.Hd
/-- Is it a header's word? -/
def isH (x : Int) : Bool := decide (x % 8 = 6) && ok (x / 32) (x / 8 % 4)
theorem isH_wd {s m : Int} (h : ok s m = true) : isH (wd s m) = true ∧ wd s m / 32 = s ∧ wd s m / 8 % 4 = m ∧ 0 ≤ wd s m ∧ wd s m ≤ 510 := by
  obtain ⟨a, b, c, d⟩ := ok_yes h
  have e1 : wd s m / 32 = s := by unfold wd; omega
  have e2 : wd s m / 8 % 4 = m := by unfold wd; omega
  have e3 : wd s m % 8 = 6 := by unfold wd; omega
  refine ⟨?_, e1, e2, ?_, ?_⟩
  · unfold isH; rw [e1, e2, e3, h]; rfl
  · unfold wd; omega
  · unfold wd; omega
theorem isH_is {x : Int} (h : isH x = true) : ok (x / 32) (x / 8 % 4) = true ∧ x % 8 = 6 ∧ wd (x / 32) (x / 8 % 4) = x := by
  simp only [isH, Bool.and_eq_true, decide_eq_true_eq] at h
  refine ⟨h.2, h.1, ?_⟩
  unfold wd; omega
def mkd (x m : Int) : Int × Int := if isH x && mk m then (wd (x / 32) m, 0) else (0, 2)
end Go.Hd
namespace Go.Proofs.YtjfegimgpkeleaaDoor
open Go.RowKit Go.Hd Go.Sh
theorem below2 (w : World) (A B : Obj) : Below w.heap.size w ((w.alloc A).alloc B) := (below_alloc0 w A).alloc (by simp) B
set_option maxHeartbeats 1000000 in
theorem make_yes (s m : Int) (w : World) (h : ok s m = true) : Calls Tryd.prog 62 #[.agg #[.int .i64 s, .int .i64 m]] w fun e w' => e = .returned (.tuple #[.int .u64 (wd s m), .int .i64 0]) ∧ Below w.heap.size w w' := by
  have c := fun W => hmay_any s m W
  rw [h] at c
  have c2 := fun W => hword_any s m W h
  clear h
  go_enter Tryd.func62, Tryd.ntmps62
  go_wp2_with (go_at_call 75; refine (c _).mono ?_)
  rintro e w1 ⟨rfl, b1⟩
  have c0 := at_row (row2b b1) 0 rfl
  have c1 := at_row (row2b b1) 1 rfl
  have bw := bel2 b1
  clear b1
  go_wp2_with (go_at_call 76; refine (c2 _).mono ?_)
  rintro e w2 ⟨rfl, b2⟩
  go_wp2
  go_ret2
  exact ⟨rfl, bw.trans (b2.mono bw.size)⟩
set_option maxHeartbeats 1000000 in
theorem make_no (s m : Int) (w : World) (h : ok s m = false) : Calls Tryd.prog 62 #[.agg #[.int .i64 s, .int .i64 m]] w fun e w' => e = .returned (.tuple #[.int .u64 0, .int .i64 2]) ∧ Below w.heap.size w w' := by
  have c := fun W => hmay_any s m W
  rw [h] at c
  clear h
  go_enter Tryd.func62, Tryd.ntmps62
  go_wp2_with (go_at_call 75; refine (c _).mono ?_)
  rintro e w1 ⟨rfl, b1⟩
  have bw := bel2 b1
  clear b1
  go_wp2
  go_ret2
  exact ⟨rfl, bw⟩
end Go.Proofs.YtjfegimgpkeleaaDoor
/- Plain mathematics of words of 64 bits (chapter 1): no program in it. -/
namespace Go.Wd
theorem andNot_one (b : Int) (h0 : 0 ≤ b) (h1 : b ≤ 18446744073709551615) : bits .andNot .u64 b 1 = b - b % 2 := by
  obtain ⟨n, rfl⟩ := Int.eq_ofNat_of_zero_le h0
  have h : n < 2 ^ 64 := by omega
  have e := u64_andNot_nat n 1 (by omega) (by omega)
  have e2 : n &&& (18446744073709551615 - 1) = n - n % 2 := by
    have hx : (n &&& 1) = n % 2 := Nat.and_one_is_mod n
    apply Nat.eq_of_testBit_eq
    intro i
    rw [Nat.testBit_and]
    have h2 : n - n % 2 = 2 * (n / 2) := by omega
    rw [h2]
    cases i with
    | zero => simp
    | succ i =>
      by_cases hi : i + 1 < 64
      · have : (18446744073709551615 - 1 : Nat) = 2 * (2 ^ 63 - 1) := by decide
        rw [this, Nat.testBit_succ, Nat.testBit_succ, Nat.testBit_succ]
        simp only [Nat.mul_div_cancel_left _ (show 0 < 2 by decide), Nat.testBit_two_pow_sub_one]
        simp [show i < 63 by omega]
      · have h3 : n.testBit (i + 1) = false := Nat.testBit_lt_two_pow (Nat.lt_of_lt_of_le h (Nat.pow_le_pow_right (by decide) (by omega)))
        have h4 : (2 * (n / 2)).testBit (i + 1) = false := Nat.testBit_lt_two_pow (Nat.lt_of_lt_of_le (show 2 * (n / 2) < 2 ^ 64 by omega) (Nat.pow_le_pow_right (by decide) (by omega)))
        rw [h3, h4]; rfl
  have e3 : ((1 : Nat) : Int) = 1 := rfl
  rw [e3] at e
  rw [e, e2]; omega
theorem or_one (b : Int) (h0 : 0 ≤ b) (h1 : b ≤ 18446744073709551615) : bits .or .u64 b 1 = b - b % 2 + 1 := by
  obtain ⟨n, rfl⟩ := Int.eq_ofNat_of_zero_le h0
  have e := u64_or_nat n 1 (by omega) (by omega)
  have e2 : n ||| 1 = n - n % 2 + 1 := by
    have h2 : n = 2 * (n / 2) + n % 2 := by omega
    have h3 : n % 2 = 0 ∨ n % 2 = 1 := by omega
    have key : (2 * (n / 2) ||| 1) = 2 * (n / 2) + 1 := by
      have := Nat.two_pow_add_eq_or_of_lt (i := 1) (b := 1) (by decide) (n / 2)
      simpa using this.symm
    rcases h3 with h3 | h3
    · have h4 : n = 2 * (n / 2) := by omega
      rw [h3]; rw [← h4] at key; simpa using key
    · have h4 : n = 2 * (n / 2) + 1 := by omega
      have : n ||| 1 = n := by
        rw [h4, ← key, Nat.or_assoc]; simp
      omega
  have e3 : ((1 : Nat) : Int) = 1 := rfl
  rw [e3] at e
  rw [e, e2]; omega
theorem or_four (m : Int) (h0 : 0 ≤ m) (h1 : m ≤ 2305843009213693951) : bits .or .u64 (m * 8) 4 = m * 8 + 4 := by
  obtain ⟨n, rfl⟩ := Int.eq_ofNat_of_zero_le h0
  have e := u64_or_nat (n * 8) 4 (by omega) (by omega)
  have e2 : n * 8 ||| 4 = n * 8 + 4 := by
    have := Nat.two_pow_add_eq_or_of_lt (i := 3) (b := 4) (by decide) n
    rw [show n * 8 = 2 ^ 3 * n by omega]
    exact this.symm
  have e3 : ((4 : Nat) : Int) = 4 := rfl
  have e4 : ((n * 8 : Nat) : Int) = (n : Int) * 8 := by omega
  rw [e3, e4] at e
  rw [e, e2]; omega
/-- A word that is none: chapter 1's 'bad'. -/
def Bad (x : Int) : Prop := ¬ x ≤ 2 ∧ ¬ (x % 8 ≤ 1 ∧ x / 8 ≤ 16777215) ∧ ¬ (4 ≤ x % 8 ∧ x % 8 ≤ 5 ∧ x / 8 ≤ 1152921504606846975)
/-- The word x is of kind k and holds v. -/
def Is (x : Int) (k : Nat) (v : Int) : Prop :=
  (k = 1 ∧ v = 0 ∧ x ≤ 1) ∨ (k = 2 ∧ 1 ≤ v ∧ v ≤ 16777215 ∧ 8 * v ≤ x ∧ x ≤ 8 * v + 1) ∨
  (k = 3 ∧ -576460752303423488 ≤ v ∧ v ≤ 576460752303423487 ∧ 8 * v + 4611686018427387908 ≤ x ∧ x ≤ 8 * v + 4611686018427387909) ∨
  (k = 4 ∧ v = 0 ∧ x = 2) ∨ (k = 0 ∧ v = 0 ∧ Bad x)
end Go.Wd
