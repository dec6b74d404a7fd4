/- package shape: All: the iterator's contract, with the elements told by another type (so that a loop's body need not answer for kinds that are none). -/
import Derived.Test.YtldfmlkjeniemaaGreatDoorShAllOn
import Derived.Laws.BitsAllLaws
import Derived.RowKit
import Derived.WalkSmall
import Derived.Test.YtldfmlkjeniemaaGreatDoorProg
import Derived.Test.YtldfmlkjeniemaaGreatDoorBsKitOn
import Derived.WalkKit
import Derived.WalkLawsBesides
import Derived.WalkSpells
import Derived.BigQuiet
import Derived.Outline
import Derived.Deep.WholeRow
import Derived.Laws.EntriesVeiled
import Derived.Deep.RegionHeld3
import Derived.BigRegion
import Derived.Test.YtldfmlkjeniemaaGreatDoorHdTopOn
import Derived.Test.YtldfmlkjeniemaaGreatDoorLyFaceOn
import Derived.RangeFuncBox
import Derived.Maps.AppendAt
import Derived.Test.YtldfmlkjeniemaaGreatDoorLyMathOn
namespace Go.Proofs.YtldfmlkjeniemaaGreatDoor
open Go.RowKit Go.Sh Go.Shelf
attribute [local go_sem] Oper.semAt_some
set_option maxRecDepth 100000 in
set_option maxHeartbeats 2000000 in
theorem allB_yes {α : Type} (enc : α → Array Value) (el : Nat → α) (n l Bs : Nat) (s : ByteArray) (h1 : one s = true) (hel : ∀ k, k < s.size → enc (el k) = encF (fieldAt s k)) (J Jx : List α → World → Prop) (W : World) (hJ : AbidesFrom W.heap.size J)
    (hY : ∀ pre x W1, J pre W1 → pre.length < s.size → YieldAt Fence.wide (n - 1) Tryz.prog l (enc x) W1 fun e W' =>
      (e = .returned (.bool true) ∧ J (pre ++ [x]) W' ∧ KeepsWalks W1 W') ∨ (e = .returned (.bool false) ∧ Jx (pre ++ [x]) W'))
    (hBs : W.cell? ⟨Bs, 0, none⟩ = some (.string s)) (h0 : J [] W) (hn : 1 ≤ n) :
    CallsIn Fence.wide n Tryz.prog 111 #[.func (.yield l) #[] #[], .pointer (some ⟨Bs, 0, none⟩)] W fun e W' => (∃ v, e = .returned v) ∧
      ((∃ ys, ys = upto el s.size ∧ J ys W') ∨ (∃ pre, (∃ k, k ≤ s.size ∧ pre = upto el k) ∧ Jx pre W')) := by
  have c := (callsIn_wide (n := n - 1)).2 (may_any s W)
  rw [h1] at c
  have hlt := block_lt_of_cell hBs
  refine callsIn_of_wp Tryz.func111 rfl trivial ?_ rfl
  simp only [Tryz.ntmps111, List.size_toArray, List.length_cons, List.length_nil, Nat.reduceAdd, Nat.reduceSub, Array.replicate_succ, Array.replicate_zero, List.push_toArray, List.append_toArray, List.nil_append, List.cons_append]
  gi_wp2
  refine ⟨trivial, ?_⟩
  gi_at_call 101
  refine c.mono ?_
  rintro e w1 ⟨rfl, b1⟩
  have hBs1 := (b1.cell (p := ⟨Bs, 0, none⟩) hlt).trans hBs
  have hBs2 := cell_al lettersObj hBs1
  gi_wp2
  refine ⟨trivial, ?_⟩
  gi_at_call 110
  refine (callsIn_wide.2 (letters_any _)).mono ?_
  rintro e w2 ⟨rfl, rfl⟩
  gi_wp2
  have hg0 : W.heap.size ≤ w1.heap.size := b1.size
  have hJ1 : J [] w1 := hJ _ _ _ none h0 (grown_of_below b1) (fun r e => by cases e)
  generalize hG : w1.heap.size = g at *
  gi_loopw [] (fun wr => ∃ k : Nat, k ≤ s.size ∧ wr.heap[g]? = some lettersObj ∧ wr.heap[g + 1]? = some (.stringIter s k) ∧ J (upto el k) wr)
    (fun wr => s.size - wr.iterPos (g + 1))
  case atStart =>
    refine ⟨0, Nat.zero_le _, ?_, ?_, ?_⟩
    · rw [← hG]; exact (Below.heap_alloc _ _ _ (by simp)).trans (heap_alloc_last w1 _)
    · have := World.iter_heap (w1.alloc lettersObj) s 0
      rw [← hG]; simpa using this
    · have h2 := hJ _ _ _ none hJ1 (World.grownBy_alloc w1 lettersObj none) (fun r e => by cases e)
      exact hJ _ _ _ none h2 (World.grownBy_alloc (w1.alloc lettersObj) (.stringIter s 0) none) (fun r e => by cases e)
  case round =>
    obtain ⟨k, hk, hm, hit, hJs⟩ := hrel
    by_cases hp : k < s.size
    · have hb : okB (s.data.toList.getD k 0) = true := by
        have hl : k < s.data.toList.length := by rw [Array.length_toList]; exact hp
        have := one_all h1 k hl
        rwa [List.getD_eq_getElem?_getD, List.getElem?_eq_getElem hl]
      obtain ⟨hw1, hlk⟩ := decode_okB s k hp hb
      have hnx0 : ∀ ty, (Instr.next (.pointer (some ⟨g + 1, 0, none⟩)) true ty).run Tryz.prog wr = .ok (.tuple #[.bool true, .int .i64 k, .int .i32 (Utf8.decode s k).1]) (wr.iterAt (g + 1) s (k + 1)) := fun ty => by
        have := Lib.run_next_any_at (P := Tryz.prog) wr (g + 1) s k ty hit hp
        rwa [hw1] at this
      have hm2 : (wr.iterAt (g + 1) s (k + 1)).heap[g]? = some lettersObj := (Lib.iterAt_other wr _ _ s _ (by omega)).trans hm
      have hit2 := Lib.iterAt_heap wr (g + 1) s k (k + 1) hit
      have hlo := lookup_plain _ _ hm2 ((Utf8.decode s k).1 : Int)
      rw [hlk] at hlo
      have hJ2 : J (upto el k) (wr.iterAt (g + 1) s (k + 1)) := hJ _ _ _ (some (g + 1)) hJs (grown_iterAt wr (g + 1) s (k + 1)) (fun r e => by cases e; exact ⟨by omega, _, hit, rfl⟩)
      obtain ⟨fn, tmps, assign, body, hy, hR⟩ := hY _ (el k) _ hJ2 (by rw [upto_length]; exact hp)
      rw [hel k hp] at hy
      dsimp only [encF, fieldAt] at hy
      clear hw1 hlk hb
      obtain ⟨kk, hkk⟩ : ∃ kk, kk = kb (s.data.toList.getD k 0) := ⟨_, rfl⟩
      rw [← hkk] at hlo hy
      clear hkk
      gi_wp2
      refine hR.mono ?_
      rintro e W3 (⟨rfl, hJ3, hk3⟩ | ⟨rfl, hJx3⟩)
      · gi_wp2
        go_roundw
        case rel => exact ⟨k + 1, by omega, hk3.same _ _ hm2 rfl, hk3.same _ _ hit2 rfl, by rw [upto_succ]; exact hJ3⟩
        case measure =>
          simp only [World.iterPos, hk3.same _ _ hit2 rfl, hit]
          omega
      · gi_wp2
        refine bodyPost_ret (results_none rfl _ _ _) rfl ?_
        exact ⟨⟨_, rfl⟩, .inr ⟨_, ⟨k + 1, by omega, (upto_succ _ _).symm⟩, hJx3⟩⟩
    · obtain rfl : k = s.size := by omega
      have hnx0 : ∀ ty, (Instr.next (.pointer (some ⟨g + 1, 0, none⟩)) true ty).run Tryz.prog wr = _ := fun ty => Lib.run_next_end_at wr (g + 1) s _ ty hit hp
      gi_wp2
      go_end0
      exact ⟨⟨_, rfl⟩, .inl ⟨_, rfl, hJs⟩⟩
/-- What All hands back of a shape goes over the fields, each with its kind; it may be left. -/
theorem AllB_stops {α : Type} (enc : α → Array Value) (el : Nat → α) (n : Nat) (hn : 1 ≤ n) (Bs : Nat) (s : ByteArray) (h1 : one s = true) (hel : ∀ k, k < s.size → enc (el k) = encF (fieldAt s k)) (w : World) (hc : w.cell? ⟨Bs, 0, none⟩ = some (.string s)) :
    SeqStopsK Fence.wide n Tryz.prog 111 #[.pointer (some ⟨Bs, 0, none⟩)] enc KeepsWalks (fun ys => ys = upto el s.size)
      (fun pre => ∃ k, k ≤ s.size ∧ pre = upto el k) s.size w := fun l J Jx W hW hJ _ hY h0 =>
  allB_yes enc el n l Bs s h1 hel J Jx W hJ hY ((hW.cell (p := ⟨Bs, 0, none⟩) (block_lt_of_cell hc)).trans hc) h0 hn
end Go.Proofs.YtldfmlkjeniemaaGreatDoor
/- Plain mathematics of words of 64 bits (chapter 1): no program in it. -/
namespace Go.Wd
theorem andNot_one (b : Int) (h0 : 0 ≤ b) (h1 : b ≤ 18446744073709551615) : bits .andNot .u64 b 1 = b - b % 2 := by
  obtain ⟨n, rfl⟩ := Int.eq_ofNat_of_zero_le h0
  have h : n < 2 ^ 64 := by omega
  have e := u64_andNot_nat n 1 (by omega) (by omega)
  have e2 : n &&& (18446744073709551615 - 1) = n - n % 2 := by
    have hx : (n &&& 1) = n % 2 := Nat.and_one_is_mod n
    apply Nat.eq_of_testBit_eq
    intro i
    rw [Nat.testBit_and]
    have h2 : n - n % 2 = 2 * (n / 2) := by omega
    rw [h2]
    cases i with
    | zero => simp
    | succ i =>
      by_cases hi : i + 1 < 64
      · have : (18446744073709551615 - 1 : Nat) = 2 * (2 ^ 63 - 1) := by decide
        rw [this, Nat.testBit_succ, Nat.testBit_succ, Nat.testBit_succ]
        simp only [Nat.mul_div_cancel_left _ (show 0 < 2 by decide), Nat.testBit_two_pow_sub_one]
        simp [show i < 63 by omega]
      · have h3 : n.testBit (i + 1) = false := Nat.testBit_lt_two_pow (Nat.lt_of_lt_of_le h (Nat.pow_le_pow_right (by decide) (by omega)))
        have h4 : (2 * (n / 2)).testBit (i + 1) = false := Nat.testBit_lt_two_pow (Nat.lt_of_lt_of_le (show 2 * (n / 2) < 2 ^ 64 by omega) (Nat.pow_le_pow_right (by decide) (by omega)))
        rw [h3, h4]; rfl
  have e3 : ((1 : Nat) : Int) = 1 := rfl
  rw [e3] at e
  rw [e, e2]; omega
theorem or_one (b : Int) (h0 : 0 ≤ b) (h1 : b ≤ 18446744073709551615) : bits .or .u64 b 1 = b - b % 2 + 1 := by
  obtain ⟨n, rfl⟩ := Int.eq_ofNat_of_zero_le h0
  have e := u64_or_nat n 1 (by omega) (by omega)
  have e2 : n ||| 1 = n - n % 2 + 1 := by
    have h2 : n = 2 * (n / 2) + n % 2 := by omega
    have h3 : n % 2 = 0 ∨ n % 2 = 1 := by omega
    have key : (2 * (n / 2) ||| 1) = 2 * (n / 2) + 1 := by
      have := Nat.two_pow_add_eq_or_of_lt (i := 1) (b := 1) (by decide) (n / 2)
      simpa using this.symm
    rcases h3 with h3 | h3
    · have h4 : n = 2 * (n / 2) := by omega
      rw [h3]; rw [← h4] at key; simpa using key
    · have h4 : n = 2 * (n / 2) + 1 := by omega
      have : n ||| 1 = n := by
        rw [h4, ← key, Nat.or_assoc]; simp
      omega
  have e3 : ((1 : Nat) : Int) = 1 := rfl
  rw [e3] at e
  rw [e, e2]; omega
theorem or_four (m : Int) (h0 : 0 ≤ m) (h1 : m ≤ 2305843009213693951) : bits .or .u64 (m * 8) 4 = m * 8 + 4 := by
  obtain ⟨n, rfl⟩ := Int.eq_ofNat_of_zero_le h0
  have e := u64_or_nat (n * 8) 4 (by omega) (by omega)
  have e2 : n * 8 ||| 4 = n * 8 + 4 := by
    have := Nat.two_pow_add_eq_or_of_lt (i := 3) (b := 4) (by decide) n
    rw [show n * 8 = 2 ^ 3 * n by omega]
    exact this.symm
  have e3 : ((4 : Nat) : Int) = 4 := rfl
  have e4 : ((n * 8 : Nat) : Int) = (n : Int) * 8 := by omega
  rw [e3, e4] at e
  rw [e, e2]; omega
/-- A word that is none: chapter 1's 'bad'. -/
def Bad (x : Int) : Prop := ¬ x ≤ 2 ∧ ¬ (x % 8 ≤ 1 ∧ x / 8 ≤ 16777215) ∧ ¬ (4 ≤ x % 8 ∧ x % 8 ≤ 5 ∧ x / 8 ≤ 1152921504606846975)
/-- The word x is of kind k and holds v. -/
def Is (x : Int) (k : Nat) (v : Int) : Prop :=
  (k = 1 ∧ v = 0 ∧ x ≤ 1) ∨ (k = 2 ∧ 1 ≤ v ∧ v ≤ 16777215 ∧ 8 * v ≤ x ∧ x ≤ 8 * v + 1) ∨
  (k = 3 ∧ -576460752303423488 ≤ v ∧ v ≤ 576460752303423487 ∧ 8 * v + 4611686018427387908 ≤ x ∧ x ≤ 8 * v + 4611686018427387909) ∨
  (k = 4 ∧ v = 0 ∧ x = 2) ∨ (k = 0 ∧ v = 0 ∧ Bad x)
end Go.Wd
/- The leaves of package word: contracts of bits' methods and of the functions of kinds. -/
namespace Go.Proofs.YtldfmlkjeniemaaGreatDoor
open Go.RowKit
end Go.Proofs.YtldfmlkjeniemaaGreatDoor
/- Package word's tell: which kind a word is of, and what it holds. -/
namespace Go.Proofs.YtldfmlkjeniemaaGreatDoor
open Go.RowKit
theorem below_setRow {B : Nat} {a w : World} (h : Below B a w) {g : Nat} (hg : B ≤ g) (cs : Array Value) : Below B a (w.setRow g cs) :=
  h.trans ⟨rfl, rfl, rfl, by simp, fun k hk => setRow_other w g k cs (by omega)⟩
/-- No kind ahead of number k lays the plain word p. -/
def NoneTill (x p : Int) (k : Int) : Prop :=
  (2 ≤ k → ¬ p = 0) ∧ (3 ≤ k → ¬ (p % 8 = 0 ∧ p / 8 ≤ 16777215)) ∧ (4 ≤ k → ¬ (p % 8 = 4 ∧ p / 8 ≤ 1152921504606846975)) ∧ (5 ≤ k → ¬ (p = 2 ∧ x = p))
theorem bad_of (x p : Int) (h0 : 0 ≤ p) (hp1 : p ≤ x) (hp2 : x ≤ p + 1) (hp3 : p % 2 < 1) (h : NoneTill x p 5) : Wd.Is x 0 0 := by
  obtain ⟨a, b, c, d⟩ := h
  have a := a (by omega)
  have b := b (by omega)
  have c := c (by omega)
  have d := d (by omega)
  exact .inr (.inr (.inr (.inr ⟨rfl, rfl, by omega, by omega, by omega⟩)))
end Go.Proofs.YtldfmlkjeniemaaGreatDoor
/- What chapter 1's functions answer, as plain functions of numbers. -/
namespace Go.Wd
/-- Of: the kind, the seal, the value (P1.1). -/
def ofK (x : Int) : Int := if x ≤ 1 then 1 else if x = 2 then 4 else if x % 8 ≤ 1 ∧ x / 8 ≤ 16777215 then 2 else if 4 ≤ x % 8 ∧ x % 8 ≤ 5 ∧ x / 8 ≤ 1152921504606846975 then 3 else 0
def ofS (x : Int) : Bool := decide (ofK x ≠ 0) && decide (x % 2 = 1)
def ofV (x : Int) : Int := if ofK x = 2 then x / 8 else if ofK x = 3 then x / 8 - 576460752303423488 else 0
/-- Make: the word, the error's number (P1.1). -/
def mkE (k : Int) (s : Bool) (v : Int) : Int :=
  if k < 1 ∨ 4 < k ∨ ((k = 1 ∨ k = 4) ∧ v ≠ 0) ∨ (k = 4 ∧ s = true) then 2
  else if k = 2 ∧ (v < 1 ∨ 16777215 < v) then 4
  else if k = 3 ∧ (v < -576460752303423488 ∨ 576460752303423487 < v) then 4 else 0
def mkW (k : Int) (s : Bool) (v : Int) : Int :=
  if mkE k s v ≠ 0 then 0
  else (if k = 2 then 8 * v else if k = 3 then 8 * v + 4611686018427387908 else if k = 4 then 2 else 0) + (if s = true then 1 else 0)
theorem is_fun {x : Int} {k : Nat} {v : Int} (h0 : 0 ≤ x) (h : Is x k v) : ofK x = k ∧ ofV x = v ∧ ofS x = (decide (k ≠ 0) && decide (x % 2 = 1)) := by
  have hk : ofK x = k := by
    unfold ofK
    rcases h with ⟨rfl, rfl, h⟩ | ⟨rfl, h⟩ | ⟨rfl, h⟩ | ⟨rfl, rfl, h⟩ | ⟨rfl, rfl, h1, h2, h3⟩
    · rw [if_pos h]; rfl
    · rw [if_neg (by omega), if_neg (by omega), if_pos (by omega)]; rfl
    · rw [if_neg (by omega), if_neg (by omega), if_neg (by omega), if_pos (by omega)]; rfl
    · rw [if_neg (by omega), if_pos (by omega)]; rfl
    · rw [if_neg (by omega), if_neg (by omega), if_neg h2, if_neg h3]; rfl
  refine ⟨hk, ?_, ?_⟩
  · unfold ofV
    rw [hk]
    rcases h with ⟨rfl, rfl, h⟩ | ⟨rfl, h⟩ | ⟨rfl, h⟩ | ⟨rfl, rfl, h⟩ | ⟨rfl, rfl, h1, h2, h3⟩
    · rfl
    · rw [if_pos (by decide)]; omega
    · rw [if_neg (by decide), if_pos (by decide)]; omega
    · rfl
    · rfl
  · unfold ofS
    rw [hk]
    congr 1
    simp only [decide_eq_decide]; omega
/-- Make of Of is the word (P1.4). -/
theorem mk_of {x : Int} {k : Nat} {v : Int} (h0 : 0 ≤ x) (h : Is x k v) (hk : k ≠ 0) (s : Bool) (hs : s = decide (x % 2 = 1)) : mkE k s v = 0 ∧ mkW k s v = x := by
  subst hs
  have he : mkE k (decide (x % 2 = 1)) v = 0 := by
    unfold mkE
    rcases h with ⟨rfl, rfl, h⟩ | ⟨rfl, h⟩ | ⟨rfl, h⟩ | ⟨rfl, rfl, h⟩ | ⟨rfl, rfl, h1, h2, h3⟩
    · rw [if_neg (by simp), if_neg (by simp), if_neg (by simp)]
    · rw [if_neg (by simp), if_neg (by omega), if_neg (by simp)]
    · rw [if_neg (by simp), if_neg (by simp), if_neg (by omega)]
    · subst h; decide
    · exact absurd rfl hk
  refine ⟨he, ?_⟩
  unfold mkW
  rw [he, if_neg (by simp)]
  rcases h with ⟨rfl, rfl, h⟩ | ⟨rfl, h⟩ | ⟨rfl, h⟩ | ⟨rfl, rfl, h⟩ | ⟨rfl, rfl, h1, h2, h3⟩
  · simp; split <;> omega
  · simp; split <;> omega
  · simp; split <;> omega
  · subst h; decide
  · exact absurd rfl hk
theorem mk_bad (s : Bool) (v : Int) : mkE 0 s v = 2 ∧ mkW 0 s v = 0 := by
  have : mkE 0 s v = 2 := by unfold mkE; rw [if_pos (by simp)]
  exact ⟨this, by unfold mkW; rw [this, if_pos (by simp)]⟩
theorem mk_arg (k : Int) (s : Bool) (v : Int) (h : k < 1 ∨ 4 < k ∨ ((k = 1 ∨ k = 4) ∧ v ≠ 0) ∨ (k = 4 ∧ s = true)) : mkE k s v = 2 ∧ mkW k s v = 0 := by
  have : mkE k s v = 2 := by unfold mkE; rw [if_pos h]
  exact ⟨this, by unfold mkW; rw [this, if_pos (by decide)]⟩
theorem mk_range2 (s : Bool) (v : Int) (h : v < 1 ∨ 16777215 < v) : mkE 2 s v = 4 ∧ mkW 2 s v = 0 := by
  have : mkE 2 s v = 4 := by unfold mkE; rw [if_neg (by omega), if_pos ⟨rfl, h⟩]
  exact ⟨this, by unfold mkW; rw [this, if_pos (by decide)]⟩
theorem mk_range3 (s : Bool) (v : Int) (h : v < -576460752303423488 ∨ 576460752303423487 < v) : mkE 3 s v = 4 ∧ mkW 3 s v = 0 := by
  have : mkE 3 s v = 4 := by unfold mkE; rw [if_neg (by omega), if_neg (by omega), if_pos ⟨rfl, h⟩]
  exact ⟨this, by unfold mkW; rw [this, if_pos (by decide)]⟩
theorem mk_null (s : Bool) : mkE 1 s 0 = 0 ∧ mkW 1 s 0 = if s = true then 1 else 0 := by cases s <;> decide
theorem mk_empty : mkE 4 false 0 = 0 ∧ mkW 4 false 0 = 2 := by decide
theorem mk_ptr (s : Bool) (v : Int) (h0 : 1 ≤ v) (h1 : v ≤ 16777215) : mkE 2 s v = 0 ∧ mkW 2 s v = 8 * v + if s = true then 1 else 0 := by
  have : mkE 2 s v = 0 := by unfold mkE; rw [if_neg (by omega), if_neg (by omega), if_neg (by omega)]
  exact ⟨this, by unfold mkW; rw [this, if_neg (by decide), if_pos rfl]⟩
theorem mk_scalar (s : Bool) (v : Int) (h0 : -576460752303423488 ≤ v) (h1 : v ≤ 576460752303423487) : mkE 3 s v = 0 ∧ mkW 3 s v = 8 * v + 4611686018427387908 + if s = true then 1 else 0 := by
  have : mkE 3 s v = 0 := by unfold mkE; rw [if_neg (by omega), if_neg (by omega), if_neg (by omega)]
  exact ⟨this, by unfold mkW; rw [this, if_neg (by decide), if_neg (by decide), if_pos rfl]⟩
end Go.Wd
/- Package word's Of. -/
namespace Go.Proofs.YtldfmlkjeniemaaGreatDoor
open Go.RowKit
theorem cell_new {w w1 : World} {cs : Array Value} {t : TypeId} (hb : Below (w.alloc (.cells cs t)).heap.size (w.alloc (.cells cs t)) w1) (j : Nat) (v : Value) (hv : cs[j]? = some v) : w1.cell? ⟨w.heap.size, j, none⟩ = some v :=
  (hb.cell (p := ⟨w.heap.size, j, none⟩) (by simp)).trans ((cell_of_row _ _ j _ _ _ (heap_alloc_last w _)).trans hv)
theorem frozen_new {w w1 : World} {cs : Array Value} {t : TypeId} (hb : Below (w.alloc (.cells cs t)).heap.size (w.alloc (.cells cs t)) w1) (j : Nat) : w1.frozen? ⟨w.heap.size, j, none⟩ = false :=
  (hb.frozen (p := ⟨w.heap.size, j, none⟩) (by simp)).trans (frozen_of_row _ _ j _ _ (heap_alloc_last w _))
theorem keep3 (w1 : World) (g : Nat) (v0 v1 v2 : Value) (cs : Array Value) (t : TypeId) (j : Nat) (v : Value) (hv : cs[j]? = some v) :
    ((((w1.setCell ⟨g, 0, none⟩ v0).setCell ⟨g, 1, none⟩ v1).setCell ⟨g, 2, none⟩ v2).alloc (.cells cs t)).drew.cell? ⟨w1.heap.size, j, none⟩ = some v := by
  have hs : (((w1.setCell ⟨g, 0, none⟩ v0).setCell ⟨g, 1, none⟩ v1).setCell ⟨g, 2, none⟩ v2).heap.size = w1.heap.size := by simp [World.setCell]
  have h := heap_alloc_last (((w1.setCell ⟨g, 0, none⟩ v0).setCell ⟨g, 1, none⟩ v1).setCell ⟨g, 2, none⟩ v2) (.cells cs t)
  rw [hs] at h
  exact (cell_of_row _ _ j cs t _ h).trans hv
theorem below3 {w w1 : World} (h : Below w.heap.size w w1) (v0 v1 v2 : Value) (o : Obj) (hz : w.heap.size < w1.heap.size) :
    Below w.heap.size w ((((w1.setCell ⟨w.heap.size, 0, none⟩ v0).setCell ⟨w.heap.size, 1, none⟩ v1).setCell ⟨w.heap.size, 2, none⟩ v2).alloc o).drew :=
  ((((h.setCell (Nat.le_refl _) _).setCell (Nat.le_refl _) _).setCell (Nat.le_refl _) _).alloc (by simp [World.setCell]; omega) _).drew
end Go.Proofs.YtldfmlkjeniemaaGreatDoor
/- Package word's Make, and what stands on it alone: Pointer, Scalar, Empty. -/
namespace Go.Proofs.YtldfmlkjeniemaaGreatDoor
open Go.RowKit
theorem ret_word {a a' c c' : Int} {b b' : Bool} (h : a = a') (h2 : b = b') (h3 : c = c') : Ending.returned (.agg #[.int .i64 a, .bool b, .int .i64 c]) = .returned (.agg #[.int .i64 a', .bool b', .int .i64 c']) := by rw [h, h2, h3]
end Go.Proofs.YtldfmlkjeniemaaGreatDoor
/- package layout: firstObject: the words of the object that stands in the first space at the start. -/
namespace Go.Proofs.YtldfmlkjeniemaaGreatDoor
open Go.RowKit Go.Ly Go.Sh Go.Shelf
attribute [local go_sem] Oper.semAt_some
/-- A field and whether it is a scalar's. -/
def bI (b : Bool) : Int := if b then 1 else 0
theorem bI_t : bI true = 1 := rfl
theorem bI_f : bI false = 0 := rfl
abbrev encB (x : Nat × Bool) : Array Value := #[Value.int .i64 (x.1 : Int), Value.int .i64 (bI x.2)]
def elB (s : ByteArray) (i : Nat) : Nat × Bool := (i, s.data.toList.getD i 0 == 115)
theorem elB_enc (s : ByteArray) (i : Nat) : encB (elB s i) = encF (fieldAt s i) := by
  simp only [encB, elB, encF, fieldAt, kb, bI, beq_iff_eq]
/-- What a field holds at the start. -/
def fwd (b : Bool) : Int := if b then 4611686018427387908 else 0
def vals (pre : List (Nat × Bool)) : List Value := .int .u64 6 :: .int .u64 0 :: pre.map fun x => .int .u64 (fwd x.2)
theorem vals_len (pre : List (Nat × Bool)) : (vals pre).length = 2 + pre.length := by simp [vals]; omega
theorem vals_snoc (pre : List (Nat × Bool)) (x : Nat × Bool) : vals (pre ++ [x]) = vals pre ++ [.int .u64 (fwd x.2)] := by simp [vals]
theorem linfo_u64 : (Tryz.prog.info? 39).map (fun i => (i.zero, i.size, i.bytes)) = some (some (.int .u64 0), 1, 8) := by kernel_rfl
/-- What the loop keeps: the box of the list, the list's own row. -/
def FiB (w : World) (B : Nat) (v : Value) (pre : List (Nat × Bool)) (W : World) : Prop :=
  Boxed W B 25 v ∧ W.ownsRow w.heap.size 39 1 v (2 + pre.length) (vals pre) ∧ Below w.heap.size w W
theorem fown_kept {A B : World} {row : Option Nat} {base k : Nat} {e : TypeId} {size : Nat} {v : Value} {vs : List Value} (hr : A.ownsRow base e size v k vs) (hg : A.grownBy B row) (hrow : ∀ r, row = some r → ∃ o : Obj, A.heap[r]? = some o ∧ o.isCells = false) : B.ownsRow base e size v k vs := by
  refine hr.kept hg ?_
  rcases hr.2 with ⟨rfl, _⟩ | ⟨g, cap, cur, rfl, _, hgb, _⟩
  · exact .inl rfl
  · refine .inr fun e' => ?_
    obtain ⟨o, ho, hc⟩ := hrow g (by simpa [Value.ownBlock] using e'.symm)
    rw [hgb] at ho; cases ho; cases hc
theorem FiB.own {w A B : World} {X : Nat} {v : Value} {pre : List (Nat × Bool)} {row : Option Nat} {C : Nat} (h : FiB w X v pre A) (hC : w.heap.size ≤ C) (hg : A.grownBy B row) (hr : ∀ r, row = some r → C ≤ r ∧ ∃ o : Obj, A.heap[r]? = some o ∧ o.isCells = false) : FiB w X v pre B :=
  ⟨box_own h.1 hg (fun r e => (hr r e).2), fown_kept h.2.1 hg (fun r e => (hr r e).2), h.2.2.grown hg h.2.2.size (fun k e => Nat.le_trans hC (hr k e).1)⟩
theorem FiB.below {w A B : World} {X : Nat} {v : Value} {pre : List (Nat × Bool)} (h : FiB w X v pre A) (b : Below A.heap.size A B) : FiB w X v pre B :=
  ⟨(b.block X h.1.lt).trans h.1, fown_kept (row := none) h.2.1 (grown_of_below b) (fun r e => by cases e), h.2.2.trans (b.mono h.2.2.size)⟩
theorem fiB_start (w w1 : World) (z : Value) (hb : Below w.heap.size w w1) : FiB w (w1.heap.size + 1) (.slice (some ⟨w1.heap.size, 0, none⟩) 2 2) [] (((w1.alloc (.cells #[.int .u64 (Hd.wd 0 0), .int .u64 0] 39)).alloc (.cells #[.slice (some ⟨w1.heap.size, 0, none⟩) 2 2] 25)).alloc (.cells #[z] 60)) := by
  have hs := hb.size
  refine ⟨?_, ⟨by simp [vals], .inr ⟨w1.heap.size, 2, #[.int .u64 (Hd.wd 0 0), .int .u64 0], rfl, hs, ?_, by simp, by unfold maxLen; omega, by simp, rfl⟩⟩, ((hb.alloc hs _).alloc (by simp; omega) _).alloc (by simp; omega) _⟩
  · have := (Boxed.new (w1.alloc (.cells #[.int .u64 (Hd.wd 0 0), .int .u64 0] 39)) 25 (.slice (some ⟨w1.heap.size, 0, none⟩) 2 2)).alloc (.cells #[z] 60)
    rwa [World.size_alloc] at this
  · exact row3a (Below.refl _ _)
theorem mkW_null : Wd.mkW 1 false 0 = 0 := by decide
theorem mkW_scal : Wd.mkW 3 false 0 = 4611686018427387908 := by decide
/-- The words of the first object. -/
def fobj (x : ByteArray) : List Int := 6 :: 0 :: upto (fun i => fwd (x.data.toList.getD i 0 == 115)) x.size
theorem fobj_len (x : ByteArray) : (fobj x).length = 2 + x.size := by simp [fobj, upto_length]; omega
theorem fobj_vals (x : ByteArray) : vals (upto (elB x) x.size) = (fobj x).map (Value.int .u64) := by simp [vals, fobj, upto, elB]
end Go.Proofs.YtldfmlkjeniemaaGreatDoor
/- The leaves of package pack: within at its three types; the contracts of what bounds are asked by. -/
namespace Go.Proofs.YtldfmlkjeniemaaGreatDoor
open Go.RowKit
end Go.Proofs.YtldfmlkjeniemaaGreatDoor
/- Leaves of package pack: isSpace, isPhase, room, claimed, and the closure that takes a word apart. -/
namespace Go.Proofs.YtldfmlkjeniemaaGreatDoor
open Go.RowKit
theorem cells_one {w : World} {g : Nat} {x : Int} (h : w.cell? ⟨g, 0, none⟩ = some (.int .i64 x)) : ∀ i, i < 1 → w.cell? ⟨g, 0 + i, none⟩ = some (.int .i64 ([x].getD i 0)) := by
  intro i hi
  obtain rfl : i = 0 := by omega
  exact h
theorem cells_three {w : World} {g : Nat} {x y z : Int} (h0 : w.cell? ⟨g, 0, none⟩ = some (.int .i64 x)) (h1 : w.cell? ⟨g, 1, none⟩ = some (.int .i64 y)) (h2 : w.cell? ⟨g, 2, none⟩ = some (.int .i64 z)) : ∀ i, i < 3 → w.cell? ⟨g, 0 + i, none⟩ = some (.int .i64 ([x, y, z].getD i 0)) := by
  intro i hi
  have : i = 0 ∨ i = 1 ∨ i = 2 := by omega
  rcases this with rfl | rfl | rfl
  · exact h0
  · exact h1
  · exact h2
/-- A frontier that stands at g. -/
def FrAt (w : World) (g : Nat) (s l h o : Int) : Prop :=
  w.cell? ⟨g, 0, none⟩ = some (.int .i64 s) ∧ w.cell? ⟨g, 1, none⟩ = some (.int .i64 l) ∧ w.cell? ⟨g, 2, none⟩ = some (.int .i64 h) ∧ w.cell? ⟨g, 3, none⟩ = some (.int .i64 o)
end Go.Proofs.YtldfmlkjeniemaaGreatDoor
/- Package pack's methods of a frontier under way, and what takes a word apart. -/
namespace Go.Proofs.YtldfmlkjeniemaaGreatDoor
open Go.RowKit
end Go.Proofs.YtldfmlkjeniemaaGreatDoor
/- Package pack: which requests and which frontiers may be. -/
namespace Go.Proofs.YtldfmlkjeniemaaGreatDoor
open Go.RowKit Go.Sort
theorem FrAt.below {w w' : World} {g : Nat} {s l h o : Int} (hf : FrAt w g s l h o) {B : Nat} (hb : Below B w w') (hg : g < B) : FrAt w' g s l h o :=
  ⟨(hb.cell (p := ⟨g, 0, none⟩) hg).trans hf.1, (hb.cell (p := ⟨g, 1, none⟩) hg).trans hf.2.1, (hb.cell (p := ⟨g, 2, none⟩) hg).trans hf.2.2.1, (hb.cell (p := ⟨g, 3, none⟩) hg).trans hf.2.2.2⟩
/-- What stands while a frontier is asked whether it may be. -/
abbrev MayS (w : World) (g : Nat) (s l h o : Int) : World → Prop := fun w' => w'.cell? ⟨g, 0, none⟩ = some (.int .i64 s) ∧ w'.cell? ⟨g, 1, none⟩ = some (.int .i64 l) ∧ w'.cell? ⟨g, 2, none⟩ = some (.int .i64 h) ∧ w'.cell? ⟨g, 3, none⟩ = some (.int .i64 o) ∧ Below w.heap.size w w'
theorem mayS_drew {w : World} {g : Nat} {s l h o : Int} (hf : FrAt w g s l h o) : MayS w g s l h o w.drew :=
  ⟨hf.1, hf.2.1, hf.2.2.1, hf.2.2.2, (Below.refl _ _).drew⟩
theorem mayS_call {w w1 w2 : World} {g : Nat} {s l h o : Int} (hf : MayS w g s l h o w1) (hb : Below w1.heap.size w1 w2) : MayS w g s l h o w2 := by
  have hg : g < w1.heap.size := block_lt_of_cell hf.1
  have hg2 := hf.2.2.2.2.size
  exact ⟨(hb.cell (p := ⟨g, 0, none⟩) hg).trans hf.1, (hb.cell (p := ⟨g, 1, none⟩) hg).trans hf.2.1, (hb.cell (p := ⟨g, 2, none⟩) hg).trans hf.2.2.1, (hb.cell (p := ⟨g, 3, none⟩) hg).trans hf.2.2.2.1, hf.2.2.2.2.trans (hb.mono hg2)⟩
theorem mayS_alloc {w w1 : World} {g : Nat} {s l h o : Int} (hf : MayS w g s l h o w1) (ob : Obj) : MayS w g s l h o (w1.alloc ob) :=
  mayS_call hf (below_alloc0 w1 ob)
theorem frAt_mayS {w w1 : World} {g : Nat} {s l h o : Int} (hf : MayS w g s l h o w1) : FrAt w1 g s l h o := ⟨hf.1, hf.2.1, hf.2.2.1, hf.2.2.2.1⟩
theorem below_mayS {w w1 : World} {g : Nat} {s l h o : Int} (hf : MayS w g s l h o w1) : Below w.heap.size w w1 := hf.2.2.2.2
end Go.Proofs.YtldfmlkjeniemaaGreatDoor
/- Package pack's Request and OfRequest. -/
namespace Go.Proofs.YtldfmlkjeniemaaGreatDoor
open Go.RowKit
end Go.Proofs.YtldfmlkjeniemaaGreatDoor
/- Package pack's Front, Fits, Used, Turn. -/
namespace Go.Proofs.YtldfmlkjeniemaaGreatDoor
open Go.RowKit
theorem frAt_row {w : World} {g : Nat} {s l h o : Int} {t : TypeId} (r : w.heap[g]? = some (.cells #[.int .i64 s, .int .i64 l, .int .i64 h, .int .i64 o] t)) : FrAt w g s l h o :=
  ⟨at_row r 0 rfl, at_row r 1 rfl, at_row r 2 rfl, at_row r 3 rfl⟩
end Go.Proofs.YtldfmlkjeniemaaGreatDoor
/- Package pack's OfFront. -/
namespace Go.Proofs.YtldfmlkjeniemaaGreatDoor
open Go.RowKit
theorem ret_fe {a b c d a' b' c' d' e e' : Int} (h1 : a = a') (h2 : b = b') (h3 : c = c') (h4 : d = d') (h5 : e = e') : Ending.returned (.tuple #[.agg #[.int .i64 a, .int .i64 b, .int .i64 c, .int .i64 d], .int .i64 e]) = .returned (.tuple #[.agg #[.int .i64 a', .int .i64 b', .int .i64 c', .int .i64 d'], .int .i64 e']) := by rw [h1, h2, h3, h4, h5]
end Go.Proofs.YtldfmlkjeniemaaGreatDoor
/- Package pack's Claim. -/
namespace Go.Proofs.YtldfmlkjeniemaaGreatDoor
open Go.RowKit
theorem claimed_low {w w' : World} {g : Nat} {s l h o : Int} {t : TypeId} (r : w.heap[g]? = some (.cells #[.int .i64 s, .int .i64 l, .int .i64 h, .int .i64 o] t)) (x : Int) (e : w' = w.setCell ⟨g, 1, none⟩ (.int .i64 x)) : FrAt w' g s x h o := by
  subst e
  have c0 := at_row r 0 rfl
  have c1 := at_row r 1 rfl
  have c2 := at_row r 2 rfl
  have c3 := at_row r 3 rfl
  refine ⟨?_, ?_, ?_, ?_⟩ <;> simp [go_sem, c0, c1, c2, c3]
theorem claimed_oth {w w' : World} {g : Nat} {s l h o : Int} {t : TypeId} (r : w.heap[g]? = some (.cells #[.int .i64 s, .int .i64 l, .int .i64 h, .int .i64 o] t)) (x : Int) (e : w' = w.setCell ⟨g, 3, none⟩ (.int .i64 x)) : FrAt w' g s l h x := by
  subst e
  have c0 := at_row r 0 rfl
  have c1 := at_row r 1 rfl
  have c2 := at_row r 2 rfl
  have c3 := at_row r 3 rfl
  refine ⟨?_, ?_, ?_, ?_⟩ <;> simp [go_sem, c0, c1, c2, c3]
theorem claimed_block {w w' : World} {g j : Nat} {v : Value} (e : w' = w.setCell ⟨g, j, none⟩ v) (k : Nat) (hk : k < g) : w'.heap[k]? = w.heap[k]? := by
  subst e
  exact ((Below.refl k.succ w).setCell (p := ⟨g, j, none⟩) hk v).block k (Nat.lt_succ_self k)
end Go.Proofs.YtldfmlkjeniemaaGreatDoor
