/- package arena: Do in one, Load, Store, Cas, Copy. -/
import Derived.Test.YtldfmlkjeniemaaGreatDoorArDoOn
import Derived.Test.YtldfmlkjeniemaaGreatDoorBsKitOn
import Derived.Test.YtldfmlkjeniemaaGreatDoorShAllOn
namespace Go.Proofs.YtldfmlkjeniemaaGreatDoor
open Go.RowKit
/-- The words behind an access, its answer, an error. -/
def dof (xs : List Int) (k p o n : Int) : List Int × Int × Int :=
  if ck k p o n = false then (xs, 0, 2)
  else if k = 0 then (xs, 0, 0)
  else if (decide (0 ≤ p) && decide (p < xs.length)) = false then (xs, 0, 4)
  else if k = 1 then (xs, wat xs p.toNat, 0)
  else if k = 2 then (xs.set p.toNat n, 0, 0)
  else if wat xs p.toNat = o then (xs.set p.toNat n, wat xs p.toNat, 0)
  else (xs, wat xs p.toNat, 0)
theorem ck_cases {k p o n : Int} (h : ck k p o n = true) : (k = 0 ∧ p = 0 ∧ o = 0 ∧ n = 0) ∨ (k = 1 ∧ o = 0 ∧ n = 0) ∨ (k = 2 ∧ o = 0) ∨ k = 3 := by
  simp [ck] at h; omega
theorem Do_at (A B : Nat) (xs ys : List Int) (k p o n a er : Int) (w : World) (h : IsAr w A B xs) (n0 : 0 ≤ n) (n1 : n ≤ 18446744073709551615) (H : Hid (dof xs k p o n = (ys, a, er))) :
    Calls Tryz.prog 65 #[.pointer (some ⟨A, 0, none⟩), acc k p o n] w fun e w' => e = .returned (.tuple #[.int .u64 a, .int .i64 er]) ∧ IsAr w' A B ys ∧ w.grownBy w' (some B) := by
  have hd := H.out
  clear H
  unfold dof at hd
  by_cases hk : ck k p o n = false
  · rw [if_pos hk] at hd
    cases hd
    refine (Do_arg A B xs k p o n w h hk).mono ?_
    rintro e w' ⟨rfl, b⟩
    exact ⟨rfl, h.below b, grown_below b _⟩
  · rw [if_neg hk] at hd
    have hk' : ck k p o n = true := by simpa using hk
    rcases ck_cases hk' with ⟨rfl, rfl, rfl, rfl⟩ | hc
    · rw [if_pos rfl] at hd
      cases hd
      refine (Do_0 A B xs w h hk').mono ?_
      rintro e w' ⟨rfl, b⟩
      exact ⟨rfl, h.below b, grown_below b _⟩
    · rw [if_neg (by omega)] at hd
      by_cases hp : (decide (0 ≤ p) && decide (p < xs.length)) = false
      · rw [if_pos hp] at hd
        cases hd
        refine (Do_range A B xs k p o n w h hk' hp).mono ?_
        rintro e w' ⟨rfl, b⟩
        exact ⟨rfl, h.below b, grown_below b _⟩
      · rw [if_neg hp] at hd
        simp at hp
        obtain ⟨q, rfl⟩ := Int.eq_ofNat_of_zero_le hp.1
        have hq : q < xs.length := by omega
        rw [Int.toNat_natCast] at hd
        rcases hc with ⟨rfl, rfl, rfl⟩ | ⟨rfl, rfl⟩ | rfl
        · rw [if_pos rfl] at hd
          cases hd
          refine (Do_1 A B xs q w h hk' hq).mono ?_
          rintro e w' ⟨rfl, b⟩
          exact ⟨rfl, h.below b, grown_below b _⟩
        · rw [if_neg (by decide), if_pos rfl] at hd
          cases hd
          exact Do_2 A B xs n q w h hk' hq n0 n1
        · rw [if_neg (by decide), if_neg (by decide)] at hd
          by_cases ho : wat xs q = o
          · rw [if_pos ho] at hd
            cases hd
            subst ho
            exact Do_3y A B xs n q w h hk' hq n0 n1
          · rw [if_neg ho] at hd
            cases hd
            refine (Do_3n A B xs o n q w h hk' hq (by simpa using ho)).mono ?_
            rintro e w' ⟨rfl, b⟩
            exact ⟨rfl, h.below b, grown_below b _⟩
theorem Load_at (A B : Nat) (xs ys : List Int) (p a er : Int) (w : World) (h : IsAr w A B xs) (H : Hid (dof xs 1 p 0 0 = (ys, a, er))) :
    Calls Tryz.prog 54 #[.pointer (some ⟨A, 0, none⟩), .int .i64 p] w fun e w' => e = .returned (.tuple #[.int .u64 a, .int .i64 er]) ∧ IsAr w' A B ys ∧ w.grownBy w' (some B) := by
  go_enter Tryz.func54, Tryz.ntmps54
  go_wp2_with (go_at_call 65; refine (Do_at A B xs ys 1 p 0 0 a er _ h (by omega) (by omega) H).mono ?_; rintro e w' ⟨rfl, a1, g1⟩)
  go_ret2
  exact ⟨rfl, a1, g1⟩
theorem Store_at (A B : Nat) (xs ys : List Int) (p n a er : Int) (w : World) (h : IsAr w A B xs) (n0 : 0 ≤ n) (n1 : n ≤ 18446744073709551615) (H : Hid (dof xs 2 p 0 n = (ys, a, er))) :
    Calls Tryz.prog 34 #[.pointer (some ⟨A, 0, none⟩), .int .i64 p, .int .u64 n] w fun e w' => e = .returned (.int .i64 er) ∧ IsAr w' A B ys ∧ w.grownBy w' (some B) := by
  go_enter Tryz.func34, Tryz.ntmps34
  go_wp2_with (go_at_call 65; refine (Do_at A B xs ys 2 p 0 n a er _ h n0 n1 H).mono ?_; rintro e w' ⟨rfl, a1, g1⟩)
  go_ret
  exact ⟨rfl, a1, g1⟩
theorem Load_nil (q : Value) (c : Nat) (a : Option Addr) (p : Int) (w : World) (h : Faces w q (.slice a 0 c)) : Calls Tryz.prog 54 #[q, .int .i64 p] w fun e w' => e = .returned (.tuple #[.int .u64 0, .int .i64 1]) ∧ Below w.heap.size w w' := by
  go_enter Tryz.func54, Tryz.ntmps54
  go_wp2_with (go_at_call 65; refine (Do_nil q c a _ _ _ _ _ h).mono ?_; rintro e w' ⟨rfl, b1⟩)
  go_ret2
  exact ⟨rfl, b1⟩
theorem Store_nil (q : Value) (c : Nat) (a : Option Addr) (p n : Int) (w : World) (h : Faces w q (.slice a 0 c)) : Calls Tryz.prog 34 #[q, .int .i64 p, .int .u64 n] w fun e w' => e = .returned (.int .i64 1) ∧ Below w.heap.size w w' := by
  go_enter Tryz.func34, Tryz.ntmps34
  go_wp2_with (go_at_call 65; refine (Do_nil q c a _ _ _ _ _ h).mono ?_; rintro e w' ⟨rfl, b1⟩)
  go_ret
  exact ⟨rfl, b1⟩
end Go.Proofs.YtldfmlkjeniemaaGreatDoor
/- package head: isMark, a header under way (may, word), a word's parts. -/
namespace Go.Hd
/-- May it be a mark, a header? -/
def mk (m : Int) : Bool := decide (0 ≤ m) && decide (m ≤ 2)
def ok (s m : Int) : Bool := decide (0 ≤ s) && decide (s < 16) && mk m
/-- A header's word. -/
def wd (s m : Int) : Int := 8 * (4 * s + m) + 6
theorem mk_yes {m : Int} (h : mk m = true) : 0 ≤ m ∧ m ≤ 2 := by simpa [mk] using h
theorem ok_yes {s m : Int} (h : ok s m = true) : 0 ≤ s ∧ s < 16 ∧ 0 ≤ m ∧ m ≤ 2 := by
  simp [ok, mk] at h; omega
theorem sixteen {s : Int} (h0 : 0 ≤ s) (h1 : s < 16) : s = 0 ∨ s = 1 ∨ s = 2 ∨ s = 3 ∨ s = 4 ∨ s = 5 ∨ s = 6 ∨ s = 7 ∨ s = 8 ∨ s = 9 ∨ s = 10 ∨ s = 11 ∨ s = 12 ∨ s = 13 ∨ s = 14 ∨ s = 15 := by omega
theorem three {m : Int} (h0 : 0 ≤ m) (h1 : m ≤ 2) : m = 0 ∨ m = 1 ∨ m = 2 := by omega
theorem or_wd (s m : Int) (s0 : 0 ≤ s) (s1 : s < 16) (m0 : 0 ≤ m) (m1 : m ≤ 2) : bits .or .u64 (bits .or .u64 (s * 32) (m * 8)) 6 = wd s m := by
  rcases three m0 m1 with rfl | rfl | rfl <;>
  rcases sixteen s0 s1 with rfl | rfl | rfl | rfl | rfl | rfl | rfl | rfl | rfl | rfl | rfl | rfl | rfl | rfl | rfl | rfl <;> rfl
end Go.Hd
namespace Go.Proofs.YtldfmlkjeniemaaGreatDoor
open Go.RowKit Go.Hd
theorem isMark_any (m : Int) (w : World) : Calls Tryz.prog 90 #[.int .i64 m] w fun e w' => e = .returned (.bool (mk m)) ∧ w' = w := by
  by_cases h0 : m < 0
  · have H : Hid (mk m = false) := hid (by simp [mk]; omega)
    go_enter Tryz.func90, Tryz.ntmps90
    go_wp2
    go_ret
    exact ⟨ret_bool H.out.symm, rfl⟩
  · have h0' : 0 ≤ m := by omega
    clear h0
    by_cases h1 : m ≤ 2
    · have H : Hid (mk m = true) := hid (by simp [mk]; omega)
      go_enter Tryz.func90, Tryz.ntmps90
      go_wp2
      go_ret
      exact ⟨ret_bool H.out.symm, rfl⟩
    · have H : Hid (decide (m ≤ 2) = mk m) := hid (by simp [mk, h0'])
      have h1' : 2 < m := by omega
      clear h1
      go_enter Tryz.func90, Tryz.ntmps90
      go_wp2
      go_ret
      exact ⟨ret_bool H.out, rfl⟩
theorem hmay_any (s m : Int) (w : World) : Calls Tryz.prog 77 #[.agg #[.int .i64 s, .int .i64 m]] w fun e w' => e = .returned (.bool (ok s m)) ∧ Below w.heap.size w w' := by
  by_cases h0 : s < 0
  · have H : Hid (ok s m = false) := hid (by simp [ok]; omega)
    go_enter Tryz.func77, Tryz.ntmps77
    go_wp2
    go_ret
    exact ⟨ret_bool H.out.symm, below_alloc0 w _⟩
  · have h0' : 0 ≤ s := by omega
    clear h0
    by_cases h1 : s < 16
    · have H : Hid (mk m = ok s m) := hid (by simp [ok, h0', h1])
      go_enter Tryz.func77, Tryz.ntmps77
      go_wp2_with (go_at_call 90; refine (isMark_any m _).mono ?_; rintro e w1 ⟨rfl, hw⟩; rw [hw]; clear hw)
      go_ret
      exact ⟨ret_bool H.out, below_alloc0 w _⟩
    · have H : Hid (ok s m = false) := hid (by simp [ok]; omega)
      have h1' : 16 ≤ s := by omega
      clear h1
      go_enter Tryz.func77, Tryz.ntmps77
      go_wp2
      go_ret
      exact ⟨ret_bool H.out.symm, below_alloc0 w _⟩
theorem hword_any (s m : Int) (w : World) (h : ok s m = true) : Calls Tryz.prog 79 #[.agg #[.int .i64 s, .int .i64 m]] w fun e w' => e = .returned (.int .u64 (wd s m)) ∧ Below w.heap.size w w' := by
  obtain ⟨s0, s1, m0, m1⟩ := ok_yes h
  have H := hid (or_wd s m s0 s1 m0 m1)
  clear h
  go_enter Tryz.func79, Tryz.ntmps79
  go_wp2
  go_ret
  exact ⟨ret_int H.out, below_alloc0 w _⟩
theorem part_tag (x : Int) (w : World) (_x0 : 0 ≤ x) (_x1 : x ≤ 18446744073709551615) : Calls Tryz.prog 76 #[.int .u64 x, .int .u64 0, .int .u64 3] w fun e w' => e = .returned (.int .u64 (x % 8)) ∧ w' = w := by
  have H : Hid (x * 2305843009213693952 % 18446744073709551616 / 2305843009213693952 = x % 8) := hid (by omega)
  go_enter Tryz.func76, Tryz.ntmps76
  go_wp2
  go_ret
  exact ⟨ret_int H.out, rfl⟩
theorem part_mark (x : Int) (w : World) (_x0 : 0 ≤ x) (_x1 : x ≤ 18446744073709551615) : Calls Tryz.prog 76 #[.int .u64 x, .int .u64 3, .int .u64 5] w fun e w' => e = .returned (.int .u64 (x / 8 % 4)) ∧ w' = w := by
  have H : Hid (x * 576460752303423488 % 18446744073709551616 / 4611686018427387904 = x / 8 % 4) := hid (by omega)
  go_enter Tryz.func76, Tryz.ntmps76
  go_wp2
  go_ret
  exact ⟨ret_int H.out, rfl⟩
theorem part_shape (x : Int) (w : World) (_x0 : 0 ≤ x) (_x1 : x ≤ 18446744073709551615) : Calls Tryz.prog 76 #[.int .u64 x, .int .u64 5, .int .u64 64] w fun e w' => e = .returned (.int .u64 (x / 32)) ∧ w' = w := by
  go_enter Tryz.func76, Tryz.ntmps76
  go_wp2
  go_ret
  exact ⟨rfl, rfl⟩
end Go.Proofs.YtldfmlkjeniemaaGreatDoor
/- package shape: findShape, greatest, size, Size, Most, Kind, Is. -/
namespace Go.Proofs.YtldfmlkjeniemaaGreatDoor
open Go.RowKit Go.Sh
def fs (ss : List ByteArray) (n : Int) : ByteArray × Int := if right ss then (if inR n ss.length then (at' ss n.toNat, 0) else (ByteArray.empty, 130)) else (ByteArray.empty, 2)
theorem ret_si {a b : ByteArray} {c d : Int} (h : a = b) (h2 : c = d) : Ending.returned (.tuple #[.string a, .int .i64 c]) = .returned (.tuple #[.string b, .int .i64 d]) := by rw [h, h2]
theorem fs_no {ss : List ByteArray} {n : Int} (h : right ss = false) : fs ss n = (ByteArray.empty, 2) := by simp [fs, h]
theorem fs_out {ss : List ByteArray} {n : Int} (h : right ss = true) (h2 : inR n ss.length = false) : fs ss n = (ByteArray.empty, 130) := by simp [fs, h, h2]
theorem fs_in {ss : List ByteArray} {k : Nat} (h : right ss = true) (h2 : k < ss.length) : fs ss k = (at' ss k, 0) := by simp [fs, h, inR, h2]
set_option maxHeartbeats 2000000 in
theorem findShape_no (v : Value) (ss : List ByteArray) (n : Int) (w : World) (h : IsTab w v ss) (hr : right ss = false) :
    Calls Tryz.prog 92 #[v, .int .i64 n] w fun e w' => e = .returned (.tuple #[.string (fs ss n).1, .int .i64 (fs ss n).2]) ∧ Below w.heap.size w w' := by
  have c := check_any v ss w h
  rw [hr] at c
  have HF := hid (fs_no (n := n) hr)
  clear hr h
  go_enter Tryz.func92, Tryz.ntmps92
  go_wp2_with (go_at_call 86; refine c.mono ?_; rintro e w1 ⟨rfl, b1⟩; simp only [er])
  go_ret2
  exact ⟨by rw [HF.out]; rfl, b1⟩
set_option maxHeartbeats 2000000 in
theorem findShape_neg (v : Value) (ss : List ByteArray) (n : Int) (w : World) (h : IsTab w v ss) (hr : right ss = true) (hn : n < 0) :
    Calls Tryz.prog 92 #[v, .int .i64 n] w fun e w' => e = .returned (.tuple #[.string (fs ss n).1, .int .i64 (fs ss n).2]) ∧ Below w.heap.size w w' := by
  have c := check_any v ss w h
  rw [hr] at c
  have HF := hid (fs_out (n := n) hr (by simp [inR]; omega))
  clear hr
  obtain ⟨a, cap, rfl⟩ := h.len
  clear h
  go_enter Tryz.func92, Tryz.ntmps92
  go_wp2_with (go_at_call 86; refine c.mono ?_; rintro e w1 ⟨rfl, b1⟩; simp only [er])
  go_ret2
  exact ⟨by rw [HF.out]; rfl, b1⟩
set_option maxHeartbeats 2000000 in
theorem findShape_big (v : Value) (ss : List ByteArray) (n : Int) (w : World) (h : IsTab w v ss) (hr : right ss = true) (hn : (ss.length : Int) ≤ n) :
    Calls Tryz.prog 92 #[v, .int .i64 n] w fun e w' => e = .returned (.tuple #[.string (fs ss n).1, .int .i64 (fs ss n).2]) ∧ Below w.heap.size w w' := by
  have c := check_any v ss w h
  rw [hr] at c
  have HF := hid (fs_out (n := n) hr (by simp [inR]; omega))
  have h0 : 0 ≤ n := by omega
  clear hr
  obtain ⟨a, cap, rfl⟩ := h.len
  clear h
  go_enter Tryz.func92, Tryz.ntmps92
  go_wp2_with (go_at_call 86; refine c.mono ?_; rintro e w1 ⟨rfl, b1⟩; simp only [er])
  go_ret2
  exact ⟨by rw [HF.out]; rfl, b1⟩
set_option maxHeartbeats 2000000 in
theorem findShape_in (v : Value) (ss : List ByteArray) (k : Nat) (w : World) (h : IsTab w v ss) (hr : right ss = true) (hk : k < ss.length) :
    Calls Tryz.prog 92 #[v, .int .i64 (k : Int)] w fun e w' => e = .returned (.tuple #[.string (fs ss k).1, .int .i64 (fs ss k).2]) ∧ Below w.heap.size w w' := by
  have c := check_any v ss w h
  rw [hr] at c
  have HF := hid (fs_in hr hk)
  have h16 := (right_len hr).2
  clear hr
  obtain ⟨b, off, cap, rfl, hc⟩ := h.some (by omega)
  have hcell := hc k hk
  have hbk := block_lt_of_cell hcell
  clear h hc
  obtain ⟨len, hlen⟩ : ∃ len, len = ss.length := ⟨_, rfl⟩
  rw [← hlen] at hk h16 c ⊢
  clear hlen
  obtain ⟨x, hx⟩ : ∃ x, x = at' ss k := ⟨_, rfl⟩
  rw [← hx] at hcell HF
  clear hx
  go_enter Tryz.func92, Tryz.ntmps92
  go_wp2_with (go_at_call 86; refine c.mono ?_; rintro e w1 ⟨rfl, b1⟩; simp only [er]; have hc1 := (b1.cell (p := ⟨b, off + k, none⟩) hbk).trans hcell)
  go_ret2
  exact ⟨by rw [HF.out]; rfl, b1⟩
theorem findShape_any (v : Value) (ss : List ByteArray) (n : Int) (w : World) (h : IsTab w v ss) :
    Calls Tryz.prog 92 #[v, .int .i64 n] w fun e w' => e = .returned (.tuple #[.string (fs ss n).1, .int .i64 (fs ss n).2]) ∧ Below w.heap.size w w' := by
  by_cases hr : right ss = true
  · by_cases h0 : n < 0
    · exact findShape_neg v ss n w h hr h0
    · by_cases h1 : (ss.length : Int) ≤ n
      · exact findShape_big v ss n w h hr h1
      · obtain ⟨k, rfl⟩ : ∃ k : Nat, n = k := ⟨n.toNat, by omega⟩
        exact findShape_in v ss k w h hr (by omega)
  · exact findShape_no v ss n w h (by simpa using hr)
set_option maxRecDepth 100000 in
set_option maxHeartbeats 2000000 in
theorem greatest_any (b off cap : Nat) (ss : List ByteArray) (w : World) (h16 : ss.length ≤ 16) (hc : Hid (∀ i, i < ss.length → w.cell? ⟨b, off + i, none⟩ = some (.string (at' ss i)))) :
    Calls Tryz.prog 106 #[.slice (some ⟨b, off, none⟩) ss.length cap, .func (.func 107) #[] #[]] w fun e w' => e = .returned (.int .i64 (mostF ss)) ∧ Below w.heap.size w w' := by
  obtain ⟨len, hlen⟩ : ∃ len, len = ss.length := ⟨_, rfl⟩
  have HL := hid hlen
  rw [← hlen] at h16
  rw [← hlen]
  clear hlen
  go_enter Tryz.func106, Tryz.ntmps106
  go_wp2
  go_loopw [5, 10] (fun m i wr => ∃ k : Nat, k ≤ len ∧ i = .int .i64 k ∧ m = .int .i64 (mostF (ss.take k)) ∧ Below w.heap.size w wr) (fun _ i _ => len - (intOf i).toNat)
  case atStart => exact ⟨0, by omega, rfl, rfl, Below.refl _ _⟩
  case round =>
    obtain ⟨k, hk, rfl, rfl, ar⟩ := hrel
    by_cases hlt : k < len
    · have hcell := hc.out k (by rw [← HL.out]; exact hlt)
      have hbk := block_lt_of_cell hcell
      have hcr : wr.cell? ⟨b, off + k, none⟩ = some (.string (at' ss k)) := (ar.cell (p := ⟨b, off + k, none⟩) hbk).trans hcell
      have HM := hid (mostF_take (l := ss) (k := k) (by rw [← HL.out]; exact hlt))
      clear hcell
      obtain ⟨x, hx⟩ : ∃ x, x = at' ss k := ⟨_, rfl⟩
      rw [← hx] at hcr HM
      clear hx
      generalize mostF (ss.take k) = m at *
      have c := size1_any x wr
      generalize 2 + (fields x : Int) = y at *
      go_wp2_with (go_at_call 107; refine c.mono ?_; rintro e w2 ⟨rfl, b2⟩)
      refine ⟨⟨k + 1, by omega, by simp, ?_, ar.trans (b2.mono ar.size)⟩, by simp [intOf]; omega⟩
      have e : (if m < y then y else m) = max m y := by split <;> omega
      rw [HM.out, e]
    · obtain rfl : k = len := by omega
      have HM : Hid (mostF (ss.take k) = mostF ss) := hid (by rw [HL.out, List.take_length])
      go_wp2
      go_ret
      exact ⟨ret_int HM.out, ar⟩
set_option maxHeartbeats 2000000 in
theorem size_any (b off cap : Nat) (ss : List ByteArray) (w : World) (h16 : ss.length ≤ 16) (hc : Hid (∀ i, i < ss.length → w.cell? ⟨b, off + i, none⟩ = some (.string (at' ss i)))) :
    Calls Tryz.prog 93 #[.slice (some ⟨b, off, none⟩) ss.length cap] w fun e w' => e = .returned (.int .i64 (mostF ss)) ∧ Below w.heap.size w w' := by
  have c := greatest_any b off cap ss w h16 hc
  go_enter Tryz.func93, Tryz.ntmps93
  go_wp2_with (go_at_call 106; refine c.mono ?_; rintro e w1 ⟨rfl, b1⟩)
  go_ret
  exact ⟨rfl, b1⟩
/-- size of one shape, that a new block holds. -/
theorem size_one (x : ByteArray) (hx : one x = true) (t : TypeId) (w : World) :
    Calls Tryz.prog 93 #[.slice (some ⟨w.heap.size, 0, none⟩) 1 1] (w.alloc (.cells #[.string x] t)) fun e w' => e = .returned (.int .i64 (2 + (x.size : Int))) ∧ Below w.heap.size w w' := by
  refine (size_any w.heap.size 0 1 [x] (w.alloc (.cells #[.string x] t)) (by simp) (hid (fun i hi => ?_))).mono ?_
  · obtain rfl : i = 0 := by simp at hi; omega
    exact cell_last w _ t 0 _ rfl
  · rintro e w' ⟨rfl, b⟩
    refine ⟨ret_int ?_, bel1 b⟩
    simp only [mostF, List.foldl_cons, List.foldl_nil, fields_one hx]
    omega
theorem sz_no {ss : List ByteArray} {n : Int} (h : right ss = false) : sz ss n = (0, 2) := by simp [sz, h]
theorem sz_out {ss : List ByteArray} {n : Int} (h : right ss = true) (h2 : inR n ss.length = false) : sz ss n = (0, 130) := by simp [sz, h, h2]
theorem sz_in {ss : List ByteArray} {n : Int} (h : right ss = true) (h2 : inR n ss.length = true) : sz ss n = (2 + ((at' ss n.toNat).size : Int), 0) := by simp [sz, h, h2]
theorem inR_lt {n : Int} {k : Nat} (h : inR n k = true) : n.toNat < k := by simp [inR] at h; omega
set_option maxHeartbeats 2000000 in
theorem Size_err (v : Value) (ss : List ByteArray) (n : Int) (w : World) (h : IsTab w v ss) (x : ByteArray) (c : Int) (hf : fs ss n = (x, c)) (hc : (c == 0) = false) :
    Calls Tryz.prog 80 #[v, .int .i64 n] w fun e w' => e = .returned (.tuple #[.int .i64 0, .int .i64 c]) ∧ Below w.heap.size w w' := by
  have c0 := findShape_any v ss n w h
  rw [hf] at c0
  clear hf h
  go_enter Tryz.func80, Tryz.ntmps80
  go_wp2_with (go_at_call 92; refine c0.mono ?_; rintro e w1 ⟨rfl, b1⟩)
  go_ret2
  exact ⟨rfl, b1⟩
set_option maxHeartbeats 2000000 in
theorem Size_ok (v : Value) (ss : List ByteArray) (n : Int) (w : World) (h : IsTab w v ss) (x : ByteArray) (hf : fs ss n = (x, 0)) (hx : one x = true) :
    Calls Tryz.prog 80 #[v, .int .i64 n] w fun e w' => e = .returned (.tuple #[.int .i64 (2 + (x.size : Int)), .int .i64 0]) ∧ Below w.heap.size w w' := by
  have c0 := findShape_any v ss n w h
  rw [hf] at c0
  clear hf h
  have HX := hid hx
  clear hx
  go_enter Tryz.func80, Tryz.ntmps80
  go_wp2_with (first | (go_at_call 92; refine c0.mono ?_; rintro e w1 ⟨rfl, b1⟩) | (go_at_call 93; refine (size_one x HX.out _ _).mono ?_; rintro e w2 ⟨rfl, b2⟩))
  go_ret2
  exact ⟨rfl, b1.trans (b2.mono b1.size)⟩
theorem Size_any (v : Value) (ss : List ByteArray) (n : Int) (w : World) (h : IsTab w v ss) :
    Calls Tryz.prog 80 #[v, .int .i64 n] w fun e w' => e = .returned (.tuple #[.int .i64 (sz ss n).1, .int .i64 (sz ss n).2]) ∧ Below w.heap.size w w' := by
  by_cases hr : right ss = true
  · by_cases h2 : inR n ss.length = true
    · rw [sz_in hr h2]
      exact Size_ok v ss n w h _ (by simp [fs, hr, h2]) (right_all hr _ (inR_lt h2))
    · have h2' : inR n ss.length = false := by simpa using h2
      rw [sz_out hr h2']
      exact Size_err v ss n w h _ _ (fs_out hr h2') rfl
  · have hr' : right ss = false := by simpa using hr
    rw [sz_no hr']
    exact Size_err v ss n w h _ _ (fs_no hr') rfl
/-- What Most answers. -/
def ms (ss : List ByteArray) : Int × Int := if right ss then (most ss, 0) else (0, 2)
end Go.Proofs.YtldfmlkjeniemaaGreatDoor
