/- Package word's Of. -/
import Derived.Test.YtldfmlkjeniemaaGreatDoorWdMathOn
import Derived.Deep.RegionHeld3
import Derived.BigRegion
import Derived.Test.YtldfmlkjeniemaaGreatDoorArRefOn
import Derived.Test.YtldfmlkjeniemaaGreatDoorHdTopOn
import Derived.Test.YtldfmlkjeniemaaGreatDoorLyFace
import Derived.Test.YtldfmlkjeniemaaGreatDoorShAllOn
import Derived.RangeFuncBox
import Derived.Maps.AppendAt
import Derived.Test.YtldfmlkjeniemaaGreatDoorArCallOn
namespace Go.Proofs.YtldfmlkjeniemaaGreatDoor
open Go.RowKit
theorem cell_new {w w1 : World} {cs : Array Value} {t : TypeId} (hb : Below (w.alloc (.cells cs t)).heap.size (w.alloc (.cells cs t)) w1) (j : Nat) (v : Value) (hv : cs[j]? = some v) : w1.cell? ⟨w.heap.size, j, none⟩ = some v :=
  (hb.cell (p := ⟨w.heap.size, j, none⟩) (by simp)).trans ((cell_of_row _ _ j _ _ _ (heap_alloc_last w _)).trans hv)
theorem frozen_new {w w1 : World} {cs : Array Value} {t : TypeId} (hb : Below (w.alloc (.cells cs t)).heap.size (w.alloc (.cells cs t)) w1) (j : Nat) : w1.frozen? ⟨w.heap.size, j, none⟩ = false :=
  (hb.frozen (p := ⟨w.heap.size, j, none⟩) (by simp)).trans (frozen_of_row _ _ j _ _ (heap_alloc_last w _))
theorem keep3 (w1 : World) (g : Nat) (v0 v1 v2 : Value) (cs : Array Value) (t : TypeId) (j : Nat) (v : Value) (hv : cs[j]? = some v) :
    ((((w1.setCell ⟨g, 0, none⟩ v0).setCell ⟨g, 1, none⟩ v1).setCell ⟨g, 2, none⟩ v2).alloc (.cells cs t)).drew.cell? ⟨w1.heap.size, j, none⟩ = some v := by
  have hs : (((w1.setCell ⟨g, 0, none⟩ v0).setCell ⟨g, 1, none⟩ v1).setCell ⟨g, 2, none⟩ v2).heap.size = w1.heap.size := by simp [World.setCell]
  have h := heap_alloc_last (((w1.setCell ⟨g, 0, none⟩ v0).setCell ⟨g, 1, none⟩ v1).setCell ⟨g, 2, none⟩ v2) (.cells cs t)
  rw [hs] at h
  exact (cell_of_row _ _ j cs t _ h).trans hv
theorem below3 {w w1 : World} (h : Below w.heap.size w w1) (v0 v1 v2 : Value) (o : Obj) (hz : w.heap.size < w1.heap.size) :
    Below w.heap.size w ((((w1.setCell ⟨w.heap.size, 0, none⟩ v0).setCell ⟨w.heap.size, 1, none⟩ v1).setCell ⟨w.heap.size, 2, none⟩ v2).alloc o).drew :=
  ((((h.setCell (Nat.le_refl _) _).setCell (Nat.le_refl _) _).setCell (Nat.le_refl _) _).alloc (by simp [World.setCell]; omega) _).drew
end Go.Proofs.YtldfmlkjeniemaaGreatDoor
/- Package word's Make, and what stands on it alone: Pointer, Scalar, Empty. -/
namespace Go.Proofs.YtldfmlkjeniemaaGreatDoor
open Go.RowKit
theorem ret_word {a a' c c' : Int} {b b' : Bool} (h : a = a') (h2 : b = b') (h3 : c = c') : Ending.returned (.agg #[.int .i64 a, .bool b, .int .i64 c]) = .returned (.agg #[.int .i64 a', .bool b', .int .i64 c']) := by rw [h, h2, h3]
end Go.Proofs.YtldfmlkjeniemaaGreatDoor
/- package layout: firstObject: the words of the object that stands in the first space at the start. -/
namespace Go.Proofs.YtldfmlkjeniemaaGreatDoor
open Go.RowKit Go.Ly Go.Sh Go.Shelf
attribute [local go_sem] Oper.semAt_some
/-- A field and whether it is a scalar's. -/
def bI (b : Bool) : Int := if b then 1 else 0
theorem bI_t : bI true = 1 := rfl
theorem bI_f : bI false = 0 := rfl
abbrev encB (x : Nat × Bool) : Array Value := #[Value.int .i64 (x.1 : Int), Value.int .i64 (bI x.2)]
def elB (s : ByteArray) (i : Nat) : Nat × Bool := (i, s.data.toList.getD i 0 == 115)
theorem elB_enc (s : ByteArray) (i : Nat) : encB (elB s i) = encF (fieldAt s i) := by
  simp only [encB, elB, encF, fieldAt, kb, bI, beq_iff_eq]
/-- What a field holds at the start. -/
def fwd (b : Bool) : Int := if b then 4611686018427387908 else 0
def vals (pre : List (Nat × Bool)) : List Value := .int .u64 6 :: .int .u64 0 :: pre.map fun x => .int .u64 (fwd x.2)
theorem vals_len (pre : List (Nat × Bool)) : (vals pre).length = 2 + pre.length := by simp [vals]; omega
theorem vals_snoc (pre : List (Nat × Bool)) (x : Nat × Bool) : vals (pre ++ [x]) = vals pre ++ [.int .u64 (fwd x.2)] := by simp [vals]
theorem linfo_u64 : (Tryz.prog.info? 39).map (fun i => (i.zero, i.size, i.bytes)) = some (some (.int .u64 0), 1, 8) := by kernel_rfl
/-- What the loop keeps: the box of the list, the list's own row. -/
def FiB (w : World) (B : Nat) (v : Value) (pre : List (Nat × Bool)) (W : World) : Prop :=
  Boxed W B 25 v ∧ W.ownsRow w.heap.size 39 1 v (2 + pre.length) (vals pre) ∧ Below w.heap.size w W
theorem fown_kept {A B : World} {row : Option Nat} {base k : Nat} {e : TypeId} {size : Nat} {v : Value} {vs : List Value} (hr : A.ownsRow base e size v k vs) (hg : A.grownBy B row) (hrow : ∀ r, row = some r → ∃ o : Obj, A.heap[r]? = some o ∧ o.isCells = false) : B.ownsRow base e size v k vs := by
  refine hr.kept hg ?_
  rcases hr.2 with ⟨rfl, _⟩ | ⟨g, cap, cur, rfl, _, hgb, _⟩
  · exact .inl rfl
  · refine .inr fun e' => ?_
    obtain ⟨o, ho, hc⟩ := hrow g (by simpa [Value.ownBlock] using e'.symm)
    rw [hgb] at ho; cases ho; cases hc
theorem FiB.own {w A B : World} {X : Nat} {v : Value} {pre : List (Nat × Bool)} {row : Option Nat} {C : Nat} (h : FiB w X v pre A) (hC : w.heap.size ≤ C) (hg : A.grownBy B row) (hr : ∀ r, row = some r → C ≤ r ∧ ∃ o : Obj, A.heap[r]? = some o ∧ o.isCells = false) : FiB w X v pre B :=
  ⟨box_own h.1 hg (fun r e => (hr r e).2), fown_kept h.2.1 hg (fun r e => (hr r e).2), h.2.2.grown hg h.2.2.size (fun k e => Nat.le_trans hC (hr k e).1)⟩
theorem FiB.below {w A B : World} {X : Nat} {v : Value} {pre : List (Nat × Bool)} (h : FiB w X v pre A) (b : Below A.heap.size A B) : FiB w X v pre B :=
  ⟨(b.block X h.1.lt).trans h.1, fown_kept (row := none) h.2.1 (grown_of_below b) (fun r e => by cases e), h.2.2.trans (b.mono h.2.2.size)⟩
theorem fiB_start (w w1 : World) (z : Value) (hb : Below w.heap.size w w1) : FiB w (w1.heap.size + 1) (.slice (some ⟨w1.heap.size, 0, none⟩) 2 2) [] (((w1.alloc (.cells #[.int .u64 (Hd.wd 0 0), .int .u64 0] 39)).alloc (.cells #[.slice (some ⟨w1.heap.size, 0, none⟩) 2 2] 25)).alloc (.cells #[z] 60)) := by
  have hs := hb.size
  refine ⟨?_, ⟨by simp [vals], .inr ⟨w1.heap.size, 2, #[.int .u64 (Hd.wd 0 0), .int .u64 0], rfl, hs, ?_, by simp, by unfold maxLen; omega, by simp, rfl⟩⟩, ((hb.alloc hs _).alloc (by simp; omega) _).alloc (by simp; omega) _⟩
  · have := (Boxed.new (w1.alloc (.cells #[.int .u64 (Hd.wd 0 0), .int .u64 0] 39)) 25 (.slice (some ⟨w1.heap.size, 0, none⟩) 2 2)).alloc (.cells #[z] 60)
    rwa [World.size_alloc] at this
  · exact row3a (Below.refl _ _)
theorem mkW_null : Wd.mkW 1 false 0 = 0 := by decide
theorem mkW_scal : Wd.mkW 3 false 0 = 4611686018427387908 := by decide
/-- The words of the first object. -/
def fobj (x : ByteArray) : List Int := 6 :: 0 :: upto (fun i => fwd (x.data.toList.getD i 0 == 115)) x.size
theorem fobj_len (x : ByteArray) : (fobj x).length = 2 + x.size := by simp [fobj, upto_length]; omega
theorem fobj_vals (x : ByteArray) : vals (upto (elB x) x.size) = (fobj x).map (Value.int .u64) := by simp [vals, fobj, upto, elB]
end Go.Proofs.YtldfmlkjeniemaaGreatDoor
/- The document's functions (lapidaryref03): One, Right, Size, Most, Kind, Is. -/
namespace Go.Proofs.YtldfmlkjeniemaaGreatDoor
open Go.RowKit Go.Sh
theorem get_data (s : ByteArray) (k : Nat) (h : k < s.size) : s.data.toList.getD k 0 = s[k]'h := by
  have hl : k < s.data.toList.length := by rw [Array.length_toList]; exact h
  rw [List.getD_eq_getElem?_getD, List.getElem?_eq_getElem hl, Option.getD_some]
  rfl
theorem ne112 {b : UInt8} (h : ¬ b = 112) : ((b.toNat : Int) == 112) = false := by
  rw [beq_eq_false_iff_ne]
  intro e
  apply h
  apply UInt8.toNat_inj.1
  simp
  omega
theorem ne115 {b : UInt8} (h : ¬ b = 115) : ((b.toNat : Int) == 115) = false := by
  rw [beq_eq_false_iff_ne]
  intro e
  apply h
  apply UInt8.toNat_inj.1
  simp
  omega
theorem bne_of {a b : Int} (h : (a == b) = false) : (a != b) = true := by simp [bne, h]
theorem bne_no {a b : Int} (h : (a == b) = true) : (a != b) = false := by simp [bne, h]
theorem rOne_long (s : ByteArray) (w : World) (h : 8 < s.size) : Calls Tryz.prog 66 #[.string s] w fun e w' => e = .returned (.bool false) ∧ w' = w := by
  have h' : (8 : Int) < (s.size : Int) := by omega
  go_enter Tryz.func66, Tryz.ntmps66
  go_wp2
  go_ret
  exact ⟨rfl, rfl⟩
set_option maxRecDepth 100000 in
set_option maxHeartbeats 2000000 in
theorem rOne_short (s : ByteArray) (w : World) (h : s.size ≤ 8) : Calls Tryz.prog 66 #[.string s] w fun e w' => e = .returned (.bool (one s)) ∧ w' = w := by
  have h' : (s.size : Int) ≤ 8 := by omega
  go_enter Tryz.func66, Tryz.ntmps66
  go_wp2
  go_loopw [3] (fun i wr => ∃ k : Nat, k ≤ s.size ∧ i = .int .i64 k ∧ wr = w ∧ Hid (∀ j, j < k → okB (s.data.toList.getD j 0) = true)) (fun i _ => s.size - (intOf i).toNat)
  case atStart => exact ⟨0, by omega, rfl, rfl, hid (fun j hj => by omega)⟩
  case round =>
    obtain ⟨k, hk, rfl, rfl, hall⟩ := hrel
    by_cases hlt : k < s.size
    · by_cases h1 : s[k]'hlt = 112
      · have HK := hid h1
        go_wp2
        refine ⟨⟨k + 1, by omega, by simp, trivial, hid (fun j hj => ?_)⟩, by simp [intOf]; omega⟩
        by_cases hj2 : j < k
        · exact hall.out j hj2
        · obtain rfl : j = k := by omega
          rw [get_data s j hlt]; rw [HK.out]; rfl
      · have e1 := bne_of (ne112 h1)
        by_cases h2 : s[k]'hlt = 115
        · have HK := hid h2
          have e2 : (((s[k]'hlt).toNat : Int) != 115) = false := by rw [h2]; rfl
          clear h1 h2
          go_wp2
          refine ⟨⟨k + 1, by omega, by simp, trivial, hid (fun j hj => ?_)⟩, by simp [intOf]; omega⟩
          by_cases hj2 : j < k
          · exact hall.out j hj2
          · obtain rfl : j = k := by omega
            rw [get_data s j hlt]; rw [HK.out]; rfl
        · have e2 := bne_of (ne115 h2)
          have HN : Hid (one s = false) := hid (one_no s k hlt (by rw [get_data s k hlt]; simp [okB, h1, h2]))
          clear h1 h2
          go_wp2
          go_ret
          exact ⟨ret_bool HN.out.symm, rfl⟩
    · obtain rfl : k = s.size := by omega
      have HN := hid (all_upto s s.size hall.out (Nat.le_refl _) h)
      go_wp2
      go_ret
      exact ⟨ret_bool HN.out.symm, rfl⟩
theorem rOne_any (s : ByteArray) (w : World) : Calls Tryz.prog 66 #[.string s] w fun e w' => e = .returned (.bool (one s)) ∧ w' = w := by
  by_cases h : s.size ≤ 8
  · exact rOne_short s w h
  · refine (rOne_long s w (by omega)).mono ?_
    rintro e w' ⟨rfl, b⟩
    have : one s = false := by simp [one, h]
    exact ⟨by rw [this], b⟩
theorem rRight_none (a : Option Addr) (cap : Nat) (w : World) : Calls Tryz.prog 40 #[.slice a 0 cap] w fun e w' => e = .returned (.bool false) ∧ w' = w := by
  go_enter Tryz.func40, Tryz.ntmps40
  go_wp2
  go_ret
  exact ⟨rfl, rfl⟩
theorem rRight_many (a : Option Addr) (len cap : Nat) (h : 16 < len) (w : World) : Calls Tryz.prog 40 #[.slice a len cap] w fun e w' => e = .returned (.bool false) ∧ w' = w := by
  have h1 : (1 : Int) ≤ (len : Int) := by omega
  have h2 : (16 : Int) < (len : Int) := by omega
  go_enter Tryz.func40, Tryz.ntmps40
  go_wp2
  go_ret
  exact ⟨rfl, rfl⟩
set_option maxRecDepth 100000 in
set_option maxHeartbeats 2000000 in
theorem rRight_some (b off cap : Nat) (ss : List ByteArray) (w : World) (h1 : 1 ≤ ss.length) (h16 : ss.length ≤ 16) (hc : Hid (∀ i, i < ss.length → w.cell? ⟨b, off + i, none⟩ = some (.string (at' ss i)))) :
    Calls Tryz.prog 40 #[.slice (some ⟨b, off, none⟩) ss.length cap] w fun e w' => e = .returned (.bool (ss.all one)) ∧ w' = w := by
  have g1 : (1 : Int) ≤ (ss.length : Int) := by omega
  have g2 : (ss.length : Int) ≤ 16 := by omega
  obtain ⟨len, hlen⟩ : ∃ len, len = ss.length := ⟨_, rfl⟩
  have HL := hid hlen
  rw [← hlen] at h1 h16 g1 g2
  rw [← hlen]
  clear hlen
  go_enter Tryz.func40, Tryz.ntmps40
  go_wp2
  go_loopw [3] (fun i wr => ∃ k : Nat, k ≤ len ∧ i = .int .i64 k ∧ wr = w ∧ Hid (∀ j, j < k → one (at' ss j) = true)) (fun i _ => len - (intOf i).toNat)
  case atStart => exact ⟨0, by omega, rfl, rfl, hid (fun j hj => by omega)⟩
  case round =>
    obtain ⟨k, hk, rfl, rfl, hall⟩ := hrel
    by_cases hlt : k < len
    · have hcr := hc.out k (by rw [← HL.out]; exact hlt)
      obtain ⟨x, hx⟩ : ∃ x, x = at' ss k := ⟨_, rfl⟩
      rw [← hx] at hcr
      have HX := hid hx
      clear hx
      by_cases ho : one x = true
      · have c := rOne_any x wr
        rw [ho] at c
        go_wp2_with (go_at_call 66; refine c.mono ?_; rintro e w2 ⟨rfl, rfl⟩)
        refine ⟨⟨k + 1, by omega, by simp, trivial, hid (fun j hj => ?_)⟩, by simp [intOf]; omega⟩
        by_cases hj2 : j < k
        · exact hall.out j hj2
        · obtain rfl : j = k := by omega
          rw [← HX.out]; exact ho
      · have ho' : one x = false := by simpa using ho
        have c := rOne_any x wr
        rw [ho'] at c
        have HN : Hid (ss.all one = false) := hid (all_take_false (k := k) (by rw [← HL.out]; exact hlt) (by rw [← HX.out]; exact ho'))
        go_wp2_with (go_at_call 66; refine c.mono ?_; rintro e w2 ⟨rfl, rfl⟩)
        go_ret
        exact ⟨ret_bool HN.out.symm, rfl⟩
    · obtain rfl : k = len := by omega
      have HN : Hid (ss.all one = true) := hid (all_of_at (fun j hj => hall.out j (by rw [HL.out]; exact hj)))
      go_wp2
      go_ret
      exact ⟨ret_bool HN.out.symm, rfl⟩
theorem rRight_any (v : Value) (ss : List ByteArray) (w : World) (h : IsTab w v ss) :
    Calls Tryz.prog 40 #[v] w fun e w' => e = .returned (.bool (right ss)) ∧ w' = w := by
  by_cases h0 : ss.length = 0
  · obtain ⟨a, cap, rfl⟩ := h.len
    rw [h0]
    refine (rRight_none a cap w).mono ?_
    rintro e w' ⟨rfl, b⟩
    exact ⟨ret_bool (by simp [right, h0]), b⟩
  · by_cases h16 : ss.length ≤ 16
    · obtain ⟨b, off, cap, rfl, hc⟩ := h.some (by omega)
      refine (rRight_some b off cap ss w (by omega) h16 (hid hc)).mono ?_
      rintro e w' ⟨rfl, b⟩
      exact ⟨ret_bool (by simp [right, h16, show 1 ≤ ss.length by omega]), b⟩
    · obtain ⟨a, cap, rfl⟩ := h.len
      refine (rRight_many a _ cap (by omega) w).mono ?_
      rintro e w' ⟨rfl, b⟩
      exact ⟨ret_bool (by simp [right, h16]), b⟩
theorem ret_pair {p : Int × Int} {a c : Int} (h : p = (a, c)) : Ending.returned (.tuple #[.int .i64 a, .int .i64 c]) = .returned (.tuple #[.int .i64 p.1, .int .i64 p.2]) := by rw [h]
theorem rSize_any (v : Value) (ss : List ByteArray) (n : Int) (w : World) (h : IsTab w v ss) :
    Calls Tryz.prog 37 #[v, .int .i64 n] w fun e w' => e = .returned (.tuple #[.int .i64 (sz ss n).1, .int .i64 (sz ss n).2]) ∧ w' = w := by
  have c := rRight_any v ss w h
  by_cases hr : right ss = true
  · have h16 := (right_len hr).2
    rw [hr] at c
    by_cases h0 : n < 0
    · have HS := hid (sz_out (n := n) hr (by simp [inR]; omega))
      obtain ⟨a, cap, rfl⟩ := h.len
      clear h hr
      go_enter Tryz.func37, Tryz.ntmps37
      go_wp2_with (go_at_call 40; refine c.mono ?_; rintro e w1 ⟨rfl, rfl⟩)
      go_ret2
      exact ⟨ret_pair HS.out, rfl⟩
    · by_cases h1 : (ss.length : Int) ≤ n
      · have HS := hid (sz_out (n := n) hr (by simp [inR]; omega))
        obtain ⟨a, cap, rfl⟩ := h.len
        have h0' : 0 ≤ n := by omega
        clear h hr h0
        go_enter Tryz.func37, Tryz.ntmps37
        go_wp2_with (go_at_call 40; refine c.mono ?_; rintro e w1 ⟨rfl, rfl⟩)
        go_ret2
        exact ⟨ret_pair HS.out, rfl⟩
      · obtain ⟨k, rfl⟩ : ∃ k : Nat, n = k := ⟨n.toNat, by omega⟩
        have hk : k < ss.length := by omega
        have HS := hid (sz_in (n := k) hr (by simp [inR]; omega))
        have h8 := one_size (right_all hr k hk)
        obtain ⟨b, off, cap, rfl, hc⟩ := h.some (by omega)
        have hcell := hc k hk
        rw [Int.toNat_natCast] at HS
        clear h hr h0 h1 hc
        generalize at' ss k = x at *
        generalize ss.length = len at *
        go_enter Tryz.func37, Tryz.ntmps37
        go_wp2_with (go_at_call 40; refine c.mono ?_; rintro e w1 ⟨rfl, rfl⟩)
        go_ret2
        exact ⟨ret_pair HS.out, rfl⟩
  · have hr' : right ss = false := by simpa using hr
    rw [hr'] at c
    have HS := hid (sz_no (n := n) hr')
    clear hr hr' h
    go_enter Tryz.func37, Tryz.ntmps37
    go_wp2_with (go_at_call 40; refine c.mono ?_; rintro e w1 ⟨rfl, rfl⟩)
    go_ret2
    exact ⟨ret_pair HS.out, rfl⟩
theorem fd_out {s : ByteArray} {f : Int} (h : inR f s.size = false) : fd s f = (0, 131) := by simp [fd, h]
theorem fd_in {s : ByteArray} {j : Nat} (h : j < s.size) : fd s j = (kb (s[j]'h), 0) := by
  have : inR (j : Int) s.size = true := by simp [inR]; omega
  simp only [fd, this, if_true, Int.toNat_natCast, get_data s j h]
end Go.Proofs.YtldfmlkjeniemaaGreatDoor
