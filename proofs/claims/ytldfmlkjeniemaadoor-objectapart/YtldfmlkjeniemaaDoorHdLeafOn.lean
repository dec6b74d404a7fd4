/- package head: isMark, a header under way (may, word), a word's parts. -/
import Derived.Test.YtldfmlkjeniemaaDoorObMathOn
import Derived.Test.YtldfmlkjeniemaaDoorShLeafOn
namespace Go.Hd
/-- May it be a mark, a header? -/
def mk (m : Int) : Bool := decide (0 ≤ m) && decide (m ≤ 2)
def ok (s m : Int) : Bool := decide (0 ≤ s) && decide (s < 16) && mk m
/-- A header's word. -/
def wd (s m : Int) : Int := 8 * (4 * s + m) + 6
theorem mk_yes {m : Int} (h : mk m = true) : 0 ≤ m ∧ m ≤ 2 := by simpa [mk] using h
theorem ok_yes {s m : Int} (h : ok s m = true) : 0 ≤ s ∧ s < 16 ∧ 0 ≤ m ∧ m ≤ 2 := by
  simp [ok, mk] at h; omega
theorem sixteen {s : Int} (h0 : 0 ≤ s) (h1 : s < 16) : s = 0 ∨ s = 1 ∨ s = 2 ∨ s = 3 ∨ s = 4 ∨ s = 5 ∨ s = 6 ∨ s = 7 ∨ s = 8 ∨ s = 9 ∨ s = 10 ∨ s = 11 ∨ s = 12 ∨ s = 13 ∨ s = 14 ∨ s = 15 := by omega
theorem three {m : Int} (h0 : 0 ≤ m) (h1 : m ≤ 2) : m = 0 ∨ m = 1 ∨ m = 2 := by omega
theorem or_wd (s m : Int) (s0 : 0 ≤ s) (s1 : s < 16) (m0 : 0 ≤ m) (m1 : m ≤ 2) : bits .or .u64 (bits .or .u64 (s * 32) (m * 8)) 6 = wd s m := by
  rcases three m0 m1 with rfl | rfl | rfl <;>
  rcases sixteen s0 s1 with rfl | rfl | rfl | rfl | rfl | rfl | rfl | rfl | rfl | rfl | rfl | rfl | rfl | rfl | rfl | rfl <;> rfl
end Go.Hd
namespace Go.Proofs.YtldfmlkjeniemaaDoor
open Go.RowKit Go.Hd
theorem isMark_any (m : Int) (w : World) : Calls Tryd.prog 86 #[.int .i64 m] w fun e w' => e = .returned (.bool (mk m)) ∧ w' = w := by
  by_cases h0 : m < 0
  · have H : Hid (mk m = false) := hid (by simp [mk]; omega)
    go_enter Tryd.func86, Tryd.ntmps86
    go_wp2
    go_ret
    exact ⟨ret_bool H.out.symm, rfl⟩
  · have h0' : 0 ≤ m := by omega
    clear h0
    by_cases h1 : m ≤ 2
    · have H : Hid (mk m = true) := hid (by simp [mk]; omega)
      go_enter Tryd.func86, Tryd.ntmps86
      go_wp2
      go_ret
      exact ⟨ret_bool H.out.symm, rfl⟩
    · have H : Hid (decide (m ≤ 2) = mk m) := hid (by simp [mk, h0'])
      have h1' : 2 < m := by omega
      clear h1
      go_enter Tryd.func86, Tryd.ntmps86
      go_wp2
      go_ret
      exact ⟨ret_bool H.out, rfl⟩
theorem hmay_any (s m : Int) (w : World) : Calls Tryd.prog 73 #[.agg #[.int .i64 s, .int .i64 m]] w fun e w' => e = .returned (.bool (ok s m)) ∧ Below w.heap.size w w' := by
  by_cases h0 : s < 0
  · have H : Hid (ok s m = false) := hid (by simp [ok]; omega)
    go_enter Tryd.func73, Tryd.ntmps73
    go_wp2
    go_ret
    exact ⟨ret_bool H.out.symm, below_alloc0 w _⟩
  · have h0' : 0 ≤ s := by omega
    clear h0
    by_cases h1 : s < 16
    · have H : Hid (mk m = ok s m) := hid (by simp [ok, h0', h1])
      go_enter Tryd.func73, Tryd.ntmps73
      go_wp2_with (go_at_call 86; refine (isMark_any m _).mono ?_; rintro e w1 ⟨rfl, hw⟩; rw [hw]; clear hw)
      go_ret
      exact ⟨ret_bool H.out, below_alloc0 w _⟩
    · have H : Hid (ok s m = false) := hid (by simp [ok]; omega)
      have h1' : 16 ≤ s := by omega
      clear h1
      go_enter Tryd.func73, Tryd.ntmps73
      go_wp2
      go_ret
      exact ⟨ret_bool H.out.symm, below_alloc0 w _⟩
theorem hword_any (s m : Int) (w : World) (h : ok s m = true) : Calls Tryd.prog 74 #[.agg #[.int .i64 s, .int .i64 m]] w fun e w' => e = .returned (.int .u64 (wd s m)) ∧ Below w.heap.size w w' := by
  obtain ⟨s0, s1, m0, m1⟩ := ok_yes h
  have H := hid (or_wd s m s0 s1 m0 m1)
  clear h
  go_enter Tryd.func74, Tryd.ntmps74
  go_wp2
  go_ret
  exact ⟨ret_int H.out, below_alloc0 w _⟩
theorem part_tag (x : Int) (w : World) (_x0 : 0 ≤ x) (_x1 : x ≤ 18446744073709551615) : Calls Tryd.prog 72 #[.int .u64 x, .int .u64 0, .int .u64 3] w fun e w' => e = .returned (.int .u64 (x % 8)) ∧ w' = w := by
  have H : Hid (x * 2305843009213693952 % 18446744073709551616 / 2305843009213693952 = x % 8) := hid (by omega)
  go_enter Tryd.func72, Tryd.ntmps72
  go_wp2
  go_ret
  exact ⟨ret_int H.out, rfl⟩
theorem part_mark (x : Int) (w : World) (_x0 : 0 ≤ x) (_x1 : x ≤ 18446744073709551615) : Calls Tryd.prog 72 #[.int .u64 x, .int .u64 3, .int .u64 5] w fun e w' => e = .returned (.int .u64 (x / 8 % 4)) ∧ w' = w := by
  have H : Hid (x * 576460752303423488 % 18446744073709551616 / 4611686018427387904 = x / 8 % 4) := hid (by omega)
  go_enter Tryd.func72, Tryd.ntmps72
  go_wp2
  go_ret
  exact ⟨ret_int H.out, rfl⟩
theorem part_shape (x : Int) (w : World) (_x0 : 0 ≤ x) (_x1 : x ≤ 18446744073709551615) : Calls Tryd.prog 72 #[.int .u64 x, .int .u64 5, .int .u64 64] w fun e w' => e = .returned (.int .u64 (x / 32)) ∧ w' = w := by
  go_enter Tryd.func72, Tryd.ntmps72
  go_wp2
  go_ret
  exact ⟨rfl, rfl⟩
end Go.Proofs.YtldfmlkjeniemaaDoor
/- package shape: size$1 (what All goes over is counted), findField. -/
namespace Go.Proofs.YtldfmlkjeniemaaDoor
open Go.RowKit Go.Sh Go.Shelf
attribute [local go_sem] Oper.semAt_some
theorem box_own {A B : World} {row : Option Nat} {b : Nat} {t : TypeId} {v : Value} (h : Boxed A b t v) (hg : A.grownBy B row) (hr : ∀ r, row = some r → ∃ o : Obj, A.heap[r]? = some o ∧ o.isCells = false) : Boxed B b t v :=
  boxed_own (β := Unit) b t (fun _ => v) () A B row h hg hr
theorem wpIn_scope_wide {n : Nat} {P : Program} {Q : Exit → Act → World → Prop} {a : Act} {w : World} {c : Code} (h : c.wpIn Fence.wide n P (Exit.noGoto Q) a w) : (Code.scope c).wpIn Fence.wide n P Q a w :=
  wpIn_wide.2 (wp_scope_straight (wpIn_wide.1 h))
set_option maxRecDepth 100000 in
set_option maxHeartbeats 2000000 in
theorem size1_in (n : Nat) (hn : 3 ≤ n) (s : ByteArray) (w : World) :
    CallsIn Fence.wide n Tryd.prog 100 #[.string s] w fun e W' => e = .returned (.int .i64 (2 + (fields s : Int))) ∧ Below w.heap.size w W' := by
  have h1 : 1 ≤ n := by omega
  refine callsIn_of_wp_marks Tryd.func100 rfl trivial ?_ rfl
  simp only [Tryd.ntmps100, List.size_toArray, List.length_cons, List.length_nil, Nat.reduceAdd, Nat.reduceSub, Array.replicate_succ, Array.replicate_zero, List.push_toArray, List.append_toArray, List.nil_append, List.cons_append]
  gi_wp2_with (refine ⟨trivial, ?_⟩; gi_at_call 101; refine (callsIn_wide.2 (All_any _ _)).mono ?_; rintro e w' ⟨rfl, rfl⟩)
  have bS := Boxed.new w 3 (.int .i64 2)
  have bN := Boxed.new (w.alloc (.cells #[.int .i64 2] 3)) 63 (.string s)
  rw [World.size_alloc] at bN
  have hB0 : Below w.heap.size w ((w.alloc (.cells #[.int .i64 2] 3)).alloc (.cells #[.string s] 63)) := ((Below.refl _ w).alloc (Nat.le_refl _) _).alloc (by simp) _
  have hfs := fields_le s
  refine wpIn_rangeFunc_ownG rfl h1 (gf := 103) (lb := #[.pointer (some ⟨w.heap.size + 1, 0, none⟩)]) rfl trivial (enters_of Tryd.func103 (by kernel_rfl) rfl)
    (All_stops (n - 1) (by omega) (w.heap.size + 1) s _ bN.cell) walksK_t walksK_b (Below.refl _ _) (fun _ => rfl)
    (fun pre W => (pre.length ≤ 8 ∧ W.cell? ⟨w.heap.size, 0, none⟩ = some (.int .i64 (2 + (pre.length : Int))) ∧ W.frozen? ⟨w.heap.size, 0, none⟩ = false) ∧ Below w.heap.size w W)
    (fun _ _ _ => False)
    (OwnFrom.and (Own.from (fun s A B row hs hg hr => ⟨hs.1, cell_kept hs.2.1 hg hr, (frozen_kept hs.2.1 hg hr).trans hs.2.2⟩) _) (ownFrom_below (Nat.le_refl _) (by simp; omega)))
    (fun _ _ _ _ _ hs _ _ => hs)
    ⟨⟨by simp, (bS.alloc _).cell, (bS.alloc _).frozen⟩, hB0⟩
    (fun x => { tmps := #[.string s, undef, .int .i64 0, .pointer (some ⟨w.heap.size, 0, none⟩), .string s, .func (.func 103) #[] #[.pointer (some ⟨w.heap.size + 1, 0, none⟩)], .int .i64 (x.1 : Int), .int .i64 x.2, undef, undef, undef], defers := [] }) ?assign ?body ?done ?stop
  case assign =>
    intro l x W K hK
    dsimp only [encF]
    gi_wp2
    simpa using hK
  case body =>
    rintro l pre x W ⟨⟨hl8, hc, hf⟩, hB⟩ hlen
    have hw : 2 + (pre.length : Int) + 1 = 2 + ((pre ++ [x]).length : Int) := by
      rw [List.length_append]; simp; omega
    gi_wp2
    refine ⟨(KeepsOthers.setCell _ _ _).from _, (KeepsOthers.setCell _ _ _).walks, ⟨by simp; omega, ?_, by rw [World.frozen?_setCell]; exact hf⟩, hB.setCell (p := ⟨w.heap.size, 0, none⟩) (Nat.le_refl _) _⟩
    rw [← hw]
    exact World.cell?_setCell_same' _ _ _ (by rw [hc]; rfl)
  case done =>
    rintro D ys W hD rfl ⟨⟨_, hc, _⟩, hB⟩ hK
    rw [upto_length] at hc
    gi_wp2
    refine ⟨by simp, .inl ⟨_, _, rfl, run_takeDeferred hK, ?_⟩⟩
    exact ⟨_, results_tmp rfl _ _ _, rfl, hB.trans (belowK_b (w := w) (Nat.le_refl _) W D _ _ (by simp at hD; omega) hK rfl rfl)⟩
  case stop =>
    rintro D c pre W _ _ h _
    exact h.elim
theorem size1_any (s : ByteArray) (w : World) : Calls Tryd.prog 100 #[.string s] w fun e W' => e = .returned (.int .i64 (2 + (fields s : Int))) ∧ Below w.heap.size w W' :=
  callsIn_wide.1 (size1_in 3 (by omega) s w)
end Go.Proofs.YtldfmlkjeniemaaDoor
/- Tables of shapes in memory; Check. -/
namespace Go.Proofs.YtldfmlkjeniemaaDoor
open Go.RowKit Go.Sh
/-- A table that lies in memory: none of its shapes, or so many cells that each hold a text. -/
def IsTab (w : World) (v : Value) (ss : List ByteArray) : Prop :=
  (ss = [] ∧ ∃ a cap, v = .slice a 0 cap) ∨ ∃ b off cap, v = .slice (some ⟨b, off, none⟩) ss.length cap ∧ ∀ i, i < ss.length → w.cell? ⟨b, off + i, none⟩ = some (.string (at' ss i))
theorem IsTab.below {w w' : World} {v : Value} {ss : List ByteArray} (h : IsTab w v ss) {B : Nat} (hB : w.heap.size ≤ B) (b : Below B w w') : IsTab w' v ss := by
  rcases h with h | ⟨bb, off, cap, rfl, hc⟩
  · exact .inl h
  · exact .inr ⟨bb, off, cap, rfl, fun i hi => (b.cell (p := ⟨bb, off + i, none⟩) (Nat.lt_of_lt_of_le (block_lt_of_cell (hc i hi)) hB)).trans (hc i hi)⟩
theorem IsTab.len {w : World} {v : Value} {ss : List ByteArray} (h : IsTab w v ss) : ∃ a cap, v = .slice a ss.length cap := by
  rcases h with ⟨rfl, a, cap, rfl⟩ | ⟨bb, off, cap, rfl, _⟩
  · exact ⟨a, cap, rfl⟩
  · exact ⟨_, cap, rfl⟩
theorem IsTab.some {w : World} {v : Value} {ss : List ByteArray} (h : IsTab w v ss) (h0 : 1 ≤ ss.length) : ∃ b off cap, v = .slice (some ⟨b, off, none⟩) ss.length cap ∧ ∀ i, i < ss.length → w.cell? ⟨b, off + i, none⟩ = some (.string (at' ss i)) := by
  rcases h with ⟨rfl, _⟩ | h
  · simp at h0
  · exact h
theorem jump_ret {l : Nat} {J : Act → World → Prop} {Q : Exit → Act → World → Prop} {a : Act} {w : World} : Exit.jump l J Q .ret a w = Q .ret a w := rfl
def er (b : Bool) : Int := if b then 0 else 2
set_option maxHeartbeats 2000000 in
theorem check_none (a : Option Addr) (cap : Nat) (w : World) :
    Calls Tryd.prog 79 #[.slice a 0 cap] w fun e w' => e = .returned (.int .i64 2) ∧ Below w.heap.size w w' := by
  go_enter Tryd.func79, Tryd.ntmps79
  go_wp2
  refine wp_scope_once 0 rfl ?_
  go_wp2
  go_step3
  refine ⟨rfl, ?_⟩
  go_wp2
  rw [Exit.noGoto_ret]
  go_ret
  exact ⟨rfl, Below.refl _ _⟩
set_option maxHeartbeats 2000000 in
theorem check_many (a : Option Addr) (len cap : Nat) (h : 16 < len) (w : World) :
    Calls Tryd.prog 79 #[.slice a len cap] w fun e w' => e = .returned (.int .i64 2) ∧ Below w.heap.size w w' := by
  have h1 : (1 : Int) ≤ (len : Int) := by omega
  have h2 : (16 : Int) < (len : Int) := by omega
  go_enter Tryd.func79, Tryd.ntmps79
  go_wp2
  refine wp_scope_once 0 rfl ?_
  go_wp2
  go_step3
  refine ⟨rfl, ?_⟩
  go_wp2
  rw [Exit.noGoto_ret]
  go_ret
  exact ⟨rfl, Below.refl _ _⟩
set_option maxRecDepth 100000 in
set_option maxHeartbeats 2000000 in
theorem check_some (b off cap : Nat) (ss : List ByteArray) (w : World) (h1 : 1 ≤ ss.length) (h16 : ss.length ≤ 16) (hc : Hid (∀ i, i < ss.length → w.cell? ⟨b, off + i, none⟩ = some (.string (at' ss i)))) :
    Calls Tryd.prog 79 #[.slice (some ⟨b, off, none⟩) ss.length cap] w fun e w' => e = .returned (.int .i64 (er (ss.all one))) ∧ Below w.heap.size w w' := by
  have g1 : (1 : Int) ≤ (ss.length : Int) := by omega
  have g2 : (ss.length : Int) ≤ 16 := by omega
  obtain ⟨len, hlen⟩ : ∃ len, len = ss.length := ⟨_, rfl⟩
  have HL := hid hlen
  rw [← hlen] at h1 h16 g1 g2
  rw [← hlen]
  clear hlen
  go_enter Tryd.func79, Tryd.ntmps79
  go_wp2
  refine wp_scope_once 0 rfl ?_
  go_wp2
  go_loopw [15] (fun i wr => ∃ k : Nat, k ≤ len ∧ i = .int .i64 k ∧ Below w.heap.size w wr ∧ Hid (∀ j, j < k → one (at' ss j) = true)) (fun i _ => len - (intOf i).toNat)
  case atStart => exact ⟨0, by omega, rfl, Below.refl _ _, hid (fun j hj => by omega)⟩
  case round =>
    obtain ⟨k, hk, rfl, ar, hall⟩ := hrel
    by_cases hlt : k < len
    · have hcell := hc.out k (by rw [← HL.out]; exact hlt)
      have hbk := block_lt_of_cell hcell
      have hcr : wr.cell? ⟨b, off + k, none⟩ = some (.string (at' ss k)) := (ar.cell (p := ⟨b, off + k, none⟩) hbk).trans hcell
      have Hcell := hid hcell
      clear hcell
      obtain ⟨x, hx⟩ : ∃ x, x = at' ss k := ⟨_, rfl⟩
      rw [← hx] at hcr
      have HX := hid hx
      clear hx
      by_cases ho : one x = true
      · have c := may_any x wr
        rw [ho] at c
        go_wp2_with (go_at_call 93; refine c.mono ?_; rintro e w2 ⟨rfl, b2⟩)
        go_roundw
        case rel =>
          refine ⟨k + 1, by omega, by simp, ar.trans (b2.mono ar.size), hid (fun j hj => ?_)⟩
          by_cases hj2 : j < k
          · exact hall.out j hj2
          · obtain rfl : j = k := by omega
            rw [← HX.out]; exact ho
        case measure => simp [intOf]; omega
      · have ho' : one x = false := by simpa using ho
        have c := may_any x wr
        rw [ho'] at c
        have HN : Hid (ss.all one = false) := hid (all_take_false (k := k) (by rw [← HL.out]; exact hlt) (by rw [← HX.out]; exact ho'))
        go_wp2_with (go_at_call 93; refine c.mono ?_; rintro e w2 ⟨rfl, b2⟩)
        go_step3
        refine ⟨rfl, ?_⟩
        go_wp2
        rw [Exit.noGoto_ret]
        go_ret
        exact ⟨ret_int (by rw [HN.out]; rfl), ar.trans (b2.mono ar.size)⟩
    · obtain rfl : k = len := by omega
      have HN : Hid (ss.all one = true) := hid (all_of_at (fun j hj => hall.out j (by rw [HL.out]; exact hj)))
      go_wp2
      rw [jump_ret]
      go_ret
      exact ⟨ret_int (by rw [HN.out]; rfl), ar⟩
theorem check_any (v : Value) (ss : List ByteArray) (w : World) (h : IsTab w v ss) :
    Calls Tryd.prog 79 #[v] w fun e w' => e = .returned (.int .i64 (er (right ss))) ∧ Below w.heap.size w w' := by
  by_cases h0 : ss.length = 0
  · obtain ⟨a, cap, rfl⟩ := h.len
    rw [h0]
    refine (check_none a cap w).mono ?_
    rintro e w' ⟨rfl, b⟩
    exact ⟨ret_int (by simp [right, h0, er]), b⟩
  · by_cases h16 : ss.length ≤ 16
    · obtain ⟨b, off, cap, rfl, hc⟩ := h.some (by omega)
      refine (check_some b off cap ss w (by omega) h16 (hid hc)).mono ?_
      rintro e w' ⟨rfl, b⟩
      exact ⟨ret_int (by simp [right, h16, show 1 ≤ ss.length by omega]), b⟩
    · obtain ⟨a, cap, rfl⟩ := h.len
      refine (check_many a _ cap (by omega) w).mono ?_
      rintro e w' ⟨rfl, b⟩
      exact ⟨ret_int (by simp [right, h16, er]), b⟩
end Go.Proofs.YtldfmlkjeniemaaDoor
/- package shape: findShape, greatest, size, Size, Most, Kind, Is. -/
namespace Go.Proofs.YtldfmlkjeniemaaDoor
open Go.RowKit Go.Sh
def fs (ss : List ByteArray) (n : Int) : ByteArray × Int := if right ss then (if inR n ss.length then (at' ss n.toNat, 0) else (ByteArray.empty, 130)) else (ByteArray.empty, 2)
theorem ret_si {a b : ByteArray} {c d : Int} (h : a = b) (h2 : c = d) : Ending.returned (.tuple #[.string a, .int .i64 c]) = .returned (.tuple #[.string b, .int .i64 d]) := by rw [h, h2]
theorem fs_no {ss : List ByteArray} {n : Int} (h : right ss = false) : fs ss n = (ByteArray.empty, 2) := by simp [fs, h]
theorem fs_out {ss : List ByteArray} {n : Int} (h : right ss = true) (h2 : inR n ss.length = false) : fs ss n = (ByteArray.empty, 130) := by simp [fs, h, h2]
theorem fs_in {ss : List ByteArray} {k : Nat} (h : right ss = true) (h2 : k < ss.length) : fs ss k = (at' ss k, 0) := by simp [fs, h, inR, h2]
set_option maxHeartbeats 2000000 in
theorem findShape_no (v : Value) (ss : List ByteArray) (n : Int) (w : World) (h : IsTab w v ss) (hr : right ss = false) :
    Calls Tryd.prog 87 #[v, .int .i64 n] w fun e w' => e = .returned (.tuple #[.string (fs ss n).1, .int .i64 (fs ss n).2]) ∧ Below w.heap.size w w' := by
  have c := check_any v ss w h
  rw [hr] at c
  have HF := hid (fs_no (n := n) hr)
  clear hr h
  go_enter Tryd.func87, Tryd.ntmps87
  go_wp2_with (go_at_call 79; refine c.mono ?_; rintro e w1 ⟨rfl, b1⟩; simp only [er])
  go_ret2
  exact ⟨by rw [HF.out]; rfl, b1⟩
set_option maxHeartbeats 2000000 in
theorem findShape_neg (v : Value) (ss : List ByteArray) (n : Int) (w : World) (h : IsTab w v ss) (hr : right ss = true) (hn : n < 0) :
    Calls Tryd.prog 87 #[v, .int .i64 n] w fun e w' => e = .returned (.tuple #[.string (fs ss n).1, .int .i64 (fs ss n).2]) ∧ Below w.heap.size w w' := by
  have c := check_any v ss w h
  rw [hr] at c
  have HF := hid (fs_out (n := n) hr (by simp [inR]; omega))
  clear hr
  obtain ⟨a, cap, rfl⟩ := h.len
  clear h
  go_enter Tryd.func87, Tryd.ntmps87
  go_wp2_with (go_at_call 79; refine c.mono ?_; rintro e w1 ⟨rfl, b1⟩; simp only [er])
  go_ret2
  exact ⟨by rw [HF.out]; rfl, b1⟩
set_option maxHeartbeats 2000000 in
theorem findShape_big (v : Value) (ss : List ByteArray) (n : Int) (w : World) (h : IsTab w v ss) (hr : right ss = true) (hn : (ss.length : Int) ≤ n) :
    Calls Tryd.prog 87 #[v, .int .i64 n] w fun e w' => e = .returned (.tuple #[.string (fs ss n).1, .int .i64 (fs ss n).2]) ∧ Below w.heap.size w w' := by
  have c := check_any v ss w h
  rw [hr] at c
  have HF := hid (fs_out (n := n) hr (by simp [inR]; omega))
  have h0 : 0 ≤ n := by omega
  clear hr
  obtain ⟨a, cap, rfl⟩ := h.len
  clear h
  go_enter Tryd.func87, Tryd.ntmps87
  go_wp2_with (go_at_call 79; refine c.mono ?_; rintro e w1 ⟨rfl, b1⟩; simp only [er])
  go_ret2
  exact ⟨by rw [HF.out]; rfl, b1⟩
set_option maxHeartbeats 2000000 in
theorem findShape_in (v : Value) (ss : List ByteArray) (k : Nat) (w : World) (h : IsTab w v ss) (hr : right ss = true) (hk : k < ss.length) :
    Calls Tryd.prog 87 #[v, .int .i64 (k : Int)] w fun e w' => e = .returned (.tuple #[.string (fs ss k).1, .int .i64 (fs ss k).2]) ∧ Below w.heap.size w w' := by
  have c := check_any v ss w h
  rw [hr] at c
  have HF := hid (fs_in hr hk)
  have h16 := (right_len hr).2
  clear hr
  obtain ⟨b, off, cap, rfl, hc⟩ := h.some (by omega)
  have hcell := hc k hk
  have hbk := block_lt_of_cell hcell
  clear h hc
  obtain ⟨len, hlen⟩ : ∃ len, len = ss.length := ⟨_, rfl⟩
  rw [← hlen] at hk h16 c ⊢
  clear hlen
  obtain ⟨x, hx⟩ : ∃ x, x = at' ss k := ⟨_, rfl⟩
  rw [← hx] at hcell HF
  clear hx
  go_enter Tryd.func87, Tryd.ntmps87
  go_wp2_with (go_at_call 79; refine c.mono ?_; rintro e w1 ⟨rfl, b1⟩; simp only [er]; have hc1 := (b1.cell (p := ⟨b, off + k, none⟩) hbk).trans hcell)
  go_ret2
  exact ⟨by rw [HF.out]; rfl, b1⟩
theorem findShape_any (v : Value) (ss : List ByteArray) (n : Int) (w : World) (h : IsTab w v ss) :
    Calls Tryd.prog 87 #[v, .int .i64 n] w fun e w' => e = .returned (.tuple #[.string (fs ss n).1, .int .i64 (fs ss n).2]) ∧ Below w.heap.size w w' := by
  by_cases hr : right ss = true
  · by_cases h0 : n < 0
    · exact findShape_neg v ss n w h hr h0
    · by_cases h1 : (ss.length : Int) ≤ n
      · exact findShape_big v ss n w h hr h1
      · obtain ⟨k, rfl⟩ : ∃ k : Nat, n = k := ⟨n.toNat, by omega⟩
        exact findShape_in v ss k w h hr (by omega)
  · exact findShape_no v ss n w h (by simpa using hr)
set_option maxRecDepth 100000 in
set_option maxHeartbeats 2000000 in
theorem greatest_any (b off cap : Nat) (ss : List ByteArray) (w : World) (h16 : ss.length ≤ 16) (hc : Hid (∀ i, i < ss.length → w.cell? ⟨b, off + i, none⟩ = some (.string (at' ss i)))) :
    Calls Tryd.prog 99 #[.slice (some ⟨b, off, none⟩) ss.length cap, .func (.func 100) #[] #[]] w fun e w' => e = .returned (.int .i64 (mostF ss)) ∧ Below w.heap.size w w' := by
  obtain ⟨len, hlen⟩ : ∃ len, len = ss.length := ⟨_, rfl⟩
  have HL := hid hlen
  rw [← hlen] at h16
  rw [← hlen]
  clear hlen
  go_enter Tryd.func99, Tryd.ntmps99
  go_wp2
  go_loopw [5, 10] (fun m i wr => ∃ k : Nat, k ≤ len ∧ i = .int .i64 k ∧ m = .int .i64 (mostF (ss.take k)) ∧ Below w.heap.size w wr) (fun _ i _ => len - (intOf i).toNat)
  case atStart => exact ⟨0, by omega, rfl, rfl, Below.refl _ _⟩
  case round =>
    obtain ⟨k, hk, rfl, rfl, ar⟩ := hrel
    by_cases hlt : k < len
    · have hcell := hc.out k (by rw [← HL.out]; exact hlt)
      have hbk := block_lt_of_cell hcell
      have hcr : wr.cell? ⟨b, off + k, none⟩ = some (.string (at' ss k)) := (ar.cell (p := ⟨b, off + k, none⟩) hbk).trans hcell
      have HM := hid (mostF_take (l := ss) (k := k) (by rw [← HL.out]; exact hlt))
      clear hcell
      obtain ⟨x, hx⟩ : ∃ x, x = at' ss k := ⟨_, rfl⟩
      rw [← hx] at hcr HM
      clear hx
      generalize mostF (ss.take k) = m at *
      have c := size1_any x wr
      generalize 2 + (fields x : Int) = y at *
      go_wp2_with (go_at_call 100; refine c.mono ?_; rintro e w2 ⟨rfl, b2⟩)
      refine ⟨⟨k + 1, by omega, by simp, ?_, ar.trans (b2.mono ar.size)⟩, by simp [intOf]; omega⟩
      have e : (if m < y then y else m) = max m y := by split <;> omega
      rw [HM.out, e]
    · obtain rfl : k = len := by omega
      have HM : Hid (mostF (ss.take k) = mostF ss) := hid (by rw [HL.out, List.take_length])
      go_wp2
      go_ret
      exact ⟨ret_int HM.out, ar⟩
set_option maxHeartbeats 2000000 in
theorem size_any (b off cap : Nat) (ss : List ByteArray) (w : World) (h16 : ss.length ≤ 16) (hc : Hid (∀ i, i < ss.length → w.cell? ⟨b, off + i, none⟩ = some (.string (at' ss i)))) :
    Calls Tryd.prog 88 #[.slice (some ⟨b, off, none⟩) ss.length cap] w fun e w' => e = .returned (.int .i64 (mostF ss)) ∧ Below w.heap.size w w' := by
  have c := greatest_any b off cap ss w h16 hc
  go_enter Tryd.func88, Tryd.ntmps88
  go_wp2_with (go_at_call 99; refine c.mono ?_; rintro e w1 ⟨rfl, b1⟩)
  go_ret
  exact ⟨rfl, b1⟩
/-- size of one shape, that a new block holds. -/
theorem size_one (x : ByteArray) (hx : one x = true) (t : TypeId) (w : World) :
    Calls Tryd.prog 88 #[.slice (some ⟨w.heap.size, 0, none⟩) 1 1] (w.alloc (.cells #[.string x] t)) fun e w' => e = .returned (.int .i64 (2 + (x.size : Int))) ∧ Below w.heap.size w w' := by
  refine (size_any w.heap.size 0 1 [x] (w.alloc (.cells #[.string x] t)) (by simp) (hid (fun i hi => ?_))).mono ?_
  · obtain rfl : i = 0 := by simp at hi; omega
    exact cell_last w _ t 0 _ rfl
  · rintro e w' ⟨rfl, b⟩
    refine ⟨ret_int ?_, bel1 b⟩
    simp only [mostF, List.foldl_cons, List.foldl_nil, fields_one hx]
    omega
theorem sz_no {ss : List ByteArray} {n : Int} (h : right ss = false) : sz ss n = (0, 2) := by simp [sz, h]
theorem sz_out {ss : List ByteArray} {n : Int} (h : right ss = true) (h2 : inR n ss.length = false) : sz ss n = (0, 130) := by simp [sz, h, h2]
theorem sz_in {ss : List ByteArray} {n : Int} (h : right ss = true) (h2 : inR n ss.length = true) : sz ss n = (2 + ((at' ss n.toNat).size : Int), 0) := by simp [sz, h, h2]
theorem inR_lt {n : Int} {k : Nat} (h : inR n k = true) : n.toNat < k := by simp [inR] at h; omega
set_option maxHeartbeats 2000000 in
theorem Size_err (v : Value) (ss : List ByteArray) (n : Int) (w : World) (h : IsTab w v ss) (x : ByteArray) (c : Int) (hf : fs ss n = (x, c)) (hc : (c == 0) = false) :
    Calls Tryd.prog 75 #[v, .int .i64 n] w fun e w' => e = .returned (.tuple #[.int .i64 0, .int .i64 c]) ∧ Below w.heap.size w w' := by
  have c0 := findShape_any v ss n w h
  rw [hf] at c0
  clear hf h
  go_enter Tryd.func75, Tryd.ntmps75
  go_wp2_with (go_at_call 87; refine c0.mono ?_; rintro e w1 ⟨rfl, b1⟩)
  go_ret2
  exact ⟨rfl, b1⟩
set_option maxHeartbeats 2000000 in
theorem Size_ok (v : Value) (ss : List ByteArray) (n : Int) (w : World) (h : IsTab w v ss) (x : ByteArray) (hf : fs ss n = (x, 0)) (hx : one x = true) :
    Calls Tryd.prog 75 #[v, .int .i64 n] w fun e w' => e = .returned (.tuple #[.int .i64 (2 + (x.size : Int)), .int .i64 0]) ∧ Below w.heap.size w w' := by
  have c0 := findShape_any v ss n w h
  rw [hf] at c0
  clear hf h
  have HX := hid hx
  clear hx
  go_enter Tryd.func75, Tryd.ntmps75
  go_wp2_with (first | (go_at_call 87; refine c0.mono ?_; rintro e w1 ⟨rfl, b1⟩) | (go_at_call 88; refine (size_one x HX.out _ _).mono ?_; rintro e w2 ⟨rfl, b2⟩))
  go_ret2
  exact ⟨rfl, b1.trans (b2.mono b1.size)⟩
theorem Size_any (v : Value) (ss : List ByteArray) (n : Int) (w : World) (h : IsTab w v ss) :
    Calls Tryd.prog 75 #[v, .int .i64 n] w fun e w' => e = .returned (.tuple #[.int .i64 (sz ss n).1, .int .i64 (sz ss n).2]) ∧ Below w.heap.size w w' := by
  by_cases hr : right ss = true
  · by_cases h2 : inR n ss.length = true
    · rw [sz_in hr h2]
      exact Size_ok v ss n w h _ (by simp [fs, hr, h2]) (right_all hr _ (inR_lt h2))
    · have h2' : inR n ss.length = false := by simpa using h2
      rw [sz_out hr h2']
      exact Size_err v ss n w h _ _ (fs_out hr h2') rfl
  · have hr' : right ss = false := by simpa using hr
    rw [sz_no hr']
    exact Size_err v ss n w h _ _ (fs_no hr') rfl
/-- What Most answers. -/
def ms (ss : List ByteArray) : Int × Int := if right ss then (most ss, 0) else (0, 2)
end Go.Proofs.YtldfmlkjeniemaaDoor
