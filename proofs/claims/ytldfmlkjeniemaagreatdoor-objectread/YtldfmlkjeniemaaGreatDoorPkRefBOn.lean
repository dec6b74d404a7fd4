/- The document's functions of layer 2: frontiers of words; claims, turns, what is used; names. -/
import Derived.Test.YtldfmlkjeniemaaGreatDoorPkRef
import Derived.Test.YtldfmlkjeniemaaGreatDoorWdOfOn
import Derived.Test.YtldfmlkjeniemaaGreatDoorLyRefOn
import Derived.Test.YtldfmlkjeniemaaGreatDoorArLeafOn
import Derived.Test.YtldfmlkjeniemaaGreatDoorHdTopOn
namespace Go.Proofs.YtldfmlkjeniemaaGreatDoor
open Go.RowKit
theorem claim_below {w w2 : World} (h : Below w.heap.size w w2) (j : Nat) (t u v x y : Value) : Below w.heap.size w (((((w2.setCell ⟨w.heap.size, j, none⟩ t).setCell ⟨w.heap.size + 1, 0, none⟩ u).setCell ⟨w.heap.size + 1, 1, none⟩ v).setCell ⟨w.heap.size + 1, 2, none⟩ x).setCell ⟨w.heap.size + 1, 3, none⟩ y) :=
  four_set (h.setCell (Nat.le_refl _) _) (Nat.le_succ _) _ _ _ _
end Go.Proofs.YtldfmlkjeniemaaGreatDoor
/- Package pack and the document's functions of layer 2, by what they answer: each contract once for the code, once for the document. -/
namespace Go.Pk
/-- A request's word, and the error. -/
def rq (x p : Int) : Int × Int := if rqOk x p = true then (8 * x + p, 0) else (0, 2)
/-- A word's request, and the error. -/
def orq (x : Int) : Int × Int × Int := if rqOk (x / 8) (x % 8) = true then (x / 8, x % 8, 0) else (0, 0, 2)
/-- A frontier's word, and the error. -/
def fw (s l h o : Int) : Int × Int := if frOk s l h o = true then (s + 2 * (l + 8192 * (h + 8192 * o)), 0) else (0, 2)
/-- A word's frontier, and the error. -/
def ofw (x : Int) : Int × Int × Int × Int × Int := if frOk (x % 2) (x / 2 % 8192) (x / 16384 % 8192) (x / 134217728) = true then (x % 2, x / 2 % 8192, x / 16384 % 8192, x / 134217728, 0) else (0, 0, 0, 0, 2)
def us (s l h o n : Int) : Int × Int := if frOk s l h o = true ∧ h ≤ n ∧ n ≤ 4096 then (l + n - h + o, 0) else (0, 2)
def ft (s l h o n : Int) : Bool := frOk s l h o && decide (1 ≤ n ∧ n ≤ h - l - o)
def tn (s l h o n : Int) : Int × Int × Int × Int × Int := if frOk s l h o = true then (if o ≤ n ∧ n ≤ 4096 then (1 - s, o, n, 0, 0) else (0, 0, 0, 0, 4)) else (0, 0, 0, 0, 2)
def cl (s l h o x n : Int) : Int × Int × Int × Int × Int × Int :=
  if frOk s l h o = true ∧ (x = 0 ∨ x = 1) ∧ 1 ≤ n then (if n ≤ h - l - o then (if x = s then (s, l + n, h, o, l, 0) else (s, l, h, o + n, o, 0)) else (0, 0, 0, 0, 0, 4)) else (0, 0, 0, 0, 0, 2)
theorem bool_cases (b : Bool) : b = true ∨ b = false := by cases b <;> simp
end Go.Pk
namespace Go.Proofs.YtldfmlkjeniemaaGreatDoor
open Go.RowKit
theorem ret_qe {a b c a' b' c' : Int} (h : (a', b', c') = (a, b, c)) : Ending.returned (.tuple #[.agg #[.int .i64 a', .int .i64 b'], .int .i64 c']) = .returned (.tuple #[.agg #[.int .i64 a, .int .i64 b], .int .i64 c]) := by cases h; rfl
theorem ret_ue {a b a' b' : Int} (h : (a', b') = (a, b)) : Ending.returned (.tuple #[.int .u64 a', .int .i64 b']) = .returned (.tuple #[.int .u64 a, .int .i64 b]) := by cases h; rfl
theorem ret_ne {a b a' b' : Int} (h : (a', b') = (a, b)) : Ending.returned (.tuple #[.int .i64 a', .int .i64 b']) = .returned (.tuple #[.int .i64 a, .int .i64 b]) := by cases h; rfl
theorem ret_4e {a b c d e a' b' c' d' e' : Int} (h : (a', b', c', d', e') = (a, b, c, d, e)) : Ending.returned (.tuple #[.agg #[.int .i64 a', .int .i64 b', .int .i64 c', .int .i64 d'], .int .i64 e']) = .returned (.tuple #[.agg #[.int .i64 a, .int .i64 b, .int .i64 c, .int .i64 d], .int .i64 e]) := by cases h; rfl
theorem ret_5e {a b c d t e a' b' c' d' t' e' : Int} (h : (a', b', c', d', t', e') = (a, b, c, d, t, e)) : Ending.returned (.tuple #[.agg #[.int .i64 a', .int .i64 b', .int .i64 c', .int .i64 d'], .int .i64 t', .int .i64 e']) = .returned (.tuple #[.agg #[.int .i64 a, .int .i64 b, .int .i64 c, .int .i64 d], .int .i64 t, .int .i64 e]) := by cases h; rfl
theorem rfront_at (s l h o : Int) (a b : Int) (w : World) (H : Hid (Pk.fw s l h o = (a, b))) :
    Calls Tryz.prog 41 #[.agg #[.int .i64 s, .int .i64 l, .int .i64 h, .int .i64 o]] w fun e w' => e = .returned (.tuple #[.int .u64 a, .int .i64 b]) ∧ Below w.heap.size w w' := by
  have H := H.out
  unfold Pk.fw at H
  rcases Pk.bool_cases (Pk.frOk s l h o) with hk | hk
  · rw [if_pos hk] at H
    exact (rfront_yes s l h o w hk).mono fun _ _ e => ⟨e.1.trans (ret_ue H), e.2⟩
  · rw [if_neg (by simp [hk])] at H
    exact (rfront_no s l h o w hk).mono fun _ _ e => ⟨e.1.trans (ret_ue H), e.2⟩
end Go.Proofs.YtldfmlkjeniemaaGreatDoor
/- package layout: start, Start: the words of an arena at the start. -/
set_option linter.unusedVariables false
namespace Go.Proofs.YtldfmlkjeniemaaGreatDoor
open Go.RowKit Go.Ly Go.Sh
/-- The word at the start, by its number: F the frontier, B the first word of the first space. -/
def stf (F : Int) (B : Nat) (x : ByteArray) (i : Nat) : Int := if i = 1 then F else if B ≤ i then (fobj x).getD (i - B) 0 else 0
/-- A world in which an arena's words are laid: the plan's box, the words' row, the first object. -/
structure StW (w : World) (P G g : Nat) (O : Obj) (zs : List Int) (x : ByteArray) (W : World) : Prop where
  row : W.heap[G]? = some (.cells (wds zs) 39)
  pln : W.heap[P]? = some O
  obj : ∀ i, i < 2 + x.size → W.cell? ⟨g, i, none⟩ = some (.int .u64 ((fobj x).getD i 0))
  bel : Below w.heap.size w W
  neG : g ≠ G
  neP : P ≠ G
  leG : w.heap.size ≤ G
theorem StW.below {w W W' : World} {P G g : Nat} {O : Obj} {zs : List Int} {x : ByteArray} (h : StW w P G g O zs x W) (b : Below W.heap.size W W') : StW w P G g O zs x W' :=
  ⟨row_below h.row b, row_below h.pln b, fun i hi => (b.cell (p := ⟨g, i, none⟩) (block_lt_of_cell (h.obj i hi))).trans (h.obj i hi), h.bel.trans (b.mono h.bel.size), h.neG, h.neP, h.leG⟩
theorem StW.set {w W : World} {P G g : Nat} {O : Obj} {zs : List Int} {x : ByteArray} (h : StW w P G g O zs x W) (i : Nat) (v : Int) : StW w P G g O (zs.set i v) x (W.setCell ⟨G, i, none⟩ (.int .u64 v)) := by
  have e := setCell_eq_setRow W G i (wds zs) 39 (0, 0) (.int .u64 v) h.row
  rw [wds_set] at e
  refine ⟨?_, other_row h.neP h.pln, fun j hj => grown_cell (grown_setCell W G i _) h.neG (h.obj j hj), h.bel.setCell (p := ⟨G, i, none⟩) h.leG _, h.neG, h.neP, h.leG⟩
  rw [e]
  exact setRow_heap W G (wds zs) _ _ _ h.row
theorem StW.cell {w W : World} {P G g : Nat} {O : Obj} {zs : List Int} {x : ByteArray} (h : StW w P G g O zs x W) (i : Nat) (hi : i < zs.length) : W.cell? ⟨G, i, none⟩ = some (.int .u64 (wat zs i)) := at_row h.row i (wds_get zs i hi)
theorem wat_stf (N B : Nat) (F : Int) (x : ByteArray) (b5 : 5 ≤ B) (hN : B + (2 + x.size) ≤ N) (i : Nat) (hi : i < N) :
    wat ((((List.replicate N 0).set 0 0).set 1 F).take B ++ fobj x ++ (((List.replicate N 0).set 0 0).set 1 F).drop (B + (fobj x).length)) i = stf F B x i := by
  have hl := fobj_len x
  unfold wat stf
  rw [List.getD_eq_getElem?_getD]
  by_cases h1 : i < B
  · rw [List.append_assoc, List.getElem?_append_left (by simp; omega), List.getElem?_take_of_lt h1, List.getElem?_set]
    by_cases e1 : i = 1
    · subst e1; simp [hi]
    · rw [if_neg (by omega), if_neg e1, if_neg (by omega), List.getElem?_set]
      split
      · simp; split <;> rfl
      · simp [List.getElem?_replicate]; split <;> rfl
  · have hlen : ((((List.replicate N (0 : Int)).set 0 0).set 1 F).take B).length = B := by simp; omega
    rw [if_neg (by omega), if_pos (by omega)]
    rw [List.append_assoc, List.getElem?_append_right (by rw [hlen]; omega), hlen, List.getD_eq_getElem?_getD]
    by_cases h2 : i - B < (fobj x).length
    · rw [List.getElem?_append_left h2]
    · rw [List.getElem?_append_right (by omega), List.getElem?_drop, List.getElem?_eq_none (l := fobj x) (by omega), List.getElem?_set, if_neg (by omega), List.getElem?_set, if_neg (by omega), List.getElem?_replicate]
      split <;> rfl
theorem st_copy {w W : World} {P G g : Nat} {O : Obj} {zs : List Int} {x : ByteArray} (ty : TypeId) (B N cap : Nat) (h : StW w P G g O zs x W) (hl : zs.length = N) (hB : B + (2 + x.size) ≤ N) :
    (Builtin.copy_ #[25, 25] ty #[.slice (some ⟨G, B, none⟩) (N - B) (N - B), .slice (some ⟨g, 0, none⟩) (2 + x.size) cap]).run Tryz.prog W = .ok (goInt (2 + x.size)) (W.setRow G (wds (zs.take B ++ fobj x ++ zs.drop (B + (fobj x).length)))) := by
  have hfl := fobj_len x
  have := run_copy_row Tryz.prog W 25 25 ty 39 G B (N - B) (N - B) ⟨g, 0, none⟩ (2 + x.size) cap (wds zs) 39 (wds (fobj x)).toList Tryz.underlying25 (by kernel_rfl) h.row
    (by rw [show (wds (fobj x)).toList.length = 2 + x.size by simp [wds, hfl]]; exact (Nat.min_eq_left (by omega)).symm) (Ws.list (off := 0) (fun i hi => by rw [Nat.zero_add]; exact h.obj i (by omega))) (by simp [wds, hfl, hl]; omega) (wds_one _)
  rw [this]
  have e0 : ((wds zs).toList.take B ++ (wds (fobj x)).toList ++ (wds zs).toList.drop (B + (wds (fobj x)).toList.length)).toArray = wds (zs.take B ++ fobj x ++ zs.drop (B + (fobj x).length)) := by
    simp [wds]
  rw [e0]
  simp [wds, hfl]
end Go.Proofs.YtldfmlkjeniemaaGreatDoor
/- package head: Text; numbers below 16 in texts. -/
namespace Go.Hd
/-- A number below 16 as a text. -/
def it (k : Nat) : ByteArray := if k < 10 then ⟨#[UInt8.ofNat (48 + k)]⟩ else ⟨#[49, UInt8.ofNat (38 + k)]⟩
theorem it_size (k : Nat) : (it k).size ≤ 2 := by
  unfold it; split <;> simp [ByteArray.size]
theorem nm_size (k : Nat) : (nm k).size ≤ 5 := by
  unfold nm; split <;> decide
theorem lt16 {k : Nat} (h : k < 16) : k = 0 ∨ k = 1 ∨ k = 2 ∨ k = 3 ∨ k = 4 ∨ k = 5 ∨ k = 6 ∨ k = 7 ∨ k = 8 ∨ k = 9 ∨ k = 10 ∨ k = 11 ∨ k = 12 ∨ k = 13 ∨ k = 14 ∨ k = 15 := by omega
/-- A header's text. -/
def hx (s m : Nat) : ByteArray := it s ++ ⟨#[32]⟩ ++ nm m
/-- What Text answers. -/
def txv (x : Int) : ByteArray × Int := if isH x then (hx (x / 32).toNat (x / 8 % 4).toNat, 0) else (⟨#[]⟩, 2)
theorem isH_nat {x : Int} (h : isH x = true) : ∃ s m : Nat, s < 16 ∧ m < 3 ∧ x / 32 = s ∧ x / 8 % 4 = m := by
  obtain ⟨h1, _, _⟩ := isH_is h
  obtain ⟨a, b, c, d⟩ := ok_yes h1
  exact ⟨(x / 32).toNat, (x / 8 % 4).toNat, by omega, by omega, by omega, by omega⟩
end Go.Hd
namespace Go.Proofs.YtldfmlkjeniemaaGreatDoor
open Go.RowKit Go.Hd Go.Sh Go.Sort
end Go.Proofs.YtldfmlkjeniemaaGreatDoor
/- The document's functions (lapidaryref04): Make, Word, Of, Marked, Size, Name. -/
namespace Go.Proofs.YtldfmlkjeniemaaGreatDoor
open Go.RowKit Go.Hd Go.Sh
set_option maxHeartbeats 1000000 in
theorem rmake_yes (s m : Int) (w : World) (h : ok s m = true) : Calls Tryz.prog 35 #[.agg #[.int .i64 s, .int .i64 m]] w fun e w' => e = .returned (.tuple #[.int .u64 (wd s m), .int .i64 0]) ∧ Below w.heap.size w w' := by
  obtain ⟨s0, s1, m0, m1⟩ := ok_yes h
  have s1' : s ≤ 15 := by omega
  clear h
  have H : Hid (8 * (4 * s + m) + 6 = wd s m) := hid rfl
  go_enter Tryz.func35, Tryz.ntmps35
  go_wp2
  go_ret2
  exact ⟨by rw [← H.out]; rfl, below_alloc0 w _⟩
set_option maxHeartbeats 1000000 in
theorem rmake_no (s m : Int) (w : World) (h : ok s m = false) : Calls Tryz.prog 35 #[.agg #[.int .i64 s, .int .i64 m]] w fun e w' => e = .returned (.tuple #[.int .u64 0, .int .i64 2]) ∧ Below w.heap.size w w' := by
  by_cases h0 : s < 0
  · clear h
    go_enter Tryz.func35, Tryz.ntmps35
    go_wp2
    go_ret2
    exact ⟨rfl, below_alloc0 w _⟩
  · have h0' : 0 ≤ s := by omega
    clear h0
    by_cases h1 : 15 < s
    · clear h
      go_enter Tryz.func35, Tryz.ntmps35
      go_wp2
      go_ret2
      exact ⟨rfl, below_alloc0 w _⟩
    · have h1' : s ≤ 15 := by omega
      clear h1
      by_cases h2 : m < 0
      · clear h
        go_enter Tryz.func35, Tryz.ntmps35
        go_wp2
        go_ret2
        exact ⟨rfl, below_alloc0 w _⟩
      · have h2' : 0 ≤ m := by omega
        have h3 : 2 < m := by
          have e : ¬ (m ≤ 2) := by
            intro hm
            have : ok s m = true := by simp [ok, mk]; omega
            rw [h] at this; cases this
          omega
        clear h h2
        go_enter Tryz.func35, Tryz.ntmps35
        go_wp2
        go_ret2
        exact ⟨rfl, below_alloc0 w _⟩
theorem rword_at (s m : Int) (w : World) (s0 : 0 ≤ s) (s1 : s ≤ 15) (m0 : 0 ≤ m) (m1 : m ≤ 2) : Calls Tryz.prog 42 #[.int .i64 s, .int .i64 m] w fun e w' => e = .returned (.int .u64 (wd s m)) ∧ w' = w := by
  have H : Hid (8 * (4 * s + m) + 6 = wd s m) := hid rfl
  go_enter Tryz.func42, Tryz.ntmps42
  go_wp2
  go_ret
  exact ⟨ret_int H.out, rfl⟩
set_option maxHeartbeats 1000000 in
theorem rof_no_a (x : Int) (w : World) (x0 : 0 ≤ x) (x1 : x ≤ 18446744073709551615) (h : (x % 8 != 6) = true) : Calls Tryz.prog 28 #[.int .u64 x] w fun e w' => e = .returned (.tuple #[.agg #[.int .i64 0, .int .i64 0], .bool false]) ∧ Below w.heap.size w w' := by
  have n0 : 0 ≤ x / 8 := by omega
  have n1 : x / 8 ≤ 18446744073709551615 := by omega
  go_enter Tryz.func28, Tryz.ntmps28
  go_wp2
  exact bodyPost_ret (v := .tuple #[.agg #[.int .i64 0, .int .i64 0], .bool false]) (by simp [results, Tryz.results28, go_sem]) rfl ⟨rfl, below_alloc0 w _⟩
set_option maxHeartbeats 1000000 in
theorem rof_no_b (x : Int) (w : World) (x0 : 0 ≤ x) (x1 : x ≤ 18446744073709551615) (h : (x % 8 != 6) = false) (h2 : 64 ≤ x / 8) : Calls Tryz.prog 28 #[.int .u64 x] w fun e w' => e = .returned (.tuple #[.agg #[.int .i64 0, .int .i64 0], .bool false]) ∧ Below w.heap.size w w' := by
  have n0 : 0 ≤ x / 8 := by omega
  have n1 : x / 8 ≤ 18446744073709551615 := by omega
  go_enter Tryz.func28, Tryz.ntmps28
  go_wp2
  exact bodyPost_ret (v := .tuple #[.agg #[.int .i64 0, .int .i64 0], .bool false]) (by simp [results, Tryz.results28, go_sem]) rfl ⟨rfl, below_alloc0 w _⟩
set_option maxHeartbeats 1000000 in
theorem rof_no_c (x : Int) (w : World) (x0 : 0 ≤ x) (x1 : x ≤ 18446744073709551615) (h : (x % 8 != 6) = false) (h2 : x / 8 < 64) (h3 : (x / 8 % 4 == 3) = true) : Calls Tryz.prog 28 #[.int .u64 x] w fun e w' => e = .returned (.tuple #[.agg #[.int .i64 0, .int .i64 0], .bool false]) ∧ Below w.heap.size w w' := by
  have n0 : 0 ≤ x / 8 := by omega
  have n1 : x / 8 ≤ 18446744073709551615 := by omega
  go_enter Tryz.func28, Tryz.ntmps28
  go_wp2
  exact bodyPost_ret (v := .tuple #[.agg #[.int .i64 0, .int .i64 0], .bool false]) (by simp [results, Tryz.results28, go_sem]) rfl ⟨rfl, below_alloc0 w _⟩
set_option maxHeartbeats 1000000 in
theorem rof_in (x : Int) (w : World) (x0 : 0 ≤ x) (x1 : x ≤ 18446744073709551615) (h : (x % 8 != 6) = false) (h2 : x / 8 < 64) (h3 : (x / 8 % 4 == 3) = false) : Calls Tryz.prog 28 #[.int .u64 x] w fun e w' => e = .returned (.tuple #[.agg #[.int .i64 (x / 32), .int .i64 (x / 8 % 4)], .bool true]) ∧ Below w.heap.size w w' := by
  have e1 : x / 8 / 4 = x / 32 := by omega
  have n0 : 0 ≤ x / 8 := by omega
  have n9 : x / 8 ≤ 18446744073709551615 := by omega
  have n1 : 0 ≤ x / 8 % 4 := by omega
  have n2 : x / 8 % 4 ≤ 3 := by omega
  have k0 : 0 ≤ x / 8 / 4 := by omega
  have k1 : x / 8 / 4 ≤ 15 := by omega
  rw [← e1]
  clear e1
  go_enter Tryz.func28, Tryz.ntmps28
  go_wp2
  exact bodyPost_ret (v := .tuple #[.agg #[.int .i64 (x / 8 / 4), .int .i64 (x / 8 % 4)], .bool true]) (by simp [results, Tryz.results28, go_sem]) rfl ⟨rfl, below_alloc0 w _⟩
theorem rof_yes (x : Int) (w : World) (x0 : 0 ≤ x) (x1 : x ≤ 18446744073709551615) (h : isH x = true) : Calls Tryz.prog 28 #[.int .u64 x] w fun e w' => e = .returned (.tuple #[.agg #[.int .i64 (x / 32), .int .i64 (x / 8 % 4)], .bool true]) ∧ Below w.heap.size w w' := by
  obtain ⟨h1, h2, _⟩ := isH_is h
  obtain ⟨a, b, c, d⟩ := ok_yes h1
  exact rof_in x w x0 x1 (by rw [h2]; rfl) (by omega) (by rw [beq_eq_false_iff_ne]; omega)
theorem rof_no (x : Int) (w : World) (x0 : 0 ≤ x) (x1 : x ≤ 18446744073709551615) (h : isH x = false) : Calls Tryz.prog 28 #[.int .u64 x] w fun e w' => e = .returned (.tuple #[.agg #[.int .i64 0, .int .i64 0], .bool false]) ∧ Below w.heap.size w w' := by
  by_cases h2 : x % 8 = 6
  · by_cases h3 : 64 ≤ x / 8
    · exact rof_no_b x w x0 x1 (by rw [h2]; rfl) h3
    · refine rof_no_c x w x0 x1 (by rw [h2]; rfl) (by omega) ?_
      have : ¬ (x / 8 % 4 ≤ 2) := by
        intro hm
        have : isH x = true := by simp [isH, ok, mk, h2]; omega
        rw [h] at this; cases this
      simp; omega
  · exact rof_no_a x w x0 x1 (by simpa using h2)
theorem hrof_at (x a b : Int) (t : Bool) (w : World) (x0 : 0 ≤ x) (x1 : x ≤ 18446744073709551615) (h : ofv x = (a, b, t)) : Calls Tryz.prog 28 #[.int .u64 x] w fun e w' => e = .returned (.tuple #[.agg #[.int .i64 a, .int .i64 b], .bool t]) ∧ Below w.heap.size w w' := by
  by_cases hi : isH x = true
  · rw [ofv, if_pos hi] at h
    simp only [Prod.mk.injEq] at h
    obtain ⟨rfl, rfl, rfl⟩ := h
    exact rof_yes x w x0 x1 hi
  · rw [ofv, if_neg hi] at h
    simp only [Prod.mk.injEq] at h
    obtain ⟨rfl, rfl, rfl⟩ := h
    exact rof_no x w x0 x1 (by simpa using hi)
end Go.Proofs.YtldfmlkjeniemaaGreatDoor
