/- package layout: start, Start: the words of an arena at the start. -/
import Derived.Test.YtldfmlkjeniemaaDoorLyFaceOn
import Derived.Test.YtldfmlkjeniemaaDoorLyRefOn
import Derived.Test.YtldfmlkjeniemaaDoorPkRefBOn
import Derived.Test.YtldfmlkjeniemaaDoorHdTopOn
set_option linter.unusedVariables false
namespace Go.Proofs.YtldfmlkjeniemaaDoor
open Go.RowKit Go.Ly Go.Sh
/-- The word at the start, by its number: F the frontier, B the first word of the first space. -/
def stf (F : Int) (B : Nat) (x : ByteArray) (i : Nat) : Int := if i = 1 then F else if B ≤ i then (fobj x).getD (i - B) 0 else 0
/-- A world in which an arena's words are laid: the plan's box, the words' row, the first object. -/
structure StW (w : World) (P G g : Nat) (O : Obj) (zs : List Int) (x : ByteArray) (W : World) : Prop where
  row : W.heap[G]? = some (.cells (wds zs) 50)
  pln : W.heap[P]? = some O
  obj : ∀ i, i < 2 + x.size → W.cell? ⟨g, i, none⟩ = some (.int .u64 ((fobj x).getD i 0))
  bel : Below w.heap.size w W
  neG : g ≠ G
  neP : P ≠ G
  leG : w.heap.size ≤ G
theorem StW.below {w W W' : World} {P G g : Nat} {O : Obj} {zs : List Int} {x : ByteArray} (h : StW w P G g O zs x W) (b : Below W.heap.size W W') : StW w P G g O zs x W' :=
  ⟨row_below h.row b, row_below h.pln b, fun i hi => (b.cell (p := ⟨g, i, none⟩) (block_lt_of_cell (h.obj i hi))).trans (h.obj i hi), h.bel.trans (b.mono h.bel.size), h.neG, h.neP, h.leG⟩
theorem StW.set {w W : World} {P G g : Nat} {O : Obj} {zs : List Int} {x : ByteArray} (h : StW w P G g O zs x W) (i : Nat) (v : Int) : StW w P G g O (zs.set i v) x (W.setCell ⟨G, i, none⟩ (.int .u64 v)) := by
  have e := setCell_eq_setRow W G i (wds zs) 50 (0, 0) (.int .u64 v) h.row
  rw [wds_set] at e
  refine ⟨?_, other_row h.neP h.pln, fun j hj => grown_cell (grown_setCell W G i _) h.neG (h.obj j hj), h.bel.setCell (p := ⟨G, i, none⟩) h.leG _, h.neG, h.neP, h.leG⟩
  rw [e]
  exact setRow_heap W G (wds zs) _ _ _ h.row
theorem StW.cell {w W : World} {P G g : Nat} {O : Obj} {zs : List Int} {x : ByteArray} (h : StW w P G g O zs x W) (i : Nat) (hi : i < zs.length) : W.cell? ⟨G, i, none⟩ = some (.int .u64 (wat zs i)) := at_row h.row i (wds_get zs i hi)
theorem wat_stf (N B : Nat) (F : Int) (x : ByteArray) (b5 : 5 ≤ B) (hN : B + (2 + x.size) ≤ N) (i : Nat) (hi : i < N) :
    wat ((((List.replicate N 0).set 0 0).set 1 F).take B ++ fobj x ++ (((List.replicate N 0).set 0 0).set 1 F).drop (B + (fobj x).length)) i = stf F B x i := by
  have hl := fobj_len x
  unfold wat stf
  rw [List.getD_eq_getElem?_getD]
  by_cases h1 : i < B
  · rw [List.append_assoc, List.getElem?_append_left (by simp; omega), List.getElem?_take_of_lt h1, List.getElem?_set]
    by_cases e1 : i = 1
    · subst e1; simp [hi]
    · rw [if_neg (by omega), if_neg e1, if_neg (by omega), List.getElem?_set]
      split
      · simp; split <;> rfl
      · simp [List.getElem?_replicate]; split <;> rfl
  · have hlen : ((((List.replicate N (0 : Int)).set 0 0).set 1 F).take B).length = B := by simp; omega
    rw [if_neg (by omega), if_pos (by omega)]
    rw [List.append_assoc, List.getElem?_append_right (by rw [hlen]; omega), hlen, List.getD_eq_getElem?_getD]
    by_cases h2 : i - B < (fobj x).length
    · rw [List.getElem?_append_left h2]
    · rw [List.getElem?_append_right (by omega), List.getElem?_drop, List.getElem?_eq_none (l := fobj x) (by omega), List.getElem?_set, if_neg (by omega), List.getElem?_set, if_neg (by omega), List.getElem?_replicate]
      split <;> rfl
theorem st_copy {w W : World} {P G g : Nat} {O : Obj} {zs : List Int} {x : ByteArray} (ty : TypeId) (B N cap : Nat) (h : StW w P G g O zs x W) (hl : zs.length = N) (hB : B + (2 + x.size) ≤ N) :
    (Builtin.copy_ #[25, 25] ty #[.slice (some ⟨G, B, none⟩) (N - B) (N - B), .slice (some ⟨g, 0, none⟩) (2 + x.size) cap]).run Tryd.prog W = .ok (goInt (2 + x.size)) (W.setRow G (wds (zs.take B ++ fobj x ++ zs.drop (B + (fobj x).length)))) := by
  have hfl := fobj_len x
  have := run_copy_row Tryd.prog W 25 25 ty 50 G B (N - B) (N - B) ⟨g, 0, none⟩ (2 + x.size) cap (wds zs) 50 (wds (fobj x)).toList Tryd.underlying25 (by kernel_rfl) h.row
    (by rw [show (wds (fobj x)).toList.length = 2 + x.size by simp [wds, hfl]]; exact (Nat.min_eq_left (by omega)).symm) (Ws.list (off := 0) (fun i hi => by rw [Nat.zero_add]; exact h.obj i (by omega))) (by simp [wds, hfl, hl]; omega) (wds_one _)
  rw [this]
  have e0 : ((wds zs).toList.take B ++ (wds (fobj x)).toList ++ (wds zs).toList.drop (B + (wds (fobj x)).toList.length)).toArray = wds (zs.take B ++ fobj x ++ zs.drop (B + (fobj x).length)) := by
    simp [wds]
  rw [e0]
  simp [wds, hfl]
end Go.Proofs.YtldfmlkjeniemaaDoor
/- package head: Of by what is answered, Marked, Size, Name. -/
namespace Go.Hd
/-- What Of answers. -/
def ofv (x : Int) : Int × Int × Bool := if isH x then (x / 32, x / 8 % 4, true) else (0, 0, false)
theorem isH_ok {x : Int} (h : isH x = true) (m : Int) : ok (x / 32) m = mk m := by
  obtain ⟨h1, _, _⟩ := isH_is h
  obtain ⟨a, b, _, _⟩ := ok_yes h1
  simp [ok, a, b]
theorem mkd_no {x m : Int} (h : isH x = false) : mkd x m = (0, 2) := by simp [mkd, h]
theorem mkd_out {x m : Int} (h : mk m = false) : mkd x m = (0, 2) := by simp [mkd, h]
theorem mkd_in {x m : Int} (h : isH x = true) (hm : mk m = true) : mkd x m = (wd (x / 32) m, 0) := by simp [mkd, h, hm]
/-- What Size answers. -/
def szH (x : Int) (ss : List ByteArray) : Int × Int := if isH x then Sh.sz ss (x / 32) else (0, 2)
/-- The marks' names. -/
def nm : Nat → ByteArray
  | 0 => ⟨#[119, 104, 105, 116, 101]⟩
  | 1 => ⟨#[103, 114, 101, 121]⟩
  | 2 => ⟨#[98, 108, 97, 99, 107]⟩
  | _ => ⟨#[]⟩
end Go.Hd
namespace Go.Proofs.YtldfmlkjeniemaaDoor
open Go.RowKit Go.Hd Go.Sh
theorem of_yes (x : Int) (w : World) (x0 : 0 ≤ x) (x1 : x ≤ 18446744073709551615) (h : isH x = true) : Calls Tryd.prog 55 #[.int .u64 x] w fun e w' => e = .returned (.tuple #[.agg #[.int .i64 (x / 32), .int .i64 (x / 8 % 4)], .bool true]) ∧ Below w.heap.size w w' := by
  obtain ⟨h1, h2, _⟩ := isH_is h
  exact of_right x w x0 x1 (by rw [h2]; rfl) h1
theorem of_no (x : Int) (w : World) (x0 : 0 ≤ x) (x1 : x ≤ 18446744073709551615) (h : isH x = false) : Calls Tryd.prog 55 #[.int .u64 x] w fun e w' => e = .returned (.tuple #[.agg #[.int .i64 0, .int .i64 0], .bool false]) ∧ Below w.heap.size w w' := by
  by_cases h2 : x % 8 = 6
  · exact of_wrong x w x0 x1 (by rw [h2]; rfl) (by simpa [isH, h2] using h)
  · exact of_odd x w x0 x1 (by simpa using h2)
theorem hof_at (x a b : Int) (t : Bool) (w : World) (x0 : 0 ≤ x) (x1 : x ≤ 18446744073709551615) (h : ofv x = (a, b, t)) : Calls Tryd.prog 55 #[.int .u64 x] w fun e w' => e = .returned (.tuple #[.agg #[.int .i64 a, .int .i64 b], .bool t]) ∧ Below w.heap.size w w' := by
  by_cases hi : isH x = true
  · rw [ofv, if_pos hi] at h
    simp only [Prod.mk.injEq] at h
    obtain ⟨rfl, rfl, rfl⟩ := h
    exact of_yes x w x0 x1 hi
  · rw [ofv, if_neg hi] at h
    simp only [Prod.mk.injEq] at h
    obtain ⟨rfl, rfl, rfl⟩ := h
    exact of_no x w x0 x1 (by simpa using hi)
set_option maxHeartbeats 2000000 in
theorem hSize_no (x : Int) (v : Value) (w : World) (x0 : 0 ≤ x) (x1 : x ≤ 18446744073709551615) (h : isH x = false) : Calls Tryd.prog 57 #[.int .u64 x, v] w fun e w' => e = .returned (.tuple #[.int .i64 0, .int .i64 2]) ∧ Below w.heap.size w w' := by
  have c := fun W => of_no x W x0 x1 h
  clear h x0 x1
  go_enter Tryd.func57, Tryd.ntmps57
  go_wp2_with (go_at_call 55; refine (c _).mono ?_)
  rintro e w1 ⟨rfl, b1⟩
  go_wp2
  go_ret2
  exact ⟨rfl, b1.alloc b1.size _⟩
set_option maxHeartbeats 2000000 in
theorem hSize_is (x : Int) (v : Value) (ss : List ByteArray) (w : World) (x0 : 0 ≤ x) (x1 : x ≤ 18446744073709551615) (h : isH x = true) (ht : IsTab w v ss) :
    Calls Tryd.prog 57 #[.int .u64 x, v] w fun e w' => e = .returned (.tuple #[.int .i64 (sz ss (x / 32)).1, .int .i64 (sz ss (x / 32)).2]) ∧ Below w.heap.size w w' := by
  have c := fun W => of_yes x W x0 x1 h
  have HT := hid ht
  clear ht
  have cs := fun W hW => Size_any v ss (x / 32) W hW
  generalize (sz ss (x / 32)).1 = A at *
  generalize (sz ss (x / 32)).2 = B at *
  generalize x / 32 = s at *
  generalize x / 8 % 4 = t at *
  clear h x0 x1
  go_enter Tryd.func57, Tryd.ntmps57
  go_wp2_with (go_at_call 55; refine (c _).mono ?_)
  rintro e w1 ⟨rfl, b1⟩
  go_wp2_with (go_at_call 75; refine (cs _ (HT.out.below (Nat.le_refl _) (b1.alloc b1.size _))).mono ?_)
  rintro e w2 ⟨rfl, b2⟩
  go_wp2
  go_ret2
  exact ⟨rfl, b1.trans ((bel1 b2).mono b1.size)⟩
theorem hSize_at (x : Int) (v : Value) (ss : List ByteArray) (a b : Int) (w : World) (x0 : 0 ≤ x) (x1 : x ≤ 18446744073709551615) (ht : IsTab w v ss) (h : szH x ss = (a, b)) :
    Calls Tryd.prog 57 #[.int .u64 x, v] w fun e w' => e = .returned (.tuple #[.int .i64 a, .int .i64 b]) ∧ Below w.heap.size w w' := by
  by_cases hi : isH x = true
  · rw [szH, if_pos hi] at h
    have := hSize_is x v ss w x0 x1 hi ht
    rwa [h] at this
  · rw [szH, if_neg hi] at h
    obtain ⟨rfl, rfl⟩ := Prod.mk.inj h
    exact hSize_no x v w x0 x1 (by simpa using hi)
end Go.Proofs.YtldfmlkjeniemaaDoor
/- package head: Text; numbers below 16 in texts. -/
namespace Go.Hd
/-- A number below 16 as a text. -/
def it (k : Nat) : ByteArray := if k < 10 then ⟨#[UInt8.ofNat (48 + k)]⟩ else ⟨#[49, UInt8.ofNat (38 + k)]⟩
theorem it_size (k : Nat) : (it k).size ≤ 2 := by
  unfold it; split <;> simp [ByteArray.size]
theorem nm_size (k : Nat) : (nm k).size ≤ 5 := by
  unfold nm; split <;> decide
theorem lt16 {k : Nat} (h : k < 16) : k = 0 ∨ k = 1 ∨ k = 2 ∨ k = 3 ∨ k = 4 ∨ k = 5 ∨ k = 6 ∨ k = 7 ∨ k = 8 ∨ k = 9 ∨ k = 10 ∨ k = 11 ∨ k = 12 ∨ k = 13 ∨ k = 14 ∨ k = 15 := by omega
/-- A header's text. -/
def hx (s m : Nat) : ByteArray := it s ++ ⟨#[32]⟩ ++ nm m
/-- What Text answers. -/
def txv (x : Int) : ByteArray × Int := if isH x then (hx (x / 32).toNat (x / 8 % 4).toNat, 0) else (⟨#[]⟩, 2)
theorem isH_nat {x : Int} (h : isH x = true) : ∃ s m : Nat, s < 16 ∧ m < 3 ∧ x / 32 = s ∧ x / 8 % 4 = m := by
  obtain ⟨h1, _, _⟩ := isH_is h
  obtain ⟨a, b, c, d⟩ := ok_yes h1
  exact ⟨(x / 32).toNat, (x / 8 % 4).toNat, by omega, by omega, by omega, by omega⟩
end Go.Hd
namespace Go.Proofs.YtldfmlkjeniemaaDoor
open Go.RowKit Go.Hd Go.Sh Go.Sort
end Go.Proofs.YtldfmlkjeniemaaDoor
/- The document's functions (lapidaryref04): Make, Word, Of, Marked, Size, Name. -/
namespace Go.Proofs.YtldfmlkjeniemaaDoor
open Go.RowKit Go.Hd Go.Sh
theorem rword_at (s m : Int) (w : World) (s0 : 0 ≤ s) (s1 : s ≤ 15) (m0 : 0 ≤ m) (m1 : m ≤ 2) : Calls Tryd.prog 39 #[.int .i64 s, .int .i64 m] w fun e w' => e = .returned (.int .u64 (wd s m)) ∧ w' = w := by
  have H : Hid (8 * (4 * s + m) + 6 = wd s m) := hid rfl
  go_enter Tryd.func39, Tryd.ntmps39
  go_wp2
  go_ret
  exact ⟨ret_int H.out, rfl⟩
set_option maxHeartbeats 1000000 in
theorem rof_no_a (x : Int) (w : World) (x0 : 0 ≤ x) (x1 : x ≤ 18446744073709551615) (h : (x % 8 != 6) = true) : Calls Tryd.prog 68 #[.int .u64 x] w fun e w' => e = .returned (.tuple #[.agg #[.int .i64 0, .int .i64 0], .bool false]) ∧ Below w.heap.size w w' := by
  have n0 : 0 ≤ x / 8 := by omega
  have n1 : x / 8 ≤ 18446744073709551615 := by omega
  go_enter Tryd.func68, Tryd.ntmps68
  go_wp2
  exact bodyPost_ret (v := .tuple #[.agg #[.int .i64 0, .int .i64 0], .bool false]) (by simp [results, Tryd.results68, go_sem]) rfl ⟨rfl, below_alloc0 w _⟩
set_option maxHeartbeats 1000000 in
theorem rof_no_b (x : Int) (w : World) (x0 : 0 ≤ x) (x1 : x ≤ 18446744073709551615) (h : (x % 8 != 6) = false) (h2 : 64 ≤ x / 8) : Calls Tryd.prog 68 #[.int .u64 x] w fun e w' => e = .returned (.tuple #[.agg #[.int .i64 0, .int .i64 0], .bool false]) ∧ Below w.heap.size w w' := by
  have n0 : 0 ≤ x / 8 := by omega
  have n1 : x / 8 ≤ 18446744073709551615 := by omega
  go_enter Tryd.func68, Tryd.ntmps68
  go_wp2
  exact bodyPost_ret (v := .tuple #[.agg #[.int .i64 0, .int .i64 0], .bool false]) (by simp [results, Tryd.results68, go_sem]) rfl ⟨rfl, below_alloc0 w _⟩
set_option maxHeartbeats 1000000 in
theorem rof_no_c (x : Int) (w : World) (x0 : 0 ≤ x) (x1 : x ≤ 18446744073709551615) (h : (x % 8 != 6) = false) (h2 : x / 8 < 64) (h3 : (x / 8 % 4 == 3) = true) : Calls Tryd.prog 68 #[.int .u64 x] w fun e w' => e = .returned (.tuple #[.agg #[.int .i64 0, .int .i64 0], .bool false]) ∧ Below w.heap.size w w' := by
  have n0 : 0 ≤ x / 8 := by omega
  have n1 : x / 8 ≤ 18446744073709551615 := by omega
  go_enter Tryd.func68, Tryd.ntmps68
  go_wp2
  exact bodyPost_ret (v := .tuple #[.agg #[.int .i64 0, .int .i64 0], .bool false]) (by simp [results, Tryd.results68, go_sem]) rfl ⟨rfl, below_alloc0 w _⟩
set_option maxHeartbeats 1000000 in
theorem rof_in (x : Int) (w : World) (x0 : 0 ≤ x) (x1 : x ≤ 18446744073709551615) (h : (x % 8 != 6) = false) (h2 : x / 8 < 64) (h3 : (x / 8 % 4 == 3) = false) : Calls Tryd.prog 68 #[.int .u64 x] w fun e w' => e = .returned (.tuple #[.agg #[.int .i64 (x / 32), .int .i64 (x / 8 % 4)], .bool true]) ∧ Below w.heap.size w w' := by
  have e1 : x / 8 / 4 = x / 32 := by omega
  have n0 : 0 ≤ x / 8 := by omega
  have n9 : x / 8 ≤ 18446744073709551615 := by omega
  have n1 : 0 ≤ x / 8 % 4 := by omega
  have n2 : x / 8 % 4 ≤ 3 := by omega
  have k0 : 0 ≤ x / 8 / 4 := by omega
  have k1 : x / 8 / 4 ≤ 15 := by omega
  rw [← e1]
  clear e1
  go_enter Tryd.func68, Tryd.ntmps68
  go_wp2
  exact bodyPost_ret (v := .tuple #[.agg #[.int .i64 (x / 8 / 4), .int .i64 (x / 8 % 4)], .bool true]) (by simp [results, Tryd.results68, go_sem]) rfl ⟨rfl, below_alloc0 w _⟩
theorem rof_yes (x : Int) (w : World) (x0 : 0 ≤ x) (x1 : x ≤ 18446744073709551615) (h : isH x = true) : Calls Tryd.prog 68 #[.int .u64 x] w fun e w' => e = .returned (.tuple #[.agg #[.int .i64 (x / 32), .int .i64 (x / 8 % 4)], .bool true]) ∧ Below w.heap.size w w' := by
  obtain ⟨h1, h2, _⟩ := isH_is h
  obtain ⟨a, b, c, d⟩ := ok_yes h1
  exact rof_in x w x0 x1 (by rw [h2]; rfl) (by omega) (by rw [beq_eq_false_iff_ne]; omega)
theorem rof_no (x : Int) (w : World) (x0 : 0 ≤ x) (x1 : x ≤ 18446744073709551615) (h : isH x = false) : Calls Tryd.prog 68 #[.int .u64 x] w fun e w' => e = .returned (.tuple #[.agg #[.int .i64 0, .int .i64 0], .bool false]) ∧ Below w.heap.size w w' := by
  by_cases h2 : x % 8 = 6
  · by_cases h3 : 64 ≤ x / 8
    · exact rof_no_b x w x0 x1 (by rw [h2]; rfl) h3
    · refine rof_no_c x w x0 x1 (by rw [h2]; rfl) (by omega) ?_
      have : ¬ (x / 8 % 4 ≤ 2) := by
        intro hm
        have : isH x = true := by simp [isH, ok, mk, h2]; omega
        rw [h] at this; cases this
      simp; omega
  · exact rof_no_a x w x0 x1 (by simpa using h2)
theorem hrof_at (x a b : Int) (t : Bool) (w : World) (x0 : 0 ≤ x) (x1 : x ≤ 18446744073709551615) (h : ofv x = (a, b, t)) : Calls Tryd.prog 68 #[.int .u64 x] w fun e w' => e = .returned (.tuple #[.agg #[.int .i64 a, .int .i64 b], .bool t]) ∧ Below w.heap.size w w' := by
  by_cases hi : isH x = true
  · rw [ofv, if_pos hi] at h
    simp only [Prod.mk.injEq] at h
    obtain ⟨rfl, rfl, rfl⟩ := h
    exact rof_yes x w x0 x1 hi
  · rw [ofv, if_neg hi] at h
    simp only [Prod.mk.injEq] at h
    obtain ⟨rfl, rfl, rfl⟩ := h
    exact rof_no x w x0 x1 (by simpa using hi)
end Go.Proofs.YtldfmlkjeniemaaDoor
