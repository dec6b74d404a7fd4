/- package op: Read, where a text has as many words as its kind names. -/
import Derived.Test.YtlkhmfmocegekaaDoorOpNumOn
import Derived.Test.YtlkhmfmocegekaaDoorOpCheckOn
namespace Go.Proofs.YtlkhmfmocegekaaDoor
open Go.RowKit Go.Oq Go.Sh Go.Shelf
/-- What stands while numbers are read: the answer's box, the operation's, the kind's, the words, both lists. -/
structure RdL (w : World) (kr : Array Value) (g n6 : Nat) (ws : List ByteArray) (a1 a2 : Option Addr) (js ks : List Nat) (h : Nat → Int) (W : World) : Prop where
  bel : Below w.heap.size w W
  out : W.heap[w.heap.size]? = some (.cells (row zro) 28)
  op : W.heap[w.heap.size + 1]? = some (.cells (row h) 151)
  knd : W.heap[w.heap.size + 1 + 1]? = some (.cells kr 128)
  ws : ∀ i, i < n6 → W.cell? ⟨g, i, none⟩ = some (.string (at' ws i))
  l1 : ∀ i, i < js.length → ∃ c, a1 = some ⟨c, 0, none⟩ ∧ W.cell? ⟨c, i, none⟩ = some (gV (js.getD i 0))
  l2 : ∀ i, i < ks.length → ∃ c, a2 = some ⟨c, 0, none⟩ ∧ W.cell? ⟨c, i, none⟩ = some (gV (ks.getD i 0))
theorem op_func_ne {W : World} {b c i j : Nat} {h : Nat → Int} {t : TypeId} (hr : W.heap[b]? = some (.cells (row h) t)) (hc : W.cell? ⟨c, i, none⟩ = some (gV j)) : c ≠ b := by
  rintro rfl
  have h8 : i < 8 ∨ 8 ≤ i := by omega
  rcases h8 with h8 | h8
  · rw [at_row hr i (row_get h h8)] at hc
    simp [gV] at hc
  · rw [cell_of_row _ _ i _ _ _ hr] at hc
    have : (row h)[i]? = none := by simp; omega
    rw [this] at hc
    cases hc
theorem Wrote.cell {w w' : World} {g j : Nat} {v : Int} (h : Wrote w g j v w') {b o : Nat} {x : Value} (hc : w.cell? ⟨b, o, none⟩ = some x) (hne : b ≠ g) : w'.cell? ⟨b, o, none⟩ = some x := by
  have := h.other (block_lt_of_cell hc) hne
  simp only [World.cell?] at hc ⊢
  rw [this]
  exact hc
theorem Wrote.row {w w' : World} {g j : Nat} {v : Int} (h : Wrote w g j v w') {f : Nat → Int} {t : TypeId} (hr : w.heap[g]? = some (.cells (row f) t)) (hj : j < 8) : w'.heap[g]? = some (.cells (row (upd f j v)) t) := by
  obtain ⟨w1, b1, b2⟩ := h
  have hlt := (Array.getElem?_eq_some_iff.1 hr).1
  rw [b2.block g hlt]
  exact row_set ((b1.block g hlt).trans hr) hj v
theorem RdL.wrote {w W W' : World} {kr : Array Value} {g n6 : Nat} {ws : List ByteArray} {a1 a2 : Option Addr} {js ks : List Nat} {h : Nat → Int} {j : Nat} {v : Int} (a : RdL w kr g n6 ws a1 a2 js ks h W) (hg : w.heap.size + 1 + 1 < g) (hj : j < 8) (k : Wrote W (w.heap.size + 1) j v W') :
    RdL w kr g n6 ws a1 a2 js ks (upd h j v) W' :=
  ⟨k.below a.bel a.bel.size (by omega), (k.other (Array.getElem?_eq_some_iff.1 a.out).1 (by omega)).trans a.out, k.row a.op hj, (k.other (Array.getElem?_eq_some_iff.1 a.knd).1 (by omega)).trans a.knd,
    fun i hi => k.cell (a.ws i hi) (by omega), fun i hi => by
      obtain ⟨c, e, hc⟩ := a.l1 i hi
      exact ⟨c, e, k.cell hc (op_func_ne a.op hc)⟩, fun i hi => by
      obtain ⟨c, e, hc⟩ := a.l2 i hi
      exact ⟨c, e, k.cell hc (op_func_ne a.op hc)⟩⟩
theorem RdL.drew {w W : World} {kr : Array Value} {g n6 : Nat} {ws : List ByteArray} {a1 a2 : Option Addr} {js ks : List Nat} {h : Nat → Int} (a : RdL w kr g n6 ws a1 a2 js ks h W) : RdL w kr g n6 ws a1 a2 js ks h W.drew :=
  ⟨a.bel.drew, a.out, a.op, a.knd, a.ws, a.l1, a.l2⟩
abbrev Sq (b o : Nat) (v : Value) (W : World) : Prop := W.cell? ⟨b, o, none⟩ = some v ∧ True
theorem ojump_ret {l : Nat} {J : Act → World → Prop} {Q : Exit → Act → World → Prop} {a : Act} {w : World} : Exit.jump l J Q .ret a w = Q .ret a w := rfl
theorem sq_drew {b o : Nat} {v : Value} {W : World} (h : Sq b o v W) : Sq b o v W.drew := h
theorem sq_wrote {b o g j : Nat} {v : Value} {z : Int} {W W' : World} (h : Sq b o v W) (k : Wrote W g j z W') (hne : b ≠ g) : Sq b o v W' := ⟨k.cell h.1 hne, trivial⟩
theorem prs_cons {j : Nat} {js : List Nat} {ws : List ByteArray} {h : Nat → Int} : prs (j :: js) ws h = match whl (at' ws 0).data.toList with | some v => prs js ws.tail (upd h j v) | none => none := rfl
theorem drop_at (ws : List ByteArray) (k : Nat) : at' (ws.drop k) 0 = at' ws k := by
  rw [at', at', List.getD_eq_getElem?_getD, List.getD_eq_getElem?_getD, List.getElem?_drop]; rfl
theorem drop_cons {js : List Nat} {k : Nat} (h : k < js.length) : js.drop k = js.getD k 0 :: js.drop (k + 1) := by
  rw [List.drop_eq_getElem_cons h, List.getD_eq_getElem?_getD, List.getElem?_eq_getElem h]; rfl
theorem prs_at {js : List Nat} {k : Nat} (hk : k < js.length) (ws : List ByteArray) (h : Nat → Int) : prs (js.drop k) (ws.drop (k + 1)) h = match whl (at' ws (k + 1)).data.toList with | some v => prs (js.drop (k + 1)) (ws.drop (k + 1 + 1)) (upd h (js.getD k 0) v) | none => none := by
  rw [drop_cons hk, prs_cons, drop_at, List.tail_drop]
theorem alln_n {K k : Nat} (h : k < (nums K).length) : k < (alln K).length ∧ (alln K).getD k 0 = (nums K).getD k 0 := by
  rw [alln, List.length_append]
  refine ⟨by omega, ?_⟩
  rw [List.getD_eq_getElem?_getD, List.getD_eq_getElem?_getD, List.getElem?_append_left h]
theorem alln_s {K k : Nat} (h : k < (scas K).length) : (nums K).length + k < (alln K).length ∧ (alln K).getD ((nums K).length + k) 0 = (scas K).getD k 0 := by
  rw [alln, List.length_append]
  refine ⟨by omega, ?_⟩
  rw [List.getD_eq_getElem?_getD, List.getD_eq_getElem?_getD, List.getElem?_append_right (by omega), Nat.add_sub_cancel_left]
theorem prs_step1 {K k n1 : Nat} {h : Nat → Int} {ws : List ByteArray} (_ : n1 = (nums K).length) (_ : n1 = (nums K).length) (_ : ws.length = 1 + (alln K).length) (hk : k < (nums K).length) :
    prs ((alln K).drop k) (ws.drop (k + 1)) h = match whl (at' ws (1 + k)).data.toList with | some v => prs ((alln K).drop (k + 1)) (ws.drop (k + 1 + 1)) (upd h ((nums K).getD k 0) v) | none => none := by
  rw [prs_at (alln_n hk).1, (alln_n hk).2, Nat.add_comm k 1]
theorem prs_step2 {K k n1 n2 : Nat} {h : Nat → Int} {ws : List ByteArray} (_ : n2 = (scas K).length) (h1 : n1 = (nums K).length) (_ : ws.length = 1 + (alln K).length) (hk : k < (scas K).length) :
    prs ((alln K).drop (n1 + k)) (ws.drop (n1 + k + 1)) h = match whl (at' ws (1 + n1 + k)).data.toList with | some v => prs ((alln K).drop (n1 + (k + 1))) (ws.drop (n1 + (k + 1) + 1)) (upd h ((scas K).getD k 0) v) | none => none := by
  subst h1
  rw [prs_at (alln_s hk).1, (alln_s hk).2, show 1 + (nums K).length + k = (nums K).length + k + 1 by omega]
  rfl
end Go.Proofs.YtlkhmfmocegekaaDoor
/- laws of layer 8, plain: the chapter's rows. -/
namespace Go.Oq
open Go.Lib Go.Proofs.YtlkhmfmocegekaaDoor Go.Sh
def fC : Nat → Int | 0 => 4 | 2 => 2 | 3 => 3 | 4 => 1 | _ => 0
def fP : Nat → Int | 0 => 6 | 4 => 1 | 6 => -5 | _ => 0
def fA (a s : Int) : Nat → Int | 0 => 1 | 1 => a | 5 => s | _ => 0
theorem itoa_d {n : Nat} (h : n < 10) : itoa (n : Int) = [UInt8.ofNat (48 + n)] := by rw [itoa_nn, decDigits_small n h]
theorem itoa_m5 : itoa (-5) = [45, 53] := by
  have := decDigits_small 5 (by omega)
  unfold itoa
  rw [if_pos (by omega)]
  show 45 :: decDigits 5 = _
  rw [this]; rfl
theorem txt_C : txt fC = ⟨#[99, 97, 115, 32, 48, 32, 49, 32, 50, 32, 51]⟩ := by
  have h : (wds fC).map (·.data.toList) = [[99, 97, 115], [48], [49], [50], [51]] := by
    show [(nam 4).data.toList, itoa ((0 : Nat) : Int), itoa ((1 : Nat) : Int), itoa ((2 : Nat) : Int), itoa ((3 : Nat) : Int)] = _
    rw [itoa_d (by omega), itoa_d (by omega), itoa_d (by omega), itoa_d (by omega)]
    rfl
  rw [txt, h]; rfl
theorem txt_P : txt fP = ⟨#[112, 117, 116, 105, 32, 48, 32, 49, 32, 45, 53]⟩ := by
  have h : (wds fP).map (·.data.toList) = [[112, 117, 116, 105], [48], [49], [45, 53]] := by
    show [(nam 6).data.toList, itoa ((0 : Nat) : Int), itoa ((1 : Nat) : Int), itoa (-5)] = _
    rw [itoa_d (by omega), itoa_d (by omega), itoa_m5]
    rfl
  rw [txt, h]; rfl
theorem bare_C : bare fC = true := by decide +kernel
theorem bare_P : bare fP = true := by decide +kernel
theorem rng_C : rng fC := by
  intro i hi
  have : i = 0 ∨ i = 1 ∨ i = 2 ∨ i = 3 ∨ i = 4 ∨ i = 5 ∨ i = 6 ∨ i = 7 := by omega
  rcases this with rfl | rfl | rfl | rfl | rfl | rfl | rfl | rfl <;> decide
theorem rng_P : rng fP := by
  intro i hi
  have : i = 0 ∨ i = 1 ∨ i = 2 ∨ i = 3 ∨ i = 4 ∨ i = 5 ∨ i = 6 ∨ i = 7 := by omega
  rcases this with rfl | rfl | rfl | rfl | rfl | rfl | rfl | rfl <;> decide
theorem rd_bad : rdS ⟨#[112, 117, 116, 105, 32, 48, 32, 49, 32, 48, 53]⟩ = none := by
  have hs : spB ⟨#[112, 117, 116, 105, 32, 48, 32, 49, 32, 48, 53]⟩ = [⟨#[112, 117, 116, 105]⟩, ⟨#[48]⟩, ⟨#[49]⟩, ⟨#[48, 53]⟩] := by rfl
  have hk : knd ⟨#[112, 117, 116, 105]⟩ = 6 := by decide +kernel
  have w0 : whl [48] = some 0 := whl_of ⟨itoa_d (n := 0) (by omega), by omega, by omega⟩
  have w1 : whl [49] = some 1 := whl_of ⟨itoa_d (n := 1) (by omega), by omega, by omega⟩
  have w5 : whl [48, 53] = none := whl_not (by decide) (by decide)
  have hk' : knd (at' [⟨#[112, 117, 116, 105]⟩, ⟨#[48]⟩, ⟨#[49]⟩, ⟨#[48, 53]⟩] 0) = 6 := hk
  rw [rdS, hs, rdW, hk', if_neg (by decide), if_neg (by decide)]
  show (match whl [48] with | some v => prs [4, 6] [⟨#[49]⟩, ⟨#[48, 53]⟩] (upd (bar 6) 1 v) | none => none) = none
  rw [w0]
  show (match whl [49] with | some v => prs [6] [⟨#[48, 53]⟩] (upd (upd (bar 6) 1 0) 4 v) | none => none) = none
  rw [w1]
  show (match whl [48, 53] with | some v => prs [] [] (upd (upd (upd (bar 6) 1 0) 4 1) 6 v) | none => none) = none
  rw [w5]
theorem chk_1 : chk [⟨#[112]⟩] (fA 6 0) = 181 := by decide +kernel
theorem chk_2 : chk [⟨#[112]⟩] (fA 5 1) = 130 := by decide +kernel
end Go.Oq
namespace Go.Proofs.YtlkhmfmocegekaaDoor
open Go.RowKit Go.Oq Go.Sh
theorem row_same {f g : Nat → Int} (h : ∀ i, i < 8 → g i = f i) : row g = row f := by
  rw [row, row, h 0 (by omega), h 1 (by omega), h 2 (by omega), h 3 (by omega), h 4 (by omega), h 5 (by omega), h 6 (by omega), h 7 (by omega)]
theorem tab_one (w : World) (x : ByteArray) (t : TypeId) : IsTab (w.alloc (.cells #[.string x] t)) (.slice (some ⟨w.heap.size, 0, none⟩) 1 1) [x] :=
  .inr ⟨w.heap.size, 0, 1, rfl, fun i hi => by
    obtain rfl : i = 0 := by simpa using hi
    exact cell_last w _ t 0 _ rfl⟩
end Go.Proofs.YtlkhmfmocegekaaDoor
