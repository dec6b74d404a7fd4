/- package layout: Text. Typed by tools/gen06text.py. -/
import Derived.Test.YtjfegimgpkeleaaDoorLyJoin
import Derived.Test.YtjfegimgpkeleaaDoorWdRText
import Derived.Laws.OwnMore
set_option linter.unusedVariables false
namespace Go.Ly
open Go.Sh
/-- The kinds' names. -/
def pnam : Nat → ByteArray
  | 1 => ⟨#[114, 101, 113, 117, 101, 115, 116]⟩
  | 2 => ⟨#[102, 114, 111, 110, 116, 105, 101, 114]⟩
  | 3 => ⟨#[116, 114, 105, 103, 103, 101, 114]⟩
  | 4 => ⟨#[97, 99, 107]⟩
  | 5 => ⟨#[108, 105, 115, 116]⟩
  | 6 => ⟨#[115, 112, 97, 99, 101]⟩
  | _ => ⟨#[]⟩
/-- A number as a text. -/
def dg (x : Int) : ByteArray := ⟨(Lib.itoa x).toArray⟩
/-- The texts that make a part's text. -/
def tws (nm : ByteArray) (x y : Int) : List ByteArray := [nm, dg x, dg y]
/-- A part's text. -/
def ptx (k x y : Int) : ByteArray := ⟨(jn (tws (pnam k.toNat) x y) (pnm k.toNat)).toArray⟩
end Go.Ly
namespace Go.Proofs.YtjfegimgpkeleaaDoor
open Go.RowKit Go.Ly Go.Sh
/-- The table of the kinds' names stands as it was laid. -/
def LNames (w : World) : Prop := ∀ i, i < 7 → w.cell? ⟨0, i, none⟩ = some (.string (pnam i))
theorem LNames.below {w w' : World} (h : LNames w) (hb : Below w.heap.size w w') : LNames w' :=
  fun i hi => (hb.cell (p := ⟨0, i, none⟩) (block_lt_of_cell (h i hi))).trans (h i hi)
theorem litoa_at (v : Int) (S : ByteArray) (w : World) (h0 : 0 ≤ v) (h1 : v ≤ 100000) (hT : Tab w) (hS : Hid (dg v = S)) : Calls Tryd.prog 39 #[.int .i64 v] w fun e w' => e = .returned (.string S) ∧ Below w.heap.size w w' := by
  refine (Tryd.strconv_Itoa v (by omega) (by omega) w hT).mono ?_
  rintro e w' ⟨rfl, k, os, rfl⟩
  exact ⟨ret_str hS.out, Lib.below_grow _ _ (Nat.le_refl _) _ _⟩
theorem dg_size (x : Int) (h0 : 0 ≤ x) (h1 : x ≤ 100000) : (dg x).size ≤ 20 := by
  have := decDigits_len20 x.toNat (by omega)
  unfold dg Lib.itoa
  rw [if_neg (by omega)]
  exact this
theorem pnam_size (k : Nat) : (pnam k).size ≤ 8 := by
  unfold pnam; split <;> decide
theorem tws_size {k : Nat} {x y : Int} (x0 : 0 ≤ x) (x1 : x ≤ 100000) (y0 : 0 ≤ y) (y1 : y ≤ 100000) : ∀ i, (at' (tws (pnam k) x y) i).size ≤ 1000 := by
  intro i
  have a := pnam_size k
  have b := dg_size x x0 x1
  have c := dg_size y y0 y1
  match i with
  | 0 => show (pnam k).size ≤ 1000; omega
  | 1 => show (dg x).size ≤ 1000; omega
  | 2 => show (dg y).size ≤ 1000; omega
  | n + 3 => show (ByteArray.empty).size ≤ 1000; decide
theorem str_info : (Tryd.prog.info? 9).map (fun i => (i.zero, i.size, i.bytes)) = some (some (.string ⟨#[]⟩), 1, 16) := by kernel_rfl
theorem cell_new1 (w : World) (v : Value) (t : TypeId) : ∀ j u, [v][j]? = some u → (w.alloc (.cells #[v] t)).cell? ((⟨w.heap.size, 0, none⟩ : Addr).add j) = some u := by
  intro j u hu
  obtain ⟨rfl, rfl⟩ : j = 0 ∧ v = u := by
    cases j with
    | zero => simpa using hu
    | succ n => simp at hu
  exact cell_last w _ _ 0 _ rfl
/-- The texts up to one, as values. -/
def strs (xs : List ByteArray) (k : Nat) : List Value := (List.range k).map fun i => .string (at' xs i)
theorem strs_succ (xs : List ByteArray) (k : Nat) : strs xs (k + 1) = strs xs k ++ [.string (at' xs k)] := by simp [strs, List.range_succ]
theorem strs_get (xs : List ByteArray) (k i : Nat) (h : i < k) : (strs xs k)[i]? = some (.string (at' xs i)) := by simp [strs, h]
theorem own_split {w : World} {B : Nat} {v : Value} {k : Nat} {vs : List Value} (h : w.ownsRow B 9 1 v (k + 1) vs) : ∃ g cap, v = .slice (some ⟨g, 0, none⟩) (k + 1) cap ∧ k + 1 ≤ cap ∧ B ≤ g ∧ ∃ cur, w.heap[g]? = some (.cells cur 9) := by
  rcases h.2 with ⟨_, h0⟩ | ⟨g, cap, cur, e, hB, hg, hc, _⟩
  · omega
  · exact ⟨g, cap, e, hc, hB, cur, hg⟩
theorem int_ne_string : ¬ ((3 : Nat) = 9) := by decide
theorem numbers_G (k m : Nat) (n a : Int) (w : World) (hk : k < 7) (hm : pnm k = m) (h : LNums w) (m2 : m ≤ 2) :
    Calls Tryd.prog 38 #[partV (k : Int) n a] w fun e w' => ∃ G R, e = .returned (.tuple #[.slice (some ⟨G, 0, none⟩) m 2, .slice (some ⟨G, R, none⟩) (2 - m) (2 - m)]) ∧ Hid (w'.heap[G]? = some (.cells #[.int .i64 n, .int .i64 a] 3)) ∧ Hid (Below w.heap.size w w') := by
  by_cases h2 : m < 2
  · exact (numbers_lt k m n a w hk hm h h2).mono fun e w' k' => ⟨_, _, k'.1, k'.2.1, k'.2.2⟩
  · exact (numbers_two k m n a w hk hm h (by omega)).mono fun e w' k' => ⟨_, _, k'.1, k'.2.1, k'.2.2⟩
theorem int_row_ne {w : World} {G g : Nat} {cs cur : Array Value} (h1 : w.heap[G]? = some (.cells cs 3)) (h2 : w.heap[g]? = some (.cells cur 9)) : G ≠ g := by
  rintro rfl
  rw [h1] at h2
  simp at h2
set_option maxRecDepth 100000 in
set_option maxHeartbeats 4000000 in
theorem Text_err (t s at_ : Int) (k x y e' : Int) (a : Option Addr) (n c : Nat) (ss : List ByteArray) (w : World) (hT : IsTab w (.slice a n c) ss) (h : Hid (ptv t s ss at_ = (k, x, y, e'))) (he : (e' != 0) = true) :
    Calls Tryd.prog 24 #[planV t s a n c, .int .i64 at_] w fun e w' => e = .returned (.tuple #[.string ⟨#[]⟩, .int .i64 e']) ∧ Below w.heap.size w w' := by
  have cp := Part_at t s at_ k x y e' a n c ss _ (hT.below (Nat.le_refl _) (below_alloc0 w (.cells #[.int .i64 t, .int .i64 s, .slice a n c] 24))) h
  clear h hT
  go_enter Tryd.func24, Tryd.ntmps24
  go_wp2_with (go_at_call 23; refine cp.mono ?_; rintro e w1 ⟨rfl, b1⟩)
  go_ret2
  exact ⟨rfl, (bel1 b1).alloc (by have := b1.size; simp at this; omega) _⟩
set_option maxRecDepth 100000 in
set_option maxHeartbeats 8000000 in
theorem Text_0 (t s at_ : Int) (K : Nat) (x y : Int) (a : Option Addr) (n c : Nat) (ss : List ByteArray) (w : World) (hT : IsTab w (.slice a n c) ss) (hL : LNums w) (hN : LNames w) (hP : Tab w) (h : Hid (ptv t s ss at_ = ((K : Int), x, y, 0))) (hK : K < 7) (hm : pnm K = 0) (x0 : 0 ≤ x) (x1 : x ≤ 100000) (y0 : 0 ≤ y) (y1 : y ≤ 100000) :
    Calls Tryd.prog 24 #[planV t s a n c, .int .i64 at_] w fun e w' => e = .returned (.tuple #[.string ⟨(jn (tws (pnam K) x y) 0).toArray⟩, .int .i64 0]) ∧ Below w.heap.size w w' := by
  obtain ⟨i0, hi, hz0, hz1, hz2⟩ := info_parts str_info
  have cp := Part_at t s at_ K x y 0 a n c ss _ (hT.below (Nat.le_refl _) (below_alloc0 w (.cells #[.int .i64 t, .int .i64 s, .slice a n c] 24))) h
  clear h hT
  have K7 : (K : Int) < 7 := by omega
  have HL := hid hL
  have HN := hid hN
  have HP := hid hP
  clear hL hN hP
  go_enter Tryd.func24, Tryd.ntmps24
  go_wp2_with (go_at_call 23; refine cp.mono ?_)
  rintro e w1 ⟨rfl, b1⟩
  have B1 := hid (bel1 b1)
  clear b1 cp
  have hnm : ∀ O, (w1.alloc O).cell? ⟨0, K, none⟩ = some (.string (pnam K)) := fun O => cell_al O ((HN.out.below B1.out) K hK)
  have HX : Hid (at' (tws (pnam K) x y) 0 = pnam K) := hid rfl
  have HX1 : Hid (at' (tws (pnam K) x y) 1 = dg x) := hid rfl
  have HX2 : Hid (at' (tws (pnam K) x y) 2 = dg y) := hid rfl
  have hnsz := pnam_size K
  have OW : Hid (((w1.alloc (.cells #[.int .i64 (K : Int), .int .i64 x, .int .i64 y] 45)).alloc (.cells #[.string (pnam K)] 9)).ownsRow w.heap.size 9 1 (.slice (some ⟨w1.heap.size + 1, 0, none⟩) 1 1) 1 (strs (tws (pnam K) x y) 1)) := by
    have := World.ownsRow_lit (base := w.heap.size) (size := 1) (e := 9) (w1.alloc (.cells #[.int .i64 (K : Int), .int .i64 x, .int .i64 y] 45)) #[.string (pnam K)] 1 (by have := B1.out.size; simp; omega) (by unfold maxLen; omega) rfl
    rw [size_alloc] at this
    exact this
  have BB := hid (below2' w1 (.cells #[.int .i64 (K : Int), .int .i64 x, .int .i64 y] 45) (.cells #[.string (pnam K)] 9))
  go_wp2_with (go_at_call 38; refine (numbers_G K 0 x y _ hK hm (HL.out.below (B1.out.trans (BB.out.mono B1.out.size))) (by omega)).mono ?_)
  rintro e w2 ⟨G, R, rfl, HG, b2⟩
  have OW2 := hid (OW.out.kept (grown_of_below b2.out) (.inr (by simp [Value.ownBlock])))
  have B2 := hid ((B1.out.trans (BB.out.mono B1.out.size)).trans (b2.out.mono (B1.out.trans (BB.out.mono B1.out.size)).size))
  clear OW BB b2 B1 hnm HX
  generalize hxs : tws (pnam K) x y = xs at *
  have HXS := hid hxs
  clear hxs
  go_wp2_with fail
  go_loopw [8, 34] (fun v i wr => ∃ j : Nat, j ≤ 0 ∧ i = .int .i64 (j : Int) ∧ ∃ g cap, v = .slice (some ⟨g, 0, none⟩) (j + 1) cap ∧ Hid (wr.ownsRow w.heap.size 9 1 (.slice (some ⟨g, 0, none⟩) (j + 1) cap) (j + 1) (strs xs (j + 1))) ∧ Hid (Below w.heap.size w wr) ∧ Hid (wr.heap[G]? = some (.cells #[.int .i64 x, .int .i64 y] 3))) (fun _ i _ => 0 - (intOf i).toNat)
  case atStart => exact ⟨0, by omega, rfl, _, _, rfl, OW2, B2, HG⟩
  case round =>
    obtain ⟨j, hj, rfl, g, cap, rfl, OWR, BR, HGR⟩ := hrel
    by_cases hlt : j < 0
    · exact absurd hlt (by omega)
    · obtain rfl : j = 0 := by omega
      clear hlt
      have HC : ∀ i, i < 0 + 1 → wr.cell? ⟨g, 0 + i, none⟩ = some (.string (at' xs i)) := fun i hi => by
        rw [Nat.zero_add]
        exact (OWR.out.cellAt i (by omega)).trans (strs_get xs _ i hi)
      have c0 : wr.cell? ⟨g, 0, none⟩ = some (.string (at' xs 0)) := HC 0 (by omega)
      obtain ⟨_, _, e3, hcap, _, _, _⟩ := own_split OWR.out
      have hcap : 0 + 1 ≤ cap := by
        simp only [Value.slice.injEq] at e3; omega
      have hsz := tws_size (k := K) x0 x1 y0 y1
      rw [HXS.out] at hsz
      have cj := join_1 g 0 cap (at' xs 0) ⟨#[32]⟩ wr c0
      clear HC c0 e3
      go_wp2_with (go_at_call 40; refine cj.mono ?_; rintro e w5 ⟨rfl, b5⟩)
      go_ret2
      exact ⟨by rw [HXS.out]; rfl, b5 ▸ BR.out⟩
set_option maxRecDepth 100000 in
set_option maxHeartbeats 8000000 in
theorem Text_1 (t s at_ : Int) (K : Nat) (x y : Int) (a : Option Addr) (n c : Nat) (ss : List ByteArray) (w : World) (hT : IsTab w (.slice a n c) ss) (hL : LNums w) (hN : LNames w) (hP : Tab w) (h : Hid (ptv t s ss at_ = ((K : Int), x, y, 0))) (hK : K < 7) (hm : pnm K = 1) (x0 : 0 ≤ x) (x1 : x ≤ 100000) (y0 : 0 ≤ y) (y1 : y ≤ 100000) :
    Calls Tryd.prog 24 #[planV t s a n c, .int .i64 at_] w fun e w' => e = .returned (.tuple #[.string ⟨(jn (tws (pnam K) x y) 1).toArray⟩, .int .i64 0]) ∧ Below w.heap.size w w' := by
  obtain ⟨i0, hi, hz0, hz1, hz2⟩ := info_parts str_info
  have cp := Part_at t s at_ K x y 0 a n c ss _ (hT.below (Nat.le_refl _) (below_alloc0 w (.cells #[.int .i64 t, .int .i64 s, .slice a n c] 24))) h
  clear h hT
  have K7 : (K : Int) < 7 := by omega
  have HL := hid hL
  have HN := hid hN
  have HP := hid hP
  clear hL hN hP
  go_enter Tryd.func24, Tryd.ntmps24
  go_wp2_with (go_at_call 23; refine cp.mono ?_)
  rintro e w1 ⟨rfl, b1⟩
  have B1 := hid (bel1 b1)
  clear b1 cp
  have hnm : ∀ O, (w1.alloc O).cell? ⟨0, K, none⟩ = some (.string (pnam K)) := fun O => cell_al O ((HN.out.below B1.out) K hK)
  have HX : Hid (at' (tws (pnam K) x y) 0 = pnam K) := hid rfl
  have HX1 : Hid (at' (tws (pnam K) x y) 1 = dg x) := hid rfl
  have HX2 : Hid (at' (tws (pnam K) x y) 2 = dg y) := hid rfl
  have hnsz := pnam_size K
  have OW : Hid (((w1.alloc (.cells #[.int .i64 (K : Int), .int .i64 x, .int .i64 y] 45)).alloc (.cells #[.string (pnam K)] 9)).ownsRow w.heap.size 9 1 (.slice (some ⟨w1.heap.size + 1, 0, none⟩) 1 1) 1 (strs (tws (pnam K) x y) 1)) := by
    have := World.ownsRow_lit (base := w.heap.size) (size := 1) (e := 9) (w1.alloc (.cells #[.int .i64 (K : Int), .int .i64 x, .int .i64 y] 45)) #[.string (pnam K)] 1 (by have := B1.out.size; simp; omega) (by unfold maxLen; omega) rfl
    rw [size_alloc] at this
    exact this
  have BB := hid (below2' w1 (.cells #[.int .i64 (K : Int), .int .i64 x, .int .i64 y] 45) (.cells #[.string (pnam K)] 9))
  go_wp2_with (go_at_call 38; refine (numbers_G K 1 x y _ hK hm (HL.out.below (B1.out.trans (BB.out.mono B1.out.size))) (by omega)).mono ?_)
  rintro e w2 ⟨G, R, rfl, HG, b2⟩
  have OW2 := hid (OW.out.kept (grown_of_below b2.out) (.inr (by simp [Value.ownBlock])))
  have B2 := hid ((B1.out.trans (BB.out.mono B1.out.size)).trans (b2.out.mono (B1.out.trans (BB.out.mono B1.out.size)).size))
  clear OW BB b2 B1 hnm HX
  generalize hxs : tws (pnam K) x y = xs at *
  have HXS := hid hxs
  clear hxs
  go_wp2_with fail
  go_loopw [8, 34] (fun v i wr => ∃ j : Nat, j ≤ 1 ∧ i = .int .i64 (j : Int) ∧ ∃ g cap, v = .slice (some ⟨g, 0, none⟩) (j + 1) cap ∧ Hid (wr.ownsRow w.heap.size 9 1 (.slice (some ⟨g, 0, none⟩) (j + 1) cap) (j + 1) (strs xs (j + 1))) ∧ Hid (Below w.heap.size w wr) ∧ Hid (wr.heap[G]? = some (.cells #[.int .i64 x, .int .i64 y] 3))) (fun _ i _ => 1 - (intOf i).toNat)
  case atStart => exact ⟨0, by omega, rfl, _, _, rfl, OW2, B2, HG⟩
  case round =>
    obtain ⟨j, hj, rfl, g, cap, rfl, OWR, BR, HGR⟩ := hrel
    by_cases hlt : j < 1
    · obtain ⟨z, hcz, hSz, z0, z1⟩ : ∃ z, wr.cell? ⟨G, j, none⟩ = some (.int .i64 z) ∧ dg z = at' xs (j + 1) ∧ 0 ≤ z ∧ z ≤ 100000 := by
        have : j = 0 ∨ j = 1 := by omega
        rcases this with rfl | rfl
        · exact ⟨x, at_row HGR.out 0 rfl, HX1.out.symm, x0, x1⟩
        · exact ⟨y, at_row HGR.out 1 rfl, HX2.out.symm, y0, y1⟩
      have hdz := dg_size z z0 z1
      have HS := hid (strs_succ xs (j + 1))
      rw [← hSz] at HS
      have HSz := hid hSz
      clear hSz
      generalize hS : dg z = S at HS hdz
      have cI := litoa_at z S wr z0 z1 (tab_below (tab_below HP.out BR.out) (Below.refl _ _)) (hid hS)
      clear hS
      have hj3 : (j : Int) < 1 := by omega
      go_wp2_with (go_at_call 39; refine cI.mono ?_)
      rintro e w3 ⟨rfl, b3⟩
      have OW3 := hid (OWR.out.kept (grown_of_below b3) (.inr (by simp [Value.ownBlock])))
      have B3 := hid (BR.out.trans (b3.mono BR.out.size))
      have G3 := hid (row_below HGR.out b3)
      clear b3 cI OWR BR HGR hcz
      go_wp2_with (at_builtin; refine wpList_append_own _ rfl _ _ 74 rfl w.heap.size 9 i0 (.string ⟨#[]⟩) 1 16 Tryd.underlying74 hi hz0 hz1 hz2 rfl (by decide) (.slice (some ⟨g, 0, none⟩) (j + 1) cap) (j + 1) (strs xs (j + 1)) rfl (OW3.out.alloc (.cells #[.string S] 9)) ⟨w3.heap.size, 0, none⟩ 1 1 [.string S] rfl rfl (cell_new1 _ _ _) (by simp [Value.oneCell']) (by unfold maxLen; omega) (by omega) (by have := B3.out.size; simp; omega) ?_)
      intro v' w4 hown' hgrow _
      rw [← HS.out] at hown'
      obtain ⟨g', cap', rfl, _, _, _, _⟩ := own_split hown'
      obtain ⟨_, _, e3, _, hBg, cur, hrow3⟩ := own_split OW3.out
      have hBg' : w.heap.size ≤ g := by
        have := (OW3.out.lt g rfl).1; exact this
      have hGne : some G ≠ (Value.slice (some ⟨g, 0, none⟩) (j + 1) cap).ownBlock := by
        simp only [Value.slice.injEq, Option.some.injEq, Addr.mk.injEq] at e3
        obtain ⟨⟨rfl, _⟩, _⟩ := e3
        have := int_row_ne G3.out hrow3
        simpa [Value.ownBlock] using this
      have G4 : w4.heap[G]? = some (.cells #[.int .i64 x, .int .i64 y] 3) := (hgrow.block G (by have := (Array.getElem?_eq_some_iff.1 G3.out).1; simp; omega) hGne).trans ((Below.heap_alloc w3 _ G (Array.getElem?_eq_some_iff.1 G3.out).1).trans G3.out)
      have B4 : Below w.heap.size w w4 := (B3.out.alloc B3.out.size _).grown hgrow (by have := B3.out.size; simp; omega) (fun k hk => by simp [Value.ownBlock] at hk; omega)
      have OW4 := hid hown'
      have HB4 := hid B4
      have HG4 := hid G4
      clear hown' hgrow B4 G4 hGne hrow3 e3
      go_wp2
      exact ⟨⟨j + 1, by omega, by go_num, g', cap', rfl, OW4, HB4, HG4⟩, by simp [intOf]; omega⟩
    · obtain rfl : j = 1 := by omega
      clear hlt
      have HC : ∀ i, i < 1 + 1 → wr.cell? ⟨g, 0 + i, none⟩ = some (.string (at' xs i)) := fun i hi => by
        rw [Nat.zero_add]
        exact (OWR.out.cellAt i (by omega)).trans (strs_get xs _ i hi)
      have c0 : wr.cell? ⟨g, 0, none⟩ = some (.string (at' xs 0)) := HC 0 (by omega)
      obtain ⟨_, _, e3, hcap, _, _, _⟩ := own_split OWR.out
      have hcap : 1 + 1 ≤ cap := by
        simp only [Value.slice.injEq] at e3; omega
      have hsz := tws_size (k := K) x0 x1 y0 y1
      rw [HXS.out] at hsz
      have cj := join_2 g 0 cap xs wr (hid HC) (hid hsz) hcap
      clear HC c0 e3
      go_wp2_with (go_at_call 40; refine cj.mono ?_; rintro e w5 ⟨rfl, b5⟩)
      go_ret2
      exact ⟨by rw [HXS.out]; rfl, BR.out.trans (b5.mono BR.out.size)⟩
set_option maxRecDepth 100000 in
set_option maxHeartbeats 8000000 in
theorem Text_2 (t s at_ : Int) (K : Nat) (x y : Int) (a : Option Addr) (n c : Nat) (ss : List ByteArray) (w : World) (hT : IsTab w (.slice a n c) ss) (hL : LNums w) (hN : LNames w) (hP : Tab w) (h : Hid (ptv t s ss at_ = ((K : Int), x, y, 0))) (hK : K < 7) (hm : pnm K = 2) (x0 : 0 ≤ x) (x1 : x ≤ 100000) (y0 : 0 ≤ y) (y1 : y ≤ 100000) :
    Calls Tryd.prog 24 #[planV t s a n c, .int .i64 at_] w fun e w' => e = .returned (.tuple #[.string ⟨(jn (tws (pnam K) x y) 2).toArray⟩, .int .i64 0]) ∧ Below w.heap.size w w' := by
  obtain ⟨i0, hi, hz0, hz1, hz2⟩ := info_parts str_info
  have cp := Part_at t s at_ K x y 0 a n c ss _ (hT.below (Nat.le_refl _) (below_alloc0 w (.cells #[.int .i64 t, .int .i64 s, .slice a n c] 24))) h
  clear h hT
  have K7 : (K : Int) < 7 := by omega
  have HL := hid hL
  have HN := hid hN
  have HP := hid hP
  clear hL hN hP
  go_enter Tryd.func24, Tryd.ntmps24
  go_wp2_with (go_at_call 23; refine cp.mono ?_)
  rintro e w1 ⟨rfl, b1⟩
  have B1 := hid (bel1 b1)
  clear b1 cp
  have hnm : ∀ O, (w1.alloc O).cell? ⟨0, K, none⟩ = some (.string (pnam K)) := fun O => cell_al O ((HN.out.below B1.out) K hK)
  have HX : Hid (at' (tws (pnam K) x y) 0 = pnam K) := hid rfl
  have HX1 : Hid (at' (tws (pnam K) x y) 1 = dg x) := hid rfl
  have HX2 : Hid (at' (tws (pnam K) x y) 2 = dg y) := hid rfl
  have hnsz := pnam_size K
  have OW : Hid (((w1.alloc (.cells #[.int .i64 (K : Int), .int .i64 x, .int .i64 y] 45)).alloc (.cells #[.string (pnam K)] 9)).ownsRow w.heap.size 9 1 (.slice (some ⟨w1.heap.size + 1, 0, none⟩) 1 1) 1 (strs (tws (pnam K) x y) 1)) := by
    have := World.ownsRow_lit (base := w.heap.size) (size := 1) (e := 9) (w1.alloc (.cells #[.int .i64 (K : Int), .int .i64 x, .int .i64 y] 45)) #[.string (pnam K)] 1 (by have := B1.out.size; simp; omega) (by unfold maxLen; omega) rfl
    rw [size_alloc] at this
    exact this
  have BB := hid (below2' w1 (.cells #[.int .i64 (K : Int), .int .i64 x, .int .i64 y] 45) (.cells #[.string (pnam K)] 9))
  go_wp2_with (go_at_call 38; refine (numbers_G K 2 x y _ hK hm (HL.out.below (B1.out.trans (BB.out.mono B1.out.size))) (by omega)).mono ?_)
  rintro e w2 ⟨G, R, rfl, HG, b2⟩
  have OW2 := hid (OW.out.kept (grown_of_below b2.out) (.inr (by simp [Value.ownBlock])))
  have B2 := hid ((B1.out.trans (BB.out.mono B1.out.size)).trans (b2.out.mono (B1.out.trans (BB.out.mono B1.out.size)).size))
  clear OW BB b2 B1 hnm HX
  generalize hxs : tws (pnam K) x y = xs at *
  have HXS := hid hxs
  clear hxs
  go_wp2_with fail
  go_loopw [8, 34] (fun v i wr => ∃ j : Nat, j ≤ 2 ∧ i = .int .i64 (j : Int) ∧ ∃ g cap, v = .slice (some ⟨g, 0, none⟩) (j + 1) cap ∧ Hid (wr.ownsRow w.heap.size 9 1 (.slice (some ⟨g, 0, none⟩) (j + 1) cap) (j + 1) (strs xs (j + 1))) ∧ Hid (Below w.heap.size w wr) ∧ Hid (wr.heap[G]? = some (.cells #[.int .i64 x, .int .i64 y] 3))) (fun _ i _ => 2 - (intOf i).toNat)
  case atStart => exact ⟨0, by omega, rfl, _, _, rfl, OW2, B2, HG⟩
  case round =>
    obtain ⟨j, hj, rfl, g, cap, rfl, OWR, BR, HGR⟩ := hrel
    by_cases hlt : j < 2
    · obtain ⟨z, hcz, hSz, z0, z1⟩ : ∃ z, wr.cell? ⟨G, j, none⟩ = some (.int .i64 z) ∧ dg z = at' xs (j + 1) ∧ 0 ≤ z ∧ z ≤ 100000 := by
        have : j = 0 ∨ j = 1 := by omega
        rcases this with rfl | rfl
        · exact ⟨x, at_row HGR.out 0 rfl, HX1.out.symm, x0, x1⟩
        · exact ⟨y, at_row HGR.out 1 rfl, HX2.out.symm, y0, y1⟩
      have hdz := dg_size z z0 z1
      have HS := hid (strs_succ xs (j + 1))
      rw [← hSz] at HS
      have HSz := hid hSz
      clear hSz
      generalize hS : dg z = S at HS hdz
      have cI := litoa_at z S wr z0 z1 (tab_below (tab_below HP.out BR.out) (Below.refl _ _)) (hid hS)
      clear hS
      have hj3 : (j : Int) < 2 := by omega
      go_wp2_with (go_at_call 39; refine cI.mono ?_)
      rintro e w3 ⟨rfl, b3⟩
      have OW3 := hid (OWR.out.kept (grown_of_below b3) (.inr (by simp [Value.ownBlock])))
      have B3 := hid (BR.out.trans (b3.mono BR.out.size))
      have G3 := hid (row_below HGR.out b3)
      clear b3 cI OWR BR HGR hcz
      go_wp2_with (at_builtin; refine wpList_append_own _ rfl _ _ 74 rfl w.heap.size 9 i0 (.string ⟨#[]⟩) 1 16 Tryd.underlying74 hi hz0 hz1 hz2 rfl (by decide) (.slice (some ⟨g, 0, none⟩) (j + 1) cap) (j + 1) (strs xs (j + 1)) rfl (OW3.out.alloc (.cells #[.string S] 9)) ⟨w3.heap.size, 0, none⟩ 1 1 [.string S] rfl rfl (cell_new1 _ _ _) (by simp [Value.oneCell']) (by unfold maxLen; omega) (by omega) (by have := B3.out.size; simp; omega) ?_)
      intro v' w4 hown' hgrow _
      rw [← HS.out] at hown'
      obtain ⟨g', cap', rfl, _, _, _, _⟩ := own_split hown'
      obtain ⟨_, _, e3, _, hBg, cur, hrow3⟩ := own_split OW3.out
      have hBg' : w.heap.size ≤ g := by
        have := (OW3.out.lt g rfl).1; exact this
      have hGne : some G ≠ (Value.slice (some ⟨g, 0, none⟩) (j + 1) cap).ownBlock := by
        simp only [Value.slice.injEq, Option.some.injEq, Addr.mk.injEq] at e3
        obtain ⟨⟨rfl, _⟩, _⟩ := e3
        have := int_row_ne G3.out hrow3
        simpa [Value.ownBlock] using this
      have G4 : w4.heap[G]? = some (.cells #[.int .i64 x, .int .i64 y] 3) := (hgrow.block G (by have := (Array.getElem?_eq_some_iff.1 G3.out).1; simp; omega) hGne).trans ((Below.heap_alloc w3 _ G (Array.getElem?_eq_some_iff.1 G3.out).1).trans G3.out)
      have B4 : Below w.heap.size w w4 := (B3.out.alloc B3.out.size _).grown hgrow (by have := B3.out.size; simp; omega) (fun k hk => by simp [Value.ownBlock] at hk; omega)
      have OW4 := hid hown'
      have HB4 := hid B4
      have HG4 := hid G4
      clear hown' hgrow B4 G4 hGne hrow3 e3
      go_wp2
      exact ⟨⟨j + 1, by omega, by go_num, g', cap', rfl, OW4, HB4, HG4⟩, by simp [intOf]; omega⟩
    · obtain rfl : j = 2 := by omega
      clear hlt
      have HC : ∀ i, i < 2 + 1 → wr.cell? ⟨g, 0 + i, none⟩ = some (.string (at' xs i)) := fun i hi => by
        rw [Nat.zero_add]
        exact (OWR.out.cellAt i (by omega)).trans (strs_get xs _ i hi)
      have c0 : wr.cell? ⟨g, 0, none⟩ = some (.string (at' xs 0)) := HC 0 (by omega)
      obtain ⟨_, _, e3, hcap, _, _, _⟩ := own_split OWR.out
      have hcap : 2 + 1 ≤ cap := by
        simp only [Value.slice.injEq] at e3; omega
      have hsz := tws_size (k := K) x0 x1 y0 y1
      rw [HXS.out] at hsz
      have cj := join_3 g 0 cap xs wr (hid HC) (hid hsz) hcap
      clear HC c0 e3
      go_wp2_with (go_at_call 40; refine cj.mono ?_; rintro e w5 ⟨rfl, b5⟩)
      go_ret2
      exact ⟨by rw [HXS.out]; rfl, BR.out.trans (b5.mono BR.out.size)⟩
/-- What Text answers. -/
def txl (t s : Int) (ss : List ByteArray) (at_ : Int) : ByteArray × Int :=
  if (ptv t s ss at_).2.2.2 = 0 then (ptx (ptv t s ss at_).1 (ptv t s ss at_).2.1 (ptv t s ss at_).2.2.1, 0) else (⟨#[]⟩, (ptv t s ss at_).2.2.2)
theorem ptv_zero {t s : Int} {ss : List ByteArray} {at_ k x y : Int} (h : ptv t s ss at_ = (k, x, y, 0)) : rgt t s ss = true ∧ 0 ≤ at_ ∧ at_ < 3 + t + t + 2 * s ∧ pt t s at_ = (k, x, y) := by
  unfold ptv at h
  by_cases hr : rgt t s ss = true
  · rw [if_pos hr] at h
    by_cases hi : 0 ≤ at_ ∧ at_ < 3 + t + t + 2 * s
    · rw [if_pos hi] at h
      simp only [Prod.mk.injEq] at h
      exact ⟨hr, hi.1, hi.2, Prod.ext h.1 (Prod.ext h.2.1 h.2.2.1)⟩
    · rw [if_neg hi] at h
      simp at h
  · rw [if_neg hr] at h
    simp at h
theorem LText_at (t s at_ : Int) (X : ByteArray) (e' : Int) (a : Option Addr) (n c : Nat) (ss : List ByteArray) (w : World) (hT : IsTab w (.slice a n c) ss) (hL : LNums w) (hN : LNames w) (hP : Tab w) (h : Hid (txl t s ss at_ = (X, e'))) :
    Calls Tryd.prog 24 #[planV t s a n c, .int .i64 at_] w fun e w' => e = .returned (.tuple #[.string X, .int .i64 e']) ∧ Below w.heap.size w w' := by
  have h := h.out
  unfold txl at h
  obtain ⟨k, x, y, e, hp⟩ : ∃ k x y e, ptv t s ss at_ = (k, x, y, e) := ⟨_, _, _, _, rfl⟩
  rw [hp] at h
  by_cases he : e = 0
  · subst he
    rw [if_pos rfl] at h
    simp only [Prod.mk.injEq] at h
    obtain ⟨rfl, rfl⟩ := h
    obtain ⟨hr, a0, a1, hq⟩ := ptv_zero hp
    obtain ⟨t0, t1, s0, s1, _⟩ := rgt_yes hr
    have hk : k = (kn t at_ : Int) := by have := congrArg Prod.fst hq; simp [pt] at this; exact this.symm
    have hx : 0 ≤ x ∧ x ≤ 100000 ∧ 0 ≤ y ∧ y ≤ 100000 := by
      have hi := pt_is s0 a0 a1
      rw [hq] at hi
      simp only [Prod.mk.injEq] at hi
      rcases hi with hi | hi | hi | hi | hi | hi | hi <;> omega
    obtain ⟨x0, x1, y0, y1⟩ := hx
    have hK : kn t at_ < 7 := by rcases kn_cases t at_ with e | e | e | e | e | e <;> omega
    generalize kn t at_ = K at hk hK
    subst hk
    have hm : pnm K = 0 ∨ pnm K = 1 ∨ pnm K = 2 := by
      match K with
      | 0 => decide
      | 1 => decide
      | 2 => decide
      | 3 => decide
      | 4 => decide
      | 5 => decide
      | 6 => decide
      | n + 7 => omega
    have hX : ptx (K : Int) x y = ⟨(jn (tws (pnam K) x y) (pnm K)).toArray⟩ := by simp [ptx]
    simp only [hX]
    rcases hm with hm | hm | hm <;> rw [hm]
    · exact Text_0 t s at_ K x y a n c ss w hT hL hN hP (hid hp) hK hm x0 x1 y0 y1
    · exact Text_1 t s at_ K x y a n c ss w hT hL hN hP (hid hp) hK hm x0 x1 y0 y1
    · exact Text_2 t s at_ K x y a n c ss w hT hL hN hP (hid hp) hK hm x0 x1 y0 y1
  · rw [if_neg he] at h
    simp only [Prod.mk.injEq] at h
    obtain ⟨rfl, rfl⟩ := h
    exact Text_err t s at_ k x y e a n c ss w hT (hid hp) (by simpa using he)
end Go.Proofs.YtjfegimgpkeleaaDoor
