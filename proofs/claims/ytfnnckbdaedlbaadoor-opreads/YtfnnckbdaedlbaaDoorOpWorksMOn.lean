/- laws of layer 8, plain: the chapter's rows. -/
import Derived.Test.YtfnnckbdaedlbaaDoorOpReadC
import Derived.Test.YtfnnckbdaedlbaaDoorOpCheck
namespace Go.Oq
open Go.Lib Go.Proofs.YtfnnckbdaedlbaaDoor Go.Sh
def fC : Nat → Int | 0 => 4 | 2 => 2 | 3 => 3 | 4 => 1 | _ => 0
def fP : Nat → Int | 0 => 6 | 4 => 1 | 6 => -5 | _ => 0
def fA (a s : Int) : Nat → Int | 0 => 1 | 1 => a | 5 => s | _ => 0
theorem itoa_d {n : Nat} (h : n < 10) : itoa (n : Int) = [UInt8.ofNat (48 + n)] := by rw [itoa_nn, decDigits_small n h]
theorem itoa_m5 : itoa (-5) = [45, 53] := by
  have := decDigits_small 5 (by omega)
  unfold itoa
  rw [if_pos (by omega)]
  show 45 :: decDigits 5 = _
  rw [this]; rfl
theorem txt_C : txt fC = ⟨#[99, 97, 115, 32, 48, 32, 49, 32, 50, 32, 51]⟩ := by
  have h : (wds fC).map (·.data.toList) = [[99, 97, 115], [48], [49], [50], [51]] := by
    show [(nam 4).data.toList, itoa ((0 : Nat) : Int), itoa ((1 : Nat) : Int), itoa ((2 : Nat) : Int), itoa ((3 : Nat) : Int)] = _
    rw [itoa_d (by omega), itoa_d (by omega), itoa_d (by omega), itoa_d (by omega)]
    rfl
  rw [txt, h]; rfl
theorem txt_P : txt fP = ⟨#[112, 117, 116, 105, 32, 48, 32, 49, 32, 45, 53]⟩ := by
  have h : (wds fP).map (·.data.toList) = [[112, 117, 116, 105], [48], [49], [45, 53]] := by
    show [(nam 6).data.toList, itoa ((0 : Nat) : Int), itoa ((1 : Nat) : Int), itoa (-5)] = _
    rw [itoa_d (by omega), itoa_d (by omega), itoa_m5]
    rfl
  rw [txt, h]; rfl
theorem bare_C : bare fC = true := by decide +kernel
theorem bare_P : bare fP = true := by decide +kernel
theorem rng_C : rng fC := by
  intro i hi
  have : i = 0 ∨ i = 1 ∨ i = 2 ∨ i = 3 ∨ i = 4 ∨ i = 5 ∨ i = 6 ∨ i = 7 := by omega
  rcases this with rfl | rfl | rfl | rfl | rfl | rfl | rfl | rfl <;> decide
theorem rng_P : rng fP := by
  intro i hi
  have : i = 0 ∨ i = 1 ∨ i = 2 ∨ i = 3 ∨ i = 4 ∨ i = 5 ∨ i = 6 ∨ i = 7 := by omega
  rcases this with rfl | rfl | rfl | rfl | rfl | rfl | rfl | rfl <;> decide
theorem rd_bad : rdS ⟨#[112, 117, 116, 105, 32, 48, 32, 49, 32, 48, 53]⟩ = none := by
  have hs : spB ⟨#[112, 117, 116, 105, 32, 48, 32, 49, 32, 48, 53]⟩ = [⟨#[112, 117, 116, 105]⟩, ⟨#[48]⟩, ⟨#[49]⟩, ⟨#[48, 53]⟩] := by rfl
  have hk : knd ⟨#[112, 117, 116, 105]⟩ = 6 := by decide +kernel
  have w0 : whl [48] = some 0 := whl_of ⟨itoa_d (n := 0) (by omega), by omega, by omega⟩
  have w1 : whl [49] = some 1 := whl_of ⟨itoa_d (n := 1) (by omega), by omega, by omega⟩
  have w5 : whl [48, 53] = none := whl_not (by decide) (by decide)
  have hk' : knd (at' [⟨#[112, 117, 116, 105]⟩, ⟨#[48]⟩, ⟨#[49]⟩, ⟨#[48, 53]⟩] 0) = 6 := hk
  rw [rdS, hs, rdW, hk', if_neg (by decide), if_neg (by decide)]
  show (match whl [48] with | some v => prs [4, 6] [⟨#[49]⟩, ⟨#[48, 53]⟩] (upd (bar 6) 1 v) | none => none) = none
  rw [w0]
  show (match whl [49] with | some v => prs [6] [⟨#[48, 53]⟩] (upd (upd (bar 6) 1 0) 4 v) | none => none) = none
  rw [w1]
  show (match whl [48, 53] with | some v => prs [] [] (upd (upd (upd (bar 6) 1 0) 4 1) 6 v) | none => none) = none
  rw [w5]
theorem chk_1 : chk [⟨#[112]⟩] (fA 6 0) = 181 := by decide +kernel
theorem chk_2 : chk [⟨#[112]⟩] (fA 5 1) = 130 := by decide +kernel
end Go.Oq
namespace Go.Proofs.YtfnnckbdaedlbaaDoor
open Go.RowKit Go.Oq Go.Sh
theorem row_same {f g : Nat → Int} (h : ∀ i, i < 8 → g i = f i) : row g = row f := by
  rw [row, row, h 0 (by omega), h 1 (by omega), h 2 (by omega), h 3 (by omega), h 4 (by omega), h 5 (by omega), h 6 (by omega), h 7 (by omega)]
/-- Read of an operation's text. -/
theorem oRead_txt (f : Nat → Int) (s : ByteArray) (w : World) (hE : Lib3 w) (hs : s.size ≤ 100000) (hb : bare f = true) (hr : rng f) (ht : txt f = s) :
    Calls Tryd.prog 17 #[.string s] w fun e w' => e = .returned (.tuple #[opV f, .int .i64 0]) ∧ Below w.heap.size w w' := by
  obtain ⟨g, hg, hgf⟩ := rd_txt hb hr
  rw [ht] at hg
  have c := oRead_any s w hE hs
  rw [hg] at c
  refine c.mono ?_
  rintro e w' ⟨rfl, h⟩
  refine ⟨?_, h⟩
  show Ending.returned (.tuple #[.agg (row g), .int .i64 0]) = _
  rw [row_same hgf]
theorem oRead_none (s : ByteArray) (w : World) (hE : Lib3 w) (hs : s.size ≤ 100000) (hn : rdS s = none) :
    Calls Tryd.prog 17 #[.string s] w fun e w' => e = .returned (.tuple #[opV zro, .int .i64 186]) ∧ Below w.heap.size w w' := by
  have c := oRead_any s w hE hs
  rw [hn] at c
  exact c
theorem qnum_any (x : Int) (w : World) : Calls Tryd.prog 12 #[.int .i64 x] w fun e w' => e = .returned (.int .i64 x) ∧ w' = w := by
  go_enter Tryd.func12, Tryd.ntmps12
  go_wp2
  go_ret
  exact ⟨rfl, rfl⟩
theorem tab_one (w : World) (x : ByteArray) (t : TypeId) : IsTab (w.alloc (.cells #[.string x] t)) (.slice (some ⟨w.heap.size, 0, none⟩) 1 1) [x] :=
  .inr ⟨w.heap.size, 0, 1, rfl, fun i hi => by
    obtain rfl : i = 0 := by simpa using hi
    exact cell_last w _ t 0 _ rfl⟩
end Go.Proofs.YtfnnckbdaedlbaaDoor
/- laws of layer 8: works. -/
namespace Go.Proofs.YtfnnckbdaedlbaaDoor
open Go.RowKit Go.Oq Go.Sh
set_option maxRecDepth 100000 in
set_option maxHeartbeats 8000000 in
theorem qworks_any (w : World) (hE : Lib3 w) : Calls Tryd.prog 9 #[] w fun e w' => e = .returned (.bool true) ∧ Below w.heap.size w w' := by
  have HE := hid hE
  clear hE
  go_enter Tryd.func9, Tryd.ntmps9
  go_wp2_with (go_at_call 17; refine (oRead_txt fC _ _ HE.out (by decide) bare_C rng_C txt_C).mono ?_)
  rintro e w1 ⟨rfl, b1⟩
  have B1 := hid (b1.alloc b1.size (.cells (row fC) 31))
  have R1 := hid (heap_alloc_last w1 (.cells (row fC) 31))
  clear b1
  go_wp2_with (first
    | (refine wpList_store_row rfl 31 _ _ rfl w1.heap.size (row fC) rfl rfl 31 _ (heap_alloc_last w1 _) (op_size fC) rfl (row_one fC) ?_; rw [World.setRow_alloc_new])
    | (go_at_call 17; refine (oRead_txt fP _ _ (HE.out.below B1.out) (by decide) bare_P rng_P txt_P).mono ?_))
  rintro e w2 ⟨rfl, b2⟩
  have S2 := hid (Nat.le_trans (Nat.le_of_lt (Array.getElem?_eq_some_iff.1 R1.out).1) b2.size)
  have r1 := hid ((b2.block _ (Array.getElem?_eq_some_iff.1 R1.out).1).trans R1.out)
  have B2' := hid (B1.out.trans (b2.mono B1.out.size))
  have B2 := hid (B2'.out.alloc B2'.out.size (.cells (row fP) 31))
  have R1b := hid ((Below.heap_alloc w2 (.cells (row fP) 31) _ (Array.getElem?_eq_some_iff.1 r1.out).1).trans r1.out)
  have R2 := hid (heap_alloc_last w2 (.cells (row fP) 31))
  clear b2 r1 R1 S2
  go_wp2_with (first
    | (refine wpList_store_row rfl 31 _ _ rfl w2.heap.size (row fP) rfl rfl 31 _ (heap_alloc_last w2 _) (op_size fP) rfl (row_one fP) ?_; rw [World.setRow_alloc_new])
    | (go_at_call 17; refine (oRead_none _ _ (HE.out.below B2.out) (by decide) rd_bad).mono ?_))
  rintro e w3 ⟨rfl, b3⟩
  have q1 := hid ((b3.block _ (Array.getElem?_eq_some_iff.1 R1b.out).1).trans R1b.out)
  have q2 := hid ((b3.block _ (Array.getElem?_eq_some_iff.1 R2.out).1).trans R2.out)
  have B3 := hid (B2.out.trans (b3.mono B2.out.size))
  clear b3 R1b R2 B2 B2' B1
  refine hid ?_
  obtain ⟨W3, hW3⟩ : ∃ W3, W3 = w3.alloc (.cells (row zro) 31) := ⟨_, rfl⟩
  have Q1 := hid (show W3.heap[w1.heap.size]? = some (.cells (row fC) 31) by rw [hW3, Below.heap_alloc w3 _ _ (Array.getElem?_eq_some_iff.1 q1.out).1]; exact q1.out)
  have Q2 := hid (show W3.heap[w2.heap.size]? = some (.cells (row fP) 31) by rw [hW3, Below.heap_alloc w3 _ _ (Array.getElem?_eq_some_iff.1 q2.out).1]; exact q2.out)
  have BW := hid (show Below w.heap.size w W3 by rw [hW3]; exact B3.out.alloc B3.out.size _)
  have HW3 := hid hW3
  clear hW3 q1 q2 B3
  have ck1 : ∀ W : World, Calls Tryd.prog 13 #[.slice (some ⟨W.heap.size, 0, none⟩) 1 1, opV (fA 6 0)] (W.alloc (.cells #[.string ⟨#[112]⟩] 25)) fun e w' => e = .returned (.int .i64 181) ∧ Below (W.alloc (.cells #[.string ⟨#[112]⟩] 25)).heap.size (W.alloc (.cells #[.string ⟨#[112]⟩] 25)) w' := fun W => by
    have := oCheck_any (fA 6 0) _ 1 1 _ _ (tab_one W ⟨#[112]⟩ 25)
    rwa [chk_1] at this
  have ck2 : ∀ W : World, Calls Tryd.prog 13 #[.slice (some ⟨W.heap.size, 0, none⟩) 1 1, opV (fA 5 1)] (W.alloc (.cells #[.string ⟨#[112]⟩] 25)) fun e w' => e = .returned (.int .i64 130) ∧ Below (W.alloc (.cells #[.string ⟨#[112]⟩] 25)).heap.size (W.alloc (.cells #[.string ⟨#[112]⟩] 25)) w' := fun W => by
    have := oCheck_any (fA 5 1) _ 1 1 _ _ (tab_one W ⟨#[112]⟩ 25)
    rwa [chk_2] at this
  have CK1 := hid ck1
  have CK2 := hid ck2
  clear ck1 ck2
  go_wp2_with (first
    | (refine wpList_store_row rfl 31 _ _ rfl w3.heap.size (row zro) rfl rfl 31 _ (heap_alloc_last w3 _) (op_size zro) rfl (row_one zro) ?_; rw [World.setRow_alloc_new, ← HW3.out])
    | (go_at_call 13; refine (CK1.out _).mono ?_))
  rintro e w4 ⟨rfl, b4⟩
  have p1 := hid ((bel1 b4).block _ (Array.getElem?_eq_some_iff.1 Q1.out).1 |>.trans Q1.out)
  have p2 := hid ((bel1 b4).block _ (Array.getElem?_eq_some_iff.1 Q2.out).1 |>.trans Q2.out)
  have BV := hid (BW.out.trans ((bel1 b4).mono BW.out.size))
  clear b4 Q1 Q2 BW
  go_wp2_with (go_at_call 13; refine (CK2.out _).mono ?_)
  rintro e w5 ⟨rfl, b5⟩
  have o1 := hid ((bel1 b5).block _ (Array.getElem?_eq_some_iff.1 p1.out).1 |>.trans p1.out)
  have o2 := hid ((bel1 b5).block _ (Array.getElem?_eq_some_iff.1 p2.out).1 |>.trans p2.out)
  have BX := hid (BV.out.trans ((bel1 b5).mono BV.out.size))
  clear b5 p1 p2 BV
  have e0 := at_row o1.out 0 (v := .int .i64 (4)) rfl
  have e1 := at_row o1.out 1 (v := .int .i64 (0)) rfl
  have e2 := at_row o1.out 2 (v := .int .i64 (2)) rfl
  have e3 := at_row o1.out 3 (v := .int .i64 (3)) rfl
  have e4 := at_row o1.out 4 (v := .int .i64 (1)) rfl
  have e5 := at_row o1.out 5 (v := .int .i64 (0)) rfl
  have e6 := at_row o1.out 6 (v := .int .i64 (0)) rfl
  have e7 := at_row o1.out 7 (v := .int .i64 (0)) rfl
  have g0 := at_row o2.out 0 (v := .int .i64 (6)) rfl
  have g1 := at_row o2.out 1 (v := .int .i64 (0)) rfl
  have g2 := at_row o2.out 2 (v := .int .i64 (0)) rfl
  have g3 := at_row o2.out 3 (v := .int .i64 (0)) rfl
  have g4 := at_row o2.out 4 (v := .int .i64 (1)) rfl
  have g5 := at_row o2.out 5 (v := .int .i64 (0)) rfl
  have g6 := at_row o2.out 6 (v := .int .i64 (-5)) rfl
  have g7 := at_row o2.out 7 (v := .int .i64 (0)) rfl
  go_wp2_with (go_at_call 12; refine (qnum_any _ _).mono ?_; rintro e w' ⟨rfl, hw⟩; rw [hw]; clear hw)
  go_ret
  exact ⟨rfl, BX.out⟩
end Go.Proofs.YtfnnckbdaedlbaaDoor
