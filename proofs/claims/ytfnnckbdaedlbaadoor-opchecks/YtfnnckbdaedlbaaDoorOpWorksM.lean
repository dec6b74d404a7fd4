/- laws of layer 8, plain: the chapter's rows. -/
import Derived.Test.YtfnnckbdaedlbaaDoorOpReadC
import Derived.Test.YtfnnckbdaedlbaaDoorOpCheck
namespace Go.Oq
open Go.Lib Go.Proofs.YtfnnckbdaedlbaaDoor Go.Sh
def fC : Nat → Int | 0 => 4 | 2 => 2 | 3 => 3 | 4 => 1 | _ => 0
def fP : Nat → Int | 0 => 6 | 4 => 1 | 6 => -5 | _ => 0
def fA (a s : Int) : Nat → Int | 0 => 1 | 1 => a | 5 => s | _ => 0
theorem itoa_d {n : Nat} (h : n < 10) : itoa (n : Int) = [UInt8.ofNat (48 + n)] := by rw [itoa_nn, decDigits_small n h]
theorem itoa_m5 : itoa (-5) = [45, 53] := by
  have := decDigits_small 5 (by omega)
  unfold itoa
  rw [if_pos (by omega)]
  show 45 :: decDigits 5 = _
  rw [this]; rfl
theorem txt_C : txt fC = ⟨#[99, 97, 115, 32, 48, 32, 49, 32, 50, 32, 51]⟩ := by
  have h : (wds fC).map (·.data.toList) = [[99, 97, 115], [48], [49], [50], [51]] := by
    show [(nam 4).data.toList, itoa ((0 : Nat) : Int), itoa ((1 : Nat) : Int), itoa ((2 : Nat) : Int), itoa ((3 : Nat) : Int)] = _
    rw [itoa_d (by omega), itoa_d (by omega), itoa_d (by omega), itoa_d (by omega)]
    rfl
  rw [txt, h]; rfl
theorem txt_P : txt fP = ⟨#[112, 117, 116, 105, 32, 48, 32, 49, 32, 45, 53]⟩ := by
  have h : (wds fP).map (·.data.toList) = [[112, 117, 116, 105], [48], [49], [45, 53]] := by
    show [(nam 6).data.toList, itoa ((0 : Nat) : Int), itoa ((1 : Nat) : Int), itoa (-5)] = _
    rw [itoa_d (by omega), itoa_d (by omega), itoa_m5]
    rfl
  rw [txt, h]; rfl
theorem bare_C : bare fC = true := by decide +kernel
theorem bare_P : bare fP = true := by decide +kernel
theorem rng_C : rng fC := by
  intro i hi
  have : i = 0 ∨ i = 1 ∨ i = 2 ∨ i = 3 ∨ i = 4 ∨ i = 5 ∨ i = 6 ∨ i = 7 := by omega
  rcases this with rfl | rfl | rfl | rfl | rfl | rfl | rfl | rfl <;> decide
theorem rng_P : rng fP := by
  intro i hi
  have : i = 0 ∨ i = 1 ∨ i = 2 ∨ i = 3 ∨ i = 4 ∨ i = 5 ∨ i = 6 ∨ i = 7 := by omega
  rcases this with rfl | rfl | rfl | rfl | rfl | rfl | rfl | rfl <;> decide
theorem rd_bad : rdS ⟨#[112, 117, 116, 105, 32, 48, 32, 49, 32, 48, 53]⟩ = none := by
  have hs : spB ⟨#[112, 117, 116, 105, 32, 48, 32, 49, 32, 48, 53]⟩ = [⟨#[112, 117, 116, 105]⟩, ⟨#[48]⟩, ⟨#[49]⟩, ⟨#[48, 53]⟩] := by rfl
  have hk : knd ⟨#[112, 117, 116, 105]⟩ = 6 := by decide +kernel
  have w0 : whl [48] = some 0 := whl_of ⟨itoa_d (n := 0) (by omega), by omega, by omega⟩
  have w1 : whl [49] = some 1 := whl_of ⟨itoa_d (n := 1) (by omega), by omega, by omega⟩
  have w5 : whl [48, 53] = none := whl_not (by decide) (by decide)
  have hk' : knd (at' [⟨#[112, 117, 116, 105]⟩, ⟨#[48]⟩, ⟨#[49]⟩, ⟨#[48, 53]⟩] 0) = 6 := hk
  rw [rdS, hs, rdW, hk', if_neg (by decide), if_neg (by decide)]
  show (match whl [48] with | some v => prs [4, 6] [⟨#[49]⟩, ⟨#[48, 53]⟩] (upd (bar 6) 1 v) | none => none) = none
  rw [w0]
  show (match whl [49] with | some v => prs [6] [⟨#[48, 53]⟩] (upd (upd (bar 6) 1 0) 4 v) | none => none) = none
  rw [w1]
  show (match whl [48, 53] with | some v => prs [] [] (upd (upd (upd (bar 6) 1 0) 4 1) 6 v) | none => none) = none
  rw [w5]
theorem chk_1 : chk [⟨#[112]⟩] (fA 6 0) = 181 := by decide +kernel
theorem chk_2 : chk [⟨#[112]⟩] (fA 5 1) = 130 := by decide +kernel
end Go.Oq
namespace Go.Proofs.YtfnnckbdaedlbaaDoor
open Go.RowKit Go.Oq Go.Sh
theorem row_same {f g : Nat → Int} (h : ∀ i, i < 8 → g i = f i) : row g = row f := by
  rw [row, row, h 0 (by omega), h 1 (by omega), h 2 (by omega), h 3 (by omega), h 4 (by omega), h 5 (by omega), h 6 (by omega), h 7 (by omega)]
/-- Read of an operation's text. -/
theorem oRead_txt (f : Nat → Int) (s : ByteArray) (w : World) (hE : Lib3 w) (hs : s.size ≤ 100000) (hb : bare f = true) (hr : rng f) (ht : txt f = s) :
    Calls Tryd.prog 17 #[.string s] w fun e w' => e = .returned (.tuple #[opV f, .int .i64 0]) ∧ Below w.heap.size w w' := by
  obtain ⟨g, hg, hgf⟩ := rd_txt hb hr
  rw [ht] at hg
  have c := oRead_any s w hE hs
  rw [hg] at c
  refine c.mono ?_
  rintro e w' ⟨rfl, h⟩
  refine ⟨?_, h⟩
  show Ending.returned (.tuple #[.agg (row g), .int .i64 0]) = _
  rw [row_same hgf]
theorem oRead_none (s : ByteArray) (w : World) (hE : Lib3 w) (hs : s.size ≤ 100000) (hn : rdS s = none) :
    Calls Tryd.prog 17 #[.string s] w fun e w' => e = .returned (.tuple #[opV zro, .int .i64 186]) ∧ Below w.heap.size w w' := by
  have c := oRead_any s w hE hs
  rw [hn] at c
  exact c
theorem qnum_any (x : Int) (w : World) : Calls Tryd.prog 12 #[.int .i64 x] w fun e w' => e = .returned (.int .i64 x) ∧ w' = w := by
  go_enter Tryd.func12, Tryd.ntmps12
  go_wp2
  go_ret
  exact ⟨rfl, rfl⟩
theorem tab_one (w : World) (x : ByteArray) (t : TypeId) : IsTab (w.alloc (.cells #[.string x] t)) (.slice (some ⟨w.heap.size, 0, none⟩) 1 1) [x] :=
  .inr ⟨w.heap.size, 0, 1, rfl, fun i hi => by
    obtain rfl : i = 0 := by simpa using hi
    exact cell_last w _ t 0 _ rfl⟩
end Go.Proofs.YtfnnckbdaedlbaaDoor
