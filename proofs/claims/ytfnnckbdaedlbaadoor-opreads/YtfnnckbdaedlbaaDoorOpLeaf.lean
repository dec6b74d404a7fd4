/- package op: find at each kind; the functions that tell where numbers stand; digits; what is told. Typed by tools/gen08leaf.py. -/
import Derived.Test.YtfnnckbdaedlbaaDoorOpFind
import Derived.Test.YtfnnckbdaedlbaaDoorWdReadOn
namespace Go.Proofs.YtfnnckbdaedlbaaDoor
open Go.RowKit Go.Oq
theorem kidx1 (B : Nat) (W : World) : (Instr.index 96 (.agg (karr B)) (.int .i64 1)).run Tryd.prog W = .ok (.agg (kc B 1)) W := by kernel_rfl
theorem kidx2 (B : Nat) (W : World) : (Instr.index 96 (.agg (karr B)) (.int .i64 2)).run Tryd.prog W = .ok (.agg (kc B 2)) W := by kernel_rfl
theorem kidx3 (B : Nat) (W : World) : (Instr.index 96 (.agg (karr B)) (.int .i64 3)).run Tryd.prog W = .ok (.agg (kc B 3)) W := by kernel_rfl
theorem kidx4 (B : Nat) (W : World) : (Instr.index 96 (.agg (karr B)) (.int .i64 4)).run Tryd.prog W = .ok (.agg (kc B 4)) W := by kernel_rfl
theorem kidx5 (B : Nat) (W : World) : (Instr.index 96 (.agg (karr B)) (.int .i64 5)).run Tryd.prog W = .ok (.agg (kc B 5)) W := by kernel_rfl
theorem kidx6 (B : Nat) (W : World) : (Instr.index 96 (.agg (karr B)) (.int .i64 6)).run Tryd.prog W = .ok (.agg (kc B 6)) W := by kernel_rfl
theorem kidx7 (B : Nat) (W : World) : (Instr.index 96 (.agg (karr B)) (.int .i64 7)).run Tryd.prog W = .ok (.agg (kc B 7)) W := by kernel_rfl
theorem kidx8 (B : Nat) (W : World) : (Instr.index 96 (.agg (karr B)) (.int .i64 8)).run Tryd.prog W = .ok (.agg (kc B 8)) W := by kernel_rfl
theorem kidx9 (B : Nat) (W : World) : (Instr.index 96 (.agg (karr B)) (.int .i64 9)).run Tryd.prog W = .ok (.agg (kc B 9)) W := by kernel_rfl
theorem kidx10 (B : Nat) (W : World) : (Instr.index 96 (.agg (karr B)) (.int .i64 10)).run Tryd.prog W = .ok (.agg (kc B 10)) W := by kernel_rfl
theorem kidx11 (B : Nat) (W : World) : (Instr.index 96 (.agg (karr B)) (.int .i64 11)).run Tryd.prog W = .ok (.agg (kc B 11)) W := by kernel_rfl
theorem kidx0 (B : Nat) (W : World) : (Instr.index 96 (.agg (karr B)) (.int .i64 0)).run Tryd.prog W = .ok (.agg kz) W := by kernel_rfl
theorem eleven {K : Nat} (h1 : 1 ≤ K) (h2 : K ≤ 11) : K = 1 ∨ K = 2 ∨ K = 3 ∨ K = 4 ∨ K = 5 ∨ K = 6 ∨ K = 7 ∨ K = 8 ∨ K = 9 ∨ K = 10 ∨ K = 11 := by omega
theorem find_yes (K : Nat) (w : World) (h1 : 1 ≤ K) (h2 : K ≤ 11) :
    Calls Tryd.prog 24 #[.int .i64 (K : Int)] w fun e w' => ∃ v1 v2, e = .returned (.tuple #[kV v1 v2 K, .bool true]) ∧ IsNums w' v1 (nums K) ∧ IsNums w' v2 (scas K) ∧ Below w.heap.size w w' := by
  rcases eleven h1 h2 with rfl | rfl | rfl | rfl | rfl | rfl | rfl | rfl | rfl | rfl | rfl
  · exact find_is 1 w h1 h2 kidx1
  · exact find_is 2 w h1 h2 kidx2
  · exact find_is 3 w h1 h2 kidx3
  · exact find_is 4 w h1 h2 kidx4
  · exact find_is 5 w h1 h2 kidx5
  · exact find_is 6 w h1 h2 kidx6
  · exact find_is 7 w h1 h2 kidx7
  · exact find_is 8 w h1 h2 kidx8
  · exact find_is 9 w h1 h2 kidx9
  · exact find_is 10 w h1 h2 kidx10
  · exact find_is 11 w h1 h2 kidx11
theorem ga_at (g : Nat) (w : World) : Calls Tryd.prog 61 #[.pointer (some ⟨g, 0, none⟩)] w fun e w' => e = .returned (.pointer (some ⟨g, 1, none⟩)) ∧ w' = w := by
  go_enter Tryd.func61, Tryd.ntmps61
  go_wp2
  go_ret
  exact ⟨rfl, rfl⟩
theorem gb_at (g : Nat) (w : World) : Calls Tryd.prog 62 #[.pointer (some ⟨g, 0, none⟩)] w fun e w' => e = .returned (.pointer (some ⟨g, 2, none⟩)) ∧ w' = w := by
  go_enter Tryd.func62, Tryd.ntmps62
  go_wp2
  go_ret
  exact ⟨rfl, rfl⟩
theorem gc_at (g : Nat) (w : World) : Calls Tryd.prog 63 #[.pointer (some ⟨g, 0, none⟩)] w fun e w' => e = .returned (.pointer (some ⟨g, 3, none⟩)) ∧ w' = w := by
  go_enter Tryd.func63, Tryd.ntmps63
  go_wp2
  go_ret
  exact ⟨rfl, rfl⟩
theorem gfield_at (g : Nat) (w : World) : Calls Tryd.prog 64 #[.pointer (some ⟨g, 0, none⟩)] w fun e w' => e = .returned (.pointer (some ⟨g, 4, none⟩)) ∧ w' = w := by
  go_enter Tryd.func64, Tryd.ntmps64
  go_wp2
  go_ret
  exact ⟨rfl, rfl⟩
theorem gshape_at (g : Nat) (w : World) : Calls Tryd.prog 65 #[.pointer (some ⟨g, 0, none⟩)] w fun e w' => e = .returned (.pointer (some ⟨g, 5, none⟩)) ∧ w' = w := by
  go_enter Tryd.func65, Tryd.ntmps65
  go_wp2
  go_ret
  exact ⟨rfl, rfl⟩
theorem gx_at (g : Nat) (w : World) : Calls Tryd.prog 66 #[.pointer (some ⟨g, 0, none⟩)] w fun e w' => e = .returned (.pointer (some ⟨g, 6, none⟩)) ∧ w' = w := by
  go_enter Tryd.func66, Tryd.ntmps66
  go_wp2
  go_ret
  exact ⟨rfl, rfl⟩
theorem gy_at (g : Nat) (w : World) : Calls Tryd.prog 67 #[.pointer (some ⟨g, 0, none⟩)] w fun e w' => e = .returned (.pointer (some ⟨g, 7, none⟩)) ∧ w' = w := by
  go_enter Tryd.func67, Tryd.ntmps67
  go_wp2
  go_ret
  exact ⟨rfl, rfl⟩
/-- A function that tells where a number stands, called. -/
theorem get_at (j g : Nat) (w : World) (h : 1 ≤ j) (h7 : j ≤ 7) : Calls Tryd.prog (gfn j) #[.pointer (some ⟨g, 0, none⟩)] w fun e w' => e = .returned (.pointer (some ⟨g, j, none⟩)) ∧ w' = w := by
  have : j = 1 ∨ j = 2 ∨ j = 3 ∨ j = 4 ∨ j = 5 ∨ j = 6 ∨ j = 7 := by omega
  rcases this with rfl | rfl | rfl | rfl | rfl | rfl | rfl
  · exact ga_at g w
  · exact gb_at g w
  · exact gc_at g w
  · exact gfield_at g w
  · exact gshape_at g w
  · exact gx_at g w
  · exact gy_at g w
theorem dig_int (v : Int) (S : ByteArray) (w : World) (h0 : -9223372036854775808 ≤ v) (h1 : v ≤ 9223372036854775807) (hT : Tab w) (hS : Hid (dgB v = S)) :
    Calls Tryd.prog 34 #[.int .i64 v] w fun e w' => e = .returned (.string S) ∧ Below w.heap.size w w' := by
  have c := format_any v w h0 h1 (.inr hT)
  rw [show (⟨(Lib.itoa v).toArray⟩ : ByteArray) = S from hS.out] at c
  clear hT
  go_enter Tryd.func34, Tryd.ntmps34
  go_wp2_with (go_at_call 54; refine c.mono ?_; rintro e w1 ⟨rfl, b1⟩)
  go_ret
  exact ⟨rfl, b1⟩
theorem dig_i64 (v : Int) (S : ByteArray) (w : World) (h0 : -9223372036854775808 ≤ v) (h1 : v ≤ 9223372036854775807) (hT : Tab w) (hS : Hid (dgB v = S)) :
    Calls Tryd.prog 35 #[.int .i64 v] w fun e w' => e = .returned (.string S) ∧ Below w.heap.size w w' := by
  have c := format_any v w h0 h1 (.inr hT)
  rw [show (⟨(Lib.itoa v).toArray⟩ : ByteArray) = S from hS.out] at c
  clear hT
  go_enter Tryd.func35, Tryd.ntmps35
  go_wp2_with (go_at_call 54; refine c.mono ?_; rintro e w1 ⟨rfl, b1⟩)
  go_ret
  exact ⟨rfl, b1⟩
theorem dig_er (v : Int) (S : ByteArray) (w : World) (h0 : -9223372036854775808 ≤ v) (h1 : v ≤ 9223372036854775807) (hT : Tab w) (hS : Hid (dgB v = S)) :
    Calls Tryd.prog 46 #[.int .i64 v] w fun e w' => e = .returned (.string S) ∧ Below w.heap.size w w' := by
  have c := format_any v w h0 h1 (.inr hT)
  rw [show (⟨(Lib.itoa v).toArray⟩ : ByteArray) = S from hS.out] at c
  clear hT
  go_enter Tryd.func46, Tryd.ntmps46
  go_wp2_with (go_at_call 54; refine c.mono ?_; rintro e w1 ⟨rfl, b1⟩)
  go_ret
  exact ⟨rfl, b1⟩
/-- An answer, as a value. -/
abbrev outV (e : Int) (b : Bool) (v : Int) : Value := .agg #[.int .i64 e, .bool b, .int .i64 v]
/-- Its text, where there is no error. -/
def tdl (K : Nat) (b : Bool) (v : Int) : ByteArray :=
  match K with
  | 2 => if b then ⟨#[111, 98, 106, 101, 99, 116]⟩ else ⟨#[110, 111, 116, 104, 105, 110, 103]⟩
  | 4 => if b then ⟨#[121, 101, 115]⟩ else ⟨#[110, 111]⟩
  | 5 => dgB v
  | 7 => if b then ⟨#[121, 101, 115]⟩ else ⟨#[110, 111]⟩
  | 8 => if b then ⟨#[121, 101, 115]⟩ else ⟨#[110, 111]⟩
  | _ => ⟨#[111, 107]⟩
theorem tdone_any (e : Int) (b : Bool) (v : Int) (w : World) : Calls Tryd.prog 68 #[outV e b v] w fun e' w' => e' = .returned (.string ⟨#[111, 107]⟩) ∧ Below w.heap.size w w' := by
  go_enter Tryd.func68, Tryd.ntmps68
  go_wp2
  go_ret
  exact ⟨rfl, below_alloc0 w _⟩
theorem tobj_any (e : Int) (b : Bool) (v : Int) (w : World) : Calls Tryd.prog 69 #[outV e b v] w fun e' w' => e' = .returned (.string (tdl 2 b v)) ∧ Below w.heap.size w w' := by
  cases b <;>
  · go_enter Tryd.func69, Tryd.ntmps69
    go_wp2
    go_ret
    exact ⟨rfl, below_alloc0 w _⟩
theorem tis_any (e : Int) (b : Bool) (v : Int) (w : World) : Calls Tryd.prog 70 #[outV e b v] w fun e' w' => e' = .returned (.string (tdl 4 b v)) ∧ Below w.heap.size w w' := by
  cases b <;>
  · go_enter Tryd.func70, Tryd.ntmps70
    go_wp2
    go_ret
    exact ⟨rfl, below_alloc0 w _⟩
theorem tval_any (e : Int) (b : Bool) (v : Int) (w : World) (h0 : -9223372036854775808 ≤ v) (h1 : v ≤ 9223372036854775807) (hT : Tab w) :
    Calls Tryd.prog 71 #[outV e b v] w fun e' w' => e' = .returned (.string (dgB v)) ∧ Below w.heap.size w w' := by
  obtain ⟨S, hS⟩ : ∃ S, S = dgB v := ⟨_, rfl⟩
  have c := dig_i64 v S _ h0 h1 (tab_below hT (below_alloc0 w (.cells #[.int .i64 e, .bool b, .int .i64 v] 49))) (hid hS.symm)
  rw [← hS]
  clear hT hS h0 h1
  go_enter Tryd.func71, Tryd.ntmps71
  go_wp2_with (go_at_call 35; refine c.mono ?_; rintro e' w1 ⟨rfl, b1⟩)
  go_ret
  exact ⟨rfl, bel1 b1⟩
/-- The function that tells a kind's answer, called. -/
theorem told_at (K : Nat) (e : Int) (b : Bool) (v : Int) (w : World) (h0 : -9223372036854775808 ≤ v) (h1 : v ≤ 9223372036854775807) (hT : Tab w) (k1 : 1 ≤ K) (k2 : K ≤ 11) :
    Calls Tryd.prog (tfn K) #[outV e b v] w fun e' w' => e' = .returned (.string (tdl K b v)) ∧ Below w.heap.size w w' := by
  rcases eleven k1 k2 with rfl | rfl | rfl | rfl | rfl | rfl | rfl | rfl | rfl | rfl | rfl
  · exact tdone_any e b v w
  · exact tobj_any e b v w
  · exact tdone_any e b v w
  · exact tis_any e b v w
  · exact tval_any e b v w h0 h1 hT
  · exact tdone_any e b v w
  · exact tis_any e b v w
  · exact tis_any e b v w
  · exact tdone_any e b v w
  · exact tdone_any e b v w
  · exact tdone_any e b v w
end Go.Proofs.YtfnnckbdaedlbaaDoor
