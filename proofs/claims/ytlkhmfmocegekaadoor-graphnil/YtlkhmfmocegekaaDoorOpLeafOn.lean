/- package op: find at each kind; the functions that tell where numbers stand; digits; what is told. Typed by tools/gen08leaf.py. -/
import Derived.Test.YtlkhmfmocegekaaDoorOpFind
import Derived.Test.YtlkhmfmocegekaaDoorWdReadOn
namespace Go.Proofs.YtlkhmfmocegekaaDoor
open Go.RowKit Go.Oq
theorem kidx1 (B : Nat) (W : World) : (Instr.index 148 (.agg (karr B)) (.int .i64 1)).run Tryd.prog W = .ok (.agg (kc B 1)) W := by kernel_rfl
theorem kidx2 (B : Nat) (W : World) : (Instr.index 148 (.agg (karr B)) (.int .i64 2)).run Tryd.prog W = .ok (.agg (kc B 2)) W := by kernel_rfl
theorem kidx3 (B : Nat) (W : World) : (Instr.index 148 (.agg (karr B)) (.int .i64 3)).run Tryd.prog W = .ok (.agg (kc B 3)) W := by kernel_rfl
theorem kidx4 (B : Nat) (W : World) : (Instr.index 148 (.agg (karr B)) (.int .i64 4)).run Tryd.prog W = .ok (.agg (kc B 4)) W := by kernel_rfl
theorem kidx5 (B : Nat) (W : World) : (Instr.index 148 (.agg (karr B)) (.int .i64 5)).run Tryd.prog W = .ok (.agg (kc B 5)) W := by kernel_rfl
theorem kidx6 (B : Nat) (W : World) : (Instr.index 148 (.agg (karr B)) (.int .i64 6)).run Tryd.prog W = .ok (.agg (kc B 6)) W := by kernel_rfl
theorem kidx7 (B : Nat) (W : World) : (Instr.index 148 (.agg (karr B)) (.int .i64 7)).run Tryd.prog W = .ok (.agg (kc B 7)) W := by kernel_rfl
theorem kidx8 (B : Nat) (W : World) : (Instr.index 148 (.agg (karr B)) (.int .i64 8)).run Tryd.prog W = .ok (.agg (kc B 8)) W := by kernel_rfl
theorem kidx9 (B : Nat) (W : World) : (Instr.index 148 (.agg (karr B)) (.int .i64 9)).run Tryd.prog W = .ok (.agg (kc B 9)) W := by kernel_rfl
theorem kidx10 (B : Nat) (W : World) : (Instr.index 148 (.agg (karr B)) (.int .i64 10)).run Tryd.prog W = .ok (.agg (kc B 10)) W := by kernel_rfl
theorem kidx11 (B : Nat) (W : World) : (Instr.index 148 (.agg (karr B)) (.int .i64 11)).run Tryd.prog W = .ok (.agg (kc B 11)) W := by kernel_rfl
theorem kidx0 (B : Nat) (W : World) : (Instr.index 148 (.agg (karr B)) (.int .i64 0)).run Tryd.prog W = .ok (.agg kz) W := by kernel_rfl
theorem eleven {K : Nat} (h1 : 1 ≤ K) (h2 : K ≤ 11) : K = 1 ∨ K = 2 ∨ K = 3 ∨ K = 4 ∨ K = 5 ∨ K = 6 ∨ K = 7 ∨ K = 8 ∨ K = 9 ∨ K = 10 ∨ K = 11 := by omega
theorem find_yes (K : Nat) (w : World) (h1 : 1 ≤ K) (h2 : K ≤ 11) :
    Calls Tryd.prog 69 #[.int .i64 (K : Int)] w fun e w' => ∃ v1 v2, e = .returned (.tuple #[kV v1 v2 K, .bool true]) ∧ IsNums w' v1 (nums K) ∧ IsNums w' v2 (scas K) ∧ Below w.heap.size w w' := by
  rcases eleven h1 h2 with rfl | rfl | rfl | rfl | rfl | rfl | rfl | rfl | rfl | rfl | rfl
  · exact find_is 1 w h1 h2 kidx1
  · exact find_is 2 w h1 h2 kidx2
  · exact find_is 3 w h1 h2 kidx3
  · exact find_is 4 w h1 h2 kidx4
  · exact find_is 5 w h1 h2 kidx5
  · exact find_is 6 w h1 h2 kidx6
  · exact find_is 7 w h1 h2 kidx7
  · exact find_is 8 w h1 h2 kidx8
  · exact find_is 9 w h1 h2 kidx9
  · exact find_is 10 w h1 h2 kidx10
  · exact find_is 11 w h1 h2 kidx11
theorem ga_at (g : Nat) (w : World) : Calls Tryd.prog 78 #[.pointer (some ⟨g, 0, none⟩)] w fun e w' => e = .returned (.pointer (some ⟨g, 1, none⟩)) ∧ w' = w := by
  go_enter Tryd.func78, Tryd.ntmps78
  go_wp2
  go_ret
  exact ⟨rfl, rfl⟩
theorem gb_at (g : Nat) (w : World) : Calls Tryd.prog 79 #[.pointer (some ⟨g, 0, none⟩)] w fun e w' => e = .returned (.pointer (some ⟨g, 2, none⟩)) ∧ w' = w := by
  go_enter Tryd.func79, Tryd.ntmps79
  go_wp2
  go_ret
  exact ⟨rfl, rfl⟩
theorem gc_at (g : Nat) (w : World) : Calls Tryd.prog 80 #[.pointer (some ⟨g, 0, none⟩)] w fun e w' => e = .returned (.pointer (some ⟨g, 3, none⟩)) ∧ w' = w := by
  go_enter Tryd.func80, Tryd.ntmps80
  go_wp2
  go_ret
  exact ⟨rfl, rfl⟩
theorem gfield_at (g : Nat) (w : World) : Calls Tryd.prog 81 #[.pointer (some ⟨g, 0, none⟩)] w fun e w' => e = .returned (.pointer (some ⟨g, 4, none⟩)) ∧ w' = w := by
  go_enter Tryd.func81, Tryd.ntmps81
  go_wp2
  go_ret
  exact ⟨rfl, rfl⟩
theorem gshape_at (g : Nat) (w : World) : Calls Tryd.prog 82 #[.pointer (some ⟨g, 0, none⟩)] w fun e w' => e = .returned (.pointer (some ⟨g, 5, none⟩)) ∧ w' = w := by
  go_enter Tryd.func82, Tryd.ntmps82
  go_wp2
  go_ret
  exact ⟨rfl, rfl⟩
theorem gx_at (g : Nat) (w : World) : Calls Tryd.prog 83 #[.pointer (some ⟨g, 0, none⟩)] w fun e w' => e = .returned (.pointer (some ⟨g, 6, none⟩)) ∧ w' = w := by
  go_enter Tryd.func83, Tryd.ntmps83
  go_wp2
  go_ret
  exact ⟨rfl, rfl⟩
theorem gy_at (g : Nat) (w : World) : Calls Tryd.prog 84 #[.pointer (some ⟨g, 0, none⟩)] w fun e w' => e = .returned (.pointer (some ⟨g, 7, none⟩)) ∧ w' = w := by
  go_enter Tryd.func84, Tryd.ntmps84
  go_wp2
  go_ret
  exact ⟨rfl, rfl⟩
/-- A function that tells where a number stands, called. -/
theorem get_at (j g : Nat) (w : World) (h : 1 ≤ j) (h7 : j ≤ 7) : Calls Tryd.prog (gfn j) #[.pointer (some ⟨g, 0, none⟩)] w fun e w' => e = .returned (.pointer (some ⟨g, j, none⟩)) ∧ w' = w := by
  have : j = 1 ∨ j = 2 ∨ j = 3 ∨ j = 4 ∨ j = 5 ∨ j = 6 ∨ j = 7 := by omega
  rcases this with rfl | rfl | rfl | rfl | rfl | rfl | rfl
  · exact ga_at g w
  · exact gb_at g w
  · exact gc_at g w
  · exact gfield_at g w
  · exact gshape_at g w
  · exact gx_at g w
  · exact gy_at g w
theorem dig_i64 (v : Int) (S : ByteArray) (w : World) (h0 : -9223372036854775808 ≤ v) (h1 : v ≤ 9223372036854775807) (hT : Tab w) (hS : Hid (dgB v = S)) :
    Calls Tryd.prog 90 #[.int .i64 v] w fun e w' => e = .returned (.string S) ∧ Below w.heap.size w w' := by
  have c := format_any v w h0 h1 (.inr hT)
  rw [show (⟨(Lib.itoa v).toArray⟩ : ByteArray) = S from hS.out] at c
  clear hT
  go_enter Tryd.func90, Tryd.ntmps90
  go_wp2_with (go_at_call 92; refine c.mono ?_; rintro e w1 ⟨rfl, b1⟩)
  go_ret
  exact ⟨rfl, b1⟩
/-- An answer, as a value. -/
abbrev outV (e : Int) (b : Bool) (v : Int) : Value := .agg #[.int .i64 e, .bool b, .int .i64 v]
/-- Its text, where there is no error. -/
def tdl (K : Nat) (b : Bool) (v : Int) : ByteArray :=
  match K with
  | 2 => if b then ⟨#[111, 98, 106, 101, 99, 116]⟩ else ⟨#[110, 111, 116, 104, 105, 110, 103]⟩
  | 4 => if b then ⟨#[121, 101, 115]⟩ else ⟨#[110, 111]⟩
  | 5 => dgB v
  | 7 => if b then ⟨#[121, 101, 115]⟩ else ⟨#[110, 111]⟩
  | 8 => if b then ⟨#[121, 101, 115]⟩ else ⟨#[110, 111]⟩
  | _ => ⟨#[111, 107]⟩
theorem tdone_any (e : Int) (b : Bool) (v : Int) (w : World) : Calls Tryd.prog 85 #[outV e b v] w fun e' w' => e' = .returned (.string ⟨#[111, 107]⟩) ∧ Below w.heap.size w w' := by
  go_enter Tryd.func85, Tryd.ntmps85
  go_wp2
  go_ret
  exact ⟨rfl, below_alloc0 w _⟩
theorem tobj_any (e : Int) (b : Bool) (v : Int) (w : World) : Calls Tryd.prog 86 #[outV e b v] w fun e' w' => e' = .returned (.string (tdl 2 b v)) ∧ Below w.heap.size w w' := by
  cases b <;>
  · go_enter Tryd.func86, Tryd.ntmps86
    go_wp2
    go_ret
    exact ⟨rfl, below_alloc0 w _⟩
theorem tis_any (e : Int) (b : Bool) (v : Int) (w : World) : Calls Tryd.prog 87 #[outV e b v] w fun e' w' => e' = .returned (.string (tdl 4 b v)) ∧ Below w.heap.size w w' := by
  cases b <;>
  · go_enter Tryd.func87, Tryd.ntmps87
    go_wp2
    go_ret
    exact ⟨rfl, below_alloc0 w _⟩
theorem tval_any (e : Int) (b : Bool) (v : Int) (w : World) (h0 : -9223372036854775808 ≤ v) (h1 : v ≤ 9223372036854775807) (hT : Tab w) :
    Calls Tryd.prog 88 #[outV e b v] w fun e' w' => e' = .returned (.string (dgB v)) ∧ Below w.heap.size w w' := by
  obtain ⟨S, hS⟩ : ∃ S, S = dgB v := ⟨_, rfl⟩
  have c := dig_i64 v S _ h0 h1 (tab_below hT (below_alloc0 w (.cells #[.int .i64 e, .bool b, .int .i64 v] 39))) (hid hS.symm)
  rw [← hS]
  clear hT hS h0 h1
  go_enter Tryd.func88, Tryd.ntmps88
  go_wp2_with (go_at_call 90; refine c.mono ?_; rintro e' w1 ⟨rfl, b1⟩)
  go_ret
  exact ⟨rfl, bel1 b1⟩
/-- The function that tells a kind's answer, called. -/
theorem told_at (K : Nat) (e : Int) (b : Bool) (v : Int) (w : World) (h0 : -9223372036854775808 ≤ v) (h1 : v ≤ 9223372036854775807) (hT : Tab w) (k1 : 1 ≤ K) (k2 : K ≤ 11) :
    Calls Tryd.prog (tfn K) #[outV e b v] w fun e' w' => e' = .returned (.string (tdl K b v)) ∧ Below w.heap.size w w' := by
  rcases eleven k1 k2 with rfl | rfl | rfl | rfl | rfl | rfl | rfl | rfl | rfl | rfl | rfl
  · exact tdone_any e b v w
  · exact tobj_any e b v w
  · exact tdone_any e b v w
  · exact tis_any e b v w
  · exact tval_any e b v w h0 h1 hT
  · exact tdone_any e b v w
  · exact tis_any e b v w
  · exact tis_any e b v w
  · exact tdone_any e b v w
  · exact tdone_any e b v w
  · exact tdone_any e b v w
end Go.Proofs.YtlkhmfmocegekaaDoor
/- package op: named; Name; Field. -/
namespace Go.Proofs.YtlkhmfmocegekaaDoor
open Go.RowKit Go.Oq
/-- The table's row, at any index. -/
def ck (B K : Nat) : Array Value := if K = 0 then kz else kc B K
theorem kidx (B : Nat) {K : Nat} (h : K ≤ 11) (W : World) : (Instr.index 148 (.agg (karr B)) (.int .i64 (K : Int))).run Tryd.prog W = .ok (.agg (ck B K)) W := by
  by_cases h0 : K = 0
  · subst h0; exact kidx0 B W
  · rw [ck, if_neg h0]
    rcases eleven (K := K) (by omega) h with rfl | rfl | rfl | rfl | rfl | rfl | rfl | rfl | rfl | rfl | rfl
    · exact kidx1 B W
    · exact kidx2 B W
    · exact kidx3 B W
    · exact kidx4 B W
    · exact kidx5 B W
    · exact kidx6 B W
    · exact kidx7 B W
    · exact kidx8 B W
    · exact kidx9 B W
    · exact kidx10 B W
    · exact kidx11 B W
theorem slN_one (B b : Nat) (js : List Nat) : (slN B b js).oneCell' = true := by unfold slN; split <;> rfl
theorem kc_one (B K : Nat) : (kc B K).all (·.oneCell') = true := by
  have a : (kc B K).all (·.oneCell') = ((slN B (nb K) (nums K)).oneCell' && (slN B (sb K) (scas K)).oneCell') := by simp [kc, kcell, Value.oneCell']
  rw [a, slN_one, slN_one]; rfl
theorem ck_one (B K : Nat) : (ck B K).all (·.oneCell') = true := by
  unfold ck
  split
  · exact kz_one
  · exact kc_one B K
theorem ck_size (B K : Nat) : (Tryd.prog.info? 128).map (·.size) = some (ck B K).size := by
  rw [k_size]
  unfold ck
  split <;> rfl
theorem ck_six (B K : Nat) : 6 = (ck B K).size := by
  unfold ck
  split <;> rfl
theorem ck_name (B K : Nat) : (ck B K)[0]? = some (.string (nam K)) := by
  unfold ck
  split
  · next h => subst h; rfl
  · rfl
theorem knd_none {s : ByteArray} (h : ∀ j, j < 12 → nam j ≠ s) : knd s = 0 := by
  by_cases hk : knd s = 0
  · exact hk
  · obtain ⟨a, _, b⟩ := nam_knd hk
    exact absurd a (h _ (by omega))
theorem knd_at {K : Nat} (h : K ≤ 11) : knd (nam K) = K := by
  by_cases h0 : K = 0
  · subst h0; rfl
  · exact knd_nam (by omega) h
theorem str_beq {a b : ByteArray} : (a.toList == b.toList) = decide (a = b) := by
  rw [Wd.toL, Wd.toL, Bool.eq_iff_iff, beq_iff_eq, decide_eq_true_eq]
  constructor
  · intro h
    rw [← Sh.bs_of a, h, Sh.bs_of]
  · rintro rfl; rfl
end Go.Proofs.YtlkhmfmocegekaaDoor
