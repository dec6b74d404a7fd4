/- package op: a table of kinds as it stands; find. -/
import Derived.Test.YtlkhmfmocegekaaDoorOpKindsOn
import Derived.Test.YtlkhmfmocegekaaDoorWdMathOn
namespace Go.Proofs.YtlkhmfmocegekaaDoor
open Go.RowKit Go.Oq
/-- A list of functions that tell where numbers stand. -/
def IsNums (w : World) (v : Value) (js : List Nat) : Prop :=
  (js = [] ∧ v = .slice none 0 0) ∨ ∃ g, v = .slice (some ⟨g, 0, none⟩) js.length js.length ∧ 0 < js.length ∧ ∀ i, i < js.length → w.cell? ⟨g, i, none⟩ = some (gV (js.getD i 0))
theorem IsNums.below {w w' : World} {v : Value} {js : List Nat} {B : Nat} (h : IsNums w v js) (hB : w.heap.size ≤ B) (b : Below B w w') : IsNums w' v js := by
  rcases h with h | ⟨g, rfl, h0, h⟩
  · exact .inl h
  · exact .inr ⟨g, rfl, h0, fun i hi => (b.cell (p := ⟨g, i, none⟩) (Nat.lt_of_lt_of_le (block_lt_of_cell (h i hi)) hB)).trans (h i hi)⟩
theorem nums_row {w : World} {v : Value} {js : List Nat} {g : Nat} {cs old : Array Value} {t : TypeId} {fr : Nat × Nat} (h : IsNums w v js) (_hg : w.heap[g]? = some (.cells old t fr)) (hne : ∀ i, i < js.length → ∀ b, v = .slice (some ⟨b, 0, none⟩) js.length js.length → b ≠ g) : IsNums (w.setRow g cs) v js := by
  rcases h with h | ⟨b, rfl, h0, h⟩
  · exact .inl h
  · refine .inr ⟨b, rfl, h0, fun i hi => ?_⟩
    rw [cell_setRow_other _ _ _ _ (hne i hi b rfl)]
    exact h i hi
theorem IsNums.slice {w : World} {v : Value} {js : List Nat} (h : IsNums w v js) : ∃ a, v = .slice a js.length js.length ∧ ∀ i, i < js.length → ∃ g, a = some ⟨g, 0, none⟩ ∧ w.cell? ⟨g, i, none⟩ = some (gV (js.getD i 0)) := by
  rcases h with ⟨rfl, rfl⟩ | ⟨g, rfl, h0, h⟩
  · exact ⟨none, rfl, fun i hi => by simp at hi⟩
  · exact ⟨_, rfl, fun i hi => ⟨g, rfl, h i hi⟩⟩
/-- Both lists of each kind, where the table was made ahead of block B + 1. -/
def KL (w : World) (B : Nat) : Prop := ∀ K, 1 ≤ K → K ≤ 11 → IsNums w (slN B (nb K) (nums K)) (nums K) ∧ IsNums w (slN B (sb K) (scas K)) (scas K)
theorem nums_of_row {w : World} {B b : Nat} {js : List Nat} {t : TypeId} (h : w.heap[B + b]? = some (.cells (grwA js) t)) : IsNums w (slN B b js) js := by
  by_cases hj : js = []
  · subst hj; exact .inl ⟨rfl, rfl⟩
  · refine .inr ⟨B + b, by rw [slN, if_neg hj], List.length_pos_iff.2 hj, fun i hi => at_row h i ?_⟩
    rw [grwA, List.getElem?_toArray, List.getElem?_map, List.getElem?_eq_getElem hi, List.getD_eq_getElem?_getD, List.getElem?_eq_getElem hi]
    rfl
theorem nums_none {w : World} {B b : Nat} : IsNums w (slN B b []) [] := .inl ⟨rfl, rfl⟩
theorem slN_at {B b g n m : Nat} {js : List Nat} (h : slN B b js = .slice (some ⟨g, 0, none⟩) n m) : g = B + b := by
  unfold slN at h
  split at h
  · cases h
  · simp only [Value.slice.injEq, Option.some.injEq, Addr.mk.injEq] at h
    exact h.1.1.symm
theorem kinds_at (w : World) :
    Calls Tryd.prog 75 #[] w fun e w' => ∃ B, e = .returned (.agg (karr B)) ∧ w.heap.size ≤ B ∧ KL w' B ∧ Below w.heap.size w w' := by
  refine (kinds_any w).mono ?_
  rintro e w' ⟨rfl, rfl⟩
  refine ⟨_, rfl, Nat.le_refl _, fun K h1 h2 => ?_, below_setRow (kW_below w 12) (Nat.le_refl _) _⟩
  have hr : ∀ i, i < 12 → ((kW w 12).setRow w.heap.size (karr w.heap.size)).heap[w.heap.size + (i + 1)]? = some (krow i) := fun i hi => by
    rw [setRow_other _ _ _ _ (by omega)]
    exact kW_row w i 12 hi
  have : K = 1 ∨ K = 2 ∨ K = 3 ∨ K = 4 ∨ K = 5 ∨ K = 6 ∨ K = 7 ∨ K = 8 ∨ K = 9 ∨ K = 10 ∨ K = 11 := by omega
  rcases this with rfl | rfl | rfl | rfl | rfl | rfl | rfl | rfl | rfl | rfl | rfl
  · exact ⟨nums_of_row (hr 0 (by omega)), nums_none⟩
  · exact ⟨nums_of_row (hr 1 (by omega)), nums_none⟩
  · exact ⟨nums_of_row (hr 2 (by omega)), nums_none⟩
  · exact ⟨nums_of_row (hr 3 (by omega)), nums_none⟩
  · exact ⟨nums_of_row (hr 4 (by omega)), nums_none⟩
  · exact ⟨nums_of_row (hr 5 (by omega)), nums_of_row (hr 6 (by omega))⟩
  · exact ⟨nums_of_row (hr 7 (by omega)), nums_of_row (hr 8 (by omega))⟩
  · exact ⟨nums_of_row (hr 9 (by omega)), nums_none⟩
  · exact ⟨nums_of_row (hr 10 (by omega)), nums_none⟩
  · exact ⟨nums_of_row (hr 11 (by omega)), nums_none⟩
  · exact ⟨nums_none, nums_none⟩
theorem cell_l1 (w : World) (O : Obj) (cs : Array Value) (t : TypeId) (j : Nat) (v : Value) (h : cs[j]? = some v) : ((w.alloc O).alloc (.cells cs t)).cell? ⟨w.heap.size + 1, j, none⟩ = some v := by
  have := cell_last (w.alloc O) cs t j v h
  rwa [size_alloc] at this
theorem kin_win (k : Int) : Pk.win 1 11 [k] = kin k := by simp [Pk.win, kin]
theorem owithin_kin (k : Int) (g : Nat) (w : World) (hc : w.cell? ⟨g, 0, none⟩ = some (.int .i64 k)) (b : Bool) (hb : kin k = b) :
    Calls Tryd.prog 74 #[.int .i64 1, .int .i64 11, .slice (some ⟨g, 0, none⟩) 1 1] w fun e w' => e = .returned (.bool b) ∧ w' = w := by
  have h := owithin_k 1 11 g 0 1 1 [k] w (hid rfl) (by omega) (hid (fun i hi => by
    obtain rfl : i = 0 := by omega
    exact hc))
  rwa [kin_win, hb] at h
/-- A kind as a value. -/
abbrev kV (v1 v2 : Value) (K : Nat) : Value := .agg (kcell v1 v2 K)
theorem k_size : (Tryd.prog.info? 128).map (·.size) = some 6 := by kernel_rfl
set_option maxHeartbeats 1000000 in
theorem find_no (k : Int) (w : World) (h : kin k = false) :
    Calls Tryd.prog 69 #[.int .i64 k] w fun e w' => e = .returned (.tuple #[.agg kz, .bool false]) ∧ Below w.heap.size w w' := by
  have HK := hid h
  clear h
  go_enter Tryd.func69, Tryd.ntmps69
  go_wp2_with (go_at_call 74; refine (owithin_kin k _ _ (cell_l1 _ _ _ _ 0 _ rfl) false HK.out).mono ?_; rintro e w' ⟨rfl, rfl⟩)
  exact bodyPost_ret (v := .tuple #[.agg kz, .bool false]) (by simp [results, Tryd.results69, go_sem, kz]) rfl ⟨rfl, (below_alloc0 w _).alloc (by simp) _⟩
theorem results_row_slot {fn : Func} {p q : Tmp} {ty : TypeId} (h : fn.results = #[.cell p ty, .tmp q]) (tmps : Array Value) (w : World) (g : Nat) (t : TypeId) (cs : Array Value) (fr : Nat × Nat) {fs : Array Field} (v : Value)
    (hp : tmps.getD p undef = .pointer (some ⟨g, 0, none⟩)) (hq : tmps.getD q undef = v) (hg : w.heap[g]? = some (.cells cs t fr))
    (hu : Tryd.prog.underlying ty = some (.struct fs)) (hi : (Tryd.prog.info? ty).map (·.size) = some cs.size) :
    (results fn tmps).run Tryd.prog w = .ok (.tuple #[.agg cs, v]) w := by
  have hp' : tmps[p]?.getD undef = .pointer (some ⟨g, 0, none⟩) := by simpa using hp
  have hq' : tmps[q]?.getD undef = v := by simpa using hq
  simp [results, h, hp', hq', asAddr, run_loadVar_row w g t ty cs fr (.struct fs) hg hu rfl hi]
theorem kz_one : kz.all (·.oneCell') = true := by kernel_rfl
theorem kcell_one {w : World} {v1 v2 : Value} {js ks : List Nat} (h1 : IsNums w v1 js) (h2 : IsNums w v2 ks) (K : Nat) : (kcell v1 v2 K).all (·.oneCell') = true := by
  have e1 : v1.oneCell' = true := by rcases h1 with ⟨_, rfl⟩ | ⟨g, rfl, _⟩ <;> rfl
  have e2 : v2.oneCell' = true := by rcases h2 with ⟨_, rfl⟩ | ⟨g, rfl, _⟩ <;> rfl
  have a : (kcell v1 v2 K).all (·.oneCell') = (v1.oneCell' && v2.oneCell') := by simp [kcell, Value.oneCell']
  rw [a, e1, e2]; rfl
theorem kcell_size (v1 v2 : Value) (K : Nat) : (Tryd.prog.info? 128).map (·.size) = some (kcell v1 v2 K).size := by rw [k_size]; rfl
set_option maxRecDepth 100000 in
set_option maxHeartbeats 2000000 in
theorem find_is (K : Nat) (w : World) (h1 : 1 ≤ K) (h2 : K ≤ 11)
    (hx : ∀ B W, (Instr.index 148 (.agg (karr B)) (.int .i64 (K : Int))).run Tryd.prog W = .ok (.agg (kc B K)) W) :
    Calls Tryd.prog 69 #[.int .i64 (K : Int)] w fun e w' => ∃ v1 v2, e = .returned (.tuple #[kV v1 v2 K, .bool true]) ∧ IsNums w' v1 (nums K) ∧ IsNums w' v2 (scas K) ∧ Below w.heap.size w w' := by
  have HK : Hid (kin K = true) := hid (by simp [kin]; omega)
  have HX := hid hx
  have H1 := hid h1
  have H2 := hid h2
  clear hx h1 h2
  go_enter Tryd.func69, Tryd.ntmps69
  go_wp2_with (first
    | (go_at_call 74; refine (owithin_kin K _ _ (cell_l1 _ _ _ _ 0 _ rfl) true HK.out).mono ?_; rintro e w' ⟨rfl, rfl⟩)
    | (go_at_call 75; refine (kinds_at _).mono ?_))
  rintro e w1 ⟨B, rfl, hle, hL, b1⟩
  have HB2 : Hid (w.heap.size + 1 < B) := hid (by simp at hle; omega)
  clear hle
  have hR := hid (row2a b1)
  have hB := hid (bel2 b1)
  clear b1
  obtain ⟨l1, l2⟩ := hL K H1.out H2.out
  have hidx := HX.out B
  clear hL
  have ho := kcell_one l1 l2 K
  have l1 := hid l1
  have l2 := hid l2
  have hR2 := hid (setRow_heap w1 w.heap.size _ (kc B K) _ _ hR.out)
  have hlt := hid (show w.heap.size < w1.heap.size from (Array.getElem?_eq_some_iff.1 hR.out).1)
  go_wp2_with (refine wpList_store_row rfl 128 _ _ rfl w.heap.size (kc B K) rfl rfl 128 _ hR.out (kcell_size _ _ _) rfl ho ?_)
  exact bodyPost_ret (v := .tuple #[.agg (kc B K), .bool true]) (results_row_slot Tryd.results69 _ _ w.heap.size 128 (kc B K) (0, 0) _ rfl rfl hR2.out Tryd.underlying128 (kcell_size _ _ _)) rfl
    ⟨_, _, rfl, nums_row l1.out hR.out (fun i _ b e => by have := slN_at e; have := HB2.out; omega), nums_row l2.out hR.out (fun i _ b e => by have := slN_at e; have := HB2.out; omega), below_setRow hB.out (Nat.le_refl _) _⟩
end Go.Proofs.YtlkhmfmocegekaaDoor
