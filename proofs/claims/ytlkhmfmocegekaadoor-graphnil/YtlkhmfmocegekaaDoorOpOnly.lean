/- package op: only, kindOf. -/
import Derived.Test.YtlkhmfmocegekaaDoorOpLeafOn
import Derived.BigRegion
namespace Go.Proofs.YtlkhmfmocegekaaDoor
open Go.RowKit Go.Oq
/-- An operation's cells. -/
abbrev row (f : Nat → Int) : Array Value := #[.int .i64 (f 0), .int .i64 (f 1), .int .i64 (f 2), .int .i64 (f 3), .int .i64 (f 4), .int .i64 (f 5), .int .i64 (f 6), .int .i64 (f 7)]
abbrev opV (f : Nat → Int) : Value := .agg (row f)
theorem row_get (f : Nat → Int) {j : Nat} (h : j < 8) : (row f)[j]? = some (.int .i64 (f j)) := by
  have : j = 0 ∨ j = 1 ∨ j = 2 ∨ j = 3 ∨ j = 4 ∨ j = 5 ∨ j = 6 ∨ j = 7 := by omega
  rcases this with rfl | rfl | rfl | rfl | rfl | rfl | rfl | rfl <;> rfl
theorem row_upd (f : Nat → Int) {j : Nat} (h : j < 8) (v : Int) : (row f).setIfInBounds j (.int .i64 v) = row (upd f j v) := by
  have : j = 0 ∨ j = 1 ∨ j = 2 ∨ j = 3 ∨ j = 4 ∨ j = 5 ∨ j = 6 ∨ j = 7 := by omega
  rcases this with rfl | rfl | rfl | rfl | rfl | rfl | rfl | rfl <;> rfl
theorem row_set {w : World} {g : Nat} {f : Nat → Int} {t : TypeId} (h : w.heap[g]? = some (.cells (row f) t)) {j : Nat} (hj : j < 8) (v : Int) : (w.setCell ⟨g, j, none⟩ (.int .i64 v)).heap[g]? = some (.cells (row (upd f j v)) t) := by
  rw [heap_setCell_same w g j (row f) t _ h, row_upd f hj]
theorem row_one (f : Nat → Int) : (row f).all (·.oneCell') = true := by simp [Value.oneCell']
theorem op_size (f : Nat → Int) : (Tryd.prog.info? 28).map (·.size) = some (row f).size := by kernel_rfl
theorem five (w : World) (A B C D E : Obj) : let W := (((((w.alloc A).alloc B).alloc C).alloc D).alloc E).drew
    W.heap[w.heap.size]? = some A ∧ W.heap[w.heap.size + 1]? = some B ∧ W.heap[w.heap.size + 1 + 1]? = some C ∧ W.heap[w.heap.size + 1 + 1 + 1]? = some D ∧ W.heap[w.heap.size + 1 + 1 + 1 + 1]? = some E ∧ Below w.heap.size w W ∧ W.heap.size = w.heap.size + 1 + 1 + 1 + 1 + 1 := by
  intro W
  have hW : W.heap = (((((w.alloc A).alloc B).alloc C).alloc D).alloc E).heap := rfl
  have s1 := size_alloc w A
  have s2 := size_alloc (w.alloc A) B
  have s3 := size_alloc ((w.alloc A).alloc B) C
  have s4 := size_alloc (((w.alloc A).alloc B).alloc C) D
  have s5 := size_alloc ((((w.alloc A).alloc B).alloc C).alloc D) E
  rw [hW]
  refine ⟨?_, ?_, ?_, ?_, ?_, ((((((Below.refl w.heap.size w).alloc (by omega) A).alloc (by omega) B).alloc (by omega) C).alloc (by omega) D).alloc (by omega) E).drew, by omega⟩
  · rw [Below.heap_alloc _ _ _ (by omega), Below.heap_alloc _ _ _ (by omega), Below.heap_alloc _ _ _ (by omega), Below.heap_alloc _ _ _ (by omega)]
    exact heap_alloc_last w A
  · rw [Below.heap_alloc _ _ _ (by omega), Below.heap_alloc _ _ _ (by omega), Below.heap_alloc _ _ _ (by omega), ← s1]
    exact heap_alloc_last _ B
  · rw [Below.heap_alloc _ _ _ (by omega), Below.heap_alloc _ _ _ (by omega), ← s1, ← s2]
    exact heap_alloc_last _ C
  · rw [Below.heap_alloc _ _ _ (by omega), ← s1, ← s2, ← s3]
    exact heap_alloc_last _ D
  · rw [← s1, ← s2, ← s3, ← s4]
    exact heap_alloc_last _ E
theorem five' {w W : World} {A B C D E : Obj} (h : (((((w.alloc A).alloc B).alloc C).alloc D).alloc E).drew = W) :
    W.heap[w.heap.size]? = some A ∧ W.heap[w.heap.size + 1]? = some B ∧ W.heap[w.heap.size + 1 + 1]? = some C ∧ W.heap[w.heap.size + 1 + 1 + 1]? = some D ∧ W.heap[w.heap.size + 1 + 1 + 1 + 1]? = some E ∧ Below w.heap.size w W ∧ W.heap.size = w.heap.size + 1 + 1 + 1 + 1 + 1 := by
  subst h; exact five w A B C D E
theorem gfn_enters (j : Nat) (h : 1 ≤ j) (h7 : j ≤ 7) : ∀ args w, (callFunc (gfn j) args).run Tryd.prog w = .ok (.enter (gfn j) args) w := by
  have : j = 1 ∨ j = 2 ∨ j = 3 ∨ j = 4 ∨ j = 5 ∨ j = 6 ∨ j = 7 := by omega
  rcases this with rfl | rfl | rfl | rfl | rfl | rfl | rfl
  · exact enters_of Tryd.func78 (by kernel_rfl) rfl
  · exact enters_of Tryd.func79 (by kernel_rfl) rfl
  · exact enters_of Tryd.func80 (by kernel_rfl) rfl
  · exact enters_of Tryd.func81 (by kernel_rfl) rfl
  · exact enters_of Tryd.func82 (by kernel_rfl) rfl
  · exact enters_of Tryd.func83 (by kernel_rfl) rfl
  · exact enters_of Tryd.func84 (by kernel_rfl) rfl
/-- What stands while numbers are laid: the kind's box, the answer's, both operations. -/
structure OnS (w : World) (kr : Array Value) (f h : Nat → Int) (T F : Nat) (W : World) : Prop where
  bel : Below w.heap.size w W
  kind : W.heap[w.heap.size]? = some (.cells kr 128)
  out : W.heap[w.heap.size + 1 + 1]? = some (.cells (row fun _ => 0) 28)
  frm : W.heap[F]? = some (.cells (row f) 151)
  to : W.heap[T]? = some (.cells (row h) 151)
theorem OnS.set {w W : World} {kr : Array Value} {f h : Nat → Int} {T F : Nat} (a : OnS w kr f h T F W) (h1 : w.heap.size + 1 + 1 < T) (h2 : F ≠ T) {j : Nat} (hj : j < 8) (v : Int) : OnS w kr f (upd h j v) T F (W.setCell ⟨T, j, none⟩ (.int .i64 v)) :=
  ⟨a.bel.setCell (p := ⟨T, j, none⟩) (by show w.heap.size ≤ T; omega) _, (heap_setCell_other W ⟨T, j, none⟩ _ _ (by show w.heap.size ≠ T; omega)).trans a.kind, (heap_setCell_other W ⟨T, j, none⟩ _ _ (by show w.heap.size + 1 + 1 ≠ T; omega)).trans a.out, (heap_setCell_other W ⟨T, j, none⟩ _ _ h2).trans a.frm, row_set a.to hj v⟩
theorem take_lay (f : Nat → Int) (js : List Nat) (g : Nat → Int) {k : Nat} (h : k < js.length) : lay f (js.take (k + 1)) g = upd (lay f (js.take k) g) (js.getD k 0) (f (js.getD k 0)) := by
  rw [List.take_succ_eq_append_getElem h, lay_snoc, List.getD_eq_getElem?_getD, List.getElem?_eq_getElem h]; rfl
theorem getD_mem {js : List Nat} {k : Nat} (h : k < js.length) : js.getD k 0 ∈ js := by
  rw [List.getD_eq_getElem?_getD, List.getElem?_eq_getElem h]; exact List.getElem_mem h
theorem nums_lt {K j : Nat} (h : j ∈ nums K) : 1 ≤ j ∧ j ≤ 7 := by
  have := alln_lt K j (List.mem_append_left _ h)
  omega
theorem scas_lt {K j : Nat} (h : j ∈ scas K) : 1 ≤ j ∧ j ≤ 7 := by
  have := alln_lt K j (List.mem_append_right _ h)
  omega
theorem nums_len (K : Nat) : (nums K).length ≤ 4 := by
  have := alln_len K
  rw [alln, List.length_append] at this
  omega
theorem scas_len (K : Nat) : (scas K).length ≤ 4 := by
  have := alln_len K
  rw [alln, List.length_append] at this
  omega
set_option maxRecDepth 100000 in
set_option maxHeartbeats 8000000 in
theorem konly_at (K : Nat) (v1 v2 : Value) (f : Nat → Int) (w : World) (h1 : IsNums w v1 (nums K)) (h2 : IsNums w v2 (scas K)) :
    Calls Tryd.prog 70 #[kV v1 v2 K, opV f] w fun e w' => e = .returned (opV (lay f (alln K) (bar (f 0)))) ∧ Below w.heap.size w w' := by
  obtain ⟨a1, rfl, l1⟩ := h1.slice
  obtain ⟨a2, rfl, l2⟩ := h2.slice
  have L1 := hid l1
  have L2 := hid l2
  clear l1 l2 h1 h2
  generalize hn1 : (nums K).length = n1 at *
  generalize hn2 : (scas K).length = n2 at *
  have HN1 := hid hn1
  have HN2 := hid hn2
  have hb1 : n1 ≤ 4 := by rw [← hn1]; exact nums_len K
  have hb2 : n2 ≤ 4 := by rw [← hn2]; exact scas_len K
  clear hn1 hn2
  obtain ⟨kr, hkr⟩ : ∃ kr, kr = kcell (.slice a1 n1 n1) (.slice a2 n2 n2) K := ⟨_, rfl⟩
  have HKR := hid hkr
  clear hkr
  go_enter Tryd.func70, Tryd.ntmps70
  go_wp2_with fail
  go_region
  · generalize hW0 : World.drew _ = W0
    obtain ⟨q0, _, q2, q3, q4, bb, sz⟩ := five' hW0
    clear hW0
    rw [← HKR.out] at q0
    generalize e4 : w.heap.size + 1 + 1 + 1 + 1 = N4 at *
    generalize e3 : w.heap.size + 1 + 1 + 1 = N3 at *
    have HT1 : Hid (w.heap.size + 1 + 1 < N4) := hid (by omega)
    have HTF : Hid (N3 ≠ N4) := hid (by omega)
    have HS : Hid (OnS w kr f (bar (f 0)) N4 N3 W0) := hid ⟨bb, q0, q2, q3, q4⟩
    have k1 : W0.cell? ⟨w.heap.size, 1, none⟩ = some (.slice a1 n1 n1) := at_row q0 1 (by rw [HKR.out]; rfl)
    clear bb q0 q2 q3 q4 sz e3 e4
    go_wp2_with fail
    go_loopw [20] (fun i wr => ∃ k : Nat, k ≤ n1 ∧ i = .int .i64 k ∧ Hid (OnS w kr f (lay f ((nums K).take k) (bar (f 0))) N4 N3 wr)) (fun i _ => n1 - (intOf i).toNat)
    case atStart => exact ⟨0, by omega, rfl, HS⟩
    case round =>
      obtain ⟨k, hk, rfl, hS⟩ := hrel
      by_cases hlt : k < n1
      · obtain ⟨g, rfl, hc⟩ := L1.out k hlt
        have hjs : k < (nums K).length := by rw [HN1.out]; exact hlt
        have hj := nums_lt (K := K) (getD_mem hjs)
        have HU := hid (take_lay f (nums K) (bar (f 0)) hjs)
        have hc2 := (hS.out.bel.cell (p := ⟨g, k, none⟩) (block_lt_of_cell hc)).trans hc
        generalize (nums K).getD k 0 = j at *
        have hc3 : wr.cell? ⟨g, k, none⟩ = some (.func (.func (gfn j)) #[] #[]) := hc2
        have he := gfn_enters j hj.1 hj.2
        have cF := at_row hS.out.frm j (row_get f (by omega))
        have fT := fz_row hS.out.to j
        have cT := at_row hS.out.to j (row_get _ (by omega))
        have hj1 := hid hj.1
        have hj2 := hid hj.2
        have kn : (k : Int) < n1 := by omega
        clear hc hc2 hjs hj
        go_wp2_with (go_at_fn (gfn j); refine (get_at j _ _ hj1.out hj2.out).mono ?_; rintro e w' ⟨rfl, rfl⟩)
        exact ⟨⟨k + 1, by omega, by go_num, hid (by rw [HU.out]; exact hS.out.set HT1.out HTF.out (by have := hj2.out; omega) _)⟩, by simp [intOf]; omega⟩
      · obtain rfl : k = n1 := by omega
        clear hlt
        have HS3 : Hid (OnS w kr f (lay f (nums K) (bar (f 0))) N4 N3 wr) := hid (by
          have := hS.out
          rwa [List.take_of_length_le (by rw [HN1.out]; exact Nat.le_refl _)] at this)
        have k2 : wr.cell? ⟨w.heap.size, 2, none⟩ = some (.slice a2 n2 n2) := at_row HS3.out.kind 2 (by rw [HKR.out]; rfl)
        clear hS
        go_wp2_with fail
        go_loopw [35] (fun i wr => ∃ k : Nat, k ≤ n2 ∧ i = .int .i64 k ∧ Hid (OnS w kr f (lay f ((scas K).take k) (lay f (nums K) (bar (f 0)))) N4 N3 wr)) (fun i _ => n2 - (intOf i).toNat)
        case atStart => exact ⟨0, by omega, rfl, HS3⟩
        case round =>
          obtain ⟨k, hk, rfl, hS⟩ := hrel
          by_cases hlt : k < n2
          · obtain ⟨g, rfl, hc⟩ := L2.out k hlt
            have hjs : k < (scas K).length := by rw [HN2.out]; exact hlt
            have hj := scas_lt (K := K) (getD_mem hjs)
            have HU := hid (take_lay f (scas K) (lay f (nums K) (bar (f 0))) hjs)
            have hc2 := (hS.out.bel.cell (p := ⟨g, k, none⟩) (block_lt_of_cell hc)).trans hc
            generalize (scas K).getD k 0 = j at *
            have hc3 : wr.cell? ⟨g, k, none⟩ = some (.func (.func (gfn j)) #[] #[]) := hc2
            have he := gfn_enters j hj.1 hj.2
            have cF := at_row hS.out.frm j (row_get f (by omega))
            have fT := fz_row hS.out.to j
            have cT := at_row hS.out.to j (row_get _ (by omega))
            have hj1 := hid hj.1
            have hj2 := hid hj.2
            have kn : (k : Int) < n2 := by omega
            clear hc hc2 hjs hj
            go_wp2_with (go_at_fn (gfn j); refine (get_at j _ _ hj1.out hj2.out).mono ?_; rintro e w' ⟨rfl, rfl⟩)
            exact ⟨⟨k + 1, by omega, by go_num, hid (by rw [HU.out]; exact hS.out.set HT1.out HTF.out (by have := hj2.out; omega) _)⟩, by simp [intOf]; omega⟩
          · obtain rfl : k = n2 := by omega
            clear hlt
            have HS4 : Hid (OnS w kr f (lay f (alln K) (bar (f 0))) N4 N3 wr) := hid (by
              have := hS.out
              rwa [List.take_of_length_le (by rw [HN2.out]; exact Nat.le_refl _), ← lay_append] at this)
            clear hS
            generalize hg : lay f (alln K) (bar (f 0)) = g at *
            have HG := hid hg
            clear hg
            go_wp2_with (first
              | (refine wpList_load_row rfl 28 _ rfl N4 rfl 151 (row g) (0, 0) _ HS4.out.to Tryd.underlying28 rfl (op_size g) ?_)
              | (refine wpList_store_row rfl 28 _ _ rfl (w.heap.size + 1 + 1) (row g) rfl rfl 28 _ HS4.out.out (op_size g) rfl (row_one g) ?_))
            exact bodyPost_ret (v := .agg (row g)) (results_cell_row Tryd.results70 _ _ (w.heap.size + 1 + 1) 28 (row g) (0, 0) _ rfl (setRow_heap _ _ _ _ _ _ HS4.out.out) Tryd.underlying28 rfl (op_size g)) rfl ⟨by rw [HG.out], below_setRow HS4.out.bel (by omega) _⟩
  · generalize hW0 : World.drew _ = W0
    obtain ⟨q0, _, q2, q3, q4, bb, sz⟩ := five' hW0
    clear hW0
    rw [← HKR.out] at q0
    generalize e4 : w.heap.size + 1 + 1 + 1 + 1 = N4 at *
    generalize e3 : w.heap.size + 1 + 1 + 1 = N3 at *
    have HT1 : Hid (w.heap.size + 1 + 1 < N3) := hid (by omega)
    have HTF : Hid (N4 ≠ N3) := hid (by omega)
    have HS : Hid (OnS w kr f (bar (f 0)) N3 N4 W0) := hid ⟨bb, q0, q2, q4, q3⟩
    have k1 : W0.cell? ⟨w.heap.size, 1, none⟩ = some (.slice a1 n1 n1) := at_row q0 1 (by rw [HKR.out]; rfl)
    clear bb q0 q2 q3 q4 sz e3 e4
    go_wp2_with fail
    go_loopw [20] (fun i wr => ∃ k : Nat, k ≤ n1 ∧ i = .int .i64 k ∧ Hid (OnS w kr f (lay f ((nums K).take k) (bar (f 0))) N3 N4 wr)) (fun i _ => n1 - (intOf i).toNat)
    case atStart => exact ⟨0, by omega, rfl, HS⟩
    case round =>
      obtain ⟨k, hk, rfl, hS⟩ := hrel
      by_cases hlt : k < n1
      · obtain ⟨g, rfl, hc⟩ := L1.out k hlt
        have hjs : k < (nums K).length := by rw [HN1.out]; exact hlt
        have hj := nums_lt (K := K) (getD_mem hjs)
        have HU := hid (take_lay f (nums K) (bar (f 0)) hjs)
        have hc2 := (hS.out.bel.cell (p := ⟨g, k, none⟩) (block_lt_of_cell hc)).trans hc
        generalize (nums K).getD k 0 = j at *
        have hc3 : wr.cell? ⟨g, k, none⟩ = some (.func (.func (gfn j)) #[] #[]) := hc2
        have he := gfn_enters j hj.1 hj.2
        have cF := at_row hS.out.frm j (row_get f (by omega))
        have fT := fz_row hS.out.to j
        have cT := at_row hS.out.to j (row_get _ (by omega))
        have hj1 := hid hj.1
        have hj2 := hid hj.2
        have kn : (k : Int) < n1 := by omega
        clear hc hc2 hjs hj
        go_wp2_with (go_at_fn (gfn j); refine (get_at j _ _ hj1.out hj2.out).mono ?_; rintro e w' ⟨rfl, rfl⟩)
        exact ⟨⟨k + 1, by omega, by go_num, hid (by rw [HU.out]; exact hS.out.set HT1.out HTF.out (by have := hj2.out; omega) _)⟩, by simp [intOf]; omega⟩
      · obtain rfl : k = n1 := by omega
        clear hlt
        have HS3 : Hid (OnS w kr f (lay f (nums K) (bar (f 0))) N3 N4 wr) := hid (by
          have := hS.out
          rwa [List.take_of_length_le (by rw [HN1.out]; exact Nat.le_refl _)] at this)
        have k2 : wr.cell? ⟨w.heap.size, 2, none⟩ = some (.slice a2 n2 n2) := at_row HS3.out.kind 2 (by rw [HKR.out]; rfl)
        clear hS
        go_wp2_with fail
        go_loopw [35] (fun i wr => ∃ k : Nat, k ≤ n2 ∧ i = .int .i64 k ∧ Hid (OnS w kr f (lay f ((scas K).take k) (lay f (nums K) (bar (f 0)))) N3 N4 wr)) (fun i _ => n2 - (intOf i).toNat)
        case atStart => exact ⟨0, by omega, rfl, HS3⟩
        case round =>
          obtain ⟨k, hk, rfl, hS⟩ := hrel
          by_cases hlt : k < n2
          · obtain ⟨g, rfl, hc⟩ := L2.out k hlt
            have hjs : k < (scas K).length := by rw [HN2.out]; exact hlt
            have hj := scas_lt (K := K) (getD_mem hjs)
            have HU := hid (take_lay f (scas K) (lay f (nums K) (bar (f 0))) hjs)
            have hc2 := (hS.out.bel.cell (p := ⟨g, k, none⟩) (block_lt_of_cell hc)).trans hc
            generalize (scas K).getD k 0 = j at *
            have hc3 : wr.cell? ⟨g, k, none⟩ = some (.func (.func (gfn j)) #[] #[]) := hc2
            have he := gfn_enters j hj.1 hj.2
            have cF := at_row hS.out.frm j (row_get f (by omega))
            have fT := fz_row hS.out.to j
            have cT := at_row hS.out.to j (row_get _ (by omega))
            have hj1 := hid hj.1
            have hj2 := hid hj.2
            have kn : (k : Int) < n2 := by omega
            clear hc hc2 hjs hj
            go_wp2_with (go_at_fn (gfn j); refine (get_at j _ _ hj1.out hj2.out).mono ?_; rintro e w' ⟨rfl, rfl⟩)
            exact ⟨⟨k + 1, by omega, by go_num, hid (by rw [HU.out]; exact hS.out.set HT1.out HTF.out (by have := hj2.out; omega) _)⟩, by simp [intOf]; omega⟩
          · obtain rfl : k = n2 := by omega
            clear hlt
            have HS4 : Hid (OnS w kr f (lay f (alln K) (bar (f 0))) N3 N4 wr) := hid (by
              have := hS.out
              rwa [List.take_of_length_le (by rw [HN2.out]; exact Nat.le_refl _), ← lay_append] at this)
            clear hS
            generalize hg : lay f (alln K) (bar (f 0)) = g at *
            have HG := hid hg
            clear hg
            go_wp2_with (first
              | (refine wpList_load_row rfl 28 _ rfl N3 rfl 151 (row g) (0, 0) _ HS4.out.to Tryd.underlying28 rfl (op_size g) ?_)
              | (refine wpList_store_row rfl 28 _ _ rfl (w.heap.size + 1 + 1) (row g) rfl rfl 28 _ HS4.out.out (op_size g) rfl (row_one g) ?_))
            exact bodyPost_ret (v := .agg (row g)) (results_cell_row Tryd.results70 _ _ (w.heap.size + 1 + 1) 28 (row g) (0, 0) _ rfl (setRow_heap _ _ _ _ _ _ HS4.out.out) Tryd.underlying28 rfl (op_size g)) rfl ⟨by rw [HG.out], below_setRow HS4.out.bel (by omega) _⟩
end Go.Proofs.YtlkhmfmocegekaaDoor
