/- package op: Text. Typed by tools/gen08text.py. -/
import Derived.Test.YtfnnckbdaedlbaaDoorOpFace
import Derived.Test.YtfnnckbdaedlbaaDoorOpJoin
import Derived.Laws.OwnMore
set_option linter.unusedVariables false
namespace Go.Proofs.YtfnnckbdaedlbaaDoor
open Go.RowKit Go.Oq Go.Sh
theorem qcell_new1 (w : World) (v : Value) (t : TypeId) : ∀ j u, [v][j]? = some u → (w.alloc (.cells #[v] t)).cell? ((⟨w.heap.size, 0, none⟩ : Addr).add j) = some u := by
  intro j u hu
  obtain ⟨rfl, rfl⟩ : j = 0 ∧ v = u := by
    cases j with
    | zero => simpa using hu
    | succ n => simp at hu
  exact cell_last w _ _ 0 _ rfl
/-- The texts up to one, as values. -/
def qstrs (xs : List ByteArray) (k : Nat) : List Value := (List.range k).map fun i => .string (at' xs i)
theorem qstrs_succ (xs : List ByteArray) (k : Nat) : qstrs xs (k + 1) = qstrs xs k ++ [.string (at' xs k)] := by simp [qstrs, List.range_succ]
theorem qstrs_get (xs : List ByteArray) (k i : Nat) (h : i < k) : (qstrs xs k)[i]? = some (.string (at' xs i)) := by simp [qstrs, h]
theorem qown_split {w : World} {B : Nat} {v : Value} {k : Nat} {vs : List Value} (h : w.ownsRow B 9 1 v (k + 1) vs) : ∃ g cap, v = .slice (some ⟨g, 0, none⟩) (k + 1) cap ∧ k + 1 ≤ cap ∧ B ≤ g ∧ ∃ cur, w.heap[g]? = some (.cells cur 9) := by
  rcases h.2 with ⟨_, h0⟩ | ⟨g, cap, cur, e, hB, hg, hc, _⟩
  · omega
  · exact ⟨g, cap, e, hc, hB, cur, hg⟩
theorem qstr_info : (Tryd.prog.info? 9).map (fun i => (i.zero, i.size, i.bytes)) = some (some (.string ⟨#[]⟩), 1, 16) := by kernel_rfl
theorem o_size (f : Nat → Int) : (Tryd.prog.info? 77).map (·.size) = some (row f).size := by kernel_rfl
theorem wds_len (f : Nat → Int) : (wds f).length = 1 + (alln (f 0).toNat).length := by simp [wds]; omega
theorem wds_head (f : Nat → Int) : at' (wds f) 0 = nam (f 0).toNat := rfl
theorem wds_num (f : Nat → Int) {K k : Nat} (hK : (f 0).toNat = K) (h : k < (nums K).length) : at' (wds f) (k + 1) = dgB (f ((nums K).getD k 0)) := by
  rw [wds, hK]
  show ((alln K).map fun j => dgB (f j)).getD k ByteArray.empty = _
  rw [List.getD_eq_getElem?_getD, List.getElem?_map, alln, List.getElem?_append_left h, List.getD_eq_getElem?_getD, List.getElem?_eq_getElem h]
  rfl
theorem wds_sca (f : Nat → Int) {K k : Nat} (hK : (f 0).toNat = K) (h : k < (scas K).length) : at' (wds f) ((nums K).length + k + 1) = dgB (f ((scas K).getD k 0)) := by
  rw [wds, hK]
  show ((alln K).map fun j => dgB (f j)).getD ((nums K).length + k) ByteArray.empty = _
  rw [List.getD_eq_getElem?_getD, List.getElem?_map, alln, List.getElem?_append_right (by omega), Nat.add_sub_cancel_left, List.getD_eq_getElem?_getD, List.getElem?_eq_getElem h]
  rfl
theorem wds_size {f : Nat → Int} (hr : rng f) : ∀ i, (at' (wds f) i).size ≤ 1000 := by
  intro i
  have he : (ByteArray.empty).size = 0 := rfl
  rw [at', List.getD_eq_getElem?_getD]
  cases h : (wds f)[i]? with
  | none => show (ByteArray.empty).size ≤ 1000; omega
  | some x =>
    have hm := List.mem_of_getElem? h
    rw [wds, List.mem_cons, List.mem_map] at hm
    show x.size ≤ 1000
    rcases hm with rfl | ⟨j, hj, rfl⟩
    · have := nam_size (f 0).toNat
      omega
    · have := hr j (alln_lt _ j hj).2
      have := dgB_size this.1 this.2
      omega
set_option maxRecDepth 100000 in
set_option maxHeartbeats 4000000 in
theorem oText_no (f : Nat → Int) (w : World) (hb : bare f = false) :
    Calls Tryd.prog 15 #[opV f] w fun e w' => e = .returned (.tuple #[.string ⟨#[]⟩, .int .i64 180]) ∧ Below w.heap.size w w' := by
  have kk := fun W => kindOf_no f W hb
  clear hb
  go_enter Tryd.func15, Tryd.ntmps15
  go_wp2_with (go_at_call 26; refine (kk _).mono ?_)
  rintro e w2 ⟨rfl, b2⟩
  have B2 := hid (bel1 b2)
  clear b2
  go_wp2_with (refine wpList_store_row rfl 63 _ _ rfl w2.heap.size kz rfl rfl 63 _ (heap_alloc_last w2 _) (k_size.trans rfl) rfl kz_one ?_; rw [World.setRow_alloc_new])
  go_ret2
  exact ⟨rfl, B2.out.alloc B2.out.size _⟩
theorem setRow_last2 (w : World) (A : Obj) (old cs : Array Value) (t : TypeId) : ((w.alloc A).alloc (.cells old t)).setRow (w.heap.size + 1) cs = (w.alloc A).alloc (.cells cs t) := by
  rw [← size_alloc w A]
  exact World.setRow_alloc_new _ _ _ _
theorem halloc2 (w : World) (A B : Obj) : ((w.alloc A).alloc B).heap[w.heap.size]? = some A := row2a (Below.refl _ _)
theorem halloc2b (w : World) (A B : Obj) : ((w.alloc A).alloc B).heap[w.heap.size + 1]? = some B := row2b (Below.refl _ _)
set_option maxRecDepth 100000 in
set_option maxHeartbeats 8000000 in
theorem oText_yes (K : Nat) (f : Nat → Int) (w : World) (hT : Tab w) (hb : bare f = true) (hr : rng f) (hK : f 0 = (K : Int)) :
    Calls Tryd.prog 15 #[opV f] w fun e w' => e = .returned (.tuple #[.string (txt f), .int .i64 0]) ∧ Below w.heap.size w w' := by
  obtain ⟨i0, hi, hz0, hz1, hz2⟩ := info_parts qstr_info
  have kk := hid (fun W => kindOf_yes K f W hK hb)
  have HT0 := hid hT
  have RG := hid (fun j (hj : j < 8) => hr j hj)
  have hK2 : (f 0).toNat = K := by omega
  have HX0 : Hid (at' (wds f) 0 = nam K) := hid (by rw [wds_head, hK2])
  have HX1 : Hid (∀ k, k < (nums K).length → at' (wds f) (k + 1) = dgB (f ((nums K).getD k 0))) := hid (fun k hk => wds_num f hK2 hk)
  have HX2 : Hid (∀ k, k < (scas K).length → at' (wds f) ((nums K).length + k + 1) = dgB (f ((scas K).getD k 0))) := hid (fun k hk => wds_sca f hK2 hk)
  have HXL : Hid ((wds f).length = (nums K).length + (scas K).length + 1) := hid (by rw [wds_len, hK2, alln, List.length_append]; omega)
  have HXS := hid (wds_size hr)
  have HXT : Hid (bs (jn ((wds f).map (·.data.toList))) = txt f) := hid rfl
  generalize wds f = xs at *
  have hn1 := nums_len K
  have hn2 := scas_len K
  have hnl := alln_len K
  rw [alln, List.length_append] at hnl
  have hnsz := nam_size K
  clear hT hr hb hK hK2
  go_enter Tryd.func15, Tryd.ntmps15
  go_wp2_with (go_at_call 26; refine (kk.out _).mono ?_)
  rintro e w2 ⟨v1, v2, rfl, i1, i2, b2⟩
  obtain ⟨a1, rfl, l1⟩ := i1.slice
  obtain ⟨a2, rfl, l2⟩ := i2.slice
  have ho := kcell_one i1 i2 K
  generalize hn1e : (nums K).length = n1 at *
  generalize hn2e : (scas K).length = n2 at *
  have HN1 := hid hn1e
  have HN2 := hid hn2e
  have HB : Hid (n1 ≤ 4 ∧ n2 ≤ 4) := hid ⟨hn1, hn2⟩
  have HNL := hid hnl
  have hr2 := hid (row1 b2)
  have B2 := hid (bel1 b2)
  clear b2 i1 i2 hn1e hn2e hnl
  obtain ⟨W, hW⟩ : ∃ W, W = (w2.alloc (.cells (kcell (.slice a1 n1 n1) (.slice a2 n2 n2) K) 63)).alloc (.cells (row f) 77) := ⟨_, rfl⟩
  have BW : Below w.heap.size w W := by
    rw [hW]
    exact (B2.out.alloc B2.out.size _).alloc (by have := B2.out.size; simp; omega) _
  have B2W : Below w2.heap.size w2 W := by
    rw [hW]
    exact ((Below.refl _ _).alloc (Nat.le_refl _) _).alloc (by simp) _
  have H4 := hid (show W.heap[w2.heap.size]? = _ from hW ▸ halloc2 w2 _ _)
  have H6' := hid (show W.heap[w2.heap.size + 1]? = _ from hW ▸ halloc2b w2 _ _)
  have k0 := at_row H4.out 0 (v := .string (nam K)) rfl
  have k1 := fun O => ((below_alloc0 W O).cell (p := ⟨w2.heap.size, 1, none⟩) (block_lt_of_cell (at_row H4.out 1 (v := .slice a1 n1 n1) rfl))).trans (at_row H4.out 1 (v := .slice a1 n1 n1) rfl)
  have L1 : Hid (∀ i, i < n1 → ∃ g, a1 = some ⟨g, 0, none⟩ ∧ W.cell? ⟨g, i, none⟩ = some (gV ((nums K).getD i 0))) := hid (fun i hi => by
    obtain ⟨g, e, c⟩ := l1 i hi
    exact ⟨g, e, (B2W.cell (p := ⟨g, i, none⟩) (block_lt_of_cell c)).trans c⟩)
  have L2 : Hid (∀ i, i < n2 → ∃ g, a2 = some ⟨g, 0, none⟩ ∧ W.cell? ⟨g, i, none⟩ = some (gV ((scas K).getD i 0))) := hid (fun i hi => by
    obtain ⟨g, e, c⟩ := l2 i hi
    exact ⟨g, e, (B2W.cell (p := ⟨g, i, none⟩) (block_lt_of_cell c)).trans c⟩)
  have HT := hid (tab_below HT0.out BW)
  have HW := hid hW
  have HBW := hid BW
  clear hW BW B2W l1 l2 B2 HT0
  refine hid ?_
  go_wp2_with (first
    | (refine wpList_store_row rfl 63 _ _ rfl w2.heap.size (kcell (.slice a1 n1 n1) (.slice a2 n2 n2) K) rfl rfl 63 _ (heap_alloc_last w2 _) (kcell_size _ _ _) rfl ho ?_; rw [World.setRow_alloc_new])
    | (refine wpList_load_row rfl 31 _ rfl w.heap.size rfl 31 (row f) (0, 0) _ ((Below.heap_alloc w2 _ _ (Array.getElem?_eq_some_iff.1 hr2.out).1).trans hr2.out) Tryd.underlying31 rfl (op_size f) ?_)
    | (refine wpList_buildTo rfl 77 _ rfl (some 20) rfl (row f) (by kernel_rfl) ?_)
    | (refine wpList_store_row rfl 77 _ _ rfl (w2.heap.size + 1) (row f) rfl rfl 77 _ (halloc2b w2 _ _) (o_size f) rfl (row_one f) ?_; rw [setRow_last2, ← HW.out]; refine unhid ?_))
  generalize hG6 : w2.heap.size + 1 = G6 at *
  have H6 := H6'
  clear H6' hG6
  refine hid ?_
  have OW : Hid ((W.alloc (.cells #[.string (nam K)] 9)).ownsRow W.heap.size 9 1 (.slice (some ⟨W.heap.size, 0, none⟩) (0 + 1) 1) (0 + 1) (qstrs xs (0 + 1))) := by
    have := World.ownsRow_lit (base := W.heap.size) (size := 1) (e := 9) W #[.string (nam K)] 1 (Nat.le_refl _) (by unfold maxLen; omega) rfl
    have e : qstrs xs (0 + 1) = [.string (nam K)] := by rw [← HX0.out]; rfl
    rw [e]
    exact this
  go_wp2_with fail
  go_loopw [7, 27] (fun v i wr => ∃ k : Nat, k ≤ n1 ∧ i = .int .i64 k ∧ ∃ g cap, v = .slice (some ⟨g, 0, none⟩) (k + 1) cap ∧ Hid (wr.ownsRow W.heap.size 9 1 (.slice (some ⟨g, 0, none⟩) (k + 1) cap) (k + 1) (qstrs xs (k + 1))) ∧ Hid (Below W.heap.size W wr)) (fun _ i _ => n1 - (intOf i).toNat)
  case atStart => exact ⟨0, by omega, rfl, _, _, rfl, OW, hid (below_alloc0 W _)⟩
  case round =>
    obtain ⟨k, hk, rfl, g, cap, rfl, OWR, BR⟩ := hrel
    by_cases hlt : k < n1
    · obtain ⟨gl, rfl, hcl⟩ := L1.out k hlt
      have hjs : k < (nums K).length := by rw [HN1.out]; exact hlt
      have hj := nums_lt (K := K) (getD_mem hjs)
      have hX := HX1.out k hlt
      generalize (nums K).getD k 0 = j at *
      have hc3 : wr.cell? ⟨gl, k, none⟩ = some (.func (.func (gfn j)) #[] #[]) := (BR.out.cell (p := ⟨gl, k, none⟩) (block_lt_of_cell hcl)).trans hcl
      have he := gfn_enters j hj.1 hj.2
      have hz := RG.out j (by omega)
      have hj1 := hid hj.1
      have hj2 := hid hj.2
      have co := (BR.out.cell (p := ⟨G6, j, none⟩) (block_lt_of_cell (at_row H6.out j (row_get f (by omega))))).trans (at_row H6.out j (row_get f (by omega)))
      obtain ⟨z, hzz⟩ : ∃ z, z = f j := ⟨_, rfl⟩
      rw [← hzz] at co hz hX
      have hsz := dgB_size hz.1 hz.2
      obtain ⟨S, hS⟩ : ∃ S, S = dgB z := ⟨_, rfl⟩
      rw [← hS] at hX hsz
      have HS := hid (qstrs_succ xs (k + 1))
      rw [hX] at HS
      have cI := dig_int z S wr hz.1 hz.2 (tab_below (tab_below HT.out BR.out) (Below.refl _ _)) (hid hS.symm)
      have kn : (k : Int) < n1 := by omega
      have hn4 : n1 ≤ 4 := HB.out.1
      have hn5 : n2 ≤ 4 := HB.out.2
      clear hS hX hzz hcl hjs hj hz
      go_wp2_with (first
        | (go_at_fn (gfn j); refine (get_at j _ _ hj1.out hj2.out).mono ?_; rintro e w' ⟨rfl, hw⟩; rw [hw]; clear hw)
        | (go_at_call 34; refine cI.mono ?_))
      rintro e w3 ⟨rfl, b3⟩
      have OW3 := hid (OWR.out.kept (grown_of_below b3) (.inr (by simp [Value.ownBlock])))
      have B3 := hid (BR.out.trans (b3.mono BR.out.size))
      clear b3 cI OWR BR hc3 co he
      go_wp2_with (at_builtin; refine wpList_append_own _ rfl _ _ 78 rfl W.heap.size 9 i0 (.string ⟨#[]⟩) 1 16 Tryd.underlying78 hi hz0 hz1 hz2 rfl (by decide) (.slice (some ⟨g, 0, none⟩) (k + 1) cap) (k + 1) (qstrs xs (k + 1)) rfl (OW3.out.alloc (.cells #[.string S] 9)) ⟨w3.heap.size, 0, none⟩ 1 1 [.string S] rfl rfl (qcell_new1 _ _ _) (by simp [Value.oneCell']) (by unfold maxLen; omega) (by omega) (by have := B3.out.size; simp; omega) ?_)
      intro v' w4 hown' hgrow _
      rw [← HS.out] at hown'
      obtain ⟨g', cap', rfl, _, _, _, _⟩ := qown_split hown'
      have B4 : Below W.heap.size W w4 := (B3.out.alloc B3.out.size _).grown hgrow (by have := B3.out.size; simp; omega) (fun k hk => (OW3.out.lt k hk).1)
      have OW4 := hid hown'
      have HB4 := hid B4
      clear hown' hgrow B4
      go_wp2
      exact ⟨⟨k + 1, by omega, by go_num, g', cap', rfl, OW4, HB4⟩, by simp [intOf]; omega⟩
    · obtain rfl : n1 = k := by omega
      clear hlt
      have k2 := (BR.out.cell (p := ⟨w2.heap.size, 2, none⟩) (block_lt_of_cell (at_row H4.out 2 (v := .slice a2 n2 n2) rfl))).trans (at_row H4.out 2 (v := .slice a2 n2 n2) rfl)
      go_wp2_with fail
      go_loopw [7, 43] (fun v i wr => ∃ k : Nat, k ≤ n2 ∧ i = .int .i64 k ∧ ∃ g cap, v = .slice (some ⟨g, 0, none⟩) (n1 + k + 1) cap ∧ Hid (wr.ownsRow W.heap.size 9 1 (.slice (some ⟨g, 0, none⟩) (n1 + k + 1) cap) (n1 + k + 1) (qstrs xs (n1 + k + 1))) ∧ Hid (Below W.heap.size W wr)) (fun _ i _ => n2 - (intOf i).toNat)
      case atStart => exact ⟨0, by omega, rfl, g, cap, rfl, OWR, BR⟩
      case round =>
        obtain ⟨k, hk, rfl, g, cap, rfl, OWR, BR⟩ := hrel
        by_cases hlt : k < n2
        · obtain ⟨gl, rfl, hcl⟩ := L2.out k hlt
          have hjs : k < (scas K).length := by rw [HN2.out]; exact hlt
          have hj := scas_lt (K := K) (getD_mem hjs)
          have hX := HX2.out k hlt
          generalize (scas K).getD k 0 = j at *
          have hc3 : wr.cell? ⟨gl, k, none⟩ = some (.func (.func (gfn j)) #[] #[]) := (BR.out.cell (p := ⟨gl, k, none⟩) (block_lt_of_cell hcl)).trans hcl
          have he := gfn_enters j hj.1 hj.2
          have hz := RG.out j (by omega)
          have hj1 := hid hj.1
          have hj2 := hid hj.2
          have co := (BR.out.cell (p := ⟨G6, j, none⟩) (block_lt_of_cell (at_row H6.out j (row_get f (by omega))))).trans (at_row H6.out j (row_get f (by omega)))
          obtain ⟨z, hzz⟩ : ∃ z, z = f j := ⟨_, rfl⟩
          rw [← hzz] at co hz hX
          have hsz := dgB_size hz.1 hz.2
          obtain ⟨S, hS⟩ : ∃ S, S = dgB z := ⟨_, rfl⟩
          rw [← hS] at hX hsz
          have HS := hid (qstrs_succ xs (n1 + k + 1))
          rw [hX] at HS
          have cI := dig_i64 z S wr hz.1 hz.2 (tab_below (tab_below HT.out BR.out) (Below.refl _ _)) (hid hS.symm)
          have kn : (k : Int) < n2 := by omega
          have hn4 : n1 ≤ 4 := HB.out.1
          have hn5 : n2 ≤ 4 := HB.out.2
          clear hS hX hzz hcl hjs hj hz
          go_wp2_with (first
            | (go_at_fn (gfn j); refine (get_at j _ _ hj1.out hj2.out).mono ?_; rintro e w' ⟨rfl, hw⟩; rw [hw]; clear hw)
            | (go_at_call 35; refine cI.mono ?_))
          rintro e w3 ⟨rfl, b3⟩
          have OW3 := hid (OWR.out.kept (grown_of_below b3) (.inr (by simp [Value.ownBlock])))
          have B3 := hid (BR.out.trans (b3.mono BR.out.size))
          clear b3 cI OWR BR hc3 co he
          go_wp2_with (at_builtin; refine wpList_append_own _ rfl _ _ 78 rfl W.heap.size 9 i0 (.string ⟨#[]⟩) 1 16 Tryd.underlying78 hi hz0 hz1 hz2 rfl (by decide) (.slice (some ⟨g, 0, none⟩) (n1 + k + 1) cap) (n1 + k + 1) (qstrs xs (n1 + k + 1)) rfl (OW3.out.alloc (.cells #[.string S] 9)) ⟨w3.heap.size, 0, none⟩ 1 1 [.string S] rfl rfl (qcell_new1 _ _ _) (by simp [Value.oneCell']) (by unfold maxLen; omega) (by omega) (by have := B3.out.size; simp; omega) ?_)
          intro v' w4 hown' hgrow _
          rw [← HS.out] at hown'
          obtain ⟨g', cap', rfl, _, _, _, _⟩ := qown_split hown'
          have B4 : Below W.heap.size W w4 := (B3.out.alloc B3.out.size _).grown hgrow (by have := B3.out.size; simp; omega) (fun k hk => (OW3.out.lt k hk).1)
          have OW4 := hid hown'
          have HB4 := hid B4
          clear hown' hgrow B4
          go_wp2
          exact ⟨⟨k + 1, by omega, by go_num, g', cap', rfl, OW4, HB4⟩, by simp [intOf]; omega⟩
        · obtain rfl : n2 = k := by omega
          clear hlt
          have hxl := HXL.out
          have HC : Hid (∀ i, i < xs.length → wr.cell? ⟨g, 0 + i, none⟩ = some (.string (at' xs i))) := hid (fun i hi => by
            rw [Nat.zero_add]
            exact (OWR.out.cellAt i (by omega)).trans (qstrs_get xs _ i (by omega)))
          obtain ⟨_, _, e3, hcap, _, _, _⟩ := qown_split OWR.out
          have hcap : xs.length ≤ cap := by
            simp only [Value.slice.injEq] at e3; omega
          have cj := qjoin g cap xs wr (by omega) (by have := HNL.out; omega) HC HXS.out hcap
          rw [hxl, HXT.out] at cj
          have CJ := hid cj
          clear HC e3 cj hxl
          go_wp2_with (go_at_call 36; refine CJ.out.mono ?_; rintro e w5 ⟨rfl, b5⟩)
          go_ret2
          exact ⟨rfl, HBW.out.trans ((BR.out.trans (b5.mono BR.out.size)).mono HBW.out.size)⟩
theorem oText_any (f : Nat → Int) (w : World) (hT : Tab w) (hr : rng f) :
    Calls Tryd.prog 15 #[opV f] w fun e w' => e = .returned (.tuple #[.string (if bare f then txt f else ⟨#[]⟩), .int .i64 (if bare f then 0 else 180)]) ∧ Below w.heap.size w w' := by
  by_cases hb : bare f = true
  · rw [if_pos hb, if_pos hb]
    obtain ⟨K, hK, _, _⟩ := kin_nat ((bare_iff f).1 hb).1
    exact oText_yes K f w hT hb hr hK
  · rw [if_neg hb, if_neg hb]
    exact oText_no f w (by simpa using hb)
end Go.Proofs.YtfnnckbdaedlbaaDoor
