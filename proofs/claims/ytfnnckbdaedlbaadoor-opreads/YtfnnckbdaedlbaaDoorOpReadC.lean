/- package op: Read, where a text has as many words as its kind names. -/
import Derived.Test.YtfnnckbdaedlbaaDoorOpRead
namespace Go.Proofs.YtfnnckbdaedlbaaDoor
open Go.RowKit Go.Oq Go.Sh Go.Shelf
/-- What stands while numbers are read: the answer's box, the operation's, the kind's, the words, both lists. -/
structure RdL (w : World) (kr : Array Value) (g n6 : Nat) (ws : List ByteArray) (a1 a2 : Option Addr) (js ks : List Nat) (h : Nat → Int) (W : World) : Prop where
  bel : Below w.heap.size w W
  out : W.heap[w.heap.size]? = some (.cells (row zro) 31)
  op : W.heap[w.heap.size + 1]? = some (.cells (row h) 77)
  knd : W.heap[w.heap.size + 1 + 1]? = some (.cells kr 63)
  ws : ∀ i, i < n6 → W.cell? ⟨g, i, none⟩ = some (.string (at' ws i))
  l1 : ∀ i, i < js.length → ∃ c, a1 = some ⟨c, 0, none⟩ ∧ W.cell? ⟨c, i, none⟩ = some (gV (js.getD i 0))
  l2 : ∀ i, i < ks.length → ∃ c, a2 = some ⟨c, 0, none⟩ ∧ W.cell? ⟨c, i, none⟩ = some (gV (ks.getD i 0))
theorem op_func_ne {W : World} {b c i j : Nat} {h : Nat → Int} {t : TypeId} (hr : W.heap[b]? = some (.cells (row h) t)) (hc : W.cell? ⟨c, i, none⟩ = some (gV j)) : c ≠ b := by
  rintro rfl
  have h8 : i < 8 ∨ 8 ≤ i := by omega
  rcases h8 with h8 | h8
  · rw [at_row hr i (row_get h h8)] at hc
    simp [gV] at hc
  · rw [cell_of_row _ _ i _ _ _ hr] at hc
    have : (row h)[i]? = none := by simp; omega
    rw [this] at hc
    cases hc
theorem Wrote.cell {w w' : World} {g j : Nat} {v : Int} (h : Wrote w g j v w') {b o : Nat} {x : Value} (hc : w.cell? ⟨b, o, none⟩ = some x) (hne : b ≠ g) : w'.cell? ⟨b, o, none⟩ = some x := by
  have := h.other (block_lt_of_cell hc) hne
  simp only [World.cell?] at hc ⊢
  rw [this]
  exact hc
theorem Wrote.row {w w' : World} {g j : Nat} {v : Int} (h : Wrote w g j v w') {f : Nat → Int} {t : TypeId} (hr : w.heap[g]? = some (.cells (row f) t)) (hj : j < 8) : w'.heap[g]? = some (.cells (row (upd f j v)) t) := by
  obtain ⟨w1, b1, b2⟩ := h
  have hlt := (Array.getElem?_eq_some_iff.1 hr).1
  rw [b2.block g hlt]
  exact row_set ((b1.block g hlt).trans hr) hj v
theorem RdL.wrote {w W W' : World} {kr : Array Value} {g n6 : Nat} {ws : List ByteArray} {a1 a2 : Option Addr} {js ks : List Nat} {h : Nat → Int} {j : Nat} {v : Int} (a : RdL w kr g n6 ws a1 a2 js ks h W) (hg : w.heap.size + 1 + 1 < g) (hj : j < 8) (k : Wrote W (w.heap.size + 1) j v W') :
    RdL w kr g n6 ws a1 a2 js ks (upd h j v) W' :=
  ⟨k.below a.bel a.bel.size (by omega), (k.other (Array.getElem?_eq_some_iff.1 a.out).1 (by omega)).trans a.out, k.row a.op hj, (k.other (Array.getElem?_eq_some_iff.1 a.knd).1 (by omega)).trans a.knd,
    fun i hi => k.cell (a.ws i hi) (by omega), fun i hi => by
      obtain ⟨c, e, hc⟩ := a.l1 i hi
      exact ⟨c, e, k.cell hc (op_func_ne a.op hc)⟩, fun i hi => by
      obtain ⟨c, e, hc⟩ := a.l2 i hi
      exact ⟨c, e, k.cell hc (op_func_ne a.op hc)⟩⟩
theorem RdL.drew {w W : World} {kr : Array Value} {g n6 : Nat} {ws : List ByteArray} {a1 a2 : Option Addr} {js ks : List Nat} {h : Nat → Int} (a : RdL w kr g n6 ws a1 a2 js ks h W) : RdL w kr g n6 ws a1 a2 js ks h W.drew :=
  ⟨a.bel.drew, a.out, a.op, a.knd, a.ws, a.l1, a.l2⟩
abbrev Sq (b o : Nat) (v : Value) (W : World) : Prop := W.cell? ⟨b, o, none⟩ = some v ∧ True
theorem ojump_ret {l : Nat} {J : Act → World → Prop} {Q : Exit → Act → World → Prop} {a : Act} {w : World} : Exit.jump l J Q .ret a w = Q .ret a w := rfl
theorem sq_drew {b o : Nat} {v : Value} {W : World} (h : Sq b o v W) : Sq b o v W.drew := h
theorem sq_wrote {b o g j : Nat} {v : Value} {z : Int} {W W' : World} (h : Sq b o v W) (k : Wrote W g j z W') (hne : b ≠ g) : Sq b o v W' := ⟨k.cell h.1 hne, trivial⟩
theorem prs_cons {j : Nat} {js : List Nat} {ws : List ByteArray} {h : Nat → Int} : prs (j :: js) ws h = match whl (at' ws 0).data.toList with | some v => prs js ws.tail (upd h j v) | none => none := rfl
theorem drop_at (ws : List ByteArray) (k : Nat) : at' (ws.drop k) 0 = at' ws k := by
  rw [at', at', List.getD_eq_getElem?_getD, List.getD_eq_getElem?_getD, List.getElem?_drop]; rfl
theorem drop_cons {js : List Nat} {k : Nat} (h : k < js.length) : js.drop k = js.getD k 0 :: js.drop (k + 1) := by
  rw [List.drop_eq_getElem_cons h, List.getD_eq_getElem?_getD, List.getElem?_eq_getElem h]; rfl
theorem prs_at {js : List Nat} {k : Nat} (hk : k < js.length) (ws : List ByteArray) (h : Nat → Int) : prs (js.drop k) (ws.drop (k + 1)) h = match whl (at' ws (k + 1)).data.toList with | some v => prs (js.drop (k + 1)) (ws.drop (k + 1 + 1)) (upd h (js.getD k 0) v) | none => none := by
  rw [drop_cons hk, prs_cons, drop_at, List.tail_drop]
theorem alln_n {K k : Nat} (h : k < (nums K).length) : k < (alln K).length ∧ (alln K).getD k 0 = (nums K).getD k 0 := by
  rw [alln, List.length_append]
  refine ⟨by omega, ?_⟩
  rw [List.getD_eq_getElem?_getD, List.getD_eq_getElem?_getD, List.getElem?_append_left h]
theorem alln_s {K k : Nat} (h : k < (scas K).length) : (nums K).length + k < (alln K).length ∧ (alln K).getD ((nums K).length + k) 0 = (scas K).getD k 0 := by
  rw [alln, List.length_append]
  refine ⟨by omega, ?_⟩
  rw [List.getD_eq_getElem?_getD, List.getD_eq_getElem?_getD, List.getElem?_append_right (by omega), Nat.add_sub_cancel_left]
theorem prs_step1 {K k n1 : Nat} {h : Nat → Int} {ws : List ByteArray} (_ : n1 = (nums K).length) (_ : n1 = (nums K).length) (_ : ws.length = 1 + (alln K).length) (hk : k < (nums K).length) :
    prs ((alln K).drop k) (ws.drop (k + 1)) h = match whl (at' ws (1 + k)).data.toList with | some v => prs ((alln K).drop (k + 1)) (ws.drop (k + 1 + 1)) (upd h ((nums K).getD k 0) v) | none => none := by
  rw [prs_at (alln_n hk).1, (alln_n hk).2, Nat.add_comm k 1]
theorem prs_step2 {K k n1 n2 : Nat} {h : Nat → Int} {ws : List ByteArray} (_ : n2 = (scas K).length) (h1 : n1 = (nums K).length) (_ : ws.length = 1 + (alln K).length) (hk : k < (scas K).length) :
    prs ((alln K).drop (n1 + k)) (ws.drop (n1 + k + 1)) h = match whl (at' ws (1 + n1 + k)).data.toList with | some v => prs ((alln K).drop (n1 + (k + 1))) (ws.drop (n1 + (k + 1) + 1)) (upd h ((scas K).getD k 0) v) | none => none := by
  subst h1
  rw [prs_at (alln_s hk).1, (alln_s hk).2, show 1 + (nums K).length + k = (nums K).length + k + 1 by omega]
  rfl
set_option maxRecDepth 100000 in
set_option maxHeartbeats 8000000 in
theorem Read_nums (K : Nat) (s : ByteArray) (w : World) (hE : Lib3 w) (hs : s.size ≤ 100000) (k1 : 1 ≤ K) (k2 : K ≤ 11) (hk : knd (at' (spB s) 0) = K) (hl : (spB s).length = 1 + (alln K).length) :
    Calls Tryd.prog 17 #[.string s] w fun e w' => e = .returned (.tuple #[opV ((prs (alln K) (spB s).tail (bar K)).getD zro), .int .i64 (if (prs (alln K) (spB s).tail (bar K)).isSome then 0 else 186)]) ∧ Below w.heap.size w w' := by
  have HK := hid hk
  have hn0 : 0 < ((spB s).take 6).length := by rw [take6_len]; have := spB_pos s; omega
  have hnl := alln_len K
  rw [alln, List.length_append] at hnl
  have hn6 : ((spB s).take 6).length = 1 + (nums K).length + (scas K).length := by
    rw [take6_len, hl, alln, List.length_append]; omega
  have cn := named_any (at' (spB s) 0)
  rw [hk] at cn
  have cF := firstWords_at s
  have HC := hid cF
  have HFD := hid (fun W => find_yes K W k1 k2)
  have HSZ := hid (spB_at s hs)
  have HXL := hid hl
  clear hk cF hl k1 k2
  obtain ⟨n6, hn6e⟩ : ∃ n6, n6 = ((spB s).take 6).length := ⟨_, rfl⟩
  rw [← hn6e] at hn0 hn6 HC
  clear hn6e
  go_enter Tryd.func17, Tryd.ntmps17
  go_wp2
  refine wp_scope_once 0 rfl ?_
  go_wp2_with (go_at_call 38; refine (HC.out _ hs).mono ?_)
  rintro e w1 ⟨g, cap, rfl, hcap, hgW, hcell, b1⟩
  have B1 := hid (bel3 b1)
  have r0 := hid (row3a b1)
  have r1 := hid (row3b b1)
  have r2 := hid (row3c b1)
  have HG : Hid (w.heap.size + 1 + 1 < g) := hid (by simp at hgW; omega)
  have c0 := hcell 0 hn0
  have HCL := hid hcell
  clear b1 hcell hgW
  go_wp2_with (go_at_call 39; refine (cn _).mono ?_)
  rintro e w2 ⟨rfl, b2⟩
  have B2 := hid (B1.out.trans (b2.mono B1.out.size))
  have r0 := hid ((b2.block _ (Array.getElem?_eq_some_iff.1 r0.out).1).trans r0.out)
  have r1 := hid ((b2.block _ (Array.getElem?_eq_some_iff.1 r1.out).1).trans r1.out)
  have r2 := hid ((b2.block _ (Array.getElem?_eq_some_iff.1 r2.out).1).trans r2.out)
  have HCL2 : Hid (∀ i, i < n6 → (w2.setCell ⟨w.heap.size + 1, 0, none⟩ (.int .i64 (K : Int))).cell? ⟨g, i, none⟩ = some (.string (at' (spB s) i))) := hid (fun i hi => by
    have c := HCL.out i hi
    have c2 := (b2.cell (p := ⟨g, i, none⟩) (block_lt_of_cell c)).trans c
    have := HG.out
    simp only [World.cell?] at c2 ⊢
    rw [heap_setCell_other _ _ _ _ (by show g ≠ w.heap.size + 1; omega)]
    exact c2)
  have cT := at_row r1.out 0 rfl
  have fT := fz_row r1.out 0
  have HS := hid (rds_set K B2.out r0.out r1.out r2.out)
  clear b2 r0 r1 r2 B1 B2 c0 cn HCL
  go_wp2_with (go_at_call 24; refine (HFD.out _).mono ?_)
  rintro e w3 ⟨v1, v2, rfl, i1, i2, b3⟩
  have HS3 := hid (HS.out.below b3)
  have HCL3 : Hid (∀ i, i < n6 → w3.cell? ⟨g, i, none⟩ = some (.string (at' (spB s) i))) := hid (fun i hi => by
    have c := HCL2.out i hi
    exact (b3.cell (p := ⟨g, i, none⟩) (block_lt_of_cell c)).trans c)
  have ho := kcell_one i1 i2 K
  have HR := hid HS3.out.knd
  have j1 := nums_row (cs := kcell v1 v2 K) i1 HR.out (nums_ne i1 HR.out)
  have j2 := nums_row (cs := kcell v1 v2 K) i2 HR.out (nums_ne i2 HR.out)
  obtain ⟨a1, rfl, l1⟩ := j1.slice
  obtain ⟨a2, rfl, l2⟩ := j2.slice
  have HLx : Hid (RdL w (kcell (.slice a1 (nums K).length (nums K).length) (.slice a2 (scas K).length (scas K).length) K) g n6 (spB s) a1 a2 (nums K) (scas K) (bar K) (w3.setRow (w.heap.size + 1 + 1) (kcell (.slice a1 (nums K).length (nums K).length) (.slice a2 (scas K).length (scas K).length) K))) := hid
    ⟨below_setRow HS3.out.bel (by omega) _, (setRow_other _ _ _ _ (by omega)).trans HS3.out.out, (setRow_other _ _ _ _ (by omega)).trans HS3.out.op, setRow_heap _ _ _ _ _ _ HR.out,
      fun i hi => by
        have := HG.out
        rw [cell_setRow_other _ _ _ _ (by show g ≠ w.heap.size + 1 + 1; omega)]
        exact HCL3.out i hi, l1, l2⟩
  clear j1 j2 i1 i2 l1 l2 b3 HS HCL2 HCL3
  obtain ⟨n1, hn1⟩ : ∃ n1, n1 = (nums K).length := ⟨_, rfl⟩
  obtain ⟨n2, hn2⟩ : ∃ n2, n2 = (scas K).length := ⟨_, rfl⟩
  have HN1 := hid hn1
  have HN2 := hid hn2
  rw [← hn1, ← hn2] at hnl hn6 ho HLx ⊢
  subst hn6
  have d1 := at_row HLx.out.knd 1 (v := .slice a1 n1 n1) rfl
  have d2 := at_row HLx.out.knd 2 (v := .slice a2 n2 n2) rfl
  have hne : (((1 + n1 + n2 : Nat) : Int) != 1 + (n1 : Int) + (n2 : Int)) = false := by
    rw [bne_eq_false_iff_eq]; omega
  have hb1 : (n1 : Int) ≤ 4 := by omega
  have hb2 : (n2 : Int) ≤ 4 := by omega
  have hc1 : (1 : Int) + n1 ≤ cap := by omega
  have hc2 : (1 : Int) + n1 ≤ ((1 + n1 + n2 : Nat) : Int) := by omega
  have hc3 : ((1 + n1 + n2 : Nat) : Int) ≤ cap := by omega
  clear hn1 hn2
  go_wp2_with (refine wpList_store_row rfl 63 _ _ rfl (w.heap.size + 1 + 1) (kcell (.slice a1 n1 n1) (.slice a2 n2 n2) K) rfl rfl 63 kz HR.out (kcell_size _ _ _) rfl ho ?_)
  generalize w3.setRow (w.heap.size + 1 + 1) (kcell (.slice a1 n1 n1) (.slice a2 n2 n2) K) = W4 at *
  generalize hkr : kcell (.slice a1 n1 n1) (.slice a2 n2 n2) K = kr at *
  have HKR := hid hkr
  clear hkr r0 r1 r2 HR HS3 ho HFD HC
  generalize hPR : prs (alln K) (spB s).tail (bar K) = PR at *
  have HPR : Hid (PR = prs ((alln K).drop 0) ((spB s).drop (0 + 1)) (bar K)) := hid (by rw [← hPR]; simp)
  have HPQ := hid hPR
  clear hPR
  go_region
  go_wp2_with fail
  all_goals
    go_loopw [57] (fun i wr => ∃ k : Nat, k ≤ n1 ∧ i = .int .i64 k ∧ ∃ h, Hid (RdL w kr g (1 + n1 + n2) (spB s) a1 a2 (nums K) (scas K) h wr) ∧ Hid (PR = prs ((alln K).drop (k)) ((spB s).drop (k + 1)) h)) (fun i _ => n1 - (intOf i).toNat)
    case atStart => exact ⟨0, by omega, rfl, _, hid HLx.out.drew, HPR⟩
    case round =>
      obtain ⟨k, hk, rfl, h, HL, HP⟩ := hrel
      by_cases hlt : k < n1
      · first
        | (exfalso; omega)
        | (have hjs : k < (nums K).length := by rw [← HN1.out]; exact hlt
           obtain ⟨c, rfl, hc⟩ := HL.out.l1 k hjs
           have hj := nums_lt (K := K) (getD_mem hjs)
           have HPS := hid (prs_step1 (h := h) (ws := spB s) HN1.out HN1.out HXL.out hjs)
           generalize (nums K).getD k 0 = j at *
           have hc3 : wr.cell? ⟨c, k, none⟩ = some (.func (.func (gfn j)) #[] #[]) := hc
           have he := gfn_enters j hj.1 hj.2
           have hj1 := hid hj.1
           have hj2 := hid hj.2
           have cw : wr.cell? ⟨g, 1 + k, none⟩ = some (.string (at' (spB s) (1 + k))) := HL.out.ws (1 + k) (by omega)
           have hx := hid (HSZ.out (1 + k))
           generalize at' (spB s) (1 + k) = x at *
           have kn : (k : Int) < n1 := by omega
           have hgn : g ≠ w.heap.size + 1 := by have := HG.out; omega
           have HGN := hid hgn
           have hE2 := hid (hE.below HL.out.drew.bel)
           have cc := at_row HL.out.drew.op j (row_get h (by omega))
           have cf := fz_row HL.out.drew.op j
           have HQ := hid (show Sq g (1 + k) (.string x) wr from ⟨cw, trivial⟩)
           clear hc hj hjs hgn
           cases hw : whl x.data.toList with
           | none =>
             have cr := read_int_no x (w.heap.size + 1) j (h j) wr.drew hx.out hE2.out (hid hw) cc cf
             have HPN : Hid (PR = none) := hid (by rw [HP.out, HPS.out, hw])
             clear cc cf hw hE2
             go_wp2_with fail
             go_region_held3 (Sq g (1 + k) (.string x)) (with_reducible (first | assumption | exact HQ.out | exact sq_drew HQ.out | exact sq_wrote (sq_drew HQ.out) h5 HGN.out)) (first | (go_at_fn (gfn j); refine (get_at j _ _ hj1.out hj2.out).mono ?_; rintro e w' ⟨rfl, hw⟩; rw [hw]; clear hw) | (go_at_call 40; refine cr.mono ?_; rintro e w5 ⟨rfl, v5, h5⟩))
             have HL5 := hid (HL.out.drew.wrote HG.out (by have := hj2.out; omega) h5)
             go_wp2_with fail
             go_step3
             refine ⟨rfl, ?_⟩
             go_wp2_with (refine wpList_store_row rfl 31 _ _ rfl w.heap.size (row zro) rfl rfl 31 _ HL5.out.out (op_size zro) rfl (row_one zro) ?_)
             rw [Exit.noGoto_ret]
             exact bodyPost_ret (v := .tuple #[.agg (row zro), .int .i64 186]) (results_row_slot Tryd.results17 _ _ w.heap.size 31 (row zro) (0, 0) _ rfl rfl (setRow_heap _ _ _ _ _ _ HL5.out.out) Tryd.underlying31 (op_size zro)) rfl ⟨by rw [HPQ.out, HPN.out]; rfl, below_setRow HL5.out.bel (Nat.le_refl _) _⟩
           | some v =>
             have cr := read_int_yes x v (w.heap.size + 1) j (h j) wr.drew hx.out hE2.out (hid hw) cc cf
             have HPN := hid (show PR = _ by rw [HP.out, HPS.out, hw])
             clear cc cf hw hE2
             go_wp2_with fail
             go_region_held3 (Sq g (1 + k) (.string x)) (with_reducible (first | assumption | exact HQ.out | exact sq_drew HQ.out | exact sq_wrote (sq_drew HQ.out) h5 HGN.out)) (first | (go_at_fn (gfn j); refine (get_at j _ _ hj1.out hj2.out).mono ?_; rintro e w' ⟨rfl, hw⟩; rw [hw]; clear hw) | (go_at_call 40; refine cr.mono ?_; rintro e w5 ⟨rfl, h5⟩))
             have HL5 := hid (HL.out.drew.wrote HG.out (by have := hj2.out; omega) h5)
             go_wp2_with fail
             exact ⟨⟨k + 1, by omega, by go_num, _, HL5, HPN⟩, by simp [intOf]; omega⟩)
      · obtain rfl : n1 = k := by omega
        clear hlt
        have d2 := at_row HL.out.knd 2 (v := .slice a2 n2 n2) (by rw [← HKR.out]; rfl)
        go_wp2_with fail
        go_loopw [74] (fun i wr => ∃ k : Nat, k ≤ n2 ∧ i = .int .i64 k ∧ ∃ h, Hid (RdL w kr g (1 + n1 + n2) (spB s) a1 a2 (nums K) (scas K) h wr) ∧ Hid (PR = prs ((alln K).drop (n1 + k)) ((spB s).drop (n1 + k + 1)) h)) (fun i _ => n2 - (intOf i).toNat)
        case atStart => exact ⟨0, by omega, rfl, h, HL, HP⟩
        case round =>
          obtain ⟨k, hk, rfl, h, HL, HP⟩ := hrel
          by_cases hlt : k < n2
          · first
            | (exfalso; omega)
            | (have hjs : k < (scas K).length := by rw [← HN2.out]; exact hlt
               obtain ⟨c, rfl, hc⟩ := HL.out.l2 k hjs
               have hj := scas_lt (K := K) (getD_mem hjs)
               have HPS := hid (prs_step2 (h := h) (ws := spB s) HN2.out HN1.out HXL.out hjs)
               generalize (scas K).getD k 0 = j at *
               have hc3 : wr.cell? ⟨c, k, none⟩ = some (.func (.func (gfn j)) #[] #[]) := hc
               have he := gfn_enters j hj.1 hj.2
               have hj1 := hid hj.1
               have hj2 := hid hj.2
               have cw : wr.cell? ⟨g, 1 + n1 + k, none⟩ = some (.string (at' (spB s) (1 + n1 + k))) := HL.out.ws (1 + n1 + k) (by omega)
               have hx := hid (HSZ.out (1 + n1 + k))
               generalize at' (spB s) (1 + n1 + k) = x at *
               have kn : (k : Int) < n2 := by omega
               have hgn : g ≠ w.heap.size + 1 := by have := HG.out; omega
               have HGN := hid hgn
               have hE2 := hid (hE.below HL.out.drew.bel)
               have cc := at_row HL.out.drew.op j (row_get h (by omega))
               have cf := fz_row HL.out.drew.op j
               have HQ := hid (show Sq g (1 + n1 + k) (.string x) wr from ⟨cw, trivial⟩)
               clear hc hj hjs hgn
               cases hw : whl x.data.toList with
               | none =>
                 have cr := read_i64_no x (w.heap.size + 1) j (h j) wr.drew hx.out hE2.out (hid hw) cc cf
                 have HPN : Hid (PR = none) := hid (by rw [HP.out, HPS.out, hw])
                 clear cc cf hw hE2
                 go_wp2_with fail
                 go_region_held3 (Sq g (1 + n1 + k) (.string x)) (with_reducible (first | assumption | exact HQ.out | exact sq_drew HQ.out | exact sq_wrote (sq_drew HQ.out) h5 HGN.out)) (first | (go_at_fn (gfn j); refine (get_at j _ _ hj1.out hj2.out).mono ?_; rintro e w' ⟨rfl, hw⟩; rw [hw]; clear hw) | (go_at_call 41; refine cr.mono ?_; rintro e w5 ⟨rfl, v5, h5⟩))
                 have HL5 := hid (HL.out.drew.wrote HG.out (by have := hj2.out; omega) h5)
                 go_wp2_with fail
                 go_step3
                 refine ⟨rfl, ?_⟩
                 go_wp2_with (refine wpList_store_row rfl 31 _ _ rfl w.heap.size (row zro) rfl rfl 31 _ HL5.out.out (op_size zro) rfl (row_one zro) ?_)
                 rw [Exit.noGoto_ret]
                 exact bodyPost_ret (v := .tuple #[.agg (row zro), .int .i64 186]) (results_row_slot Tryd.results17 _ _ w.heap.size 31 (row zro) (0, 0) _ rfl rfl (setRow_heap _ _ _ _ _ _ HL5.out.out) Tryd.underlying31 (op_size zro)) rfl ⟨by rw [HPQ.out, HPN.out]; rfl, below_setRow HL5.out.bel (Nat.le_refl _) _⟩
               | some v =>
                 have cr := read_i64_yes x v (w.heap.size + 1) j (h j) wr.drew hx.out hE2.out (hid hw) cc cf
                 have HPN := hid (show PR = _ by rw [HP.out, HPS.out, hw])
                 clear cc cf hw hE2
                 go_wp2_with fail
                 go_region_held3 (Sq g (1 + n1 + k) (.string x)) (with_reducible (first | assumption | exact HQ.out | exact sq_drew HQ.out | exact sq_wrote (sq_drew HQ.out) h5 HGN.out)) (first | (go_at_fn (gfn j); refine (get_at j _ _ hj1.out hj2.out).mono ?_; rintro e w' ⟨rfl, hw⟩; rw [hw]; clear hw) | (go_at_call 41; refine cr.mono ?_; rintro e w5 ⟨rfl, h5⟩))
                 have HL5 := hid (HL.out.drew.wrote HG.out (by have := hj2.out; omega) h5)
                 go_wp2_with fail
                 exact ⟨⟨k + 1, by omega, by go_num, _, HL5, HPN⟩, by simp [intOf]; omega⟩)
          · obtain rfl : n2 = k := by omega
            clear hlt
            have hz : (alln K).drop (n1 + n2) = [] := List.drop_eq_nil_of_le (by rw [alln, List.length_append, ← HN1.out, ← HN2.out]; omega)
            have HPN : Hid (PR = some h) := hid (by rw [HP.out, hz]; rfl)
            clear hz
            go_wp2_with (first
              | (refine wpList_load_row rfl 31 _ rfl (w.heap.size + 1) rfl 77 (row h) (0, 0) _ HL.out.op Tryd.underlying31 rfl (op_size h) ?_)
              | (refine wpList_store_row rfl 31 _ _ rfl w.heap.size (row h) rfl rfl 31 _ HL.out.out (op_size h) rfl (row_one h) ?_))
            rw [ojump_ret]
            exact bodyPost_ret (v := .tuple #[.agg (row h), .int .i64 0]) (results_row_slot Tryd.results17 _ _ w.heap.size 31 (row h) (0, 0) _ rfl rfl (setRow_heap _ _ _ _ _ _ HL.out.out) Tryd.underlying31 (op_size h)) rfl ⟨by rw [HPQ.out, HPN.out]; rfl, below_setRow HL.out.bel (Nat.le_refl _) _⟩
theorem oRead_any (s : ByteArray) (w : World) (hE : Lib3 w) (hs : s.size ≤ 100000) :
    Calls Tryd.prog 17 #[.string s] w fun e w' => e = .returned (.tuple #[opV ((rdS s).getD zro), .int .i64 (if (rdS s).isSome then 0 else 186)]) ∧ Below w.heap.size w w' := by
  unfold rdS rdW
  by_cases h0 : knd (at' (spB s) 0) = 0
  · rw [if_pos h0]; exact Read_name s w hs h0
  · rw [if_neg h0]
    obtain ⟨_, k1, k2⟩ := nam_knd h0
    by_cases hl : (spB s).length ≠ 1 + (alln (knd (at' (spB s) 0))).length
    · rw [if_pos hl]; exact Read_len _ s w hs k1 k2 rfl hl
    · rw [if_neg hl]; exact Read_nums _ s w hE hs k1 k2 rfl (Classical.not_not.1 hl)
end Go.Proofs.YtfnnckbdaedlbaaDoor
