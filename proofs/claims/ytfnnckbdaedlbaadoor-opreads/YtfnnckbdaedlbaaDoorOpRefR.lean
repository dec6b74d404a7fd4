/- the document's functions of layer 8: Read. -/
import Derived.Test.YtfnnckbdaedlbaaDoorOpRefN
import Derived.Test.YtfnnckbdaedlbaaDoorOpRead
import Derived.Test.YtfnnckbdaedlbaaDoorOpLawT
import Derived.Deep.RegionHeld3
import Derived.Deep.RegionWith
set_option linter.unusedVariables false
namespace Go.Proofs.YtfnnckbdaedlbaaDoor
open Go.RowKit Go.Oq Go.Sort Go.Sh
/-- Which kind a round may take. -/
theorem knd_of_nam {n : ByteArray} {k : Nat} (k1 : 1 ≤ k) (k2 : k ≤ 11) : (nam k = n) ↔ knd n = k := by
  constructor
  · rintro rfl; exact knd_nam k1 k2
  · intro h
    have := nam_knd (n := n) (by omega)
    rw [h] at this
    exact this.1
theorem rd_no {s : ByteArray} (h : ∀ k, 1 ≤ k → k ≤ 11 → ¬ (at' (spB s) 0 = nam k ∧ (spB s).length = 1 + (alln k).length)) : rdS s = none := by
  rw [rdS, rdW]
  split
  · rfl
  · next h0 =>
    obtain ⟨a, b, c⟩ := nam_knd h0
    rw [if_pos]
    intro e
    exact h _ b c ⟨a.symm, e⟩
theorem rd_at {s : ByteArray} {k : Nat} (k1 : 1 ≤ k) (k2 : k ≤ 11) (h : at' (spB s) 0 = nam k) (hl : (spB s).length = 1 + (alln k).length) : rdS s = prs (alln k) (spB s).tail (bar k) := by
  have e : knd (at' (spB s) 0) = k := (knd_of_nam k1 k2).1 h.symm
  rw [rdS, rdW, e, if_neg (by omega), if_neg (by omega)]
/-- Behind so many numbers. -/
def prt (js : List Nat) (ws : List ByteArray) (g : Nat → Int) : Option (Nat → Int) := prs js ws g
theorem at_tail (ws : List ByteArray) (i : Nat) : at' ws.tail i = at' ws (i + 1) := by
  cases ws with
  | nil => rfl
  | cons a t => rfl
theorem prs_step {js : List Nat} {ws : List ByteArray} {g : Nat → Int} {m : Nat} (h : m < js.length) :
    prs (js.drop m) (ws.drop m) g = match whl (at' ws m).data.toList with
      | some v => prs (js.drop (m + 1)) (ws.drop (m + 1)) (upd g (js.getD m 0) v)
      | none => none := by
  rw [List.drop_eq_getElem_cons h, prs]
  have e1 : at' (ws.drop m) 0 = at' ws m := by simp [at', List.getD_eq_getElem?_getD, List.getElem?_drop]
  have e2 : (ws.drop m).tail = ws.drop (m + 1) := by rw [List.tail_drop]
  have e3 : js[m] = js.getD m 0 := by rw [List.getD_eq_getElem?_getD, List.getElem?_eq_getElem h]; rfl
  rw [e1, e2, e3]
  cases whl (at' ws m).data.toList <;> rfl
theorem prs_done {js : List Nat} {ws : List ByteArray} {g : Nat → Int} {m : Nat} (h : js.length ≤ m) : prs (js.drop m) (ws.drop m) g = some g := by
  rw [List.drop_eq_nil_of_le h]; rfl
/-- The operation that is read lies in a row of its own. -/
abbrev Xs (p : Nat) (g : Nat → Int) (W : World) : Prop :=
  W.heap[p]? = some (.cells (row g) 31) ∧ W.cell? ⟨p, 0, none⟩ = some (.int .i64 (g 0)) ∧ W.cell? ⟨p, 1, none⟩ = some (.int .i64 (g 1)) ∧ W.cell? ⟨p, 2, none⟩ = some (.int .i64 (g 2)) ∧ W.cell? ⟨p, 3, none⟩ = some (.int .i64 (g 3)) ∧
  W.cell? ⟨p, 4, none⟩ = some (.int .i64 (g 4)) ∧ W.cell? ⟨p, 5, none⟩ = some (.int .i64 (g 5)) ∧ W.cell? ⟨p, 6, none⟩ = some (.int .i64 (g 6)) ∧ W.cell? ⟨p, 7, none⟩ = some (.int .i64 (g 7))
theorem xs_of {p : Nat} {g : Nat → Int} {W : World} (h : W.heap[p]? = some (.cells (row g) 31)) : Xs p g W :=
  ⟨h, at_row h 0 rfl, at_row h 1 rfl, at_row h 2 rfl, at_row h 3 rfl, at_row h 4 rfl, at_row h 5 rfl, at_row h 6 rfl, at_row h 7 rfl⟩
theorem xs_drew {p : Nat} {g : Nat → Int} {W : World} (h : Xs p g W) : Xs p g W.drew := xs_of h.1
theorem xs_below {p : Nat} {g : Nat → Int} {W W' : World} (h : Xs p g W) (b : Below W.heap.size W W') : Xs p g W' := xs_of ((b.block _ (Array.getElem?_eq_some_iff.1 h.1).1).trans h.1)
def set8 (p : Nat) (f : Nat → Int) (W : World) : World := ((((((((W.setCell ⟨p, 0, none⟩ (.int .i64 (f 0))).setCell ⟨p, 1, none⟩ (.int .i64 (f 1))).setCell ⟨p, 2, none⟩ (.int .i64 (f 2))).setCell ⟨p, 3, none⟩ (.int .i64 (f 3))).setCell ⟨p, 4, none⟩ (.int .i64 (f 4))).setCell ⟨p, 5, none⟩ (.int .i64 (f 5))).setCell ⟨p, 6, none⟩ (.int .i64 (f 6))).setCell ⟨p, 7, none⟩ (.int .i64 (f 7)))
theorem sets8 {W : World} {p : Nat} {g : Nat → Int} (f : Nat → Int) (h : W.heap[p]? = some (.cells (row g) 31)) : (set8 p f W).heap[p]? = some (.cells (row f) 31) := by
  have e : row (upd (upd (upd (upd (upd (upd (upd (upd g 0 (f 0)) 1 (f 1)) 2 (f 2)) 3 (f 3)) 4 (f 4)) 5 (f 5)) 6 (f 6)) 7 (f 7)) = row f := by simp [upd]
  rw [← e]
  exact (row_set (row_set (row_set (row_set (row_set (row_set (row_set (row_set h (j := 0) (by omega) (f 0)) (j := 1) (by omega) (f 1)) (j := 2) (by omega) (f 2)) (j := 3) (by omega) (f 3)) (j := 4) (by omega) (f 4)) (j := 5) (by omega) (f 5)) (j := 6) (by omega) (f 6)) (j := 7) (by omega) (f 7))
theorem sets8_other {W : World} {p q : Nat} (f : Nat → Int) (hq : q ≠ p) : (set8 p f W).heap[q]? = W.heap[q]? := by
  unfold set8
  repeat rw [heap_setCell_other _ _ _ _ hq]
theorem sets8_below {W a : World} {p N : Nat} (f : Nat → Int) (hN : N ≤ p) (b : Below N a W) : Below N a (set8 p f W) :=
  ((((((((b.setCell (p := ⟨p, 0, none⟩) hN _).setCell (p := ⟨p, 1, none⟩) hN _).setCell (p := ⟨p, 2, none⟩) hN _).setCell (p := ⟨p, 3, none⟩) hN _).setCell (p := ⟨p, 4, none⟩) hN _).setCell (p := ⟨p, 5, none⟩) hN _).setCell (p := ⟨p, 6, none⟩) hN _).setCell (p := ⟨p, 7, none⟩) hN _)
theorem sets8_cell {W : World} {p q o : Nat} (f : Nat → Int) (hq : q ≠ p) {v : Value} (h : W.cell? ⟨q, o, none⟩ = some v) : (set8 p f W).cell? ⟨q, o, none⟩ = some v := by
  unfold World.cell? at h ⊢
  rw [show (set8 p f W).heap[(⟨q, o, none⟩ : Addr).block]? = W.heap[q]? from sets8_other f hq]
  exact h
theorem zro_cells : row zro = #[.int .i64 0, .int .i64 0, .int .i64 0, .int .i64 0, .int .i64 0, .int .i64 0, .int .i64 0, .int .i64 0] := rfl
set_option maxRecDepth 100000 in
set_option maxHeartbeats 8000000 in
theorem rRead_any (s : ByteArray) (w : World) (hs : s.size ≤ 300) :
    Calls Tryd.prog 19 #[.string s] w fun e w' => e = .returned (.tuple #[opV ((rdS s).getD zro), .int .i64 (if (rdS s).isSome then 0 else 186)]) ∧ Below w.heap.size w w' := by
  have cw := hid (fun W => rWords_any s W (by omega))
  have h0 : 1 ≤ (spB s).length := spB_pos s
  have HNO := hid (rd_no (s := s))
  have HAT := hid (fun k k1 k2 => rd_at (s := s) (k := k) k1 k2)
  obtain ⟨R, hR⟩ : ∃ R, R = rdS s := ⟨_, rfl⟩
  rw [← hR] at HNO HAT ⊢
  obtain ⟨E, hE⟩ : ∃ E : Int, E = (if R.isSome then 0 else 186) := ⟨_, rfl⟩
  obtain ⟨G, hG⟩ : ∃ G, G = R.getD zro := ⟨_, rfl⟩
  rw [← hE, ← hG]
  have HRN : Hid (R = none → E = 186 ∧ G = zro) := hid (fun h => by rw [hE, hG, h]; exact ⟨rfl, rfl⟩)
  have HRS : Hid (∀ g, R = some g → E = 0 ∧ G = g) := hid (fun g h => by rw [hE, hG, h]; exact ⟨rfl, rfl⟩)
  clear hE hG
  have hlen : (spB s).length ≤ 301 := by
    rw [spB, List.length_map, sp_length]
    have := count_le_size s
    omega
  have HXS : Hid (∀ i, (at' (spB s) i).size ≤ 1000) := hid (fun i => by
    have he : (ByteArray.empty).size = 0 := rfl
    rw [at', List.getD_eq_getElem?_getD]
    cases h : (spB s)[i]? with
    | none => show (ByteArray.empty).size ≤ 1000; omega
    | some x =>
      have hm := List.mem_of_getElem? h
      rw [spB, List.mem_map] at hm
      obtain ⟨q, hq, rfl⟩ := hm
      have h1 := sp_le _ _ hq
      have h2 : s.data.toList.length = s.size := bsize' s
      show q.length ≤ 1000
      omega)
  generalize spB s = ws at *
  clear hR
  go_enter Tryd.func19, Tryd.ntmps19
  go_wp2_with (go_at_call 43; refine (cw.out _).mono ?_)
  rintro e w2 ⟨v, rfl, hT, b2⟩
  obtain ⟨bb, off, cap, rfl, hc⟩ := hT.some h0
  have R0 := hid (row1 b2)
  have B0 := hid (bel1 b2)
  have HC := hid hc
  have HL0 := hid h0
  generalize ws.length = n at *
  have hn : (n : Int) ≤ 301 := by omega
  clear b2 hT hc h0 hlen cw
  go_wp2
  go_loopw [5, 6, 7, 8, 9, 10] (fun i u6 u7 u8 u9 u10 wr => ∃ k : Nat, 1 ≤ k ∧ k ≤ 12 ∧ i = .int .i64 k ∧ Hid (wr.heap[w.heap.size]? = some (.cells (row zro) 31)) ∧ Hid (Below w.heap.size w wr) ∧ Hid (∀ j, j < n → wr.cell? ⟨bb, off + j, none⟩ = some (.string (at' ws j))) ∧ Hid (∀ j, 1 ≤ j → j < k → ¬ (at' ws 0 = nam j ∧ n = 1 + (alln j).length))) (fun i _ _ _ _ _ _ => 12 - (intOf i).toNat)
  case atStart => exact ⟨1, by omega, by omega, rfl, R0, B0, HC, hid (fun j h1 h2 => by omega)⟩
  case round =>
    clear R0 B0 HC
    obtain ⟨k, k1, k2, rfl, R0, B0, HC, HZ⟩ := hrel
    by_cases hlt : k ≤ 11
    · have k1i : (1 : Int) ≤ (k : Int) := by omega
      have k2i : (k : Int) ≤ 11 := by omega
      have CN := hid (fun W => names_yes k W k1 hlt)
      have CM := hid (fun W => rname_any (k : Int) W)
      rw [Int.toNat_natCast] at CM
      have HLS := hid (lets_size k)
      have hls := lets_small k
      obtain ⟨L, hL⟩ : ∃ L, L = lets k := ⟨_, rfl⟩
      obtain ⟨D, hD⟩ : ∃ D, D = nam k := ⟨_, rfl⟩
      rw [← hL] at CN hls HLS
      rw [← hD] at CM
      have HL := hid hL
      have HD := hid hD
      clear hL hD
      have hli : (L.size : Int) ≤ 4 := by omega
      go_wp2_with (go_at_call 31; refine (CN.out _).mono ?_)
      rintro e w3 ⟨rfl, b3⟩
      have R1 := hid ((b3.block _ (Array.getElem?_eq_some_iff.1 R0.out).1).trans R0.out)
      have B1 := hid (B0.out.trans (b3.mono B0.out.size))
      have HC1 := hid (fun j hj => ocell_below (HC.out j hj) b3)
      clear b3 R0 B0 HC
      have x0 := HC1.out 0 (by have := HL0.out; omega)
      rw [Nat.add_zero] at x0
      have c0 := cell_regrown x0
      have DM := hid (fun d os => Calls.regrown_of (CM.out (grow (redrawn w3 d) os)))
      have HX := hid x0
      clear x0
      obtain ⟨A, hA⟩ : ∃ A, A = at' ws 0 := ⟨_, rfl⟩
      rw [← hA] at c0
      have HA := hid hA
      clear hA
      have hn0 : (0 : Int) < (n : Int) := by have := HL0.out; omega
      by_cases he : A = D
      · have he1 : (A.toList == D.toList) = true := by rw [he]; simp
        by_cases hl : n = 1 + L.size
        · have hl1 : ((n : Int) == 1 + (L.size : Int)) = true := by rw [beq_iff_eq]; omega
          have hl2 : ((n : Int) != 1 + (L.size : Int)) = false := by rw [bne_eq_false_iff_eq]; omega
          have HP := hid (HAT.out k k1 hlt (by rw [← HA.out, he, HD.out]) (by rw [hl, HLS.out]))
          have HNL := hid hl
          clear he hl HNO HAT HZ
          go_wp2
          refine wp_region_quiet_below (by kernel_rfl) (by kernel_rfl) ?_
          repeat (go_big_quiet_step ((go_at_call 23; exact DM.out _ _)))
          refine wpQuiet_nil ?_
          intro _ hw'
          obtain ⟨⟨dq, osq⟩, hw''⟩ := hw'
          subst hw''
          have bq := below_regrown w3 dq osq
          have B2 := hid (B1.out.trans (bq.mono B1.out.size))
          have R2 := hid ((bq.block _ (Array.getElem?_eq_some_iff.1 R1.out).1).trans R1.out)
          have HC2 := hid (fun j hj => ocell_below (HC1.out j hj) bq)
          clear bq R1 B1 HC1 c0 DM HX
          generalize grow (redrawn w3 dq) osq = U at *
          go_wp2
          have hp : w.heap.size < U.heap.size := (Array.getElem?_eq_some_iff.1 R2.out).1
          have HPL := hid hp
          have HBP : Hid (bb ≠ U.heap.size) := hid (fun e => by
            have h := block_lt_of_cell (HC2.out 0 (by have := HL0.out; omega))
            have h : bb < U.heap.size := h
            omega)
          obtain ⟨W, hW⟩ : ∃ W, W = U.alloc (.cells (row (bar k)) 31) := ⟨_, rfl⟩
          have X0 : Hid (W.heap[U.heap.size]? = some (.cells (row (bar k)) 31)) := hid (by rw [hW]; exact heap_alloc_last U _)
          have R3 : Hid (W.heap[w.heap.size]? = some (.cells (row zro) 31)) := hid (by rw [hW]; exact alloc_cell R2.out _)
          have B3 : Hid (Below w.heap.size w W) := hid (by rw [hW]; exact B2.out.alloc B2.out.size _)
          have HC3 : Hid (∀ j, j < n → W.cell? ⟨bb, off + j, none⟩ = some (.string (at' ws j))) := hid (fun j hj => by rw [hW]; exact ocell_below (HC2.out j hj) (below_alloc0 U _))
          rw [show (U.alloc (.cells #[.int .i64 (k : Int), .int .i64 0, .int .i64 0, .int .i64 0, .int .i64 0, .int .i64 0, .int .i64 0, .int .i64 0] 31)) = W from hW.symm]
          clear hW R2 B2 HC2
          generalize U.heap.size = p at *
          have HPR : Hid (R = prs ((alln k).drop 0) (ws.tail.drop 0) (bar k)) := hid (by rw [List.drop_zero, List.drop_zero]; exact HP.out)
          have HLA := hid (lets_at k)
          have HAL := hid (alln_at k)
          clear HP
          go_loopw [8, 9, 10] (fun i u9 u10 wr => ∃ (m : Nat) (g : Nat → Int), m ≤ L.size ∧ i = .int .i64 m ∧ Hid (wr.heap[p]? = some (.cells (row g) 31)) ∧ Hid (wr.heap[w.heap.size]? = some (.cells (row zro) 31)) ∧ Hid (Below w.heap.size w wr) ∧ Hid (∀ j, j < n → wr.cell? ⟨bb, off + j, none⟩ = some (.string (at' ws j))) ∧ Hid (R = prs ((alln k).drop m) (ws.tail.drop m) g)) (fun i _ _ _ => L.size - (intOf i).toNat)
          case atStart => exact ⟨0, bar k, by omega, rfl, X0, R3, B3, HC3, HPR⟩
          case round =>
            clear X0 R3 B3 HC3 HPR
            obtain ⟨m, g, hm, rfl, X0, R3, B3, HC3, HPR⟩ := hrel
            by_cases hmt : m < L.size
            · have hmi : (m : Int) < (L.size : Int) := by omega
              have hK : m < (alln k).length := by rw [← HLS.out]; exact hmt
              have hix : L[m]'hmt = lett ((alln k).getD m 0) := by
                have h1 := HLA.out m
                rw [← HL.out] at h1
                exact h1 hmt
              have hA := HAL.out m hK
              have hst := prs_step (ws := ws.tail) (g := g) hK
              rw [at_tail] at hst
              have cx := HC3.out (1 + m) (by have := HNL.out; omega)
              rw [show at' ws (m + 1) = at' ws (1 + m) by rw [Nat.add_comm]] at hst
              have hmn : 1 + (m : Int) < (n : Int) := by have := HNL.out; omega
              generalize (alln k).getD m 0 = j at *
              have CW := hid (fun W => rWhole_any (at' ws (1 + m)) W (HXS.out (1 + m)))
              generalize at' ws (1 + m) = x at cx hst CW
              have hbnd : Hid (∀ v, whl x.data.toList = some v → -9223372036854775808 ≤ v ∧ v ≤ 9223372036854775807) := hid (fun v h => whl_range h)
              generalize whl x.data.toList = O at hst CW hbnd
              cases O with
              | none =>
                have HR : Hid (R = none) := hid (HPR.out.trans hst)
                clear hst hix hA hK
                go_wp2_with (first
                  | (go_at_call 44; refine (CW.out _).mono ?_; rintro e w6 ⟨rfl, rfl⟩)
                  | (refine wpList_store_row rfl 31 _ _ rfl w.heap.size (row zro) rfl rfl 31 _ R3.out (op_size zro) rfl (row_one zro) ?_))
                obtain ⟨hE, hG⟩ := HRN.out HR.out
                rw [hE, hG]
                exact bodyPost_ret (v := .tuple #[.agg (row zro), .int .i64 186]) (results_row_slot Tryd.results19 _ _ w.heap.size 31 (row zro) (0, 0) _ rfl rfl (setRow_heap _ _ _ _ _ _ R3.out) Tryd.underlying31 (op_size zro)) rfl ⟨rfl, below_setRow B3.out (Nat.le_refl _) _⟩
              | some v =>
                have HR : Hid (R = prs ((alln k).drop (m + 1)) (ws.tail.drop (m + 1)) (upd g j v)) := hid (HPR.out.trans hst)
                simp only [wnV, wnB, Option.getD_some, Option.isSome_some] at CW
                have CX := hid (fun W => show Calls Tryd.prog 45 #[opV g, .int .u8 (((L[m]'hmt).toNat : Nat) : Int), .int .i64 v] W (fun e w' => e = .returned (opV (upd g j v)) ∧ Below W.heap.size W w') by rw [hix]; exact with_l j g v _ (by omega) (by omega))
                clear hst hix hA hK
                go_wp2_with (go_at_call 44; refine (CW.out _).mono ?_; rintro e w6 ⟨rfl, rfl⟩)
                have HQ : Hid (Xs p g w6) := hid (xs_of X0.out)
                have HY := hid (fun (w7 : World) (b7 : Below w6.drew.heap.size w6.drew w7) => (xs_below (xs_drew (xs_of X0.out)) b7).1)
                obtain ⟨y0, y1, y2, y3, y4, y5, y6, y7, y8⟩ := HQ.out
                clear y0
                clear HQ
                go_region_with ((go_at_call 45; refine (CX.out _).mono ?_; rintro e w7 ⟨rfl, b7⟩; have z0 := fz_row (HY.out _ b7) 0; have z1 := fz_row (HY.out _ b7) 1; have z2 := fz_row (HY.out _ b7) 2; have z3 := fz_row (HY.out _ b7) 3; have z4 := fz_row (HY.out _ b7) 4; have z5 := fz_row (HY.out _ b7) 5; have z6 := fz_row (HY.out _ b7) 6; have z7 := fz_row (HY.out _ b7) 7; have q0 := at_row (HY.out _ b7) 0 rfl; have q1 := at_row (HY.out _ b7) 1 rfl; have q2 := at_row (HY.out _ b7) 2 rfl; have q3 := at_row (HY.out _ b7) 3 rfl; have q4 := at_row (HY.out _ b7) 4 rfl; have q5 := at_row (HY.out _ b7) 5 rfl; have q6 := at_row (HY.out _ b7) 6 rfl; have q7 := at_row (HY.out _ b7) 7 rfl))
                all_goals
                  have hl := HPL.out
                  have bd := B3.out.drew
                  have X4 := hid (sets8 (upd g j v) (HY.out _ b7))
                  have R4 := hid ((sets8_other (W := w7) (p := p) (upd g j v) (show w.heap.size ≠ p by omega)).trans ((b7.block _ (Array.getElem?_eq_some_iff.1 R3.out).1).trans R3.out))
                  have B4 := hid (sets8_below (p := p) (upd g j v) (Nat.le_of_lt hl) (bd.trans (b7.mono bd.size)))
                  have HC4 := hid (fun i hi => sets8_cell (p := p) (upd g j v) HBP.out (ocell_below (W := w6.drew) (HC3.out i hi) b7))
                  clear y1 y2 y3 y4 y5 y6 y7 y8 z0 z1 z2 z3 z4 z5 z6 z7 q0 q1 q2 q3 q4 q5 q6 q7
                  go_wp2_with fail
                  exact ⟨⟨m + 1, upd g j v, by omega, by go_num, X4, R4, B4, HC4, HR⟩, by simp [intOf]; omega⟩
            · have HR : Hid (R = some g) := hid (HPR.out.trans (prs_done (by rw [← HLS.out]; omega)))
              have XX := xs_of X0.out
              go_wp2_with (first
                | (refine wpList_load_row rfl 31 _ rfl p rfl 31 (row g) (0, 0) _ X0.out Tryd.underlying31 rfl (op_size g) ?_)
                | (refine wpList_store_row rfl 31 _ _ rfl w.heap.size (row g) rfl rfl 31 _ R3.out (op_size g) rfl (row_one g) ?_))
              obtain ⟨hE, hG⟩ := HRS.out g HR.out
              rw [hE, hG]
              exact bodyPost_ret (v := .tuple #[.agg (row g), .int .i64 0]) (results_row_slot Tryd.results19 _ _ w.heap.size 31 (row g) (0, 0) _ rfl rfl (setRow_heap _ _ _ _ _ _ R3.out) Tryd.underlying31 (op_size g)) rfl ⟨rfl, below_setRow B3.out (Nat.le_refl _) _⟩
        · have hl1 : ((n : Int) == 1 + (L.size : Int)) = false := by rw [beq_eq_false_iff_ne]; omega
          have hl2 : ((n : Int) != 1 + (L.size : Int)) = true := by rw [bne_iff_ne]; omega
          have HZ2 : Hid (∀ j, 1 ≤ j → j < k + 1 → ¬ (at' ws 0 = nam j ∧ n = 1 + (alln j).length)) := hid (fun j h1 h2 => by
            by_cases e : j = k
            · subst e
              rintro ⟨p1, p2⟩
              exact hl (by rw [p2, HLS.out])
            · exact HZ.out j h1 (by omega))
          clear he hl
          go_wp2
          refine wp_region_quiet_below (by kernel_rfl) (by kernel_rfl) ?_
          repeat (go_big_quiet_step ((go_at_call 23; exact DM.out _ _)))
          refine wpQuiet_nil ?_
          intro _ hw'
          obtain ⟨⟨dq, osq⟩, hw''⟩ := hw'
          subst hw''
          have bq := below_regrown w3 dq osq
          have B2 := hid (B1.out.trans (bq.mono B1.out.size))
          have R2 := hid ((bq.block _ (Array.getElem?_eq_some_iff.1 R1.out).1).trans R1.out)
          have HC2 := hid (fun j hj => ocell_below (HC1.out j hj) bq)
          clear bq R1 B1 HC1 c0 DM HX
          generalize grow (redrawn w3 dq) osq = U at *
          go_wp2
          exact ⟨⟨k + 1, by omega, by omega, by go_num, R2, B2, HC2, HZ2⟩, by simp [intOf]; omega⟩
      · have he1 : (A.toList == D.toList) = false := by
          rw [beq_eq_false_iff_ne, Wd.toL, Wd.toL]
          intro e
          exact he (by rw [← bs_of A, e, bs_of])
        have HZ2 : Hid (∀ j, 1 ≤ j → j < k + 1 → ¬ (at' ws 0 = nam j ∧ n = 1 + (alln j).length)) := hid (fun j h1 h2 => by
          by_cases e : j = k
          · subst e
            rintro ⟨p1, p2⟩
            exact he (by rw [HA.out, p1, HD.out])
          · exact HZ.out j h1 (by omega))
        clear he
        go_wp2
        refine wp_region_quiet_below (by kernel_rfl) (by kernel_rfl) ?_
        repeat (go_big_quiet_step ((go_at_call 23; exact DM.out _ _)))
        refine wpQuiet_nil ?_
        intro _ hw'
        obtain ⟨⟨dq, osq⟩, hw''⟩ := hw'
        subst hw''
        have bq := below_regrown w3 dq osq
        have B2 := hid (B1.out.trans (bq.mono B1.out.size))
        have R2 := hid ((bq.block _ (Array.getElem?_eq_some_iff.1 R1.out).1).trans R1.out)
        have HC2 := hid (fun j hj => ocell_below (HC1.out j hj) bq)
        clear bq R1 B1 HC1 c0 DM HX
        generalize grow (redrawn w3 dq) osq = U at *
        go_wp2
        exact ⟨⟨k + 1, by omega, by omega, by go_num, R2, B2, HC2, HZ2⟩, by simp [intOf]; omega⟩
    · have HR : Hid (R = none) := hid (HNO.out (fun j h1 h2 => HZ.out j h1 (by omega)))
      clear HZ HAT HNO
      go_wp2_with (refine wpList_store_row rfl 31 _ _ rfl w.heap.size (row zro) rfl rfl 31 _ R0.out (op_size zro) rfl (row_one zro) ?_)
      obtain ⟨hE, hG⟩ := HRN.out HR.out
      rw [hE, hG]
      exact bodyPost_ret (v := .tuple #[.agg (row zro), .int .i64 186]) (results_row_slot Tryd.results19 _ _ w.heap.size 31 (row zro) (0, 0) _ rfl rfl (setRow_heap _ _ _ _ _ _ R0.out) Tryd.underlying31 (op_size zro)) rfl ⟨rfl, below_setRow B0.out (Nat.le_refl _) _⟩
end Go.Proofs.YtfnnckbdaedlbaaDoor
