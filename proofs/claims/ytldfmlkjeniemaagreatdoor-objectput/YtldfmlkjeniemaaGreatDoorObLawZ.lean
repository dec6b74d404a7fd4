/- The law ObjectPut. -/
import Derived.Test.YtldfmlkjeniemaaGreatDoorObPutBOn
set_option linter.unusedVariables false
namespace Go.Proofs.YtldfmlkjeniemaaGreatDoor
open Go.RowKit Go.Ly Go.Hd Go.Sh Go.Ob Go.Sort
/-- The plan's three cells, an object's five. -/
abbrev S8 (b0 : Nat) (v0 v1 v2 : Value) (b g : Nat) (c0 c1 c2 c3 c4 : Value) (W : World) : Prop :=
  W.cell? ⟨b0, 0, none⟩ = some v0 ∧ W.cell? ⟨b0, 1, none⟩ = some v1 ∧ W.cell? ⟨b0, 2, none⟩ = some v2 ∧ W.cell? ⟨b, g, none⟩ = some c0 ∧ W.cell? ⟨b, g + 1, none⟩ = some c1 ∧ W.cell? ⟨b, g + 2, none⟩ = some c2 ∧ W.cell? ⟨b, g + 3, none⟩ = some c3 ∧ W.cell? ⟨b, g + 4, none⟩ = some c4
theorem s8_drew {b0 b g : Nat} {v0 v1 v2 c0 c1 c2 c3 c4 : Value} {W : World} (h : S8 b0 v0 v1 v2 b g c0 c1 c2 c3 c4 W) : S8 b0 v0 v1 v2 b g c0 c1 c2 c3 c4 W.drew := h
theorem s8_grown {b0 b g B : Nat} {v0 v1 v2 c0 c1 c2 c3 c4 : Value} {W W' : World} (h : S8 b0 v0 v1 v2 b g c0 c1 c2 c3 c4 W) (k : W.grownBy W' (some B)) (n0 : b0 ≠ B) (n1 : b ≠ B) : S8 b0 v0 v1 v2 b g c0 c1 c2 c3 c4 W' := by
  obtain ⟨h0, h1, h2, h3, h4, h5, h6, h7⟩ := h
  exact ⟨grown_cell k n0 h0, grown_cell k n0 h1, grown_cell k n0 h2, grown_cell k n1 h3, grown_cell k n1 h4, grown_cell k n1 h5, grown_cell k n1 h6, grown_cell k n1 h7⟩
theorem s8_below {b0 b g : Nat} {v0 v1 v2 c0 c1 c2 c3 c4 : Value} {W W' : World} (h : S8 b0 v0 v1 v2 b g c0 c1 c2 c3 c4 W) (k : Below W.heap.size W W') : S8 b0 v0 v1 v2 b g c0 c1 c2 c3 c4 W' := by
  obtain ⟨h0, h1, h2, h3, h4, h5, h6, h7⟩ := h
  exact ⟨hcell_below h0 k, hcell_below h1 k, hcell_below h2 k, hcell_below h3 k, hcell_below h4 k, hcell_below h5 k, hcell_below h6 k, hcell_below h7 k⟩
/-- Where the puts stand: the arena has the words that the list has; the heap's box; nothing that came in is changed. -/
structure PuR (w : World) (A B b : Nat) (xs : List Int) (O : Obj) (W : World) : Prop where
  ar : IsAr W A B xs
  ws : Ws W b 0 xs
  ne : b ≠ B
  new : w.heap.size < B
  bel : Below w.heap.size w W
  row : W.heap[w.heap.size]? = some O
theorem PuR.drew {w W : World} {A B b : Nat} {xs : List Int} {O : Obj} (h : PuR w A B b xs O W) : PuR w A B b xs O W.drew :=
  ⟨h.ar.below (Below.refl _ _).drew, h.ws.bel (Below.refl _ _).drew, h.ne, h.new, h.bel.drew, h.row⟩
/-- .. behind the program's Put, ahead of the document's. -/
structure PuQ (w : World) (A B b : Nat) (xs ys : List Int) (O : Obj) (W : World) : Prop where
  ar : IsAr W A B ys
  ws : Ws W b 0 xs
  ne : b ≠ B
  new : w.heap.size < B
  bel : Below w.heap.size w W
  row : W.heap[w.heap.size]? = some O
theorem PuR.did {w W W' : World} {A B b : Nat} {xs ys : List Int} {O : Obj} (h : PuR w A B b xs O W) (ha : IsAr W' A B ys) (g : W.grownBy W' (some B)) : PuQ w A B b xs ys O W' :=
  ⟨ha, h.ws.grown g h.ne, h.ne, h.new, below_grown h.bel h.bel.size g (Nat.le_of_lt h.new), (g.block _ (Array.getElem?_eq_some_iff.1 h.row).1 (fun e => by cases e; have := h.new; omega)).trans h.row⟩
theorem PuQ.drew {w W : World} {A B b : Nat} {xs ys : List Int} {O : Obj} (h : PuQ w A B b xs ys O W) : PuQ w A B b xs ys O W.drew :=
  ⟨h.ar.below (Below.refl _ _).drew, h.ws.bel (Below.refl _ _).drew, h.ne, h.new, h.bel.drew, h.row⟩
theorem PuQ.next {w W W' : World} {A B b b' : Nat} {xs ys : List Int} {O : Obj} (h : PuQ w A B b xs ys O W) (hw : Ws W' b' 0 ys) (hb : b' = b ∨ W.heap.size ≤ b') (k : Below W.heap.size W W') : PuR w A B b' ys O W' := by
  refine ⟨h.ar.below k, hw, ?_, h.new, h.bel.trans (k.mono h.bel.size), row_below h.row k⟩
  have := h.ar.ltB
  rcases hb with rfl | hb
  · exact h.ne
  · omega
theorem PuR.below {w W W' : World} {A B b : Nat} {xs : List Int} {O : Obj} (h : PuR w A B b xs O W) (k : Below W.heap.size W W') : PuR w A B b xs O W' :=
  ⟨h.ar.below k, h.ws.bel k, h.ne, h.new, h.bel.trans (k.mono h.bel.size), row_below h.row k⟩
set_option maxRecDepth 100000 in
set_option maxHeartbeats 8000000 in
theorem objectPut_any (t s : Int) (a : Option Addr) (n c : Nat) (ss : List ByteArray) (wa : Option Addr) (wc : Nat) (ws : List Int) (m : Int) (la : Option Addr) (ln lc : Nat) (w : World) (hT : IsTab w (.slice a n c) ss) (hL : LNums w) (hws : WsA w wa wc ws) (hi : InW ws) (hls : IsObs w la ln) :
    Calls Tryz.prog 4 #[hpV t s a n c wa ws.length wc m, .slice la ln lc] w fun e w' => e = .returned (.bool true) ∧ Below w.heap.size w w' := by
  have B0 := hid (below_alloc0 w (hpO t s a n c wa ws.length wc m))
  have R0 := heap_alloc_last w (hpO t s a n c wa ws.length wc m)
  have cw := fun W (h : Below w.heap.size w W) => oworks_any W (hL.below h)
  by_cases h : mdOk t s ss ws.length m = true
  · obtain ⟨hr, s9, _, m0, m9⟩ := md_yes h
    obtain ⟨t0, t1, s0, s1, _⟩ := rgt_yes hr
    obtain ⟨N, hN⟩ := Int.eq_ofNat_of_zero_le (show 0 ≤ 3 + t + t + 2 * s + m by omega)
    have cm := made_yes t s a n c ss wa wc ws m N _ (hT.below (Nat.le_refl _) B0.out) h (hws.below B0.out) hN.symm
    have hl := mdW_len ws N
    have hxi := mdW_in hi N
    generalize mdW ws N = xs at *
    have n0 : ((N : Int) == 0) = false := by rw [beq_eq_false_iff_ne]; omega
    have HP : Hid (∀ zs : List Int, InW zs → zs.length = N → ∀ k, k < ln → ∃ (b off : Nat) (x sh mk_ lk : Int) (fa : Option Addr) (fc : Nat) (fs : List Int) (er : Int) (ys : List Int), la = some ⟨b, off, none⟩ ∧ ObS b (off + k * 5) x sh mk_ lk (.slice fa fs.length fc) w ∧ FsAt 0 w (.slice fa fs.length fc) fs ∧ PutR t s a n c w zs x sh mk_ lk (.slice fa fs.length fc) fs er ys) := hid (by
      intro zs hzi hzl k hk
      obtain ⟨b, off, x, sh, mk_, lk, fa, fc, fs, e, h1, h2, h3⟩ := hls k hk
      obtain ⟨er, ys, hy⟩ := put_both t s a n c ss zs m x sh mk_ lk fa fc fs w hT hL hr hzi (by omega) h2 h3
      exact ⟨b, off, x, sh, mk_, lk, fa, fc, fs, er, ys, e, h1, h2, hy⟩)
    have h1 : 1 ≤ xs.length := by omega
    have h2 : xs.length ≤ 16384 := by omega
    have HLs := hid hls
    clear hT hL hws h hr s9 m0 m9 t0 t1 s0 s1 hN hi hls
    generalize ws.length = wn at *
    go_enter Tryz.func4, Tryz.ntmps4
    go_wp2_with (go_at_call 5; refine cm.mono ?_)
    rintro e w1 ⟨G, rfl, hx, hG, b1⟩
    have R1 := hid (row_below R0 b1)
    have B1 := hid (B0.out.trans (b1.mono B0.out.size))
    have cO := Of_yes G 0 xs.length xs w1 hx h1 h2
    have A2 := made_ar w1 xs hxi h1 h2
    have M2 := made_below w1 xs
    have hz1 : w.heap.size < w1.heap.size := (Array.getElem?_eq_some_iff.1 R1.out).1
    have hGl : G < w1.heap.size := block_lt_of_cell (hx 0 h1)
    have PR := hid (show PuR w (w1.heap.size + 1) w1.heap.size G xs (hpO t s a n c wa wn wc m) (made w1 xs) from ⟨A2, hx.bel M2, by omega, hz1, B1.out.trans (M2.mono B1.out.size), row_below R1.out M2⟩)
    rw [hl] at cO
    clear cm b1 R0 B0 hx R1 B1 M2 h1 h2 hxi A2 hz1 hGl hG
    generalize made w1 xs = w2 at *
    generalize w1.heap.size + 1 = A at *
    generalize w1.heap.size = B at *
    by_cases h10 : 10 < ln
    · have h10' : (10 : Int) < (ln : Int) := by omega
      have cw2 := cw _ PR.out.bel
      go_wp2_with (first | (go_at_call 6; refine cO.mono ?_; rintro e w' ⟨rfl, hw⟩; rw [hw]; clear hw) | (go_at_call 7; refine cw2.mono ?_; rintro e w7 ⟨rfl, b7⟩))
      go_ret
      exact ⟨rfl, PR.out.bel.trans (b7.mono PR.out.bel.size)⟩
    have h10' : (ln : Int) ≤ 10 := by omega
    clear h10
    go_wp2_with (first | (go_at_call 6; refine cO.mono ?_; rintro e w' ⟨rfl, hw⟩; rw [hw]; clear hw) | (go_at_call 8; refine (onum_any _ _).mono ?_; rintro e w' ⟨rfl, hw⟩; rw [hw]; clear hw))
    clear cO
    go_loopw [8] (fun i wr => ∃ k : Nat, k ≤ ln ∧ i = .int .i64 k ∧ wr = w2) (fun i _ => ln - (intOf i).toNat)
    case atStart => exact ⟨0, by omega, rfl, rfl⟩
    case round =>
      obtain ⟨k, hk, rfl, rfl⟩ := hrel
      by_cases hlt : k < ln
      · have hlt' : (k : Int) < ln := by omega
        obtain ⟨b1, off1, x, sh, mk_, lk, fa, fc, fs, rfl, hS, _, _⟩ := HLs.out k hlt
        have hc4 := hcell_below hS.2.2.2.2 PR.out.bel
        clear hS
        by_cases h20 : 20 < fs.length
        · have h20' : (20 : Int) < (fs.length : Int) := by omega
          have cw2 := cw _ PR.out.bel
          clear HP HLs
          generalize fs.length = F at *
          go_wp2_with (go_at_call 7; refine cw2.mono ?_; rintro e w7 ⟨rfl, b7⟩)
          go_ret
          exact ⟨rfl, PR.out.bel.trans (b7.mono PR.out.bel.size)⟩
        · have h20' : (fs.length : Int) ≤ 20 := by omega
          clear h20
          generalize fs.length = F at *
          go_wp2
          go_roundw
          case rel => exact ⟨k + 1, by omega, by go_num, by simp⟩
          case measure => simp [intOf]; omega
      · obtain rfl : ln = k := by omega
        clear HLs
        go_wp2
        go_loopw [5, 9] (fun l i wr => ∃ (k b lc2 : Nat) (zs : List Int), k ≤ ln ∧ i = .int .i64 k ∧ l = .slice (some ⟨b, 0, none⟩) N lc2 ∧ Hid (zs.length = N) ∧ Hid (PuR w A B b zs (hpO t s a n c wa wn wc m) wr)) (fun _ i _ => ln - (intOf i).toNat)
        case atStart => exact ⟨0, G, N, xs, by omega, rfl, rfl, hid hl, PR⟩
        case round =>
          obtain ⟨j, b, lc2, zs, hj, rfl, rfl, hzl, HR⟩ := hrel
          clear PR
          by_cases hjt : j < ln
          · have hjt' : (j : Int) < ln := by omega
            obtain ⟨b1, off1, x, sh, mk_, lk, fa, fc, fs, er, ys, rfl, hS, hF, hY⟩ := HP.out zs HR.out.ar.bnd hzl.out j hjt
            have hb1l : b1 < w.heap.size := block_lt_of_cell hS.1
            have hBn := HR.out.new
            have nW : w.heap.size ≠ B := by omega
            have nB1 : b1 ≠ B := by omega
            have HS := hid (show S8 w.heap.size (.int .i64 t) (.int .i64 s) (.slice a n c) b1 (off1 + j * 5) (.int .i64 x) (.int .i64 sh) (.int .i64 mk_) (.int .u64 lk) (.slice fa fs.length fc) wr from ⟨at_row HR.out.row 0 rfl, at_row HR.out.row 1 rfl, at_row HR.out.row 2 rfl, hcell_below hS.1 HR.out.bel, hcell_below hS.2.1 HR.out.bel, hcell_below hS.2.2.1 HR.out.bel, hcell_below hS.2.2.2.1 HR.out.bel, hcell_below hS.2.2.2.2 HR.out.bel⟩)
            have cp := fun W => hY.code A B W
            have cd := hY.doc
            rw [hzl.out] at cd
            obtain ⟨er2, at2, sh2, mk2, lk2, zs2, hok, z29, cr⟩ := hY.read
            have hyl : Hid (ys.length = N) := hid (hY.len.trans hzl.out)
            have HF := hid hF
            clear hY hS hF hBn hb1l
            go_wp2_with fail
            go_region_held3 (S8 w.heap.size (.int .i64 t) (.int .i64 s) (.slice a n c) b1 (off1 + j * 5) (.int .i64 x) (.int .i64 sh) (.int .i64 mk_) (.int .u64 lk) (.slice fa fs.length fc)) (with_reducible (first | assumption | exact s8_drew HS.out | exact s8_grown (s8_drew HS.out) g3 nW nB1)) (first | (go_at_call 14; refine (cp _ ?hb3 ?ha3).mono ?_; (case hb3 => exact HR.out.drew.bel); (case ha3 => exact HR.out.drew.ar); rintro e w5 ⟨rfl, a3, g3⟩))
            rename_i hH5
            have HS5 := hid hH5
            have Q5 := hid (HR.out.drew.did a3 g3)
            clear hH5 a3 g3 HS HR cp
            go_wp2_with fail
            go_region_held3 (S8 w.heap.size (.int .i64 t) (.int .i64 s) (.slice a n c) b1 (off1 + j * 5) (.int .i64 x) (.int .i64 sh) (.int .i64 mk_) (.int .u64 lk) (.slice fa fs.length fc)) (with_reducible (first | assumption | exact s8_drew HS5.out | exact s8_below (s8_drew HS5.out) b4)) (first | (go_at_call 15; refine (cd b lc2 _ ?hb4 ?hw4).mono ?_; (case hb4 => exact Q5.out.drew.bel); (case hw4 => exact Q5.out.drew.ws); rintro e w6 ⟨b', lc', rfl, h7, h8, b4⟩))
            rename_i hH6
            have HS6 := hid hH6
            have R6 := hid (Q5.out.drew.next h7 h8 b4)
            clear hH6 h7 h8 b4 HS5 Q5 cd
            have HT := hid (show Hs4 w6 w.heap.size 0 (.int .i64 t) w.heap.size 1 (.int .i64 s) w.heap.size 2 (.slice a n c) b1 (off1 + j * 5) (.int .i64 x) w6 from ⟨HS6.out.1, HS6.out.2.1, HS6.out.2.2.1, HS6.out.2.2.2.1, Below.refl _ _⟩)
            have cr2 : ∀ W, Below w6.heap.size w6 W → _ := fun W hW => cr A B W (R6.out.bel.trans (hW.mono R6.out.bel.size)) (R6.out.ar.below hW)
            clear cr
            go_wp2_with fail
            go_region_held3 (Hs4 w6 w.heap.size 0 (.int .i64 t) w.heap.size 1 (.int .i64 s) w.heap.size 2 (.slice a n c) b1 (off1 + j * 5) (.int .i64 x)) (with_reducible (first | assumption | exact hs4_drew HT.out | exact hs4_call HT.out (hs4_drew HT.out) b3 | (refine hs4_call HT.out ?_ b3; assumption) | (refine hs4_alloc HT.out ?_ _; assumption) | exact hs4_drewa HT.out (hs4_alloc HT.out HT.out _) | exact hs4_alloc HT.out (hs4_call HT.out (hs4_drew HT.out) b3) _ | (refine hs4_set HT.out (hs4_set HT.out (hs4_set HT.out (hs4_set HT.out (hs4_set HT.out ?_ (Nat.le_refl _)) (Nat.le_refl _)) (Nat.le_refl _)) (Nat.le_refl _)) (Nat.le_refl _); assumption))) (first | (go_at_call 9; refine (cr2 _ ?hb5).mono ?_; (case hb5 => first | exact hs4_bel (hs4_drew HT.out) | exact hs4_bel (hs4_drewa HT.out (hs4_alloc HT.out HT.out _))); rintro e w7 ⟨a1, c1, rfl, F1, b3⟩; have q1 := (hbcell b3).1; have q2 := (hbcell b3).2))
            all_goals
              first
                | (have hO := onW_b (at_ := at2) (sh := sh2) (mk_ := mk2) (lk := lk2) b3 F1; clear q1 q2 b3 F1; revert hO; generalize w6.heap.size = g; generalize World.setCell _ _ _ = W8; intro hO)
                | (have hO := onW_a (at_ := at2) (sh := sh2) (mk_ := mk2) (lk := lk2) b3 F1; clear q1 q2 b3 F1; revert hO; generalize w7.heap.size = g; generalize w7.alloc _ = W8; intro hO)
            all_goals
              have HO := hid hO
              have R8 := hid (R6.out.below hO.bel)
              have HS8 := hid (s8_below HS6.out hO.bel)
              clear hO HT cr2 R6 HS6
              have hee : (er != er) = false := by simp
              have chas := fun d os => Calls.regrown_of (ohas_at A B b' 0 lc' ys (grow (redrawn W8 d) os) (R8.out.ar.below (below_regrown W8 d os)) (R8.out.ws.bel (below_regrown W8 d os)))
              simp only [hyl.out] at chas
              have cnum := fun z d os => Calls.regrown_of ((onum_any z (grow (redrawn W8 d) os)).mono (fun e w' h => (⟨h.1, by rw [h.2]; exact Below.refl _ _⟩ : e = .returned (.int .i64 z) ∧ Below _ _ w')))
              have y0 := cell_regrown HS8.out.2.2.2.1
              have y1 := cell_regrown HS8.out.2.2.2.2.1
              have y2 := cell_regrown HS8.out.2.2.2.2.2.1
              have y3 := cell_regrown HS8.out.2.2.2.2.2.2.1
              have y4 := cell_regrown HS8.out.2.2.2.2.2.2.2
              have z0 := cell_regrown (at_row HO.out.row 0 rfl)
              have z1 := cell_regrown (at_row HO.out.row 1 rfl)
              have z2 := cell_regrown (at_row HO.out.row 2 rfl)
              have z3 := cell_regrown (at_row HO.out.row 3 rfl)
              have z4 := cell_regrown (at_row HO.out.row 4 rfl)
              by_cases he0 : er = 0
              · subst he0
                obtain ⟨rfl, rfl, rfl, rfl, rfl, rfl⟩ := hok rfl
                have F8 := HO.out.fs
                have G8 := HF.out.below R8.out.bel
                have csm := fun d os => Calls.regrown_of (orefSame_yes at2 sh2 mk2 lk2 a1 fa zs2.length c1 zs2.length fc zs2 (grow (redrawn W8 d) os) (F8.below (below_regrown W8 d os)) (G8.below (below_regrown W8 d os)) z29)
                clear hok F8 G8
                go_wp2_with fail
                refine wp_region_quiet_below (by kernel_rfl) (by kernel_rfl) ?_
                repeat (go_big_quiet_step ((first | (go_at_call 8; exact cnum _ _ _) | (go_at_call 13; exact chas _ _) | (go_at_call 11; exact csm _ _))))
                refine wpQuiet_nil ?_
                intro _ hw'
                obtain ⟨⟨dq, osq⟩, hw''⟩ := hw'
                subst hw''
                have R9 := hid (R8.out.below (below_regrown W8 dq osq))
                clear R8 HS8 HO y0 y1 y2 y3 y4 chas cnum z0 z1 z2 z3 z4 csm
                generalize grow (redrawn W8 dq) osq = W9 at *
                go_wp2
                go_roundw
                case rel => exact ⟨j + 1, b', lc', ys, by omega, by go_num, rfl, hyl, R9⟩
                case measure => simp [intOf]; omega
              · have he1 : (er == 0) = false := by rw [beq_eq_false_iff_ne]; exact he0
                clear hok z0 z1 z2 z3 z4
                go_wp2_with fail
                refine wp_region_quiet_below (by kernel_rfl) (by kernel_rfl) ?_
                repeat (go_big_quiet_step ((first | (go_at_call 8; exact cnum _ _ _) | (go_at_call 13; exact chas _ _))))
                refine wpQuiet_nil ?_
                intro _ hw'
                obtain ⟨⟨dq, osq⟩, hw''⟩ := hw'
                subst hw''
                have R9 := hid (R8.out.below (below_regrown W8 dq osq))
                clear R8 HS8 HO y0 y1 y2 y3 y4 chas cnum
                generalize grow (redrawn W8 dq) osq = W9 at *
                go_wp2
                go_roundw
                case rel => exact ⟨j + 1, b', lc', ys, by omega, by go_num, rfl, hyl, R9⟩
                case measure => simp [intOf]; omega
          · obtain rfl : ln = j := by omega
            have cw2 := cw _ HR.out.bel
            go_wp2_with (go_at_call 7; refine cw2.mono ?_; rintro e w7 ⟨rfl, b7⟩)
            go_ret
            exact ⟨rfl, HR.out.bel.trans (b7.mono HR.out.bel.size)⟩
  · have cm := made_no t s a n c ss wa ws.length wc m _ (hT.below (Nat.le_refl _) B0.out) (by simpa using h)
    clear hT hL hws h hls
    generalize ws.length = wn at *
    go_enter Tryz.func4, Tryz.ntmps4
    go_wp2_with (go_at_call 5; refine cm.mono ?_)
    rintro e w1 ⟨rfl, b1⟩
    have B1 := hid (B0.out.trans (b1.mono B0.out.size))
    have cw2 := cw _ B1.out
    clear cm cw b1 R0 B0
    go_wp2_with (first | (go_at_call 6; refine (Of_no none 0 0 _ (.inl rfl)).mono ?_; rintro e w' ⟨rfl, rfl⟩) | (go_at_call 7; refine cw2.mono ?_; rintro e w7 ⟨rfl, b7⟩))
    go_ret
    exact ⟨rfl, B1.out.trans (b7.mono B1.out.size)⟩
end Go.Proofs.YtldfmlkjeniemaaGreatDoor
