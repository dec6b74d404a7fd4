/- package graph: planOf: a plan of one's own. Typed by tools/gen09q.py. -/
import Derived.Test.YtlkhmfmocegekaaDoorGrP
import Derived.Test.YtlkhmfmocegekaaDoorShelf
import Derived.Test.YtlkhmfmocegekaaDoorLyBaseOn
set_option linter.unusedVariables false
namespace Go.Proofs.YtlkhmfmocegekaaDoor
open Go.RowKit Go.Gr Go.Sh Go.Oq
theorem gClone_any (s : ByteArray) (w : World) (hl : s.size ≤ 281474976710656) : Calls Tryd.prog 28 #[.string s] w fun e w' => e = .returned (.string s) ∧ Below w.heap.size w w' := by
  have c := Tryd.stringslite_Clone s w hl
  go_enter Tryd.func28, Tryd.ntmps28
  go_wp2_with (go_at_call 47; refine c.mono ?_; rintro e w' ⟨rfl, b1⟩)
  go_ret
  exact ⟨rfl, b1⟩
theorem ginfo_shape : (Tryd.prog.info? 49).map (fun i => (i.zero, i.size, i.bytes)) = some (some (.string ByteArray.empty), 1, 16) := by kernel_rfl
def txs (l : List ByteArray) : List Value := l.map Value.string
theorem txs_snoc (l : List ByteArray) (x : ByteArray) : txs (l ++ [x]) = txs l ++ [.string x] := by simp [txs]
/-- What the loop keeps: the plan, its texts' own row. -/
structure PlI (w : World) (B : Nat) (t s : Int) (l : List ByteArray) (v : Value) (W : World) : Prop where
  box : W.heap[B]? = some (.cells #[.int .i64 t, .int .i64 s, v] 45)
  out : W.heap[w.heap.size + 1]? = some (.cells #[.int .i64 0, .int .i64 0, .slice none 0 0] 45)
  own : W.ownsRow (B + 1) 49 1 v l.length (txs l)
  bel : Below w.heap.size w W
  ord : B = w.heap.size + 1 + 1
theorem PlI.bel' {w W W' : World} {B : Nat} {t s : Int} {l : List ByteArray} {v : Value} (h : PlI w B t s l v W) (b : Below W.heap.size W W') : PlI w B t s l v W' :=
  ⟨(b.block _ (row_lt h.box)).trans h.box, (b.block _ (row_lt h.out)).trans h.out, h.own.kept (grown_of_below b) (by
    rcases h.own.2 with ⟨rfl, _⟩ | ⟨g, cap, cur, rfl, _, hgb, _⟩
    · exact .inl rfl
    · exact .inr (by simp [Value.ownBlock])), h.bel.trans (b.mono h.bel.size), h.ord⟩
theorem PlI.app {w W w7 : World} {B : Nat} {t s : Int} {l : List ByteArray} {v v' : Value} {x : ByteArray} {tmp : Obj} (h : PlI w B t s l v W) (hown : w7.ownsRow (B + 1) 49 1 v' (l.length + 1) (txs l ++ [.string x])) (hg : (W.alloc tmp).grownBy w7 v.ownBlock) :
    w7.heap[B]? = some (.cells #[.int .i64 t, .int .i64 s, v] 45) ∧ PlI w B t s (l ++ [x]) v' (w7.setCell ⟨B, 2, none⟩ v') := by
  have ne : ∀ {b : Nat}, b ≤ B → some b ≠ v.ownBlock := fun hb e => by
    rcases h.own.2 with ⟨rfl, _⟩ | ⟨g, cap, cur, rfl, hlo, hgb, _⟩
    · simp [Value.ownBlock] at e
    · simp [Value.ownBlock] at e; omega
  have hord := h.ord
  have g1 : W.grownBy w7 v.ownBlock := (World.grownBy_alloc W tmp _).trans hg
  have hB := (g1.block B (row_lt h.box) (ne (Nat.le_refl _))).trans h.box
  have hU := (g1.block _ (row_lt h.out) (ne (by omega))).trans h.out
  have g2 : w7.grownBy (w7.setCell ⟨B, 2, none⟩ v') (some B) := lgrown_set w7 B 2 v'
  refine ⟨hB, gset_row hB 2 v', (wr_set w7 B 2 v').row hU (by omega), ?_, ?_, hord⟩
  · rw [List.length_append, txs_snoc]
    refine hown.kept g2 ?_
    rcases hown.2 with ⟨rfl, _⟩ | ⟨g, cap, cur, rfl, hlo, hgb, _⟩
    · exact .inl rfl
    · refine .inr (fun e => ?_); simp [Value.ownBlock] at e; omega
  · refine (h.bel.grown g1 h.bel.size (fun j e => ?_)).grown g2 (Nat.le_trans h.bel.size g1.size) (fun j e => by cases e; omega)
    rcases h.own.2 with ⟨rfl, _⟩ | ⟨g, cap, cur, rfl, hlo, hgb, _⟩
    · simp [Value.ownBlock] at e
    · simp [Value.ownBlock] at e; omega
theorem cell_one_drew (w : World) (x : Value) (t : TypeId) : ∀ j u, [x][j]? = some u → ((w.alloc (.cells #[x] t)).drew).cell? ((⟨w.heap.size, 0, none⟩ : Addr).add j) = some u := by
  intro j u h
  have hr : ((w.alloc (.cells #[x] t)).drew).heap[w.heap.size]? = some (.cells #[x] t) := heap_alloc_last w _
  have ha : (⟨w.heap.size, 0, none⟩ : Addr).add j = ⟨w.heap.size, j, none⟩ := by unfold Addr.add; split <;> simp_all
  rw [ha]
  refine at_row hr j ?_
  simpa using h
theorem own_as {W : World} {base : Nat} {e : TypeId} {size n k : Nat} {v : Value} {xs ys : List Value} (h : W.ownsRow base e size v n xs) (hn : n = k) (hx : ys = xs) : W.ownsRow base e size v k ys := by subst hn hx; exact h
theorem plI_start (w : World) (O : Obj) (t s : Int) : PlI w (w.heap.size + 1 + 1) t s [] (.slice none 0 0) (((w.alloc O).alloc (.cells #[.int .i64 0, .int .i64 0, .slice none 0 0] 45)).alloc (.cells #[.int .i64 t, .int .i64 s, .slice none 0 0] 45)) :=
  ⟨row3c (Below.refl _ _), row3b (Below.refl _ _), ⟨rfl, .inl ⟨rfl, rfl⟩⟩, bel3 (Below.refl _ _), rfl⟩
theorem results_plan {fn : Func} {p : Tmp} (h : fn.results = #[.cell p 45]) (tmps : Array Value) (w : World) (g : Nat) {x y z : Value}
    (hp : tmps.getD p undef = .pointer (some ⟨g, 0, none⟩)) (hg : w.heap[g]? = some (.cells #[x, y, z] 45)) : (results fn tmps).run Tryd.prog w = .ok (.agg #[x, y, z]) w := by
  have hp' : tmps[p]?.getD undef = .pointer (some ⟨g, 0, none⟩) := by simpa using hp
  have hu := Tryd.underlying45
  have hi : (Tryd.prog.info? 45).map (·.size) = some 3 := by kernel_rfl
  simp [results, h, hp', asAddr, run_loadVar_row w g 45 45 #[x, y, z] (0, 0) _ hg hu rfl hi]
theorem plI_end {W : World} {base g B : Nat} {e : TypeId} {size n : Nat} {v x y z : Value} {xs : List Value} (h : W.ownsRow B e size v n xs) (hg : g < B) (hb : base ≤ B) : (((W.setCell ⟨g, 0, none⟩ x).setCell ⟨g, 1, none⟩ y).setCell ⟨g, 2, none⟩ z).ownsRow base e size v n xs := by
  have hne : ∀ W' : World, W'.ownsRow B e size v n xs → v.ownBlock = none ∨ v.ownBlock ≠ some g := fun W' h => by
    rcases h.2 with ⟨rfl, _⟩ | ⟨q, cap, cur, rfl, hlo, hgb, _⟩
    · exact .inl rfl
    · refine .inr (fun e => ?_); simp [Value.ownBlock] at e; omega
  have h1 := h.kept (lgrown_set W g 0 x) (hne _ h)
  have h2 := h1.kept (lgrown_set _ g 1 y) (hne _ h1)
  have h3 := h2.kept (lgrown_set _ g 2 z) (hne _ h2)
  refine ⟨h3.1, ?_⟩
  rcases h3.2 with q | ⟨q, cap, cur, r1, r2, r3⟩
  · exact .inl q
  · exact .inr ⟨q, cap, cur, r1, by omega, r3⟩
set_option maxRecDepth 100000 in
set_option maxHeartbeats 4000000 in
theorem planOf_at (t s : Int) (a : Option Addr) (n c : Nat) (ss : List ByteArray) (w : World) (hT : IsTab w (.slice a n c) ss) (hr : right ss = true) :
    Calls Tryd.prog 16 #[planV t s a n c] w fun e W => ∃ v, e = .returned (.agg #[.int .i64 t, .int .i64 s, v]) ∧ W.ownsRow w.heap.size 49 1 v n (txs ss) ∧ Below w.heap.size w W := by
  obtain ⟨i0, hi, hz0, hz1, hz2⟩ := info_parts ginfo_shape
  have hrl := right_len hr
  obtain ⟨b, off, cap, hv, hcell⟩ := hT.some hrl.1
  simp only [Value.slice.injEq] at hv
  obtain ⟨rfl, rfl, rfl⟩ := hv
  have hcw := hid hcell
  have HR := hid hr
  clear hcell hT hr
  go_enter Tryd.func16, Tryd.ntmps16
  go_wp2
  have HI := plI_start w (.cells #[.int .i64 t, .int .i64 s, .slice (some ⟨b, off, none⟩) ss.length c] 24) t s
  revert HI
  generalize World.alloc (World.alloc (World.alloc w _) _) _ = w0
  intro HI
  obtain ⟨B, hB⟩ : ∃ B, w.heap.size + 1 + 1 = B := ⟨_, rfl⟩
  rw [hB] at HI ⊢
  have HI := hid HI
  go_loopw [14] (fun i wr => ∃ (k : Nat) (v' : Value), k ≤ ss.length ∧ i = .int .i64 k ∧ Hid (PlI w B t s (ss.take k) v' wr)) (fun i _ => ss.length - (intOf i).toNat)
  case atStart => exact ⟨0, .slice none 0 0, Nat.zero_le _, rfl, HI⟩
  case round =>
    obtain ⟨k, v, hk, rfl, HA⟩ := hrel
    clear HI
    by_cases hlt : k < ss.length
    · have hlen : (ss.take k).length = k := by rw [List.length_take]; omega
      obtain ⟨va, vc, rfl⟩ : ∃ va vc, v = .slice va k vc := by
        rcases HA.out.own.2 with ⟨rfl, h0⟩ | ⟨g, cap, cur, rfl, _⟩
        · exact ⟨none, 0, by rw [← hlen, h0]⟩
        · exact ⟨_, _, by rw [hlen]⟩
      have hck := hcell_below' (hcw.out k hlt) (HA.out.bel)
      have HS8 := hid (one_size (right_all HR.out k hlt))
      have HS9 := hid (show (at' ss k).size ≤ 281474976710656 from by have := HS8.out; omega)
      have HQ := hid (fun W' (b_ : Below wr.heap.size wr W') => hcell_below' (at_row HA.out.box 2 rfl) b_)
      have HT1 := hid (take_succ_at hlt)
      obtain ⟨VS, hVS⟩ : ∃ VS, VS = txs (ss.take k) := ⟨_, rfl⟩
      have HVS := hid hVS
      have HL := hid hlen
      clear hVS hlen HR
      go_wp2_with fail
      have qa0 := HQ.out wr.drew (Below.refl _ _).drew
      refine wp_region_held_drew (S := fun _ => True) (by kernel_rfl) trivial (fun hHeld => ?_)
      refine wpAnyH_take (i := 0) (v := ?_) rfl (by kernel_rfl) (by kernel_rfl) (by kernel_rfl) (fun _ _ _ h => h) (Or.inl ⟨by rfl, ?_⟩) (by assumption) ?_
      rotate_left
      · (intro wx hSw; (try dsimp only at hSw); go_simp <;> with_reducible rfl)
      simp only [Act.put]
      refine wpAnyH_take (i := 2) (v := ?_) rfl (by kernel_rfl) (by kernel_rfl) (by kernel_rfl) (fun _ _ _ h => h) (Or.inl ⟨by rfl, ?_⟩) (by assumption) ?_
      rotate_left
      · (intro wx hSw; (try dsimp only at hSw); go_simp <;> with_reducible rfl)
      simp only [Act.put]
      refine wpAnyH_ready (rs := [1, 3]) (by kernel_rfl) (by simp) ?_
      refine AllReadyH.cons rfl (fun K hK => ?_) (AllReadyH.cons rfl (fun K hK => ?_) AllReadyH.nil)
      ·
        go_simp
        refine hK.out _ _ ?_ (fun hHeld => ?_)
        · trivial
        clear hK K
        refine wpAnyH_ready (rs := [3]) (by kernel_rfl) (by simp) ?_
        refine AllReadyH.cons rfl (fun K hK => ?_) AllReadyH.nil
        go_simp
        go_at_call 28
        refine (gClone_any _ _ HS9.out).mono ?_
        rintro e w5 ⟨rfl, b5⟩
        have qa := HQ.out w5 (bel_undrew b5)
        have qb := fun O => HQ.out (w5.alloc O) ((bel_undrew b5).trans ((below_alloc0 w5 O).mono (bel_undrew b5).size))
        have HA5 := hid (HA.out.bel' (bel_undrew b5))
        dsimp only
        refine hK.out _ _ ?_ (fun hHeld => ?_)
        · trivial
        clear hK K
        refine wpAnyH_ready (rs := [4]) (by kernel_rfl) (by simp) ?_
        refine AllReadyH.cons rfl (fun K hK => ?_) AllReadyH.nil
        go_simp
        refine hK.out _ _ ?_ (fun hHeld => ?_)
        · trivial
        clear hK K
        refine wpAnyH_ready (rs := [5]) (by kernel_rfl) (by simp) ?_
        refine AllReadyH.cons rfl (fun K hK => ?_) AllReadyH.nil
        refine step_append_own rfl _ _ 22 rfl (B + 1) 49 i0 (.string ByteArray.empty) 1 16 Tryd.underlying22 hi hz0 hz1 hz2 rfl (by decide) (.slice va k vc) k VS rfl ((own_as HA5.out.own HL.out HVS.out).alloc _) ⟨w5.heap.size, 0, none⟩ 1 1 [.string (at' ss k)] rfl rfl (cell_one_new _ _ _) (by simp [Value.oneCell']) (by unfold maxLen; omega) (by omega) (by have := row_lt HA5.out.box; show B + 1 ≤ (w5.alloc _).heap.size; simp; omega) ?_
        intro v' w7 hown hgrow
        have happ := hid (HA5.out.app (x := at' ss k) (by rw [← HVS.out, HL.out]; exact hown) hgrow)
        have s1 := at_row happ.out.1 2 rfl
        have t1 := fz_row happ.out.1 2
        obtain ⟨g7, cap7, rfl⟩ := ownsRow_succ hown
        refine hK.out _ _ ?_ (fun hHeld => ?_)
        · trivial
        clear hK K
        refine wpAnyH_take (i := 6) (v := ?_) rfl (by kernel_rfl) (by kernel_rfl) (by kernel_rfl) (fun _ _ _ h => h) (Or.inl ⟨by rfl, ?_⟩) (by assumption) ?_
        rotate_left
        · (intro wx hSw; (try dsimp only at hSw); go_simp <;> with_reducible rfl)
        simp only [Act.put]
        refine wpAnyH_ready (rs := [7]) (by kernel_rfl) (by simp) ?_
        refine AllReadyH.cons rfl (fun K hK => ?_) AllReadyH.nil
        go_simp
        refine hK.out _ _ ?_ (fun hHeld => ?_)
        · trivial
        clear hK K
        refine wpAnyH_done (by kernel_rfl) ?_ _
        clear hown hgrow s1 t1 qa qb b5 HA5
        have HN := hid happ.out.2
        clear happ
        generalize World.setCell _ _ _ = W8 at *
        go_wp2
        go_roundw
        case rel => exact ⟨k + 1, _, by omega, by go_num, hid (by rw [HT1.out]; exact HN.out)⟩
        case measure => simp [intOf]; omega
      ·
        go_simp
        go_at_call 28
        refine (gClone_any _ _ HS9.out).mono ?_
        rintro e w5 ⟨rfl, b5⟩
        have qa := HQ.out w5 (bel_undrew b5)
        have qb := fun O => HQ.out (w5.alloc O) ((bel_undrew b5).trans ((below_alloc0 w5 O).mono (bel_undrew b5).size))
        have HA5 := hid (HA.out.bel' (bel_undrew b5))
        dsimp only
        refine hK.out _ _ ?_ (fun hHeld => ?_)
        · trivial
        clear hK K
        refine wpAnyH_ready (rs := [1, 4]) (by kernel_rfl) (by simp) ?_
        refine AllReadyH.cons rfl (fun K hK => ?_) (AllReadyH.cons rfl (fun K hK => ?_) AllReadyH.nil)
        ·
          go_simp
          refine hK.out _ _ ?_ (fun hHeld => ?_)
          · trivial
          clear hK K
          refine wpAnyH_ready (rs := [4]) (by kernel_rfl) (by simp) ?_
          refine AllReadyH.cons rfl (fun K hK => ?_) AllReadyH.nil
          go_simp
          refine hK.out _ _ ?_ (fun hHeld => ?_)
          · trivial
          clear hK K
          refine wpAnyH_ready (rs := [5]) (by kernel_rfl) (by simp) ?_
          refine AllReadyH.cons rfl (fun K hK => ?_) AllReadyH.nil
          refine step_append_own rfl _ _ 22 rfl (B + 1) 49 i0 (.string ByteArray.empty) 1 16 Tryd.underlying22 hi hz0 hz1 hz2 rfl (by decide) (.slice va k vc) k VS rfl ((own_as HA5.out.own HL.out HVS.out).alloc _) ⟨w5.heap.size, 0, none⟩ 1 1 [.string (at' ss k)] rfl rfl (cell_one_new _ _ _) (by simp [Value.oneCell']) (by unfold maxLen; omega) (by omega) (by have := row_lt HA5.out.box; show B + 1 ≤ (w5.alloc _).heap.size; simp; omega) ?_
          intro v' w7 hown hgrow
          have happ := hid (HA5.out.app (x := at' ss k) (by rw [← HVS.out, HL.out]; exact hown) hgrow)
          have s1 := at_row happ.out.1 2 rfl
          have t1 := fz_row happ.out.1 2
          obtain ⟨g7, cap7, rfl⟩ := ownsRow_succ hown
          refine hK.out _ _ ?_ (fun hHeld => ?_)
          · trivial
          clear hK K
          refine wpAnyH_take (i := 6) (v := ?_) rfl (by kernel_rfl) (by kernel_rfl) (by kernel_rfl) (fun _ _ _ h => h) (Or.inl ⟨by rfl, ?_⟩) (by assumption) ?_
          rotate_left
          · (intro wx hSw; (try dsimp only at hSw); go_simp <;> with_reducible rfl)
          simp only [Act.put]
          refine wpAnyH_ready (rs := [7]) (by kernel_rfl) (by simp) ?_
          refine AllReadyH.cons rfl (fun K hK => ?_) AllReadyH.nil
          go_simp
          refine hK.out _ _ ?_ (fun hHeld => ?_)
          · trivial
          clear hK K
          refine wpAnyH_done (by kernel_rfl) ?_ _
          clear hown hgrow s1 t1 qa qb b5 HA5
          have HN := hid happ.out.2
          clear happ
          generalize World.setCell _ _ _ = W8 at *
          go_wp2
          go_roundw
          case rel => exact ⟨k + 1, _, by omega, by go_num, hid (by rw [HT1.out]; exact HN.out)⟩
          case measure => simp [intOf]; omega
        ·
          go_simp
          refine hK.out _ _ ?_ (fun hHeld => ?_)
          · trivial
          clear hK K
          refine wpAnyH_ready (rs := [1]) (by kernel_rfl) (by simp) ?_
          refine AllReadyH.cons rfl (fun K hK => ?_) AllReadyH.nil
          go_simp
          refine hK.out _ _ ?_ (fun hHeld => ?_)
          · trivial
          clear hK K
          refine wpAnyH_ready (rs := [5]) (by kernel_rfl) (by simp) ?_
          refine AllReadyH.cons rfl (fun K hK => ?_) AllReadyH.nil
          refine step_append_own rfl _ _ 22 rfl (B + 1) 49 i0 (.string ByteArray.empty) 1 16 Tryd.underlying22 hi hz0 hz1 hz2 rfl (by decide) (.slice va k vc) k VS rfl ((own_as HA5.out.own HL.out HVS.out).alloc _) ⟨w5.heap.size, 0, none⟩ 1 1 [.string (at' ss k)] rfl rfl (cell_one_new _ _ _) (by simp [Value.oneCell']) (by unfold maxLen; omega) (by omega) (by have := row_lt HA5.out.box; show B + 1 ≤ (w5.alloc _).heap.size; simp; omega) ?_
          intro v' w7 hown hgrow
          have happ := hid (HA5.out.app (x := at' ss k) (by rw [← HVS.out, HL.out]; exact hown) hgrow)
          have s1 := at_row happ.out.1 2 rfl
          have t1 := fz_row happ.out.1 2
          obtain ⟨g7, cap7, rfl⟩ := ownsRow_succ hown
          refine hK.out _ _ ?_ (fun hHeld => ?_)
          · trivial
          clear hK K
          refine wpAnyH_take (i := 6) (v := ?_) rfl (by kernel_rfl) (by kernel_rfl) (by kernel_rfl) (fun _ _ _ h => h) (Or.inl ⟨by rfl, ?_⟩) (by assumption) ?_
          rotate_left
          · (intro wx hSw; (try dsimp only at hSw); go_simp <;> with_reducible rfl)
          simp only [Act.put]
          refine wpAnyH_ready (rs := [7]) (by kernel_rfl) (by simp) ?_
          refine AllReadyH.cons rfl (fun K hK => ?_) AllReadyH.nil
          go_simp
          refine hK.out _ _ ?_ (fun hHeld => ?_)
          · trivial
          clear hK K
          refine wpAnyH_done (by kernel_rfl) ?_ _
          clear hown hgrow s1 t1 qa qb b5 HA5
          have HN := hid happ.out.2
          clear happ
          generalize World.setCell _ _ _ = W8 at *
          go_wp2
          go_roundw
          case rel => exact ⟨k + 1, _, by omega, by go_num, hid (by rw [HT1.out]; exact HN.out)⟩
          case measure => simp [intOf]; omega
    · have : k = ss.length := by omega
      subst this
      have HE := hid (List.take_length (l := ss))
      have y0 := at_row HA.out.box 0 rfl
      have y1 := at_row HA.out.box 1 rfl
      have y2 := at_row HA.out.box 2 rfl
      have o0 := at_row HA.out.out 0 rfl
      have o1 := at_row HA.out.out 1 rfl
      have o2 := at_row HA.out.out 2 rfl
      have p0 := fz_row HA.out.out 0
      have p1 := fz_row HA.out.out 1
      have p2 := fz_row HA.out.out 2
      obtain ⟨va, vn, vc, rfl⟩ : ∃ va vn vc, v = .slice va vn vc := by
        rcases HA.out.own.2 with ⟨rfl, h0⟩ | ⟨g, cap, cur, rfl, _⟩
        · exact ⟨none, 0, 0, rfl⟩
        · exact ⟨_, _, _, rfl⟩
      go_wp2
      have hord := HA.out.ord
      have hs3 := lset3 HA.out.out (.int .i64 t) (.int .i64 s) (.slice va vn vc)
      have hown := HA.out.own
      rw [HE.out] at hown
      refine bodyPost_ret (results_plan Tryd.results16 _ _ (w.heap.size + 1) rfl hs3) rfl ⟨_, rfl, plI_end hown (by omega) (by omega), ?_⟩
      exact ((HA.out.bel.setCell (p := ⟨w.heap.size + 1, 0, none⟩) (by show w.heap.size ≤ w.heap.size + 1; omega) _).setCell (p := ⟨w.heap.size + 1, 1, none⟩) (by show w.heap.size ≤ w.heap.size + 1; omega) _).setCell (p := ⟨w.heap.size + 1, 2, none⟩) (by show w.heap.size ≤ w.heap.size + 1; omega) _
end Go.Proofs.YtlkhmfmocegekaaDoor
