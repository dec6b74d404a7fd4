/- The walk of the law LayoutParts. -/
import Derived.Test.YtjfegimgpkeleaaDoorLyRefT
import Derived.Test.YtjfegimgpkeleaaDoorLyWorks
set_option linter.unusedVariables false
namespace Go.Proofs.YtjfegimgpkeleaaDoor
open Go.RowKit Go.Ly Go.Sh Go.Sort
/-- Numbers that came in. -/
def IntsAt (w : World) (a : Option Addr) (len : Nat) (zs : List Int) : Prop :=
  ∀ i, i < len → ∃ b off, a = some ⟨b, off, none⟩ ∧ b < w.heap.size ∧ w.cell? ⟨b, off + i, none⟩ = some (.int .i64 (zs.getD i 0))
theorem ints_of {w : World} {x : Addr} {len cap : Nat} {zs : List Int} (hl : len ≤ cap) (hz : zs.length = cap) (hcell : ∀ i, i < zs.length → w.cell? (x.add i) = some (.int .i64 (zs.getD i 0))) : IntsAt w (some x) len zs := by
  intro i hi
  obtain ⟨b, off, spot⟩ := x
  have hspot : spot = none := by simpa [Addr.add] using World.cell?_spot (hcell 0 (by omega))
  subst hspot
  have hci : w.cell? ⟨b, off + i, none⟩ = some (.int .i64 (zs.getD i 0)) := by
    have := hcell i (by omega)
    have ha : (⟨b, off, none⟩ : Addr).add i = ⟨b, off + i, none⟩ := by unfold Addr.add; split <;> simp_all
    rwa [ha] at this
  exact ⟨b, off, rfl, block_lt_of_cell hci, hci⟩
abbrev qplO (t s : Int) (a : Option Addr) (n c : Nat) : Obj := .cells #[.int .i64 t, .int .i64 s, .slice a n c] 24
abbrev qptO (k x y : Int) : Obj := .cells #[.int .i64 k, .int .i64 x, .int .i64 y] 45
/-- What a drawn region that reads the plan and a number keeps. -/
abbrev PaS (w : World) (P bb o : Nat) (t s : Int) (a : Option Addr) (n c : Nat) (z : Int) : World → Prop := fun W =>
  W.cell? ⟨P, 0, none⟩ = some (.int .i64 t) ∧ W.cell? ⟨P, 1, none⟩ = some (.int .i64 s) ∧ W.cell? ⟨P, 2, none⟩ = some (.slice a n c) ∧ W.cell? ⟨bb, o, none⟩ = some (.int .i64 z) ∧ Below w.heap.size w W
theorem paS_call {w w1 w2 : World} {P bb o : Nat} {t s : Int} {a : Option Addr} {n c : Nat} {z : Int} (hf : PaS w P bb o t s a n c z w1) (hb : Below w1.heap.size w1 w2) : PaS w P bb o t s a n c z w2 := by
  obtain ⟨h0, h1, h2, h3, h4⟩ := hf
  have hg : P < w1.heap.size := block_lt_of_cell h0
  have hg2 : bb < w1.heap.size := block_lt_of_cell h3
  exact ⟨(hb.cell (p := ⟨P, 0, none⟩) hg).trans h0, (hb.cell (p := ⟨P, 1, none⟩) hg).trans h1, (hb.cell (p := ⟨P, 2, none⟩) hg).trans h2, (hb.cell (p := ⟨bb, o, none⟩) hg2).trans h3, h4.trans (hb.mono h4.size)⟩
theorem paS_alloc {w w1 : World} {P bb o : Nat} {t s : Int} {a : Option Addr} {n c : Nat} {z : Int} (hf : PaS w P bb o t s a n c z w1) (O : Obj) : PaS w P bb o t s a n c z (w1.alloc O) := paS_call hf (below_alloc0 w1 O)
theorem paS_drew {w w1 : World} {P bb o : Nat} {t s : Int} {a : Option Addr} {n c : Nat} {z : Int} (hf : PaS w P bb o t s a n c z w1) : PaS w P bb o t s a n c z w1.drew :=
  ⟨hf.1, hf.2.1, hf.2.2.1, hf.2.2.2.1, hf.2.2.2.2.drew⟩
theorem far_cell6 {w : World} {g j X k : Nat} {v u : Value} (h : w.cell? ⟨X, k, none⟩ = some u) (hx : X < g) : (w.setCell ⟨g, j, none⟩ v).cell? ⟨X, k, none⟩ = some u := by
  rw [World.cell?_setCell_far _ _ _ _ (by show g ≠ X; omega)]; exact h
theorem paS_set {w w1 : World} {P bb o g j : Nat} {t s : Int} {a : Option Addr} {n c : Nat} {z : Int} {v : Value} (hf : PaS w P bb o t s a n c z w1) (hP : P < g) (hb : bb < g) (hw : w.heap.size ≤ g) : PaS w P bb o t s a n c z (w1.setCell ⟨g, j, none⟩ v) :=
  ⟨far_cell6 hf.1 hP, far_cell6 hf.2.1 hP, far_cell6 hf.2.2.1 hP, far_cell6 hf.2.2.2.1 hb, hf.2.2.2.2.setCell hw _⟩
theorem paS_three {w w1 : World} {P bb o g : Nat} {t s : Int} {a : Option Addr} {n c : Nat} {z : Int} {u v y : Value} (hf : PaS w P bb o t s a n c z w1) (hP : P < g) (hb : bb < g) (hw : w.heap.size ≤ g) : PaS w P bb o t s a n c z (((w1.setCell ⟨g, 0, none⟩ u).setCell ⟨g, 1, none⟩ v).setCell ⟨g, 2, none⟩ y) :=
  paS_set (paS_set (paS_set hf hP hb hw) hP hb hw) hP hb hw
theorem lbcell {W w1 : World} (hb : Below W.heap.size W w1) : (∀ b o, b < W.heap.size → w1.cell? ⟨b, o, none⟩ = W.cell? ⟨b, o, none⟩) ∧ (∀ b o, b < W.heap.size → w1.frozen? ⟨b, o, none⟩ = W.frozen? ⟨b, o, none⟩) :=
  ⟨fun b o h => hb.cell (p := ⟨b, o, none⟩) h, fun b o h => hb.frozen (p := ⟨b, o, none⟩) h⟩
/-- Behind such a region that made a part's box. -/
def PaA (wr W : World) (g : Nat) (O : Obj) : Prop := Below wr.heap.size wr W ∧ W.heap[g]? = some O ∧ wr.heap.size ≤ g
theorem paA_a {wr w3 : World} (b3 : Below wr.drew.heap.size wr.drew w3) (O : Obj) : PaA wr (w3.alloc O) w3.heap.size O := by
  have sz : wr.heap.size ≤ w3.heap.size := b3.size
  have k : Below wr.heap.size wr w3 := (Below.refl _ _).drew.trans b3
  exact ⟨k.alloc sz _, heap_alloc_last w3 O, sz⟩
theorem paA_b {wr w3 : World} {z0 z1 z2 : Value} {ty : TypeId} (b3 : Below ((wr.alloc (.cells #[z0, z1, z2] ty)).drew).heap.size ((wr.alloc (.cells #[z0, z1, z2] ty)).drew) w3) (u v y : Value) :
    PaA wr (((w3.setCell ⟨wr.heap.size, 0, none⟩ u).setCell ⟨wr.heap.size, 1, none⟩ v).setCell ⟨wr.heap.size, 2, none⟩ y) wr.heap.size (.cells #[u, v, y] ty) := by
  have szd : ((wr.alloc (.cells #[z0, z1, z2] ty)).drew).heap.size = wr.heap.size + 1 := size_alloc wr _
  have k0 : Below wr.heap.size wr ((wr.alloc (.cells #[z0, z1, z2] ty)).drew) := (below_alloc0 wr _).drew
  have k : Below wr.heap.size wr w3 := k0.trans (b3.mono (by omega))
  have r : w3.heap[wr.heap.size]? = some (.cells #[z0, z1, z2] ty) := (b3.block _ (by omega)).trans (heap_alloc_last wr _)
  exact ⟨three_set k (Nat.le_refl _) _ _ _, set3_row r _ _ _, Nat.le_refl _⟩
/- WALKS -/
set_option maxRecDepth 10000000 in
set_option maxHeartbeats 16000000 in
theorem layoutParts_v (t s : Int) (a : Option Addr) (n c : Nat) (ss : List ByteArray) (la : Option Addr) (len cap : Nat) (zs : List Int) (w : World) (hT : IsTab w (.slice a n c) ss) (hA : LAll w) (hv : lvs ss = true) :
    Calls Tryd.prog 5 #[planV t s a n c, .slice la len cap] w fun e w' => e = .returned (.bool true) ∧ Below w.heap.size w w' := by
  have cv := fun W h => lvast_any t s a n c ss W h
  simp only [hv] at cv
  have HA := hid hA
  have HT : Hid (∀ W, Below w.heap.size w W → IsTab W (.slice a n c) ss) := hid (fun W b => hT.below (Nat.le_refl _) b)
  have P0 : Hid ((w.alloc (qplO t s a n c)).heap[w.heap.size]? = some (qplO t s a n c)) := hid (heap_alloc_last w _)
  have B0 := hid (below_alloc0 w (qplO t s a n c))
  have cw := fun W (h : Below w.heap.size w W) => lworks_any W (HA.out.below h)
  clear hA hT
  go_enter Tryd.func5, Tryd.ntmps5
  go_wp2_with (go_at_call 8; refine (cv _ (HT.out _ B0.out)).mono ?_)
  rintro e w1 ⟨rfl, b⟩
  have B1 := hid (B0.out.trans (b.mono B0.out.size))
  have P1 := hid (row_below P0.out b)
  clear B0 P0 b cv
  have cw1 := cw w1 B1.out
  go_wp2_with (go_at_call 9; refine cw1.mono ?_; rintro e w2 ⟨rfl, b2⟩)
  go_ret
  exact ⟨rfl, B1.out.trans (b2.mono B1.out.size)⟩
set_option maxRecDepth 10000000 in
set_option maxHeartbeats 16000000 in
theorem layoutParts_l (t s : Int) (a : Option Addr) (n c : Nat) (ss : List ByteArray) (la : Option Addr) (len cap : Nat) (zs : List Int) (w : World) (hT : IsTab w (.slice a n c) ss) (hA : LAll w) (hv : lvs ss = false) (hl : 60 < (len : Int)) :
    Calls Tryd.prog 5 #[planV t s a n c, .slice la len cap] w fun e w' => e = .returned (.bool true) ∧ Below w.heap.size w w' := by
  have cv := fun W h => lvast_any t s a n c ss W h
  simp only [hv] at cv
  have HA := hid hA
  have HT : Hid (∀ W, Below w.heap.size w W → IsTab W (.slice a n c) ss) := hid (fun W b => hT.below (Nat.le_refl _) b)
  have P0 : Hid ((w.alloc (qplO t s a n c)).heap[w.heap.size]? = some (qplO t s a n c)) := hid (heap_alloc_last w _)
  have B0 := hid (below_alloc0 w (qplO t s a n c))
  have cw := fun W (h : Below w.heap.size w W) => lworks_any W (HA.out.below h)
  clear hA hT
  go_enter Tryd.func5, Tryd.ntmps5
  go_wp2_with (go_at_call 8; refine (cv _ (HT.out _ B0.out)).mono ?_)
  rintro e w1 ⟨rfl, b⟩
  have B1 := hid (B0.out.trans (b.mono B0.out.size))
  have P1 := hid (row_below P0.out b)
  clear B0 P0 b cv
  have cw1 := cw w1 B1.out
  go_wp2_with (go_at_call 9; refine cw1.mono ?_; rintro e w2 ⟨rfl, b2⟩)
  go_ret
  exact ⟨rfl, B1.out.trans (b2.mono B1.out.size)⟩
set_option maxRecDepth 10000000 in
set_option maxHeartbeats 16000000 in
theorem layoutParts_n (t s : Int) (a : Option Addr) (n c : Nat) (ss : List ByteArray) (la : Option Addr) (len cap : Nat) (zs : List Int) (w : World) (hT : IsTab w (.slice a n c) ss) (hA : LAll w) (hv : lvs ss = false) (hlen : len ≤ 60) (hz : IntsAt w la len zs) (hr : rgt t s ss = false) :
    Calls Tryd.prog 5 #[planV t s a n c, .slice la len cap] w fun e w' => e = .returned (.bool true) ∧ Below w.heap.size w w' := by
  have cv := fun W h => lvast_any t s a n c ss W h
  simp only [hv] at cv
  have HA := hid hA
  have HT : Hid (∀ W, Below w.heap.size w W → IsTab W (.slice a n c) ss) := hid (fun W b => hT.below (Nat.le_refl _) b)
  have P0 : Hid ((w.alloc (qplO t s a n c)).heap[w.heap.size]? = some (qplO t s a n c)) := hid (heap_alloc_last w _)
  have B0 := hid (below_alloc0 w (qplO t s a n c))
  have cw := fun W (h : Below w.heap.size w W) => lworks_any W (HA.out.below h)
  have HZ := hid hz
  have hr' := hid hr
  have hl : (len : Int) ≤ 60 := by omega
  have pn : ∀ z, ptv t s ss z = (0, 0, 0, 2) := fun z => by unfold ptv; rw [if_neg (by simp [hr'.out])]
  have tn : ∀ z, txl t s ss z = (⟨#[]⟩, 2) := fun z => by unfold txl; rw [pn z]; rfl
  have cP := fun z W (h : Below w.heap.size w W) => Part_at t s z 0 0 0 2 a n c ss W (HT.out W h) (hid (pn z))
  have cT := fun z W (h : Below w.heap.size w W) => LText_at t s z ⟨#[]⟩ 2 a n c ss W (HT.out W h) (HA.out.below h).nums (HA.out.below h).names (HA.out.below h).tab (hid (tn z))
  have cA := fun W (h : Below w.heap.size w W) => At_at t s 0 0 0 0 2 a n c ss W (HT.out W h) (HA.out.below h).nums (hid (by unfold atv; rw [if_neg (by simp [hr'.out])]))
  have cr := fun W (h : Below w.heap.size w W) => rgt6_at t s a n c ss W false (HT.out W h) hr'
  clear hA hT hr hz pn tn
  go_enter Tryd.func5, Tryd.ntmps5
  go_wp2_with (go_at_call 8; refine (cv _ (HT.out _ B0.out)).mono ?_)
  rintro e w1 ⟨rfl, b⟩
  have B1 := hid (B0.out.trans (b.mono B0.out.size))
  have P1 := hid (row_below P0.out b)
  clear B0 P0 b cv
  go_wp2
  go_loopw [5] (fun i wr => ∃ k : Nat, k ≤ len ∧ i = .int .i64 (k : Int) ∧ Hid (wr.heap[w.heap.size]? = some (qplO t s a n c)) ∧ Hid (Below w.heap.size w wr)) (fun i _ => len - (intOf i).toNat)
  case atStart => exact ⟨0, by omega, rfl, P1, B1⟩
  case round =>
    obtain ⟨k, hk, rfl, HP, HB⟩ := hrel
    clear P1 B1
    by_cases hlt : k < len
    · obtain ⟨bb, off, rfl, hbb, hcz⟩ := HZ.out k hlt
      have hlt' : (k : Int) < len := by omega
      generalize zs.getD k 0 = z at *
      have hS : Hid (PaS w w.heap.size bb (off + k) t s a n c z wr) := hid ⟨at_row HP.out 0 rfl, at_row HP.out 1 rfl, at_row HP.out 2 rfl, (HB.out.cell (p := ⟨bb, off + k, none⟩) hbb).trans hcz, HB.out⟩
      have zX : w.heap.size < wr.heap.size := (Array.getElem?_eq_some_iff.1 HP.out).1
      have zb : bb < wr.heap.size := by have := HB.out.size; omega
      have zw : w.heap.size ≤ wr.heap.size := HB.out.size
      have HCZ := hid hcz
      clear hcz
      go_wp2_with fail
      go_region_held3 (PaS w w.heap.size bb (off + k) t s a n c z) (with_reducible (first | assumption | exact paS_drew hS.out | exact paS_call (paS_drew hS.out) b3 | exact paS_call (paS_drew (paS_alloc hS.out _)) b3 | exact paS_alloc (paS_call (paS_drew hS.out) b3) _ | (refine paS_alloc ?_ _; assumption) | (refine paS_drew (paS_alloc ?_ _); exact hS.out) | (refine paS_three ?_ zX zb zw; assumption))) (first | (go_at_call 23; refine (cP z _ ?hbel3).mono ?_; (case hbel3 => first | exact (paS_drew hS.out).2.2.2.2 | exact (paS_drew (paS_alloc hS.out _)).2.2.2.2); rintro e w3 ⟨rfl, b3⟩; have q1 := (lbcell b3).1; have q2 := (lbcell b3).2))
      · have hA := paA_a (wr := wr) b3 (qptO 0 0 0)
        clear b3 q1 q2 
        revert hA
        generalize w3.alloc _ = W2
        generalize w3.heap.size = g
        intro hA
        have B2 := hid (HB.out.trans (hA.1.mono HB.out.size))
        have P2 := hid (row_below HP.out hA.1)
        have X2 := hid hA.2.1
        clear hA hS HP HB zX zb zw
        have p0 := cell_regrown (at_row P2.out 0 rfl)
        have p1 := cell_regrown (at_row P2.out 1 rfl)
        have p2 := cell_regrown (at_row P2.out 2 rfl)
        have lz := cell_regrown ((B2.out.cell (p := ⟨bb, off + k, none⟩) hbb).trans HCZ.out)
        have cQ : ∀ d os, Calls Tryd.prog 24 #[planV t s a n c, .int .i64 z] (grow (redrawn W2 d) os) fun e w'' => e = .returned (.tuple #[.string ⟨#[]⟩, .int .i64 2]) ∧ ∃ p : Regrown, w'' = grow (redrawn W2 p.d) p.os := fun d os => Calls.regrown_of (cT z _ (B2.out.trans ((below_regrown W2 d os).mono B2.out.size)))
        go_wp2_with fail
        refine wp_region_quiet_below (by kernel_rfl) (by kernel_rfl) ?_
        repeat (go_big_quiet_step ((first | (go_at_call 24; exact cQ _ _))))
        refine wpQuiet_nil ?_
        intro _ hw'
        obtain ⟨⟨dq, osq⟩, hw''⟩ := hw'
        subst hw''
        have kb := below_regrown W2 dq osq
        have B3 := hid (B2.out.trans (kb.mono B2.out.size))
        have P3 := hid (row_below P2.out kb)
        have X3 := hid (row_below X2.out kb)
        clear P2 X2 B2
        clear cQ p0 p1 p2 lz kb
        generalize grow (redrawn W2 dq) osq = W3 at *
        have p0 := at_row P3.out 0 rfl
        have p1 := at_row P3.out 1 rfl
        have p2 := at_row P3.out 2 rfl
        have x0 := at_row X3.out 0 rfl
        have x1 := at_row X3.out 1 rfl
        have x2 := at_row X3.out 2 rfl
        go_wp2_with (go_at_call 25; refine (cA _ B3.out).mono ?_)
        rintro e W4 ⟨rfl, b⟩
        have B4 := hid (B3.out.trans (b.mono B3.out.size))
        have P4 := hid (row_below P3.out b)
        have X4 := hid (row_below X3.out b)
        clear P3 X3 B3
        clear b
        clear p0 p1 p2 x0 x1 x2
        have p0 := at_row P4.out 0 rfl
        have p1 := at_row P4.out 1 rfl
        have p2 := at_row P4.out 2 rfl
        have x0 := at_row X4.out 0 rfl
        have x1 := at_row X4.out 1 rfl
        have x2 := at_row X4.out 2 rfl
        go_wp2_with (go_at_call 12; refine (cr _ B4.out).mono ?_)
        rintro e W5 ⟨rfl, b⟩
        have B5 := hid (B4.out.trans (b.mono B4.out.size))
        have P5 := hid (row_below P4.out b)
        have X5 := hid (row_below X4.out b)
        clear P4 X4 B4
        clear b
        clear p0 p1 p2 x0 x1 x2
        have p0 := at_row P5.out 0 rfl
        have p1 := at_row P5.out 1 rfl
        have p2 := at_row P5.out 2 rfl
        have x0 := at_row X5.out 0 rfl
        have x1 := at_row X5.out 1 rfl
        have x2 := at_row X5.out 2 rfl
        go_wp2_with (go_at_call 13; refine (lnum_any _ _).mono ?_; rintro e w' ⟨rfl, hw⟩; rw [hw]; clear hw)
        clear p0 p1 p2 x0 x1 x2
        go_roundw
        case rel => exact ⟨k + 1, by omega, by go_num, P5, B5⟩
        case measure => simp [intOf]; omega
      · have hA := paA_b (wr := wr) b3 (.int .i64 0) (.int .i64 0) (.int .i64 0)
        clear b3 q1 q2 
        revert hA
        generalize World.setCell (World.setCell (World.setCell w3 _ _) _ _) _ _ = W2
        generalize wr.heap.size = g
        intro hA
        have B2 := hid (HB.out.trans (hA.1.mono HB.out.size))
        have P2 := hid (row_below HP.out hA.1)
        have X2 := hid hA.2.1
        clear hA hS HP HB zX zb zw
        have p0 := cell_regrown (at_row P2.out 0 rfl)
        have p1 := cell_regrown (at_row P2.out 1 rfl)
        have p2 := cell_regrown (at_row P2.out 2 rfl)
        have lz := cell_regrown ((B2.out.cell (p := ⟨bb, off + k, none⟩) hbb).trans HCZ.out)
        have cQ : ∀ d os, Calls Tryd.prog 24 #[planV t s a n c, .int .i64 z] (grow (redrawn W2 d) os) fun e w'' => e = .returned (.tuple #[.string ⟨#[]⟩, .int .i64 2]) ∧ ∃ p : Regrown, w'' = grow (redrawn W2 p.d) p.os := fun d os => Calls.regrown_of (cT z _ (B2.out.trans ((below_regrown W2 d os).mono B2.out.size)))
        go_wp2_with fail
        refine wp_region_quiet_below (by kernel_rfl) (by kernel_rfl) ?_
        repeat (go_big_quiet_step ((first | (go_at_call 24; exact cQ _ _))))
        refine wpQuiet_nil ?_
        intro _ hw'
        obtain ⟨⟨dq, osq⟩, hw''⟩ := hw'
        subst hw''
        have kb := below_regrown W2 dq osq
        have B3 := hid (B2.out.trans (kb.mono B2.out.size))
        have P3 := hid (row_below P2.out kb)
        have X3 := hid (row_below X2.out kb)
        clear P2 X2 B2
        clear cQ p0 p1 p2 lz kb
        generalize grow (redrawn W2 dq) osq = W3 at *
        have p0 := at_row P3.out 0 rfl
        have p1 := at_row P3.out 1 rfl
        have p2 := at_row P3.out 2 rfl
        have x0 := at_row X3.out 0 rfl
        have x1 := at_row X3.out 1 rfl
        have x2 := at_row X3.out 2 rfl
        go_wp2_with (go_at_call 25; refine (cA _ B3.out).mono ?_)
        rintro e W4 ⟨rfl, b⟩
        have B4 := hid (B3.out.trans (b.mono B3.out.size))
        have P4 := hid (row_below P3.out b)
        have X4 := hid (row_below X3.out b)
        clear P3 X3 B3
        clear b
        clear p0 p1 p2 x0 x1 x2
        have p0 := at_row P4.out 0 rfl
        have p1 := at_row P4.out 1 rfl
        have p2 := at_row P4.out 2 rfl
        have x0 := at_row X4.out 0 rfl
        have x1 := at_row X4.out 1 rfl
        have x2 := at_row X4.out 2 rfl
        go_wp2_with (go_at_call 12; refine (cr _ B4.out).mono ?_)
        rintro e W5 ⟨rfl, b⟩
        have B5 := hid (B4.out.trans (b.mono B4.out.size))
        have P5 := hid (row_below P4.out b)
        have X5 := hid (row_below X4.out b)
        clear P4 X4 B4
        clear b
        clear p0 p1 p2 x0 x1 x2
        have p0 := at_row P5.out 0 rfl
        have p1 := at_row P5.out 1 rfl
        have p2 := at_row P5.out 2 rfl
        have x0 := at_row X5.out 0 rfl
        have x1 := at_row X5.out 1 rfl
        have x2 := at_row X5.out 2 rfl
        go_wp2_with (go_at_call 13; refine (lnum_any _ _).mono ?_; rintro e w' ⟨rfl, hw⟩; rw [hw]; clear hw)
        clear p0 p1 p2 x0 x1 x2
        go_roundw
        case rel => exact ⟨k + 1, by omega, by go_num, P5, B5⟩
        case measure => simp [intOf]; omega
    · obtain rfl : k = len := by omega
      have cw1 := cw wr HB.out
      go_wp2_with (go_at_call 9; refine cw1.mono ?_; rintro e w2 ⟨rfl, b2⟩)
      go_ret
      exact ⟨rfl, HB.out.trans (b2.mono HB.out.size)⟩
set_option maxRecDepth 10000000 in
set_option maxHeartbeats 16000000 in
theorem layoutParts_y (t s : Int) (a : Option Addr) (n c : Nat) (ss : List ByteArray) (la : Option Addr) (len cap : Nat) (zs : List Int) (w : World) (hT : IsTab w (.slice a n c) ss) (hA : LAll w) (hv : lvs ss = false) (hlen : len ≤ 60) (hz : IntsAt w la len zs) (hr : rgt t s ss = true) :
    Calls Tryd.prog 5 #[planV t s a n c, .slice la len cap] w fun e w' => e = .returned (.bool true) ∧ Below w.heap.size w w' := by
  have cv := fun W h => lvast_any t s a n c ss W h
  simp only [hv] at cv
  have HA := hid hA
  have HT : Hid (∀ W, Below w.heap.size w W → IsTab W (.slice a n c) ss) := hid (fun W b => hT.below (Nat.le_refl _) b)
  have P0 : Hid ((w.alloc (qplO t s a n c)).heap[w.heap.size]? = some (qplO t s a n c)) := hid (heap_alloc_last w _)
  have B0 := hid (below_alloc0 w (qplO t s a n c))
  have cw := fun W (h : Below w.heap.size w W) => lworks_any W (HA.out.below h)
  obtain ⟨t0, t1, s0, s1, _⟩ := rgt_yes hr
  have HZ := hid hz
  have hr' := hid hr
  have hl : (len : Int) ≤ 60 := by omega
  have cr := fun W (h : Below w.heap.size w W) => rgt6_at t s a n c ss W true (HT.out W h) hr'
  clear hA hT hr hz
  go_enter Tryd.func5, Tryd.ntmps5
  go_wp2_with (go_at_call 8; refine (cv _ (HT.out _ B0.out)).mono ?_)
  rintro e w1 ⟨rfl, b⟩
  have B1 := hid (B0.out.trans (b.mono B0.out.size))
  have P1 := hid (row_below P0.out b)
  clear B0 P0 b cv
  go_wp2
  go_loopw [5] (fun i wr => ∃ k : Nat, k ≤ len ∧ i = .int .i64 (k : Int) ∧ Hid (wr.heap[w.heap.size]? = some (qplO t s a n c)) ∧ Hid (Below w.heap.size w wr)) (fun i _ => len - (intOf i).toNat)
  case atStart => exact ⟨0, by omega, rfl, P1, B1⟩
  case round =>
    obtain ⟨k, hk, rfl, HP, HB⟩ := hrel
    clear P1 B1
    by_cases hlt : k < len
    · obtain ⟨bb, off, rfl, hbb, hcz⟩ := HZ.out k hlt
      have hlt' : (k : Int) < len := by omega
      generalize zs.getD k 0 = z at *
      have hS : Hid (PaS w w.heap.size bb (off + k) t s a n c z wr) := hid ⟨at_row HP.out 0 rfl, at_row HP.out 1 rfl, at_row HP.out 2 rfl, (HB.out.cell (p := ⟨bb, off + k, none⟩) hbb).trans hcz, HB.out⟩
      have zX : w.heap.size < wr.heap.size := (Array.getElem?_eq_some_iff.1 HP.out).1
      have zb : bb < wr.heap.size := by have := HB.out.size; omega
      have zw : w.heap.size ≤ wr.heap.size := HB.out.size
      have HCZ := hid hcz
      clear hcz
      by_cases hin : 0 ≤ z ∧ z < 3 + t + t + 2 * s
      · have hin' := hid hin
        obtain ⟨kk, x, y, hpt⟩ : ∃ kk x y, pt t s z = (kk, x, y) := ⟨_, _, _, rfl⟩
        have hkk : (kk == 0) = false := by
          have hi := pt_is s0 hin.1 hin.2
          rw [hpt] at hi
          simp only [Prod.mk.injEq] at hi
          rw [beq_eq_false_iff_ne]
          omega
        clear hin
        have pn : ptv t s ss z = (kk, x, y, 0) := by unfold ptv; rw [if_pos hr'.out, if_pos hin'.out, hpt]
        have cP := fun W (h : Below w.heap.size w W) => Part_at t s z kk x y 0 a n c ss W (HT.out W h) (hid pn)
        have cT := fun W (h : Below w.heap.size w W) => LText_at t s z (ptx kk x y) 0 a n c ss W (HT.out W h) (HA.out.below h).nums (HA.out.below h).names (HA.out.below h).tab (hid (by unfold txl; rw [pn]; rfl))
        have cA := fun W (h : Below w.heap.size w W) => At_at t s kk x y z 0 a n c ss W (HT.out W h) (HA.out.below h).nums (hid (by unfold atv; rw [if_pos hr'.out]; exact av_pt s0 hin'.out.1 hin'.out.2 hpt))
        have cR := fun W (_ : Below w.heap.size w W) => rPart6_at t s z kk x y a n c W t0 t1 s0 s1 (hid (by rw [if_pos hin'.out]; exact hpt))
        have cX := fun W (_ : Below w.heap.size w W) => rText6_at t s z kk x y a n c W t0 t1 s0 s1 hin'.out.1 hin'.out.2 (hid hpt)
        clear pn hpt
        generalize ptx kk x y = Tx at *
        go_wp2_with fail
        go_region_held3 (PaS w w.heap.size bb (off + k) t s a n c z) (with_reducible (first | assumption | exact paS_drew hS.out | exact paS_call (paS_drew hS.out) b3 | exact paS_call (paS_drew (paS_alloc hS.out _)) b3 | exact paS_alloc (paS_call (paS_drew hS.out) b3) _ | (refine paS_alloc ?_ _; assumption) | (refine paS_drew (paS_alloc ?_ _); exact hS.out) | (refine paS_three ?_ zX zb zw; assumption))) (first | (go_at_call 23; refine (cP _ ?hbel3).mono ?_; (case hbel3 => first | exact (paS_drew hS.out).2.2.2.2 | exact (paS_drew (paS_alloc hS.out _)).2.2.2.2); rintro e w3 ⟨rfl, b3⟩; have q1 := (lbcell b3).1; have q2 := (lbcell b3).2))
        · have hA := paA_a (wr := wr) b3 (qptO kk x y)
          clear b3 q1 q2 
          revert hA
          generalize w3.alloc _ = W2
          generalize w3.heap.size = g
          intro hA
          have B2 := hid (HB.out.trans (hA.1.mono HB.out.size))
          have P2 := hid (row_below HP.out hA.1)
          have X2 := hid hA.2.1
          clear hA hS HP HB zX zb zw
          have p0 := cell_regrown (at_row P2.out 0 rfl)
          have p1 := cell_regrown (at_row P2.out 1 rfl)
          have p2 := cell_regrown (at_row P2.out 2 rfl)
          have lz := cell_regrown ((B2.out.cell (p := ⟨bb, off + k, none⟩) hbb).trans HCZ.out)
          have cQ : ∀ d os, Calls Tryd.prog 24 #[planV t s a n c, .int .i64 z] (grow (redrawn W2 d) os) fun e w'' => e = .returned (.tuple #[.string Tx, .int .i64 0]) ∧ ∃ p : Regrown, w'' = grow (redrawn W2 p.d) p.os := fun d os => Calls.regrown_of (cT _ (B2.out.trans ((below_regrown W2 d os).mono B2.out.size)))
          go_wp2_with fail
          refine wp_region_quiet_below (by kernel_rfl) (by kernel_rfl) ?_
          repeat (go_big_quiet_step ((first | (go_at_call 24; exact cQ _ _))))
          refine wpQuiet_nil ?_
          intro _ hw'
          obtain ⟨⟨dq, osq⟩, hw''⟩ := hw'
          subst hw''
          have kb := below_regrown W2 dq osq
          have B3 := hid (B2.out.trans (kb.mono B2.out.size))
          have P3 := hid (row_below P2.out kb)
          have X3 := hid (row_below X2.out kb)
          clear P2 X2 B2
          clear cQ p0 p1 p2 lz kb
          generalize grow (redrawn W2 dq) osq = W3 at *
          have p0 := at_row P3.out 0 rfl
          have p1 := at_row P3.out 1 rfl
          have p2 := at_row P3.out 2 rfl
          have x0 := at_row X3.out 0 rfl
          have x1 := at_row X3.out 1 rfl
          have x2 := at_row X3.out 2 rfl
          go_wp2_with (go_at_call 25; refine (cA _ B3.out).mono ?_)
          rintro e W4 ⟨rfl, b⟩
          have B4 := hid (B3.out.trans (b.mono B3.out.size))
          have P4 := hid (row_below P3.out b)
          have X4 := hid (row_below X3.out b)
          clear P3 X3 B3
          clear b
          clear p0 p1 p2 x0 x1 x2
          have p0 := at_row P4.out 0 rfl
          have p1 := at_row P4.out 1 rfl
          have p2 := at_row P4.out 2 rfl
          have x0 := at_row X4.out 0 rfl
          have x1 := at_row X4.out 1 rfl
          have x2 := at_row X4.out 2 rfl
          go_wp2_with (go_at_call 12; refine (cr _ B4.out).mono ?_)
          rintro e W5 ⟨rfl, b⟩
          have B5 := hid (B4.out.trans (b.mono B4.out.size))
          have P5 := hid (row_below P4.out b)
          have X5 := hid (row_below X4.out b)
          clear P4 X4 B4
          clear b
          clear p0 p1 p2 x0 x1 x2
          have hS2 : Hid (PaS w w.heap.size bb (off + k) t s a n c z W5) := hid ⟨at_row P5.out 0 rfl, at_row P5.out 1 rfl, at_row P5.out 2 rfl, (B5.out.cell (p := ⟨bb, off + k, none⟩) hbb).trans HCZ.out, B5.out⟩
          have zX : w.heap.size < W5.heap.size := (Array.getElem?_eq_some_iff.1 P5.out).1
          have zb : bb < W5.heap.size := by have := B5.out.size; omega
          have zw : w.heap.size ≤ W5.heap.size := B5.out.size
          go_wp2_with fail
          go_region_held3 (PaS w w.heap.size bb (off + k) t s a n c z) (with_reducible (first | assumption | exact paS_drew hS2.out | exact paS_call (paS_drew hS2.out) b4 | exact paS_call (paS_drew (paS_alloc hS2.out _)) b4 | exact paS_alloc (paS_call (paS_drew hS2.out) b4) _ | (refine paS_alloc ?_ _; assumption) | (refine paS_drew (paS_alloc ?_ _); exact hS2.out) | (refine paS_three ?_ zX zb zw; assumption))) (first | (go_at_call 26; refine (cR _ ?hbel4).mono ?_; (case hbel4 => first | exact (paS_drew hS2.out).2.2.2.2 | exact (paS_drew (paS_alloc hS2.out _)).2.2.2.2); rintro e w4 ⟨rfl, b4⟩; have q1 := (lbcell b4).1; have q2 := (lbcell b4).2))
          · have hA := paA_a (wr := W5) b4 (qptO kk x y)
            clear b4 q1 q2 zX zb zw hS2
            revert hA
            generalize w4.alloc _ = W6
            generalize w4.heap.size = g2
            intro hA
            have B6 := hid (B5.out.trans (hA.1.mono B5.out.size))
            have P6 := hid (row_below P5.out hA.1)
            have X6 := hid (row_below X5.out hA.1)
            have Y6 := hid hA.2.1
            clear hA B5 P5 X5
            have y0 := at_row Y6.out 0 rfl
            have y1 := at_row Y6.out 1 rfl
            have y2 := at_row Y6.out 2 rfl
            go_wp2_with fail
            clear y0 y1 y2
            have p0 := cell_regrown (at_row P6.out 0 rfl)
            have p1 := cell_regrown (at_row P6.out 1 rfl)
            have p2 := cell_regrown (at_row P6.out 2 rfl)
            have x0 := cell_regrown (at_row X6.out 0 rfl)
            have x1 := cell_regrown (at_row X6.out 1 rfl)
            have x2 := cell_regrown (at_row X6.out 2 rfl)
            have y0 := cell_regrown (at_row Y6.out 0 rfl)
            have y1 := cell_regrown (at_row Y6.out 1 rfl)
            have y2 := cell_regrown (at_row Y6.out 2 rfl)
            have lz := cell_regrown ((B6.out.cell (p := ⟨bb, off + k, none⟩) hbb).trans HCZ.out)
            have cQ : ∀ d os, Calls Tryd.prog 27 #[planV t s a n c, .int .i64 z] (grow (redrawn W6 d) os) fun e w'' => e = .returned (.string Tx) ∧ ∃ p : Regrown, w'' = grow (redrawn W6 p.d) p.os := fun d os => Calls.regrown_of (cX _ (B6.out.trans ((below_regrown W6 d os).mono B6.out.size)))
            have cN : ∀ d os, Calls Tryd.prog 13 #[.int .i64 0] (grow (redrawn W6 d) os) fun e w'' => e = .returned (.int .i64 0) ∧ ∃ p : Regrown, w'' = grow (redrawn W6 p.d) p.os := fun d os => Calls.regrown_of ((lnum_any 0 _).mono fun _ _ h => ⟨h.1, h.2 ▸ Below.refl _ _⟩)
            refine wp_region_quiet_below (by kernel_rfl) (by kernel_rfl) ?_
            repeat (go_big_quiet_step ((first | (go_at_call 27; exact cQ _ _) | (go_at_call 13; exact cN _ _))))
            refine wpQuiet_nil ?_
            intro _ hw'
            obtain ⟨⟨dq, osq⟩, hw''⟩ := hw'
            subst hw''
            have kb := below_regrown W6 dq osq
            have B7 := hid (B6.out.trans (kb.mono B6.out.size))
            have P7 := hid (row_below P6.out kb)
            have X7 := hid (row_below X6.out kb)
            have Y7 := hid (row_below Y6.out kb)
            clear P6 X6 Y6 B6
            clear cQ cN lz kb
            clear p0 p1 p2 x0 x1 x2 y0 y1 y2
            generalize grow (redrawn W6 dq) osq = W7 at *
            go_wp2
            go_roundw
            case rel => exact ⟨k + 1, by omega, by go_num, P7, B7⟩
            case measure => simp [intOf]; omega
          · have hA := paA_b (wr := W5) b4 (.int .i64 kk) (.int .i64 x) (.int .i64 y)
            clear b4 q1 q2 zX zb zw hS2
            revert hA
            generalize World.setCell (World.setCell (World.setCell w4 _ _) _ _) _ _ = W6
            generalize W5.heap.size = g2
            intro hA
            have B6 := hid (B5.out.trans (hA.1.mono B5.out.size))
            have P6 := hid (row_below P5.out hA.1)
            have X6 := hid (row_below X5.out hA.1)
            have Y6 := hid hA.2.1
            clear hA B5 P5 X5
            have y0 := at_row Y6.out 0 rfl
            have y1 := at_row Y6.out 1 rfl
            have y2 := at_row Y6.out 2 rfl
            go_wp2_with fail
            clear y0 y1 y2
            have p0 := cell_regrown (at_row P6.out 0 rfl)
            have p1 := cell_regrown (at_row P6.out 1 rfl)
            have p2 := cell_regrown (at_row P6.out 2 rfl)
            have x0 := cell_regrown (at_row X6.out 0 rfl)
            have x1 := cell_regrown (at_row X6.out 1 rfl)
            have x2 := cell_regrown (at_row X6.out 2 rfl)
            have y0 := cell_regrown (at_row Y6.out 0 rfl)
            have y1 := cell_regrown (at_row Y6.out 1 rfl)
            have y2 := cell_regrown (at_row Y6.out 2 rfl)
            have lz := cell_regrown ((B6.out.cell (p := ⟨bb, off + k, none⟩) hbb).trans HCZ.out)
            have cQ : ∀ d os, Calls Tryd.prog 27 #[planV t s a n c, .int .i64 z] (grow (redrawn W6 d) os) fun e w'' => e = .returned (.string Tx) ∧ ∃ p : Regrown, w'' = grow (redrawn W6 p.d) p.os := fun d os => Calls.regrown_of (cX _ (B6.out.trans ((below_regrown W6 d os).mono B6.out.size)))
            have cN : ∀ d os, Calls Tryd.prog 13 #[.int .i64 0] (grow (redrawn W6 d) os) fun e w'' => e = .returned (.int .i64 0) ∧ ∃ p : Regrown, w'' = grow (redrawn W6 p.d) p.os := fun d os => Calls.regrown_of ((lnum_any 0 _).mono fun _ _ h => ⟨h.1, h.2 ▸ Below.refl _ _⟩)
            refine wp_region_quiet_below (by kernel_rfl) (by kernel_rfl) ?_
            repeat (go_big_quiet_step ((first | (go_at_call 27; exact cQ _ _) | (go_at_call 13; exact cN _ _))))
            refine wpQuiet_nil ?_
            intro _ hw'
            obtain ⟨⟨dq, osq⟩, hw''⟩ := hw'
            subst hw''
            have kb := below_regrown W6 dq osq
            have B7 := hid (B6.out.trans (kb.mono B6.out.size))
            have P7 := hid (row_below P6.out kb)
            have X7 := hid (row_below X6.out kb)
            have Y7 := hid (row_below Y6.out kb)
            clear P6 X6 Y6 B6
            clear cQ cN lz kb
            clear p0 p1 p2 x0 x1 x2 y0 y1 y2
            generalize grow (redrawn W6 dq) osq = W7 at *
            go_wp2
            go_roundw
            case rel => exact ⟨k + 1, by omega, by go_num, P7, B7⟩
            case measure => simp [intOf]; omega
        · have hA := paA_b (wr := wr) b3 (.int .i64 kk) (.int .i64 x) (.int .i64 y)
          clear b3 q1 q2 
          revert hA
          generalize World.setCell (World.setCell (World.setCell w3 _ _) _ _) _ _ = W2
          generalize wr.heap.size = g
          intro hA
          have B2 := hid (HB.out.trans (hA.1.mono HB.out.size))
          have P2 := hid (row_below HP.out hA.1)
          have X2 := hid hA.2.1
          clear hA hS HP HB zX zb zw
          have p0 := cell_regrown (at_row P2.out 0 rfl)
          have p1 := cell_regrown (at_row P2.out 1 rfl)
          have p2 := cell_regrown (at_row P2.out 2 rfl)
          have lz := cell_regrown ((B2.out.cell (p := ⟨bb, off + k, none⟩) hbb).trans HCZ.out)
          have cQ : ∀ d os, Calls Tryd.prog 24 #[planV t s a n c, .int .i64 z] (grow (redrawn W2 d) os) fun e w'' => e = .returned (.tuple #[.string Tx, .int .i64 0]) ∧ ∃ p : Regrown, w'' = grow (redrawn W2 p.d) p.os := fun d os => Calls.regrown_of (cT _ (B2.out.trans ((below_regrown W2 d os).mono B2.out.size)))
          go_wp2_with fail
          refine wp_region_quiet_below (by kernel_rfl) (by kernel_rfl) ?_
          repeat (go_big_quiet_step ((first | (go_at_call 24; exact cQ _ _))))
          refine wpQuiet_nil ?_
          intro _ hw'
          obtain ⟨⟨dq, osq⟩, hw''⟩ := hw'
          subst hw''
          have kb := below_regrown W2 dq osq
          have B3 := hid (B2.out.trans (kb.mono B2.out.size))
          have P3 := hid (row_below P2.out kb)
          have X3 := hid (row_below X2.out kb)
          clear P2 X2 B2
          clear cQ p0 p1 p2 lz kb
          generalize grow (redrawn W2 dq) osq = W3 at *
          have p0 := at_row P3.out 0 rfl
          have p1 := at_row P3.out 1 rfl
          have p2 := at_row P3.out 2 rfl
          have x0 := at_row X3.out 0 rfl
          have x1 := at_row X3.out 1 rfl
          have x2 := at_row X3.out 2 rfl
          go_wp2_with (go_at_call 25; refine (cA _ B3.out).mono ?_)
          rintro e W4 ⟨rfl, b⟩
          have B4 := hid (B3.out.trans (b.mono B3.out.size))
          have P4 := hid (row_below P3.out b)
          have X4 := hid (row_below X3.out b)
          clear P3 X3 B3
          clear b
          clear p0 p1 p2 x0 x1 x2
          have p0 := at_row P4.out 0 rfl
          have p1 := at_row P4.out 1 rfl
          have p2 := at_row P4.out 2 rfl
          have x0 := at_row X4.out 0 rfl
          have x1 := at_row X4.out 1 rfl
          have x2 := at_row X4.out 2 rfl
          go_wp2_with (go_at_call 12; refine (cr _ B4.out).mono ?_)
          rintro e W5 ⟨rfl, b⟩
          have B5 := hid (B4.out.trans (b.mono B4.out.size))
          have P5 := hid (row_below P4.out b)
          have X5 := hid (row_below X4.out b)
          clear P4 X4 B4
          clear b
          clear p0 p1 p2 x0 x1 x2
          have hS2 : Hid (PaS w w.heap.size bb (off + k) t s a n c z W5) := hid ⟨at_row P5.out 0 rfl, at_row P5.out 1 rfl, at_row P5.out 2 rfl, (B5.out.cell (p := ⟨bb, off + k, none⟩) hbb).trans HCZ.out, B5.out⟩
          have zX : w.heap.size < W5.heap.size := (Array.getElem?_eq_some_iff.1 P5.out).1
          have zb : bb < W5.heap.size := by have := B5.out.size; omega
          have zw : w.heap.size ≤ W5.heap.size := B5.out.size
          go_wp2_with fail
          go_region_held3 (PaS w w.heap.size bb (off + k) t s a n c z) (with_reducible (first | assumption | exact paS_drew hS2.out | exact paS_call (paS_drew hS2.out) b4 | exact paS_call (paS_drew (paS_alloc hS2.out _)) b4 | exact paS_alloc (paS_call (paS_drew hS2.out) b4) _ | (refine paS_alloc ?_ _; assumption) | (refine paS_drew (paS_alloc ?_ _); exact hS2.out) | (refine paS_three ?_ zX zb zw; assumption))) (first | (go_at_call 26; refine (cR _ ?hbel4).mono ?_; (case hbel4 => first | exact (paS_drew hS2.out).2.2.2.2 | exact (paS_drew (paS_alloc hS2.out _)).2.2.2.2); rintro e w4 ⟨rfl, b4⟩; have q1 := (lbcell b4).1; have q2 := (lbcell b4).2))
          · have hA := paA_a (wr := W5) b4 (qptO kk x y)
            clear b4 q1 q2 zX zb zw hS2
            revert hA
            generalize w4.alloc _ = W6
            generalize w4.heap.size = g2
            intro hA
            have B6 := hid (B5.out.trans (hA.1.mono B5.out.size))
            have P6 := hid (row_below P5.out hA.1)
            have X6 := hid (row_below X5.out hA.1)
            have Y6 := hid hA.2.1
            clear hA B5 P5 X5
            have y0 := at_row Y6.out 0 rfl
            have y1 := at_row Y6.out 1 rfl
            have y2 := at_row Y6.out 2 rfl
            go_wp2_with fail
            clear y0 y1 y2
            have p0 := cell_regrown (at_row P6.out 0 rfl)
            have p1 := cell_regrown (at_row P6.out 1 rfl)
            have p2 := cell_regrown (at_row P6.out 2 rfl)
            have x0 := cell_regrown (at_row X6.out 0 rfl)
            have x1 := cell_regrown (at_row X6.out 1 rfl)
            have x2 := cell_regrown (at_row X6.out 2 rfl)
            have y0 := cell_regrown (at_row Y6.out 0 rfl)
            have y1 := cell_regrown (at_row Y6.out 1 rfl)
            have y2 := cell_regrown (at_row Y6.out 2 rfl)
            have lz := cell_regrown ((B6.out.cell (p := ⟨bb, off + k, none⟩) hbb).trans HCZ.out)
            have cQ : ∀ d os, Calls Tryd.prog 27 #[planV t s a n c, .int .i64 z] (grow (redrawn W6 d) os) fun e w'' => e = .returned (.string Tx) ∧ ∃ p : Regrown, w'' = grow (redrawn W6 p.d) p.os := fun d os => Calls.regrown_of (cX _ (B6.out.trans ((below_regrown W6 d os).mono B6.out.size)))
            have cN : ∀ d os, Calls Tryd.prog 13 #[.int .i64 0] (grow (redrawn W6 d) os) fun e w'' => e = .returned (.int .i64 0) ∧ ∃ p : Regrown, w'' = grow (redrawn W6 p.d) p.os := fun d os => Calls.regrown_of ((lnum_any 0 _).mono fun _ _ h => ⟨h.1, h.2 ▸ Below.refl _ _⟩)
            refine wp_region_quiet_below (by kernel_rfl) (by kernel_rfl) ?_
            repeat (go_big_quiet_step ((first | (go_at_call 27; exact cQ _ _) | (go_at_call 13; exact cN _ _))))
            refine wpQuiet_nil ?_
            intro _ hw'
            obtain ⟨⟨dq, osq⟩, hw''⟩ := hw'
            subst hw''
            have kb := below_regrown W6 dq osq
            have B7 := hid (B6.out.trans (kb.mono B6.out.size))
            have P7 := hid (row_below P6.out kb)
            have X7 := hid (row_below X6.out kb)
            have Y7 := hid (row_below Y6.out kb)
            clear P6 X6 Y6 B6
            clear cQ cN lz kb
            clear p0 p1 p2 x0 x1 x2 y0 y1 y2
            generalize grow (redrawn W6 dq) osq = W7 at *
            go_wp2
            go_roundw
            case rel => exact ⟨k + 1, by omega, by go_num, P7, B7⟩
            case measure => simp [intOf]; omega
          · have hA := paA_b (wr := W5) b4 (.int .i64 kk) (.int .i64 x) (.int .i64 y)
            clear b4 q1 q2 zX zb zw hS2
            revert hA
            generalize World.setCell (World.setCell (World.setCell w4 _ _) _ _) _ _ = W6
            generalize W5.heap.size = g2
            intro hA
            have B6 := hid (B5.out.trans (hA.1.mono B5.out.size))
            have P6 := hid (row_below P5.out hA.1)
            have X6 := hid (row_below X5.out hA.1)
            have Y6 := hid hA.2.1
            clear hA B5 P5 X5
            have y0 := at_row Y6.out 0 rfl
            have y1 := at_row Y6.out 1 rfl
            have y2 := at_row Y6.out 2 rfl
            go_wp2_with fail
            clear y0 y1 y2
            have p0 := cell_regrown (at_row P6.out 0 rfl)
            have p1 := cell_regrown (at_row P6.out 1 rfl)
            have p2 := cell_regrown (at_row P6.out 2 rfl)
            have x0 := cell_regrown (at_row X6.out 0 rfl)
            have x1 := cell_regrown (at_row X6.out 1 rfl)
            have x2 := cell_regrown (at_row X6.out 2 rfl)
            have y0 := cell_regrown (at_row Y6.out 0 rfl)
            have y1 := cell_regrown (at_row Y6.out 1 rfl)
            have y2 := cell_regrown (at_row Y6.out 2 rfl)
            have lz := cell_regrown ((B6.out.cell (p := ⟨bb, off + k, none⟩) hbb).trans HCZ.out)
            have cQ : ∀ d os, Calls Tryd.prog 27 #[planV t s a n c, .int .i64 z] (grow (redrawn W6 d) os) fun e w'' => e = .returned (.string Tx) ∧ ∃ p : Regrown, w'' = grow (redrawn W6 p.d) p.os := fun d os => Calls.regrown_of (cX _ (B6.out.trans ((below_regrown W6 d os).mono B6.out.size)))
            have cN : ∀ d os, Calls Tryd.prog 13 #[.int .i64 0] (grow (redrawn W6 d) os) fun e w'' => e = .returned (.int .i64 0) ∧ ∃ p : Regrown, w'' = grow (redrawn W6 p.d) p.os := fun d os => Calls.regrown_of ((lnum_any 0 _).mono fun _ _ h => ⟨h.1, h.2 ▸ Below.refl _ _⟩)
            refine wp_region_quiet_below (by kernel_rfl) (by kernel_rfl) ?_
            repeat (go_big_quiet_step ((first | (go_at_call 27; exact cQ _ _) | (go_at_call 13; exact cN _ _))))
            refine wpQuiet_nil ?_
            intro _ hw'
            obtain ⟨⟨dq, osq⟩, hw''⟩ := hw'
            subst hw''
            have kb := below_regrown W6 dq osq
            have B7 := hid (B6.out.trans (kb.mono B6.out.size))
            have P7 := hid (row_below P6.out kb)
            have X7 := hid (row_below X6.out kb)
            have Y7 := hid (row_below Y6.out kb)
            clear P6 X6 Y6 B6
            clear cQ cN lz kb
            clear p0 p1 p2 x0 x1 x2 y0 y1 y2
            generalize grow (redrawn W6 dq) osq = W7 at *
            go_wp2
            go_roundw
            case rel => exact ⟨k + 1, by omega, by go_num, P7, B7⟩
            case measure => simp [intOf]; omega
      · have hin' := hid hin
        clear hin
        have pn : ptv t s ss z = (0, 0, 0, 4) := by unfold ptv; rw [if_pos hr'.out, if_neg hin'.out]
        have cP := fun W (h : Below w.heap.size w W) => Part_at t s z 0 0 0 4 a n c ss W (HT.out W h) (hid pn)
        have cT := fun W (h : Below w.heap.size w W) => LText_at t s z ⟨#[]⟩ 4 a n c ss W (HT.out W h) (HA.out.below h).nums (HA.out.below h).names (HA.out.below h).tab (hid (by unfold txl; rw [pn]; rfl))
        have cA := fun W (h : Below w.heap.size w W) => At_at t s 0 0 0 0 2 a n c ss W (HT.out W h) (HA.out.below h).nums (hid (by unfold atv; rw [if_pos hr'.out]; unfold av; rw [if_neg (by decide)]))
        have cR := fun W (_ : Below w.heap.size w W) => rPart6_at t s z 0 0 0 a n c W t0 t1 s0 s1 (hid (by rw [if_neg hin'.out]))
        clear pn
        go_wp2_with fail
        go_region_held3 (PaS w w.heap.size bb (off + k) t s a n c z) (with_reducible (first | assumption | exact paS_drew hS.out | exact paS_call (paS_drew hS.out) b3 | exact paS_call (paS_drew (paS_alloc hS.out _)) b3 | exact paS_alloc (paS_call (paS_drew hS.out) b3) _ | (refine paS_alloc ?_ _; assumption) | (refine paS_drew (paS_alloc ?_ _); exact hS.out) | (refine paS_three ?_ zX zb zw; assumption))) (first | (go_at_call 23; refine (cP _ ?hbel3).mono ?_; (case hbel3 => first | exact (paS_drew hS.out).2.2.2.2 | exact (paS_drew (paS_alloc hS.out _)).2.2.2.2); rintro e w3 ⟨rfl, b3⟩; have q1 := (lbcell b3).1; have q2 := (lbcell b3).2))
        · have hA := paA_a (wr := wr) b3 (qptO 0 0 0)
          clear b3 q1 q2 
          revert hA
          generalize w3.alloc _ = W2
          generalize w3.heap.size = g
          intro hA
          have B2 := hid (HB.out.trans (hA.1.mono HB.out.size))
          have P2 := hid (row_below HP.out hA.1)
          have X2 := hid hA.2.1
          clear hA hS HP HB zX zb zw
          have p0 := cell_regrown (at_row P2.out 0 rfl)
          have p1 := cell_regrown (at_row P2.out 1 rfl)
          have p2 := cell_regrown (at_row P2.out 2 rfl)
          have lz := cell_regrown ((B2.out.cell (p := ⟨bb, off + k, none⟩) hbb).trans HCZ.out)
          have cQ : ∀ d os, Calls Tryd.prog 24 #[planV t s a n c, .int .i64 z] (grow (redrawn W2 d) os) fun e w'' => e = .returned (.tuple #[.string ⟨#[]⟩, .int .i64 4]) ∧ ∃ p : Regrown, w'' = grow (redrawn W2 p.d) p.os := fun d os => Calls.regrown_of (cT _ (B2.out.trans ((below_regrown W2 d os).mono B2.out.size)))
          go_wp2_with fail
          refine wp_region_quiet_below (by kernel_rfl) (by kernel_rfl) ?_
          repeat (go_big_quiet_step ((first | (go_at_call 24; exact cQ _ _))))
          refine wpQuiet_nil ?_
          intro _ hw'
          obtain ⟨⟨dq, osq⟩, hw''⟩ := hw'
          subst hw''
          have kb := below_regrown W2 dq osq
          have B3 := hid (B2.out.trans (kb.mono B2.out.size))
          have P3 := hid (row_below P2.out kb)
          have X3 := hid (row_below X2.out kb)
          clear P2 X2 B2
          clear cQ p0 p1 p2 lz kb
          generalize grow (redrawn W2 dq) osq = W3 at *
          have p0 := at_row P3.out 0 rfl
          have p1 := at_row P3.out 1 rfl
          have p2 := at_row P3.out 2 rfl
          have x0 := at_row X3.out 0 rfl
          have x1 := at_row X3.out 1 rfl
          have x2 := at_row X3.out 2 rfl
          go_wp2_with (go_at_call 25; refine (cA _ B3.out).mono ?_)
          rintro e W4 ⟨rfl, b⟩
          have B4 := hid (B3.out.trans (b.mono B3.out.size))
          have P4 := hid (row_below P3.out b)
          have X4 := hid (row_below X3.out b)
          clear P3 X3 B3
          clear b
          clear p0 p1 p2 x0 x1 x2
          have p0 := at_row P4.out 0 rfl
          have p1 := at_row P4.out 1 rfl
          have p2 := at_row P4.out 2 rfl
          have x0 := at_row X4.out 0 rfl
          have x1 := at_row X4.out 1 rfl
          have x2 := at_row X4.out 2 rfl
          go_wp2_with (go_at_call 12; refine (cr _ B4.out).mono ?_)
          rintro e W5 ⟨rfl, b⟩
          have B5 := hid (B4.out.trans (b.mono B4.out.size))
          have P5 := hid (row_below P4.out b)
          have X5 := hid (row_below X4.out b)
          clear P4 X4 B4
          clear b
          clear p0 p1 p2 x0 x1 x2
          have hS2 : Hid (PaS w w.heap.size bb (off + k) t s a n c z W5) := hid ⟨at_row P5.out 0 rfl, at_row P5.out 1 rfl, at_row P5.out 2 rfl, (B5.out.cell (p := ⟨bb, off + k, none⟩) hbb).trans HCZ.out, B5.out⟩
          have zX : w.heap.size < W5.heap.size := (Array.getElem?_eq_some_iff.1 P5.out).1
          have zb : bb < W5.heap.size := by have := B5.out.size; omega
          have zw : w.heap.size ≤ W5.heap.size := B5.out.size
          go_wp2_with fail
          go_region_held3 (PaS w w.heap.size bb (off + k) t s a n c z) (with_reducible (first | assumption | exact paS_drew hS2.out | exact paS_call (paS_drew hS2.out) b4 | exact paS_call (paS_drew (paS_alloc hS2.out _)) b4 | exact paS_alloc (paS_call (paS_drew hS2.out) b4) _ | (refine paS_alloc ?_ _; assumption) | (refine paS_drew (paS_alloc ?_ _); exact hS2.out) | (refine paS_three ?_ zX zb zw; assumption))) (first | (go_at_call 26; refine (cR _ ?hbel4).mono ?_; (case hbel4 => first | exact (paS_drew hS2.out).2.2.2.2 | exact (paS_drew (paS_alloc hS2.out _)).2.2.2.2); rintro e w4 ⟨rfl, b4⟩; have q1 := (lbcell b4).1; have q2 := (lbcell b4).2))
          · have hA := paA_a (wr := W5) b4 (qptO 0 0 0)
            clear b4 q1 q2 zX zb zw hS2
            revert hA
            generalize w4.alloc _ = W6
            generalize w4.heap.size = g2
            intro hA
            have B6 := hid (B5.out.trans (hA.1.mono B5.out.size))
            have P6 := hid (row_below P5.out hA.1)
            have X6 := hid (row_below X5.out hA.1)
            have Y6 := hid hA.2.1
            clear hA B5 P5 X5
            have p0 := at_row P6.out 0 rfl
            have p1 := at_row P6.out 1 rfl
            have p2 := at_row P6.out 2 rfl
            have x0 := at_row X6.out 0 rfl
            have x1 := at_row X6.out 1 rfl
            have x2 := at_row X6.out 2 rfl
            have y0 := at_row Y6.out 0 rfl
            have y1 := at_row Y6.out 1 rfl
            have y2 := at_row Y6.out 2 rfl
            go_wp2_with (go_at_call 13; refine (lnum_any _ _).mono ?_; rintro e w' ⟨rfl, hw⟩; rw [hw]; clear hw)
            clear p0 p1 p2 x0 x1 x2 y0 y1 y2
            go_roundw
            case rel => exact ⟨k + 1, by omega, by go_num, P6, B6⟩
            case measure => simp [intOf]; omega
          · have hA := paA_b (wr := W5) b4 (.int .i64 0) (.int .i64 0) (.int .i64 0)
            clear b4 q1 q2 zX zb zw hS2
            revert hA
            generalize World.setCell (World.setCell (World.setCell w4 _ _) _ _) _ _ = W6
            generalize W5.heap.size = g2
            intro hA
            have B6 := hid (B5.out.trans (hA.1.mono B5.out.size))
            have P6 := hid (row_below P5.out hA.1)
            have X6 := hid (row_below X5.out hA.1)
            have Y6 := hid hA.2.1
            clear hA B5 P5 X5
            have p0 := at_row P6.out 0 rfl
            have p1 := at_row P6.out 1 rfl
            have p2 := at_row P6.out 2 rfl
            have x0 := at_row X6.out 0 rfl
            have x1 := at_row X6.out 1 rfl
            have x2 := at_row X6.out 2 rfl
            have y0 := at_row Y6.out 0 rfl
            have y1 := at_row Y6.out 1 rfl
            have y2 := at_row Y6.out 2 rfl
            go_wp2_with (go_at_call 13; refine (lnum_any _ _).mono ?_; rintro e w' ⟨rfl, hw⟩; rw [hw]; clear hw)
            clear p0 p1 p2 x0 x1 x2 y0 y1 y2
            go_roundw
            case rel => exact ⟨k + 1, by omega, by go_num, P6, B6⟩
            case measure => simp [intOf]; omega
        · have hA := paA_b (wr := wr) b3 (.int .i64 0) (.int .i64 0) (.int .i64 0)
          clear b3 q1 q2 
          revert hA
          generalize World.setCell (World.setCell (World.setCell w3 _ _) _ _) _ _ = W2
          generalize wr.heap.size = g
          intro hA
          have B2 := hid (HB.out.trans (hA.1.mono HB.out.size))
          have P2 := hid (row_below HP.out hA.1)
          have X2 := hid hA.2.1
          clear hA hS HP HB zX zb zw
          have p0 := cell_regrown (at_row P2.out 0 rfl)
          have p1 := cell_regrown (at_row P2.out 1 rfl)
          have p2 := cell_regrown (at_row P2.out 2 rfl)
          have lz := cell_regrown ((B2.out.cell (p := ⟨bb, off + k, none⟩) hbb).trans HCZ.out)
          have cQ : ∀ d os, Calls Tryd.prog 24 #[planV t s a n c, .int .i64 z] (grow (redrawn W2 d) os) fun e w'' => e = .returned (.tuple #[.string ⟨#[]⟩, .int .i64 4]) ∧ ∃ p : Regrown, w'' = grow (redrawn W2 p.d) p.os := fun d os => Calls.regrown_of (cT _ (B2.out.trans ((below_regrown W2 d os).mono B2.out.size)))
          go_wp2_with fail
          refine wp_region_quiet_below (by kernel_rfl) (by kernel_rfl) ?_
          repeat (go_big_quiet_step ((first | (go_at_call 24; exact cQ _ _))))
          refine wpQuiet_nil ?_
          intro _ hw'
          obtain ⟨⟨dq, osq⟩, hw''⟩ := hw'
          subst hw''
          have kb := below_regrown W2 dq osq
          have B3 := hid (B2.out.trans (kb.mono B2.out.size))
          have P3 := hid (row_below P2.out kb)
          have X3 := hid (row_below X2.out kb)
          clear P2 X2 B2
          clear cQ p0 p1 p2 lz kb
          generalize grow (redrawn W2 dq) osq = W3 at *
          have p0 := at_row P3.out 0 rfl
          have p1 := at_row P3.out 1 rfl
          have p2 := at_row P3.out 2 rfl
          have x0 := at_row X3.out 0 rfl
          have x1 := at_row X3.out 1 rfl
          have x2 := at_row X3.out 2 rfl
          go_wp2_with (go_at_call 25; refine (cA _ B3.out).mono ?_)
          rintro e W4 ⟨rfl, b⟩
          have B4 := hid (B3.out.trans (b.mono B3.out.size))
          have P4 := hid (row_below P3.out b)
          have X4 := hid (row_below X3.out b)
          clear P3 X3 B3
          clear b
          clear p0 p1 p2 x0 x1 x2
          have p0 := at_row P4.out 0 rfl
          have p1 := at_row P4.out 1 rfl
          have p2 := at_row P4.out 2 rfl
          have x0 := at_row X4.out 0 rfl
          have x1 := at_row X4.out 1 rfl
          have x2 := at_row X4.out 2 rfl
          go_wp2_with (go_at_call 12; refine (cr _ B4.out).mono ?_)
          rintro e W5 ⟨rfl, b⟩
          have B5 := hid (B4.out.trans (b.mono B4.out.size))
          have P5 := hid (row_below P4.out b)
          have X5 := hid (row_below X4.out b)
          clear P4 X4 B4
          clear b
          clear p0 p1 p2 x0 x1 x2
          have hS2 : Hid (PaS w w.heap.size bb (off + k) t s a n c z W5) := hid ⟨at_row P5.out 0 rfl, at_row P5.out 1 rfl, at_row P5.out 2 rfl, (B5.out.cell (p := ⟨bb, off + k, none⟩) hbb).trans HCZ.out, B5.out⟩
          have zX : w.heap.size < W5.heap.size := (Array.getElem?_eq_some_iff.1 P5.out).1
          have zb : bb < W5.heap.size := by have := B5.out.size; omega
          have zw : w.heap.size ≤ W5.heap.size := B5.out.size
          go_wp2_with fail
          go_region_held3 (PaS w w.heap.size bb (off + k) t s a n c z) (with_reducible (first | assumption | exact paS_drew hS2.out | exact paS_call (paS_drew hS2.out) b4 | exact paS_call (paS_drew (paS_alloc hS2.out _)) b4 | exact paS_alloc (paS_call (paS_drew hS2.out) b4) _ | (refine paS_alloc ?_ _; assumption) | (refine paS_drew (paS_alloc ?_ _); exact hS2.out) | (refine paS_three ?_ zX zb zw; assumption))) (first | (go_at_call 26; refine (cR _ ?hbel4).mono ?_; (case hbel4 => first | exact (paS_drew hS2.out).2.2.2.2 | exact (paS_drew (paS_alloc hS2.out _)).2.2.2.2); rintro e w4 ⟨rfl, b4⟩; have q1 := (lbcell b4).1; have q2 := (lbcell b4).2))
          · have hA := paA_a (wr := W5) b4 (qptO 0 0 0)
            clear b4 q1 q2 zX zb zw hS2
            revert hA
            generalize w4.alloc _ = W6
            generalize w4.heap.size = g2
            intro hA
            have B6 := hid (B5.out.trans (hA.1.mono B5.out.size))
            have P6 := hid (row_below P5.out hA.1)
            have X6 := hid (row_below X5.out hA.1)
            have Y6 := hid hA.2.1
            clear hA B5 P5 X5
            have p0 := at_row P6.out 0 rfl
            have p1 := at_row P6.out 1 rfl
            have p2 := at_row P6.out 2 rfl
            have x0 := at_row X6.out 0 rfl
            have x1 := at_row X6.out 1 rfl
            have x2 := at_row X6.out 2 rfl
            have y0 := at_row Y6.out 0 rfl
            have y1 := at_row Y6.out 1 rfl
            have y2 := at_row Y6.out 2 rfl
            go_wp2_with (go_at_call 13; refine (lnum_any _ _).mono ?_; rintro e w' ⟨rfl, hw⟩; rw [hw]; clear hw)
            clear p0 p1 p2 x0 x1 x2 y0 y1 y2
            go_roundw
            case rel => exact ⟨k + 1, by omega, by go_num, P6, B6⟩
            case measure => simp [intOf]; omega
          · have hA := paA_b (wr := W5) b4 (.int .i64 0) (.int .i64 0) (.int .i64 0)
            clear b4 q1 q2 zX zb zw hS2
            revert hA
            generalize World.setCell (World.setCell (World.setCell w4 _ _) _ _) _ _ = W6
            generalize W5.heap.size = g2
            intro hA
            have B6 := hid (B5.out.trans (hA.1.mono B5.out.size))
            have P6 := hid (row_below P5.out hA.1)
            have X6 := hid (row_below X5.out hA.1)
            have Y6 := hid hA.2.1
            clear hA B5 P5 X5
            have p0 := at_row P6.out 0 rfl
            have p1 := at_row P6.out 1 rfl
            have p2 := at_row P6.out 2 rfl
            have x0 := at_row X6.out 0 rfl
            have x1 := at_row X6.out 1 rfl
            have x2 := at_row X6.out 2 rfl
            have y0 := at_row Y6.out 0 rfl
            have y1 := at_row Y6.out 1 rfl
            have y2 := at_row Y6.out 2 rfl
            go_wp2_with (go_at_call 13; refine (lnum_any _ _).mono ?_; rintro e w' ⟨rfl, hw⟩; rw [hw]; clear hw)
            clear p0 p1 p2 x0 x1 x2 y0 y1 y2
            go_roundw
            case rel => exact ⟨k + 1, by omega, by go_num, P6, B6⟩
            case measure => simp [intOf]; omega
    · obtain rfl : k = len := by omega
      have cw1 := cw wr HB.out
      go_wp2_with (go_at_call 9; refine cw1.mono ?_; rintro e w2 ⟨rfl, b2⟩)
      go_ret
      exact ⟨rfl, HB.out.trans (b2.mono HB.out.size)⟩
theorem layoutParts_any (t s : Int) (a : Option Addr) (n c : Nat) (ss : List ByteArray) (la : Option Addr) (len cap : Nat) (zs : List Int) (w : World) (hT : IsTab w (.slice a n c) ss) (hA : LAll w) (hz : IntsAt w la len zs) :
    Calls Tryd.prog 5 #[planV t s a n c, .slice la len cap] w fun e w' => e = .returned (.bool true) ∧ Below w.heap.size w w' := by
  rcases Bool.eq_false_or_eq_true (lvs ss) with hv | hv
  · exact layoutParts_v t s a n c ss la len cap zs w hT hA hv
  by_cases hl : len ≤ 60
  · rcases Bool.eq_false_or_eq_true (rgt t s ss) with hr | hr
    · exact layoutParts_y t s a n c ss la len cap zs w hT hA hv hl hz hr
    · exact layoutParts_n t s a n c ss la len cap zs w hT hA hv hl hz hr
  · exact layoutParts_l t s a n c ss la len cap zs w hT hA hv (by omega)
end Go.Proofs.YtjfegimgpkeleaaDoor
