/- package object: words, mustStand. -/
import Derived.Test.YtldfmlkjeniemaaDoorArCallOn
import Derived.Test.YtldfmlkjeniemaaDoorLyRefSOn
import Derived.Test.YtldfmlkjeniemaaDoorLyFaceOn
namespace Go.Proofs.YtldfmlkjeniemaaDoor
open Go.RowKit Go.Ly Go.Hd Go.Sh Go.Ob Go.Sort
theorem IsHp.size {W : World} {t s : Int} {a : Option Addr} {n c : Nat} {ss : List ByteArray} {A B : Nat} {xs : List Int} (h : IsHp W t s a n c ss A B xs) : 1 ≤ t ∧ t ≤ 8 ∧ 32 ≤ s ∧ s ≤ 4096 ∧ xs.length ≤ 9000 := by
  obtain ⟨a1, a2, a3, a4, _⟩ := rgt_yes h.rg
  have := h.len
  exact ⟨a1, a2, a3, a4, by omega⟩
set_option maxRecDepth 100000 in
set_option maxHeartbeats 2000000 in
theorem words_err (t s : Int) (a : Option Addr) (n c : Nat) (ss : List ByteArray) (L A B : Nat) (xs : List Int) (q : Nat) (e z er : Int) (w : World) (h : IsHp w t s a n c ss A B xs) (hL : w.heap[L]? = some (arO A)) (hq : q < xs.length)
    (hz : Hid (szH (wat xs q) ss = (z, er))) (he : (er != 0) = true) :
    Calls Tryd.prog 54 #[objV t s a n c L (q : Int) e] w fun e' w' => e' = .returned (.int .i64 0) ∧ Below w.heap.size w w' := by
  have hb := h.ar.bnd.get q
  have bw := below_alloc0 w (objO t s a n c L (q : Int) e)
  have cl := fun d os => Calls.regrown_of (oload_at L A B xs q (grow (redrawn (w.alloc (objO t s a n c L (q : Int) e)) d) os) (h.ar.below (bw.trans ((below_regrown _ d os).mono bw.size))) (row_below hL (bw.trans ((below_regrown _ d os).mono bw.size))) hq)
  have cs := fun d os => Calls.regrown_of (hSize_at (wat xs q) (.slice a n c) ss z er (grow (redrawn (w.alloc (objO t s a n c L (q : Int) e)) d) os) hb.1 hb.2 (h.tab.below (Nat.le_refl _) (bw.trans ((below_regrown _ d os).mono bw.size))) hz.out)
  clear hb
  have c2 := cell_regrown (cell_last w (objC t s a n c L (q : Int) e) 68 2 _ rfl)
  have c3 := cell_regrown (cell_last w (objC t s a n c L (q : Int) e) 68 3 _ rfl)
  have c4 := cell_regrown (cell_last w (objC t s a n c L (q : Int) e) 68 4 _ rfl)
  generalize wat xs q = x at *
  clear h hL hz
  go_enter Tryd.func54, Tryd.ntmps54
  go_wp2_with fail
  generalize w.alloc (objO t s a n c L (q : Int) e) = W at *
  refine wp_region_quiet_below (by kernel_rfl) (by kernel_rfl) ?_
  repeat (go_big_quiet_step ((first | (go_at_call 46; exact cl _ _) | (go_at_call 57; exact cs _ _))))
  refine wpQuiet_nil ?_
  intro _ hw'
  obtain ⟨⟨dq, osq⟩, hw''⟩ := hw'
  subst hw''
  go_wp2
  go_ret
  exact ⟨rfl, bw.trans ((below_regrown W dq osq).mono bw.size)⟩
set_option maxRecDepth 100000 in
set_option maxHeartbeats 2000000 in
theorem words_fit (t s : Int) (a : Option Addr) (n c : Nat) (ss : List ByteArray) (L A B : Nat) (xs : List Int) (q : Nat) (e z : Int) (r : Bool) (w : World) (h : IsHp w t s a n c ss A B xs) (hL : w.heap[L]? = some (arO A)) (hq : q < xs.length) (e0 : 0 ≤ e) (e1 : e ≤ 20000)
    (hz : Hid (szH (wat xs q) ss = (z, 0))) (hr : Hid (decide (z ≤ e - (q : Int)) = r)) :
    Calls Tryd.prog 54 #[objV t s a n c L (q : Int) e] w fun e' w' => e' = .returned (.int .i64 (cond r z 0)) ∧ Below w.heap.size w w' := by
  have hb := h.ar.bnd.get q
  have q9 : (q : Int) ≤ 20000 := by have := h.ar.le; omega
  have bw := below_alloc0 w (objO t s a n c L (q : Int) e)
  have cl := fun d os => Calls.regrown_of (oload_at L A B xs q (grow (redrawn (w.alloc (objO t s a n c L (q : Int) e)) d) os) (h.ar.below (bw.trans ((below_regrown _ d os).mono bw.size))) (row_below hL (bw.trans ((below_regrown _ d os).mono bw.size))) hq)
  have cs := fun d os => Calls.regrown_of (hSize_at (wat xs q) (.slice a n c) ss z 0 (grow (redrawn (w.alloc (objO t s a n c L (q : Int) e)) d) os) hb.1 hb.2 (h.tab.below (Nat.le_refl _) (bw.trans ((below_regrown _ d os).mono bw.size))) hz.out)
  clear hb
  have c2 := cell_regrown (cell_last w (objC t s a n c L (q : Int) e) 68 2 _ rfl)
  have c3 := cell_regrown (cell_last w (objC t s a n c L (q : Int) e) 68 3 _ rfl)
  have c4 := cell_regrown (cell_last w (objC t s a n c L (q : Int) e) 68 4 _ rfl)
  have c0 := cell_regrown (cell_last w (objC t s a n c L (q : Int) e) 68 0 _ rfl)
  have c1 := cell_regrown (cell_last w (objC t s a n c L (q : Int) e) 68 1 _ rfl)
  have c5 := cell_regrown (cell_last w (objC t s a n c L (q : Int) e) 68 5 _ rfl)
  have cf := fun W => fits_any t s a n c L (q : Int) e z W r (by omega) q9 e0 e1 hr
  generalize wat xs q = x at *
  clear h hL hz hr
  go_enter Tryd.func54, Tryd.ntmps54
  go_wp2_with fail
  generalize w.alloc (objO t s a n c L (q : Int) e) = W at *
  have hzW := bw.size
  refine wp_region_quiet_below (by kernel_rfl) (by kernel_rfl) ?_
  repeat (go_big_quiet_step ((first | (go_at_call 46; exact cl _ _) | (go_at_call 57; exact cs _ _))))
  refine wpQuiet_nil ?_
  intro _ hw'
  obtain ⟨⟨dq, osq⟩, hw''⟩ := hw'
  subst hw''
  have B1 := hid (bw.trans ((below_regrown W dq osq).mono hzW))
  have hz1 : w.heap.size ≤ (grow (redrawn W dq) osq).heap.size := by have := (below_regrown W dq osq).size; omega
  cases r
  all_goals
    go_wp2_with (go_at_call 58; refine (cf _).mono ?_)
    rintro e' w2 ⟨rfl, b2⟩
    go_wp2
    go_ret
    exact ⟨rfl, B1.out.trans (b2.mono hz1)⟩
theorem words_any (t s : Int) (a : Option Addr) (n c : Nat) (ss : List ByteArray) (L A B : Nat) (xs : List Int) (q : Nat) (e z : Int) (w : World) (h : IsHp w t s a n c ss A B xs) (hL : w.heap[L]? = some (arO A)) (hq : q < xs.length) (e0 : 0 ≤ e) (e1 : e ≤ 20000) (hz : Hid (osz xs ss e q = z)) :
    Calls Tryd.prog 54 #[objV t s a n c L (q : Int) e] w fun e' w' => e' = .returned (.int .i64 z) ∧ Below w.heap.size w w' := by
  have hz := hz.out
  by_cases he : (szH (wat xs q) ss).2 = 0
  · by_cases hk : (szH (wat xs q) ss).1 ≤ e - (q : Int)
    · have := words_fit t s a n c ss L A B xs q e (szH (wat xs q) ss).1 true w h hL hq e0 e1 (hid (Prod.ext rfl he)) (hid (by simpa using hk))
      rw [osz_yes (by simpa using he) (by simpa using hk)] at hz
      simp only [Int.toNat_natCast] at hz
      rw [hz] at this
      exact this
    · have := words_fit t s a n c ss L A B xs q e (szH (wat xs q) ss).1 false w h hL hq e0 e1 (hid (Prod.ext rfl he)) (hid (by simpa using hk))
      rw [osz_no2 (by simpa using hk)] at hz
      rw [← hz]
      exact this
  · have := words_err t s a n c ss L A B xs q e (szH (wat xs q) ss).1 (szH (wat xs q) ss).2 w h hL hq (hid rfl) (by simpa using he)
    rw [osz_no1 (by simpa using he)] at hz
    rw [← hz]
    exact this
set_option maxHeartbeats 1000000 in
theorem mustStand_no (t s : Int) (a : Option Addr) (n c : Nat) (ss : List ByteArray) (L A B : Nat) (xs : List Int) (q : Nat) (e : Int) (w : World) (h : IsHp w t s a n c ss A B xs) (hL : w.heap[L]? = some (arO A)) (hq : q < xs.length) (e0 : 0 ≤ e) (e1 : e ≤ 20000) (hz : Hid (osz xs ss e q = 0)) :
    Calls Tryd.prog 49 #[objV t s a n c L (q : Int) e] w fun e' w' => e' = upE 170 ∧ Below w.heap.size w w' := by
  have bw := below_alloc0 w (objO t s a n c L (q : Int) e)
  have cw := words_any t s a n c ss L A B xs q e 0 _ (h.below bw) (row_below hL bw) hq e0 e1 hz
  clear h hL hz
  go_enter Tryd.func49, Tryd.ntmps49
  go_wp2_with (first | (go_at_call 54; refine cw.mono ?_; rintro e w' ⟨rfl, b1⟩) | (go_at_call 44; refine (giveUp_any _ _).mono ?_; rintro e w' ⟨rfl, hw⟩; rw [hw]; clear hw))
  exact ⟨rfl, rfl, bel1 b1⟩
set_option maxHeartbeats 1000000 in
theorem mustStand_yes (t s : Int) (a : Option Addr) (n c : Nat) (ss : List ByteArray) (L A B : Nat) (xs : List Int) (q : Nat) (e z : Int) (w : World) (h : IsHp w t s a n c ss A B xs) (hL : w.heap[L]? = some (arO A)) (hq : q < xs.length) (e0 : 0 ≤ e) (e1 : e ≤ 20000) (hz : Hid (osz xs ss e q = z)) (z0 : (z == 0) = false) :
    Calls Tryd.prog 49 #[objV t s a n c L (q : Int) e] w fun e' w' => e' = .returned (.int .i64 z) ∧ Below w.heap.size w w' := by
  have bw := below_alloc0 w (objO t s a n c L (q : Int) e)
  have cw := words_any t s a n c ss L A B xs q e z _ (h.below bw) (row_below hL bw) hq e0 e1 hz
  clear h hL hz
  go_enter Tryd.func49, Tryd.ntmps49
  go_wp2_with (go_at_call 54; refine cw.mono ?_; rintro e w' ⟨rfl, b1⟩)
  go_ret
  exact ⟨rfl, bel1 b1⟩
end Go.Proofs.YtldfmlkjeniemaaDoor
/- package object: open, to. -/
namespace Go.Proofs.YtldfmlkjeniemaaDoor
open Go.RowKit Go.Ly Go.Hd Go.Sh Go.Ob
theorem set6_row {w : World} {g : Nat} {t : TypeId} {a b c d e f : Value} (h : w.heap[g]? = some (.cells #[a, b, c, d, e, f] t)) (u v x y z o : Value) : ((((((w.setCell ⟨g, 0, none⟩ u).setCell ⟨g, 1, none⟩ v).setCell ⟨g, 2, none⟩ x).setCell ⟨g, 3, none⟩ y).setCell ⟨g, 4, none⟩ z).setCell ⟨g, 5, none⟩ o).heap[g]? = some (.cells #[u, v, x, y, z, o] t) :=
  set_row (set_row (set_row (set_row (set_row (set_row h u) v) x) y) z) o
theorem six_set {B : Nat} {w w1 : World} (h : Below B w w1) {g : Nat} (hg : B ≤ g) (u v x y z o : Value) : Below B w ((((((w1.setCell ⟨g, 0, none⟩ u).setCell ⟨g, 1, none⟩ v).setCell ⟨g, 2, none⟩ x).setCell ⟨g, 3, none⟩ y).setCell ⟨g, 4, none⟩ z).setCell ⟨g, 5, none⟩ o) :=
  (((((h.setCell hg _).setCell hg _).setCell hg _).setCell hg _).setCell hg _).setCell hg _
theorem set5_row {w : World} {g : Nat} {t : TypeId} {a b c d e : Value} (h : w.heap[g]? = some (.cells #[a, b, c, d, e] t)) (u v x y z : Value) : (((((w.setCell ⟨g, 0, none⟩ u).setCell ⟨g, 1, none⟩ v).setCell ⟨g, 2, none⟩ x).setCell ⟨g, 3, none⟩ y).setCell ⟨g, 4, none⟩ z).heap[g]? = some (.cells #[u, v, x, y, z] t) :=
  set_row (set_row (set_row (set_row (set_row h u) v) x) y) z
theorem five_set {B : Nat} {w w1 : World} (h : Below B w w1) {g : Nat} (hg : B ≤ g) (u v x y z : Value) : Below B w (((((w1.setCell ⟨g, 0, none⟩ u).setCell ⟨g, 1, none⟩ v).setCell ⟨g, 2, none⟩ x).setCell ⟨g, 3, none⟩ y).setCell ⟨g, 4, none⟩ z) :=
  ((((h.setCell hg _).setCell hg _).setCell hg _).setCell hg _).setCell hg _
theorem okeep_row {w : World} {g h i : Nat} {v : Value} {O : Obj} (hne : g ≠ h) (k : w.heap[g]? = some O) : (w.setCell ⟨h, i, none⟩ v).heap[g]? = some O := by
  simp [World.setCell, Array.getElem?_modify, Ne.symm hne, k]
theorem keep6 {w : World} {g h : Nat} {O : Obj} (hne : g ≠ h) (k : w.heap[g]? = some O) (u v x y z o : Value) : ((((((w.setCell ⟨h, 0, none⟩ u).setCell ⟨h, 1, none⟩ v).setCell ⟨h, 2, none⟩ x).setCell ⟨h, 3, none⟩ y).setCell ⟨h, 4, none⟩ z).setCell ⟨h, 5, none⟩ o).heap[g]? = some O :=
  okeep_row hne (okeep_row hne (okeep_row hne (okeep_row hne (okeep_row hne (okeep_row hne k)))))
theorem keep5 {w : World} {g h : Nat} {O : Obj} (hne : g ≠ h) (k : w.heap[g]? = some O) (u v x y z : Value) : (((((w.setCell ⟨h, 0, none⟩ u).setCell ⟨h, 1, none⟩ v).setCell ⟨h, 2, none⟩ x).setCell ⟨h, 3, none⟩ y).setCell ⟨h, 4, none⟩ z).heap[g]? = some O :=
  okeep_row hne (okeep_row hne (okeep_row hne (okeep_row hne (okeep_row hne k))))
theorem obj_size : (Tryd.prog.info? 68).map (·.size) = some 6 := by kernel_rfl
set_option maxRecDepth 100000 in
set_option maxHeartbeats 1000000 in
theorem open_nil (p : Value) (a0 : Option Addr) (c0 : Nat) (t s : Int) (a : Option Addr) (n c : Nat) (w : World) (hf : Faces w p (.slice a0 0 c0)) :
    Calls Tryd.prog 24 #[p, planV t s a n c] w fun e' w' => e' = upE 1 ∧ Below w.heap.size w w' := by
  have cl := fun W (b : Below w.heap.size w W) => Len_at p a0 0 c0 W (hf.below b)
  obtain ⟨P, rfl⟩ : ∃ P, p = .pointer P := by
    rcases hf with ⟨rfl, _⟩ | ⟨A, rfl, _⟩
    · exact ⟨_, rfl⟩
    · exact ⟨_, rfl⟩
  clear hf
  go_enter Tryd.func24, Tryd.ntmps24
  go_wp2_with (first | (go_at_call 43; refine (cl _ (bel_three _ _ _ _)).mono ?_; rintro e w' ⟨rfl, hw⟩; rw [hw]; clear hw) | (go_at_call 44; refine (giveUp_any _ _).mono ?_; rintro e w' ⟨rfl, hw⟩; rw [hw]; clear hw))
  exact ⟨rfl, rfl, bel_three _ _ _ _⟩
set_option maxRecDepth 100000 in
set_option maxHeartbeats 1000000 in
theorem open_bad (t s : Int) (a : Option Addr) (n c : Nat) (ss : List ByteArray) (A B : Nat) (xs : List Int) (z : Int) (w : World) (hT : IsTab w (.slice a n c) ss) (ha : IsAr w A B xs) (hr : rgt t s ss = true) (hz : 3 + t + t + 2 * s = z) (hl : ((z : Int) != xs.length) = true) :
    Calls Tryd.prog 24 #[.pointer (some ⟨A, 0, none⟩), planV t s a n c] w fun e' w' => e' = upE 2 ∧ Below w.heap.size w w' := by
  have hn : ((xs.length : Int) == 0) = false := len_ne ha.pos
  have cl := fun W (b : Below w.heap.size w W) => Len_at _ _ _ _ W (ha.below b).faces
  have cz := fun W (b : Below w.heap.size w W) => LSize_at t s a n c ss W z 0 (hT.below (Nat.le_refl _) b) (hid (by unfold szv; rw [if_pos hr, hz]))
  clear ha hT hr hz
  go_enter Tryd.func24, Tryd.ntmps24
  go_wp2_with (first | (go_at_call 43; refine (cl _ (bel_three _ _ _ _)).mono ?_; rintro e w' ⟨rfl, hw⟩; rw [hw]; clear hw))
  go_wp2_with (first | (go_at_call 45; refine (cz _ (bel_three _ _ _ _)).mono ?_))
  rintro e w1 ⟨rfl, b1⟩
  have h0 := at_row (row3a b1) 0 rfl
  have B1 := hid (bel3 b1)
  clear b1
  go_wp2_with (first | (go_at_call 43; refine (cl _ B1.out).mono ?_; rintro e w' ⟨rfl, hw⟩; rw [hw]; clear hw) | (go_at_call 44; refine (giveUp_any _ _).mono ?_; rintro e w' ⟨rfl, hw⟩; rw [hw]; clear hw))
  exact ⟨rfl, rfl, B1.out⟩
set_option maxRecDepth 100000 in
set_option maxHeartbeats 1000000 in
theorem open_ok (t s : Int) (a : Option Addr) (n c : Nat) (ss : List ByteArray) (A B : Nat) (xs : List Int) (w : World) (h : IsHp w t s a n c ss A B xs) :
    Calls Tryd.prog 24 #[.pointer (some ⟨A, 0, none⟩), planV t s a n c] w fun e' w' => e' = .returned (objV t s a n c w.heap.size 0 0) ∧ w'.heap[w.heap.size]? = some (arO A) ∧ Below w.heap.size w w' := by
  have hn : ((xs.length : Int) == 0) = false := len_ne h.ar.pos
  have cl := fun W (b : Below w.heap.size w W) => Len_at _ _ _ _ W (h.ar.below b).faces
  have cz := fun W (b : Below w.heap.size w W) => LSize_at t s a n c ss W xs.length 0 (h.tab.below (Nat.le_refl _) b) (hid (by unfold szv; rw [if_pos h.rg, h.len]))
  clear h
  go_enter Tryd.func24, Tryd.ntmps24
  go_wp2_with (first | (go_at_call 43; refine (cl _ (bel_three _ _ _ _)).mono ?_; rintro e w' ⟨rfl, hw⟩; rw [hw]; clear hw))
  go_wp2_with (first | (go_at_call 45; refine (cz _ (bel_three _ _ _ _)).mono ?_))
  rintro e w1 ⟨rfl, b1⟩
  have R1 := hid (row3a b1)
  have R2 := hid (row3b b1)
  have R3 := hid (row3c b1)
  have h0 := at_row (row3a b1) 0 rfl
  have p0 := at_row R2.out 0 rfl
  have p1 := at_row R2.out 1 rfl
  have p2 := at_row R2.out 2 rfl
  have r0 := at_row R3.out 0 rfl
  have r1 := at_row R3.out 1 rfl
  have r2 := at_row R3.out 2 rfl
  have r3 := at_row R3.out 3 rfl
  have r4 := at_row R3.out 4 rfl
  have r5 := at_row R3.out 5 rfl
  have f0 := fz_row R3.out 0
  have f1 := fz_row R3.out 1
  have f2 := fz_row R3.out 2
  have f3 := fz_row R3.out 3
  have f4 := fz_row R3.out 4
  have f5 := fz_row R3.out 5
  have B1 := hid (bel3 b1)
  have hmf : ∀ (fn : Fn) (first cap : Array Value) (w : World), (Instr.makeFunc fn first cap).run Tryd.prog w = .ok (.func fn first cap) w := fun _ _ _ _ => rfl
  clear b1
  go_wp2_with (first | (go_at_call 43; refine (cl _ B1.out).mono ?_; rintro e w' ⟨rfl, hw⟩; rw [hw]; clear hw))
  refine bodyPost_ret (v := objV t s a n c w.heap.size 0 0) (results_cell_row Tryd.results24 _ _ (w.heap.size + 1 + 1) 68 _ (0, 0) _ rfl (set6_row R3.out _ _ _ _ _ _) Tryd.underlying68 rfl obj_size) rfl ⟨rfl, ?_, ?_⟩
  · exact keep6 (by omega) R1.out _ _ _ _ _ _
  · exact six_set B1.out (by omega) _ _ _ _ _ _
theorem kn_sp {t p : Int} (t0 : 1 ≤ t) (h : 3 + t + t ≤ p) : kn t p = 6 := by
  unfold kn
  rw [if_neg (by omega), if_neg (by omega), if_neg (by omega), if_neg (by omega), if_neg (by omega)]
abbrev parO (k x y : Int) : Obj := .cells #[.int .i64 k, .int .i64 x, .int .i64 y] 93
end Go.Proofs.YtldfmlkjeniemaaDoor
