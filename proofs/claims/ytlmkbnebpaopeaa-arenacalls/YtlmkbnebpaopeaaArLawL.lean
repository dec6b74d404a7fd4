/- The walk of the law ArenaCalls. -/
import Derived.Test.YtlmkbnebpaopeaaArLawP
namespace Go.Proofs.Ytlmkbnebpaopeaa
open Go.RowKit Go.Shelf
/-- Between the program's access and the document's: the arena has the new words, the list the old ones. -/
structure Mid (w : World) (A B b off : Nat) (xs zs : List Int) (W : World) : Prop where
  ar : IsAr W A B zs
  ws : Ws W b off xs
  ne : b ≠ B
  new : w.heap.size ≤ B
  bel : Below w.heap.size w W
theorem PlR.mid {w W : World} {A B b off : Nat} {xs : List Int} (h : PlR w A B b off xs W) : Mid w A B b off xs xs W := ⟨h.ar, h.ws, h.ne, h.new, h.bel⟩
theorem PlR.blt {w W : World} {A B b off : Nat} {xs : List Int} (h : PlR w A B b off xs W) : b < W.heap.size := block_lt_of_cell (h.ws 0 h.ar.pos)
theorem Mid.below {w W W' : World} {A B b off : Nat} {xs zs : List Int} (h : Mid w A B b off xs zs W) (k : Below W.heap.size W W') : Mid w A B b off xs zs W' :=
  ⟨h.ar.below k, h.ws.below k, h.ne, h.new, h.bel.trans (k.mono h.bel.size)⟩
theorem Mid.did {w W W' : World} {A B b off : Nat} {xs ys zs : List Int} (h : Mid w A B b off xs ys W) (ha : IsAr W' A B zs) (hg : W.grownBy W' (some B)) : Mid w A B b off xs zs W' :=
  ⟨ha, h.ws.grown hg h.ne, h.ne, h.new, below_grown h.bel h.bel.size hg h.new⟩
theorem Mid.set {w W : World} {A B b off : Nat} {xs zs : List Int} (h : Mid w A B b off xs zs W) (G : Nat) (ha : A ≠ G) (hb : B ≠ G) (hc : b ≠ G) (hG : w.heap.size ≤ G) (j : Nat) (v : Value) : Mid w A B b off xs zs (W.setCell ⟨G, j, none⟩ v) := by
  have g := grown_setCell W G j v
  exact ⟨h.ar.grown g (by simpa using ha) (by simpa using hb), h.ws.grown g hc, h.ne, h.new, below_grown h.bel h.bel.size g hG⟩
theorem Mid.next {w W W' : World} {A B b off b' off' : Nat} {xs zs : List Int} (h : Mid w A B b off xs zs W) (hw : Ws W' b' off' zs) (hb : b' = b ∨ W.heap.size ≤ b') (hl : Below W.heap.size W W') : PlR w A B b' off' zs W' := by
  refine ⟨h.ar.below hl, hw, ?_, h.new, h.bel.trans (hl.mono h.bel.size)⟩
  have := h.ar.ltB
  rcases hb with rfl | hb
  · exact h.ne
  · omega
theorem two_rows {w W : World} {X Y : Obj} {B : Nat} (hg : ((w.alloc X).alloc Y).grownBy W (some B)) (hB : B < w.heap.size) : W.heap[w.heap.size]? = some X ∧ W.heap[w.heap.size + 1]? = some Y := by
  refine ⟨(hg.block w.heap.size (by simp; omega) (by simp; omega)).trans ((Below.heap_alloc (w.alloc X) Y _ (by simp)).trans (heap_alloc_last w X)), ?_⟩
  refine (hg.block (w.heap.size + 1) (by simp) (by simp; omega)).trans ?_
  have := heap_alloc_last (w.alloc X) Y
  rwa [size_alloc] at this
theorem Mid.four {w W : World} {A B b off : Nat} {xs zs : List Int} (h : Mid w A B b off xs zs W) (G : Nat) (ha : A ≠ G) (hb : B ≠ G) (hc : b ≠ G) (hG : w.heap.size ≤ G) (u v x y : Value) : Mid w A B b off xs zs ((((W.setCell ⟨G, 0, none⟩ u).setCell ⟨G, 1, none⟩ v).setCell ⟨G, 2, none⟩ x).setCell ⟨G, 3, none⟩ y) :=
  (((h.set G ha hb hc hG 0 u).set G ha hb hc hG 1 v).set G ha hb hc hG 2 x).set G ha hb hc hG 3 y
/-- A store is answered 0. -/
theorem dof_store (ys zs : List Int) (p n a er : Int) (h : dof ys 2 p 0 n = (zs, a, er)) : a = 0 := by
  unfold dof at h
  by_cases h1 : ck 2 p 0 n = false
  · rw [if_pos h1] at h; cases h; rfl
  · rw [if_neg h1, if_neg (by decide)] at h
    by_cases h2 : (decide (0 ≤ p) && decide (p < ys.length)) = false
    · rw [if_pos h2] at h; cases h; rfl
    · rw [if_neg h2, if_neg (by decide), if_pos rfl] at h; cases h; rfl
set_option maxRecDepth 100000 in
set_option maxHeartbeats 16000000 in
theorem arenaCalls_run (b off c : Nat) (xs : List Int) (a2 : Option Addr) (len cap : Nat) (w : World) (hx : Ws w b off xs) (hi : InW xs) (h1 : 1 ≤ xs.length) (h2 : xs.length ≤ 300) (h3 : len ≤ 40) (hq : IsAccs w a2 len) :
    Calls Try.prog 6 #[.slice (some ⟨b, off, none⟩) xs.length c, .slice a2 len cap] w fun e w' => e = .returned (.bool true) ∧ Below w.heap.size w w' := by
  have h2' : (xs.length : Int) ≤ 300 := by omega
  have h3' : (len : Int) ≤ 40 := by omega
  have co := Of_yes b off c xs w hx h1 (by omega)
  have hb : b < w.heap.size := block_lt_of_cell (hx 0 h1)
  have hP : PlR w (w.heap.size + 1) w.heap.size b off xs (made w xs) := ⟨made_ar w xs hi h1 (by omega), hx.below (made_below w xs), by omega, Nat.le_refl _, made_below w xs⟩
  generalize made w xs = w1 at *
  have HP := hid hP
  have HQ := hid hq
  clear hP hq hx hi hb
  go_enter Try.func6, Try.ntmps6
  go_wp2_with (first | (go_at_call 14; refine co.mono ?_; rintro e w' ⟨rfl, hw⟩; rw [hw]; clear hw) | (go_at_call 10; refine (anum_any _ _).mono ?_; rintro e w' ⟨rfl, hw⟩; rw [hw]; clear hw))
  clear co
  go_loopw [0, 7] (fun l i wr => ∃ (k b' off' c' : Nat) (ys : List Int), k ≤ len ∧ i = .int .i64 k ∧ l = .slice (some ⟨b', off', none⟩) ys.length c' ∧ Hid (PlR w (w.heap.size + 1) w.heap.size b' off' ys wr)) (fun _ i _ => len - (intOf i).toNat)
  case atStart => exact ⟨0, b, off, c, xs, Nat.zero_le _, rfl, rfl, HP⟩
  case round =>
    obtain ⟨k, b', off', c', ys, hk, rfl, rfl, HR⟩ := hrel
    clear HP
    have HLT := hid HR.out.ar.ltB
    by_cases hlt : k < len
    · have hlt' : (k : Int) < len := by omega
      rcases HQ.out with h0 | ⟨b2, off2, q, rfl, hq⟩
      · omega
      obtain ⟨hS, n0, n1⟩ := hq.at HR.out.bel k hlt
      clear hq
      generalize (q k).k = xk at *
      generalize (q k).p = xp at *
      generalize (q k).o = xo at *
      generalize (q k).n = xn at *
      by_cases e1 : xk = 1
      · subst e1
        obtain ⟨zs, a, er, HD⟩ : ∃ zs a er, Hid (dof ys 1 xp 0 0 = (zs, a, er)) := ⟨_, _, _, hid rfl⟩
        have hne : (a != a) = false := by simp
        have hee : (er != er) = false := by simp
        have ar0 := (HR.out.ar.alloc (.cells #[.int .i64 1, .int .i64 xp, .int .u64 xo, .int .u64 xn] 30)).alloc (.cells #[.int .i64 0, .int .i64 0, .int .u64 0, .int .u64 0] 30)
        go_wp2_with (go_at_call 18; refine (Load_at _ _ ys zs xp a er _ ar0 HD).mono ?_)
        rintro e w2 ⟨rfl, ar2, g2⟩
        have hr2 := two_rows g2 HLT.out
        have x0 := at_row hr2.1 0 rfl
        have x1 := at_row hr2.1 1 rfl
        have x2 := at_row hr2.1 2 rfl
        have x3 := at_row hr2.1 3 rfl
        have M2 := hid ((HR.out.mid.below (bel_two wr (.cells #[.int .i64 1, .int .i64 xp, .int .u64 xo, .int .u64 xn] 30) (.cells #[.int .i64 0, .int .i64 0, .int .u64 0, .int .u64 0] 30))).did ar2 g2)
        have Y2 := hid hr2.2
        have Z2 : Hid (wr.heap.size + 1 < w2.heap.size) := hid (Array.getElem?_eq_some_iff.1 hr2.2).1
        clear ar2 g2 ar0 hr2
        go_wp2_with (go_at_call 19; refine (rLoad_any _ _).mono ?_)
        rintro e w3 ⟨rfl, b3⟩
        have Y3 := hid ((b3.block _ Z2.out).trans Y2.out)
        have y0 := at_row Y3.out 0 rfl
        have y1 := at_row Y3.out 1 rfl
        have y2 := at_row Y3.out 2 rfl
        have y3 := at_row Y3.out 3 rfl
        have f0 := fz_row Y3.out 0
        have f1 := fz_row Y3.out 1
        have f2 := fz_row Y3.out 2
        have f3 := fz_row Y3.out 3
        have HM := hid ((M2.out.below b3).four (wr.heap.size + 1) (by have := HR.out.ar.ltA; omega) (by have := HLT.out; omega) (by have := HR.out.blt; omega) (by have := HR.out.bel.size; omega) (.int .i64 1) (.int .i64 xp) (.int .u64 0) (.int .u64 0))
        clear b3 M2 x0 x1 x2 x3
        go_wp2_with (go_at_call 17; refine (rDo_at b' off' c' ys zs 1 xp 0 0 a er _ HM.out.ws HR.out.ar.pos HR.out.ar.le HD).mono ?_)
        rintro e w5 ⟨b5, off5, c5, rfl, hw5, hb5, bl5⟩
        have HN := hid (HM.out.next hw5 hb5 bl5)
        clear hw5 hb5 bl5 HM y0 y1 y2 y3 f0 f1 f2 f3
        go_wp2_with (go_at_call 10; refine (anum_any _ _).mono ?_; rintro e w' ⟨rfl, hw⟩; rw [hw]; clear hw)
        go_roundw
        case rel => exact ⟨k + 1, b5, off5, c5, zs, by omega, by go_num, rfl, HN⟩
        case measure => simp [intOf]; omega
      by_cases e2 : xk = 2
      · subst e2
        clear e1
        obtain ⟨zs, a, er, HD⟩ : ∃ zs a er, Hid (dof ys 2 xp 0 xn = (zs, a, er)) := ⟨_, _, _, hid rfl⟩
        have ha0 := dof_store ys zs xp xn a er HD.out
        subst ha0
        have hee : (er != er) = false := by simp
        have ar0 := (HR.out.ar.alloc (.cells #[.int .i64 2, .int .i64 xp, .int .u64 xo, .int .u64 xn] 30)).alloc (.cells #[.int .i64 0, .int .i64 0, .int .u64 0, .int .u64 0] 30)
        go_wp2_with (go_at_call 20; refine (Store_at _ _ ys zs xp xn 0 er _ ar0 n0 n1 HD).mono ?_)
        rintro e w2 ⟨rfl, ar2, g2⟩
        have hr2 := two_rows g2 HLT.out
        have x0 := at_row hr2.1 0 rfl
        have x1 := at_row hr2.1 1 rfl
        have x2 := at_row hr2.1 2 rfl
        have x3 := at_row hr2.1 3 rfl
        have M2 := hid ((HR.out.mid.below (bel_two wr (.cells #[.int .i64 2, .int .i64 xp, .int .u64 xo, .int .u64 xn] 30) (.cells #[.int .i64 0, .int .i64 0, .int .u64 0, .int .u64 0] 30))).did ar2 g2)
        have Y2 := hid hr2.2
        have Z2 : Hid (wr.heap.size + 1 < w2.heap.size) := hid (Array.getElem?_eq_some_iff.1 hr2.2).1
        clear ar2 g2 ar0 hr2
        go_wp2_with (go_at_call 21; refine (rStore_any _ _ _).mono ?_)
        rintro e w3 ⟨rfl, b3⟩
        have Y3 := hid ((b3.block _ Z2.out).trans Y2.out)
        have y0 := at_row Y3.out 0 rfl
        have y1 := at_row Y3.out 1 rfl
        have y2 := at_row Y3.out 2 rfl
        have y3 := at_row Y3.out 3 rfl
        have f0 := fz_row Y3.out 0
        have f1 := fz_row Y3.out 1
        have f2 := fz_row Y3.out 2
        have f3 := fz_row Y3.out 3
        have HM := hid ((M2.out.below b3).four (wr.heap.size + 1) (by have := HR.out.ar.ltA; omega) (by have := HLT.out; omega) (by have := HR.out.blt; omega) (by have := HR.out.bel.size; omega) (.int .i64 2) (.int .i64 xp) (.int .u64 0) (.int .u64 xn))
        clear b3 M2 x0 x1 x2 x3
        go_wp2_with (go_at_call 17; refine (rDo_at b' off' c' ys zs 2 xp 0 xn 0 er _ HM.out.ws HR.out.ar.pos HR.out.ar.le HD).mono ?_)
        rintro e w5 ⟨b5, off5, c5, rfl, hw5, hb5, bl5⟩
        have HN := hid (HM.out.next hw5 hb5 bl5)
        clear hw5 hb5 bl5 HM y0 y1 y2 y3 f0 f1 f2 f3
        go_wp2_with (go_at_call 10; refine (anum_any _ _).mono ?_; rintro e w' ⟨rfl, hw⟩; rw [hw]; clear hw)
        go_roundw
        case rel => exact ⟨k + 1, b5, off5, c5, zs, by omega, by go_num, rfl, HN⟩
        case measure => simp [intOf]; omega
      by_cases e3 : xk = 3
      · subst e3
        clear e1 e2
        obtain ⟨zs, a, er, HD⟩ : ∃ zs a er, Hid (dof ys 3 xp xo xn = (zs, a, er)) := ⟨_, _, _, hid rfl⟩
        have hne : (a != a) = false := by simp
        have hee : (er != er) = false := by simp
        have ar0 := (HR.out.ar.alloc (.cells #[.int .i64 3, .int .i64 xp, .int .u64 xo, .int .u64 xn] 30)).alloc (.cells #[.int .i64 0, .int .i64 0, .int .u64 0, .int .u64 0] 30)
        go_wp2_with (go_at_call 22; refine (Cas_at _ _ ys zs xp xo xn a er _ ar0 n0 n1 HD).mono ?_)
        rintro e w2 ⟨rfl, ar2, g2⟩
        have hr2 := two_rows g2 HLT.out
        have x0 := at_row hr2.1 0 rfl
        have x1 := at_row hr2.1 1 rfl
        have x2 := at_row hr2.1 2 rfl
        have x3 := at_row hr2.1 3 rfl
        have M2 := hid ((HR.out.mid.below (bel_two wr (.cells #[.int .i64 3, .int .i64 xp, .int .u64 xo, .int .u64 xn] 30) (.cells #[.int .i64 0, .int .i64 0, .int .u64 0, .int .u64 0] 30))).did ar2 g2)
        have Y2 := hid hr2.2
        have Z2 : Hid (wr.heap.size + 1 < w2.heap.size) := hid (Array.getElem?_eq_some_iff.1 hr2.2).1
        clear ar2 g2 ar0 hr2
        go_wp2_with (go_at_call 23; refine (rCas_any _ _ _ _).mono ?_)
        rintro e w3 ⟨rfl, b3⟩
        have Y3 := hid ((b3.block _ Z2.out).trans Y2.out)
        have y0 := at_row Y3.out 0 rfl
        have y1 := at_row Y3.out 1 rfl
        have y2 := at_row Y3.out 2 rfl
        have y3 := at_row Y3.out 3 rfl
        have f0 := fz_row Y3.out 0
        have f1 := fz_row Y3.out 1
        have f2 := fz_row Y3.out 2
        have f3 := fz_row Y3.out 3
        have HM := hid ((M2.out.below b3).four (wr.heap.size + 1) (by have := HR.out.ar.ltA; omega) (by have := HLT.out; omega) (by have := HR.out.blt; omega) (by have := HR.out.bel.size; omega) (.int .i64 3) (.int .i64 xp) (.int .u64 xo) (.int .u64 xn))
        clear b3 M2 x0 x1 x2 x3
        go_wp2_with (go_at_call 17; refine (rDo_at b' off' c' ys zs 3 xp xo xn a er _ HM.out.ws HR.out.ar.pos HR.out.ar.le HD).mono ?_)
        rintro e w5 ⟨b5, off5, c5, rfl, hw5, hb5, bl5⟩
        have HN := hid (HM.out.next hw5 hb5 bl5)
        clear hw5 hb5 bl5 HM y0 y1 y2 y3 f0 f1 f2 f3
        go_wp2_with (go_at_call 10; refine (anum_any _ _).mono ?_; rintro e w' ⟨rfl, hw⟩; rw [hw]; clear hw)
        go_roundw
        case rel => exact ⟨k + 1, b5, off5, c5, zs, by omega, by go_num, rfl, HN⟩
        case measure => simp [intOf]; omega
      · have f1 : (xk == 1) = false := by simpa using e1
        have f2 : (xk == 2) = false := by simpa using e2
        have f3 : (xk == 3) = false := by simpa using e3
        clear e1 e2 e3
        have HD : Hid (dof ys 0 0 0 0 = (ys, 0, 0)) := hid rfl
        have hws := (HR.out.ws.below (bel_two wr (.cells #[.int .i64 xk, .int .i64 xp, .int .u64 xo, .int .u64 xn] 30) (.cells #[.int .i64 0, .int .i64 0, .int .u64 0, .int .u64 0] 30)))
        have HM := hid (HR.out.mid.below (bel_two wr (.cells #[.int .i64 xk, .int .i64 xp, .int .u64 xo, .int .u64 xn] 30) (.cells #[.int .i64 0, .int .i64 0, .int .u64 0, .int .u64 0] 30)))
        go_wp2_with (go_at_call 17; refine (rDo_at b' off' c' ys ys 0 0 0 0 0 0 _ hws HR.out.ar.pos HR.out.ar.le HD).mono ?_)
        rintro e w5 ⟨b5, off5, c5, rfl, hw5, hb5, bl5⟩
        have HN := hid (HM.out.next hw5 hb5 bl5)
        clear hw5 hb5 bl5 HM hws
        go_wp2_with (go_at_call 10; refine (anum_any _ _).mono ?_; rintro e w' ⟨rfl, hw⟩; rw [hw]; clear hw)
        go_roundw
        case rel => exact ⟨k + 1, b5, off5, c5, ys, by omega, by go_num, rfl, HN⟩
        case measure => simp [intOf]; omega
    · have ch := has_at _ _ b' off' c' ys wr HR.out.ar HR.out.ws
      go_wp2_with (first | (go_at_call 15; refine ch.mono ?_; rintro e w4 ⟨rfl, b4⟩) | (go_at_call 9; refine (aworks_any _).mono ?_; rintro e w' ⟨rfl, bq⟩))
      go_ret
      exact ⟨rfl, HR.out.bel.trans ((b4.trans (bq.mono b4.size)).mono HR.out.bel.size)⟩
set_option maxRecDepth 100000 in
set_option maxHeartbeats 4000000 in
theorem arenaCalls_huge (a a2 : Option Addr) (n c len cap : Nat) (w : World) (h : 16384 < n) :
    Calls Try.prog 6 #[.slice a n c, .slice a2 len cap] w fun e w' => e = .returned (.bool true) ∧ Below w.heap.size w w' := by
  have h' : 300 < (n : Int) := by omega
  have co := Of_no a n c w (by omega)
  go_enter Try.func6, Try.ntmps6
  go_wp2_with (first | (go_at_call 14; refine co.mono ?_; rintro e w' ⟨rfl, hw⟩; rw [hw]; clear hw) | (go_at_call 10; refine (anum_any _ _).mono ?_; rintro e w' ⟨rfl, hw⟩; rw [hw]; clear hw) | (go_at_call 9; refine (aworks_any _).mono ?_; rintro e w' ⟨rfl, bq⟩))
  go_ret
  exact ⟨rfl, bq⟩
set_option maxRecDepth 100000 in
set_option maxHeartbeats 4000000 in
theorem arenaCalls_long (b off c : Nat) (xs : List Int) (a2 : Option Addr) (len cap : Nat) (w : World) (hx : Ws w b off xs) (h : 300 < xs.length) (h2 : xs.length ≤ 16384) :
    Calls Try.prog 6 #[.slice (some ⟨b, off, none⟩) xs.length c, .slice a2 len cap] w fun e w' => e = .returned (.bool true) ∧ Below w.heap.size w w' := by
  have h' : 300 < (xs.length : Int) := by omega
  have co := Of_yes b off c xs w hx (by omega) (by omega)
  have hB := made_below w xs
  generalize made w xs = w1 at *
  have HB := hid hB
  clear hB hx
  go_enter Try.func6, Try.ntmps6
  go_wp2_with (first | (go_at_call 14; refine co.mono ?_; rintro e w' ⟨rfl, hw⟩; rw [hw]; clear hw) | (go_at_call 10; refine (anum_any _ _).mono ?_; rintro e w' ⟨rfl, hw⟩; rw [hw]; clear hw) | (go_at_call 9; refine (aworks_any _).mono ?_; rintro e w' ⟨rfl, bq⟩))
  go_ret
  exact ⟨rfl, HB.out.trans (bq.mono HB.out.size)⟩
set_option maxRecDepth 100000 in
set_option maxHeartbeats 4000000 in
theorem arenaCalls_many (b off c : Nat) (xs : List Int) (a2 : Option Addr) (len cap : Nat) (w : World) (hx : Ws w b off xs) (h1 : 1 ≤ xs.length) (h2 : xs.length ≤ 300) (h3 : 40 < len) :
    Calls Try.prog 6 #[.slice (some ⟨b, off, none⟩) xs.length c, .slice a2 len cap] w fun e w' => e = .returned (.bool true) ∧ Below w.heap.size w w' := by
  have h2' : (xs.length : Int) ≤ 300 := by omega
  have h3' : 40 < (len : Int) := by omega
  have co := Of_yes b off c xs w hx (by omega) (by omega)
  have hB := made_below w xs
  generalize made w xs = w1 at *
  have HB := hid hB
  clear hB hx
  go_enter Try.func6, Try.ntmps6
  go_wp2_with (first | (go_at_call 14; refine co.mono ?_; rintro e w' ⟨rfl, hw⟩; rw [hw]; clear hw) | (go_at_call 10; refine (anum_any _ _).mono ?_; rintro e w' ⟨rfl, hw⟩; rw [hw]; clear hw) | (go_at_call 9; refine (aworks_any _).mono ?_; rintro e w' ⟨rfl, bq⟩))
  go_ret
  exact ⟨rfl, HB.out.trans (bq.mono HB.out.size)⟩
set_option maxRecDepth 100000 in
set_option maxHeartbeats 4000000 in
theorem arenaCalls_none1 (a a2 : Option Addr) (c len cap : Nat) (w : World) (h3 : 40 < len) :
    Calls Try.prog 6 #[.slice a 0 c, .slice a2 len cap] w fun e w' => e = .returned (.bool true) ∧ Below w.heap.size w w' := by
  have h3' : 40 < (len : Int) := by omega
  have co := Of_no a 0 c w (by omega)
  go_enter Try.func6, Try.ntmps6
  go_wp2_with (first | (go_at_call 14; refine co.mono ?_; rintro e w' ⟨rfl, hw⟩; rw [hw]; clear hw) | (go_at_call 10; refine (anum_any _ _).mono ?_; rintro e w' ⟨rfl, hw⟩; rw [hw]; clear hw) | (go_at_call 9; refine (aworks_any _).mono ?_; rintro e w' ⟨rfl, bq⟩))
  go_ret
  exact ⟨rfl, bq⟩
set_option maxRecDepth 100000 in
set_option maxHeartbeats 4000000 in
theorem arenaCalls_none0 (a a2 : Option Addr) (c len cap : Nat) (w : World) (h3 : len ≤ 40) :
    Calls Try.prog 6 #[.slice a 0 c, .slice a2 len cap] w fun e w' => e = .returned (.bool true) ∧ Below w.heap.size w w' := by
  have h3' : (len : Int) ≤ 40 := by omega
  have co := Of_no a 0 c w (by omega)
  go_enter Try.func6, Try.ntmps6
  go_wp2_with (first | (go_at_call 14; refine co.mono ?_; rintro e w' ⟨rfl, hw⟩; rw [hw]; clear hw) | (go_at_call 10; refine (anum_any _ _).mono ?_; rintro e w' ⟨rfl, hw⟩; rw [hw]; clear hw) | (go_at_call 9; refine (aworks_any _).mono ?_; rintro e w' ⟨rfl, bq⟩))
  go_ret
  exact ⟨rfl, bq⟩
theorem arenaCalls_walk (a a2 : Option Addr) (n c len cap : Nat) (w : World) (hw : IsWs w a n) (hq : IsAccs w a2 len) :
    Calls Try.prog 6 #[.slice a n c, .slice a2 len cap] w fun e w' => e = .returned (.bool true) ∧ Below w.heap.size w w' := by
  by_cases h : 16384 < n
  · exact arenaCalls_huge a a2 n c len cap w h
  by_cases h0 : n = 0
  · subst h0
    by_cases h3 : 40 < len
    · exact arenaCalls_none1 a a2 c len cap w h3
    · exact arenaCalls_none0 a a2 c len cap w (by omega)
  · rcases hw with rfl | ⟨b, off, xs, rfl, rfl, hx, hi⟩
    · exact absurd rfl h0
    by_cases h1 : 300 < xs.length
    · exact arenaCalls_long b off c xs a2 len cap w hx h1 (by omega)
    by_cases h3 : 40 < len
    · exact arenaCalls_many b off c xs a2 len cap w hx (by omega) (by omega) h3
    · exact arenaCalls_run b off c xs a2 len cap w hx hi (by omega) (by omega) (by omega) hq
end Go.Proofs.Ytlmkbnebpaopeaa
