/- The walk of the law ArenaCopies. -/
import Derived.Test.YtlmkbnebpaopeaaArLawP
import Derived.Test.YtlmkbnebpaopeaaArRefS
namespace Go.Proofs.Ytlmkbnebpaopeaa
open Go.RowKit Go.Shelf
set_option linter.unusedVariables false
/-- Where ArenaCopies stands: both arenas, both lists, the access. -/
structure CpS (w : World) (A B A2 B2 b off b2 off2 : Nat) (xs ys : List Int) (xk xp xo xn : Int) (W : World) : Prop where
  a : IsAr W A B xs
  c : IsAr W A2 B2 ys
  l : Ws W b off xs
  m : Ws W b2 off2 ys
  x : W.heap[w.heap.size]? = some (.cells #[.int .i64 xk, .int .i64 xp, .int .u64 xo, .int .u64 xn] 30)
  bel : Below w.heap.size w W
theorem CpS.below {w W W' : World} {A B A2 B2 b off b2 off2 : Nat} {xs ys : List Int} {xk xp xo xn : Int} (h : CpS w A B A2 B2 b off b2 off2 xs ys xk xp xo xn W) (k : Below W.heap.size W W') : CpS w A B A2 B2 b off b2 off2 xs ys xk xp xo xn W' :=
  ⟨h.a.below k, h.c.below k, h.l.below k, h.m.below k, (k.block _ (Array.getElem?_eq_some_iff.1 h.x).1).trans h.x, h.bel.trans (k.mono h.bel.size)⟩
theorem CpS.grown {w W W' : World} {A B A2 B2 b off b2 off2 G : Nat} {xs ys : List Int} {xk xp xo xn : Int} (h : CpS w A B A2 B2 b off b2 off2 xs ys xk xp xo xn W) (g : W.grownBy W' (some G)) (hA : A < G) (hB : B < G) (hA2 : A2 < G) (hB2 : B2 < G) (hb : b < G) (hb2 : b2 < G) (hw : w.heap.size < G) : CpS w A B A2 B2 b off b2 off2 xs ys xk xp xo xn W' :=
  ⟨h.a.grown g (by simp; omega) (by simp; omega), h.c.grown g (by simp; omega) (by simp; omega), h.l.grown g (by omega), h.m.grown g (by omega), (g.block _ (Array.getElem?_eq_some_iff.1 h.x).1 (by simp; omega)).trans h.x, below_grown h.bel h.bel.size g (by omega)⟩
theorem CpS.blt {w W : World} {A B A2 B2 b off b2 off2 : Nat} {xs ys : List Int} {xk xp xo xn : Int} (h : CpS w A B A2 B2 b off b2 off2 xs ys xk xp xo xn W) : b < W.heap.size ∧ b2 < W.heap.size ∧ w.heap.size < W.heap.size :=
  ⟨block_lt_of_cell (h.l 0 h.a.pos), block_lt_of_cell (h.m 0 h.c.pos), (Array.getElem?_eq_some_iff.1 h.x).1⟩
/-- The state in which the two arenas were made. -/
theorem cpS_start (w : World) (b off b2 off2 : Nat) (xs ys : List Int) (xk xp xo xn : Int) (hx : Ws w b off xs) (hi : InW xs) (h1 : 1 ≤ xs.length) (h2 : xs.length ≤ 16384) (hy : Ws w b2 off2 ys) (hj : InW ys) (k1 : 1 ≤ ys.length) (k2 : ys.length ≤ 16384) :
    CpS w (w.heap.size + 1 + 1) (w.heap.size + 1) (w.heap.size + 1 + 1 + 1 + 1) (w.heap.size + 1 + 1 + 1) b off b2 off2 xs ys xk xp xo xn (made (made (w.alloc (.cells #[.int .i64 xk, .int .i64 xp, .int .u64 xo, .int .u64 xn] 30)) xs) ys) := by
  have e1 : (made (w.alloc (.cells #[.int .i64 xk, .int .i64 xp, .int .u64 xo, .int .u64 xn] 30)) xs).heap.size = w.heap.size + 1 + 1 + 1 := by rw [made_size, size_alloc]
  have a1 := made_ar (w.alloc (.cells #[.int .i64 xk, .int .i64 xp, .int .u64 xo, .int .u64 xn] 30)) xs hi h1 h2
  have b1 := made_below (w.alloc (.cells #[.int .i64 xk, .int .i64 xp, .int .u64 xo, .int .u64 xn] 30)) xs
  have a2 := made_ar (made (w.alloc (.cells #[.int .i64 xk, .int .i64 xp, .int .u64 xo, .int .u64 xn] 30)) xs) ys hj k1 k2
  have b2' := made_below (made (w.alloc (.cells #[.int .i64 xk, .int .i64 xp, .int .u64 xo, .int .u64 xn] 30)) xs) ys
  rw [e1] at a2
  rw [size_alloc] at a1
  have bb := (bel1 b1).trans (b2'.mono (bel1 b1).size)
  exact ⟨a1.below b2', a2, hx.below bb, hy.below bb, (b2'.block _ (by omega)).trans (row1 b1), bb⟩
/-- A row's cell. -/
theorem own_cell {W : World} {base e m c : Nat} {a : Option Addr} {vs : List Value} (h : W.ownsRow base e 1 (.slice a m c) m vs) (i : Nat) (hi : i < m) : ∃ g, a = some ⟨g, 0, none⟩ ∧ ∃ hv : i < vs.length, W.cell? ⟨g, i, none⟩ = some vs[i] := by
  have hl : vs.length = m := by simpa using h.1
  rcases h.2 with ⟨e1, h0⟩ | ⟨g, cap, cur, e1, _, hg, _, _, _, ht⟩
  · omega
  · have ea : a = some ⟨g, 0, none⟩ := by cases e1; rfl
    refine ⟨g, ea, by omega, ?_⟩
    have hc := h.cells (g := g) (by rw [ea]; rfl) i vs[i] (List.getElem?_eq_getElem (by omega))
    have hadd : (⟨g, 0, none⟩ : Addr).add i = ⟨g, i, none⟩ := by unfold Addr.add; split <;> simp_all
    rwa [hadd] at hc
theorem own_blw {W W1 : World} {base e m : Nat} {v : Value} {vs : List Value} (h : W.ownsRow base e 1 v m vs) (b : Below W.heap.size W W1) : W1.ownsRow base e 1 v m vs :=
  h.kept (row := none) (grown_below b none) (by cases v.ownBlock <;> simp)
theorem own_below {W W1 : World} {tmp : Obj} {base e m : Nat} {v : Value} {vs : List Value} (hrow : W.ownsRow base e 1 v m vs) (hb : base ≤ W.heap.size) (hg : (W.alloc tmp).grownBy W1 v.ownBlock) : Below base W W1 :=
  ⟨hg.os, hg.tape, hg.output, Nat.le_trans (by simp) hg.size, fun k hk => (hg.block k (by simp; omega) (fun e => by have := (hrow.lt k e.symm).1; omega)).trans (Below.heap_alloc W tmp k (by omega))⟩
theorem bne_run (a : Bool) (w : World) : (binOp .neq 4 (.bool a) (.bool a)).run Try.prog w = .ok (.bool false) w := by
  have h := run_equal_bool (P := Try.prog) w 4 a a Try.underlying4
  simp only [binOp]
  simp [h]
theorem pl_int (xs ys : List Int) (k i : Nat) (h : i < (pl xs ys k).length) : ∃ z : Int, (pl xs ys k)[i] = .int .i64 z := by
  simp [pl]
set_option maxRecDepth 1000000 in
set_option maxHeartbeats 16000000 in
theorem arenaCopies_ne (b off c b2 off2 c2 : Nat) (xs ys : List Int) (xk xp xo xn : Int) (w : World) (hx : Ws w b off xs) (hi : InW xs) (h1 : 1 ≤ xs.length) (h2 : xs.length ≤ 100) (hy : Ws w b2 off2 ys) (hj : InW ys) (k1 : 1 ≤ ys.length) (k2 : ys.length ≤ 100) (n0 : 0 ≤ xn) (n1 : xn ≤ 18446744073709551615) (hne : xs.length ≠ ys.length) :
    Calls Try.prog 7 #[.slice (some ⟨b, off, none⟩) xs.length c, .slice (some ⟨b2, off2, none⟩) ys.length c2, acc xk xp xo xn] w fun e w' => e = .returned (.bool true) ∧ Below w.heap.size w w' := by
  have h2' : (xs.length : Int) ≤ 100 := by omega
  have k2' : (ys.length : Int) ≤ 100 := by omega
  have e1 : (made (w.alloc (.cells #[.int .i64 xk, .int .i64 xp, .int .u64 xo, .int .u64 xn] 30)) xs).heap.size = w.heap.size + 1 + 1 + 1 := by rw [made_size, size_alloc]
  have co1 := Of_yes b off c xs (w.alloc (.cells #[.int .i64 xk, .int .i64 xp, .int .u64 xo, .int .u64 xn] 30)) (hx.below (below_alloc0 w _)) h1 (by omega)
  have co2 := Of_yes b2 off2 c2 ys (made (w.alloc (.cells #[.int .i64 xk, .int .i64 xp, .int .u64 xo, .int .u64 xn] 30)) xs) (hy.below (bel1 (made_below (w.alloc (.cells #[.int .i64 xk, .int .i64 xp, .int .u64 xo, .int .u64 xn] 30)) xs))) k1 (by omega)
  have hS := cpS_start w b off b2 off2 xs ys xk xp xo xn hx hi h1 (by omega) hy hj k1 (by omega)
  rw [e1] at co2
  rw [size_alloc] at co1
  generalize made (w.alloc (.cells #[.int .i64 xk, .int .i64 xp, .int .u64 xo, .int .u64 xn] 30)) xs = w1 at *
  generalize made w1 ys = w2 at *
  have HS := hid hS
  clear hS hx hy hi hj e1
  have hnb : ((xs.length : Int) == (ys.length : Int)) = false := by simp; omega
  go_enter Try.func7, Try.ntmps7
  go_wp2_with (go_at_call 14; refine co1.mono ?_)
  rintro e w' ⟨rfl, hw⟩; rw [hw]; clear hw w'
  go_wp2_with (go_at_call 14; refine co2.mono ?_)
  rintro e w' ⟨rfl, hw⟩; rw [hw]; clear hw w'
  go_wp2_with (go_at_call 10; refine (anum_any _ _).mono ?_; rintro e w' ⟨rfl, hw⟩; rw [hw]; clear hw)
  clear co1 co2
  go_loopw [11, 12] (fun v i wr => v = .slice none 0 0 ∧ i = .int .i64 0 ∧ wr = w2) (fun _ _ _ => 0)
  case atStart => exact ⟨rfl, rfl, rfl⟩
  case round =>
    obtain ⟨rfl, rfl, rfl⟩ := hrel
    have h0' : 0 < (xs.length : Int) := by omega
    go_wp2_with (go_at_call 24; refine (Unlike_no _ _ _ _ _ _ _ _ _ HS.out.a.faces HS.out.c.faces hne).mono ?_)
    rintro e w' ⟨rfl, hw⟩; rw [hw]; clear hw w'
    go_wp2_with (go_at_call 25; refine (Same_no _ _ _ _ _ _ _ _ _ HS.out.a.faces HS.out.c.faces hne).mono ?_)
    rintro e w' ⟨rfl, hw⟩; rw [hw]; clear hw w'
    go_wp2_with (go_at_call 26; refine (rSame_no _ _ _ _ _ _ _ hne).mono ?_)
    rintro e w' ⟨rfl, hw⟩; rw [hw]; clear hw w'
    go_wp2_with (go_at_call 25; refine (Same_yes _ _ _ _ xs xs true _ HS.out.a HS.out.a rfl (hid (by rw [pl_same]; rfl))).mono ?_)
    rintro e w5 ⟨rfl, b5⟩
    have H5' := hid (HS.out.below b5)
    clear b5
    go_wp2
    go_loopw [14] (fun i wr => i = .int .i64 0 ∧ wr = w5) (fun _ _ => 0)
    case atStart => exact ⟨rfl, rfl⟩
    case round =>
      obtain ⟨rfl, rfl⟩ := hrel
      have H5 := hid (H5'.out)
      go_wp2_with (go_at_call 27; refine (Copy_at _ _ xs _ H5.out.a).mono ?_)
      rintro e w' ⟨rfl, hw⟩; rw [hw]; clear hw w'
      have ac := hid (made_ar wr xs H5.out.a.bnd H5.out.a.pos H5.out.a.le)
      have H6 := hid (H5.out.below (made_below wr xs))
      have Z6 := hid (made_size wr xs)
      revert ac H6 Z6
      generalize made wr xs = w6
      intro ac H6 Z6
      go_wp2_with (go_at_call 25; refine (Same_yes _ _ _ _ xs xs true _ H6.out.a ac.out rfl (hid (by rw [pl_same]; rfl))).mono ?_)
      rintro e w7 ⟨rfl, b7⟩
      have H7 := hid (H6.out.below b7)
      have ac7 := hid (ac.out.below b7)
      obtain ⟨zs, an, er, HD⟩ : ∃ zs an er, Hid (dof xs xk xp xo xn = (zs, an, er)) := ⟨_, _, _, hid rfl⟩
      have x0 := at_row H7.out.x 0 rfl
      have x1 := at_row H7.out.x 1 rfl
      have x2 := at_row H7.out.x 2 rfl
      have x3 := at_row H7.out.x 3 rfl
      clear b7
      go_wp2_with (go_at_call 16; refine (Do_at _ _ xs zs xk xp xo xn an er _ ac7.out n0 n1 HD).mono ?_)
      rintro e w8 ⟨rfl, ac8, g8⟩
      clear x0 x1 x2 x3
      have H8 := hid (H7.out.grown g8 H5.out.a.ltA H5.out.a.ltB H5.out.c.ltA H5.out.c.ltB H5.out.blt.1 H5.out.blt.2.1 H5.out.blt.2.2)
      have HC8 := hid ac8
      have x0 := at_row H8.out.x 0 rfl
      have x1 := at_row H8.out.x 1 rfl
      have x2 := at_row H8.out.x 2 rfl
      have x3 := at_row H8.out.x 3 rfl
      clear g8 ac8
      go_wp2_with (go_at_call 17; refine (rDo_at b off c xs zs xk xp xo xn an er _ H8.out.l H8.out.a.pos H8.out.a.le HD).mono ?_)
      rintro e w9 ⟨b9, off9, c9, rfl, hw9, hb9, bl9⟩
      clear x0 x1 x2 x3
      have H9 := hid (H8.out.below bl9)
      have HC9 := hid (HC8.out.below bl9)
      have HW9 := hid hw9
      clear hb9 bl9 hw9
      go_wp2_with (go_at_call 15; refine (has_at _ _ b off c xs _ H9.out.a H9.out.l).mono ?_)
      rintro e w10 ⟨rfl, b10⟩
      go_wp2_with (go_at_call 15; refine (has_at _ _ b9 off9 c9 zs _ (HC9.out.below b10) (HW9.out.below b10)).mono ?_)
      rintro e w11 ⟨rfl, b11⟩
      go_wp2_with (go_at_call 9; refine (aworks_any _).mono ?_; rintro e w12 ⟨rfl, b12⟩)
      go_ret
      have t := b10.trans ((b11.trans (b12.mono b11.size)).mono b10.size)
      exact ⟨rfl, H9.out.bel.trans (t.mono H9.out.bel.size)⟩
set_option maxRecDepth 1000000 in
set_option maxHeartbeats 16000000 in
theorem arenaCopies_eq (b off c b2 off2 c2 : Nat) (xs ys : List Int) (xk xp xo xn : Int) (w : World) (hx : Ws w b off xs) (hi : InW xs) (h1 : 1 ≤ xs.length) (h2 : xs.length ≤ 100) (hy : Ws w b2 off2 ys) (hj : InW ys) (k1 : 1 ≤ ys.length) (k2 : ys.length ≤ 100) (n0 : 0 ≤ xn) (n1 : xn ≤ 18446744073709551615) (hl : ys.length = xs.length) :
    Calls Try.prog 7 #[.slice (some ⟨b, off, none⟩) xs.length c, .slice (some ⟨b2, off2, none⟩) xs.length c2, acc xk xp xo xn] w fun e w' => e = .returned (.bool true) ∧ Below w.heap.size w w' := by
  have h2' : (xs.length : Int) ≤ 100 := by omega
  have e1 : (made (w.alloc (.cells #[.int .i64 xk, .int .i64 xp, .int .u64 xo, .int .u64 xn] 30)) xs).heap.size = w.heap.size + 1 + 1 + 1 := by rw [made_size, size_alloc]
  have co1 := Of_yes b off c xs (w.alloc (.cells #[.int .i64 xk, .int .i64 xp, .int .u64 xo, .int .u64 xn] 30)) (hx.below (below_alloc0 w _)) h1 (by omega)
  have co2 := Of_yes b2 off2 c2 ys (made (w.alloc (.cells #[.int .i64 xk, .int .i64 xp, .int .u64 xo, .int .u64 xn] 30)) xs) (hy.below (bel1 (made_below (w.alloc (.cells #[.int .i64 xk, .int .i64 xp, .int .u64 xo, .int .u64 xn] 30)) xs))) k1 (by omega)
  have hS := cpS_start w b off b2 off2 xs ys xk xp xo xn hx hi h1 (by omega) hy hj k1 (by omega)
  rw [e1] at co2
  rw [size_alloc] at co1
  rw [hl] at co2
  generalize made (w.alloc (.cells #[.int .i64 xk, .int .i64 xp, .int .u64 xo, .int .u64 xn] 30)) xs = w1 at *
  generalize made w1 ys = w2 at *
  have HS := hid hS
  clear hS hx hy hi hj e1
  obtain ⟨i0, hi0, hz0, hz1, hz2⟩ := info_parts info_int
  have hee : ((xs.length : Int) == (xs.length : Int)) = true := by simp
  go_enter Try.func7, Try.ntmps7
  go_wp2_with (go_at_call 14; refine co1.mono ?_)
  rintro e w' ⟨rfl, hw⟩; rw [hw]; clear hw w'
  go_wp2_with (go_at_call 14; refine co2.mono ?_)
  rintro e w' ⟨rfl, hw⟩; rw [hw]; clear hw w'
  go_wp2_with (go_at_call 10; refine (anum_any _ _).mono ?_; rintro e w' ⟨rfl, hw⟩; rw [hw]; clear hw)
  clear co1 co2
  go_loopw [11, 12] (fun v i wr => ∃ (k : Nat) (a : Option Addr) (m cv : Nat), k ≤ xs.length ∧ i = .int .i64 k ∧ v = .slice a m cv ∧ Hid (m = (pl xs ys k).length) ∧ Hid (wr.ownsRow w2.heap.size 3 1 (.slice a m cv) m (pl xs ys k)) ∧ Hid (Below w2.heap.size w2 wr)) (fun _ i _ => xs.length - (intOf i).toNat)
  case atStart => exact ⟨0, none, 0, 0, Nat.zero_le _, rfl, rfl, hid rfl, hid (World.ownsRow_nil _ _ _ _), hid (Below.refl _ _)⟩
  case round =>
    obtain ⟨k, av, m, cv, hk, rfl, rfl, HM, HO, HB⟩ := hrel
    by_cases hlt : k < xs.length
    · have hlt' : (k : Int) < xs.length := by omega
      have hc1 := (HS.out.below HB.out).l k hlt
      have hc2 := (HS.out.below HB.out).m k (by omega)
      have hm1 := pl_le xs ys k
      rw [← HM.out] at hm1
      by_cases hd : dif xs ys k = true
      · have hnq : (wat xs k != wat ys k) = true := hd
        have HT := hid (pl_hit hd)
        clear hd
        generalize wat xs k = p1 at *
        generalize wat ys k = p2 at *
        generalize hvs : pl xs ys k = vs at *
        clear hvs
        go_wp2
        go_quiet (fail)
        go_wp2_with (at_builtin; refine wpList_append_own _ rfl _ _ 51 rfl w2.heap.size 3 i0 (.int .i64 0) 1 8 Try.underlying51 hi0 hz0 hz1 hz2 rfl (by decide) (.slice av m cv) m vs rfl (World.ownsRow.alloc (HO.out.kept (row := none) ⟨rfl, rfl, rfl, Nat.le_refl _, fun _ _ _ => rfl⟩ (by cases av <;> simp [Value.ownBlock])) (.cells #[.int .i64 (k : Int)] 3)) ⟨wr.heap.size, 0, none⟩ 1 1 [.int .i64 (k : Int)] rfl rfl (cell_one_new _ _ _) (by simp [Value.oneCell']) (by unfold maxLen; omega) (by omega) (by have := HB.out.size; simp [World.drewN]; omega) ?_; intro v' w3 hown' hgrow _; obtain ⟨g', cap', rfl⟩ := ownsRow_succ hown')
        go_roundw
        case rel => exact ⟨k + 1, some ⟨g', 0, none⟩, m + 1, cap', by omega, by go_num, rfl, hid (by rw [HT.out, HM.out]; simp), hid (by rw [HT.out]; exact hown'), hid ((bdrewN HB.out nq).trans (own_below (HO.out.kept (w' := wr.drewN nq) (row := none) ⟨rfl, rfl, rfl, Nat.le_refl _, fun _ _ _ => rfl⟩ (by cases av <;> simp [Value.ownBlock])) HB.out.size hgrow))⟩
        case measure => simp [intOf]; omega
      · have hd' : dif xs ys k = false := by simpa using hd
        have hnq : (wat xs k != wat ys k) = false := hd'
        have HT := hid (pl_miss hd')
        clear hd hd'
        generalize wat xs k = p1 at *
        generalize wat ys k = p2 at *
        go_wp2
        go_quiet (fail)
        go_wp2
        go_roundw
        case rel => exact ⟨k + 1, av, m, cv, by omega, by go_num, rfl, hid (by rw [HT.out]; exact HM.out), hid (by rw [HT.out]; exact HO.out), hid (bdrewN HB.out _)⟩
        case measure => simp [intOf]; omega
    · obtain rfl : k = xs.length := by omega
      obtain ⟨r, HR⟩ : ∃ r, Hid (((pl xs ys xs.length).length == 0) = r) := ⟨_, hid rfl⟩
      have hbb := bne_run r
      have HS3 := hid (HS.out.below HB.out)
      have hmm : ((m : Int) != (m : Int)) = false := by simp
      have hm1 := pl_le xs ys xs.length
      rw [← HM.out] at hm1
      have hm2 : (m : Int) ≤ 100 := by omega
      go_wp2_with (go_at_call 24; refine (Unlike_yes _ _ _ _ xs ys _ HS3.out.a HS3.out.c hl).mono ?_)
      rintro e w3 ⟨a3, m3, c3, rfl, hm3, ho3, b3⟩
      obtain rfl : m3 = m := by rw [hm3, HM.out]
      have HO3 := hid ho3
      have H3 := hid (HS3.out.below b3)
      have HW3 := hid (own_blw HO.out b3)
      clear hm3 ho3 b3
      go_wp2_with (go_at_call 25; refine (Same_yes _ _ _ _ xs ys r _ H3.out.a H3.out.c hl HR).mono ?_)
      rintro e w4 ⟨rfl, b4⟩
      have H4 := hid (H3.out.below b4)
      have HO4 := hid (own_blw HO3.out b4)
      have HW4 := hid (own_blw HW3.out b4)
      clear b4
      go_wp2_with (go_at_call 26; refine (rSame_yes b off c b2 off2 c2 xs ys r _ H4.out.l H4.out.m hl H4.out.a.le HR).mono ?_)
      rintro e w41 ⟨rfl, b4⟩
      have H41 := hid (H4.out.below b4)
      have HO41 := hid (own_blw HO4.out b4)
      have HW41 := hid (own_blw HW4.out b4)
      clear b4
      go_wp2_with (go_at_call 25; refine (Same_yes _ _ _ _ xs xs true _ H41.out.a H41.out.a rfl (hid (by rw [pl_same]; rfl))).mono ?_)
      rintro e w5 ⟨rfl, b5⟩
      have H5' := hid (H41.out.below b5)
      have HO5 := hid (own_blw HO41.out b5)
      have HW5 := hid (own_blw HW41.out b5)
      clear b5 hbb HR HS3 H3 H4 H41 HO3 HW3 HO4 HW4 HO41 HW41 HO HB HS
      generalize wr.heap.size = bq at *
      generalize w2.heap.size = bq2 at *
      go_wp2
      go_loopw [14] (fun i wr => ∃ k : Nat, k ≤ m3 ∧ i = .int .i64 k ∧ Hid (Below w5.heap.size w5 wr)) (fun i _ => m3 - (intOf i).toNat)
      case atStart => exact ⟨0, Nat.zero_le _, rfl, hid (Below.refl _ _)⟩
      case round =>
        obtain ⟨k, hk, rfl, HB⟩ := hrel
        by_cases hlt : k < m3
        · have hlt' : (k : Int) < m3 := by omega
          obtain ⟨g1, rfl, hv1, hc1⟩ := own_cell (own_blw HO5.out HB.out) k hlt
          obtain ⟨g2, rfl, hv2, hc2⟩ := own_cell (own_blw HW5.out HB.out) k hlt
          obtain ⟨z, hz⟩ := pl_int xs ys xs.length k hv1
          rw [hz] at hc1 hc2
          clear hz hv1 hv2
          have hzz : (z != z) = false := by simp
          go_wp2
          go_quiet (fail)
          go_wp2
          go_roundw
          case rel => exact ⟨k + 1, by omega, by go_num, hid (bdrewN HB.out _)⟩
          case measure => simp [intOf]; omega
        · obtain rfl : k = m3 := by omega
          have hll : ((k : Int) < (k : Int)) = False := by simp
          have H5 := hid (H5'.out.below HB.out)
          go_wp2_with (go_at_call 27; refine (Copy_at _ _ xs _ H5.out.a).mono ?_)
          rintro e w' ⟨rfl, hw⟩; rw [hw]; clear hw w'
          have ac := hid (made_ar wr xs H5.out.a.bnd H5.out.a.pos H5.out.a.le)
          have H6 := hid (H5.out.below (made_below wr xs))
          have Z6 := hid (made_size wr xs)
          revert ac H6 Z6
          generalize made wr xs = w6
          intro ac H6 Z6
          go_wp2_with (go_at_call 25; refine (Same_yes _ _ _ _ xs xs true _ H6.out.a ac.out rfl (hid (by rw [pl_same]; rfl))).mono ?_)
          rintro e w7 ⟨rfl, b7⟩
          have H7 := hid (H6.out.below b7)
          have ac7 := hid (ac.out.below b7)
          obtain ⟨zs, an, er, HD⟩ : ∃ zs an er, Hid (dof xs xk xp xo xn = (zs, an, er)) := ⟨_, _, _, hid rfl⟩
          have x0 := at_row H7.out.x 0 rfl
          have x1 := at_row H7.out.x 1 rfl
          have x2 := at_row H7.out.x 2 rfl
          have x3 := at_row H7.out.x 3 rfl
          clear b7
          go_wp2_with (go_at_call 16; refine (Do_at _ _ xs zs xk xp xo xn an er _ ac7.out n0 n1 HD).mono ?_)
          rintro e w8 ⟨rfl, ac8, g8⟩
          clear x0 x1 x2 x3
          have H8 := hid (H7.out.grown g8 H5.out.a.ltA H5.out.a.ltB H5.out.c.ltA H5.out.c.ltB H5.out.blt.1 H5.out.blt.2.1 H5.out.blt.2.2)
          have HC8 := hid ac8
          have x0 := at_row H8.out.x 0 rfl
          have x1 := at_row H8.out.x 1 rfl
          have x2 := at_row H8.out.x 2 rfl
          have x3 := at_row H8.out.x 3 rfl
          clear g8 ac8
          go_wp2_with (go_at_call 17; refine (rDo_at b off c xs zs xk xp xo xn an er _ H8.out.l H8.out.a.pos H8.out.a.le HD).mono ?_)
          rintro e w9 ⟨b9, off9, c9, rfl, hw9, hb9, bl9⟩
          clear x0 x1 x2 x3
          have H9 := hid (H8.out.below bl9)
          have HC9 := hid (HC8.out.below bl9)
          have HW9 := hid hw9
          clear hb9 bl9 hw9
          go_wp2_with (go_at_call 15; refine (has_at _ _ b off c xs _ H9.out.a H9.out.l).mono ?_)
          rintro e w10 ⟨rfl, b10⟩
          go_wp2_with (go_at_call 15; refine (has_at _ _ b9 off9 c9 zs _ (HC9.out.below b10) (HW9.out.below b10)).mono ?_)
          rintro e w11 ⟨rfl, b11⟩
          go_wp2_with (go_at_call 9; refine (aworks_any _).mono ?_; rintro e w12 ⟨rfl, b12⟩)
          go_ret
          have t := b10.trans ((b11.trans (b12.mono b11.size)).mono b10.size)
          exact ⟨rfl, H9.out.bel.trans (t.mono H9.out.bel.size)⟩
theorem IsWs.below {W W' : World} {a : Option Addr} {n : Nat} (h : IsWs W a n) (k : Below W.heap.size W W') : IsWs W' a n := by
  rcases h with h | ⟨b, off, xs, h1, h2, h3, h4⟩
  · exact .inl h
  · exact .inr ⟨b, off, xs, h1, h2, h3.below k, h4⟩
theorem Of_any (a : Option Addr) (n c : Nat) (w : World) (h : IsWs w a n) (er : Int) (he : er = if 1 ≤ n ∧ n ≤ 16384 then 0 else 2) : Calls Try.prog 14 #[.slice a n c] w fun e w' => ∃ q, e = .returned (.tuple #[.pointer q, .int .i64 er]) ∧ Below w.heap.size w w' := by
  by_cases hf : 1 ≤ n ∧ n ≤ 16384
  · rw [if_pos hf] at he
    subst he
    rcases h with rfl | ⟨b, off, xs, rfl, rfl, hx, hi⟩
    · omega
    · refine (Of_yes b off c xs w hx hf.1 hf.2).mono ?_
      rintro e w' ⟨rfl, rfl⟩
      exact ⟨_, rfl, made_below w xs⟩
  · rw [if_neg hf] at he
    subst he
    refine (Of_no a n c w (by omega)).mono ?_
    rintro e w' ⟨rfl, rfl⟩
    exact ⟨_, rfl, Below.refl _ _⟩
set_option maxRecDepth 1000000 in
set_option maxHeartbeats 4000000 in
theorem arenaCopies_out (a1 a2 : Option Addr) (n1 n2 c1 c2 : Nat) (xk xp xo xn : Int) (w : World) (hw1 : IsWs w a1 n1) (hw2 : IsWs w a2 n2) (ho : 100 < n1 ∨ (n1 ≤ 100 ∧ 100 < n2) ∨ (n1 ≤ 100 ∧ n2 ≤ 100 ∧ (n1 = 0 ∨ n2 = 0))) :
    Calls Try.prog 7 #[.slice a1 n1 c1, .slice a2 n2 c2, acc xk xp xo xn] w fun e w' => e = .returned (.bool true) ∧ Below w.heap.size w w' := by
  obtain ⟨r1, hr1⟩ : ∃ r : Int, r = if 1 ≤ n1 ∧ n1 ≤ 16384 then 0 else 2 := ⟨_, rfl⟩
  obtain ⟨r2, hr2⟩ : ∃ r : Int, r = if 1 ≤ n2 ∧ n2 ≤ 16384 then 0 else 2 := ⟨_, rfl⟩
  have co1 := Of_any a1 n1 c1 (w.alloc (.cells #[.int .i64 xk, .int .i64 xp, .int .u64 xo, .int .u64 xn] 30)) (hw1.below (below_alloc0 w _)) r1 hr1
  have co2 := fun (W : World) (bw : Below w.heap.size w W) => Of_any a2 n2 c2 W (hw2.below bw) r2 hr2
  have hb1 : r1 = 0 ∨ r1 = 2 := by rw [hr1]; split <;> simp
  have hb2 : r2 = 0 ∨ r2 = 2 := by rw [hr2]; split <;> simp
  rcases ho with ho | ⟨ho1, ho⟩ | ⟨ho1, ho2, ho⟩
  · have hl : 100 < (n1 : Int) := by omega
    have HB1 := hid hb1
    have HB2 := hid hb2
    clear hr1 hr2 hb1 hb2 ho
    go_enter Try.func7, Try.ntmps7
    go_wp2_with (go_at_call 14; refine co1.mono ?_)
    rintro e w1 ⟨q1, rfl, b1⟩
    have c2' := co2 w1 (bel1 b1)
    go_wp2_with (go_at_call 14; refine c2'.mono ?_)
    rintro e w2 ⟨q2, rfl, b2⟩
    go_wp2_with (go_at_call 9; refine (aworks_any _).mono ?_; rintro e w3 ⟨rfl, b3⟩)
    go_ret
    exact ⟨rfl, (bel1 b1).trans ((b2.trans (b3.mono b2.size)).mono (bel1 b1).size)⟩
  · have hl1 : (n1 : Int) ≤ 100 := by omega
    have hl : 100 < (n2 : Int) := by omega
    have HB1 := hid hb1
    have HB2 := hid hb2
    clear hr1 hr2 hb1 hb2 ho ho1
    go_enter Try.func7, Try.ntmps7
    go_wp2_with (go_at_call 14; refine co1.mono ?_)
    rintro e w1 ⟨q1, rfl, b1⟩
    have c2' := co2 w1 (bel1 b1)
    go_wp2_with (go_at_call 14; refine c2'.mono ?_)
    rintro e w2 ⟨q2, rfl, b2⟩
    go_wp2_with (go_at_call 9; refine (aworks_any _).mono ?_; rintro e w3 ⟨rfl, b3⟩)
    go_ret
    exact ⟨rfl, (bel1 b1).trans ((b2.trans (b3.mono b2.size)).mono (bel1 b1).size)⟩
  · have hl1 : (n1 : Int) ≤ 100 := by omega
    have hl : (n2 : Int) ≤ 100 := by omega
    have hs : (r1 + r2 != 0) = true := by
      have hz : r1 = 2 ∨ r2 = 2 := by
        rcases ho with h | h
        · left; rw [hr1, if_neg (by omega)]
        · right; rw [hr2, if_neg (by omega)]
      rw [bne_iff_ne]; omega
    have q1a : 0 ≤ r1 := by omega
    have q1b : r1 ≤ 2 := by omega
    have q2a : 0 ≤ r2 := by omega
    have q2b : r2 ≤ 2 := by omega
    clear hr1 hr2 hb1 hb2 ho ho1 ho2
    go_enter Try.func7, Try.ntmps7
    go_wp2_with (go_at_call 14; refine co1.mono ?_)
    rintro e w1 ⟨q1, rfl, b1⟩
    have c2' := co2 w1 (bel1 b1)
    go_wp2_with (go_at_call 14; refine c2'.mono ?_)
    rintro e w2 ⟨q2, rfl, b2⟩
    go_wp2_with (first | (go_at_call 10; refine (anum_any _ _).mono ?_; rintro e w' ⟨rfl, hw⟩; rw [hw]; clear hw) | (go_at_call 9; refine (aworks_any _).mono ?_; rintro e w3 ⟨rfl, b3⟩))
    go_ret
    exact ⟨rfl, (bel1 b1).trans ((b2.trans (b3.mono b2.size)).mono (bel1 b1).size)⟩
theorem arenaCopies_walk (a1 a2 : Option Addr) (n1 n2 c1 c2 : Nat) (xk xp xo xn : Int) (w : World) (hw1 : IsWs w a1 n1) (hw2 : IsWs w a2 n2) (x0 : 0 ≤ xn) (x1 : xn ≤ 18446744073709551615) :
    Calls Try.prog 7 #[.slice a1 n1 c1, .slice a2 n2 c2, acc xk xp xo xn] w fun e w' => e = .returned (.bool true) ∧ Below w.heap.size w w' := by
  by_cases ho : 100 < n1 ∨ (n1 ≤ 100 ∧ 100 < n2) ∨ (n1 ≤ 100 ∧ n2 ≤ 100 ∧ (n1 = 0 ∨ n2 = 0))
  · exact arenaCopies_out a1 a2 n1 n2 c1 c2 xk xp xo xn w hw1 hw2 ho
  · rcases hw1 with rfl | ⟨b, off, xs, rfl, rfl, hx, hi⟩
    · omega
    rcases hw2 with rfl | ⟨b2, off2, ys, rfl, rfl, hy, hj⟩
    · omega
    by_cases hl : ys.length = xs.length
    · have := arenaCopies_eq b off c1 b2 off2 c2 xs ys xk xp xo xn w hx hi (by omega) (by omega) hy hj (by omega) (by omega) x0 x1 hl
      rwa [← hl] at this ⊢
    · exact arenaCopies_ne b off c1 b2 off2 c2 xs ys xk xp xo xn w hx hi (by omega) (by omega) hy hj (by omega) (by omega) x0 x1 (by omega)
end Go.Proofs.Ytlmkbnebpaopeaa
