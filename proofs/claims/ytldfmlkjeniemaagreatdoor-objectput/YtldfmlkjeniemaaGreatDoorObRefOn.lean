/- The document's functions of layer 7 (lapidaryref07): Right, Size, Stands. -/
import Derived.Test.YtldfmlkjeniemaaGreatDoorObBoxOn
import Derived.Test.YtldfmlkjeniemaaGreatDoorLyRefOn
import Derived.Test.YtldfmlkjeniemaaGreatDoorHdTopOn
set_option linter.unusedVariables false
namespace Go.Proofs.YtldfmlkjeniemaaGreatDoor
open Go.RowKit Go.Ly Go.Hd Go.Sh Go.Ob Go.Sort
set_option maxRecDepth 100000 in
set_option maxHeartbeats 2000000 in
theorem oRight_at (t s : Int) (a : Option Addr) (n c : Nat) (ss : List ByteArray) (la : Option Addr) (N lc : Nat) (Z : Int) (r : Bool) (w : World) (hT : IsTab w (.slice a n c) ss) (hg : rgt t s ss = true) (hZ : 3 + t + t + 2 * s = Z) (hr : ((N : Int) == Z) = r) :
    Calls Tryz.prog 36 #[.slice la N lc, planV t s a n c] w fun e w' => e = .returned (.bool r) ∧ Below w.heap.size w w' := by
  obtain ⟨t0, t1, s0, s1, _⟩ := rgt_yes hg
  have bw := below_alloc0 w (plO t s a n c)
  have cr := rgt6_at t s a n c ss _ true (hT.below (Nat.le_refl _) bw) (hid hg)
  have cs := fun W => rSize6 t s a n c W t0 t1 s0 s1
  rw [hZ] at cs
  clear hT hg hZ
  go_enter Tryz.func36, Tryz.ntmps36
  go_wp2_with (go_at_call 16; refine cr.mono ?_)
  rintro e w1 ⟨rfl, b1⟩
  have R1 := row1 b1
  have d0 := at_row R1 0 rfl
  have d1 := at_row R1 1 rfl
  have d2 := at_row R1 2 rfl
  have B1 := hid (bel1 b1)
  clear b1 R1 cr bw
  go_wp2_with (go_at_call 17; refine (cs _).mono ?_; rintro e w2 ⟨rfl, b2⟩)
  go_ret
  exact ⟨rfl, B1.out.trans (b2.mono B1.out.size)⟩
set_option maxRecDepth 100000 in
set_option maxHeartbeats 4000000 in
theorem oSize_err (t s : Int) (a : Option Addr) (n c : Nat) (ss : List ByteArray) (b off lc : Nat) (xs : List Int) (q : Nat) (z er : Int) (w : World) (hT : IsTab w (.slice a n c) ss) (hx : Ws w b off xs) (hi : InW xs) (hq : q < xs.length) (hl : xs.length ≤ 9000) (hz : Hid (szH (wat xs q) ss = (z, er))) (he : (er != 0) = true) :
    Calls Tryz.prog 29 #[.slice (some ⟨b, off, none⟩) xs.length lc, planV t s a n c, .int .i64 (q : Int)] w fun e w' => e = .returned (.int .i64 0) ∧ Below w.heap.size w w' := by
  have hb := hi.get q
  have bw := below_alloc0 w (plO t s a n c)
  have cs := fun d os => Calls.regrown_of (rhSize_at (wat xs q) (.slice a n c) ss z er (grow (redrawn (w.alloc (plO t s a n c)) d) os) hb.1 hb.2 (hT.below (Nat.le_refl _) (bw.trans ((below_regrown _ d os).mono bw.size))) hz.out)
  have c2 := cell_regrown (cell_last w (#[.int .i64 t, .int .i64 s, .slice a n c]) 24 2 _ rfl)
  have cq := cell_regrown (hcell_below (hx q hq) bw)
  have hql : (q : Int) < (xs.length : Int) := by omega
  have hq0 : (0 : Int) ≤ (q : Int) := by omega
  generalize wat xs q = x at *
  clear hT hx hi hz hb
  go_enter Tryz.func29, Tryz.ntmps29
  go_wp2_with fail
  generalize w.alloc (plO t s a n c) = W at *
  have hzW := bw.size
  refine wp_region_quiet_below (by kernel_rfl) (by kernel_rfl) ?_
  repeat (go_big_quiet_step ((first | (go_at_call 58; exact cs _ _))))
  refine wpQuiet_nil ?_
  intro _ hw'
  obtain ⟨⟨dq, osq⟩, hw''⟩ := hw'
  subst hw''
  have B1 := hid (bw.trans ((below_regrown W dq osq).mono hzW))
  clear c2 cq cs
  generalize grow (redrawn W dq) osq = W1 at *
  go_wp2_with fail
  refine wp_region_quiet_below (by kernel_rfl) (by kernel_rfl) ?_
  repeat (go_big_quiet_step (fail))
  refine wpQuiet_nil ?_
  intro _ hw'
  obtain ⟨⟨dq2, osq2⟩, hw''⟩ := hw'
  subst hw''
  go_wp2
  go_ret
  exact ⟨rfl, B1.out.trans ((below_regrown W1 dq2 osq2).mono B1.out.size)⟩
set_option maxRecDepth 100000 in
set_option maxHeartbeats 4000000 in
theorem oSize_ok (t s : Int) (a : Option Addr) (n c : Nat) (ss : List ByteArray) (b off lc : Nat) (xs : List Int) (q : Nat) (z : Int) (r : Bool) (w : World) (hT : IsTab w (.slice a n c) ss) (hg : rgt t s ss = true) (hx : Ws w b off xs) (hi : InW xs) (hq : q < xs.length) (hl : xs.length ≤ 9000) (hp : 3 + t + t ≤ (q : Int)) (hz : Hid (szH (wat xs q) ss = (z, 0))) (z2 : 2 ≤ z) (z9 : z ≤ 10)
    (hr : Hid (decide (s < ((q : Int) - (3 + t + t)) % s + z) = r)) :
    Calls Tryz.prog 29 #[.slice (some ⟨b, off, none⟩) xs.length lc, planV t s a n c, .int .i64 (q : Int)] w fun e w' => e = .returned (.int .i64 (cond r 0 z)) ∧ Below w.heap.size w w' := by
  obtain ⟨t0, t1, s0, s1, _⟩ := rgt_yes hg
  have hb := hi.get q
  have bw := below_alloc0 w (plO t s a n c)
  have cs := fun d os => Calls.regrown_of (rhSize_at (wat xs q) (.slice a n c) ss z 0 (grow (redrawn (w.alloc (plO t s a n c)) d) os) hb.1 hb.2 (hT.below (Nat.le_refl _) (bw.trans ((below_regrown _ d os).mono bw.size))) hz.out)
  have c2 := cell_regrown (cell_last w (#[.int .i64 t, .int .i64 s, .slice a n c]) 24 2 _ rfl)
  have cq := cell_regrown (hcell_below (hx q hq) bw)
  have hql : (q : Int) < (xs.length : Int) := by omega
  have hq0 : (0 : Int) ≤ (q : Int) := by omega
  have hq9 : (q : Int) ≤ 20000 := by omega
  have RW : (w.alloc (plO t s a n c)).heap[w.heap.size]? = some (plO t s a n c) := heap_alloc_last w _
  generalize wat xs q = x at *
  clear hT hx hi hz hb hg
  go_enter Tryz.func29, Tryz.ntmps29
  go_wp2_with fail
  generalize w.alloc (plO t s a n c) = W at *
  have hzW := bw.size
  refine wp_region_quiet_below (by kernel_rfl) (by kernel_rfl) ?_
  repeat (go_big_quiet_step ((first | (go_at_call 58; exact cs _ _))))
  refine wpQuiet_nil ?_
  intro _ hw'
  obtain ⟨⟨dq, osq⟩, hw''⟩ := hw'
  subst hw''
  have B1 := hid (bw.trans ((below_regrown W dq osq).mono hzW))
  have RW1 := row_below RW (below_regrown W dq osq)
  clear c2 cq cs RW
  generalize grow (redrawn W dq) osq = W1 at *
  have c0 := cell_regrown (at_row RW1 0 rfl)
  have c1 := cell_regrown (at_row RW1 1 rfl)
  have c2 := cell_regrown (at_row RW1 2 rfl)
  have cb : ∀ d os, Calls Tryz.prog 39 #[planV t s a n c, .int .i64 0] (grow (redrawn W1 d) os) fun e w'' => e = .returned (.int .i64 (3 + t + t)) ∧ ∃ p : Regrown, w'' = grow (redrawn W1 p.d) p.os := fun d os => Calls.regrown_of (rBase6_0 t s a n c _ t0 t1 s0 s1)
  have sne : (s == 0) = false := by rw [beq_eq_false_iff_ne]; omega
  have sz : ¬ s = 0 := by omega
  have B0 : 0 ≤ 3 + t + t := by omega
  have B9 : 3 + t + t ≤ 20 := by omega
  generalize 3 + t + t = bb at *
  have o0 : 0 ≤ ((q : Int) - bb) % s := Int.emod_nonneg _ (by omega)
  have o9 : ((q : Int) - bb) % s < s := Int.emod_lt_of_pos _ (by omega)
  have HW : Hid (wrap64 (((q : Int) - bb) % s + z) = ((q : Int) - bb) % s + z) := hid (by unfold wrap64; omega)
  clear o0 o9
  go_wp2_with fail
  refine wp_region_quiet_below (by kernel_rfl) (by kernel_rfl) ?_
  repeat (go_big_quiet_step ((first | (go_at_call 39; exact cb _ _))))
  refine wpQuiet_nil ?_
  intro _ hw'
  obtain ⟨⟨dq2, osq2⟩, hw''⟩ := hw'
  subst hw''
  rw [HW.out, hr.out]
  have B2 := hid (B1.out.trans ((below_regrown W1 dq2 osq2).mono B1.out.size))
  clear c0 c1 c2 cb RW1 HW hr B1
  generalize grow (redrawn W1 dq2) osq2 = W2 at *
  cases r
  · go_wp2
    go_ret
    exact ⟨rfl, B2.out⟩
  · go_wp2
    go_ret
    exact ⟨rfl, B2.out⟩
end Go.Proofs.YtldfmlkjeniemaaGreatDoor
/- The document's functions of layer 7 (lapidaryref07): Size in one, Stands. -/
set_option linter.unusedVariables false
namespace Go.Proofs.YtldfmlkjeniemaaGreatDoor
open Go.RowKit Go.Ly Go.Hd Go.Sh Go.Ob Go.Sort
theorem Ws.bel {W W' : World} {b off : Nat} {xs : List Int} (h : Ws W b off xs) (k : Below W.heap.size W W') : Ws W' b off xs := fun i hi => hcell_below (h i hi) k
theorem spq {t s : Int} {q : Nat} (h : spc t s q = true) : 3 + t + t ≤ (q : Int) ∧ (q : Int) < 3 + t + t + 2 * s := by simpa [spc] using h
theorem oSize_at (t s : Int) (a : Option Addr) (n c : Nat) (ss : List ByteArray) (b off lc : Nat) (xs : List Int) (q : Nat) (v : Int) (w : World) (hT : IsTab w (.slice a n c) ss) (hg : rgt t s ss = true) (hx : Ws w b off xs) (hi : InW xs) (hl : (xs.length : Int) = 3 + t + t + 2 * s) (h1 : spc t s q = true) (hv : Hid (osz xs ss (eo t s q) q = v)) :
    Calls Tryz.prog 29 #[.slice (some ⟨b, off, none⟩) xs.length lc, planV t s a n c, .int .i64 (q : Int)] w fun e w' => e = .returned (.int .i64 v) ∧ Below w.heap.size w w' := by
  obtain ⟨t0, t1, s0, s1, _⟩ := rgt_yes hg
  obtain ⟨q0, q1⟩ := spq h1
  have hq : q < xs.length := by omega
  have hl9 : xs.length ≤ 9000 := by omega
  obtain ⟨z, hz⟩ : ∃ z, (szH (wat xs q) ss).1 = z := ⟨_, rfl⟩
  obtain ⟨er, he⟩ : ∃ er, (szH (wat xs q) ss).2 = er := ⟨_, rfl⟩
  have hze : szH (wat xs q) ss = (z, er) := by rw [← hz, ← he]
  have hq2 : szH (wat xs ((q : Int)).toNat) ss = (z, er) := hze
  have hv := hv.out
  by_cases h : er = 0
  · subst h
    obtain ⟨_, z2, z9, _⟩ := szH_is (x := wat xs q) (ss := ss) he
    rw [hz] at z2 z9
    have hE : eo t s q - q = s - ((q : Int) - (3 + t + t)) % s := by unfold eo; omega
    by_cases k : s < ((q : Int) - (3 + t + t)) % s + z
    · rw [osz_no2 (by rw [hq2]; show ¬ z ≤ _; omega)] at hv
      subst hv
      exact oSize_ok t s a n c ss b off lc xs q z true w hT hg hx hi hq hl9 q0 (hid hze) z2 z9 (hid (by simpa using k))
    · rw [osz_yes (by rw [hq2]) (by rw [hq2]; show z ≤ _; omega), hq2] at hv
      subst hv
      exact oSize_ok t s a n c ss b off lc xs q z false w hT hg hx hi hq hl9 q0 (hid hze) z2 z9 (hid (by simpa using k))
  · rw [osz_no1 (by rw [hq2]; exact h)] at hv
    subst hv
    exact oSize_err t s a n c ss b off lc xs q z er w hT hx hi hq hl9 (hid hze) (by simpa using h)
set_option maxRecDepth 100000 in
set_option maxHeartbeats 2000000 in
theorem oStands_arg (t s : Int) (a : Option Addr) (n c : Nat) (ss : List ByteArray) (la : Option Addr) (N lc : Nat) (Z x : Int) (w : World) (hT : IsTab w (.slice a n c) ss) (hg : rgt t s ss = true) (hZ : 3 + t + t + 2 * s = Z) (hr : ((N : Int) == Z) = false) :
    Calls Tryz.prog 27 #[.slice la N lc, planV t s a n c, .int .i64 x] w fun e w' => e = .returned (.int .i64 2) ∧ Below w.heap.size w w' := by
  have bw := below_alloc0 w (plO t s a n c)
  have cr := oRight_at t s a n c ss la N lc Z false _ (hT.below (Nat.le_refl _) bw) hg hZ hr
  clear hT hg hZ hr
  go_enter Tryz.func27, Tryz.ntmps27
  go_wp2_with (go_at_call 36; refine cr.mono ?_; rintro e w1 ⟨rfl, b1⟩)
  go_ret
  exact ⟨rfl, bel1 b1⟩
set_option maxRecDepth 100000 in
set_option maxHeartbeats 2000000 in
theorem oStands_range (t s : Int) (a : Option Addr) (n c : Nat) (ss : List ByteArray) (la : Option Addr) (N lc : Nat) (x : Int) (w : World) (hT : IsTab w (.slice a n c) ss) (hg : rgt t s ss = true) (hN : (N : Int) = 3 + t + t + 2 * s) (h1 : spc t s x = false) :
    Calls Tryz.prog 27 #[.slice la N lc, planV t s a n c, .int .i64 x] w fun e w' => e = .returned (.int .i64 4) ∧ Below w.heap.size w w' := by
  obtain ⟨t0, t1, s0, s1, _⟩ := rgt_yes hg
  have bw := below_alloc0 w (plO t s a n c)
  have cr := oRight_at t s a n c ss la N lc _ true _ (hT.below (Nat.le_refl _) bw) hg rfl (by simpa using hN)
  have cs : ∀ W, Calls Tryz.prog 38 #[planV t s a n c, .int .i64 x] W fun e w' => e = .returned (.int .i64 (-1)) ∧ Below W.heap.size W w' := by
    intro W
    by_cases h : x < 3 + t + t
    · exact rSpace6_lo t s x a n c W t0 t1 s0 s1 h
    · exact rSpace6_hi t s x a n c W t0 t1 s0 s1 (by simp [spc] at h1; omega)
  clear hT hg hN h1
  go_enter Tryz.func27, Tryz.ntmps27
  go_wp2_with (go_at_call 36; refine cr.mono ?_)
  rintro e w1 ⟨rfl, b1⟩
  have R1 := row1 b1
  have d0 := at_row R1 0 rfl
  have d1 := at_row R1 1 rfl
  have d2 := at_row R1 2 rfl
  have B1 := hid (bel1 b1)
  clear b1 R1 cr bw
  go_wp2_with (go_at_call 38; refine (cs _).mono ?_; rintro e w2 ⟨rfl, b2⟩)
  go_ret
  exact ⟨rfl, B1.out.trans (b2.mono B1.out.size)⟩
set_option maxRecDepth 100000 in
set_option maxHeartbeats 2000000 in
theorem oStands_at (t s : Int) (a : Option Addr) (n c : Nat) (ss : List ByteArray) (b off lc : Nat) (xs : List Int) (q : Nat) (v : Int) (r : Bool) (w : World) (hT : IsTab w (.slice a n c) ss) (hg : rgt t s ss = true) (hx : Ws w b off xs) (hi : InW xs) (hl : (xs.length : Int) = 3 + t + t + 2 * s) (h1 : spc t s q = true) (hv : Hid (osz xs ss (eo t s q) q = v)) (hr : Hid ((v == 0) = r)) :
    Calls Tryz.prog 27 #[.slice (some ⟨b, off, none⟩) xs.length lc, planV t s a n c, .int .i64 (q : Int)] w fun e w' => e = .returned (.int .i64 (cond r 170 0)) ∧ Below w.heap.size w w' := by
  obtain ⟨t0, t1, s0, s1, _⟩ := rgt_yes hg
  obtain ⟨q0, q1⟩ := spq h1
  have bw := below_alloc0 w (plO t s a n c)
  have cr := oRight_at t s a n c ss (some ⟨b, off, none⟩) xs.length lc _ true _ (hT.below (Nat.le_refl _) bw) hg rfl (by simpa using hl)
  obtain ⟨j, hj⟩ : ∃ j, ((q : Int) - (3 + t + t)) / s = j := ⟨_, rfl⟩
  have j0 : (decide (j < 0)) = false := by
    have : 0 ≤ j := by rw [← hj]; exact Int.ediv_nonneg (by omega) (by omega)
    simp; omega
  have cs := fun W => rSpace6_in t s q j a n c W t0 t1 s0 s1 q0 q1 (hid hj)
  have cz : ∀ W, Below w.heap.size w W → _ := fun W hW => oSize_at t s a n c ss b off lc xs q v W (hT.below (Nat.le_refl _) hW) hg (fun i hi => hcell_below (hx i hi) hW) hi hl h1 hv
  generalize hlen : xs.length = N at *
  clear hT hg h1 q0 q1 hx hi hv hj hl
  go_enter Tryz.func27, Tryz.ntmps27
  go_wp2_with (go_at_call 36; refine cr.mono ?_)
  rintro e w1 ⟨rfl, b1⟩
  have R1 := row1 b1
  have d0 := at_row R1 0 rfl
  have d1 := at_row R1 1 rfl
  have d2 := at_row R1 2 rfl
  have B1 := hid (bel1 b1)
  clear b1 cr bw
  go_wp2_with (go_at_call 38; refine (cs _).mono ?_)
  rintro e w2 ⟨rfl, b2⟩
  have R2 := row_below R1 b2
  have e0 := at_row R2 0 rfl
  have e1 := at_row R2 1 rfl
  have e2 := at_row R2 2 rfl
  have B2 := hid (B1.out.trans (b2.mono B1.out.size))
  have cz2 := cz _ B2.out
  clear d0 d1 d2 b2 R1 R2 cz cs
  go_wp2_with (go_at_call 29; refine cz2.mono ?_)
  rintro e w3 ⟨rfl, b3⟩
  have B3 := hid (B2.out.trans (b3.mono B2.out.size))
  have hr := hr.out
  clear e0 e1 e2 b3 cz2
  cases r
  · go_wp2
    go_ret
    exact ⟨rfl, B3.out⟩
  · go_wp2
    go_ret
    exact ⟨rfl, B3.out⟩
end Go.Proofs.YtldfmlkjeniemaaGreatDoor
