/- The document's functions of layer 7 (lapidaryref07): Size in one, Stands. -/
import Derived.Test.YtldfmlkjeniemaaDoorObMadeOn
import Derived.Test.YtldfmlkjeniemaaDoorArCallOn
set_option linter.unusedVariables false
namespace Go.Proofs.YtldfmlkjeniemaaDoor
open Go.RowKit Go.Ly Go.Hd Go.Sh Go.Ob Go.Sort
theorem Ws.bel {W W' : World} {b off : Nat} {xs : List Int} (h : Ws W b off xs) (k : Below W.heap.size W W') : Ws W' b off xs := fun i hi => hcell_below (h i hi) k
theorem spq {t s : Int} {q : Nat} (h : spc t s q = true) : 3 + t + t ≤ (q : Int) ∧ (q : Int) < 3 + t + t + 2 * s := by simpa [spc] using h
theorem oSize_at (t s : Int) (a : Option Addr) (n c : Nat) (ss : List ByteArray) (b off lc : Nat) (xs : List Int) (q : Nat) (v : Int) (w : World) (hT : IsTab w (.slice a n c) ss) (hg : rgt t s ss = true) (hx : Ws w b off xs) (hi : InW xs) (hl : (xs.length : Int) = 3 + t + t + 2 * s) (h1 : spc t s q = true) (hv : Hid (osz xs ss (eo t s q) q = v)) :
    Calls Tryd.prog 28 #[.slice (some ⟨b, off, none⟩) xs.length lc, planV t s a n c, .int .i64 (q : Int)] w fun e w' => e = .returned (.int .i64 v) ∧ Below w.heap.size w w' := by
  obtain ⟨t0, t1, s0, s1, _⟩ := rgt_yes hg
  obtain ⟨q0, q1⟩ := spq h1
  have hq : q < xs.length := by omega
  have hl9 : xs.length ≤ 9000 := by omega
  obtain ⟨z, hz⟩ : ∃ z, (szH (wat xs q) ss).1 = z := ⟨_, rfl⟩
  obtain ⟨er, he⟩ : ∃ er, (szH (wat xs q) ss).2 = er := ⟨_, rfl⟩
  have hze : szH (wat xs q) ss = (z, er) := by rw [← hz, ← he]
  have hq2 : szH (wat xs ((q : Int)).toNat) ss = (z, er) := hze
  have hv := hv.out
  by_cases h : er = 0
  · subst h
    obtain ⟨_, z2, z9, _⟩ := szH_is (x := wat xs q) (ss := ss) he
    rw [hz] at z2 z9
    have hE : eo t s q - q = s - ((q : Int) - (3 + t + t)) % s := by unfold eo; omega
    by_cases k : s < ((q : Int) - (3 + t + t)) % s + z
    · rw [osz_no2 (by rw [hq2]; show ¬ z ≤ _; omega)] at hv
      subst hv
      exact oSize_ok t s a n c ss b off lc xs q z true w hT hg hx hi hq hl9 q0 (hid hze) z2 z9 (hid (by simpa using k))
    · rw [osz_yes (by rw [hq2]) (by rw [hq2]; show z ≤ _; omega), hq2] at hv
      subst hv
      exact oSize_ok t s a n c ss b off lc xs q z false w hT hg hx hi hq hl9 q0 (hid hze) z2 z9 (hid (by simpa using k))
  · rw [osz_no1 (by rw [hq2]; exact h)] at hv
    subst hv
    exact oSize_err t s a n c ss b off lc xs q z er w hT hx hi hq hl9 (hid hze) (by simpa using h)
set_option maxRecDepth 100000 in
set_option maxHeartbeats 2000000 in
theorem oStands_arg (t s : Int) (a : Option Addr) (n c : Nat) (ss : List ByteArray) (la : Option Addr) (N lc : Nat) (Z x : Int) (w : World) (hT : IsTab w (.slice a n c) ss) (hg : rgt t s ss = true) (hZ : 3 + t + t + 2 * s = Z) (hr : ((N : Int) == Z) = false) :
    Calls Tryd.prog 27 #[.slice la N lc, planV t s a n c, .int .i64 x] w fun e w' => e = .returned (.int .i64 2) ∧ Below w.heap.size w w' := by
  have bw := below_alloc0 w (plO t s a n c)
  have cr := oRight_at t s a n c ss la N lc Z false _ (hT.below (Nat.le_refl _) bw) hg hZ hr
  clear hT hg hZ hr
  go_enter Tryd.func27, Tryd.ntmps27
  go_wp2_with (go_at_call 31; refine cr.mono ?_; rintro e w1 ⟨rfl, b1⟩)
  go_ret
  exact ⟨rfl, bel1 b1⟩
set_option maxRecDepth 100000 in
set_option maxHeartbeats 2000000 in
theorem oStands_range (t s : Int) (a : Option Addr) (n c : Nat) (ss : List ByteArray) (la : Option Addr) (N lc : Nat) (x : Int) (w : World) (hT : IsTab w (.slice a n c) ss) (hg : rgt t s ss = true) (hN : (N : Int) = 3 + t + t + 2 * s) (h1 : spc t s x = false) :
    Calls Tryd.prog 27 #[.slice la N lc, planV t s a n c, .int .i64 x] w fun e w' => e = .returned (.int .i64 4) ∧ Below w.heap.size w w' := by
  obtain ⟨t0, t1, s0, s1, _⟩ := rgt_yes hg
  have bw := below_alloc0 w (plO t s a n c)
  have cr := oRight_at t s a n c ss la N lc _ true _ (hT.below (Nat.le_refl _) bw) hg rfl (by simpa using hN)
  have cs : ∀ W, Calls Tryd.prog 50 #[planV t s a n c, .int .i64 x] W fun e w' => e = .returned (.int .i64 (-1)) ∧ Below W.heap.size W w' := by
    intro W
    by_cases h : x < 3 + t + t
    · exact rSpace6_lo t s x a n c W t0 t1 s0 s1 h
    · exact rSpace6_hi t s x a n c W t0 t1 s0 s1 (by simp [spc] at h1; omega)
  clear hT hg hN h1
  go_enter Tryd.func27, Tryd.ntmps27
  go_wp2_with (go_at_call 31; refine cr.mono ?_)
  rintro e w1 ⟨rfl, b1⟩
  have R1 := row1 b1
  have d0 := at_row R1 0 rfl
  have d1 := at_row R1 1 rfl
  have d2 := at_row R1 2 rfl
  have B1 := hid (bel1 b1)
  clear b1 R1 cr bw
  go_wp2_with (go_at_call 50; refine (cs _).mono ?_; rintro e w2 ⟨rfl, b2⟩)
  go_ret
  exact ⟨rfl, B1.out.trans (b2.mono B1.out.size)⟩
set_option maxRecDepth 100000 in
set_option maxHeartbeats 2000000 in
theorem oStands_at (t s : Int) (a : Option Addr) (n c : Nat) (ss : List ByteArray) (b off lc : Nat) (xs : List Int) (q : Nat) (v : Int) (r : Bool) (w : World) (hT : IsTab w (.slice a n c) ss) (hg : rgt t s ss = true) (hx : Ws w b off xs) (hi : InW xs) (hl : (xs.length : Int) = 3 + t + t + 2 * s) (h1 : spc t s q = true) (hv : Hid (osz xs ss (eo t s q) q = v)) (hr : Hid ((v == 0) = r)) :
    Calls Tryd.prog 27 #[.slice (some ⟨b, off, none⟩) xs.length lc, planV t s a n c, .int .i64 (q : Int)] w fun e w' => e = .returned (.int .i64 (cond r 170 0)) ∧ Below w.heap.size w w' := by
  obtain ⟨t0, t1, s0, s1, _⟩ := rgt_yes hg
  obtain ⟨q0, q1⟩ := spq h1
  have bw := below_alloc0 w (plO t s a n c)
  have cr := oRight_at t s a n c ss (some ⟨b, off, none⟩) xs.length lc _ true _ (hT.below (Nat.le_refl _) bw) hg rfl (by simpa using hl)
  obtain ⟨j, hj⟩ : ∃ j, ((q : Int) - (3 + t + t)) / s = j := ⟨_, rfl⟩
  have j0 : (decide (j < 0)) = false := by
    have : 0 ≤ j := by rw [← hj]; exact Int.ediv_nonneg (by omega) (by omega)
    simp; omega
  have cs := fun W => rSpace6_in t s q j a n c W t0 t1 s0 s1 q0 q1 (hid hj)
  have cz : ∀ W, Below w.heap.size w W → _ := fun W hW => oSize_at t s a n c ss b off lc xs q v W (hT.below (Nat.le_refl _) hW) hg (fun i hi => hcell_below (hx i hi) hW) hi hl h1 hv
  generalize hlen : xs.length = N at *
  clear hT hg h1 q0 q1 hx hi hv hj hl
  go_enter Tryd.func27, Tryd.ntmps27
  go_wp2_with (go_at_call 31; refine cr.mono ?_)
  rintro e w1 ⟨rfl, b1⟩
  have R1 := row1 b1
  have d0 := at_row R1 0 rfl
  have d1 := at_row R1 1 rfl
  have d2 := at_row R1 2 rfl
  have B1 := hid (bel1 b1)
  clear b1 cr bw
  go_wp2_with (go_at_call 50; refine (cs _).mono ?_)
  rintro e w2 ⟨rfl, b2⟩
  have R2 := row_below R1 b2
  have e0 := at_row R2 0 rfl
  have e1 := at_row R2 1 rfl
  have e2 := at_row R2 2 rfl
  have B2 := hid (B1.out.trans (b2.mono B1.out.size))
  have cz2 := cz _ B2.out
  clear d0 d1 d2 b2 R1 R2 cz cs
  go_wp2_with (go_at_call 28; refine cz2.mono ?_)
  rintro e w3 ⟨rfl, b3⟩
  have B3 := hid (B2.out.trans (b3.mono B2.out.size))
  have hr := hr.out
  clear e0 e1 e2 b3 cz2
  cases r
  · go_wp2
    go_ret
    exact ⟨rfl, B3.out⟩
  · go_wp2
    go_ret
    exact ⟨rfl, B3.out⟩
end Go.Proofs.YtldfmlkjeniemaaDoor
/- The document's Place (lapidaryref07). -/
set_option linter.unusedVariables false
namespace Go.Proofs.YtldfmlkjeniemaaDoor
open Go.RowKit Go.Ly Go.Hd Go.Sh Go.Ob Go.Sort
set_option maxRecDepth 100000 in
set_option maxHeartbeats 2000000 in
theorem oPlace_err (t s : Int) (a : Option Addr) (n c : Nat) (la : Option Addr) (N lc : Nat) (x f er : Int) (w : World) (he : (er != 0) = true)
    (hs : ∀ W, Below w.heap.size w W → Calls Tryd.prog 27 #[.slice la N lc, planV t s a n c, .int .i64 x] W fun e w' => e = .returned (.int .i64 er) ∧ Below W.heap.size W w') :
    Calls Tryd.prog 12 #[.slice la N lc, planV t s a n c, .int .i64 x, .int .i64 f] w fun e w' => e = .returned (.tuple #[.int .i64 0, .int .i64 er]) ∧ Below w.heap.size w w' := by
  have cs := hs _ (below_alloc0 w (plO t s a n c))
  clear hs
  go_enter Tryd.func12, Tryd.ntmps12
  go_wp2_with (go_at_call 27; refine cs.mono ?_; rintro e w1 ⟨rfl, b1⟩)
  go_ret2
  exact ⟨rfl, bel1 b1⟩
set_option maxRecDepth 100000 in
set_option maxHeartbeats 2000000 in
theorem oPlace_ok (t s : Int) (a : Option Addr) (n c : Nat) (la : Option Addr) (N lc : Nat) (x f z : Int) (r : Bool) (w : World) (z2 : 2 ≤ z) (z9 : z ≤ 10) (x0 : 0 ≤ x) (x9 : x ≤ 20000) (hr : (f < 0 ∨ z - 2 ≤ f) ↔ r = true)
    (hs : ∀ W, Below w.heap.size w W → Calls Tryd.prog 27 #[.slice la N lc, planV t s a n c, .int .i64 x] W fun e w' => e = .returned (.int .i64 0) ∧ Below W.heap.size W w')
    (hz : ∀ W, Below w.heap.size w W → Calls Tryd.prog 28 #[.slice la N lc, planV t s a n c, .int .i64 x] W fun e w' => e = .returned (.int .i64 z) ∧ Below W.heap.size W w') :
    Calls Tryd.prog 12 #[.slice la N lc, planV t s a n c, .int .i64 x, .int .i64 f] w fun e w' => e = .returned (.tuple (cond r #[.int .i64 0, .int .i64 131] #[.int .i64 (x + 2 + f), .int .i64 0])) ∧ Below w.heap.size w w' := by
  have cs := hs _ (below_alloc0 w (plO t s a n c))
  clear hs
  go_enter Tryd.func12, Tryd.ntmps12
  go_wp2_with (go_at_call 27; refine cs.mono ?_)
  rintro e w1 ⟨rfl, b1⟩
  have R1 := row1 b1
  have d0 := at_row R1 0 rfl
  have d1 := at_row R1 1 rfl
  have d2 := at_row R1 2 rfl
  have B1 := hid (bel1 b1)
  have cz := hz _ B1.out
  clear b1 R1 cs hz
  have hw2 : IntKind.i64.wrap (z - 2) = z - 2 := IntWalk.i64_in _ ⟨by omega, by omega⟩
  by_cases h0 : f < 0
  · have r1 : r = true := hr.1 (.inl h0)
    subst r1
    clear hr
    go_wp2_with (go_at_call 28; refine cz.mono ?_; rintro e w2 ⟨rfl, b2⟩)
    go_ret2
    exact ⟨rfl, B1.out⟩
  · have h0' : decide (f < 0) = false := by simpa using h0
    go_wp2_with (go_at_call 28; refine cz.mono ?_)
    rintro e w2 ⟨rfl, b2⟩
    have B2 := hid (B1.out.trans (b2.mono B1.out.size))
    clear b2 cz d0 d1 d2
    by_cases h1 : z - 2 ≤ f
    · have r1 : r = true := hr.1 (.inr h1)
      subst r1
      clear hr
      go_wp2
      go_ret2
      exact ⟨rfl, B2.out⟩
    · have r1 : r = false := by
        cases r
        · rfl
        · have := hr.2 rfl; omega
      subst r1
      clear hr
      have hw3 : IntKind.i64.wrap (x + 2) = x + 2 := IntWalk.i64_in _ ⟨by omega, by omega⟩
      have hw4 : IntKind.i64.wrap (x + 2 + f) = x + 2 + f := IntWalk.i64_in _ ⟨by omega, by omega⟩
      go_wp2
      go_ret2
      exact ⟨rfl, B2.out⟩
theorem oPlace_arg (t s : Int) (a : Option Addr) (n c : Nat) (ss : List ByteArray) (la : Option Addr) (N lc : Nat) (Z x f : Int) (w : World) (hT : IsTab w (.slice a n c) ss) (hg : rgt t s ss = true) (hZ : 3 + t + t + 2 * s = Z) (hr : ((N : Int) == Z) = false) :
    Calls Tryd.prog 12 #[.slice la N lc, planV t s a n c, .int .i64 x, .int .i64 f] w fun e w' => e = .returned (.tuple #[.int .i64 0, .int .i64 2]) ∧ Below w.heap.size w w' :=
  oPlace_err t s a n c la N lc x f 2 w rfl fun W hW => oStands_arg t s a n c ss la N lc Z x W (hT.below (Nat.le_refl _) hW) hg hZ hr
theorem oPlace_at (t s : Int) (a : Option Addr) (n c : Nat) (ss : List ByteArray) (b off lc : Nat) (xs : List Int) (x f v er : Int) (w : World) (hT : IsTab w (.slice a n c) ss) (hg : rgt t s ss = true) (hx : Ws w b off xs) (hi : InW xs) (hl : (xs.length : Int) = 3 + t + t + 2 * s) (hv : Hid (plv t s xs ss x f = (v, er))) :
    Calls Tryd.prog 12 #[.slice (some ⟨b, off, none⟩) xs.length lc, planV t s a n c, .int .i64 x, .int .i64 f] w fun e w' => e = .returned (.tuple #[.int .i64 v, .int .i64 er]) ∧ Below w.heap.size w w' := by
  have hv := hv.out
  obtain ⟨t0, t1, s0, s1, _⟩ := rgt_yes hg
  by_cases h1 : spc t s x = false
  · rw [plv, if_pos h1] at hv
    cases hv
    exact oPlace_err t s a n c _ _ _ x f 4 w rfl fun W hW => oStands_range t s a n c ss _ _ _ x W (hT.below (Nat.le_refl _) hW) hg hl h1
  · rw [plv, if_neg h1] at hv
    have h1 : spc t s x = true := by simpa using h1
    obtain ⟨x0, x9⟩ := spc_in h1 t0 hl
    obtain ⟨q, rfl⟩ := Int.eq_ofNat_of_zero_le x0
    obtain ⟨z, hz⟩ : ∃ z, Hid (osz xs ss (eo t s q) q = z) := ⟨_, hid rfl⟩
    rw [hz.out] at hv
    by_cases h2 : z = 0
    · rw [if_pos h2] at hv
      cases hv
      exact oPlace_err t s a n c _ _ _ q f 170 w rfl fun W hW => oStands_at t s a n c ss b off lc xs q z true W (hT.below (Nat.le_refl _) hW) hg (hx.bel hW) hi hl h1 hz (hid (by simpa using h2))
    · rw [if_neg h2] at hv
      have hzz : 2 ≤ z ∧ z ≤ 10 := by
        rcases osz_cases xs ss (eo t s q) q with h3 | h3
        · rw [hz.out] at h3; exact absurd h3 h2
        · rw [hz.out] at h3; exact ⟨h3.1, h3.2.1⟩
      have cs := fun W (hW : Below w.heap.size w W) => oStands_at t s a n c ss b off lc xs q z false W (hT.below (Nat.le_refl _) hW) hg (hx.bel hW) hi hl h1 hz (hid (by simpa using h2))
      have cz := fun W (hW : Below w.heap.size w W) => oSize_at t s a n c ss b off lc xs q z W (hT.below (Nat.le_refl _) hW) hg (hx.bel hW) hi hl h1 hz
      by_cases h3 : f < 0 ∨ z - 2 ≤ f
      · rw [if_pos h3] at hv
        cases hv
        exact oPlace_ok t s a n c _ _ _ q f z true w hzz.1 hzz.2 (by omega) (by omega) (by simpa using h3) cs cz
      · rw [if_neg h3] at hv
        cases hv
        exact oPlace_ok t s a n c _ _ _ q f z false w hzz.1 hzz.2 (by omega) (by omega) (by simpa using h3) cs cz
end Go.Proofs.YtldfmlkjeniemaaDoor
