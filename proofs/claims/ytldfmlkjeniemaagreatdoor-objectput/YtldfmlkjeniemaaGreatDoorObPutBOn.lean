/- Put, the program's and the document's, and what is read where something was put. -/
import Derived.Test.YtldfmlkjeniemaaGreatDoorArSameOn
import Derived.Test.YtldfmlkjeniemaaGreatDoorObOnWOn
import Derived.Test.YtldfmlkjeniemaaGreatDoorObRead
import Derived.Test.YtldfmlkjeniemaaGreatDoorObWorksOn
import Derived.Test.YtldfmlkjeniemaaGreatDoorObWalkNOn
set_option linter.unusedVariables false
namespace Go.Proofs.YtldfmlkjeniemaaGreatDoor
open Go.RowKit Go.Ly Go.Hd Go.Sh Go.Ob Go.Sort
/-- Which space a word is of, and where that begins. -/
theorem spc_space {t s x : Int} (s0 : 32 ≤ s) (h : spc t s x = true) : ∃ q, (q = 0 ∨ q = 1) ∧ (x - (3 + t + t)) / s = q ∧ eo t s x = 3 + t + t + q * s + s ∧ 3 + t + t + q * s ≤ x := by
  simp [spc] at h
  by_cases h1 : x < 3 + t + t + s
  · refine ⟨0, .inl rfl, Int.ediv_eq_zero_of_lt (by omega) (by omega), eo_in (q := 0) s0 (by omega) (by omega), by omega⟩
  · refine ⟨1, .inr rfl, ?_, eo_in (q := 1) s0 (by omega) (by omega), by omega⟩
    rw [show x - (3 + t + t) = (x - (3 + t + t) - s) + s * 1 by omega, Int.add_mul_ediv_left _ _ (by omega), Int.ediv_eq_zero_of_lt (by omega) (by omega)]
    rfl
theorem putK_in {xs : List Int} (h : InW xs) (q : Nat) {ws : List Int} (hw : InW ws) : ∀ k, InW (putK xs q ws k)
  | 0 => h
  | k + 1 => (putK_in h q hw k).set _ (hw.get k).1 (hw.get k).2
theorem oBase6_q (t s : Int) (a : Option Addr) (n c : Nat) (q : Int) (w : World) (hq : q = 0 ∨ q = 1) (t0 : 1 ≤ t) (t1 : t ≤ 8) (s0 : 32 ≤ s) (s1 : s ≤ 4096) :
    Calls Tryz.prog 39 #[planV t s a n c, .int .i64 q] w fun e w' => e = .returned (.int .i64 (3 + t + t + q * s)) ∧ Below w.heap.size w w' := by
  rcases hq with rfl | rfl
  · rw [show 3 + t + t + 0 * s = 3 + t + t by omega]
    exact rBase6_0 t s a n c w t0 t1 s0 s1
  · rw [show 3 + t + t + 1 * s = 3 + t + t + s by omega]
    exact rBase6_1 t s a n c w t0 t1 s0 s1
/-- The document's Put where it refuses. -/
theorem oPut_err (t s : Int) (a : Option Addr) (n c : Nat) (ss : List ByteArray) (la : Option Addr) (N lc : Nat) (x sh mk_ lk er : Int) (fa : Option Addr) (fn fc : Nat) (w : World) (hT : IsTab w (.slice a n c) ss) (hg : rgt t s ss = true) (hl : (N : Int) = 3 + t + t + 2 * s) (he : ptE t s ss x sh mk_ fn = er) (hne : er ≠ 0) :
    Calls Tryz.prog 15 #[.slice la N lc, planV t s a n c, obV x sh mk_ lk (.slice fa fn fc)] w fun e w' => e = rpNo la N lc er ∧ Below w.heap.size w w' := by
  obtain ⟨t0, t1, s0, s1, _⟩ := rgt_yes hg
  have cr := fun W (b : Below w.heap.size w W) => oRight_at t s a n c ss la N lc _ true W (hT.below (Nat.le_refl _) b) hg rfl (by rw [beq_iff_eq]; exact hl)
  unfold ptE at he
  by_cases h1 : ok sh mk_ = false
  · rw [if_pos h1] at he
    subst he
    exact oPut_no1 t s a n c la N lc x sh mk_ lk 0 2 _ true w (fun W => rmake_no sh mk_ W h1) cr (.inr ⟨rfl, rfl⟩)
  · rw [if_neg h1] at he
    have h1 : ok sh mk_ = true := by simpa using h1
    have cs := fun W (b : Below w.heap.size w W) => rSize_any (.slice a n c) ss sh W (hT.below (Nat.le_refl _) b)
    by_cases h2 : (sz ss sh).2 ≠ 0 ∨ (fn : Int) ≠ (sz ss sh).1 - 2
    · rw [if_pos h2] at he
      subst he
      refine oPut_no2 t s a n c la N lc x sh mk_ lk _ _ _ fa fn fc w (fun W => rmake_yes sh mk_ W h1) cr cs ?_
      by_cases h3 : (sz ss sh).2 = 0
      · have := sz_bd h3
        exact .inr ⟨h3, this.1, this.2, by simpa [h3] using h2⟩
      · exact .inl (by simpa using h3)
    · rw [if_neg h2] at he
      have h2' : (sz ss sh).2 = 0 ∧ (fn : Int) = (sz ss sh).1 - 2 := by simpa using h2
      have hb := sz_bd h2'.1
      rw [h2'.1] at cs
      by_cases h3 : spc t s x = false ∨ eo t s x - x < (sz ss sh).1
      · rw [if_pos h3] at he
        subst he
        by_cases h4 : spc t s x = true
        · obtain ⟨q, hq, hd, heo, hle⟩ := spc_space s0 h4
          have hsp : 3 + t + t ≤ x ∧ x < 3 + t + t + 2 * s := by simpa [spc] using h4
          have hqs : 0 ≤ q * s ∧ q * s ≤ s := by rcases hq with rfl | rfl <;> omega
          have h5 : eo t s x - x < (sz ss sh).1 := by rcases h3 with h3 | h3; (rw [h3] at h4; cases h4); exact h3
          exact oPut_no3 t s a n c la N lc x sh mk_ lk _ (sz ss sh).1 q (3 + t + t + q * s) fa fn fc w (fun W => rmake_yes sh mk_ W h1) cr cs (fun W => rSpace6_in t s x q a n c W t0 t1 s0 s1 hsp.1 hsp.2 (hid hd)) (fun _ W => oBase6_q t s a n c q W hq t0 t1 s0 s1) hb.1 hb.2 h2'.2 (.inr ⟨by omega, by omega, by omega, by omega, by omega, by omega⟩)
        · have hsp : x < 3 + t + t ∨ 3 + t + t + 2 * s ≤ x := by
            have : ¬ (3 + t + t ≤ x ∧ x < 3 + t + t + 2 * s) := fun h => h4 (by simpa [spc] using h)
            omega
          rcases hsp with h5 | h5
          · exact oPut_no3 t s a n c la N lc x sh mk_ lk _ (sz ss sh).1 (-1) 0 fa fn fc w (fun W => rmake_yes sh mk_ W h1) cr cs (fun W => rSpace6_lo t s x a n c W t0 t1 s0 s1 h5) (fun h => absurd h (by decide)) hb.1 hb.2 h2'.2 (.inl (by omega))
          · exact oPut_no3 t s a n c la N lc x sh mk_ lk _ (sz ss sh).1 (-1) 0 fa fn fc w (fun W => rmake_yes sh mk_ W h1) cr cs (fun W => rSpace6_hi t s x a n c W t0 t1 s0 s1 h5) (fun h => absurd h (by decide)) hb.1 hb.2 h2'.2 (.inl (by omega))
      · rw [if_neg h3] at he
        exact absurd he.symm hne
/-- Put in one: the words behind it, its error; what is read there then. -/
structure PutR (t s : Int) (a : Option Addr) (n c : Nat) (w : World) (xs : List Int) (x sh mk_ lk : Int) (fv : Value) (zs : List Int) (er : Int) (ys : List Int) : Prop where
  len : ys.length = xs.length
  bnd : InW ys
  code : ∀ A B W, Below w.heap.size w W → IsAr W A B xs → Calls Tryz.prog 14 #[.pointer (some ⟨A, 0, none⟩), planV t s a n c, obV x sh mk_ lk fv] W fun e w' => e = .returned (.int .i64 er) ∧ IsAr w' A B ys ∧ W.grownBy w' (some B)
  doc : ∀ b lc W, Below w.heap.size w W → Ws W b 0 xs → Calls Tryz.prog 15 #[.slice (some ⟨b, 0, none⟩) xs.length lc, planV t s a n c, obV x sh mk_ lk fv] W fun e w' => ∃ b' lc', e = .returned (.tuple #[.slice (some ⟨b', 0, none⟩) xs.length lc', .int .i64 er]) ∧ Ws w' b' 0 ys ∧ (b' = b ∨ W.heap.size ≤ b') ∧ Below W.heap.size W w'
  read : ∃ er2 at2 sh2 mk2 lk2 zs2, (er = 0 → er2 = 0 ∧ at2 = x ∧ sh2 = sh ∧ mk2 = mk_ ∧ lk2 = lk ∧ zs2 = zs) ∧ zs2.length ≤ 100 ∧
    ∀ A B W, Below w.heap.size w W → IsAr W A B ys → Calls Tryz.prog 9 #[.pointer (some ⟨A, 0, none⟩), planV t s a n c, .int .i64 x] W fun e w' => ∃ a1 c1, e = .returned (.tuple #[obV at2 sh2 mk2 lk2 (.slice a1 zs2.length c1), .int .i64 er2]) ∧ FsAt W.heap.size w' (.slice a1 zs2.length c1) zs2 ∧ Below W.heap.size W w'
theorem put_both (t s : Int) (a : Option Addr) (n c : Nat) (ss : List ByteArray) (xs : List Int) (m x sh mk_ lk : Int) (fa : Option Addr) (fc : Nat) (zs : List Int) (w : World) (hT : IsTab w (.slice a n c) ss) (hL : LNums w) (hr : rgt t s ss = true) (hxi : InW xs) (hl : (xs.length : Int) = 3 + t + t + 2 * s + m) (hv : FsAt 0 w (.slice fa zs.length fc) zs) (hzi : InW (lk :: zs)) :
    ∃ er ys, PutR t s a n c w xs x sh mk_ lk (.slice fa zs.length fc) zs er ys := by
  obtain ⟨t0, t1, s0, s1, _⟩ := rgt_yes hr
  have some_read : ∀ ys : List Int, InW ys → ys.length = xs.length → ∃ er2 at2 sh2 mk2 lk2 zs2, zs2.length ≤ 100 ∧
    ∀ A B W, Below w.heap.size w W → IsAr W A B ys → Calls Tryz.prog 9 #[.pointer (some ⟨A, 0, none⟩), planV t s a n c, .int .i64 x] W fun e w' => ∃ a1 c1, e = .returned (.tuple #[obV at2 sh2 mk2 lk2 (.slice a1 zs2.length c1), .int .i64 er2]) ∧ FsAt W.heap.size w' (.slice a1 zs2.length c1) zs2 ∧ Below W.heap.size W w' := by
    intro ys hyi hyl
    obtain ⟨er, at_, sh, mk_, lk, zs, h9, hc, _⟩ := read_both t s a n c ss ys m x w hT hL hr hyi (by omega)
    exact ⟨er, at_, sh, mk_, lk, zs, h9, hc⟩
  obtain ⟨er, he⟩ : ∃ er, ptE t s ss x sh mk_ zs.length = er := ⟨_, rfl⟩
  by_cases hm : m = 0
  · have hl2 : (xs.length : Int) = 3 + t + t + 2 * s := by omega
    by_cases h0 : er = 0
    · subst h0
      obtain ⟨h1, h2, h3, h4, h5⟩ := ptE_ok he
      obtain ⟨p0, p9⟩ := spc_in h4 t0 hl2
      obtain ⟨p, rfl⟩ := Int.eq_ofNat_of_zero_le p0
      have heb := eo_bd s0 h4
      have hb := sz_bd h2
      have hpl : p + (zs.length + 2) ≤ xs.length := by omega
      obtain ⟨_, _, _, hw0, hw1⟩ := isH_wd h1
      have hwi : InW (wd sh mk_ :: lk :: zs) := by
        intro y hy
        rcases List.mem_cons.1 hy with rfl | hy
        · exact ⟨hw0, by omega⟩
        · exact hzi y hy
      have hyi : InW (putK xs p (wd sh mk_ :: lk :: zs) (zs.length + 2)) := putK_in hxi p hwi _
      refine ⟨0, putK xs p (wd sh mk_ :: lk :: zs) (zs.length + 2), putK_len _ _ _ _, hyi, fun A B W hW hA => ?_, fun b lc W hW hx => ?_, ?_⟩
      · exact Put_ok A B xs ss t s a n c p sh mk_ lk _ zs W ⟨hT.below (Nat.le_refl _) hW, hL.below hW, hA, hr, hl2⟩ (hid he) (hv.below hW) hzi
      · obtain ⟨q, hq, hd, heo, hle⟩ := spc_space s0 h4
        have hsp : 3 + t + t ≤ (p : Int) ∧ (p : Int) < 3 + t + t + 2 * s := by simpa [spc] using h4
        have hqs : 0 ≤ q * s ∧ q * s ≤ s := by rcases hq with rfl | rfl <;> omega
        have hz2 : sz ss sh = ((zs.length : Int) + 2, 0) := Prod.ext (by omega) h2
        refine (oPut_in t s a n c b 0 lc xs p sh mk_ lk _ q (3 + t + t + q * s) fa fc zs W (fun W => rmake_yes sh mk_ W h1)
          (fun W2 b2 => oRight_at t s a n c ss _ _ lc _ true W2 (hT.below (Nat.le_refl _) (hW.trans (b2.mono hW.size))) hr rfl (by rw [beq_iff_eq]; exact hl2))
          (fun W2 b2 => by have := rSize_any (.slice a n c) ss sh W2 (hT.below (Nat.le_refl _) (hW.trans (b2.mono hW.size))); rw [hz2] at this; exact this)
          (fun W => rSpace6_in t s p q a n c W t0 t1 s0 s1 hsp.1 hsp.2 (hid hd)) (fun W => oBase6_q t s a n c q W hq t0 t1 s0 s1) hx (hv.below hW) (by omega) (by omega) hpl (by omega) (by omega) (by omega) (by omega)).mono ?_
        rintro e w' ⟨G, c', rfl, h7, h8, h9⟩
        exact ⟨G, c', rfl, h7, .inr h8, h9⟩
      · refine ⟨0, p, sh, mk_, lk, zs, fun _ => ⟨rfl, rfl, rfl, rfl, rfl, rfl⟩, by omega, fun A B W hW hA => ?_⟩
        have hst := put_stands (lk := lk) he hpl
        have hhd := head_put xs p (wd sh mk_) lk zs hpl
        have hlk := link_put xs p (wd sh mk_) lk zs hpl
        have hfl := flw_put xs p (wd sh mk_) lk zs hpl
        have hyl := putK_len xs p (wd sh mk_ :: lk :: zs) (zs.length + 2)
        generalize putK xs p (wd sh mk_ :: lk :: zs) (zs.length + 2) = ys at *
        refine (Read_ok A B ys ss t s a n c p zs.length sh mk_ lk W ⟨hT.below (Nat.le_refl _) hW, hL.below hW, hA, hr, by omega⟩ h4 (hid hst) (hid (by rw [hhd]; exact ofv_wd h1)) (hid hlk)).mono ?_
        rintro e w' ⟨v, rfl, hv2, hb2⟩
        rw [hfl] at hv2
        obtain ⟨a1, c1, rfl, hv3⟩ := hv2
        exact ⟨a1, c1, rfl, ⟨a1, c1, rfl, hv3⟩, hb2⟩
    · refine ⟨er, xs, rfl, hxi, fun A B W hW hA => ?_, fun b lc W hW hx => ?_, ?_⟩
      · refine (Put_err A B xs ss t s a n c x sh mk_ lk er fa zs.length fc W ⟨hT.below (Nat.le_refl _) hW, hL.below hW, hA, hr, hl2⟩ (hid he) h0).mono ?_
        rintro e w' ⟨rfl, hb⟩
        exact ⟨rfl, hA.below hb, grown_below hb _⟩
      · refine (oPut_err t s a n c ss _ _ lc x sh mk_ lk er fa zs.length fc W (hT.below (Nat.le_refl _) hW) hr hl2 he h0).mono ?_
        rintro e w' ⟨rfl, hb⟩
        exact ⟨b, lc, rfl, hx.bel hb, .inl rfl, hb⟩
      · obtain ⟨er2, a2, b2, c2, d2, z2, h9, hc⟩ := some_read xs hxi rfl
        exact ⟨er2, a2, b2, c2, d2, z2, fun h => absurd h h0, h9, hc⟩
  · refine ⟨2, xs, rfl, hxi, fun A B W hW hA => ?_, fun b lc W hW hx => ?_, ?_⟩
    · refine (Put_bad A B xs ss _ t s a n c x sh mk_ lk fa zs.length fc W (hT.below (Nat.le_refl _) hW) hA hr rfl (by simp; omega)).mono ?_
      rintro e w' ⟨rfl, hb⟩
      exact ⟨rfl, hA.below hb, grown_below hb _⟩
    · have cr := fun W2 (b2 : Below W.heap.size W W2) => oRight_at t s a n c ss (some ⟨b, 0, none⟩) xs.length lc _ false W2 (hT.below (Nat.le_refl _) (hW.trans (b2.mono hW.size))) hr rfl (by rw [beq_eq_false_iff_ne]; omega)
      have key : ∃ wv e0, ∀ W, Calls Tryz.prog 35 #[.agg #[.int .i64 sh, .int .i64 mk_]] W fun e w' => e = .returned (.tuple #[.int .u64 wv, .int .i64 e0]) ∧ Below W.heap.size W w' := by
        by_cases h1 : ok sh mk_ = true
        · exact ⟨_, _, fun W => rmake_yes sh mk_ W h1⟩
        · exact ⟨_, _, fun W => rmake_no sh mk_ W (by simpa using h1)⟩
      obtain ⟨wv, e0, cm⟩ := key
      refine (oPut_no1 t s a n c _ xs.length lc x sh mk_ lk wv e0 _ false W cm cr (.inl rfl)).mono ?_
      rintro e w' ⟨rfl, hb⟩
      exact ⟨b, lc, rfl, hx.bel hb, .inl rfl, hb⟩
    · obtain ⟨er2, a2, b2, c2, d2, z2, h9, hc⟩ := some_read xs hxi rfl
      exact ⟨er2, a2, b2, c2, d2, z2, fun h => absurd h (by decide), h9, hc⟩
end Go.Proofs.YtldfmlkjeniemaaGreatDoor
/- A list of objects, as it comes in: what each one's five cells are. -/
set_option linter.unusedVariables false
namespace Go.Proofs.YtldfmlkjeniemaaGreatDoor
open Go.RowKit Go.Ly Go.Hd Go.Sh Go.Ob
/-- The five cells of an object. -/
abbrev ObS (b g : Nat) (x sh mk_ lk : Int) (v : Value) (W : World) : Prop :=
  W.cell? ⟨b, g, none⟩ = some (.int .i64 x) ∧ W.cell? ⟨b, g + 1, none⟩ = some (.int .i64 sh) ∧ W.cell? ⟨b, g + 2, none⟩ = some (.int .i64 mk_) ∧ W.cell? ⟨b, g + 3, none⟩ = some (.int .u64 lk) ∧ W.cell? ⟨b, g + 4, none⟩ = some v
theorem obS_below {b g : Nat} {x sh mk_ lk : Int} {v : Value} {W W' : World} (h : ObS b g x sh mk_ lk v W) (bw : Below W.heap.size W W') : ObS b g x sh mk_ lk v W' := by
  obtain ⟨h0, h1, h2, h3, h4⟩ := h
  exact ⟨hcell_below h0 bw, hcell_below h1 bw, hcell_below h2 bw, hcell_below h3 bw, hcell_below h4 bw⟩
/-- Each of so many objects. -/
def IsObs (W : World) (a : Option Addr) (len : Nat) : Prop := ∀ i, i < len → ∃ (b off : Nat) (x sh mk_ lk : Int) (fa : Option Addr) (fc : Nat) (zs : List Int), a = some ⟨b, off, none⟩ ∧ ObS b (off + i * 5) x sh mk_ lk (.slice fa zs.length fc) W ∧ FsAt 0 W (.slice fa zs.length fc) zs ∧ InW (lk :: zs)
theorem IsObs.below {W W' : World} {a : Option Addr} {len : Nat} (h : IsObs W a len) (k : Below W.heap.size W W') : IsObs W' a len := fun i hi => by
  obtain ⟨b, off, x, sh, mk_, lk, fa, fc, zs, e, h1, h2, h3⟩ := h i hi
  exact ⟨b, off, x, sh, mk_, lk, fa, fc, zs, e, obS_below h1 k, h2.below k, h3⟩
end Go.Proofs.YtldfmlkjeniemaaGreatDoor
/- The law ObjectNil. -/
set_option linter.unusedVariables false
namespace Go.Proofs.YtldfmlkjeniemaaGreatDoor
open Go.RowKit Go.Ly Go.Hd Go.Sh Go.Ob
theorem md_yes {t s m : Int} {ss : List ByteArray} {wn : Nat} (h : mdOk t s ss wn m = true) : rgt t s ss = true ∧ s ≤ 100 ∧ wn ≤ 300 ∧ -3 ≤ m ∧ m ≤ 3 := by simpa [mdOk, and_assoc] using h
end Go.Proofs.YtldfmlkjeniemaaGreatDoor
