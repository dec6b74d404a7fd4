/- package graph: isNone, Made; operations of slots alone. -/
import Derived.Test.YtlkhmfmocegekaaDoorGrKit
import Derived.Test.YtlkhmfmocegekaaDoorGrLeaf
import Derived.LaidEqlPtr
set_option linter.unusedVariables false
namespace Go.Proofs.YtlkhmfmocegekaaDoor
open Go.RowKit Go.Gr Go.Sh Go.Oq
theorem isNone_nil (w : World) : Calls Tryd.prog 18 #[.pointer none] w fun e w' => e = .returned (.bool true) ∧ w' = w := by
  go_enter Tryd.func18, Tryd.ntmps18
  go_wp2
  go_ret
  exact ⟨rfl, rfl⟩
theorem isNone_at (G : Nat) (n : Int) (w : World) (h : w.cell? ⟨G, 0, none⟩ = some (.int .i64 n)) : Calls Tryd.prog 18 #[.pointer (some ⟨G, 0, none⟩)] w fun e w' => e = .returned (.bool (n == 0)) ∧ w' = w := by
  go_enter Tryd.func18, Tryd.ntmps18
  go_wp2
  go_ret
  exact ⟨rfl, rfl⟩
theorem IsG.none_no {W : World} {γ : Gh} {g : Gr} (h : IsG W γ g) : Calls Tryd.prog 18 #[.pointer (some ⟨γ.G, 0, none⟩)] W fun e w' => e = .returned (.bool false) ∧ w' = W := by
  have := isNone_at γ.G g.rt.length W (at_row h.face 0 rfl)
  have e : ((g.rt.length : Int) == 0) = false := by rw [beq_eq_false_iff_ne]; have := h.ok.thr; omega
  rw [e] at this
  exact this
theorem made_nil (w : World) : Calls Tryd.prog 13 #[.pointer none] w fun e w' => e = .returned (.int .i64 0) ∧ w' = w := by
  go_enter Tryd.func13, Tryd.ntmps13
  go_wp2_with (go_at_call 18; refine (isNone_nil _).mono ?_; rintro e w' ⟨rfl, rfl⟩)
  go_ret
  exact ⟨rfl, rfl⟩
theorem IsG.made {W : World} {γ : Gh} {g : Gr} (h : IsG W γ g) : Calls Tryd.prog 13 #[.pointer (some ⟨γ.G, 0, none⟩)] W fun e w' => e = .returned (.int .i64 (g.m : Int)) ∧ w' = W := by
  have c := h.none_no
  have f4 := at_row h.face 4 rfl
  clear h
  go_enter Tryd.func13, Tryd.ntmps13
  go_wp2_with (go_at_call 18; refine c.mono ?_; rintro e w' ⟨rfl, hw⟩; rw [hw]; clear hw)
  go_ret
  exact ⟨rfl, rfl⟩
theorem two_new {w W : World} {A B : Obj} (h : (w.alloc A).alloc B = W) : W.heap[w.heap.size]? = some A ∧ W.heap[w.heap.size + 1]? = some B ∧ Below w.heap.size w W ∧ W.heap.size = w.heap.size + 1 + 1 := by
  subst h
  exact ⟨row2a (Below.refl _ _), row2b (Below.refl _ _), bel2 (Below.refl _ _), by simp⟩
/-- An operation under way. -/
abbrev dC (k a b c fl sh x y : Int) (G R o : Nat) : Array Value := #[.int .i64 k, .int .i64 a, .int .i64 b, .int .i64 c, .int .i64 fl, .int .i64 sh, .int .i64 x, .int .i64 y, .pointer (some ⟨G, 0, none⟩), .pointer (some ⟨R, o, none⟩)]
abbrev dV (k a b c fl sh x y : Int) (G R o : Nat) : Value := .agg (dC k a b c fl sh x y G R o)
abbrev dO (k a b c fl sh x y : Int) (G R o : Nat) : Obj := .cells (dC k a b c fl sh x y G R o) 66
theorem results_out {fn : Func} {p : Tmp} (h : fn.results = #[.cell p 39]) (tmps : Array Value) (w : World) (g : Nat) (e v : Int) (b : Bool)
    (hp : tmps.getD p undef = .pointer (some ⟨g, 0, none⟩)) (hg : w.heap[g]? = some (goutO e b v)) : (results fn tmps).run Tryd.prog w = .ok (goutV e b v) w := by
  have hp' : tmps[p]?.getD undef = .pointer (some ⟨g, 0, none⟩) := by simpa using hp
  have hu := Tryd.underlying39
  simp [results, h, hp', asAddr, run_loadVar_row w g 39 39 (goutC e b v) (0, 0) _ hg hu rfl (by kernel_rfl)]
/-- The answer is laid into its variable. -/
theorem out_set {w W : World} {γ : Gh} {g : Gr} {S : Nat → Prop} (h : IsG W γ g) (k : Wr S w W) {B : Nat} (hr : W.heap[B]? = some (goutO 0 false 0)) (hB : w.heap.size ≤ B) (e v : Value) (b : Value) :
    IsG (((W.setCell ⟨B, 0, none⟩ e).setCell ⟨B, 1, none⟩ b).setCell ⟨B, 2, none⟩ v) γ g ∧ Wr S w (((W.setCell ⟨B, 0, none⟩ e).setCell ⟨B, 1, none⟩ b).setCell ⟨B, 2, none⟩ v) ∧
      (((W.setCell ⟨B, 0, none⟩ e).setCell ⟨B, 1, none⟩ b).setCell ⟨B, 2, none⟩ v).heap[B]? = some (.cells #[e, b, v] 39) := by
  have k2 : Wr (fun b => b = B) W (((W.setCell ⟨B, 0, none⟩ e).setCell ⟨B, 1, none⟩ b).setCell ⟨B, 2, none⟩ v) :=
    ((wr_set W B 0 e).trans (wr_set _ B 1 b) (fun _ _ h => h)).trans (wr_set _ B 2 v) (fun _ _ h => h)
  refine ⟨h.frame k2 (fun b hb e => ?_) (fun e => ?_), k.trans k2 (fun i hi e => by omega), lset3 hr e b v⟩
  · subst e
    obtain ⟨cs, T, h1, h2⟩ := h.foot_ty hb
    rw [hr] at h1
    cases h1
    revert h2
    unfold gty
    decide
  · obtain ⟨cur, h1, _⟩ := h.tab
    rw [e, hr] at h1
    cases h1
/-- What an operation that is done leaves. -/
def Did (w : World) (γ : Gh) (g : Gr) (er : Int) (b : Bool) (v : Int) (e : Ending) (w' : World) : Prop := e = .returned (goutV er b v) ∧ IsG w' γ g ∧ Wr (foot γ) w w'
theorem did_end {fn : Func} {p : Tmp} (h : fn.results = #[.cell p 39]) {w W : World} {γ : Gh} {g : Gr} (hg : IsG W γ g) (k : Wr (foot γ) w W) {B : Nat} (hr : W.heap[B]? = some (goutO 0 false 0)) (hB : w.heap.size ≤ B) (e v : Int) (b : Bool) (tmps : Array Value) (hp : tmps.getD p undef = .pointer (some ⟨B, 0, none⟩)) :
    bodyPost Tryd.prog fn (Did w γ g e b v) Exit.ret { tmps := tmps, defers := [] } (((W.setCell ⟨B, 0, none⟩ (.int .i64 e)).setCell ⟨B, 1, none⟩ (.bool b)).setCell ⟨B, 2, none⟩ (.int .i64 v)) := by
  obtain ⟨h1, h2, h3⟩ := out_set hg k hr hB (.int .i64 e) (.int .i64 v) (.bool b)
  exact bodyPost_ret (results_out h _ _ B e v b hp h3) rfl ⟨rfl, h1, h2⟩
theorem did_end_d {fn : Func} {p : Tmp} (h : fn.results = #[.cell p 39]) {w W : World} {γ : Gh} {g : Gr} (hg : IsG W γ g) (k : Wr (foot γ) w W) {B : Nat} (hr : W.heap[B]? = some (goutO 0 false 0)) (hB : w.heap.size ≤ B) (e v : Int) (b : Bool) (tmps : Array Value) (hp : tmps.getD p undef = .pointer (some ⟨B, 0, none⟩)) :
    bodyPost Tryd.prog fn (Did w γ g e b v) Exit.ret { tmps := tmps, defers := [] } (((W.setCell ⟨B, 0, none⟩ (.int .i64 e)).setCell ⟨B, 1, none⟩ (.bool b)).setCell ⟨B, 2, none⟩ (.int .i64 v)).drew := by
  obtain ⟨h1, h2, h3⟩ := out_set hg k hr hB (.int .i64 e) (.int .i64 v) (.bool b)
  exact bodyPost_ret (results_out h _ _ B e v b hp h3) rfl ⟨rfl, h1.drew, h2.drew⟩
theorem gcollect_any (k a b c fl sh x y : Int) (γ : Gh) (g : Gr) (o : Nat) (w : World) (hG : IsG w γ g) : Calls Tryd.prog 64 #[dV k a b c fl sh x y γ.G γ.R o] w (Did w γ g 0 false 0) := by
  have HG := hid hG
  have hG := hG.lt
  go_enter Tryd.func64, Tryd.ntmps64
  go_wp2
  obtain ⟨W, hW⟩ : ∃ W, (w.alloc (dO k a b c fl sh x y γ.G γ.R o)).alloc (goutO 0 false 0) = W := ⟨_, rfl⟩
  obtain ⟨r1, r2, b1, hz⟩ := two_new hW
  rw [hW]
  exact bodyPost_ret (results_out Tryd.results64 _ _ (w.heap.size + 1) 0 0 false rfl r2) rfl ⟨rfl, HG.out.below b1, wr_below b1 _⟩
theorem gdrop_at (k b c fl sh x y : Int) (γ : Gh) (g : Gr) (t A : Nat) (ht : t < g.rt.length) (hA : A < 6) (w : World) (hG : IsG w γ g) : Calls Tryd.prog 63 #[dV k A b c fl sh x y γ.G γ.R (6 * t)] w (Did w γ (g.setS t A 0) 0 false 0) := by
  have h6 : (A : Int) < 6 := by omega
  have h0 : (0 : Int) ≤ (A : Int) := by omega
  have HG := hid hG
  clear hG
  go_enter Tryd.func63, Tryd.ntmps63
  go_wp2
  obtain ⟨W, hW⟩ : ∃ W, (w.alloc (dO k A b c fl sh x y γ.G γ.R (6 * t))).alloc (goutO 0 false 0) = W := ⟨_, rfl⟩
  rw [hW]
  obtain ⟨r1, r2, b1, hz⟩ := two_new hW
  have d1 := at_row r1 1 rfl
  have d9 := at_row r1 9 rfl
  have HG1 := hid (HG.out.below b1)
  have hc1 := HG1.out.slotc ht hA
  have hf1 := fz_row HG1.out.rts (6 * t + A)
  have R2 := hid r2
  have B1 := hid b1
  generalize hO : 6 * t = o at *
  clear hW r1 r2 b1
  go_region
  have HG2 : IsG ((W.setCell ⟨γ.R, o + A, none⟩ (.pointer none)).drew) γ (g.setS t A 0) := by
    rw [← hO]; exact (HG1.out.setS ht hA (Nat.zero_le _) (fun e => absurd rfl e)).drew
  have K2 : Wr (foot γ) w ((W.setCell ⟨γ.R, o + A, none⟩ (.pointer none)).drew) := ((wr_below B1.out (foot γ)).trans (wr_set W γ.R (o + A) (.pointer none)) (fun i _ e => .inr (.inl e))).drew
  have HR2 : ((W.setCell ⟨γ.R, o + A, none⟩ (.pointer none)).drew).heap[w.heap.size + 1]? = some (goutO 0 false 0) := (wr_set W γ.R (o + A) (.pointer none)).row R2.out (by have := HG.out.lt; omega)
  have HG2 := hid HG2
  have K2 := hid K2
  have HR2 := hid HR2
  generalize (W.setCell ⟨γ.R, o + A, none⟩ (.pointer none)).drew = W3 at *
  have c0 := at_row HR2.out 0 rfl
  have c1 := at_row HR2.out 1 rfl
  have c2 := at_row HR2.out 2 rfl
  have f0 := fz_row HR2.out 0
  have f1 := fz_row HR2.out 1
  have f2 := fz_row HR2.out 2
  clear d1 d9 hc1 hf1
  go_wp2
  exact did_end Tryd.results63 HG2.out K2.out HR2.out (by omega) 0 0 false _ rfl
theorem gmove_at (k c fl sh x y : Int) (γ : Gh) (g : Gr) (t A B : Nat) (ht : t < g.rt.length) (hA : A < 6) (hB : B < 6) (w : World) (hG : IsG w γ g) : Calls Tryd.prog 62 #[dV k A B c fl sh x y γ.G γ.R (6 * t)] w (Did w γ (g.setS t A (g.slot t B)) 0 false 0) := by
  have h6 : (A : Int) < 6 := by omega
  have h0 : (0 : Int) ≤ (A : Int) := by omega
  have h6b : (B : Int) < 6 := by omega
  have h0b : (0 : Int) ≤ (B : Int) := by omega
  have HG := hid hG
  have HL := hid (hG.rtl t B)
  have HM := hid (hG.ok.slo t B)
  clear hG
  go_enter Tryd.func62, Tryd.ntmps62
  go_wp2
  obtain ⟨W, hW⟩ : ∃ W, (w.alloc (dO k A B c fl sh x y γ.G γ.R (6 * t))).alloc (goutO 0 false 0) = W := ⟨_, rfl⟩
  rw [hW]
  obtain ⟨r1, r2, b1, hz⟩ := two_new hW
  have d1 := at_row r1 1 rfl
  have d2 := at_row r1 2 rfl
  have d9 := at_row r1 9 rfl
  have HG1 := hid (HG.out.below b1)
  have hcb := HG1.out.slotc ht hB
  have hc1 := HG1.out.slotc ht hA
  have hf1 := fz_row HG1.out.rts (6 * t + A)
  have R2 := hid r2
  have B1 := hid b1
  have HS := fun (hx : g.slot t B ≤ g.m) (hl : g.slot t B ≠ 0 → γ.live (g.slot t B)) => (HG1.out.setS ht hA hx hl).drew
  have HS := hid (HS HM.out HL.out)
  generalize g.slot t B = X at *
  generalize pp γ.at_ X = PX at *
  generalize hO : 6 * t = o at *
  clear hW r1 r2 b1
  go_region
  have K2 : Wr (foot γ) w ((W.setCell ⟨γ.R, o + A, none⟩ (.pointer PX)).drew) := ((wr_below B1.out (foot γ)).trans (wr_set W γ.R (o + A) _) (fun i _ e => .inr (.inl e))).drew
  have HR2 : ((W.setCell ⟨γ.R, o + A, none⟩ (.pointer PX)).drew).heap[w.heap.size + 1]? = some (goutO 0 false 0) := (wr_set W γ.R (o + A) _).row R2.out (by have := HG.out.lt; omega)
  have K2 := hid K2
  have HR2 := hid HR2
  generalize (W.setCell ⟨γ.R, o + A, none⟩ (.pointer PX)).drew = W3 at *
  have c0 := at_row HR2.out 0 rfl
  have c1 := at_row HR2.out 1 rfl
  have c2 := at_row HR2.out 2 rfl
  have f0 := fz_row HR2.out 0
  have f1 := fz_row HR2.out 1
  have f2 := fz_row HR2.out 2
  clear d1 d2 d9 hc1 hf1 hcb
  go_wp2
  exact did_end Tryd.results62 HS.out K2.out HR2.out (by omega) 0 0 false _ rfl
theorem ginfo_obj : (Tryd.prog.info? 76).map (fun i => (i.zero, i.size, i.bytes)) = some (some (.agg #[.int .i64 0, .slice none 0 0]), 2, 32) := by kernel_rfl
/-- Pointers to objects are held against each other. -/
theorem pv_equalIn {W : World} {γ : Gh} {g : Gr} (h : IsG W γ g) {x y : Nat} (hx : x ≠ 0 → γ.live x) (hy : y ≠ 0 → γ.live y) (d : Nat) : (Op.equalIn (d + 1) 60 (.pointer (pp γ.at_ x)) (.pointer (pp γ.at_ y))).run Tryd.prog W = .ok (x == y) W := by
  have hu := Tryd.underlying60
  by_cases h0 : x = 0
  · subst h0
    by_cases h1 : y = 0
    · subst h1
      rw [pp_zero]
      simp [Op.equalIn, run_underlying hu]
    · rw [pp_zero, pp_pos _ h1]
      have : (0 == y) = false := by rw [beq_eq_false_iff_ne]; omega
      rw [this]
      simp [Op.equalIn, run_underlying hu]
  · by_cases h1 : y = 0
    · subst h1
      rw [pp_zero, pp_pos _ h0]
      have : (x == 0) = false := by rw [beq_eq_false_iff_ne]; omega
      rw [this]
      simp [Op.equalIn, run_underlying hu]
    · rw [pp_pos _ h0, pp_pos _ h1]
      have hi : ∃ j, Tryd.prog.info? 76 = some j ∧ j.size ≠ 0 := by
        obtain ⟨i, h1, h2, h3, h4⟩ := info_parts ginfo_obj
        exact ⟨i, h1, by rw [h3]; decide⟩
      obtain ⟨j, hj, hsz⟩ := hi
      by_cases e : x = y
      · subst e
        have : (x == x) = true := by simp
        rw [this]
        simp [Op.equalIn, run_underlying hu, sizeOf, typeInfo, hj, run_sameAddr_same]
      · have : (x == y) = false := by rw [beq_eq_false_iff_ne]; exact e
        rw [this]
        obtain ⟨a1, c1, r1, _⟩ := (h.obj x (hx h0)).row
        obtain ⟨a2, c2, r2, _⟩ := (h.obj y (hy h1)).row
        have hne : (⟨γ.at_ x, 0, none⟩ : Addr) ≠ ⟨γ.at_ y, 0, none⟩ := fun q => e (h.inj x y (hx h0) (hy h1) (by injection q))
        simp [Op.equalIn, run_underlying hu, sizeOf, typeInfo, hj, hsz, run_sameAddr_other W hne r1 r2]
theorem pv_eql {W : World} {γ : Gh} {g : Gr} (h : IsG W γ g) {x y : Nat} (hx : x ≠ 0 → γ.live x) (hy : y ≠ 0 → γ.live y) : (binOp .eql 60 (.pointer (pp γ.at_ x)) (.pointer (pp γ.at_ y))).run Tryd.prog W = .ok (.bool (x == y)) W := by
  simp only [binOp]
  simp [Op.equal, Op.maxDepth, pv_equalIn h hx hy 9999]
theorem pv_neq {W : World} {γ : Gh} {g : Gr} (h : IsG W γ g) {x y : Nat} (hx : x ≠ 0 → γ.live x) (hy : y ≠ 0 → γ.live y) : (binOp .neq 60 (.pointer (pp γ.at_ x)) (.pointer (pp γ.at_ y))).run Tryd.prog W = .ok (.bool (x != y)) W := by
  simp only [binOp]
  simp [Op.equal, Op.maxDepth, pv_equalIn h hx hy 9999]
  simp only [bne, Bool.not_not]
theorem geq_at (k c fl sh x y : Int) (γ : Gh) (g : Gr) (t A B : Nat) (ht : t < g.rt.length) (hA : A < 6) (hB : B < 6) (w : World) (hG : IsG w γ g) : Calls Tryd.prog 61 #[dV k A B c fl sh x y γ.G γ.R (6 * t)] w (Did w γ g 0 (g.slot t A == g.slot t B) 0) := by
  have h6 : (A : Int) < 6 := by omega
  have h0 : (0 : Int) ≤ (A : Int) := by omega
  have h6b : (B : Int) < 6 := by omega
  have h0b : (0 : Int) ≤ (B : Int) := by omega
  have HG := hid hG
  have HLA := hid (hG.rtl t A)
  have HLB := hid (hG.rtl t B)
  clear hG
  go_enter Tryd.func61, Tryd.ntmps61
  go_wp2
  obtain ⟨W, hW⟩ : ∃ W, (w.alloc (dO k A B c fl sh x y γ.G γ.R (6 * t))).alloc (goutO 0 false 0) = W := ⟨_, rfl⟩
  rw [hW]
  obtain ⟨r1, r2, b1, hz⟩ := two_new hW
  have d1 := at_row r1 1 rfl
  have d2 := at_row r1 2 rfl
  have d9 := at_row r1 9 rfl
  have HG1 := hid (HG.out.below b1)
  have hcb := HG1.out.slotc ht hB
  have hca := HG1.out.slotc ht hA
  have R2 := hid r2
  have B1 := hid b1
  have he := pv_eql HG1.out HLA.out HLB.out
  have he2 := pv_eql HG1.out.drew HLA.out HLB.out
  generalize hE : (g.slot t A == g.slot t B) = E at *
  generalize pp γ.at_ (g.slot t B) = VB at *
  generalize pp γ.at_ (g.slot t A) = VA at *
  have c0 := at_row r2 0 rfl
  have c1 := at_row r2 1 rfl
  have c2 := at_row r2 2 rfl
  have f0 := fz_row r2 0
  have f1 := fz_row r2 1
  have f2 := fz_row r2 2
  generalize hO : 6 * t = o at *
  clear hW r1 r2 b1 HLA HLB hE
  go_region
  go_wp2
  exact did_end_d Tryd.results61 HG1.out (wr_below B1.out _) R2.out (by omega) 0 0 E _ rfl
end Go.Proofs.YtlkhmfmocegekaaDoor
