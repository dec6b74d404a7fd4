/- package graph: do, by what the plain operation answers. -/
import Derived.Test.YtlkhmfmocegekaaDoorGrN
import Derived.Test.YtlkhmfmocegekaaDoorGrE
set_option linter.unusedVariables false
namespace Go.Proofs.YtlkhmfmocegekaaDoor
open Go.RowKit Go.Gr Go.Sh Go.Oq
theorem sam_congr {f h : Nat → Int} (e : ∀ i, i < 8 → f i = h i) : sam (only f) f = sam (only h) h := by
  rw [Bool.eq_iff_iff, sam_iff, sam_iff]
  have key : ∀ i, i < 8 → only f i = only h i := fun i hi => by
    unfold only
    rw [lay_at, lay_at, e 0 (by omega), e i hi]
  exact ⟨fun q i hi => by rw [← key i hi, ← e i hi]; exact q i hi, fun q i hi => by rw [key i hi, e i hi]; exact q i hi⟩
theorem chk_congr (ss : List ByteArray) {f h : Nat → Int} (e : ∀ i, i < 8 → f i = h i) : chk ss f = chk ss h := by
  unfold chk bare
  rw [sam_congr e, e 0 (by omega), e 1 (by omega), e 2 (by omega), e 3 (by omega), e 5 (by omega), e 6 (by omega), e 7 (by omega)]
theorem chk_opF (ss : List ByteArray) (f : Nat → Int) : chk ss (opF (f 0) (f 1) (f 2) (f 3) (f 4) (f 5) (f 6) (f 7)) = chk ss f :=
  chk_congr ss fun i hi => by
    have : i = 0 ∨ i = 1 ∨ i = 2 ∨ i = 3 ∨ i = 4 ∨ i = 5 ∨ i = 6 ∨ i = 7 := by omega
    rcases this with rfl | rfl | rfl | rfl | rfl | rfl | rfl | rfl <;> rfl
/-- What holds of an operation under way. -/
def DoneAs (γ : Gh) (w : World) (r : Gr × Ans) (e : Ending) (w' : World) : Prop :=
  (r.2.1 = 0 ∧ DidE w γ r.1 0 r.2.2.1 r.2.2.2 e w') ∨ (r.2.1 ≠ 0 ∧ r.2.2 = (false, 0) ∧ e = gupE r.2.1 ∧ Below w.heap.size w w')
theorem int_nat {x : Int} (h : 0 ≤ x) : ∃ n : Nat, x = (n : Int) := ⟨x.toNat, by omega⟩
theorem ptr_of {s : ByteArray} (h : one s = true) {F : Nat} (hF : F < s.size) {v : Int} (hk : kb (s.data.toList.getD F 0) = v) : (v = 0 → Gr.ptr s F = true) ∧ (v = 1 → Gr.ptr s F = false) := by
  have := ptr_kb h hF
  constructor
  · intro e; exact this.2 (by rw [hk, e])
  · intro e
    cases hp : Gr.ptr s F with
    | false => rfl
    | true => rw [this.1 hp] at hk; omega
set_option maxHeartbeats 1000000 in
/-- An operation of a field, where it is told. -/
theorem gmid_yes (f : Nat → Int) (γ : Gh) (g : Gr) (t X F : Nat) (ht : t < g.rt.length) (hm : g.m < 1000) (hf : May g.ss f) (w : World) (hG : IsG w γ g) (hX : X ≠ 0) (hs : g.slot t (f 1).toNat = X) (hF : f 4 = (F : Int)) (hFs : F < (g.txt X).size) (hkb : kb ((g.txt X).data.toList.getD F 0) = fld (f 0).toNat)
    (hz : iz g.ss (g.shp X) F (fld (f 0).toNat) = 0) (k1 : 2 ≤ (f 0).toNat) (k2 : (f 0).toNat ≤ 7) :
    Calls Tryd.prog (dfn (f 0).toNat) #[dV (f 0) (f 1) (f 2) (f 3) (f 4) (f 5) (f 6) (f 7) γ.G γ.R (6 * t)] w (fun e w' => (deedF g t f X).2.1 = 0 ∧ DidE w γ (deedF g t f X).1 0 (deedF g t f X).2.2.1 (deedF g t f X).2.2.2 e w') := by
  have hl := hG.rtl t (f 1).toNat
  rw [hs] at hl
  have hlX := hl hX
  have hXn := (hG.obj X hlX).num
  have hone : one (g.txt X) = true := right_all hG.ok.rgt _ (hG.ok.shs X hXn.1 hXn.2)
  obtain ⟨hp0, hp1⟩ := ptr_of hone hFs hkb
  obtain ⟨a, cp, hrow, hfs⟩ := (hG.obj X hlX).row
  obtain ⟨FB, hFB, _⟩ := hfs (by omega)
  have hb := hG.ok.bnd X F
  have hld := (hG.obj X hlX).led F hFs
  have hHm : hn g X F ≤ g.m := by
    by_cases h0 : hn g X F = 0
    · omega
    · exact (hG.obj _ (hld h0)).num.2
  obtain ⟨A, hA⟩ := int_nat hf.a.1
  obtain ⟨B, hB⟩ := int_nat hf.b.1
  obtain ⟨C, hC⟩ := int_nat hf.c.1
  have a6 : A < 6 := by have := hf.a; omega
  have b6 : B < 6 := by have := hf.b; omega
  have c6 : C < 6 := by have := hf.c; omega
  have eA : (f 1).toNat = A := by omega
  have eB : (f 2).toNat = B := by omega
  have eC : (f 3).toNat = C := by omega
  have eF : (f 4).toNat = F := by omega
  rw [eA] at hs
  have hz' := hid hz
  unfold deedF
  rw [eB, eC, eF]
  rw [hA, hB, hC, hF]
  have hcases : (f 0).toNat = 2 ∨ (f 0).toNat = 3 ∨ (f 0).toNat = 4 ∨ (f 0).toNat = 5 ∨ (f 0).toNat = 6 ∨ (f 0).toNat = 7 := by omega
  have hfx := hf.x
  have hfy := hf.y
  rcases hcases with e | e | e | e | e | e <;> rw [e] at hp0 hp1 ⊢
  · have hp := hp0 rfl
    have eH : hn g X F = (g.fld X F).toNat := by unfold hn; rw [if_pos hp]
    have hpos := hG.ok.ptr X F hXn.1 hXn.2 hp
    have := gget_yes (f 0) C (f 5) (f 6) (f 7) γ g t A B X F FB ht a6 b6 w hG hs hX hz' hFs hFB hHm
    refine this.mono fun e w' h => ⟨rfl, ?_⟩
    have hd := h.ext
    rw [eH] at hd
    have : ((g.fld X F).toNat != 0) = (g.fld X F != 0) := by
      by_cases h0 : g.fld X F = 0
      · rw [h0]; rfl
      · have e1 : ((g.fld X F).toNat != 0) = true := by rw [bne_iff_ne]; omega
        have e2 : (g.fld X F != 0) = true := by rw [bne_iff_ne]; exact h0
        rw [e1, e2]
    rw [this] at hd
    exact hd
  · have hp := hp0 rfl
    exact (gput_yes (f 0) C (f 5) (f 6) (f 7) γ g t A B X F FB ht a6 b6 w hG hs hX hz' hFs hFB hp).mono fun e w' h => ⟨rfl, h.ext⟩
  · have hp := hp0 rfl
    have eH : hn g X F = (g.fld X F).toNat := by unfold hn; rw [if_pos hp]
    have hpos := hG.ok.ptr X F hXn.1 hXn.2 hp
    by_cases hc : g.fld X F = (g.slot t B : Int)
    · rw [if_pos hc]
      exact (gcas_yes (f 0) (f 5) (f 6) (f 7) γ g t A B C X F FB ht a6 b6 c6 w hG hs hX hz' hFs hFB (g.setF X F (g.slot t C)) true rfl
        (fun W hW => swapP_yes γ g X F FB (g.slot t B) (g.slot t C) W hW hlX hFs hFB (hG.rtl t B) (by rw [eH, hc]; simp) hp (hG.rtl t C) (hG.ok.slo t C))).mono fun e w' h => ⟨rfl, h.ext⟩
    · rw [if_neg hc]
      exact (gcas_yes (f 0) (f 5) (f 6) (f 7) γ g t A B C X F FB ht a6 b6 c6 w hG hs hX hz' hFs hFB g false rfl
        (fun W hW => swapP_no γ g X F FB (g.slot t B) (g.slot t C) W hW hlX hFs hFB (hG.rtl t B) (by rw [eH]; omega))).mono fun e w' h => ⟨rfl, h.ext⟩
  · have hp := hp1 rfl
    have eS : sn g X F = g.fld X F := by unfold sn; rw [hp]; rfl
    have := ggetInt_yes (f 0) B C (f 5) (f 6) (f 7) γ g t A X F FB ht a6 w hG hs hX hz' hFs hFB
    rw [eS] at this
    exact this.mono fun e w' h => ⟨rfl, h.ext⟩
  · have hp := hp1 rfl
    exact (gputInt_yes (f 0) B C (f 5) (f 6) (f 7) γ g t A X F FB ht a6 w hG hs hX hz' hFs hFB hp (by omega)).mono fun e w' h => ⟨rfl, h.ext⟩
  · have hp := hp1 rfl
    have eS : sn g X F = g.fld X F := by unfold sn; rw [hp]; rfl
    by_cases hc : g.fld X F = f 6
    · rw [if_pos hc]
      exact (gcasInt_yes (f 0) B C (f 5) (f 6) (f 7) γ g t A X F FB ht a6 w hG hs hX hz' hFs hFB (g.setF X F (f 7)) true
        (fun W hW => swapI_yes γ g X F FB (f 6) (f 7) W hW hlX hFs hFB (by rw [eS]; exact hc) hp (by omega))).mono fun e w' h => ⟨rfl, h.ext⟩
    · rw [if_neg hc]
      exact (gcasInt_yes (f 0) B C (f 5) (f 6) (f 7) γ g t A X F FB ht a6 w hG hs hX hz' hFs hFB g false
        (fun W hW => swapI_no γ g X F FB (f 6) (f 7) W hW hlX hFs hFB (by rw [eS]; exact hc))).mono fun e w' h => ⟨rfl, h.ext⟩
/-- .. where it is not. -/
theorem gmid_up (f : Nat → Int) (γ : Gh) (g : Gr) (t : Nat) (ht : t < g.rt.length) (hf : May g.ss f) (w : World) (hG : IsG w γ g) (z : Int)
    (hc : ∀ W, Below w.heap.size w W → Calls Tryd.prog 71 #[dV (f 0) (f 1) (f 2) (f 3) (f 4) (f 5) (f 6) (f 7) γ.G γ.R (6 * t)] W fun e w' => e = gupE z ∧ Below W.heap.size W w') (k1 : 2 ≤ (f 0).toNat) (k2 : (f 0).toNat ≤ 7) :
    Calls Tryd.prog (dfn (f 0).toNat) #[dV (f 0) (f 1) (f 2) (f 3) (f 4) (f 5) (f 6) (f 7) γ.G γ.R (6 * t)] w fun e w' => e = gupE z ∧ Below w.heap.size w w' := by
  have hcases : (f 0).toNat = 2 ∨ (f 0).toNat = 3 ∨ (f 0).toNat = 4 ∨ (f 0).toNat = 5 ∨ (f 0).toNat = 6 ∨ (f 0).toNat = 7 := by omega
  obtain ⟨B, hB⟩ := int_nat hf.b.1
  have b6 : B < 6 := by have := hf.b; omega
  rcases hcases with e | e | e | e | e | e <;> rw [e]
  · exact gget_up _ _ _ _ _ _ _ _ z _ _ _ w hc
  · exact gput_up _ _ _ _ _ _ _ _ z _ _ _ w hc B (by omega) (by omega) hB _ (hG.slotc ht b6)
  · exact gcas_up _ _ _ _ _ _ _ _ z _ _ _ w hc
  · exact ggetInt_up _ _ _ _ _ _ _ _ z _ _ _ w hc
  · exact gputInt_up _ _ _ _ _ _ _ _ z _ _ _ w hc
  · exact gcasInt_up _ _ _ _ _ _ _ _ z _ _ _ w hc
theorem DoneAs.yes {γ : Gh} {w w' : World} {r : Gr × Ans} {e : Ending} (h : r.2.1 = 0 ∧ DidE w γ r.1 0 r.2.2.1 r.2.2.2 e w') : DoneAs γ w r e w' := .inl h
set_option maxHeartbeats 1000000 in
/-- An operation, done or refused. -/
theorem gdo_done (f : Nat → Int) (γ : Gh) (g : Gr) (t : Nat) (ht : t < g.rt.length) (hm : g.m < 1000) (w : World) (hG : IsG w γ g) :
    Calls Tryd.prog 20 #[dV (f 0) (f 1) (f 2) (f 3) (f 4) (f 5) (f 6) (f 7) γ.G γ.R (6 * t)] w (DoneAs γ w (gdo g t f)) := by
  by_cases hc : chk g.ss f = 0
  · have hf := chk_may hc
    have hcz : Hid (chk g.ss (opF (f 0) (f 1) (f 2) (f 3) (f 4) (f 5) (f 6) (f 7)) = 0) := hid (by rw [chk_opF]; exact hc)
    obtain ⟨K, hK⟩ := int_nat (x := f 0) (by have := hf.kin; omega)
    have k1 : 1 ≤ K := by have := hf.kin; omega
    have k2 : K ≤ 11 := by have := hf.kin; omega
    have eK : (f 0).toNat = K := by omega
    have yes : ∀ (r : Gr × Ans), (∀ W, Below w.heap.size w W → IsG W γ g → Calls Tryd.prog (dfn K) #[dV (f 0) (f 1) (f 2) (f 3) (f 4) (f 5) (f 6) (f 7) γ.G γ.R (6 * t)] W (fun e w' => r.2.1 = 0 ∧ DidE W γ r.1 0 r.2.2.1 r.2.2.2 e w')) → r.2.1 = 0 →
        Calls Tryd.prog 20 #[dV (f 0) (f 1) (f 2) (f 3) (f 4) (f 5) (f 6) (f 7) γ.G γ.R (6 * t)] w (DoneAs γ w r) := by
      intro r h hr
      rw [hK] at hcz h ⊢
      exact (gdo_yes K _ _ _ _ _ _ _ γ g _ w hG k1 k2 hcz r.1 0 r.2.2.2 r.2.2.1 (fun W b hW => (h W b hW).mono fun e w' q => q.2)).mono fun e w' q => .inl ⟨hr, q⟩
    have no : ∀ (z : Int), z ≠ 0 → (∀ W, Below w.heap.size w W → IsG W γ g → Calls Tryd.prog (dfn K) #[dV (f 0) (f 1) (f 2) (f 3) (f 4) (f 5) (f 6) (f 7) γ.G γ.R (6 * t)] W (fun e w' => e = gupE z ∧ Below W.heap.size W w')) →
        Calls Tryd.prog 20 #[dV (f 0) (f 1) (f 2) (f 3) (f 4) (f 5) (f 6) (f 7) γ.G γ.R (6 * t)] w (DoneAs γ w (g, (z, false, 0))) := by
      intro z hz h
      rw [hK] at hcz h ⊢
      exact (gdo_up K _ _ _ _ _ _ _ γ g _ w hG k1 k2 hcz z (fun W b hW => h W b hW)).mono fun e w' q => .inr ⟨hz, rfl, q⟩
    obtain ⟨A, hA⟩ := int_nat hf.a.1
    obtain ⟨B, hB⟩ := int_nat hf.b.1
    obtain ⟨Sh, hS⟩ := int_nat hf.shp.1
    have a6 : A < 6 := by have := hf.a; omega
    have b6 : B < 6 := by have := hf.b; omega
    have sl : Sh < g.ss.length := by have := hf.shp; omega
    have eA : (f 1).toNat = A := by omega
    have eB : (f 2).toNat = B := by omega
    have eS : (f 5).toNat = Sh := by omega
    unfold gdo
    rw [if_pos hc]
    have hcases : (f 0).toNat = 1 ∨ (f 0).toNat = 8 ∨ (f 0).toNat = 9 ∨ (f 0).toNat = 10 ∨ (f 0).toNat = 11 ∨ (2 ≤ (f 0).toNat ∧ (f 0).toNat ≤ 7) := by omega
    rcases hcases with e | e | e | e | e | ⟨q1, q2⟩
    · unfold deed; rw [e, eA, eS]
      refine yes _ (fun W b hW => ?_) rfl
      rw [hA, hS, ← eK, e]
      exact (galloc_at _ _ _ _ _ _ γ g t A Sh ht a6 sl hm W hW).mono fun e' w' q => ⟨rfl, q⟩
    · unfold deed; rw [e, eA, eB]
      refine yes _ (fun W b hW => ?_) rfl
      rw [hA, hB, ← eK, e]
      exact (geq_at _ _ _ _ _ _ γ g t A B ht a6 b6 W hW).mono fun e' w' q => ⟨rfl, q.ext⟩
    · unfold deed; rw [e, eA, eB]
      refine yes _ (fun W b hW => ?_) rfl
      rw [hA, hB, ← eK, e]
      exact (gmove_at _ _ _ _ _ _ γ g t A B ht a6 b6 W hW).mono fun e' w' q => ⟨rfl, q.ext⟩
    · unfold deed; rw [e, eA]
      refine yes _ (fun W b hW => ?_) rfl
      rw [hA, ← eK, e]
      exact (gdrop_at _ _ _ _ _ _ _ γ g t A ht a6 W hW).mono fun e' w' q => ⟨rfl, q.ext⟩
    · unfold deed; rw [e]
      refine yes _ (fun W b hW => ?_) rfl
      rw [← eK, e]
      exact (gcollect_any _ _ _ _ _ _ _ _ γ g _ W hW).mono fun e' w' q => ⟨rfl, q.ext⟩
    · rw [deed_mid g t f q1 q2]
      by_cases h0 : g.slot t (f 1).toNat = 0
      · rw [if_pos h0]
        refine no 183 (by decide) (fun W b hW => ?_)
        rw [← eK]
        refine gmid_up f γ g t ht hf W hW 183 (fun W2 b2 => ?_) q1 q2
        rw [eA] at h0
        rw [hA]
        exact gfield_null _ _ _ _ _ _ _ γ g t A ht a6 W2 (hW.below b2) h0
      · rw [if_neg h0]
        by_cases hz : iz g.ss (g.shp (g.slot t (f 1).toNat)) (f 4) (fld (f 0).toNat) = 0
        · rw [if_pos hz]
          obtain ⟨F, hF, hFs, hkb⟩ := iz_zero hz
          have hFs' : F < (g.txt (g.slot t (f 1).toNat)).size := by unfold Gr.txt; simpa using hFs
          have hkb' : kb ((g.txt (g.slot t (f 1).toNat)).data.toList.getD F 0) = fld (f 0).toNat := by unfold Gr.txt; simpa using hkb
          have key := fun W (hW : IsG W γ g) => gmid_yes f γ g t (g.slot t (f 1).toNat) F ht hm hf W hW h0 rfl hF hFs' hkb' (by rw [← hF]; exact hz) q1 q2
          refine yes _ (fun W b hW => ?_) (deedF_zero g t f _)
          rw [← eK]
          exact key W hW
        · rw [if_neg hz]
          refine no _ hz (fun W b hW => ?_)
          rw [← eK]
          refine gmid_up f γ g t ht hf W hW _ (fun W2 b2 => ?_) q1 q2
          rw [eA] at h0 hz ⊢
          rw [hA]
          exact gfield_is _ _ _ _ _ _ _ γ g t A (g.slot t A) ht a6 W2 (hW.below b2) rfl h0 _ (hid rfl) hz
  · unfold gdo
    rw [if_neg hc]
    exact (gdo_no _ _ _ _ _ _ _ _ (chk g.ss f) γ g _ w hG (hid (chk_opF _ _)) hc).mono fun e w' q => .inr ⟨hc, rfl, q⟩
end Go.Proofs.YtlkhmfmocegekaaDoor
