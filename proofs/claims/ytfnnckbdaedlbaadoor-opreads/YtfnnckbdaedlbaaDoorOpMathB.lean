/- package op, plain: what is read of a text is the operation, and the text of what is read is the text. -/
import Derived.Test.YtfnnckbdaedlbaaDoorOpMath
namespace Go.Oq
open Go.Lib Go.Proofs.YtfnnckbdaedlbaaDoor Go.Sh
/-- Numbers of 64 bits. -/
def rng (f : Nat → Int) : Prop := ∀ i, i < 8 → -9223372036854775808 ≤ f i ∧ f i ≤ 9223372036854775807
theorem kin_bd {k : Int} (h : kin k = true) : 1 ≤ k ∧ k ≤ 11 := by simpa [kin] using h
theorem only_at (f : Nat → Int) (i : Nat) : only f i = if i ∈ alln (f 0).toNat then f i else if i = 0 then f 0 else 0 := by
  rw [only, lay_at]; rfl
theorem bare_iff (f : Nat → Int) : bare f = true ↔ kin (f 0) = true ∧ ∀ i, 1 ≤ i → i < 8 → i ∉ alln (f 0).toNat → f i = 0 := by
  rw [bare, Bool.and_eq_true, sam_iff]
  constructor
  · rintro ⟨h, h2⟩
    refine ⟨h, fun i h1 h8 hi => ?_⟩
    have := h2 i h8
    rw [only_at, if_neg hi, if_neg (by omega)] at this
    exact this.symm
  · rintro ⟨h, h2⟩
    refine ⟨h, fun i h8 => ?_⟩
    rw [only_at]
    by_cases hi : i ∈ alln (f 0).toNat
    · rw [if_pos hi]
    · rw [if_neg hi]
      by_cases h0 : i = 0
      · subst h0; rw [if_pos rfl]
      · rw [if_neg h0, h2 i (by omega) h8 hi]
theorem prs_txt (f : Nat → Int) : ∀ (js : List Nat) (g : Nat → Int), (∀ j ∈ js, -9223372036854775808 ≤ f j ∧ f j ≤ 9223372036854775807) → prs js (js.map fun j => dgB (f j)) g = some (lay f js g)
  | [], _, _ => rfl
  | j :: js, g, h => by
    have hj := h j (by simp)
    have e : whl (at' ((j :: js).map fun j => dgB (f j)) 0).data.toList = some (f j) := whl_of ⟨rfl, hj.1, hj.2⟩
    rw [prs, e]
    exact prs_txt f js _ (fun i hi => h i (by simp [hi]))
theorem bs_eq {s : ByteArray} {l : List UInt8} (h : l = s.data.toList) : bs l = s := by subst h; rfl
theorem prs_inv : ∀ (js : List Nat) (ws : List ByteArray) (g h : Nat → Int), js.Nodup → ws.length = js.length → prs js ws g = some h →
    ws = js.map (fun j => dgB (h j)) ∧ (∀ i, i ∉ js → h i = g i) ∧ ∀ j ∈ js, -9223372036854775808 ≤ h j ∧ h j ≤ 9223372036854775807
  | [], ws, g, h, _, hl, e => by
    have : ws = [] := List.eq_nil_of_length_eq_zero hl
    subst this
    simp only [prs, Option.some.injEq] at e
    subst e
    exact ⟨rfl, fun _ _ => rfl, by simp⟩
  | j :: js, [], g, h, _, hl, _ => by simp at hl
  | j :: js, w :: ws, g, h, hn, hl, e => by
    have hl' : ws.length = js.length := by simpa using hl
    rw [List.nodup_cons] at hn
    unfold prs at e
    cases hv : whl (at' (w :: ws) 0).data.toList with
    | none => rw [hv] at e; cases e
    | some v =>
      rw [hv] at e
      obtain ⟨h1, h2, h3⟩ := prs_inv js ws _ h hn.2 hl' e
      have hj : h j = v := by rw [h2 j hn.1, upd_same]
      obtain ⟨a, b, c⟩ := whl_some hv
      refine ⟨?_, fun i hi => ?_, fun i hi => ?_⟩
      · rw [List.map_cons, ← h1, hj]
        congr 1
        exact (bs_eq a).symm
      · simp only [List.mem_cons, not_or] at hi
        rw [h2 i hi.2, upd_other _ _ hi.1]
      · rw [List.mem_cons] at hi
        rcases hi with rfl | hi
        · rw [hj]; exact ⟨b, c⟩
        · exact h3 i hi
theorem nam_clear {K : Nat} : ∀ c ∈ (nam K).data.toList, c ≠ 32 := by
  intro c hc e
  subst e
  unfold nam at hc
  split at hc <;> revert hc <;> decide
theorem wds_data (f : Nat → Int) : ∀ p ∈ (wds f).map (·.data.toList), ∀ c ∈ p, c ≠ 32 := by
  intro p hp c hc
  simp only [wds, List.map_cons, List.map_map, List.mem_cons, List.mem_map] at hp
  rcases hp with rfl | ⟨j, _, rfl⟩
  · exact nam_clear c hc
  · exact itoa_clear _ c hc
theorem spB_txt (f : Nat → Int) : spB (txt f) = wds f := by
  rw [spB, txt, bs_data, sp_jn (by simp [wds]) (wds_data f), List.map_map]
  exact List.map_id'' (fun _ => rfl) _
/-- What is read of an operation's text. -/
theorem rd_txt {f : Nat → Int} (h : bare f = true) (hr : rng f) : ∃ g, rdS (txt f) = some g ∧ ∀ i, i < 8 → g i = f i := by
  have hb := (bare_iff f).1 h
  have hk := kin_bd hb.1
  have e1 : knd (at' (wds f) 0) = (f 0).toNat := by
    show knd (nam (f 0).toNat) = _
    exact knd_nam (by omega) (by omega)
  have e2 : (((f 0).toNat : Nat) : Int) = f 0 := by omega
  refine ⟨lay f (alln (f 0).toNat) (bar (f 0)), ?_, fun i hi => ?_⟩
  · rw [rdS, spB_txt, rdW, e1, if_neg (by omega), if_neg (by simp [wds]; omega), e2]
    exact prs_txt f _ _ (fun j hj => hr j (alln_lt _ j hj).2)
  · exact (sam_iff (only f) f).1 (by rw [bare, Bool.and_eq_true] at h; exact h.2) i hi
/-- What is read of a text. -/
theorem txt_rd {s : ByteArray} {g : Nat → Int} (h : rdS s = some g) : bare g = true ∧ txt g = s ∧ rng g := by
  unfold rdS rdW at h
  split at h
  · cases h
  · next h0 =>
    split at h
    · cases h
    · next hl =>
      have hlen : (spB s).length = 1 + (alln (knd (at' (spB s) 0))).length := Classical.not_not.1 hl
      obtain ⟨hn, k1, k2⟩ := nam_knd h0
      generalize hK : knd (at' (spB s) 0) = K at *
      obtain ⟨a, b, c⟩ := prs_inv _ _ _ _ (alln_nodup K) (by rw [List.length_tail, hlen]; omega) h
      have g0 : g 0 = (K : Int) := by rw [b 0 (fun hi => by have := alln_lt K 0 hi; omega)]; rfl
      have gt : (g 0).toNat = K := by omega
      have hz : ∀ i, 1 ≤ i → i ∉ alln K → g i = 0 := fun i h1 hi => by rw [b i hi]; exact if_neg (by omega)
      have hw : wds g = spB s := by
        rw [wds, gt, ← a, hn]
        cases hs : spB s with
        | nil => rw [hs, List.length_nil] at hlen; omega
        | cons x t => rfl
      refine ⟨(bare_iff g).2 ⟨by rw [g0]; simp [kin]; omega, fun i h1 _ hi => hz i h1 (by rwa [gt] at hi)⟩, ?_, fun i hi => ?_⟩
      · rw [txt, hw, spB, List.map_map]
        have : (sp s.data.toList).map ((fun x : ByteArray => x.data.toList) ∘ bs) = sp s.data.toList := List.map_id'' (fun x => rfl) _
        rw [this, jn_sp]
        exact bs_of s
      · by_cases hj : i ∈ alln K
        · exact c i hj
        · by_cases h1 : i = 0
          · subst h1; rw [g0]; omega
          · rw [hz i (by omega) hj]; omega
theorem txt_same {f g : Nat → Int} (hf : bare f = true) (hg : bare g = true) (rf : rng f) (rg : rng g) : ((txt f).toList == (txt g).toList) = sam f g := by
  rw [Bool.eq_iff_iff, beq_iff_eq, sam_iff, Wd.toL, Wd.toL]
  constructor
  · intro e i hi
    have e : txt f = txt g := by rw [← bs_of (txt f), e, bs_of]
    obtain ⟨a, ha, ha2⟩ := rd_txt hf rf
    obtain ⟨b, hb, hb2⟩ := rd_txt hg rg
    rw [e, hb] at ha
    cases ha
    rw [← ha2 i hi, hb2 i hi]
  · intro h
    have e0 := h 0 (by omega)
    have : wds f = wds g := by
      rw [wds, wds, e0]
      congr 1
      apply List.map_congr_left
      intro j hj
      rw [h j (alln_lt _ j hj).2]
    rw [txt, txt, this]
theorem whl_range {l : List UInt8} {v : Int} (h : whl l = some v) : -9223372036854775808 ≤ v ∧ v ≤ 9223372036854775807 := (whl_some h).2
theorem dec_len {u : Nat} (h : u ≤ 18446744073709551615) : (decDigits u).length ≤ 20 := decDigits_len20 u h
theorem itoa_len {v : Int} (h0 : -9223372036854775808 ≤ v) (h1 : v ≤ 9223372036854775807) : (itoa v).length ≤ 21 := by
  unfold itoa
  split
  · have := dec_len (u := v.natAbs) (by omega)
    simp; omega
  · have := dec_len (u := v.toNat) (by omega)
    omega
theorem dgB_size {v : Int} (h0 : -9223372036854775808 ≤ v) (h1 : v ≤ 9223372036854775807) : (dgB v).size ≤ 21 := itoa_len h0 h1
theorem nam_size (K : Nat) : (nam K).size ≤ 7 := by unfold nam; split <;> decide
end Go.Oq
