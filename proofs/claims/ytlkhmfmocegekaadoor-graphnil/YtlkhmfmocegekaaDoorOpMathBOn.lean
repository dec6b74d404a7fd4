/- package op, plain: what is read of a text is the operation, and the text of what is read is the text. -/
import Derived.Test.YtlkhmfmocegekaaDoorOpMath
namespace Go.Oq
open Go.Lib Go.Proofs.YtlkhmfmocegekaaDoor Go.Sh
/-- Numbers of 64 bits. -/
def rng (f : Nat → Int) : Prop := ∀ i, i < 8 → -9223372036854775808 ≤ f i ∧ f i ≤ 9223372036854775807
theorem kin_bd {k : Int} (h : kin k = true) : 1 ≤ k ∧ k ≤ 11 := by simpa [kin] using h
theorem only_at (f : Nat → Int) (i : Nat) : only f i = if i ∈ alln (f 0).toNat then f i else if i = 0 then f 0 else 0 := by
  rw [only, lay_at]; rfl
theorem bare_iff (f : Nat → Int) : bare f = true ↔ kin (f 0) = true ∧ ∀ i, 1 ≤ i → i < 8 → i ∉ alln (f 0).toNat → f i = 0 := by
  rw [bare, Bool.and_eq_true, sam_iff]
  constructor
  · rintro ⟨h, h2⟩
    refine ⟨h, fun i h1 h8 hi => ?_⟩
    have := h2 i h8
    rw [only_at, if_neg hi, if_neg (by omega)] at this
    exact this.symm
  · rintro ⟨h, h2⟩
    refine ⟨h, fun i h8 => ?_⟩
    rw [only_at]
    by_cases hi : i ∈ alln (f 0).toNat
    · rw [if_pos hi]
    · rw [if_neg hi]
      by_cases h0 : i = 0
      · subst h0; rw [if_pos rfl]
      · rw [if_neg h0, h2 i (by omega) h8 hi]
theorem prs_txt (f : Nat → Int) : ∀ (js : List Nat) (g : Nat → Int), (∀ j ∈ js, -9223372036854775808 ≤ f j ∧ f j ≤ 9223372036854775807) → prs js (js.map fun j => dgB (f j)) g = some (lay f js g)
  | [], _, _ => rfl
  | j :: js, g, h => by
    have hj := h j (by simp)
    have e : whl (at' ((j :: js).map fun j => dgB (f j)) 0).data.toList = some (f j) := whl_of ⟨rfl, hj.1, hj.2⟩
    rw [prs, e]
    exact prs_txt f js _ (fun i hi => h i (by simp [hi]))
theorem bs_eq {s : ByteArray} {l : List UInt8} (h : l = s.data.toList) : bs l = s := by subst h; rfl
theorem prs_inv : ∀ (js : List Nat) (ws : List ByteArray) (g h : Nat → Int), js.Nodup → ws.length = js.length → prs js ws g = some h →
    ws = js.map (fun j => dgB (h j)) ∧ (∀ i, i ∉ js → h i = g i) ∧ ∀ j ∈ js, -9223372036854775808 ≤ h j ∧ h j ≤ 9223372036854775807
  | [], ws, g, h, _, hl, e => by
    have : ws = [] := List.eq_nil_of_length_eq_zero hl
    subst this
    simp only [prs, Option.some.injEq] at e
    subst e
    exact ⟨rfl, fun _ _ => rfl, by simp⟩
  | j :: js, [], g, h, _, hl, _ => by simp at hl
  | j :: js, w :: ws, g, h, hn, hl, e => by
    have hl' : ws.length = js.length := by simpa using hl
    rw [List.nodup_cons] at hn
    unfold prs at e
    cases hv : whl (at' (w :: ws) 0).data.toList with
    | none => rw [hv] at e; cases e
    | some v =>
      rw [hv] at e
      obtain ⟨h1, h2, h3⟩ := prs_inv js ws _ h hn.2 hl' e
      have hj : h j = v := by rw [h2 j hn.1, upd_same]
      obtain ⟨a, b, c⟩ := whl_some hv
      refine ⟨?_, fun i hi => ?_, fun i hi => ?_⟩
      · rw [List.map_cons, ← h1, hj]
        congr 1
        exact (bs_eq a).symm
      · simp only [List.mem_cons, not_or] at hi
        rw [h2 i hi.2, upd_other _ _ hi.1]
      · rw [List.mem_cons] at hi
        rcases hi with rfl | hi
        · rw [hj]; exact ⟨b, c⟩
        · exact h3 i hi
theorem nam_clear {K : Nat} : ∀ c ∈ (nam K).data.toList, c ≠ 32 := by
  intro c hc e
  subst e
  unfold nam at hc
  split at hc <;> revert hc <;> decide
theorem wds_data (f : Nat → Int) : ∀ p ∈ (wds f).map (·.data.toList), ∀ c ∈ p, c ≠ 32 := by
  intro p hp c hc
  simp only [wds, List.map_cons, List.map_map, List.mem_cons, List.mem_map] at hp
  rcases hp with rfl | ⟨j, _, rfl⟩
  · exact nam_clear c hc
  · exact itoa_clear _ c hc
theorem spB_txt (f : Nat → Int) : spB (txt f) = wds f := by
  rw [spB, txt, bs_data, sp_jn (by simp [wds]) (wds_data f), List.map_map]
  exact List.map_id'' (fun _ => rfl) _
/-- What is read of an operation's text. -/
theorem rd_txt {f : Nat → Int} (h : bare f = true) (hr : rng f) : ∃ g, rdS (txt f) = some g ∧ ∀ i, i < 8 → g i = f i := by
  have hb := (bare_iff f).1 h
  have hk := kin_bd hb.1
  have e1 : knd (at' (wds f) 0) = (f 0).toNat := by
    show knd (nam (f 0).toNat) = _
    exact knd_nam (by omega) (by omega)
  have e2 : (((f 0).toNat : Nat) : Int) = f 0 := by omega
  refine ⟨lay f (alln (f 0).toNat) (bar (f 0)), ?_, fun i hi => ?_⟩
  · rw [rdS, spB_txt, rdW, e1, if_neg (by omega), if_neg (by simp [wds]; omega), e2]
    exact prs_txt f _ _ (fun j hj => hr j (alln_lt _ j hj).2)
  · exact (sam_iff (only f) f).1 (by rw [bare, Bool.and_eq_true] at h; exact h.2) i hi
/-- What is read of a text. -/
theorem txt_rd {s : ByteArray} {g : Nat → Int} (h : rdS s = some g) : bare g = true ∧ txt g = s ∧ rng g := by
  unfold rdS rdW at h
  split at h
  · cases h
  · next h0 =>
    split at h
    · cases h
    · next hl =>
      have hlen : (spB s).length = 1 + (alln (knd (at' (spB s) 0))).length := Classical.not_not.1 hl
      obtain ⟨hn, k1, k2⟩ := nam_knd h0
      generalize hK : knd (at' (spB s) 0) = K at *
      obtain ⟨a, b, c⟩ := prs_inv _ _ _ _ (alln_nodup K) (by rw [List.length_tail, hlen]; omega) h
      have g0 : g 0 = (K : Int) := by rw [b 0 (fun hi => by have := alln_lt K 0 hi; omega)]; rfl
      have gt : (g 0).toNat = K := by omega
      have hz : ∀ i, 1 ≤ i → i ∉ alln K → g i = 0 := fun i h1 hi => by rw [b i hi]; exact if_neg (by omega)
      have hw : wds g = spB s := by
        rw [wds, gt, ← a, hn]
        cases hs : spB s with
        | nil => rw [hs, List.length_nil] at hlen; omega
        | cons x t => rfl
      refine ⟨(bare_iff g).2 ⟨by rw [g0]; simp [kin]; omega, fun i h1 _ hi => hz i h1 (by rwa [gt] at hi)⟩, ?_, fun i hi => ?_⟩
      · rw [txt, hw, spB, List.map_map]
        have : (sp s.data.toList).map ((fun x : ByteArray => x.data.toList) ∘ bs) = sp s.data.toList := List.map_id'' (fun x => rfl) _
        rw [this, jn_sp]
        exact bs_of s
      · by_cases hj : i ∈ alln K
        · exact c i hj
        · by_cases h1 : i = 0
          · subst h1; rw [g0]; omega
          · rw [hz i (by omega) hj]; omega
theorem txt_same {f g : Nat → Int} (hf : bare f = true) (hg : bare g = true) (rf : rng f) (rg : rng g) : ((txt f).toList == (txt g).toList) = sam f g := by
  rw [Bool.eq_iff_iff, beq_iff_eq, sam_iff, Wd.toL, Wd.toL]
  constructor
  · intro e i hi
    have e : txt f = txt g := by rw [← bs_of (txt f), e, bs_of]
    obtain ⟨a, ha, ha2⟩ := rd_txt hf rf
    obtain ⟨b, hb, hb2⟩ := rd_txt hg rg
    rw [e, hb] at ha
    cases ha
    rw [← ha2 i hi, hb2 i hi]
  · intro h
    have e0 := h 0 (by omega)
    have : wds f = wds g := by
      rw [wds, wds, e0]
      congr 1
      apply List.map_congr_left
      intro j hj
      rw [h j (alln_lt _ j hj).2]
    rw [txt, txt, this]
theorem whl_range {l : List UInt8} {v : Int} (h : whl l = some v) : -9223372036854775808 ≤ v ∧ v ≤ 9223372036854775807 := (whl_some h).2
theorem dec_len {u : Nat} (h : u ≤ 18446744073709551615) : (decDigits u).length ≤ 20 := decDigits_len20 u h
theorem itoa_len {v : Int} (h0 : -9223372036854775808 ≤ v) (h1 : v ≤ 9223372036854775807) : (itoa v).length ≤ 21 := by
  unfold itoa
  split
  · have := dec_len (u := v.natAbs) (by omega)
    simp; omega
  · have := dec_len (u := v.toNat) (by omega)
    omega
theorem dgB_size {v : Int} (h0 : -9223372036854775808 ≤ v) (h1 : v ≤ 9223372036854775807) : (dgB v).size ≤ 21 := itoa_len h0 h1
theorem nam_size (K : Nat) : (nam K).size ≤ 7 := by unfold nam; split <;> decide
end Go.Oq
/- package op, plain: the document's way to a text's number, its letters of numbers. -/
namespace Go.Oq
open Go.Lib Go.Proofs.YtlkhmfmocegekaaDoor Go.Sh
theorem can_nil (less : Bool) {d : ByteArray} (h : d.size = 0) : canB less d.toList = false := by
  have : d.toList = [] := List.eq_nil_of_length_eq_zero (by rw [Wd.toL_length]; exact h)
  rw [this]; rfl
theorem val_app (a b : List UInt8) : Wd.val a ≤ Wd.val (a ++ b) := by
  unfold Wd.val
  rw [List.foldl_append]
  exact fold_le
theorem can_long (less : Bool) {d : List UInt8} (h : 19 < d.length) : canB less d = false := by
  cases hc : canB less d with
  | false => rfl
  | true =>
    exfalso
    simp only [canB, Bool.and_eq_true, decide_eq_true_eq] at hc
    obtain ⟨⟨hn, _⟩, hv⟩ := hc
    cases d with
    | nil => simp at h
    | cons c r =>
      have hr : 19 ≤ r.length := by simp at h; omega
      have hc48 : ¬ c = 48 := by
        rintro rfl
        simp only [Wd.isNum, Bool.and_eq_true] at hn
        have := hn.2
        simp at this
        rw [this] at hr
        simp at hr
      have hd : 48 ≤ c.toNat := by
        simp only [Wd.isNum, Bool.and_eq_true, Wd.dgs, List.all_cons, decide_eq_true_eq] at hn
        exact hn.1.2.1.1
      have h49 : 49 ≤ c.toNat := by
        have : ¬ c.toNat = 48 := fun e => hc48 (UInt8.toNat_inj.1 e)
        omega
      have hg := Wd.val_ge c r h49
      have hp : 10 ^ 19 ≤ 10 ^ r.length := Nat.pow_le_pow_right (by decide) hr
      have e19 : 10 ^ 19 = 10000000000000000000 := by decide
      have : (Wd.val (c :: r) : Int) ≤ 9223372036854775808 := by cases less <;> simp at hv <;> omega
      omega
theorem can_head (less : Bool) {d : ByteArray} (h0 : 0 < d.size) (h : d[0].toNat = 48) (hl : less = true ∨ 1 < d.size) : canB less d.toList = false := by
  have e := Wd.head0 d h0
  rw [show d[0] = 48 from UInt8.toNat_inj.1 h] at e
  have hlen := Wd.toL_length d
  cases hd : d.toList with
  | nil => rw [hd] at e; simp at e
  | cons c r =>
    rw [hd] at e hlen
    simp only [List.head?_cons, Option.some.injEq] at e
    subst e
    cases hr : r with
    | nil =>
      rw [hr] at hlen
      simp at hlen
      rcases hl with rfl | hl
      · simp [canB]
      · omega
    | cons x y => simp [canB, Wd.isNum]
theorem can_bad (less : Bool) {d : ByteArray} {k : Nat} (h : k < d.size) (hc : ¬ (48 ≤ d[k].toNat ∧ d[k].toNat ≤ 57)) : canB less d.toList = false := by
  unfold canB
  rw [Wd.isNum_of_dgs_false (Wd.dgs_false d k h hc)]
  rfl
theorem can_over (less : Bool) {d : ByteArray} {k : Nat} (hv : (9223372036854775808 : Int) < Wd.val (d.toList.take k)) : canB less d.toList = false := by
  have h := val_app (d.toList.take k) (d.toList.drop k)
  rw [List.take_append_drop] at h
  simp only [canB, Bool.and_eq_false_iff, decide_eq_false_iff_not]
  right
  split <;> omega
theorem can_yes {d : ByteArray} (less : Bool) (h0 : 0 < d.size) (hz : less = true ∨ 1 < d.size → ¬ d[0].toNat = 48) (hd : Wd.dgs d.toList = true)
    (hv : (Wd.val d.toList : Int) ≤ if less then 9223372036854775808 else 9223372036854775807) : canB less d.toList = true := by
  by_cases h48 : d[0].toNat = 48
  · have hl : ¬ (less = true ∨ 1 < d.size) := fun h => hz h h48
    have e := Wd.head0 d h0
    rw [show d[0] = 48 from UInt8.toNat_inj.1 h48] at e
    have hlen := Wd.toL_length d
    have hless : less = false := by cases less <;> simp_all
    subst hless
    have : d.toList = [48] := by
      cases hdd : d.toList with
      | nil => rw [hdd] at e; simp at e
      | cons c r =>
        rw [hdd] at e hlen
        simp at e hlen
        subst e
        have : r = [] := List.eq_nil_of_length_eq_zero (by simp at hl; omega)
        rw [this]
    rw [this]; decide
  · have hn := Wd.isNum_of d h0 h48 hd
    have hne : (d.toList == [48]) = false := by
      rw [beq_eq_false_iff_ne]
      intro e
      have h2 := Wd.head0 d h0
      rw [e] at h2
      simp at h2
      exact h48 (by rw [← h2]; rfl)
    simp only [canB, hn, hne, Bool.and_false, Bool.not_false, Bool.and_true, Bool.true_and, decide_eq_true_eq]
    exact hv
/-- The value that is told of digits, and whether there is one. -/
def wnB (o : Option Int) : Bool := o.isSome
def wnV (o : Option Int) : Int := o.getD 0
theorem wn_none {l : List UInt8} (h : whl l = none) : wnB (whl l) = false ∧ wnV (whl l) = 0 := by rw [h]; exact ⟨rfl, rfl⟩
theorem wn_some {l : List UInt8} {v : Int} (h : whl l = some v) : wnB (whl l) = true ∧ wnV (whl l) = v := by rw [h]; exact ⟨rfl, rfl⟩
/-! ### The document's letters -/
/-- The letter of a number's place. -/
def lett : Nat → UInt8
  | 1 => 65 | 2 => 66 | 3 => 67 | 4 => 102 | 5 => 115 | 6 => 88 | _ => 89
/-- What a kind names, in letters. -/
def lets (K : Nat) : ByteArray := bs ((alln K).map lett)
theorem lets_size (K : Nat) : (lets K).size = (alln K).length := by
  show ((alln K).map lett).length = _
  rw [List.length_map]
theorem lets_get (K i : Nat) (h : i < (alln K).length) : (lets K)[i]'(by rw [lets_size]; exact h) = lett ((alln K)[i]) := by
  show ((alln K).map lett).toArray[i]'(by simpa using h) = _
  rw [List.getElem_toArray, List.getElem_map]
end Go.Oq
