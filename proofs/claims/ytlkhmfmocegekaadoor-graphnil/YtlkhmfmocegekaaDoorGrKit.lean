/- A graph in memory: its face, its slots, its objects and their fields; what is written into it, what else is kept. -/
import Derived.Test.YtlkhmfmocegekaaDoorBsKit
import Derived.Test.YtlkhmfmocegekaaDoorGrMathB
import Derived.Maps.AppendAt
set_option linter.unusedVariables false
namespace Go.Proofs.YtlkhmfmocegekaaDoor
open Go.RowKit Go.Gr Go.Sh
/-- What is written lies in S; all else stands. -/
structure Wr (S : Nat → Prop) (w w' : World) : Prop where
  os : w'.os = w.os
  tape : w'.tape = w.tape
  output : w'.output = w.output
  size : w.heap.size ≤ w'.heap.size
  block : ∀ k, k < w.heap.size → ¬ S k → w'.heap[k]? = w.heap[k]?
theorem Wr.refl (S : Nat → Prop) (w : World) : Wr S w w := ⟨rfl, rfl, rfl, Nat.le_refl _, fun _ _ _ => rfl⟩
theorem Wr.trans {S S' : Nat → Prop} {a b c : World} (h : Wr S a b) (k : Wr S' b c) (hs : ∀ i, i < a.heap.size → S' i → S i) : Wr S a c :=
  ⟨k.os.trans h.os, k.tape.trans h.tape, k.output.trans h.output, Nat.le_trans h.size k.size, fun i hi hn => (k.block i (Nat.lt_of_lt_of_le hi h.size) (fun e => hn (hs i hi e))).trans (h.block i hi hn)⟩
theorem Wr.mono {S S' : Nat → Prop} {a b : World} (h : Wr S a b) (hs : ∀ i, i < a.heap.size → S i → S' i) : Wr S' a b := (Wr.refl S' a).trans h hs
theorem wr_below {w w' : World} (b : Below w.heap.size w w') (S : Nat → Prop) : Wr S w w' := ⟨b.os, b.tape, b.output, b.size, fun k hk _ => b.block k hk⟩
theorem Wr.below {w w' : World} (h : Wr (fun _ => False) w w') : Below w.heap.size w w' := ⟨h.os, h.tape, h.output, h.size, fun k hk => h.block k hk (fun e => e)⟩
theorem Wr.belowN {S : Nat → Prop} {N : Nat} {w W W' : World} (h : Below N w W) (hN : N ≤ W.heap.size) (k : Wr S W W') (hS : ∀ i, i < N → ¬ S i) : Below N w W' :=
  ⟨k.os.trans h.os, k.tape.trans h.tape, k.output.trans h.output, Nat.le_trans h.size k.size, fun i hi => (k.block i (Nat.lt_of_lt_of_le hi hN) (hS i hi)).trans (h.block i hi)⟩
theorem grownBy_wr {w w' : World} {g : Nat} (h : w.grownBy w' (some g)) : Wr (fun b => b = g) w w' := ⟨h.os, h.tape, h.output, h.size, fun k hk hn => h.block k hk (fun e => by cases e; exact hn rfl)⟩
theorem wr_set (W : World) (B i : Nat) (v : Value) : Wr (fun b => b = B) W (W.setCell ⟨B, i, none⟩ v) := by
  refine ⟨rfl, rfl, rfl, by simp, fun k hk hne => ?_⟩
  simp [World.setCell, Array.getElem?_modify, Ne.symm hne]
theorem gset_row {w : World} {g : Nat} {cs : Array Value} {t : TypeId} (h : w.heap[g]? = some (.cells cs t)) (i : Nat) (v : Value) : (w.setCell ⟨g, i, none⟩ v).heap[g]? = some (.cells (cs.setIfInBounds i v) t) := by
  rw [setCell_eq_setRow w g i cs t (0, 0) v h]
  exact setRow_heap w g cs _ _ _ h
theorem row_lt {w : World} {g : Nat} {o : Obj} (h : w.heap[g]? = some o) : g < w.heap.size := (Array.getElem?_eq_some_iff.1 h).1
theorem Wr.row {S : Nat → Prop} {w w' : World} (h : Wr S w w') {g : Nat} {o : Obj} (hr : w.heap[g]? = some o) (hn : ¬ S g) : w'.heap[g]? = some o := (h.block g (row_lt hr) hn).trans hr
theorem Wr.drew {S : Nat → Prop} {a w : World} (h : Wr S a w) : Wr S a w.drew := ⟨h.os, h.tape, h.output, h.size, h.block⟩
theorem Wr.drewN {S : Nat → Prop} {a w : World} (h : Wr S a w) (n : Nat) : Wr S a (w.drewN n) := ⟨h.os, h.tape, h.output, h.size, h.block⟩
/-- A pointer to the object of that number; 0: nothing. -/
def pp (at_ : Nat → Nat) (x : Nat) : Option Addr := if x = 0 then none else some ⟨at_ x, 0, none⟩
theorem pp_zero (at_ : Nat → Nat) : pp at_ 0 = none := rfl
theorem pp_pos (at_ : Nat → Nat) {x : Nat} (h : x ≠ 0) : pp at_ x = some ⟨at_ x, 0, none⟩ := by unfold pp; rw [if_neg h]
theorem pp_congr {f h : Nat → Nat} {x : Nat} (e : x ≠ 0 → f x = h x) : pp f x = pp h x := by
  unfold pp
  split
  · rfl
  · next h0 => rw [e h0]
theorem gset_alloc_new (w : World) (o o' : Obj) : ({ w.alloc o with heap := (w.alloc o).heap.setIfInBounds w.heap.size o' } : World) = w.alloc o' := by
  have e : (w.heap.push o).setIfInBounds w.heap.size o' = w.heap.push o' := by
    apply Array.ext_getElem?
    intro i
    by_cases h : i = w.heap.size
    · subst h; simp
    · simp [Array.getElem?_push, h, Ne.symm h]
  show ({ w with heap := (w.heap.push o).setIfInBounds w.heap.size o' } : World) = { w with heap := w.heap.push o' }
  rw [e]
/-- Where a graph lies. -/
structure Gh where
  G : Nat
  R : Nat
  S : Nat
  sp : Int
  sc : Nat
  at_ : Nat → Nat
  fs : Nat → Option Nat
  live : Nat → Prop
/-- The blocks that it may write. -/
def foot (γ : Gh) (b : Nat) : Prop := b = γ.G ∨ b = γ.R ∨ ∃ x, γ.live x ∧ (b = γ.at_ x ∨ γ.fs x = some b)
abbrev faceC (γ : Gh) (g : Gr) : Array Value := #[.int .i64 (g.rt.length : Int), .int .i64 γ.sp, .slice (some ⟨γ.S, 0, none⟩) g.ss.length γ.sc, .slice (some ⟨γ.R, 0, none⟩) g.rt.length g.rt.length, .int .i64 (g.m : Int)]
def rtsC (γ : Gh) (g : Gr) : Array Value := (g.rt.flatten.map fun x => Value.pointer (pp γ.at_ x)).toArray
/-- What a field holds; 0: nothing. -/
def hn (g : Gr) (x f : Nat) : Nat := if Gr.ptr (g.txt x) f then (g.fld x f).toNat else 0
/-- A field's scalar. -/
def sn (g : Gr) (x f : Nat) : Int := if Gr.ptr (g.txt x) f then 0 else g.fld x f
/-- An object: its shape, its fields. -/
structure IsO (W : World) (γ : Gh) (g : Gr) (x : Nat) : Prop where
  num : 1 ≤ x ∧ x ≤ g.m
  row : ∃ a c, W.heap[γ.at_ x]? = some (.cells #[.int .i64 (g.shp x : Int), .slice a (g.txt x).size c] 76) ∧ (0 < (g.txt x).size → ∃ F, γ.fs x = some F ∧ a = some ⟨F, 0, none⟩)
  cel : ∀ F, γ.fs x = some F → ∃ cur, W.heap[F]? = some (.cells cur 86) ∧ ∀ f, f < (g.txt x).size → cur[2 * f]? = some (.pointer (pp γ.at_ (hn g x f))) ∧ cur[2 * f + 1]? = some (.int .i64 (sn g x f))
  led : ∀ f, f < (g.txt x).size → hn g x f ≠ 0 → γ.live (hn g x f)
structure IsG (W : World) (γ : Gh) (g : Gr) : Prop where
  ok : g.Ok
  face : W.heap[γ.G]? = some (.cells (faceC γ g) 48)
  tab : ∃ cur, W.heap[γ.S]? = some (.cells cur 49) ∧ ∀ i, i < g.ss.length → cur[i]? = some (.string (at' g.ss i))
  rts : W.heap[γ.R]? = some (.cells (rtsC γ g) 63)
  rtl : ∀ t s, g.slot t s ≠ 0 → γ.live (g.slot t s)
  obj : ∀ x, γ.live x → IsO W γ g x
  inj : ∀ x y, γ.live x → γ.live y → γ.at_ x = γ.at_ y → x = y
  injF : ∀ x y F, γ.live x → γ.live y → γ.fs x = some F → γ.fs y = some F → x = y
/-- What type a block has that a graph may write. -/
def gty (T : TypeId) : Prop := T = 48 ∨ T = 63 ∨ T = 76 ∨ T = 86
theorem IsG.foot_ty {W : World} {γ : Gh} {g : Gr} (h : IsG W γ g) {b : Nat} (hb : foot γ b) : ∃ cs T, W.heap[b]? = some (.cells cs T) ∧ gty T := by
  rcases hb with rfl | rfl | ⟨x, hx, rfl | hF⟩
  · exact ⟨_, _, h.face, .inl rfl⟩
  · exact ⟨_, _, h.rts, .inr (.inl rfl)⟩
  · obtain ⟨a, c, hr, _⟩ := (h.obj x hx).row
    exact ⟨_, _, hr, .inr (.inr (.inl rfl))⟩
  · obtain ⟨cur, hr, _⟩ := (h.obj x hx).cel b hF
    exact ⟨_, _, hr, .inr (.inr (.inr rfl))⟩
theorem IsG.foot_lt {W : World} {γ : Gh} {g : Gr} (h : IsG W γ g) {b : Nat} (hb : foot γ b) : b < W.heap.size := by
  obtain ⟨cs, T, hr, _⟩ := h.foot_ty hb
  exact row_lt hr
/-- What is of no such type is kept. -/
theorem IsG.kept {W W' : World} {γ : Gh} {g : Gr} (h : IsG W γ g) (k : Wr (foot γ) W W') {b : Nat} {cs : Array Value} {T : TypeId} (hr : W.heap[b]? = some (.cells cs T)) (hT : ¬ gty T) : W'.heap[b]? = some (.cells cs T) :=
  k.row hr (fun hb => by
    obtain ⟨cs', T', hr', ht⟩ := h.foot_ty hb
    rw [hr] at hr'
    cases hr'
    exact hT ht)
theorem IsG.keptO {W W' : World} {γ : Gh} {g : Gr} (h : IsG W γ g) (k : Wr (foot γ) W W') {b : Nat} {o : Obj} (hr : W.heap[b]? = some o) (hT : o.isCells = false) : W'.heap[b]? = some o :=
  k.row hr (fun hb => by
    obtain ⟨cs', T', hr', ht⟩ := h.foot_ty hb
    rw [hr] at hr'
    cases hr'
    cases hT)
theorem IsO.frame {W W' : World} {γ : Gh} {g : Gr} {x : Nat} (h : IsO W γ g x) (ha : ∀ o, W.heap[γ.at_ x]? = some o → W'.heap[γ.at_ x]? = some o) (hf : ∀ F o, γ.fs x = some F → W.heap[F]? = some o → W'.heap[F]? = some o) : IsO W' γ g x := by
  refine ⟨h.num, ?_, fun F hF => ?_, h.led⟩
  · obtain ⟨a, c, hr, h2⟩ := h.row
    exact ⟨a, c, ha _ hr, h2⟩
  · obtain ⟨cur, hr, h2⟩ := h.cel F hF
    exact ⟨cur, hf F _ hF hr, h2⟩
theorem IsG.frame {S : Nat → Prop} {W W' : World} {γ : Gh} {g : Gr} (h : IsG W γ g) (k : Wr S W W') (hS : ∀ b, foot γ b → ¬ S b) (hT : ¬ S γ.S) : IsG W' γ g := by
  refine ⟨h.ok, k.row h.face (hS _ (.inl rfl)), ?_, k.row h.rts (hS _ (.inr (.inl rfl))), h.rtl, fun x hx => ?_, h.inj, h.injF⟩
  · obtain ⟨cur, hr, h2⟩ := h.tab
    exact ⟨cur, k.row hr hT, h2⟩
  · exact (h.obj x hx).frame (fun o ho => k.row ho (hS _ (.inr (.inr ⟨x, hx, .inl rfl⟩)))) (fun F o hF ho => k.row ho (hS _ (.inr (.inr ⟨x, hx, .inr hF⟩))))
theorem IsG.below {W W' : World} {γ : Gh} {g : Gr} (h : IsG W γ g) (b : Below W.heap.size W W') : IsG W' γ g :=
  h.frame (wr_below b (fun _ => False)) (fun _ _ e => e) (fun e => e)
theorem IsG.drew {W : World} {γ : Gh} {g : Gr} (h : IsG W γ g) : IsG W.drew γ g := h.below (Below.refl _ _).drew
theorem IsG.drewN {W : World} {γ : Gh} {g : Gr} (h : IsG W γ g) (n : Nat) : IsG (W.drewN n) γ g := h.below ⟨rfl, rfl, rfl, Nat.le_refl _, fun _ _ => rfl⟩
theorem IsG.lt {W : World} {γ : Gh} {g : Gr} (h : IsG W γ g) : γ.G < W.heap.size ∧ γ.R < W.heap.size ∧ γ.S < W.heap.size := by
  obtain ⟨cur, hr, _⟩ := h.tab
  exact ⟨row_lt h.face, row_lt h.rts, row_lt hr⟩
/-- The slots as cells. -/
theorem flat_get (g : Gr) (h : g.Ok) (t s : Nat) (ht : t < g.rt.length) (hs : s < 6) : g.rt.flatten[6 * t + s]? = some (g.slot t s) := by
  have key : ∀ (l : List (List Nat)) (t : Nat), t < l.length → (∀ i, i < l.length → (l.getD i []).length = 6) → l.flatten[6 * t + s]? = some ((l.getD t []).getD s 0) := by
    intro l
    induction l with
    | nil => intro t ht; simp at ht
    | cons a r ih =>
      intro t ht h6
      have ha : a.length = 6 := by have := h6 0 (by simp); simpa using this
      cases t with
      | zero =>
        rw [List.flatten_cons, List.getElem?_append_left (by omega)]
        simp [List.getD_eq_getElem?_getD, List.getElem?_eq_getElem (show s < a.length by omega)]
      | succ t =>
        have hr : ∀ i, i < r.length → (r.getD i []).length = 6 := fun i hi => by
          have := h6 (i + 1) (by simp; omega)
          simpa using this
        rw [List.flatten_cons, List.getElem?_append_right (by omega), show 6 * (t + 1) + s - a.length = 6 * t + s by omega, ih t (by simpa using ht) hr]
        simp
  exact key g.rt t ht (fun i hi => h.six i hi)
theorem flat_len (g : Gr) (h : g.Ok) : g.rt.flatten.length = 6 * g.rt.length := by
  have key : ∀ (l : List (List Nat)), (∀ i, i < l.length → (l.getD i []).length = 6) → l.flatten.length = 6 * l.length := by
    intro l
    induction l with
    | nil => intro _; rfl
    | cons a r ih =>
      intro h6
      have ha : a.length = 6 := by have := h6 0 (by simp); simpa using this
      have hr : ∀ i, i < r.length → (r.getD i []).length = 6 := fun i hi => by
        have := h6 (i + 1) (by simp; omega)
        simpa using this
      rw [List.flatten_cons, List.length_append, ih hr, ha, List.length_cons]; omega
  exact key g.rt (fun i hi => h.six i hi)
theorem rtsC_size (γ : Gh) (g : Gr) (h : g.Ok) : (rtsC γ g).size = 6 * g.rt.length := by simp only [rtsC, List.size_toArray, List.length_map]; exact flat_len g h
theorem rtsC_get (γ : Gh) (g : Gr) (h : g.Ok) (t s : Nat) (ht : t < g.rt.length) (hs : s < 6) : (rtsC γ g)[6 * t + s]? = some (.pointer (pp γ.at_ (g.slot t s))) := by
  simp only [rtsC, List.getElem?_toArray, List.getElem?_map, flat_get g h t s ht hs]; rfl
theorem rtsC_set (γ : Gh) (g : Gr) (h : g.Ok) (t s x : Nat) (ht : t < g.rt.length) (hs : s < 6) (hx : x ≤ g.m) : (rtsC γ g).setIfInBounds (6 * t + s) (.pointer (pp γ.at_ x)) = rtsC γ (g.setS t s x) := by
  have h' := setS_ok h ht hs hx
  have hl : (g.setS t s x).rt.length = g.rt.length := by simp [Gr.setS]
  apply Array.ext_getElem?
  intro i
  by_cases hi : i < 6 * g.rt.length
  · obtain ⟨t', s', ht', hs', rfl⟩ : ∃ t' s', t' < g.rt.length ∧ s' < 6 ∧ i = 6 * t' + s' := ⟨i / 6, i % 6, by omega, by omega, by omega⟩
    rw [rtsC_get γ _ h' t' s' (by omega) hs', Array.getElem?_setIfInBounds, rtsC_size γ g h, slot_setS h ht hs]
    by_cases e : t = t' ∧ s = s'
    · obtain ⟨rfl, rfl⟩ := e
      simp [hi]
    · rw [if_neg (by omega), if_neg e, rtsC_get γ g h t' s' ht' hs']
  · rw [Array.getElem?_eq_none (by rw [Array.size_setIfInBounds, rtsC_size γ g h]; omega), Array.getElem?_eq_none (by rw [rtsC_size γ _ h', hl]; omega)]
theorem IsG.slotc {W : World} {γ : Gh} {g : Gr} (h : IsG W γ g) {t s : Nat} (ht : t < g.rt.length) (hs : s < 6) : W.cell? ⟨γ.R, 6 * t + s, none⟩ = some (.pointer (pp γ.at_ (g.slot t s))) :=
  at_row h.rts _ (rtsC_get γ g h.ok t s ht hs)
/-- A slot is set. -/
theorem IsG.setS {W : World} {γ : Gh} {g : Gr} (h : IsG W γ g) {t s x : Nat} (ht : t < g.rt.length) (hs : s < 6) (hx : x ≤ g.m) (hl : x ≠ 0 → γ.live x) : IsG (W.setCell ⟨γ.R, 6 * t + s, none⟩ (.pointer (pp γ.at_ x))) γ (g.setS t s x) := by
  have k := wr_set W γ.R (6 * t + s) (.pointer (pp γ.at_ x))
  have ne : ∀ {b : Nat} {cs : Array Value} {T : TypeId}, W.heap[b]? = some (.cells cs T) → T ≠ 63 → ¬ b = γ.R := fun hr hT e => by
    subst e
    rw [h.rts] at hr
    cases hr
    exact hT rfl
  have hlen : (g.setS t s x).rt.length = g.rt.length := by simp [Gr.setS]
  refine ⟨setS_ok h.ok ht hs hx, ?_, ?_, ?_, fun t' s' h0 => ?_, fun y hy => ?_, h.inj, h.injF⟩
  · have := k.row h.face (ne h.face (by decide))
    rw [this]
    simp only [faceC, hlen]
    rfl
  · obtain ⟨cur, hr, h2⟩ := h.tab
    exact ⟨cur, k.row hr (ne hr (by decide)), h2⟩
  · rw [gset_row h.rts, rtsC_set γ g h.ok t s x ht hs hx]
  · rw [slot_setS h.ok ht hs] at h0 ⊢
    split
    · next e => rw [if_pos e] at h0; exact hl h0
    · next e => rw [if_neg e] at h0; exact h.rtl t' s' h0
  · have ho : IsO W γ g y := h.obj y hy
    have : IsO (W.setCell ⟨γ.R, 6 * t + s, none⟩ (.pointer (pp γ.at_ x))) γ g y := ho.frame (fun o ho' => k.row ho' (by
      obtain ⟨a, c, hr, _⟩ := ho.row
      exact ne hr (by decide))) (fun F o hF ho' => k.row ho' (by
      obtain ⟨cur, hr, _⟩ := ho.cel F hF
      exact ne hr (by decide)))
    exact ⟨this.num, this.row, this.cel, this.led⟩
end Go.Proofs.YtlkhmfmocegekaaDoor
