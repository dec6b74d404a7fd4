/- package graph: fresh, in the words of graphs. -/
import Derived.Test.YtlkhmfmocegekaaDoorGrH
import Derived.Test.YtlkhmfmocegekaaDoorGrBOn
set_option linter.unusedVariables false
namespace Go.Proofs.YtlkhmfmocegekaaDoor
open Go.RowKit Go.Gr Go.Sh Go.Oq
def updN {α : Type} (f : Nat → α) (x : Nat) (v : α) : Nat → α := fun y => if y = x then v else f y
theorem updN_same {α : Type} (f : Nat → α) (x : Nat) (v : α) : updN f x v x = v := if_pos rfl
theorem updN_other {α : Type} (f : Nat → α) {x y : Nat} (v : α) (h : y ≠ x) : updN f x v y = f y := if_neg h
/-- Where a graph lies with one object more. -/
def growG (γ : Gh) (x O : Nat) (F : Option Nat) : Gh := { γ with at_ := updN γ.at_ x O, fs := updN γ.fs x F, live := fun y => γ.live y ∨ y = x }
variable {g : Gr} {k : Nat}
theorem txt_new_old {x : Nat} (h1 : 1 ≤ x) (h2 : x ≤ g.m) : (g.new k).txt x = g.txt x := by
  unfold Gr.txt
  rw [shp_new x h1, if_neg (by omega)]
  rfl
theorem fld_new_old (hl : g.fl.length = g.sh.length) {x f : Nat} (h1 : 1 ≤ x) (h2 : x ≤ g.m) : (g.new k).fld x f = g.fld x f := by
  unfold Gr.fld
  rw [fls_new hl x h1, if_neg (by omega)]
theorem hn_new_old (hl : g.fl.length = g.sh.length) {x f : Nat} (h1 : 1 ≤ x) (h2 : x ≤ g.m) : hn (g.new k) x f = hn g x f := by
  unfold hn; rw [txt_new_old h1 h2, fld_new_old hl h1 h2]
theorem sn_new_old (hl : g.fl.length = g.sh.length) {x f : Nat} (h1 : 1 ≤ x) (h2 : x ≤ g.m) : sn (g.new k) x f = sn g x f := by
  unfold sn; rw [txt_new_old h1 h2, fld_new_old hl h1 h2]
theorem txt_new (g : Gr) (k : Nat) : (g.new k).txt (g.m + 1) = at' g.ss k := by
  unfold Gr.txt
  rw [shp_new (g.m + 1) (by omega), if_pos rfl]
  rfl
theorem fld_new (hl : g.fl.length = g.sh.length) (f : Nat) : (g.new k).fld (g.m + 1) f = 0 := by
  unfold Gr.fld
  rw [fls_new hl (g.m + 1) (by omega), if_pos rfl]
  simp only [List.getD_eq_getElem?_getD, List.getElem?_replicate]
  split <;> rfl
theorem hn_new (hl : g.fl.length = g.sh.length) (f : Nat) : hn (g.new k) (g.m + 1) f = 0 := by
  unfold hn; rw [fld_new hl]; split <;> rfl
theorem sn_new (hl : g.fl.length = g.sh.length) (f : Nat) : sn (g.new k) (g.m + 1) f = 0 := by
  unfold sn; rw [fld_new hl]; split <;> rfl
theorem IsG.grow {w W : World} {γ : Gh} (h : IsG w γ g) (hk : k < g.ss.length) (hm : g.m < 1000) (kw : Wr (fun b => b = γ.G) w W) (hface : W.heap[γ.G]? = some (.cells (faceC γ (g.new k)) 48)) {O B : Nat} {F : Option Nat} {a : Option Addr} {c : Nat}
    (hO : w.heap.size ≤ O) (hobj : W.heap[O]? = some (.cells #[.int .i64 (k : Int), .slice a (at' g.ss k).size c] 76)) (ha : 0 < (at' g.ss k).size → ∃ F', F = some F' ∧ a = some ⟨F', 0, none⟩)
    (hF : ∀ F', F = some F' → w.heap.size ≤ F' ∧ ∃ cur, W.heap[F']? = some (.cells cur 86) ∧ ∀ f, f < (at' g.ss k).size → cur[2 * f]? = some (.pointer none) ∧ cur[2 * f + 1]? = some (.int .i64 0)) : IsG W (growG γ (g.m + 1) O F) (g.new k) := by
  have hl := h.ok.len
  have ok := new_ok h.ok hk hm
  have lv : ∀ {x : Nat}, γ.live x → x ≠ g.m + 1 := fun hx e => by have := (h.obj _ hx).num; omega
  have ppe : ∀ {x : Nat}, (x ≠ 0 → γ.live x) → pp (updN γ.at_ (g.m + 1) O) x = pp γ.at_ x := fun hx => pp_congr fun h0 => updN_other _ _ (lv (hx h0))
  have ne : ∀ {b : Nat} {cs : Array Value} {T : TypeId}, w.heap[b]? = some (.cells cs T) → T ≠ 48 → ¬ b = γ.G := fun hr hT e => by
    subst e
    rw [h.face] at hr
    cases hr
    exact hT rfl
  have sl : ∀ t s, (g.new k).slot t s = g.slot t s := fun _ _ => rfl
  refine ⟨ok, hface, ?_, ?_, fun t s h0 => .inl (h.rtl t s h0), fun x hx => ?_, fun x y hx hy e => ?_, fun x y F' hx hy e1 e2 => ?_⟩
  · obtain ⟨cur, hr, h2⟩ := h.tab
    exact ⟨cur, kw.row hr (ne hr (by decide)), h2⟩
  · show W.heap[γ.R]? = _
    rw [kw.row h.rts (ne h.rts (by decide))]
    have : rtsC γ g = rtsC (growG γ (g.m + 1) O F) (g.new k) := by
      unfold rtsC
      congr 1
      refine List.map_congr_left fun x hx => ?_
      have hr : ∃ t s, x = g.slot t s := by
        obtain ⟨l, hl', hx'⟩ := List.mem_flatten.1 hx
        obtain ⟨t, ht, rfl⟩ := List.mem_iff_getElem.1 hl'
        obtain ⟨s, hs, rfl⟩ := List.mem_iff_getElem.1 hx'
        exact ⟨t, s, by simp [Gr.slot, Gr.row, List.getD_eq_getElem?_getD, List.getElem?_eq_getElem ht, List.getElem?_eq_getElem hs]⟩
      obtain ⟨t, s, rfl⟩ := hr
      exact congrArg _ (ppe (h.rtl t s)).symm
    rw [this]
  · rcases hx with hx | rfl
    · have ho := h.obj x hx
      have hn' := ho.num
      have hx1 := lv hx
      refine ⟨⟨hn'.1, by rw [m_new]; omega⟩, ?_, fun F' hF' => ?_, fun f hf h0 => ?_⟩
      · obtain ⟨a', c', hr, h2⟩ := ho.row
        refine ⟨a', c', ?_, ?_⟩
        · show W.heap[updN γ.at_ (g.m + 1) O x]? = _
          rw [updN_other _ _ hx1, kw.row hr (ne hr (by decide)), shp_new x hn'.1, if_neg hx1, txt_new_old hn'.1 hn'.2]
        · rw [txt_new_old hn'.1 hn'.2]
          show _ → ∃ F, updN γ.fs (g.m + 1) _ x = _ ∧ _
          rw [updN_other _ _ hx1]
          exact h2
      · replace hF' : updN γ.fs (g.m + 1) F x = some F' := hF'
        rw [updN_other _ _ hx1] at hF'
        obtain ⟨cur, hr, h2⟩ := ho.cel F' hF'
        refine ⟨cur, kw.row hr (ne hr (by decide)), fun f hf => ?_⟩
        rw [txt_new_old hn'.1 hn'.2] at hf
        rw [hn_new_old hl hn'.1 hn'.2, sn_new_old hl hn'.1 hn'.2]
        have := h2 f hf
        rw [show (growG γ (g.m + 1) O F).at_ = updN γ.at_ (g.m + 1) O from rfl, ppe (ho.led f hf)]
        exact this
      · rw [txt_new_old hn'.1 hn'.2] at hf
        rw [hn_new_old hl hn'.1 hn'.2] at h0 ⊢
        exact .inl (ho.led f hf h0)
    · refine ⟨⟨by omega, by rw [m_new]; omega⟩, ⟨a, c, ?_, ?_⟩, fun F' hF' => ?_, fun f hf h0 => absurd (hn_new hl f) h0⟩
      · show W.heap[updN γ.at_ (g.m + 1) O (g.m + 1)]? = _
        rw [updN_same, hobj, shp_new (g.m + 1) (by omega), if_pos rfl, txt_new]
      · rw [txt_new]
        show _ → ∃ F', updN γ.fs (g.m + 1) F (g.m + 1) = _ ∧ _
        rw [updN_same]
        exact ha
      · replace hF' : updN γ.fs (g.m + 1) F (g.m + 1) = some F' := hF'
        rw [updN_same] at hF'
        obtain ⟨_, cur, hr, h2⟩ := hF F' hF'
        refine ⟨cur, hr, fun f hf => ?_⟩
        rw [txt_new] at hf
        rw [hn_new hl, sn_new hl]
        exact h2 f hf
  · replace e : updN γ.at_ (g.m + 1) O x = updN γ.at_ (g.m + 1) O y := e
    rcases hx with hx | rfl
    · rcases hy with hy | rfl
      · rw [updN_other _ _ (lv hx), updN_other _ _ (lv hy)] at e
        exact h.inj x y hx hy e
      · rw [updN_other _ _ (lv hx), updN_same] at e
        obtain ⟨a', c', hr, _⟩ := (h.obj x hx).row
        have := row_lt hr
        omega
    · rcases hy with hy | rfl
      · rw [updN_other _ _ (lv hy), updN_same] at e
        obtain ⟨a', c', hr, _⟩ := (h.obj y hy).row
        have := row_lt hr
        omega
      · rfl
  · replace e1 : updN γ.fs (g.m + 1) F x = some F' := e1
    replace e2 : updN γ.fs (g.m + 1) F y = some F' := e2
    rcases hx with hx | rfl
    · rcases hy with hy | rfl
      · rw [updN_other _ _ (lv hx)] at e1
        rw [updN_other _ _ (lv hy)] at e2
        exact h.injF x y F' hx hy e1 e2
      · rw [updN_other _ _ (lv hx)] at e1
        rw [updN_same] at e2
        obtain ⟨cur, hr, _⟩ := (h.obj x hx).cel F' e1
        have := row_lt hr
        have := (hF F' e2).1
        omega
    · rcases hy with hy | rfl
      · rw [updN_same] at e1
        rw [updN_other _ _ (lv hy)] at e2
        obtain ⟨cur, hr, _⟩ := (h.obj y hy).cel F' e2
        have := row_lt hr
        have := (hF F' e1).1
        omega
      · rfl
/-- What a graph that has grown writes: what it wrote ahead, and new blocks. -/
structure Ext (N : Nat) (γ γ' : Gh) : Prop where
  G : γ'.G = γ.G
  R : γ'.R = γ.R
  S : γ'.S = γ.S
  sp : γ'.sp = γ.sp
  foot : ∀ b, foot γ' b → foot γ b ∨ N ≤ b
  live : ∀ x, γ.live x → γ'.live x ∧ γ'.at_ x = γ.at_ x
theorem Ext.refl (N : Nat) (γ : Gh) : Ext N γ γ := ⟨rfl, rfl, rfl, rfl, fun _ h => .inl h, fun _ h => ⟨h, rfl⟩⟩
/-- A new object. -/
theorem fresh_at (γ : Gh) (g : Gr) (k : Nat) (hk : k < g.ss.length) (hm : g.m < 1000) (w : World) (h : IsG w γ g) :
    Calls Tryd.prog 17 #[.pointer (some ⟨γ.G, 0, none⟩), .int .i64 (k : Int)] w fun e W =>
      ∃ γ', e = .returned (.pointer (some ⟨γ'.at_ (g.m + 1), 0, none⟩)) ∧ γ'.live (g.m + 1) ∧ IsG W γ' (g.new k) ∧ Wr (fun b => b = γ.G) w W ∧ Ext w.heap.size γ γ' := by
  obtain ⟨cur, hr, hc⟩ := h.tab
  have hGS : γ.S ≠ γ.G := fun e => by
    have := h.face
    rw [← e, hr] at this
    cases this
  refine (callsIn_wide.1 (fresh_in γ.G γ.S γ.sc g.ss.length k g.m (at' g.ss k) w (right_all h.ok.rgt k hk) hm hk (at_row h.face 2 rfl) (at_row h.face 4 rfl) (fz_row h.face 4) (at_row hr k (hc k hk)) hGS)).mono ?_
  rintro e W ⟨B, v, rfl, hF⟩
  have kG := wr_set w γ.G 4 (.int .i64 ((g.m : Int) + 1))
  have hz : (w.setCell ⟨γ.G, 4, none⟩ (.int .i64 ((g.m : Int) + 1))).heap.size = w.heap.size := by simp
  have kw : Wr (fun b => b = γ.G) w W := kG.trans (wr_below hF.bel (fun b => b = γ.G)) (fun _ _ e => e)
  have hface : W.heap[γ.G]? = some (.cells (faceC γ (g.new k)) 48) := by
    have h1 := gset_row h.face 4 (.int .i64 ((g.m : Int) + 1))
    rw [hF.bel.block γ.G (by rw [hz]; exact row_lt h.face), h1]
    have : ((g.new k).m : Int) = (g.m : Int) + 1 := by rw [m_new]; omega
    unfold faceC
    rw [this]
    rfl
  have hord := hF.ord
  rw [hz] at hord
  rcases hF.own.2 with ⟨hv, h0⟩ | ⟨F, cap, cur', hv, hlo, hrow, _, _, _, htk⟩
  · subst hv
    have hobj := hF.obj
    rw [show (Value.slice none 0 0) = .slice none (at' g.ss k).size 0 by rw [h0]] at hobj
    refine ⟨growG γ (g.m + 1) w.heap.size none, by rw [show (growG γ (g.m + 1) w.heap.size none).at_ = updN γ.at_ (g.m + 1) w.heap.size from rfl, updN_same], .inr rfl,
      h.grow hk hm kw hface (B := B) (Nat.le_refl _) hobj (fun q => by omega) (fun F' e => by cases e), kw, ⟨rfl, rfl, rfl, rfl, fun b hb => ?_, fun x hx => ⟨.inl hx, ?_⟩⟩⟩
    · rcases hb with hb | hb | ⟨x, hx | rfl, hb⟩
      · exact .inl (.inl hb)
      · exact .inl (.inr (.inl hb))
      · have hne : x ≠ g.m + 1 := fun e => by have := (h.obj x hx).num; omega
        refine .inl (.inr (.inr ⟨x, hx, ?_⟩))
        rcases hb with hb | hb
        · exact .inl (by rw [hb]; exact updN_other _ _ hne)
        · exact .inr (by rw [← hb]; exact (updN_other _ _ hne).symm)
      · rcases hb with hb | hb
        · exact .inr (by rw [hb]; show _ ≤ updN γ.at_ (g.m + 1) w.heap.size (g.m + 1); rw [updN_same]; exact Nat.le_refl _)
        · replace hb : updN γ.fs (g.m + 1) none (g.m + 1) = some b := hb
          rw [updN_same] at hb; cases hb
    · exact updN_other _ _ (fun e => by have := (h.obj x hx).num; omega)
  · subst hv
    refine ⟨growG γ (g.m + 1) w.heap.size (some F), by rw [show (growG γ (g.m + 1) w.heap.size (some F)).at_ = updN γ.at_ (g.m + 1) w.heap.size from rfl, updN_same], .inr rfl,
      h.grow hk hm kw hface (B := B) (Nat.le_refl _) hF.obj (fun _ => ⟨F, rfl, rfl⟩) (fun F' e => ?_), kw, ⟨rfl, rfl, rfl, rfl, fun b hb => ?_, fun x hx => ⟨.inl hx, ?_⟩⟩⟩
    · cases e
      refine ⟨by omega, cur', hrow, fun f hf => ?_⟩
      obtain ⟨z1, z2⟩ := zs_get _ f hf
      rw [← htk] at z1 z2
      rw [List.getElem?_take_of_lt (by omega), Array.getElem?_toList] at z1 z2
      exact ⟨z1, z2⟩
    · rcases hb with hb | hb | ⟨x, hx | rfl, hb⟩
      · exact .inl (.inl hb)
      · exact .inl (.inr (.inl hb))
      · have hne : x ≠ g.m + 1 := fun e => by have := (h.obj x hx).num; omega
        refine .inl (.inr (.inr ⟨x, hx, ?_⟩))
        rcases hb with hb | hb
        · exact .inl (by rw [hb]; exact updN_other _ _ hne)
        · exact .inr (by rw [← hb]; exact (updN_other _ _ hne).symm)
      · rcases hb with hb | hb
        · exact .inr (by rw [hb]; show _ ≤ updN γ.at_ (g.m + 1) w.heap.size (g.m + 1); rw [updN_same]; exact Nat.le_refl _)
        · replace hb : updN γ.fs (g.m + 1) (some F) (g.m + 1) = some b := hb
          rw [updN_same] at hb; cases hb
          exact .inr (by omega)
    · exact updN_other _ _ (fun e => by have := (h.obj x hx).num; omega)
end Go.Proofs.YtlkhmfmocegekaaDoor
