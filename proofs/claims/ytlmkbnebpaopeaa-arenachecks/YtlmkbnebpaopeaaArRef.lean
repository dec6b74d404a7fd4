/- The document's functions of layer 5 (lapidaryref05): Check, Put, Do, Load, Store, Cas. -/
import Derived.Test.YtlmkbnebpaopeaaArCall
import Derived.OwnWalk
namespace Go.Proofs.Ytlmkbnebpaopeaa
open Go.RowKit
theorem nz {x : Int} (h : x ≠ 0) : (x != 0) = true := by simpa using h
set_option maxHeartbeats 1000000 in
theorem rCheck_any (k p o n : Int) (w : World) : Calls Try.prog 12 #[acc k p o n] w fun e w' => e = .returned (.int .i64 (if ck k p o n then 0 else 2)) ∧ Below w.heap.size w w' := by
  by_cases h0 : k < 0
  · have H : ck k p o n = false := by simp [ck]; omega
    rw [H, if_neg Bool.false_ne_true]
    clear H
    go_enter Try.func12, Try.ntmps12
    go_wp2
    go_ret
    exact ⟨rfl, below_alloc0 w _⟩
  by_cases h3 : 3 < k
  · have H : ck k p o n = false := by simp [ck]; omega
    rw [H, if_neg Bool.false_ne_true]
    clear H
    have h0' : 0 ≤ k := by omega
    clear h0
    have e0 : (k == 0) = false := by simp; omega
    go_enter Try.func12, Try.ntmps12
    go_wp2
    go_ret
    exact ⟨rfl, below_alloc0 w _⟩
  have hk : k = 0 ∨ k = 1 ∨ k = 2 ∨ k = 3 := by omega
  clear h0 h3
  rcases hk with rfl | rfl | rfl | rfl
  · by_cases hp : p = 0
    · subst hp
      by_cases ho : o = 0
      · subst ho
        by_cases hn : n = 0
        · subst hn
          go_enter Try.func12, Try.ntmps12
          go_wp2
          go_ret
          exact ⟨rfl, below_alloc0 w _⟩
        · have H : ck 0 0 0 n = false := by simp [ck, hn]
          rw [H, if_neg Bool.false_ne_true]
          clear H
          have hn := nz hn
          go_enter Try.func12, Try.ntmps12
          go_wp2
          go_ret
          exact ⟨rfl, below_alloc0 w _⟩
      · have H : ck 0 0 o n = false := by simp [ck, ho]
        rw [H, if_neg Bool.false_ne_true]
        clear H
        have ho := nz ho
        go_enter Try.func12, Try.ntmps12
        go_wp2
        go_ret
        exact ⟨rfl, below_alloc0 w _⟩
    · have H : ck 0 p o n = false := by simp [ck, hp]
      rw [H, if_neg Bool.false_ne_true]
      clear H
      have hp := nz hp
      go_enter Try.func12, Try.ntmps12
      go_wp2
      go_ret
      exact ⟨rfl, below_alloc0 w _⟩
  · by_cases ho : o = 0
    · subst ho
      by_cases hn : n = 0
      · subst hn
        go_enter Try.func12, Try.ntmps12
        go_wp2
        go_ret
        exact ⟨rfl, below_alloc0 w _⟩
      · have H : ck 1 p 0 n = false := by simp [ck, hn]
        rw [H, if_neg Bool.false_ne_true]
        clear H
        have hn := nz hn
        go_enter Try.func12, Try.ntmps12
        go_wp2
        go_ret
        exact ⟨rfl, below_alloc0 w _⟩
    · have H : ck 1 p o n = false := by simp [ck, ho]
      rw [H, if_neg Bool.false_ne_true]
      clear H
      have ho := nz ho
      go_enter Try.func12, Try.ntmps12
      go_wp2
      go_ret
      exact ⟨rfl, below_alloc0 w _⟩
  · by_cases ho : o = 0
    · subst ho
      go_enter Try.func12, Try.ntmps12
      go_wp2
      go_ret
      exact ⟨rfl, below_alloc0 w _⟩
    · have H : ck 2 p o n = false := by simp [ck, ho]
      rw [H, if_neg Bool.false_ne_true]
      clear H
      have ho := nz ho
      go_enter Try.func12, Try.ntmps12
      go_wp2
      go_ret
      exact ⟨rfl, below_alloc0 w _⟩
  · go_enter Try.func12, Try.ntmps12
    go_wp2
    go_ret
    exact ⟨rfl, below_alloc0 w _⟩
theorem info_u64 : (Try.prog.info? 28).map (fun i => (i.zero, i.size, i.bytes)) = some (some (.int .u64 0), 1, 8) := by kernel_rfl
/-- A row that begins with so many words, one of them set. -/
theorem ws_row {W : World} {g : Nat} {cur : Array Value} {xs : List Int} {t : TypeId} (hg : W.heap[g]? = some (.cells cur t)) (ht : cur.toList.take xs.length = (wds xs).toList) (p : Nat) (n : Int) : Ws (W.setCell ⟨g, p, none⟩ (.int .u64 n)) g 0 (xs.set p n) := by
  have e := setCell_eq_setRow W g p cur t (0, 0) (.int .u64 n) hg
  intro i hi
  rw [List.length_set] at hi
  rw [e, Nat.zero_add, at_row (setRow_heap W g cur _ _ _ hg) i]
  rw [Array.getElem?_setIfInBounds]
  have hc : cur[i]? = some (.int .u64 (wat xs i)) := by
    have h1 : (cur.toList.take xs.length)[i]? = (wds xs).toList[i]? := by rw [ht]
    rw [List.getElem?_take, if_pos hi] at h1
    have h2 := wds_get xs i hi
    simp only [Array.getElem?_toList] at h1
    rw [h1, h2]
  have hs : i < cur.size := (Array.getElem?_eq_some_iff.1 hc).1
  by_cases hpi : p = i
  · subst hpi
    rw [if_pos rfl, if_pos hs]
    simp [wat, List.getD, hi]
  · rw [if_neg hpi, hc]
    simp [wat, List.getD, List.getElem?_set_ne hpi]
theorem own_row {W : World} {base m : Nat} {e : TypeId} {v : Value} {vs : List Value} (h : W.ownsRow base e 1 v (0 + m) ([] ++ vs)) (hm : 1 ≤ m) : ∃ g c cur, v = .slice (some ⟨g, 0, none⟩) m c ∧ base ≤ g ∧ W.heap[g]? = some (.cells cur e) ∧ cur.toList.take m = vs ∧ m ≤ cur.size := by
  rcases h.2 with ⟨_, h0⟩ | ⟨g, cap, cur, h1, h2, h3, h4, h5, h6, h7⟩
  · omega
  · refine ⟨g, cap, cur, by rw [h1, Nat.zero_add], h2, h3, ?_, by omega⟩
    simpa using h7
set_option maxHeartbeats 1000000 in
theorem rPut_at (b off c p : Nat) (xs : List Int) (n : Int) (w : World) (hx : Ws w b off xs) (hp : p < xs.length) (h2 : xs.length ≤ 16384) : Calls Try.prog 32 #[.slice (some ⟨b, off, none⟩) xs.length c, .int .i64 p, .int .u64 n] w fun e w' =>
    ∃ g c', e = .returned (.slice (some ⟨g, 0, none⟩) xs.length c') ∧ Ws w' g 0 (xs.set p n) ∧ w.heap.size ≤ g ∧ Below w.heap.size w w' := by
  obtain ⟨i0, hi, hz0, hz1, hz2⟩ := info_parts info_u64
  have hl := hx.list
  have ho := wds_one xs
  have hlen : (wds xs).toList.length = xs.length * 1 := by simp [wds]
  revert hl ho hlen
  generalize hvs : (wds xs).toList = vs
  have HV := hid hvs
  clear hvs
  intro hl ho hlen
  have hpl : (p : Int) < xs.length := by omega
  go_enter Try.func32, Try.ntmps32
  go_wp2_with (at_builtin; refine wpList_append_own_at _ rfl _ _ 33 rfl w.heap.size 28 i0 (.int .u64 0) 1 8 Try.underlying33 hi hz0 hz1 hz2 rfl (by decide) (.slice none 0 0) 0 [] rfl (World.ownsRow_nil _ _ _ _) ⟨b, off, none⟩ xs.length c vs rfl hlen hl ho (by unfold maxLen; omega) (by omega) (Nat.le_refl _) ?_; intro v' w1 hown hgrow hnil hloc; obtain ⟨g, c', cur, hv, hgb, hg, ht, hm⟩ := own_row hown (by omega); subst hv; clear hnil hloc hown; have hcg := at_row hg p (Array.getElem?_eq_getElem (by omega)); have hfg := fz_row hg p; have HG := hid hg; clear hg; have HT := hid ht; clear ht)
  go_ret
  rw [← HV.out] at HT
  exact ⟨g, c', rfl, ws_row HG.out HT.out p n, hgb, Below.setCell (p := ⟨g, p, none⟩) ⟨hgrow.os, hgrow.tape, hgrow.output, hgrow.size, fun k hk => hgrow.block k hk (by simp [Value.ownBlock])⟩ hgb _⟩
end Go.Proofs.Ytlmkbnebpaopeaa
