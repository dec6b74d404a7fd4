/- package graph: met: what can be reached, one behind the other: what the iterator keeps. -/
import Derived.Test.YtlkhmfmocegekaaDoorGrMap
import Derived.Test.YtlkhmfmocegekaaDoorGrQueue
import Derived.Test.YtlkhmfmocegekaaDoorGrLoop
import Derived.Test.YtlkhmfmocegekaaDoorGrD
set_option linter.unusedVariables false
namespace Go.Proofs.YtlkhmfmocegekaaDoor
open Go.RowKit Go.Gr Go.Sh Go.Oq
/-- Objects and their numbers, from so many on. -/
def kmapF : List Nat → Nat → List (Nat × Value)
  | [], _ => []
  | x :: r, i => (x, .int .i64 ((i : Int) + 1)) :: kmapF r (i + 1)
/-- What is known. -/
def kmap (K : List Nat) : List (Nat × Value) := (0, .int .i64 0) :: kmapF K 0
theorem kmapF_snoc (K : List Nat) (x : Nat) : ∀ i, kmapF (K ++ [x]) i = kmapF K i ++ [(x, .int .i64 (((i + K.length : Nat) : Int) + 1))] := by
  induction K with
  | nil => intro i; rfl
  | cons y r ih =>
    intro i
    simp only [kmapF, List.cons_append, ih, List.length_cons]
    rw [show i + 1 + r.length = i + (r.length + 1) by omega]
theorem kmap_snoc (K : List Nat) (x : Nat) : kmap (K ++ [x]) = kmap K ++ [(x, .int .i64 ((K.length : Int) + 1))] := by
  simp only [kmap, kmapF_snoc, Nat.zero_add, List.cons_append]
theorem kmapF_len (K : List Nat) : ∀ i, (kmapF K i).length = K.length := by
  induction K with
  | nil => intro i; rfl
  | cons y r ih => intro i; simp [kmapF, ih]
theorem kmap_len (K : List Nat) : (kmap K).length = K.length + 1 := by simp [kmap, kmapF_len]
theorem kmapF_lk (K : List Nat) (x : Nat) : ∀ i, lkp (kmapF K i) x = if x ∈ K then some (.int .i64 (((i + K.idxOf x : Nat) : Int) + 1)) else none := by
  induction K with
  | nil => intro i; rfl
  | cons y r ih =>
    intro i
    simp only [kmapF, lkp, List.mem_cons]
    by_cases h : x = y
    · subst h
      rw [if_pos rfl, if_pos (.inl rfl), List.idxOf_cons_self]
      rfl
    · rw [if_neg h, ih]
      by_cases h2 : x ∈ r
      · rw [if_pos h2, if_pos (.inr h2), List.idxOf_cons, show (y == x) = false by rw [beq_eq_false_iff_ne]; exact Ne.symm h]
        simp only [cond_false]
        rw [show i + 1 + r.idxOf x = i + (r.idxOf x + 1) by omega]
      · rw [if_neg h2, if_neg (by rintro (q | q); exact h q; exact h2 q)]
theorem kmap_lk (K : List Nat) (x : Nat) : lkp (kmap K) x = if x = 0 then some (.int .i64 0) else if x ∈ K then some (.int .i64 (((K.idxOf x : Nat) : Int) + 1)) else none := by
  simp only [kmap, lkp, kmapF_lk, Nat.zero_add]
theorem kmapF_keys {γ : Gh} (K : List Nat) (h : ∀ x ∈ K, γ.live x) : ∀ i, KeysOk γ (kmapF K i) := by
  induction K with
  | nil => intro i p hp; cases hp
  | cons y r ih =>
    intro i p hp h0
    rcases List.mem_cons.1 hp with rfl | hp
    · exact h y (by simp)
    · exact ih (fun x hx => h x (by simp [hx])) (i + 1) p hp h0
theorem kmap_keys {γ : Gh} {K : List Nat} (h : ∀ x ∈ K, γ.live x) : KeysOk γ (kmap K) := by
  intro p hp h0
  rcases List.mem_cons.1 hp with rfl | hp
  · exact absurd rfl h0
  · exact kmapF_keys K h 0 p hp h0
def valsOf {n : Nat} (ys : List (Fin n)) : List Nat := ys.map (·.val)
/-- What is told of the object with that number. -/
abbrev encM (γ : Gh) (L : List Nat) (i : Fin L.length) : Array Value := #[.int .i64 ((i.val : Int) + 1), .pointer (some ⟨γ.at_ L[i], 0, none⟩)]
/-- What a round must keep. -/
structure KpM (γ : Gh) (g : Gr) (N0 : Nat) (W W' : World) : Prop where
  gr : IsG W γ g → IsG W' γ g
  map : W'.heap[N0]? = W.heap[N0]?
  row : ∀ r cs, N0 ≤ r → W.heap[r]? = some (.cells cs 60) → W'.heap[r]? = some (.cells cs 60)
  size : W.heap.size ≤ W'.heap.size
theorem kpM_t {γ : Gh} {g : Gr} {N0 : Nat} {A B C : World} (h : KpM γ g N0 A B) (k : KpM γ g N0 B C) : KpM γ g N0 A C :=
  ⟨fun q => k.gr (h.gr q), k.map.trans h.map, fun r cs hr hc => k.row r cs hr (h.row r cs hr hc), Nat.le_trans h.size k.size⟩
theorem kpM_refl (γ : Gh) (g : Gr) (N0 : Nat) (W : World) : KpM γ g N0 W W := ⟨fun q => q, rfl, fun _ _ _ h => h, Nat.le_refl _⟩
/-- What the iterator keeps: the graph, the map of what is known, the queue. -/
structure MetI (γ : Gh) (g : Gr) (N0 : Nat) (K q : List Nat) (v : Value) (W : World) : Prop where
  gr : IsG W γ g
  map : W.heap[N0]? = some (mapO γ.at_ (kmap K))
  que : qRow W (N0 + 1) 60 v q.length (q.map fun x => .pointer (pp γ.at_ x))
  kl : ∀ x ∈ K, γ.live x
  ql : ∀ x ∈ q, x ≠ 0 → γ.live x
theorem MetI.lt {γ : Gh} {g : Gr} {N0 : Nat} {K q : List Nat} {v : Value} {W : World} (h : MetI γ g N0 K q v W) : N0 < W.heap.size := row_lt h.map
theorem MetI.kept {γ : Gh} {g : Gr} {N0 : Nat} {K q : List Nat} {v : Value} {W W' : World} (h : MetI γ g N0 K q v W) (k : KpM γ g N0 W W') : MetI γ g N0 K q v W' := by
  refine ⟨k.gr h.gr, k.map.trans h.map, ⟨h.que.1, ?_⟩, h.kl, h.ql⟩
  rcases h.que.2 with z | ⟨gb, off, cap, cur, rfl, hb, hg, rest⟩
  · exact .inl z
  · exact .inr ⟨gb, off, cap, cur, rfl, hb, k.row gb cur (by omega) hg, rest⟩
theorem MetI.alloc {γ : Gh} {g : Gr} {N0 : Nat} {K q : List Nat} {v : Value} {W : World} (h : MetI γ g N0 K q v W) (O : Obj) : MetI γ g N0 K q v (W.alloc O) :=
  ⟨h.gr.below (below_alloc0 W O), (Below.heap_alloc W O _ h.lt).trans h.map, qRow_kept h.que (World.grownBy_alloc W O none) (by
    rcases h.que.2 with ⟨rfl, _⟩ | ⟨gb, off, cap, cur, rfl, _⟩
    · exact .inl rfl
    · exact .inr (by simp [Value.ownBlock])), h.kl, h.ql⟩
/-- Behind an append. -/
theorem MetI.app {γ : Gh} {g : Gr} {N0 : Nat} {K q ys : List Nat} {v v' : Value} {W W' : World} (h : MetI γ g N0 K q v W) (hq : qRow W' (N0 + 1) 60 v' (q.length + ys.length) ((q.map fun x => .pointer (pp γ.at_ x)) ++ ys.map fun x => .pointer (pp γ.at_ x))) (hg : W.grownBy W' v.ownBlock) (hl : ∀ x ∈ ys, x ≠ 0 → γ.live x)
    (hne : ∀ r cs T, r < W.heap.size → W.heap[r]? = some (.cells cs T) → T ≠ 60 → some r ≠ v.ownBlock) : MetI γ g N0 K (q ++ ys) v' W' := by
  have hb := qRow_block h.que
  have k : Wr (fun b => some b = v.ownBlock) W W' := ⟨hg.os, hg.tape, hg.output, hg.size, fun k hk hn => hg.block k hk hn⟩
  refine ⟨h.gr.frame k (fun b hf e => ?_) (fun e => ?_), ?_, ?_, h.kl, ?_⟩
  · obtain ⟨cs, T, h1, h2⟩ := h.gr.foot_ty hf
    refine hne b cs T (row_lt h1) h1 ?_ e
    rintro rfl
    revert h2
    unfold gty
    decide
  · obtain ⟨cur, h1, _⟩ := h.gr.tab
    exact hne _ cur _ (row_lt h1) h1 (by decide) e
  · refine (hg.block N0 h.lt (fun e => ?_)).trans h.map
    have := (hb N0 e.symm).1
    omega
  · rw [List.length_append, List.map_append]
    exact hq
  · intro x hx
    rcases List.mem_append.1 hx with hx | hx
    · exact h.ql x hx
    · exact hl x hx
theorem qRow_ne {W : World} {base : Nat} {e : TypeId} {v : Value} {n : Nat} {xs : List Value} (h : qRow W base e v n xs) : ∀ r cs T, r < W.heap.size → W.heap[r]? = some (.cells cs T) → T ≠ e → some r ≠ v.ownBlock := by
  intro r cs T _ hr hT hv
  obtain ⟨_, cs', h2⟩ := qRow_block h r hv.symm
  rw [hr] at h2
  cases h2
  exact hT rfl
/-- Behind an object that is met. -/
theorem MetI.meet {γ : Gh} {g : Gr} {N0 : Nat} {K q : List Nat} {v : Value} {W : World} {x : Nat} (h : MetI γ g N0 K q v W) (hx : γ.live x) : MetI γ g N0 (K ++ [x]) q v (W.putObj N0 (mapO γ.at_ (kmap (K ++ [x])))) := by
  have hg := grownBy_putObj' W N0 (mapO γ.at_ (kmap (K ++ [x])))
  have k : Wr (fun b => b = N0) W (W.putObj N0 (mapO γ.at_ (kmap (K ++ [x])))) := grownBy_wr hg
  refine ⟨h.gr.frame k (fun b hf e => ?_) (fun e => ?_), World.putObj_heap_same h.lt, qRow_kept h.que hg ?_, ?_, h.ql⟩
  · subst e
    obtain ⟨cs, T, h1, _⟩ := h.gr.foot_ty hf
    rw [h.map] at h1
    cases h1
  · obtain ⟨cur, h1, _⟩ := h.gr.tab
    rw [e, h.map] at h1
    cases h1
  · rcases h.que.2 with ⟨rfl, _⟩ | ⟨gb, off, cap, cur, rfl, hb, _⟩
    · exact .inl rfl
    · exact .inr (by simp [Value.ownBlock]; omega)
  · intro y hy
    rcases List.mem_append.1 hy with hy | hy
    · exact h.kl y hy
    · simp only [List.mem_singleton] at hy
      subst hy
      exact hx
/-- How many are known. -/
def kLen (W : World) (N0 : Nat) : Nat := match W.heap[N0]? with | some (.map es _) => es.size | _ => 0
theorem MetI.klen {γ : Gh} {g : Gr} {N0 : Nat} {K q : List Nat} {v : Value} {W : World} (h : MetI γ g N0 K q v W) : kLen W N0 = K.length + 1 := by
  unfold kLen
  rw [h.map]
  simp [mapO, pents_len, kmap_len]
def sLen : Value → Nat
  | .slice _ n _ => n
  | _ => 0
theorem MetI.slen {γ : Gh} {g : Gr} {N0 : Nat} {K q : List Nat} {v : Value} {W : World} (h : MetI γ g N0 K q v W) : sLen v = q.length := by
  obtain ⟨a, c, rfl, _⟩ := qRow_slice h.que
  rfl
theorem row6 {g : Gr} (h : g.Ok) {t : Nat} (ht : t < g.rt.length) : g.row t = [g.slot t 0, g.slot t 1, g.slot t 2, g.slot t 3, g.slot t 4, g.slot t 5] := by
  have hl := h.six t ht
  unfold Gr.slot
  generalize g.row t = r at hl ⊢
  match r, hl with
  | [a, b, c, d, e, f], _ => rfl
theorem flat_take {g : Gr} {t : Nat} (ht : t < g.rt.length) : (g.rt.take (t + 1)).flatten = (g.rt.take t).flatten ++ g.row t := by
  rw [List.take_succ_eq_append_getElem ht, List.flatten_append]
  simp [Gr.row, List.getD_eq_getElem?_getD, List.getElem?_eq_getElem ht]
theorem flat_take_len {g : Gr} (h : g.Ok) : ∀ t, t ≤ g.rt.length → (g.rt.take t).flatten.length = 6 * t := by
  intro t
  induction t with
  | zero => intro _; simp
  | succ t ih =>
    intro ht
    rw [flat_take (by omega), List.length_append, ih (by omega), h.six t (by omega)]
    omega
theorem cells_new {W : World} (cs : Array Value) (T : TypeId) : ∀ j u, cs.toList[j]? = some u → (W.alloc (.cells cs T)).cell? ((⟨W.heap.size, 0, none⟩ : Addr).add j) = some u := by
  intro j u h
  have ha : (⟨W.heap.size, 0, none⟩ : Addr).add j = ⟨W.heap.size, j, none⟩ := by unfold Addr.add; split <;> simp_all
  rw [ha]
  exact at_row (heap_alloc_last W _) j (by rwa [Array.getElem?_toList] at h)
/-- append abides: it writes what the iterator may. -/
theorem app_al {W : World} {N0 : Nat} {v : Value} {n : Nat} {xs : List Value} (h : qRow W (N0 + 1) 60 v n xs) {N : Nat} (hN : N = N0) : ∀ r, v.ownBlock = some r → MAl 60 N W r := by
  subst hN
  intro r hr
  obtain ⟨h1, cs, h2⟩ := qRow_block h r hr
  exact .inr ⟨by omega, cs, h2⟩
theorem kids_get (g : Gr) (x f : Nat) (h : f < (g.txt x).size) : (g.kids x).take (f + 1) = (g.kids x).take f ++ [hn g x f] := by
  have hl : f < (g.kids x).length := by rw [kids_len]; exact h
  rw [List.take_succ_eq_append_getElem hl]
  congr 1
  simp [Gr.kids, hn]
theorem run_bound {g : Gr} {K q L : List Nat} (h : Run g K q L) : K.length ≤ L.length := by
  obtain ⟨r, rfl⟩ := h.pre
  simp
theorem run_next {g : Gr} {K q L : List Nat} {o : Nat} (h : Run g (K ++ [o]) q L) : ∃ hk : K.length < L.length, L[K.length] = o := by
  obtain ⟨r, rfl⟩ := h.pre
  refine ⟨by simp, by simp⟩
theorem vals_snoc' {n k : Nat} {pre : List (Fin n)} (hp : valsOf pre = List.range k) (hk : k < n) : valsOf (pre ++ [⟨k, hk⟩]) = List.range (k + 1) := by
  rw [List.range_succ, ← hp]
  simp [valsOf]
theorem vals_len {n k : Nat} {pre : List (Fin n)} (hp : valsOf pre = List.range k) : pre.length = k := by
  have := congrArg List.length hp
  simpa [valsOf] using this
end Go.Proofs.YtlkhmfmocegekaaDoor
