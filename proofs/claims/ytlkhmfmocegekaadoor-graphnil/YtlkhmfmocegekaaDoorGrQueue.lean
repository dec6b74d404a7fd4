/- A queue: a slice that is cut ahead and grown behind. -/
import Derived.Test.YtlkhmfmocegekaaDoorBsKit
import Derived.ArgAppend
import Derived.OwnWalkIn
import Derived.Maps.AppendAt
set_option linter.unusedVariables false
namespace Go.Proofs.YtlkhmfmocegekaaDoor
open Go.RowKit
/-- A slice of cells that lies anywhere in a block from base on. -/
def qRow (w : World) (base : Nat) (e : TypeId) (v : Value) (n : Nat) (xs : List Value) : Prop :=
  xs.length = n ∧ ((v = .slice none 0 0 ∧ n = 0) ∨ ∃ g off cap cur, v = .slice (some ⟨g, off, none⟩) n cap ∧ base ≤ g ∧ w.heap[g]? = some (.cells cur e) ∧ n ≤ cap ∧ cap ≤ maxLen ∧ off + cap ≤ cur.size ∧ ∀ j u, xs[j]? = some u → cur[off + j]? = some u)
theorem qRow_nil (w : World) (base : Nat) (e : TypeId) : qRow w base e (.slice none 0 0) 0 [] := ⟨rfl, .inl ⟨rfl, rfl⟩⟩
theorem qRow_own {w : World} {base : Nat} {e : TypeId} {v : Value} {n : Nat} {xs : List Value} (h : w.ownsRow base e 1 v n xs) : qRow w base e v n xs := by
  refine ⟨by simpa using h.1, ?_⟩
  rcases h.2 with q | ⟨g, cap, cur, rfl, hb, hg, hn, hc, hs, ht⟩
  · exact .inl q
  · refine .inr ⟨g, 0, cap, cur, rfl, hb, hg, hn, hc, by omega, fun j u hj => ?_⟩
    rw [Nat.zero_add]
    rw [← ht, Nat.mul_one] at hj
    have hjn : j < n := by
      have := (List.getElem?_eq_some_iff.1 hj).1
      rw [List.length_take] at this; omega
    rw [List.getElem?_take_of_lt hjn, Array.getElem?_toList] at hj
    exact hj
theorem qRow_kept {w w' : World} {base : Nat} {e : TypeId} {v : Value} {n : Nat} {xs : List Value} {row : Option Nat} (h : qRow w base e v n xs) (hg : w.grownBy w' row) (hne : v.ownBlock = none ∨ v.ownBlock ≠ row) : qRow w' base e v n xs := by
  refine ⟨h.1, ?_⟩
  rcases h.2 with q | ⟨g, off, cap, cur, rfl, hb, hgb, rest⟩
  · exact .inl q
  · refine .inr ⟨g, off, cap, cur, rfl, hb, (hg.block g (Array.getElem?_eq_some_iff.1 hgb).1 (fun e => ?_)).trans hgb, rest⟩
    rcases hne with q | q
    · simp [Value.ownBlock] at q
    · exact q (by simpa [Value.ownBlock] using e)
theorem qRow_low {w : World} {base base' : Nat} {e : TypeId} {v : Value} {n : Nat} {xs : List Value} (h : qRow w base e v n xs) (hb : base' ≤ base) : qRow w base' e v n xs := by
  refine ⟨h.1, ?_⟩
  rcases h.2 with q | ⟨g, off, cap, cur, rfl, hbg, rest⟩
  · exact .inl q
  · exact .inr ⟨g, off, cap, cur, rfl, Nat.le_trans hb hbg, rest⟩
theorem qRow_slice {w : World} {base : Nat} {e : TypeId} {v : Value} {n : Nat} {xs : List Value} (h : qRow w base e v n xs) : ∃ a c, v = .slice a n c ∧ n ≤ c := by
  rcases h.2 with ⟨rfl, rfl⟩ | ⟨g, off, cap, cur, rfl, _, _, hn, _⟩
  · exact ⟨none, 0, rfl, Nat.le_refl _⟩
  · exact ⟨_, cap, rfl, hn⟩
/-- The block that it lies in is one of that type. -/
theorem qRow_block {w : World} {base : Nat} {e : TypeId} {v : Value} {n : Nat} {xs : List Value} (h : qRow w base e v n xs) : ∀ r, v.ownBlock = some r → base ≤ r ∧ ∃ cs, w.heap[r]? = some (.cells cs e) := by
  intro r hr
  rcases h.2 with ⟨rfl, _⟩ | ⟨g, off, cap, cur, rfl, hb, hg, _⟩
  · simp [Value.ownBlock] at hr
  · simp [Value.ownBlock] at hr
    subst hr
    exact ⟨hb, cur, hg⟩
/-- The first of it. -/
theorem qRow_head {w : World} {base : Nat} {e : TypeId} {v : Value} {n : Nat} {x : Value} {xs : List Value} (h : qRow w base e v n (x :: xs)) : ∃ g off cap, v = .slice (some ⟨g, off, none⟩) (xs.length + 1) cap ∧ xs.length + 1 ≤ cap ∧ n = xs.length + 1 ∧ w.cell? ⟨g, off, none⟩ = some x ∧ base ≤ g ∧
    ∀ off', (off' = off + 1 ∨ (cap = 1 ∧ off' = off)) → qRow w base e (.slice (some ⟨g, off', none⟩) xs.length (cap - 1)) xs.length xs := by
  have hn : n = xs.length + 1 := by have := h.1; simp at this; omega
  rcases h.2 with ⟨_, h0⟩ | ⟨g, off, cap, cur, rfl, hb, hg, hnc, hcm, hfit, hx⟩
  · omega
  · refine ⟨g, off, cap, by rw [hn], by omega, hn, ?_, hb, fun off' ho => ⟨rfl, .inr ⟨g, off', cap - 1, cur, rfl, hb, hg, by omega, by omega, by omega, fun j u hj => ?_⟩⟩⟩
    · have := hx 0 x rfl
      exact at_row hg _ (by simpa using this)
    · rcases ho with rfl | ⟨hc1, rfl⟩
      · have := hx (j + 1) u (by simpa using hj)
        rwa [show off + (j + 1) = off + 1 + j by omega] at this
      · have := (List.getElem?_eq_some_iff.1 hj).1
        omega
theorem setCells_row (g : Nat) (t : TypeId) : ∀ (vs : List Value) (o : Nat) (w : World) (cur : Array Value), w.heap[g]? = some (.cells cur t) → o + vs.length ≤ cur.size →
    ∃ cur', (w.setCells g o vs).heap[g]? = some (.cells cur' t) ∧ cur'.size = cur.size ∧ (∀ j, j < o → cur'[j]? = cur[j]?) ∧ (∀ j u, vs[j]? = some u → cur'[o + j]? = some u) ∧ w.grownBy (w.setCells g o vs) (some g)
  | [], o, w, cur, hg, _ => ⟨cur, hg, rfl, fun _ _ => rfl, (fun j u hj => by cases hj), ⟨rfl, rfl, rfl, Nat.le_refl _, fun _ _ _ => rfl⟩⟩
  | v :: vs, o, w, cur, hg, hfit => by
    have h1 : (w.setCell ⟨g, o, none⟩ v).heap[g]? = some (.cells (cur.setIfInBounds o v) t) := by
      rw [setCell_eq_setRow w g o cur t (0, 0) v hg]
      exact setRow_heap w g cur _ _ _ hg
    have gr : w.grownBy (w.setCell ⟨g, o, none⟩ v) (some g) := by
      refine ⟨rfl, rfl, rfl, by simp, fun k hk hne => ?_⟩
      have : k ≠ g := fun e => hne (by rw [e])
      simp [World.setCell, Array.getElem?_modify, Ne.symm this]
    simp only [List.length_cons] at hfit
    obtain ⟨cur', h2, h3, h4, h5, h6⟩ := setCells_row g t vs (o + 1) (w.setCell ⟨g, o, none⟩ v) _ h1 (by simp; omega)
    refine ⟨cur', h2, by simpa using h3, fun j hj => ?_, fun j u hj => ?_, gr.trans h6⟩
    · rw [h4 j (by omega), Array.getElem?_setIfInBounds, if_neg (by omega)]
    · cases j with
      | zero =>
        simp at hj
        subst hj
        rw [Nat.add_zero, h4 o (by omega), Array.getElem?_setIfInBounds, if_pos rfl, if_pos (by omega)]
      | succ j =>
        have := h5 j u (by simpa using hj)
        rwa [show o + 1 + j = o + (j + 1) by omega] at this
/-- append to a queue. -/
theorem run_append_q {P : Program} (w : World) (base : Nat) (t ty e : TypeId) (i : TypeInfo) (z : Value) (bytes : Nat) (ht : P.underlying t = some (.slice e)) (hi : P.info? e = some i) (hz : i.zero = some z)
    (hsize : i.size = 1) (hby : i.bytes = bytes) (hzs : z.cells.size = 1) (v : Value) (n : Nat) (xs : List Value) (hown : qRow w base e v n xs)
    (a : Addr) (m c : Nat) (news : List Value) (hm : 0 < m) (hl : news.length = m) (hnews : ∀ j u, news[j]? = some u → w.cell? (a.add j) = some u) (h1 : ∀ u ∈ news, u.oneCell' = true)
    (h63 : n + m ≤ maxLen) (hbytes : (n + m) * bytes ≤ 140737488355328) (hbase : base ≤ w.heap.size) :
    ∃ v' w', (Builtin.append_ #[t, t] ty #[v, .slice (some a) m c]).run P w = .ok v' w' ∧ qRow w' base e v' (n + m) (xs ++ news) ∧ w.grownBy w' v.ownBlock := by
  rcases hown.2 with ⟨rfl, rfl⟩ | ⟨g, off, cap, cur, rfl, hbg, hg, hnc, hcm, hfit, hx⟩
  · have hx : xs = [] := List.eq_nil_of_length_eq_zero hown.1
    subst hx
    obtain ⟨v', w', r, h2, h3, _⟩ := run_append_own (P := P) w base t ty e i z 1 bytes ht hi hz hsize hby hzs (by decide) (.slice none 0 0) 0 [] (World.ownsRow_nil w base e 1) a m c news (by rw [hl, Nat.mul_one]) hnews h1 h63 hbytes hbase
    exact ⟨v', w', r, qRow_own h2, h3⟩
  · by_cases hroom : n + m ≤ cap
    · have hc : ∀ j, j < news.length → (w.cell? ⟨g, off + n * i.size + j, none⟩).isSome = true := fun j hj => by
        rw [hsize, Nat.mul_one, cell_of_row w g _ cur e (0, 0) hg, Array.getElem?_eq_getElem (by omega)]; rfl
      have hf : ∀ j, j < news.length → w.frozen? ⟨g, off + n * i.size + j, none⟩ = false := fun j hj => frozen_of_row _ _ _ _ _ hg
      have hr := run_append_room_cells (P := P) w t ty e i ht hi g off n cap a m c news (by rw [hl, hsize, Nat.mul_one]) hnews h1 hroom hc hf
      obtain ⟨cur', q1, q2, q3, q4, q5⟩ := setCells_row g e news (off + n * i.size) w cur hg (by rw [hsize, Nat.mul_one]; omega)
      refine ⟨_, _, hr, ⟨by rw [List.length_append, hown.1, hl], .inr ⟨g, off, cap, cur', rfl, hbg, q1, hroom, hcm, by omega, fun j u hj => ?_⟩⟩, q5⟩
      by_cases hjn : j < n
      · rw [List.getElem?_append_left (by rw [hown.1]; exact hjn)] at hj
        rw [q3 _ (by rw [hsize, Nat.mul_one]; omega)]
        exact hx j u hj
      · rw [List.getElem?_append_right (by rw [hown.1]; omega), hown.1] at hj
        have := q4 (j - n) u hj
        rwa [hsize, Nat.mul_one, show off + n + (j - n) = off + j by omega] at this
    · obtain ⟨v', w', r, h2, h3⟩ := run_append_arg_grows (P := P) w t ty e i z 1 bytes ht hi hz hsize hby hzs (by decide) ⟨g, off, none⟩ n cap xs (by rw [hown.1, Nat.mul_one]) (fun j u hj => by rw [Addr.add_lit]; exact at_row hg _ (hx j u hj)) a m c news (by rw [hl, Nat.mul_one]) hnews (by omega) h63 hbytes
      exact ⟨v', w', r, qRow_low (qRow_own h2) hbase, ⟨h3.os, h3.tape, h3.output, h3.size, fun k hk _ => h3.block k hk (by simp)⟩⟩
theorem wpListIn_append_q {F : Fence} {n : Nat} {P : Program} (w : World) {ops : Array Oper} {rest : List Oper} {o : Oper} {a : Act} {Q : Exit → Act → World → Prop}
    (hg : o.guard = none) (s x : Operand) (t : TypeId) (hop : o.op = Op.call { callee := Callee.builtin Builtin.append, args := #[s, x], argTypes := #[t, t] })
    (base : Nat) (e : TypeId) (i : TypeInfo) (z : Value) (bytes : Nat) (h1 : P.underlying t = some (.slice e)) (h2 : P.info? e = some i) (h3 : i.zero = some z) (h4 : i.size = 1) (h5 : i.bytes = bytes) (h6 : z.cells.size = 1)
    (v : Value) (k : Nat) (xs : List Value) (hs : a.eval s = v) (hown : qRow w base e v k xs) (ad : Addr) (m c : Nat) (news : List Value) (hm : 0 < m) (hx : a.eval x = .slice (some ad) m c) (hn : news.length = m)
    (hc : ∀ j u, news[j]? = some u → w.cell? (ad.add j) = some u) (h1c : ∀ u ∈ news, u.oneCell' = true) (b1 : k + m ≤ maxLen) (b2 : (k + m) * bytes ≤ 140737488355328) (b3 : base ≤ w.heap.size)
    (hK : ∀ v' w', qRow w' base e v' (k + m) (xs ++ news) → w.grownBy w' v.ownBlock → wpListIn F n P ops Q rest (a.put o.dst v') w') :
    wpListIn F n P ops Q (o :: rest) a w := by
  refine wpListIn_plain hg fun K hK' => ?_
  obtain ⟨v', w', hrun, r1, r2⟩ := run_append_q (P := P) w base t o.type e i z bytes h1 h2 h3 h4 h5 h6 v k xs hown ad m c news hm hn hc h1c b1 b2 b3
  unfold Oper.wpIn
  refine ⟨?_, ?_⟩
  · simp [Oper.about, hop, resolve, Target.leads, Sem.run_pure]
  · rw [Oper.semAt_plain F _ _ (by rw [hop]; intro c hc'; cases hc')]
    simp [execOp, hop, resolve, invoke, builtin, hs, hx, hrun, Result.andThen]
    exact hK' _ _ (hK v' w' r1 r2)
end Go.Proofs.YtlkhmfmocegekaaDoor
