/- package shape: size$1 (what All goes over is counted), findField. -/
import Derived.Test.YtlkhmfmocegekaaDoorShAll
namespace Go.Proofs.YtlkhmfmocegekaaDoor
open Go.RowKit Go.Sh Go.Shelf
attribute [local go_sem] Oper.semAt_some
theorem box_own {A B : World} {row : Option Nat} {b : Nat} {t : TypeId} {v : Value} (h : Boxed A b t v) (hg : A.grownBy B row) (hr : ∀ r, row = some r → ∃ o : Obj, A.heap[r]? = some o ∧ o.isCells = false) : Boxed B b t v :=
  boxed_own (β := Unit) b t (fun _ => v) () A B row h hg hr
theorem wpIn_scope_wide {n : Nat} {P : Program} {Q : Exit → Act → World → Prop} {a : Act} {w : World} {c : Code} (h : c.wpIn Fence.wide n P (Exit.noGoto Q) a w) : (Code.scope c).wpIn Fence.wide n P Q a w :=
  wpIn_wide.2 (wp_scope_straight (wpIn_wide.1 h))
set_option maxRecDepth 100000 in
set_option maxHeartbeats 2000000 in
theorem size1_in (n : Nat) (hn : 3 ≤ n) (s : ByteArray) (w : World) :
    CallsIn Fence.wide n Tryd.prog 66 #[.string s] w fun e W' => e = .returned (.int .i64 (2 + (fields s : Int))) ∧ Below w.heap.size w W' := by
  have h1 : 1 ≤ n := by omega
  refine callsIn_of_wp_marks Tryd.func66 rfl trivial ?_ rfl
  simp only [Tryd.ntmps66, List.size_toArray, List.length_cons, List.length_nil, Nat.reduceAdd, Nat.reduceSub, Array.replicate_succ, Array.replicate_zero, List.push_toArray, List.append_toArray, List.nil_append, List.cons_append]
  gi_wp2_with (refine ⟨trivial, ?_⟩; gi_at_call 29; refine (callsIn_wide.2 (All_any _ _)).mono ?_; rintro e w' ⟨rfl, rfl⟩)
  have bS := Boxed.new w 3 (.int .i64 2)
  have bN := Boxed.new (w.alloc (.cells #[.int .i64 2] 3)) 49 (.string s)
  rw [World.size_alloc] at bN
  have hB0 : Below w.heap.size w ((w.alloc (.cells #[.int .i64 2] 3)).alloc (.cells #[.string s] 49)) := ((Below.refl _ w).alloc (Nat.le_refl _) _).alloc (by simp) _
  have hfs := fields_le s
  refine wpIn_rangeFunc_ownG rfl h1 (gf := 48) (lb := #[.pointer (some ⟨w.heap.size + 1, 0, none⟩)]) rfl trivial (enters_of Tryd.func48 (by kernel_rfl) rfl)
    (All_stops (n - 1) (by omega) (w.heap.size + 1) s _ bN.cell) walksK_t walksK_b (Below.refl _ _) (fun _ => rfl)
    (fun pre W => (pre.length ≤ 8 ∧ W.cell? ⟨w.heap.size, 0, none⟩ = some (.int .i64 (2 + (pre.length : Int))) ∧ W.frozen? ⟨w.heap.size, 0, none⟩ = false) ∧ Below w.heap.size w W)
    (fun _ _ _ => False)
    (OwnFrom.and (Own.from (fun s A B row hs hg hr => ⟨hs.1, cell_kept hs.2.1 hg hr, (frozen_kept hs.2.1 hg hr).trans hs.2.2⟩) _) (ownFrom_below (Nat.le_refl _) (by simp; omega)))
    (fun _ _ _ _ _ hs _ _ => hs)
    ⟨⟨by simp, (bS.alloc _).cell, (bS.alloc _).frozen⟩, hB0⟩
    (fun x => { tmps := #[.string s, undef, .int .i64 0, .pointer (some ⟨w.heap.size, 0, none⟩), .string s, .func (.func 48) #[] #[.pointer (some ⟨w.heap.size + 1, 0, none⟩)], .int .i64 (x.1 : Int), .int .i64 x.2, undef, undef, undef], defers := [] }) ?assign ?body ?done ?stop
  case assign =>
    intro l x W K hK
    dsimp only [encF]
    gi_wp2
    simpa using hK
  case body =>
    rintro l pre x W ⟨⟨hl8, hc, hf⟩, hB⟩ hlen
    have hw : 2 + (pre.length : Int) + 1 = 2 + ((pre ++ [x]).length : Int) := by
      rw [List.length_append]; simp; omega
    gi_wp2
    refine ⟨(KeepsOthers.setCell _ _ _).from _, (KeepsOthers.setCell _ _ _).walks, ⟨by simp; omega, ?_, by rw [World.frozen?_setCell]; exact hf⟩, hB.setCell (p := ⟨w.heap.size, 0, none⟩) (Nat.le_refl _) _⟩
    rw [← hw]
    exact World.cell?_setCell_same' _ _ _ (by rw [hc]; rfl)
  case done =>
    rintro D ys W hD rfl ⟨⟨_, hc, _⟩, hB⟩ hK
    rw [upto_length] at hc
    gi_wp2
    refine ⟨by simp, .inl ⟨_, _, rfl, run_takeDeferred hK, ?_⟩⟩
    exact ⟨_, results_tmp rfl _ _ _, rfl, hB.trans (belowK_b (w := w) (Nat.le_refl _) W D _ _ (by simp at hD; omega) hK rfl rfl)⟩
  case stop =>
    rintro D c pre W _ _ h _
    exact h.elim
theorem size1_any (s : ByteArray) (w : World) : Calls Tryd.prog 66 #[.string s] w fun e W' => e = .returned (.int .i64 (2 + (fields s : Int))) ∧ Below w.heap.size w W' :=
  callsIn_wide.1 (size1_in 3 (by omega) s w)
set_option maxRecDepth 100000 in
set_option maxHeartbeats 2000000 in
theorem findField_in (n : Nat) (hn : 3 ≤ n) (s : ByteArray) (h1s : one s = true) (f : Int) (w : World) :
    CallsIn Fence.wide n Tryd.prog 91 #[.string s, .int .i64 f] w fun e W' => e = .returned (.tuple #[.int .i64 (fd s f).1, .int .i64 (fd s f).2]) ∧ Below w.heap.size w W' := by
  have h1 : 1 ≤ n := by omega
  refine callsIn_of_wp_marks Tryd.func91 rfl trivial ?_ rfl
  simp only [Tryd.ntmps91, List.size_toArray, List.length_cons, List.length_nil, Nat.reduceAdd, Nat.reduceSub, Array.replicate_succ, Array.replicate_zero, List.push_toArray, List.append_toArray, List.nil_append, List.cons_append]
  gi_wp2
  refine wpIn_scope_wide ?_
  gi_wp2
  refine wpIn_label ?_
  gi_wp2_with (refine ⟨trivial, ?_⟩; gi_at_call 29; refine (callsIn_wide.2 (All_any _ _)).mono ?_; rintro e w' ⟨rfl, rfl⟩)
  have hB0 : Below w.heap.size w ((((w.alloc (.cells #[.int .i64 f] 3)).alloc (.cells #[.int .i64 0] 120)).alloc (.cells #[.int .i64 131] 32)).alloc (.cells #[.string s] 49)) :=
    ((((Below.refl _ w).alloc (Nat.le_refl _) _).alloc (by simp) _).alloc (by simp; omega) _).alloc (by simp; omega) _
  have b0 := ((Boxed.new w 3 (.int .i64 f)).alloc (.cells #[.int .i64 0] 120)).alloc (.cells #[.int .i64 131] 32)
  have b1 := (Boxed.new (w.alloc (.cells #[.int .i64 f] 3)) 120 (.int .i64 0)).alloc (.cells #[.int .i64 131] 32)
  have b2 := Boxed.new ((w.alloc (.cells #[.int .i64 f] 3)).alloc (.cells #[.int .i64 0] 120)) 32 (.int .i64 131)
  have b3 := Boxed.new (((w.alloc (.cells #[.int .i64 f] 3)).alloc (.cells #[.int .i64 0] 120)).alloc (.cells #[.int .i64 131] 32)) 49 (.string s)
  simp only [World.size_alloc] at b0 b1 b2 b3
  refine wpIn_rangeFunc_ownG rfl h1 (gf := 48) (lb := #[.pointer (some ⟨w.heap.size + 1 + 1 + 1, 0, none⟩)]) rfl trivial (enters_of Tryd.func48 (by kernel_rfl) rfl)
    (All_stops (n - 1) (by omega) (w.heap.size + 1 + 1 + 1) s _ b3.cell) walksK_t walksK_b (Below.refl _ _) (fun _ => rfl)
    (fun pre W => ((∀ p ∈ pre, (p.1 : Int) ≠ f) ∧ Boxed W w.heap.size 3 (.int .i64 f) ∧ Boxed W (w.heap.size + 1) 120 (.int .i64 0) ∧ Boxed W (w.heap.size + 1 + 1) 32 (.int .i64 131)) ∧ Below w.heap.size w W)
    (fun c pre W => (c = .exit 0 ∧ ∃ ini last, pre = ini ++ [last] ∧ (last.1 : Int) = f ∧ Boxed W (w.heap.size + 1) 120 (.int .i64 last.2) ∧ Boxed W (w.heap.size + 1 + 1) 32 (.int .i64 0)) ∧ Below w.heap.size w W)
    (OwnFrom.and (Own.from (fun s A B row hs hg hr => ⟨hs.1, box_own hs.2.1 hg hr, box_own hs.2.2.1 hg hr, box_own hs.2.2.2 hg hr⟩) _) (ownFrom_below (Nat.le_refl _) (by simp; omega)))
    (fun c => OwnFrom.and (Own.from (fun s A B row hs hg hr => by obtain ⟨hc, ini, last, e1, e2, e3, e4⟩ := hs; exact ⟨hc, ini, last, e1, e2, box_own e3 hg hr, box_own e4 hg hr⟩) _) (ownFrom_below (Nat.le_refl _) (by simp; omega)))
    ⟨⟨by simp, b0.alloc _, b1.alloc _, b2.alloc _⟩, hB0⟩
    (fun x => { tmps := #[.string s, .int .i64 f, undef, .pointer (some ⟨w.heap.size, 0, none⟩), .int .i64 0, .int .i64 0, .pointer (some ⟨w.heap.size + 1, 0, none⟩), .pointer (some ⟨w.heap.size + 1 + 1, 0, none⟩), .int .i64 (x.1 : Int), .int .i64 x.2, .string s, .func (.func 48) #[] #[.pointer (some ⟨w.heap.size + 1 + 1 + 1, 0, none⟩)], .int .i64 (x.1 : Int), .int .i64 x.2, undef, undef, undef, undef, undef, undef], defers := [] }) ?assign ?body ?done ?stop
  case assign =>
    intro l x W K hK
    dsimp only [encF]
    gi_wp2
    exact hK
  case body =>
    rintro l pre x W ⟨⟨hp, c0, c1, c2⟩, hB⟩ _
    have k0 := c0.cell
    have k1 := c1.cell
    have k2 := c2.cell
    have f1 := c1.frozen
    have f2 := c2.frozen
    by_cases hx : (x.1 : Int) = f
    · have hxb : ((x.1 : Int) == f) = true := by simpa using hx
      gi_wp2
      exact ⟨((KeepsOthers.setCell _ _ _).trans (KeepsOthers.setCell _ _ _)).from _, ⟨rfl, pre, x, rfl, hx, (Boxed.other (c1.set _) (by omega) _), ((Boxed.other c2 (by omega) _).set _)⟩, (hB.setCell (p := ⟨w.heap.size + 1, 0, none⟩) (by simp) _).setCell (p := ⟨w.heap.size + 1 + 1, 0, none⟩) (by simp; omega) _⟩
    · have hxb : ((x.1 : Int) == f) = false := by simpa using hx
      gi_wp2
      exact ⟨KeepsFrom.refl _ _, KeepsWalks.refl _, ⟨fun p hp' => (List.mem_append.1 hp').elim (hp p) (fun e => by simp at e; subst e; exact hx), c0, c1, c2⟩, hB⟩
  case done =>
    rintro D ys W hD rfl ⟨⟨hne, c0, c1, c2⟩, hB⟩ hK
    have k1 := c1.cell
    have k2 := c2.cell
    have hfd : fd s f = (0, 131) := by
      have : inR f s.size = false := by
        by_cases h0 : 0 ≤ f
        · by_cases h2 : f < s.size
          · exfalso
            refine hne (fieldAt s f.toNat) ?_ (by simp [fieldAt]; omega)
            simp only [upto, List.mem_map, List.mem_range]
            exact ⟨f.toNat, by rw [fields_one h1s]; omega, rfl⟩
          · simp [inR, h2]
        · simp [inR, h0]
      simp [fd, this]
    gi_wp2
    gi_region
    gi_wp2
    refine ⟨by simp, .inl ⟨_, _, rfl, run_takeDeferred (w := W.drew) hK, ?_⟩⟩
    exact ⟨_, results_tmp2 rfl _ _ _, by rw [hfd]; rfl, (hB.drew).trans (belowK_b (w := w) (Nat.le_refl _) W.drew D _ _ (by simp at hD; omega) hK rfl rfl)⟩
  case stop =>
    rintro D c pre W hD ⟨k, hk, rfl⟩ ⟨⟨rfl, ini, last, e1, e2, c1, c2⟩, hB⟩ hK
    have k1 := c1.cell
    have k2 := c2.cell
    obtain ⟨k', rfl⟩ : ∃ k', k = k' + 1 := by
      cases k with
      | zero => simp [upto] at e1
      | succ k' => exact ⟨k', rfl⟩
    rw [upto_succ] at e1
    obtain ⟨rfl, e5⟩ := List.append_inj' e1 rfl
    obtain rfl : fieldAt s k' = last := by simpa using e5
    have e2' : (k' : Int) = f := e2
    have hfd : fd s f = ((fieldAt s k').2, 0) := by
      rw [fields_one h1s] at hk
      subst e2'
      have : inR (k' : Int) s.size = true := by simp [inR]; omega
      simp [fd, this, fieldAt]
    clear e1 e5
    generalize (fieldAt s k').2 = kk at *
    gi_wp2
    gi_region
    gi_wp2
    refine ⟨by simp, .inl ⟨_, _, rfl, run_takeDeferred (w := W.drew) hK, ?_⟩⟩
    exact ⟨_, results_tmp2 rfl _ _ _, by rw [hfd]; rfl, (hB.drew).trans (belowK_b (w := w) (Nat.le_refl _) W.drew D _ _ (by simp at hD; omega) hK rfl rfl)⟩
theorem findField_any (s : ByteArray) (h1s : one s = true) (f : Int) (w : World) : Calls Tryd.prog 91 #[.string s, .int .i64 f] w fun e W' => e = .returned (.tuple #[.int .i64 (fd s f).1, .int .i64 (fd s f).2]) ∧ Below w.heap.size w W' :=
  callsIn_wide.1 (findField_in 3 (by omega) s h1s f w)
end Go.Proofs.YtlkhmfmocegekaaDoor
/- Tables of shapes in memory; Check. -/
namespace Go.Proofs.YtlkhmfmocegekaaDoor
open Go.RowKit Go.Sh
/-- A table that lies in memory: none of its shapes, or so many cells that each hold a text. -/
def IsTab (w : World) (v : Value) (ss : List ByteArray) : Prop :=
  (ss = [] ∧ ∃ a cap, v = .slice a 0 cap) ∨ ∃ b off cap, v = .slice (some ⟨b, off, none⟩) ss.length cap ∧ ∀ i, i < ss.length → w.cell? ⟨b, off + i, none⟩ = some (.string (at' ss i))
theorem IsTab.below {w w' : World} {v : Value} {ss : List ByteArray} (h : IsTab w v ss) {B : Nat} (hB : w.heap.size ≤ B) (b : Below B w w') : IsTab w' v ss := by
  rcases h with h | ⟨bb, off, cap, rfl, hc⟩
  · exact .inl h
  · exact .inr ⟨bb, off, cap, rfl, fun i hi => (b.cell (p := ⟨bb, off + i, none⟩) (Nat.lt_of_lt_of_le (block_lt_of_cell (hc i hi)) hB)).trans (hc i hi)⟩
theorem IsTab.len {w : World} {v : Value} {ss : List ByteArray} (h : IsTab w v ss) : ∃ a cap, v = .slice a ss.length cap := by
  rcases h with ⟨rfl, a, cap, rfl⟩ | ⟨bb, off, cap, rfl, _⟩
  · exact ⟨a, cap, rfl⟩
  · exact ⟨_, cap, rfl⟩
theorem IsTab.some {w : World} {v : Value} {ss : List ByteArray} (h : IsTab w v ss) (h0 : 1 ≤ ss.length) : ∃ b off cap, v = .slice (some ⟨b, off, none⟩) ss.length cap ∧ ∀ i, i < ss.length → w.cell? ⟨b, off + i, none⟩ = some (.string (at' ss i)) := by
  rcases h with ⟨rfl, _⟩ | h
  · simp at h0
  · exact h
theorem jump_ret {l : Nat} {J : Act → World → Prop} {Q : Exit → Act → World → Prop} {a : Act} {w : World} : Exit.jump l J Q .ret a w = Q .ret a w := rfl
def er (b : Bool) : Int := if b then 0 else 2
set_option maxHeartbeats 2000000 in
theorem check_none (a : Option Addr) (cap : Nat) (w : World) :
    Calls Tryd.prog 46 #[.slice a 0 cap] w fun e w' => e = .returned (.int .i64 2) ∧ Below w.heap.size w w' := by
  go_enter Tryd.func46, Tryd.ntmps46
  go_wp2
  refine wp_scope_once 0 rfl ?_
  go_wp2
  go_step3
  refine ⟨rfl, ?_⟩
  go_wp2
  rw [Exit.noGoto_ret]
  go_ret
  exact ⟨rfl, Below.refl _ _⟩
set_option maxHeartbeats 2000000 in
theorem check_many (a : Option Addr) (len cap : Nat) (h : 16 < len) (w : World) :
    Calls Tryd.prog 46 #[.slice a len cap] w fun e w' => e = .returned (.int .i64 2) ∧ Below w.heap.size w w' := by
  have h1 : (1 : Int) ≤ (len : Int) := by omega
  have h2 : (16 : Int) < (len : Int) := by omega
  go_enter Tryd.func46, Tryd.ntmps46
  go_wp2
  refine wp_scope_once 0 rfl ?_
  go_wp2
  go_step3
  refine ⟨rfl, ?_⟩
  go_wp2
  rw [Exit.noGoto_ret]
  go_ret
  exact ⟨rfl, Below.refl _ _⟩
set_option maxRecDepth 100000 in
set_option maxHeartbeats 2000000 in
theorem check_some (b off cap : Nat) (ss : List ByteArray) (w : World) (h1 : 1 ≤ ss.length) (h16 : ss.length ≤ 16) (hc : Hid (∀ i, i < ss.length → w.cell? ⟨b, off + i, none⟩ = some (.string (at' ss i)))) :
    Calls Tryd.prog 46 #[.slice (some ⟨b, off, none⟩) ss.length cap] w fun e w' => e = .returned (.int .i64 (er (ss.all one))) ∧ Below w.heap.size w w' := by
  have g1 : (1 : Int) ≤ (ss.length : Int) := by omega
  have g2 : (ss.length : Int) ≤ 16 := by omega
  obtain ⟨len, hlen⟩ : ∃ len, len = ss.length := ⟨_, rfl⟩
  have HL := hid hlen
  rw [← hlen] at h1 h16 g1 g2
  rw [← hlen]
  clear hlen
  go_enter Tryd.func46, Tryd.ntmps46
  go_wp2
  refine wp_scope_once 0 rfl ?_
  go_wp2
  go_loopw [15] (fun i wr => ∃ k : Nat, k ≤ len ∧ i = .int .i64 k ∧ Below w.heap.size w wr ∧ Hid (∀ j, j < k → one (at' ss j) = true)) (fun i _ => len - (intOf i).toNat)
  case atStart => exact ⟨0, by omega, rfl, Below.refl _ _, hid (fun j hj => by omega)⟩
  case round =>
    obtain ⟨k, hk, rfl, ar, hall⟩ := hrel
    by_cases hlt : k < len
    · have hcell := hc.out k (by rw [← HL.out]; exact hlt)
      have hbk := block_lt_of_cell hcell
      have hcr : wr.cell? ⟨b, off + k, none⟩ = some (.string (at' ss k)) := (ar.cell (p := ⟨b, off + k, none⟩) hbk).trans hcell
      have Hcell := hid hcell
      clear hcell
      obtain ⟨x, hx⟩ : ∃ x, x = at' ss k := ⟨_, rfl⟩
      rw [← hx] at hcr
      have HX := hid hx
      clear hx
      by_cases ho : one x = true
      · have c := may_any x wr
        rw [ho] at c
        go_wp2_with (go_at_call 49; refine c.mono ?_; rintro e w2 ⟨rfl, b2⟩)
        go_roundw
        case rel =>
          refine ⟨k + 1, by omega, by simp, ar.trans (b2.mono ar.size), hid (fun j hj => ?_)⟩
          by_cases hj2 : j < k
          · exact hall.out j hj2
          · obtain rfl : j = k := by omega
            rw [← HX.out]; exact ho
        case measure => simp [intOf]; omega
      · have ho' : one x = false := by simpa using ho
        have c := may_any x wr
        rw [ho'] at c
        have HN : Hid (ss.all one = false) := hid (all_take_false (k := k) (by rw [← HL.out]; exact hlt) (by rw [← HX.out]; exact ho'))
        go_wp2_with (go_at_call 49; refine c.mono ?_; rintro e w2 ⟨rfl, b2⟩)
        go_step3
        refine ⟨rfl, ?_⟩
        go_wp2
        rw [Exit.noGoto_ret]
        go_ret
        exact ⟨ret_int (by rw [HN.out]; rfl), ar.trans (b2.mono ar.size)⟩
    · obtain rfl : k = len := by omega
      have HN : Hid (ss.all one = true) := hid (all_of_at (fun j hj => hall.out j (by rw [HL.out]; exact hj)))
      go_wp2
      rw [jump_ret]
      go_ret
      exact ⟨ret_int (by rw [HN.out]; rfl), ar⟩
theorem check_any (v : Value) (ss : List ByteArray) (w : World) (h : IsTab w v ss) :
    Calls Tryd.prog 46 #[v] w fun e w' => e = .returned (.int .i64 (er (right ss))) ∧ Below w.heap.size w w' := by
  by_cases h0 : ss.length = 0
  · obtain ⟨a, cap, rfl⟩ := h.len
    rw [h0]
    refine (check_none a cap w).mono ?_
    rintro e w' ⟨rfl, b⟩
    exact ⟨ret_int (by simp [right, h0, er]), b⟩
  · by_cases h16 : ss.length ≤ 16
    · obtain ⟨b, off, cap, rfl, hc⟩ := h.some (by omega)
      refine (check_some b off cap ss w (by omega) h16 (hid hc)).mono ?_
      rintro e w' ⟨rfl, b⟩
      exact ⟨ret_int (by simp [right, h16, show 1 ≤ ss.length by omega]), b⟩
    · obtain ⟨a, cap, rfl⟩ := h.len
      refine (check_many a _ cap (by omega) w).mono ?_
      rintro e w' ⟨rfl, b⟩
      exact ⟨ret_int (by simp [right, h16, er]), b⟩
end Go.Proofs.YtlkhmfmocegekaaDoor
