/- The document's Start (lapidaryref06). -/
import Derived.Test.YtldfmlkjeniemaaDoorLyStartOn
import Derived.Test.YtldfmlkjeniemaaDoorWdRef
import Derived.Test.YtldfmlkjeniemaaDoorObMathOn
import Derived.Defers
import Derived.Recover
import Derived.Test.YtldfmlkjeniemaaDoorPkRefBOn
set_option linter.unusedVariables false
namespace Go.Proofs.YtldfmlkjeniemaaDoor
open Go.RowKit Go.Ly Go.Sh
/-- .. so far as so many fields are laid. -/
def stg (F : Int) (B : Nat) (x : ByteArray) (k i : Nat) : Int := if i = 1 then F else if B ≤ i ∧ i < B + 2 + k then (fobj x).getD (i - B) 0 else 0
theorem fobj_field (x : ByteArray) (k : Nat) (h : k < x.size) : (fobj x).getD (2 + k) 0 = fwd (x.data.toList.getD k 0 == 115) := by
  have e : 2 + k = k + 1 + 1 := by omega
  rw [e, fobj, List.getD_cons_succ, List.getD_cons_succ, List.getD_eq_getElem?_getD, upto, List.getElem?_map, List.getElem?_range h]
  rfl
theorem stg_all (F : Int) (B : Nat) (x : ByteArray) (i : Nat) : stg F B x x.size i = stf F B x i := by
  unfold stg stf
  by_cases h1 : i = 1
  · rw [if_pos h1, if_pos h1]
  rw [if_neg h1, if_neg h1]
  by_cases h2 : B ≤ i
  · by_cases h3 : i < B + 2 + x.size
    · rw [if_pos ⟨h2, h3⟩, if_pos h2]
    · rw [if_neg (fun h => h3 h.2), if_pos h2, List.getD_eq_getElem?_getD, List.getElem?_eq_none (by rw [fobj_len]; omega)]
      rfl
  · rw [if_neg (fun h => h2 h.1), if_neg h2]
theorem stg_far (F : Int) (B : Nat) (x : ByteArray) (k i : Nat) (h : i ≠ B + 2 + k) : stg F B x (k + 1) i = stg F B x k i := by
  unfold stg
  by_cases h1 : i = 1
  · rw [if_pos h1, if_pos h1]
  rw [if_neg h1, if_neg h1]
  by_cases h2 : B ≤ i ∧ i < B + 2 + k
  · rw [if_pos h2, if_pos ⟨h2.1, by omega⟩]
  · rw [if_neg h2, if_neg (by omega)]
theorem stg_at (F : Int) (B : Nat) (x : ByteArray) (k : Nat) (b5 : 5 ≤ B) (h : k < x.size) : stg F B x (k + 1) (B + 2 + k) = fwd (x.data.toList.getD k 0 == 115) := by
  unfold stg
  rw [if_neg (by omega), if_pos (by omega), show B + 2 + k - B = 2 + k by omega, fobj_field x k h]
theorem stg_not (F : Int) (B : Nat) (x : ByteArray) (k : Nat) (b5 : 5 ≤ B) : stg F B x k (B + 2 + k) = 0 := by
  unfold stg
  rw [if_neg (by omega), if_neg (by omega)]
theorem stg_nil (F : Int) (B : Nat) (x : ByteArray) (i : Nat) (b5 : 5 ≤ B) : stg F B x 0 i = if i = 1 then F else if i = B then 6 else 0 := by
  unfold stg
  by_cases h1 : i = 1
  · rw [if_pos h1, if_pos h1]
  rw [if_neg h1, if_neg h1]
  by_cases h2 : i = B
  · subst h2; rw [if_pos (by omega), if_pos rfl, Nat.sub_self]; rfl
  · rw [if_neg h2]
    by_cases h3 : i = B + 1
    · subst h3; rw [if_pos (by omega), show B + 1 - B = 1 by omega]; rfl
    · rw [if_neg (by omega)]
theorem wat_set (zs : List Int) (i j : Nat) (v : Int) (h : i < zs.length) : wat (zs.set i v) j = if i = j then v else wat zs j := by
  unfold wat
  rw [List.getD_eq_getElem?_getD, List.getElem?_set]
  by_cases e : i = j
  · subst e; simp [h]
  · rw [if_neg e, if_neg e, List.getD_eq_getElem?_getD]
theorem wat_zero (N j : Nat) : wat (List.replicate N 0) j = 0 := by
  unfold wat
  rw [List.getD_eq_getElem?_getD, List.getElem?_replicate]
  split <;> rfl
/-- A world in which the document's words are laid. -/
structure RsW (w : World) (P G : Nat) (O : Obj) (zs : List Int) (W : World) : Prop where
  row : W.heap[G]? = some (.cells (wds zs) 50)
  pln : W.heap[P]? = some O
  bel : Below w.heap.size w W
  neP : P ≠ G
  leG : w.heap.size ≤ G
theorem RsW.below {w W W' : World} {P G : Nat} {O : Obj} {zs : List Int} (h : RsW w P G O zs W) (b : Below W.heap.size W W') : RsW w P G O zs W' :=
  ⟨row_below h.row b, row_below h.pln b, h.bel.trans (b.mono h.bel.size), h.neP, h.leG⟩
theorem RsW.set {w W : World} {P G : Nat} {O : Obj} {zs : List Int} (h : RsW w P G O zs W) (i : Nat) (v : Int) : RsW w P G O (zs.set i v) (W.setCell ⟨G, i, none⟩ (.int .u64 v)) := by
  have e := setCell_eq_setRow W G i (wds zs) 50 (0, 0) (.int .u64 v) h.row
  rw [wds_set] at e
  refine ⟨?_, other_row h.neP h.pln, h.bel.setCell (p := ⟨G, i, none⟩) h.leG _, h.neP, h.leG⟩
  rw [e]
  exact setRow_heap W G (wds zs) _ _ _ h.row
theorem RsW.cell {w W : World} {P G : Nat} {O : Obj} {zs : List Int} (h : RsW w P G O zs W) (i : Nat) (hi : i < zs.length) : W.cell? ⟨G, i, none⟩ = some (.int .u64 (wat zs i)) := at_row h.row i (wds_get zs i hi)
theorem byte_at (x : ByteArray) (k : Nat) (h : k < x.size) : x.data.toList.getD k 0 = x[k]'h := by
  rw [List.getD_eq_getElem?_getD, List.getElem?_eq_getElem (by rw [Array.length_toList]; exact h)]
  simp [ByteArray.getElem_eq_getElem_data]
set_option maxRecDepth 100000 in
set_option maxHeartbeats 8000000 in
theorem rStart6_at (t s : Int) (b off n c N B : Nat) (F er : Int) (x : ByteArray) (w : World) (t0 : 1 ≤ t) (t1 : t ≤ 8) (s0 : 32 ≤ s) (s1 : s ≤ 4096) (hN : (N : Int) = 3 + t + t + 2 * s) (hB : (B : Int) = 3 + t + t)
    (hx8 : x.size ≤ 8) (hn : 1 ≤ n) (hc : w.cell? ⟨b, off, none⟩ = some (.string x)) (hF : Hid (Pk.fw 0 (2 + (x.size : Int)) s 0 = (F, er))) :
    Calls Tryd.prog 21 #[planV t s (some ⟨b, off, none⟩) n c] w fun e W' =>
      ∃ G, e = .returned (.slice (some ⟨G, 0, none⟩) N N) ∧ (∀ i, i < N → W'.cell? ⟨G, i, none⟩ = some (.int .u64 (stf F B x i))) ∧ Below w.heap.size w W' := by
  have cs := fun W => rSize6 t s (some ⟨b, off, none⟩) n c W t0 t1 s0 s1
  rw [← hN] at cs
  have cb := fun W => rBase6_0 t s (some ⟨b, off, none⟩) n c W t0 t1 s0 s1
  rw [← hB] at cb
  have cw := fun W => rword_at 0 0 W (by omega) (by omega) (by omega) (by omega)
  simp only [show Hd.wd 0 0 = 6 from rfl] at cw
  have cS := fun W => rscalar_any 0 W
  simp only [mkW_scal] at cS
  have hmk := make_words 25 Tryd.underlying25 N (by omega)
  have HC := hid hc
  have b5 : 5 ≤ B := by omega
  have n1 : (N : Int) ≤ 9000 := by omega
  have n0 : 69 ≤ (N : Int) := by omega
  have nb : B + 60 ≤ N := by omega
  have nb' : (B : Int) + 60 ≤ N := by omega
  have b5' : 5 ≤ (B : Int) := by omega
  have hx8' : (x.size : Int) ≤ 8 := by omega
  clear hc hN hB
  generalize hz : wds (List.replicate N 0) = ZA at hmk
  have HZ := hid hz
  clear hz
  go_enter Tryd.func21, Tryd.ntmps21
  go_wp2_with (go_at_call 19; refine (cs _).mono ?_)
  rintro e w1 ⟨rfl, b1⟩
  have B1 := hid (bel1 b1)
  have R1 := row1 b1
  have z1 := siz1 b1
  clear b1 cs
  have S1 : Hid (RsW w w.heap.size w1.heap.size (.cells #[.int .i64 t, .int .i64 s, .slice (some ⟨b, off, none⟩) n c] 24) (List.replicate N 0) (w1.alloc (.cells ZA 50))) :=
    hid ⟨by rw [HZ.out]; exact heap_alloc_last w1 _, row_below R1 (below_alloc0 w1 _), B1.out.alloc B1.out.size _, by omega, by omega⟩
  have p1 := at_row S1.out.pln 1 rfl
  have p2 := at_row S1.out.pln 2 rfl
  have hc1 := (S1.out.bel.cell (p := ⟨b, off, none⟩) (block_lt_of_cell HC.out)).trans HC.out
  clear R1 B1
  go_wp2_with (go_at_call 38; refine (rfront_at 0 _ s 0 F er _ hF).mono ?_)
  rintro e w2 ⟨rfl, b2⟩
  have S2 := hid (S1.out.below b2)
  clear S1 b2 p1 p2 hc1
  have hc1 := S2.out.cell 1 (by simp; omega)
  have hf1 := fz_row S2.out.row 1
  have S3 := hid (S2.out.set 1 F)
  clear S2
  have q0 := at_row S3.out.pln 0 rfl
  have q1 := at_row S3.out.pln 1 rfl
  have q2 := at_row S3.out.pln 2 rfl
  go_wp2_with (go_at_call 15; refine (cb _).mono ?_)
  rintro e w3 ⟨rfl, b3⟩
  have S4 := hid (S3.out.below b3)
  clear S3 b3 hc1 hf1 q0 q1 q2
  have hc1 := S4.out.cell B (by simp; omega)
  have hf1 := fz_row S4.out.row B
  have S5 := hid (S4.out.set B 6)
  clear S4
  go_wp2_with (go_at_call 39; refine (cw _).mono ?_; rintro e w' ⟨rfl, hw⟩; rw [hw]; clear hw)
  clear hc1 hf1 cw
  generalize w3.setCell _ _ = W3 at *
  go_loopw [5] (fun i wr => ∃ k : Nat, k ≤ x.size ∧ i = .int .i64 (k : Int) ∧ ∃ zs : List Int, zs.length = N ∧ Hid (∀ j, wat zs j = stg F B x k j) ∧ Hid (RsW w w.heap.size w1.heap.size (.cells #[.int .i64 t, .int .i64 s, .slice (some ⟨b, off, none⟩) n c] 24) zs wr)) (fun i _ => x.size - (intOf i).toNat)
  case atStart =>
    refine ⟨0, by omega, rfl, _, by simp, hid (fun j => ?_), S5⟩
    rw [stg_nil F B x j b5, wat_set _ _ _ _ (by simp; omega), wat_set _ _ _ _ (by simp; omega), wat_zero]
    by_cases h1 : j = 1
    · subst h1; rw [if_neg (by omega), if_pos rfl, if_pos rfl]
    · by_cases h2 : j = B
      · subst h2; rw [if_pos rfl, if_neg h1, if_pos rfl]
      · rw [if_neg (by omega), if_neg (by omega), if_neg h1, if_neg h2]
  case round =>
    obtain ⟨k, hk, rfl, zs, hl, HW, HR⟩ := hrel
    clear S5
    by_cases hlt : k < x.size
    · have hlt' : (k : Int) < x.size := by omega
      have hby := byte_at x k hlt
      by_cases hs : x[k]'hlt = 115
      · have e2 : (((x[k]'hlt).toNat : Int) == 115) = true := by rw [hs]; rfl
        have HA : Hid (stg F B x (k + 1) (B + 2 + k) = 4611686018427387908) := hid (by rw [stg_at F B x k b5 hlt, hby, hs]; rfl)
        clear hby hs
        have q0 := at_row HR.out.pln 0 rfl
        have q1 := at_row HR.out.pln 1 rfl
        have q2 := at_row HR.out.pln 2 rfl
        have kk : (k : Int) ≤ 8 := by omega
        go_wp2_with (go_at_call 15; refine (cb _).mono ?_)
        rintro e w5 ⟨rfl, b5q⟩
        have S6 := hid (HR.out.below b5q)
        clear HR b5q q0 q1 q2
        go_wp2_with (go_at_call 40; refine (cS _).mono ?_)
        rintro e w6 ⟨rfl, b6⟩
        have S7 := hid (S6.out.below b6)
        clear S6 b6
        have hc1 := S7.out.cell (B + 2 + k) (by omega)
        have hf1 := fz_row S7.out.row (B + 2 + k)
        have S8 := hid (S7.out.set (B + 2 + k) 4611686018427387908)
        have hix : ((B : Int) + 2 + k).toNat = B + 2 + k := by omega
        clear S7
        go_wp2
        refine ⟨⟨k + 1, by omega, by go_num, _, by rw [List.length_set]; exact hl, hid (fun j => ?_), S8⟩, by simp [intOf]; omega⟩
        rw [wat_set _ _ _ _ (by omega)]
        by_cases hj : B + 2 + k = j
        · rw [if_pos hj, ← hj, HA.out]
        · rw [if_neg hj, HW.out j, stg_far F B x k j (fun e => hj e.symm)]
      · have e2 := ne115 hs
        have HA : Hid (∀ j, stg F B x (k + 1) j = stg F B x k j) := hid (fun j => by
          by_cases hj : j = B + 2 + k
          · subst hj
            rw [stg_at F B x k b5 hlt, stg_not F B x k b5, hby]
            simp [fwd, hs]
          · exact stg_far F B x k j hj)
        clear hby hs
        go_wp2
        refine ⟨⟨k + 1, by omega, by go_num, zs, hl, hid (fun j => by rw [HA.out j]; exact HW.out j), HR⟩, by simp [intOf]; omega⟩
    · obtain rfl : k = x.size := by omega
      go_wp2
      go_ret
      refine ⟨_, rfl, fun i hi => ?_, HR.out.bel⟩
      rw [HR.out.cell i (by omega), HW.out i, stg_all]
end Go.Proofs.YtldfmlkjeniemaaDoor
/- package object: giveUp, told, caught: a call that gives up, and the error that it is told as. -/
namespace Go.Proofs.YtldfmlkjeniemaaDoor
open Go.RowKit
/-- What a call gives up with. -/
abbrev refuV (k : Int) : Value := .iface 117 (.agg #[.int .i64 k])
abbrev upE (k : Int) : Ending := .panicked [{ v := refuV k, recovered := false }]
theorem giveUp_any (k : Int) (w : World) : Calls Tryd.prog 44 #[.int .i64 k] w fun e w' => e = upE k ∧ w' = w := by
  go_enter Tryd.func44, Tryd.ntmps44
  go_wp2
  exact ⟨rfl, rfl, rfl⟩
theorem assert_refu (k : Int) (w : World) : (Instr.typeAssert (refuV k) 20 117 true).run Tryd.prog w = .ok (.tuple #[.agg #[.int .i64 k], .bool true]) w := by
  simp [Instr.typeAssert, run_underlying Tryd.underlying117]
set_option maxRecDepth 100000 in
theorem otold_any (k : Int) (w : World) : Calls Tryd.prog 42 #[refuV k] w fun e w' => e = .returned (.int .i64 k) ∧ Below w.heap.size w w' := by
  have ha := assert_refu k
  have hnot : ∀ (x : Bool) (w : World), (Op.unary .not (.bool x)).run Tryd.prog w = .ok (.bool (!x)) w := fun _ _ => rfl
  go_enter Tryd.func42, Tryd.ntmps42
  go_wp2
  go_ret
  exact ⟨rfl, below_alloc0 _ _⟩
abbrev errO (k : Int) : Obj := .cells #[.int .i64 k] 30
/-- The deferred closure of a call that returns: it does nothing. -/
theorem catch_idle (p : Addr) (w : World) :
    CallsD Tryd.prog 41 #[.pointer (some p)] .returning w fun e u' w' => e = .returned (.tuple #[]) ∧ u' = .returning ∧ w' = w := by
  refine callsD_of_wpS Tryd.func41 rfl fun c₀ cs hu => ?_
  apply wpS_seq
  apply wpS_region
  simp [wpOpsS, go_sem, recoverD, hu, Tryd.ntmps41, Exit.thenS]
  refine wpS_of_wp ?_
  go_wp2
  cases c₀
  simp_all [bodyPostS, results, Tryd.results41]
/-- .. of one that gives up: the error is laid. -/
theorem catch_up (g : Nat) (k : Int) (w : World) (hr : w.heap[g]? = some (errO 0)) :
    CallsD Tryd.prog 41 #[.pointer (some ⟨g, 0, none⟩)] (.panicking [{ v := refuV k, recovered := false }]) w fun e u' w' => e = .returned (.tuple #[]) ∧ u' = .panicking [{ v := refuV k, recovered := true }] ∧ ∃ w1, Below w.heap.size w w1 ∧ w' = w1.setCell ⟨g, 0, none⟩ (.int .i64 k) := by
  have ct := otold_any k w
  refine callsD_of_wpS Tryd.func41 rfl fun c₀ cs hu => ?_
  apply wpS_seq
  apply wpS_region
  simp [wpOpsS, go_sem, recoverD, hu, Tryd.ntmps41, Exit.thenS]
  refine wpS_of_wp ?_
  go_wp2_with (go_at_call 42; refine ct.mono ?_)
  rintro e w1 ⟨rfl, b1⟩
  have hr1 := (b1.block g (Array.getElem?_eq_some_iff.1 hr).1).trans hr
  have h0 := at_row hr1 0 rfl
  have hf := fz_row hr1 0
  have HB := hid b1
  clear b1 hr1 hr ct
  go_wp2
  refine ⟨rfl, _, rfl, .tuple #[], results_none rfl _ _ _, rfl, rfl, w1, HB.out, rfl⟩
set_option maxRecDepth 100000 in
/-- A call that returns: no error. What it leaves, and the error's own variable behind it. -/
theorem caught_ok (fn : Nat) (cap : Array Value) (w : World) (Q : World → Prop) (hcf : ∀ w, (callFunc fn cap).run Tryd.prog w = .ok (.enter fn cap) w) (hc : Calls Tryd.prog fn cap (w.alloc (errO 0)) fun e w' => e = .returned (.tuple #[]) ∧ w'.heap[w.heap.size]? = some (errO 0) ∧ Q w') :
    Calls Tryd.prog 22 #[.func (.func fn) #[] cap] w fun e w' => e = .returned (.int .i64 0) ∧ ∃ w1, Q w1 ∧ w1.heap[w.heap.size]? = some (errO 0) ∧ w' = w1.setCell ⟨w.heap.size, 0, none⟩ (.int .i64 0) := by
  have hmf : ∀ (fn : Fn) (first cap : Array Value) (w : World), (Instr.makeFunc fn first cap).run Tryd.prog w = .ok (.func fn first cap) w := fun _ _ _ _ => rfl
  go_enter_defers Tryd.func22, Tryd.ntmps22
  go_wp2_with (refine hc.mono ?_)
  rintro e w1 ⟨rfl, hr, hq⟩
  have h0 := at_row hr 0 rfl
  have hf := fz_row hr 0
  have HQ := hid hq
  have HR := hid hr
  clear hr hq hc hcf
  go_wp2
  refine leaves_cons (f := 41) (args := #[.pointer (some ⟨w.heap.size, 0, none⟩)]) (by simp) (by simp [go_sem]) ?_
  refine (catch_idle ⟨w.heap.size, 0, none⟩ _).mono ?_
  rintro e u' w'' ⟨rfl, rfl, rfl⟩
  have hs : (w1.setCell ⟨w.heap.size, 0, none⟩ (.int .i64 0)).cell? ⟨w.heap.size, 0, none⟩ = some (.int .i64 0) := World.cell?_setCell_same' _ _ _ (by rw [h0]; rfl)
  simp [Leaves, settle, results, Tryd.results22, go_sem, hs]
  exact ⟨w1, HQ.out, HR.out, rfl⟩
set_option maxRecDepth 100000 in
/-- A call that gives up: the error that it gives up with. -/
theorem caught_up (fn : Nat) (cap : Array Value) (k : Int) (w : World) (Q : World → Prop) (hcf : ∀ w, (callFunc fn cap).run Tryd.prog w = .ok (.enter fn cap) w) (hc : Calls Tryd.prog fn cap (w.alloc (errO 0)) fun e w' => e = upE k ∧ w'.heap[w.heap.size]? = some (errO 0) ∧ Q w') :
    Calls Tryd.prog 22 #[.func (.func fn) #[] cap] w fun e w' => e = .returned (.int .i64 k) ∧ ∃ w1 w2, Q w1 ∧ w1.heap[w.heap.size]? = some (errO 0) ∧ Below w1.heap.size w1 w2 ∧ w' = w2.setCell ⟨w.heap.size, 0, none⟩ (.int .i64 k) := by
  have hmf : ∀ (fn : Fn) (first cap : Array Value) (w : World), (Instr.makeFunc fn first cap).run Tryd.prog w = .ok (.func fn first cap) w := fun _ _ _ _ => rfl
  go_enter_defers Tryd.func22, Tryd.ntmps22
  go_wp2_with (refine hc.mono ?_)
  rintro e w1 ⟨rfl, hr, hq⟩
  have HQ := hid hq
  have HR := hid hr
  clear hr hq hc hcf
  go_wp2
  refine leaves_cons (f := 41) (args := #[.pointer (some ⟨w.heap.size, 0, none⟩)]) (by simp) (by simp [go_sem]) ?_
  refine (catch_up w.heap.size k w1 HR.out).mono ?_
  rintro e u' w'' ⟨rfl, rfl, w2, b2, rfl⟩
  have h0 := at_row ((b2.block _ (Array.getElem?_eq_some_iff.1 HR.out).1).trans HR.out) 0 rfl
  have hs : (w2.setCell ⟨w.heap.size, 0, none⟩ (.int .i64 k)).cell? ⟨w.heap.size, 0, none⟩ = some (.int .i64 k) := World.cell?_setCell_same' _ _ _ (by rw [h0]; rfl)
  simp [Leaves, settle, results, Tryd.results22, go_sem, hs]
  exact ⟨w1, HQ.out, HR.out, w2, b2, rfl⟩
end Go.Proofs.YtldfmlkjeniemaaDoor
/- package arena: Check. -/
namespace Go.Proofs.YtldfmlkjeniemaaDoor
open Go.RowKit
/-- An access. -/
abbrev acc (k p o n : Int) : Value := .agg #[.int .i64 k, .int .i64 p, .int .u64 o, .int .u64 n]
/-- May the access be? -/
def ck (k p o n : Int) : Bool := (k == 0 && p == 0 && o == 0 && n == 0) || (k == 1 && o == 0 && n == 0) || (k == 2 && o == 0) || k == 3
set_option maxHeartbeats 1000000 in
theorem check_other (k p o n : Int) (w : World) (h0 : (k == 0) = false) (h1 : (k == 1) = false) (h2 : (k == 2) = false) (h3 : (k == 3) = false) : Calls Tryd.prog 76 #[acc k p o n] w fun e w' => e = .returned (.int .i64 2) ∧ Below w.heap.size w w' := by
  go_enter Tryd.func76, Tryd.ntmps76
  go_wp2
  refine wp_scope_once 0 rfl ?_
  go_wp2
  go_step3
  refine ⟨rfl, ?_⟩
  go_wp2
  rw [Exit.noGoto_ret]
  go_ret
  exact ⟨rfl, bel_two w _ _⟩
set_option maxHeartbeats 1000000 in
theorem check_0 (w : World) : Calls Tryd.prog 76 #[acc 0 0 0 0] w fun e w' => e = .returned (.int .i64 0) ∧ Below w.heap.size w w' := by
  go_enter Tryd.func76, Tryd.ntmps76
  go_wp2
  refine wp_scope_once 0 rfl ?_
  go_wp2
  rw [ajump_ret]
  go_ret
  exact ⟨rfl, bel_two w _ _⟩
set_option maxHeartbeats 1000000 in
theorem check_0p (p o n : Int) (w : World) (h : (p == 0) = false) : Calls Tryd.prog 76 #[acc 0 p o n] w fun e w' => e = .returned (.int .i64 2) ∧ Below w.heap.size w w' := by
  go_enter Tryd.func76, Tryd.ntmps76
  go_wp2
  refine wp_scope_once 0 rfl ?_
  go_wp2
  go_step3
  refine ⟨rfl, ?_⟩
  go_wp2
  rw [Exit.noGoto_ret]
  go_ret
  exact ⟨rfl, bel_two w _ _⟩
set_option maxHeartbeats 1000000 in
theorem check_0o (o n : Int) (w : World) (h : (o == 0) = false) : Calls Tryd.prog 76 #[acc 0 0 o n] w fun e w' => e = .returned (.int .i64 2) ∧ Below w.heap.size w w' := by
  go_enter Tryd.func76, Tryd.ntmps76
  go_wp2
  refine wp_scope_once 0 rfl ?_
  go_wp2
  go_step3
  refine ⟨rfl, ?_⟩
  go_wp2
  rw [Exit.noGoto_ret]
  go_ret
  exact ⟨rfl, bel_two w _ _⟩
set_option maxHeartbeats 1000000 in
theorem check_0n (n : Int) (w : World) (h : (n == 0) = false) : Calls Tryd.prog 76 #[acc 0 0 0 n] w fun e w' => e = .returned (.int .i64 2) ∧ Below w.heap.size w w' := by
  go_enter Tryd.func76, Tryd.ntmps76
  go_wp2
  refine wp_scope_once 0 rfl ?_
  go_wp2
  go_step3
  refine ⟨rfl, ?_⟩
  go_wp2
  rw [Exit.noGoto_ret]
  go_ret
  exact ⟨rfl, bel_two w _ _⟩
set_option maxHeartbeats 1000000 in
theorem check_1 (p : Int) (w : World) : Calls Tryd.prog 76 #[acc 1 p 0 0] w fun e w' => e = .returned (.int .i64 0) ∧ Below w.heap.size w w' := by
  go_enter Tryd.func76, Tryd.ntmps76
  go_wp2
  refine wp_scope_once 0 rfl ?_
  go_wp2
  rw [ajump_ret]
  go_ret
  exact ⟨rfl, bel_two w _ _⟩
set_option maxHeartbeats 1000000 in
theorem check_1o (p o n : Int) (w : World) (h : (o == 0) = false) : Calls Tryd.prog 76 #[acc 1 p o n] w fun e w' => e = .returned (.int .i64 2) ∧ Below w.heap.size w w' := by
  go_enter Tryd.func76, Tryd.ntmps76
  go_wp2
  refine wp_scope_once 0 rfl ?_
  go_wp2
  go_step3
  refine ⟨rfl, ?_⟩
  go_wp2
  rw [Exit.noGoto_ret]
  go_ret
  exact ⟨rfl, bel_two w _ _⟩
set_option maxHeartbeats 1000000 in
theorem check_1n (p n : Int) (w : World) (h : (n == 0) = false) : Calls Tryd.prog 76 #[acc 1 p 0 n] w fun e w' => e = .returned (.int .i64 2) ∧ Below w.heap.size w w' := by
  go_enter Tryd.func76, Tryd.ntmps76
  go_wp2
  refine wp_scope_once 0 rfl ?_
  go_wp2
  go_step3
  refine ⟨rfl, ?_⟩
  go_wp2
  rw [Exit.noGoto_ret]
  go_ret
  exact ⟨rfl, bel_two w _ _⟩
set_option maxHeartbeats 1000000 in
theorem check_2 (p n : Int) (w : World) : Calls Tryd.prog 76 #[acc 2 p 0 n] w fun e w' => e = .returned (.int .i64 0) ∧ Below w.heap.size w w' := by
  go_enter Tryd.func76, Tryd.ntmps76
  go_wp2
  refine wp_scope_once 0 rfl ?_
  go_wp2
  go_region
  go_wp2
  rw [ajump_ret]
  go_ret
  exact ⟨rfl, (bel_two w _ _).drew⟩
set_option maxHeartbeats 1000000 in
theorem check_2o (p o n : Int) (w : World) (h : (o == 0) = false) : Calls Tryd.prog 76 #[acc 2 p o n] w fun e w' => e = .returned (.int .i64 2) ∧ Below w.heap.size w w' := by
  go_enter Tryd.func76, Tryd.ntmps76
  go_wp2
  refine wp_scope_once 0 rfl ?_
  go_wp2
  go_region
  go_wp2
  go_step3
  refine ⟨rfl, ?_⟩
  go_wp2
  rw [Exit.noGoto_ret]
  go_ret
  exact ⟨rfl, (bel_two w _ _).drew⟩
set_option maxHeartbeats 1000000 in
theorem check_3 (p o n : Int) (w : World) : Calls Tryd.prog 76 #[acc 3 p o n] w fun e w' => e = .returned (.int .i64 0) ∧ Below w.heap.size w w' := by
  go_enter Tryd.func76, Tryd.ntmps76
  go_wp2
  refine wp_scope_once 0 rfl ?_
  go_wp2
  rw [ajump_ret]
  go_ret
  exact ⟨rfl, bel_two w _ _⟩
theorem Check_any (k p o n : Int) (w : World) : Calls Tryd.prog 76 #[acc k p o n] w fun e w' => e = .returned (.int .i64 (if ck k p o n then 0 else 2)) ∧ Below w.heap.size w w' := by
  by_cases h0 : k = 0
  · subst h0
    by_cases hp : p = 0
    · subst hp
      by_cases ho : o = 0
      · subst ho
        by_cases hn : n = 0
        · subst hn; exact check_0 w
        · have e : ck 0 0 0 n = false := by simp [ck, hn]
          rw [e]; exact check_0n n w (by simpa using hn)
      · have e : ck 0 0 o n = false := by simp [ck, ho]
        rw [e]; exact check_0o o n w (by simpa using ho)
    · have e : ck 0 p o n = false := by simp [ck, hp]
      rw [e]; exact check_0p p o n w (by simpa using hp)
  · by_cases h1 : k = 1
    · subst h1
      by_cases ho : o = 0
      · subst ho
        by_cases hn : n = 0
        · subst hn; exact check_1 p w
        · have e : ck 1 p 0 n = false := by simp [ck, hn]
          rw [e]; exact check_1n p n w (by simpa using hn)
      · have e : ck 1 p o n = false := by simp [ck, ho]
        rw [e]; exact check_1o p o n w (by simpa using ho)
    · by_cases h2 : k = 2
      · subst h2
        by_cases ho : o = 0
        · subst ho; exact check_2 p n w
        · have e : ck 2 p o n = false := by simp [ck, ho]
          rw [e]; exact check_2o p o n w (by simpa using ho)
      · by_cases h3 : k = 3
        · subst h3; exact check_3 p o n w
        · have e : ck k p o n = false := by simp [ck, h0, h1, h2, h3]
          rw [e]; exact check_other k p o n w (by simpa using h0) (by simpa using h1) (by simpa using h2) (by simpa using h3)
end Go.Proofs.YtldfmlkjeniemaaDoor
