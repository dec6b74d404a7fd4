/- package graph: met: what can be reached, one behind the other: the walk. -/
import Derived.Test.YtlkhmfmocegekaaDoorGrT
set_option linter.unusedVariables false
namespace Go.Proofs.YtlkhmfmocegekaaDoor
open Go.RowKit Go.Gr Go.Sh Go.Oq
attribute [local go_sem] Oper.semAt_some
theorem met_any (P : Option Addr) (w : World) : Calls Tryd.prog 23 #[.pointer P] w fun e' w' => e' = .returned (.func (.func 37) #[] #[.pointer (some ⟨w.heap.size, 0, none⟩)]) ∧ w' = w.alloc (.cells #[.pointer P] 31) := by
  have hmf : ∀ (fn : Fn) (first cap : Array Value) (w : World), (Instr.makeFunc fn first cap).run Tryd.prog w = .ok (.func fn first cap) w := fun _ _ _ _ => rfl
  go_enter Tryd.func23, Tryd.ntmps23
  go_wp2
  go_ret
  exact ⟨rfl, rfl⟩
theorem ginfo_ptr : (Tryd.prog.info? 60).map (fun i => (i.zero, i.size, i.bytes)) = some (some (.pointer none), 1, 8) := by kernel_rfl
theorem make_map (W : World) {γ : Gh} {g : Gr} (h : IsG W γ g) : (Instr.mapUpdate 95 (.map (some W.heap.size)) (.pointer none) (.int .i64 0)).run Tryd.prog (W.alloc (.map #[] 0)) = .ok () (W.alloc (mapO γ.at_ (kmap []))) := by
  have := pupdate (h.below (below_alloc0 W (.map #[] 0))) (x := 0) (fun e => absurd rfl e) (l := []) (fun p hp => by cases hp) (b := W.heap.size) (heap_alloc_last W _) Tryd.underlying95 rfl (.int .i64 0)
  exact this.trans (congrArg _ (gset_alloc_new W _ _))
theorem kmap_lk_snoc {K : List Nat} {o : Nat} (h0 : o ≠ 0) (h : o ∉ K) : lkp (kmap (K ++ [o])) o = some (.int .i64 ((K.length : Int) + 1)) := by
  rw [kmap_lk, if_neg h0, if_pos (by simp)]
  congr 2
  rw [List.idxOf_append, if_neg h]
  simp
theorem met_lk {γ : Gh} {g : Gr} {N0 : Nat} {K q : List Nat} {v : Value} {W : World} {o : Nat} (hm : MetI γ g N0 (K ++ [o]) q v W) (h0 : o ≠ 0) (h : o ∉ K) : (Instr.lookup 95 (.map (some N0)) (.pointer (some ⟨γ.at_ o, 0, none⟩)) false).run Tryd.prog W = .ok (.int .i64 ((K.length : Int) + 1)) W := by
  have := plookup hm.gr (x := o) (fun _ => hm.kl o (by simp)) (kmap_keys hm.kl) hm.map Tryd.underlying95 (Tryd.zeroValue3 W) false
  rw [kmap_lk_snoc h0 h, pp_pos _ h0] at this
  exact this
set_option maxRecDepth 100000 in
set_option maxHeartbeats 8000000 in
theorem met_owns (m : Nat) (hm : 1 ≤ m) (γ : Gh) (g : Gr) (L : List Nat) (hL : Met g L) (Bs N0 : Nat) (w0 : World) (h : IsG w0 γ g) (hBs : w0.heap[Bs]? = some (.cells #[.pointer (some ⟨γ.G, 0, none⟩)] 31)) :
    MSeqOwns 60 Fence.wide m Tryd.prog 37 #[.pointer (some ⟨Bs, 0, none⟩)] (encM γ L) (KpM γ g N0) (fun ys => valsOf ys = List.range L.length) (fun pre => ∃ k, k ≤ L.length ∧ valsOf pre = List.range k) L.length N0 w0 := by
  intro l J Jx W hW hz hJ hJx hY h0
  have hBs1 := (hW.block _ (row_lt hBs)).trans hBs
  have hG1 := h.below hW
  have HGs := hid hG1
  have hins := make_map W hG1
  rw [hz] at hins
  have hmm := @run_makeMap Tryd.prog
  have b0 := at_row ((Below.heap_alloc W (mapO γ.at_ (kmap [])) _ (row_lt hBs1)).trans hBs1) 0 rfl
  have f3 := at_row (hG1.below (below_alloc0 W (mapO γ.at_ (kmap [])))).face 3 rfl
  have HM0 : Hid (MetI γ g N0 [] [] (.slice none 0 0) (W.alloc (mapO γ.at_ (kmap [])))) := hid ⟨hG1.below (below_alloc0 W _), by rw [← hz]; exact heap_alloc_last W _, qRow_nil _ _ _, (fun x hx => by cases hx), (fun x hx => by cases hx)⟩
  have HJ0 : Hid (J [] (W.alloc (mapO γ.at_ (kmap [])))) := hid (hJ _ _ _ none h0 (World.grownBy_alloc W _ none) (fun r e => by cases e))
  have HJ := hid hJ
  have HY := hid hY
  have HL := hid hL
  have HX := hid hJx
  clear h hBs hG1 hW hBs1 h0 hJ hY hL hJx
  refine callsIn_of_wp Tryd.func37 rfl trivial ?_ rfl
  simp only [Tryd.ntmps37, List.size_toArray, List.length_cons, List.length_nil, Nat.reduceAdd, Nat.reduceSub, Array.replicate_succ, Array.replicate_zero, List.push_toArray, List.append_toArray, List.nil_append, List.cons_append]
  gi_wp2
  clear hins hmm b0 f3
  revert HM0 HJ0
  generalize W.alloc (mapO γ.at_ (kmap [])) = W1
  intro HM0 HJ0
  obtain ⟨i0, hi, hz0, hz1, hz2⟩ := info_parts ginfo_ptr
  have hn8 := HGs.out.ok.thr.2
  gi_loopw [4, 19] (fun v i wr => ∃ t : Nat, t ≤ g.rt.length ∧ i = .int .i64 t ∧ Hid (MetI γ g N0 [] (g.rt.take t).flatten v wr) ∧ Hid (J [] wr)) (fun _ i _ => g.rt.length - (intOf i).toNat)
  case atStart => exact ⟨0, Nat.zero_le _, rfl, by rw [List.take_zero]; exact HM0, HJ0⟩
  case round =>
    obtain ⟨t, ht, rfl, HA, HJa⟩ := hrel
    clear HM0 HJ0
    by_cases hlt : t < g.rt.length
    · have hlt' : (t : Int) < (g.rt.length : Int) := by omega
      have t0 : (0 : Int) ≤ (t : Int) := by omega
      have s0 := HA.out.gr.slotc (s := 0) hlt (by omega)
      have s1 := HA.out.gr.slotc (s := 1) hlt (by omega)
      have s2 := HA.out.gr.slotc (s := 2) hlt (by omega)
      have s3 := HA.out.gr.slotc (s := 3) hlt (by omega)
      have s4 := HA.out.gr.slotc (s := 4) hlt (by omega)
      have s5 := HA.out.gr.slotc (s := 5) hlt (by omega)
      rw [show 6 * t + 0 = t * 6 by omega] at s0
      rw [show 6 * t + 1 = t * 6 + 1 by omega] at s1
      rw [show 6 * t + 2 = t * 6 + 2 by omega] at s2
      rw [show 6 * t + 3 = t * 6 + 3 by omega] at s3
      rw [show 6 * t + 4 = t * 6 + 4 by omega] at s4
      rw [show 6 * t + 5 = t * 6 + 5 by omega] at s5
      have HF := hid (flat_take hlt)
      rw [row6 HGs.out.ok hlt] at HF
      have HLn := hid (flat_take_len HGs.out.ok t ht)
      have HLV := hid (fun x (hx : x ∈ [g.slot t 0, g.slot t 1, g.slot t 2, g.slot t 3, g.slot t 4, g.slot t 5]) => (show x ≠ 0 → γ.live x from by
        simp only [List.mem_cons, List.not_mem_nil, or_false] at hx
        rcases hx with rfl | rfl | rfl | rfl | rfl | rfl <;> exact HGs.out.rtl t _))
      gi_wp2_with (gi_at_builtin; refine wpListIn_append_q _ rfl _ _ 103 rfl (N0 + 1) 60 i0 (.pointer none) 8 Tryd.underlying103 hi hz0 hz1 hz2 rfl _ _ _ rfl (HA.out.alloc _).que ⟨wr.heap.size, 0, none⟩ 6 6 [.pointer (pp γ.at_ (g.slot t 0)), .pointer (pp γ.at_ (g.slot t 1)), .pointer (pp γ.at_ (g.slot t 2)), .pointer (pp γ.at_ (g.slot t 3)), .pointer (pp γ.at_ (g.slot t 4)), .pointer (pp γ.at_ (g.slot t 5))] (by decide) rfl rfl (cells_new _ _) (by simp [Value.oneCell']) (by rw [HLn.out]; unfold maxLen; omega) (by rw [HLn.out]; omega) (by have := HA.out.lt; simp; omega) ?_; intro v' w7 hq hgrow)
      have hq' : qRow w7 (N0 + 1) 60 v' ((g.rt.take t).flatten.length + [g.slot t 0, g.slot t 1, g.slot t 2, g.slot t 3, g.slot t 4, g.slot t 5].length) (((g.rt.take t).flatten.map fun x => .pointer (pp γ.at_ x)) ++ [g.slot t 0, g.slot t 1, g.slot t 2, g.slot t 3, g.slot t 4, g.slot t 5].map fun x => .pointer (pp γ.at_ x)) := hq
      have HA2 := hid ((HA.out.alloc _).app hq' hgrow HLV.out (qRow_ne (HA.out.alloc _).que))
      have HJ2 := hid (HJ.out _ _ _ _ (HJ.out _ _ _ none HJa.out (World.grownBy_alloc wr _ none) (fun r e => by cases e)) hgrow (app_al (HA.out.alloc _).que hz))
      rw [← HF.out] at HA2
      clear hq hq' hgrow
      go_roundw
      case rel => exact ⟨t + 1, by omega, by go_num, HA2, HJ2⟩
      case measure => simp [intOf]; omega
    · have htn : t = g.rt.length := by omega
      subst htn
      rw [List.take_length] at HA
      have HR0 := hid HL.out
      have hql := flat_len g HGs.out.ok
      gi_wp2
      gi_loopw [4] (fun v wr => ∃ (K q : List Nat) (pre : List (Fin L.length)), Hid (Run g K q L) ∧ Hid (valsOf pre = List.range K.length) ∧ q.length ≤ 48 + 8 * K.length ∧ Hid (MetI γ g N0 K q v wr) ∧ Hid (J pre wr)) (fun v wr => 9 * (g.m + 1 - kLen wr N0) + sLen v)
      case atStart => exact ⟨[], g.rt.flatten, [], HR0, hid rfl, by rw [hql, List.length_nil]; omega, HA, HJa⟩
      case round =>
        obtain ⟨K, q, pre, HR, HP, hqb, HA2, HJ2⟩ := hrel
        clear HA HJa HR0
        obtain ⟨va, vc, rfl, hvc⟩ := qRow_slice HA2.out.que
        have hLm := HL.out.len HGs.out.ok
        have hKL := run_bound HR.out
        have hbig := HGs.out.ok.big
        have hmm' : g.m = g.sh.length := rfl
        cases q with
        | nil =>
          have hLK : L = K := by cases HR.out; rfl
          subst hLK
          dsimp only [List.length_nil] at *
          gi_wp2
          refine bodyPost_end (results_none rfl _ _ _) rfl ?_
          exact ⟨⟨_, rfl⟩, .inl ⟨pre, HP.out, HJ2.out⟩⟩
        | cons o q =>
          have hq0 : qRow wr (N0 + 1) 60 (.slice va (q.length + 1) vc) (q.length + 1) (.pointer (pp γ.at_ o) :: q.map fun x => .pointer (pp γ.at_ x)) := HA2.out.que
          obtain ⟨gb, off, cap, hv, hcap, hn, hc0, hgb, htail⟩ := qRow_head hq0
          simp only [List.length_map] at hv hcap hn htail
          simp only [Value.slice.injEq] at hv
          obtain ⟨rfl, _, rfl⟩ := hv
          have HT := hid htail
          have hqb' : q.length + 1 ≤ 48 + 8 * K.length := hqb
          have hpos : (0 : Int) < ((q.length + 1 : Nat) : Int) := by omega
          have hpos1 : (1 : Int) ≤ ((q.length + 1 : Nat) : Int) := by omega
          have hpos2 : ((q.length + 1 : Nat) : Int) ≤ (vc : Int) := by omega
          have hz0 := Tryd.zeroValue3 wr
          have HLo := hid (HA2.out.ql o (by simp))
          have hlk := plookup HA2.out.gr (x := o) HLo.out (kmap_keys HA2.out.kl) HA2.out.map Tryd.underlying95 hz0 true
          rw [kmap_lk] at hlk
          have hql2 : ∀ x ∈ q, x ≠ 0 → γ.live x := fun x hx => HA2.out.ql x (by simp [hx])
          have HMq : Hid (∀ off', (off' = off + 1 ∨ (vc = 1 ∧ off' = off)) → MetI γ g N0 K q (.slice (some ⟨gb, off', none⟩) q.length (vc - 1)) wr) := hid (fun off' ho => ⟨HA2.out.gr, HA2.out.map, HT.out off' ho, HA2.out.kl, hql2⟩)
          clear hq0 hn htail hz0 hql2 HT hqb
          by_cases hsk : o = 0 ∨ o ∈ K
          · have hlk2 : (Instr.lookup 95 (.map (some N0)) (.pointer (pp γ.at_ o)) true).run Tryd.prog wr = .ok (.tuple #[.int .i64 (if o = 0 then 0 else ((K.idxOf o : Nat) : Int) + 1), .bool true]) wr := by
              rw [hlk]
              by_cases h0 : o = 0
              · rw [if_pos h0, if_pos h0]; rfl
              · have h1 : o ∈ K := hsk.resolve_left h0
                rw [if_neg h0, if_pos h1, if_neg h0]; rfl
            have HR2 : Hid (Run g K q L) := hid (by
              cases HR.out with
              | skip _ h => exact h
              | meet h0 h1 _ => rcases hsk with h | h <;> contradiction)
            clear hlk hsk
            generalize pp γ.at_ o = PO at *
            generalize (if o = 0 then (0 : Int) else ((K.idxOf o : Nat) : Int) + 1) = z at *
            gi_wp2
            go_roundw
            case rel =>
              refine ⟨K, q, pre, HR2, HP, by omega, ?_, HJ2⟩
              by_cases h1 : vc = 1
              · simpa [h1] using hid (HMq.out off (.inr ⟨h1, rfl⟩))
              · simpa [h1] using hid (HMq.out (off + 1) (.inl rfl))
            case measure => simp [sLen]
          · have h0 : o ≠ 0 := fun e => hsk (.inl e)
            have hoK : o ∉ K := fun e => hsk (.inr e)
            have hgo : γ.live o := HLo.out h0
            have HR2 : Hid (Run g (K ++ [o]) (q ++ g.kids o) L) := hid (by
              cases HR.out with
              | skip h _ => exact absurd h hsk
              | meet _ _ h => exact h)
            have hlk2 : (Instr.lookup 95 (.map (some N0)) (.pointer (some ⟨γ.at_ o, 0, none⟩)) true).run Tryd.prog wr = .ok (.tuple #[.int .i64 0, .bool false]) wr := by
              rw [← pp_pos γ.at_ h0, hlk, if_neg h0, if_neg hoK]; rfl
            have hlen := plen HA2.out.map (ty := 3) Tryd.underlying95
            rw [kmap_len] at hlen
            have hup := pupdate HA2.out.gr (x := o) HLo.out (kmap_keys HA2.out.kl) HA2.out.map Tryd.underlying95 (by rw [kmap_lk, if_neg h0, if_neg hoK]) (.int .i64 ((K.length + 1 : Nat) : Int))
            rw [show (((K.length + 1 : Nat) : Int)) = (K.length : Int) + 1 by omega] at hup hlen
            rw [← kmap_snoc, pp_pos _ h0] at hup
            rw [pp_pos _ h0] at hc0
            have HM3 : Hid (∀ off', (off' = off + 1 ∨ (vc = 1 ∧ off' = off)) → MetI γ g N0 (K ++ [o]) q (.slice (some ⟨gb, off', none⟩) q.length (vc - 1)) (wr.putObj N0 (mapO γ.at_ (kmap (K ++ [o]))))) := hid (fun off' ho => (HMq.out off' ho).meet hgo)
            have HJ3 := hid (HJ.out _ _ _ (some N0) HJ2.out (grownBy_putObj' wr N0 (mapO γ.at_ (kmap (K ++ [o])))) (fun r e => .inl (by cases e; exact hz.symm)))
            have hlk4 := met_lk (HM3.out _ (.inl rfl)) h0 hoK
            have hsz : N0 < (wr.putObj N0 (mapO γ.at_ (kmap (K ++ [o])))).heap.size := (HM3.out _ (.inl rfl)).lt
            have hkl2 : kLen (wr.putObj N0 (mapO γ.at_ (kmap (K ++ [o])))) N0 = K.length + 2 := by rw [(HM3.out _ (.inl rfl)).klen]; simp
            have hkl1 := HA2.out.klen
            clear hlk hsk
            generalize wr.putObj N0 (mapO γ.at_ (kmap (K ++ [o]))) = W2 at *
            obtain ⟨hKn, hLK⟩ := run_next HR2.out
            obtain ⟨fn, tmps, assign, body, hy, hR⟩ := HY.out pre ⟨K.length, hKn⟩ W2 HJ3.out (by rw [hz]; exact hsz) (by rw [vals_len HP.out]; exact hKn) ⟨K.length + 1, hKn, vals_snoc' HP.out hKn⟩
            dsimp only [encM] at hy
            simp only [Fin.getElem_fin] at hy
            rw [hLK] at hy
            have hobj := HGs.out.obj o hgo
            have h8 := HGs.out.ok.txt8 hobj.num.1 hobj.num.2
            have HP2 := hid (vals_snoc' HP.out hKn)
            have hx0 : ((K.length : Int) + 1) = ((K.length : Int) + 1) := rfl
            obtain ⟨q0, hq0⟩ : ∃ q0, q0 = q := ⟨_, rfl⟩
            have HQ0 := hid hq0
            have HQL := hid (show q0.length + 1 ≤ 48 + 8 * K.length by rw [hq0]; exact hqb')
            clear hq0
            have HMS := hid (show 9 * (g.m + 1 - (K.length + 2)) + (q0.length + (g.txt o).size) < 9 * (g.m + 1 - kLen wr N0) + sLen (.slice (some ⟨gb, off, none⟩) (o :: q).length vc) by rw [hkl1, ← HQ0.out]; simp only [sLen, List.length_cons]; omega)
            by_cases hv1 : vc = 1
            all_goals
              first
              | (subst hv1
                 obtain rfl : q = [] := List.length_eq_zero_iff.1 (by omega)
                 have HM5 : Hid (MetI γ g N0 (K ++ [o]) [] (.slice (some ⟨gb, off, none⟩) 0 0) W2) := hid (HM3.out off (.inr ⟨rfl, rfl⟩)))
              | have HM5 : Hid (MetI γ g N0 (K ++ [o]) q (.slice (some ⟨gb, off + 1, none⟩) q.length (vc - 1)) W2) := hid (HM3.out (off + 1) (.inl rfl))
              gi_wp2
              refine hR.mono ?_
              rintro e W3 (⟨rfl, hJ3, hk3⟩ | ⟨rfl, hJx3⟩)
              · have HM6 := hid (HM5.out.kept hk3)
                have HJ4 := hid hJ3
                obtain ⟨fa, fc, hrow, hfa⟩ := (HM6.out.gr.obj o hgo).row
                have hc1 := at_row hrow 1 rfl
                clear hy hR hk3 HM5 HM3 HJ3 hlk4 hsz hkl2 hJ3 hrow
                gi_wp2
                gi_loopw [4, 58] (fun v i wr => ∃ f : Nat, f ≤ (g.txt o).size ∧ i = .int .i64 f ∧ Hid (MetI γ g N0 (K ++ [o]) (q0 ++ (g.kids o).take f) v wr) ∧ Hid (J (pre ++ [⟨K.length, hKn⟩]) wr)) (fun _ i _ => (g.txt o).size - (intOf i).toNat)
                case atStart => exact ⟨0, Nat.zero_le _, rfl, by rw [List.take_zero, List.append_nil, HQ0.out]; exact HM6, HJ4⟩
                case round =>
                  obtain ⟨f, hf, rfl, HM7, HJ5⟩ := hrel
                  clear HM6 HJ4
                  obtain ⟨va5, vc5, rfl, hvc5⟩ := qRow_slice HM7.out.que
                  by_cases hlt : f < (g.txt o).size
                  · have hlt' : (f : Int) < ((g.txt o).size : Int) := by omega
                    have f0 : (0 : Int) ≤ (f : Int) := by omega
                    obtain ⟨FB, hFB, rfl⟩ := hfa (by omega)
                    obtain ⟨d1, d2, d3, _⟩ := HM7.out.gr.heldc hgo hlt hFB
                    have HK2 := hid (kids_get g o f hlt)
                    have HLD := hid (HM7.out.gr.obj o hgo).led
                    obtain ⟨Q, hQ⟩ : ∃ Q, Q = q0 ++ (g.kids o).take f := ⟨_, rfl⟩
                    have hQ' := hid hQ
                    rw [← hQ] at HM7 ⊢
                    have HLN := hid (show Q.length ≤ 48 + 8 * K.length + 8 by have := HQL.out; rw [hQ, List.length_append, List.length_take]; omega)
                    clear hQ
                    clear d3
                    generalize sn g o f = sc at *
                    gi_wp2_with (gi_at_builtin; (refine wpListIn_append_q _ rfl _ _ 103 rfl (N0 + 1) 60 i0 (.pointer none) 8 Tryd.underlying103 hi hz0 hz1 hz2 rfl _ _ _ rfl ((HM7.out.alloc _).alloc _).que ⟨wr.heap.size + 1, 0, none⟩ 1 1 [.pointer (pp γ.at_ (hn g o f))] (by decide) rfl rfl (by have := cells_new (W := wr.alloc (.cells #[.pointer (pp γ.at_ (hn g o f)), .int .i64 sc] 86)) #[.pointer (pp γ.at_ (hn g o f))] 60; rw [size_alloc] at this; exact this) (by simp [Value.oneCell']) (by unfold maxLen; have := HLN.out; omega) (by have := HLN.out; omega) (by have := HM7.out.lt; simp; omega) ?_); intro v' w7 hq hgrow)
                    have HA2 := hid (((HM7.out.alloc _).alloc _).app (ys := [hn g o f]) hq hgrow (by
                      intro x hx h0
                      simp only [List.mem_singleton] at hx
                      subst hx
                      exact HLD.out f hlt h0) (qRow_ne ((HM7.out.alloc _).alloc _).que))
                    have HJ6 := hid (HJ.out _ _ _ _ (HJ.out _ _ _ none (HJ.out _ _ _ none HJ5.out (World.grownBy_alloc _ _ none) (fun r e => by cases e)) (World.grownBy_alloc _ _ none) (fun r e => by cases e)) hgrow (app_al ((HM7.out.alloc _).alloc _).que hz))
                    rw [hQ'.out, List.append_assoc, ← HK2.out] at HA2
                    clear hq hgrow
                    go_roundw
                    case rel => exact ⟨f + 1, by omega, by go_num, HA2, HJ6⟩
                    case measure => simp [intOf]; omega
                  · obtain rfl : f = (g.txt o).size := by omega
                    have hkl := kids_len g o
                    have hlen7 : (g.kids o).take (g.txt o).size = g.kids o := by rw [← hkl, List.take_length]
                    rw [hlen7] at HM7 ⊢
                    have HKL := hid hkl
                    obtain ⟨Q, hQ⟩ : ∃ Q, Hid (Q = q0 ++ g.kids o) := ⟨_, hid rfl⟩
                    rw [← hQ.out] at HM7 ⊢
                    clear hkl hlen7
                    gi_wp2
                    go_roundw
                    case rel => exact ⟨K ++ [o], Q, pre ++ [⟨K.length, hKn⟩], hid (by rw [hQ.out, HQ0.out]; exact HR2.out), hid (by rw [HP2.out]; simp), by have := HQL.out; have := HKL.out; rw [hQ.out]; simp only [List.length_append, List.length_cons, List.length_nil]; omega, HM7, HJ5⟩
                    case measure =>
                      have h1 := HMS.out
                      have h2 := HM7.out.klen
                      have h3 := HKL.out
                      rw [h2]
                      refine Nat.lt_of_le_of_lt ?_ h1
                      rw [hQ.out]
                      simp only [sLen, List.length_append, List.length_cons, List.length_nil]
                      omega
              · gi_wp2
                refine bodyPost_ret (results_none rfl _ _ _) rfl ?_
                exact ⟨⟨_, rfl⟩, .inr ⟨_, ⟨K.length + 1, hKn, HP2.out⟩, hJx3⟩⟩
end Go.Proofs.YtlkhmfmocegekaaDoor
