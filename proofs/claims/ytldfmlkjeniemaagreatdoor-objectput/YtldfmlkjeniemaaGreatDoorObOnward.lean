/- package object: onward: what may stand from a word on, one behind the other. -/
import Derived.Test.YtldfmlkjeniemaaGreatDoorHdTopOn
import Derived.Test.YtldfmlkjeniemaaGreatDoorLyFaceOn
import Derived.Test.YtldfmlkjeniemaaGreatDoorObLoop
import Derived.Test.YtldfmlkjeniemaaGreatDoorObHeld
import Derived.Test.YtldfmlkjeniemaaGreatDoorObReadTOn
set_option linter.unusedVariables false
namespace Go.Proofs.YtldfmlkjeniemaaGreatDoor
open Go.RowKit Go.Ly Go.Hd Go.Sh Go.Ob Go.Shelf
attribute [local go_sem] Oper.semAt_some
theorem onward_any (t s : Int) (a : Option Addr) (n c L : Nat) (p e : Int) (w : World) :
    Calls Tryz.prog 70 #[objV t s a n c L p e] w fun e' w' => e' = .returned (.func (.func 85) #[] #[.pointer (some ⟨w.heap.size, 0, none⟩)]) ∧ w' = w.alloc (objO t s a n c L p e) := by
  have hmf : ∀ (fn : Fn) (first cap : Array Value) (w : World), (Instr.makeFunc fn first cap).run Tryz.prog w = .ok (.func fn first cap) w := fun _ _ _ _ => rfl
  go_enter Tryz.func70, Tryz.ntmps70
  go_wp2
  go_ret
  exact ⟨rfl, rfl⟩
/-- What is told of a word. -/
abbrev encO (t s : Int) (a : Option Addr) (n c L E : Nat) (x : Nat) : Array Value := #[objV t s a n c L ((x % E : Nat) : Int) (E : Int)]
/-- The words that are come to, one behind the other. -/
def visL (f : Int → Int) (p0 : Int) (k : Nat) : List Nat := (List.range k).map fun i => (vis f p0 i).toNat
theorem visL_len (f : Int → Int) (p0 : Int) (k : Nat) : (visL f p0 k).length = k := by simp [visL]
theorem visL_succ (f : Int → Int) (p0 : Int) (k : Nat) : visL f p0 (k + 1) = visL f p0 k ++ [(vis f p0 k).toNat] := by simp [visL, List.range_succ]
/-- What a round must keep. -/
def KpO (N G : Nat) (W W' : World) : Prop := Below N W W' ∧ W'.heap[G]? = W.heap[G]?
theorem kpO_t {N G : Nat} {W1 W2 W3 : World} (h : KpO N G W1 W2) (k : KpO N G W2 W3) : KpO N G W1 W3 := ⟨h.1.trans k.1, k.2.trans h.2⟩
/-- Where it stands. -/
def posO (W : World) (G : Nat) : Nat := match W.cell? ⟨G, 4, none⟩ with | some (.int _ p) => p.toNat | _ => 0
set_option maxRecDepth 100000 in
set_option maxHeartbeats 4000000 in
theorem onward_owns (m : Nat) (hm : 1 ≤ m) (Bs L A B : Nat) (t s : Int) (a : Option Addr) (n c : Nat) (ss : List ByteArray) (xs : List Int) (p0 E G : Nat) (wB w0 : World) (h : IsHp wB t s a n c ss A B xs) (hL : wB.heap[L]? = some (arO A)) (hB : Below wB.heap.size wB w0)
    (hBs : w0.heap[Bs]? = some (objO t s a n c L (p0 : Int) (E : Int))) (hE : E ≤ xs.length) :
    SeqOwns Fence.wide m Tryz.prog 85 #[.pointer (some ⟨Bs, 0, none⟩)] (encO t s a n c L E) (KpO wB.heap.size G) (fun ys => ∃ K, Go.Ob.Ends (osz xs ss (E : Int)) p0 E K ∧ ys = visL (osz xs ss (E : Int)) p0 K) (fun pre => ∃ k, (∀ j, j < k → vis (osz xs ss (E : Int)) p0 j < E) ∧ pre = visL (osz xs ss (E : Int)) p0 k) E G w0 := by
  intro l J Jx W hW hz hJ hJx hY h0
  have hBs1 := (hW.block _ (Array.getElem?_eq_some_iff.1 hBs).1).trans hBs
  have E9 : (E : Int) ≤ 20000 := by have := h.ar.le; omega
  have E0 : (0 : Int) ≤ (E : Int) := by omega
  have b0 := at_row hBs1 0 rfl
  have b1 := at_row hBs1 1 rfl
  have b2 := at_row hBs1 2 rfl
  have b3 := at_row hBs1 3 rfl
  have b4 := at_row hBs1 4 rfl
  have b5 := at_row hBs1 5 rfl
  have cw := fun (p : Nat) (z : Int) (hp : p < E) (hz : Hid (osz xs ss (E : Int) p = z)) (W' : World) (hb : Below wB.heap.size wB W') => words_any t s a n c ss L A B xs p E z W' (h.below hb) (row_below hL hb) (by omega) E0 E9 hz
  have hBW : Below wB.heap.size wB W := hB.trans (hW.mono hB.size)
  generalize hf : osz xs ss (E : Int) = f at *
  have hfb : ∀ p, f p = 0 ∨ (2 ≤ f p ∧ f p ≤ 10 ∧ f p ≤ E - p) := fun p => by
    rw [← hf]
    rcases osz_cases xs ss (E : Int) p with h | h
    · exact .inl h
    · exact .inr ⟨h.1, h.2.1, h.2.2.1⟩
  have CW := hid cw
  clear h hL hE hBs hBs1 hf cw
  refine callsIn_of_wp Tryz.func85 rfl trivial ?_ rfl
  simp only [Tryz.ntmps85, List.size_toArray, List.length_cons, List.length_nil, Nat.reduceAdd, Nat.reduceSub, Array.replicate_succ, Array.replicate_zero, List.push_toArray, List.append_toArray, List.nil_append, List.cons_append]
  gi_wp2
  have RG := heap_alloc_last W (objO t s a n c L (p0 : Int) (E : Int))
  have hJ0 : J [] (W.alloc (objO t s a n c L (p0 : Int) (E : Int))) := hJ _ _ _ none h0 (World.grownBy_alloc W _ none) (fun r e => by cases e)
  have hB0 := hBW.trans ((below_alloc0 W (objO t s a n c L (p0 : Int) (E : Int))).mono hBW.size)
  rw [hz] at RG
  clear b0 b1 b2 b3 b4 b5 h0
  generalize W.alloc (objO t s a n c L (p0 : Int) (E : Int)) = W5 at *
  gi_loopw [] (fun wr => ∃ k p : Nat, (∀ j, j < k → vis f p0 j < E) ∧ vis f p0 k = (p : Int) ∧ wr.heap[G]? = some (objO t s a n c L (p : Int) (E : Int)) ∧ Below wB.heap.size wB wr ∧ J (visL f p0 k) wr) (fun wr => E - posO wr G)
  case atStart => exact ⟨0, p0, fun j hj => by omega, rfl, RG, hB0, hJ0⟩
  case round =>
    obtain ⟨k, p, hk, hp, hR, hBr, hJr⟩ := hrel
    clear RG hB0 hJ0
    have hGl := (Array.getElem?_eq_some_iff.1 hR).1
    have d0 := at_row hR 0 rfl
    have d1 := at_row hR 1 rfl
    have d2 := at_row hR 2 rfl
    have d3 := at_row hR 3 rfl
    have d4 := at_row hR 4 rfl
    have d5 := at_row hR 5 rfl
    have p9 : (p : Int) ≤ 20000 ∨ E ≤ p := by omega
    have p00 : (0 : Int) ≤ (p : Int) := by omega
    by_cases hlt : p < E
    · have hlt' : (p : Int) < (E : Int) := by omega
      have p9 : (p : Int) ≤ 20000 := by omega
      have hge := vis_ge f p0 k
      obtain ⟨fn, tmps, assign, body, hy, hYR⟩ := hY _ p _ hJr (by omega) (by rw [visL_len]; omega)
      have hpe : (vis f p0 k).toNat = p := by rw [hp]; rfl
      have HVL : Hid (visL f p0 (k + 1) = visL f p0 k ++ [p]) := hid (by rw [visL_succ, hpe])
      obtain ⟨z, HZ⟩ : ∃ z, Hid (f p = z) := ⟨_, hid rfl⟩
      have hzb := hfb p
      rw [HZ.out] at hzb
      have HN : Hid (vis f p0 (k + 1) = (p : Int) + max z 1) := hid (by rw [vis_succ, hp, HZ.out])
      simp only [encO, Nat.mod_eq_of_lt hlt] at hy
      have HP := hid hp
      have HK := hid hk
      have HBR := hid hBr
      have HR := hid hR
      have pos0 : posO wr G = p := by simp [posO, d4]
      have HPO := hid pos0
      clear hge hpe p9 hp hk hBr hR pos0
      gi_wp2
      refine hYR.mono ?_
      rintro e W3 (⟨rfl, hJ3, hk3⟩ | ⟨rfl, hJx3⟩)
      · have R3 := hk3.2.trans HR.out
        have B3 := hid (HBR.out.trans hk3.1)
        have hGl3 := (Array.getElem?_eq_some_iff.1 R3).1
        clear d0 d1 d2 d3 d4 d5 hk3
        have d0 := at_row R3 0 rfl
        have d1 := at_row R3 1 rfl
        have d2 := at_row R3 2 rfl
        have d3 := at_row R3 3 rfl
        have d4 := at_row R3 4 rfl
        have d5 := at_row R3 5 rfl
        have g4 := fz_row R3 4
        have HR3 := hid R3
        clear R3
        gi_wp2
        have hmx : Hid (IntKind.i64.wrap ((p : Int) + max z 1) = (p : Int) + max z 1) := hid (IntWalk.i64_in _ ⟨by omega, by omega⟩)
        refine wpIn_wide.2 ?_
        refine wp_region_held_drew (S := (fun _ => True)) (by kernel_rfl) trivial (fun hHeld => ?_)
        refine wpAnyH_take (i := 0) (v := ?_) rfl (by kernel_rfl) (by kernel_rfl) (by kernel_rfl) (fun _ _ _ h => h) (Or.inl ⟨by rfl, ?_⟩) (by assumption) ?_
        rotate_left
        · (intro wx hSw; (try dsimp only at hSw); go_simp <;> with_reducible rfl)
        simp only [Act.put]
        refine wpAnyH_ready (rs := [1, 2]) (by kernel_rfl) (by simp) ?_
        refine AllReadyH.cons rfl (fun K hK => ?_) (AllReadyH.cons rfl (fun K hK => ?_) AllReadyH.nil)
        ·
          go_simp
          refine hK.out _ _ ?_ (fun hHeld => ?_)
          · trivial
          clear hK K
          refine wpAnyH_ready (rs := [2]) (by kernel_rfl) (by simp) ?_
          refine AllReadyH.cons rfl (fun K hK => ?_) AllReadyH.nil
          go_simp
          refine hK.out _ _ ?_ (fun hHeld => ?_)
          · trivial
          clear hK K
          refine wpAnyH_ready (rs := [3]) (by kernel_rfl) (by simp) ?_
          refine AllReadyH.cons rfl (fun K hK => ?_) AllReadyH.nil
          go_simp
          go_at_call 71
          refine (CW.out p z hlt HZ W3.drew B3.out.drew).mono ?_
          rintro e4 w4 ⟨rfl, b4⟩
          have q1 := (hbcell b4).1
          have q2 := (hbcell b4).2
          have r44 := (hbcell b4).1 G 4 hGl3
          have f44 := (hbcell b4).2 G 4 hGl3
          rw [show W3.drew.cell? ⟨G, 4, none⟩ = W3.cell? ⟨G, 4, none⟩ from rfl, d4] at r44
          rw [show W3.drew.frozen? ⟨G, 4, none⟩ = W3.frozen? ⟨G, 4, none⟩ from rfl, g4] at f44
          dsimp only
          refine hK.out _ _ ?_ (fun hHeld => ?_)
          · trivial
          clear hK K
          refine wpAnyH_ready (rs := [4]) (by kernel_rfl) (by simp) ?_
          refine AllReadyH.cons rfl (fun K hK => ?_) AllReadyH.nil
          go_simp
          refine hK.out _ _ ?_ (fun hHeld => ?_)
          · trivial
          clear hK K
          refine wpAnyH_take (i := 5) (v := ?_) rfl (by kernel_rfl) (by kernel_rfl) (by kernel_rfl) (fun _ _ _ h => h) (Or.inl ⟨by rfl, ?_⟩) (by assumption) ?_
          rotate_left
          · (intro wx hSw; (try dsimp only at hSw); go_simp <;> with_reducible rfl)
          simp only [Act.put]
          refine wpAnyH_take (i := 6) (v := ?_) rfl (by kernel_rfl) (by kernel_rfl) (by kernel_rfl) (fun _ _ _ h => h) (Or.inl ⟨by rfl, ?_⟩) (by assumption) ?_
          rotate_left
          · (intro wx hSw; (try dsimp only at hSw); go_simp <;> with_reducible rfl)
          simp only [Act.put]
          refine wpAnyH_ready (rs := [7]) (by kernel_rfl) (by simp) ?_
          refine AllReadyH.cons rfl (fun K hK => ?_) AllReadyH.nil
          go_simp
          refine hK.out _ _ ?_ (fun hHeld => ?_)
          · trivial
          clear hK K
          refine wpAnyH_done (by kernel_rfl) ?_ _
          have hmm : IntKind.i64.wrap ((p : Int) + if z < 1 then 1 else z) = (p : Int) + max z 1 := by
            rw [show (if z < 1 then (1 : Int) else z) = max z 1 by split <;> omega]; exact hmx.out
          rw [hmm]
          obtain ⟨p2, hp2⟩ : ∃ p2 : Nat, (p : Int) + max z 1 = (p2 : Int) := ⟨((p : Int) + max z 1).toNat, by omega⟩
          have hpp : p < p2 := by omega
          rw [hp2]
          have b4' := ((Below.refl _ W3).drew).trans b4
          have R4 := set_row (row_below HR3.out b4') (.int .i64 (p2 : Int)) (i := 4)
          have B4 := (B3.out.trans (b4'.mono B3.out.size)).setCell (p := ⟨G, 4, none⟩) (by have := hBW.size; show wB.heap.size ≤ G; omega) (.int .i64 (p2 : Int))
          have J4 : J (visL f p0 (k + 1)) (w4.setCell ⟨G, 4, none⟩ (.int .i64 (p2 : Int))) := by
            rw [HVL.out]
            exact hJ _ w4 _ (some G) (hJ _ W3 w4 none hJ3 (grown_below b4' none) (fun r e => by cases e)) (grown_setCell w4 G 4 _) (fun r e => by cases e; exact hz.symm)
          have hq2 := HN.out
          rw [hp2] at hq2
          have hk2 : ∀ j, j < k + 1 → vis f p0 j < E := fun j hj => by
            by_cases hjk : j < k
            · exact HK.out j hjk
            · obtain rfl : j = k := by omega
              rw [HP.out]; exact hlt'
          clear b4 b4' q1 q2 r44 f44 hmm
          generalize w4.setCell ⟨G, 4, none⟩ (.int .i64 (p2 : Int)) = W6 at *
          gi_wp2
          go_roundw
          case rel => exact ⟨k + 1, p2, hk2, hq2, R4, B4, J4⟩
          case measure =>
            have e4 := at_row R4 4 rfl
            have : posO W6 G = p2 := by simp [posO, e4]
            rw [this, HPO.out]
            omega
        ·
          go_simp
          refine hK.out _ _ ?_ (fun hHeld => ?_)
          · trivial
          clear hK K
          refine wpAnyH_ready (rs := [1, 3]) (by kernel_rfl) (by simp) ?_
          refine AllReadyH.cons rfl (fun K hK => ?_) (AllReadyH.cons rfl (fun K hK => ?_) AllReadyH.nil)
          ·
            go_simp
            refine hK.out _ _ ?_ (fun hHeld => ?_)
            · trivial
            clear hK K
            refine wpAnyH_ready (rs := [3]) (by kernel_rfl) (by simp) ?_
            refine AllReadyH.cons rfl (fun K hK => ?_) AllReadyH.nil
            go_simp
            go_at_call 71
            refine (CW.out p z hlt HZ W3.drew B3.out.drew).mono ?_
            rintro e4 w4 ⟨rfl, b4⟩
            have q1 := (hbcell b4).1
            have q2 := (hbcell b4).2
            have r44 := (hbcell b4).1 G 4 hGl3
            have f44 := (hbcell b4).2 G 4 hGl3
            rw [show W3.drew.cell? ⟨G, 4, none⟩ = W3.cell? ⟨G, 4, none⟩ from rfl, d4] at r44
            rw [show W3.drew.frozen? ⟨G, 4, none⟩ = W3.frozen? ⟨G, 4, none⟩ from rfl, g4] at f44
            dsimp only
            refine hK.out _ _ ?_ (fun hHeld => ?_)
            · trivial
            clear hK K
            refine wpAnyH_ready (rs := [4]) (by kernel_rfl) (by simp) ?_
            refine AllReadyH.cons rfl (fun K hK => ?_) AllReadyH.nil
            go_simp
            refine hK.out _ _ ?_ (fun hHeld => ?_)
            · trivial
            clear hK K
            refine wpAnyH_take (i := 5) (v := ?_) rfl (by kernel_rfl) (by kernel_rfl) (by kernel_rfl) (fun _ _ _ h => h) (Or.inl ⟨by rfl, ?_⟩) (by assumption) ?_
            rotate_left
            · (intro wx hSw; (try dsimp only at hSw); go_simp <;> with_reducible rfl)
            simp only [Act.put]
            refine wpAnyH_take (i := 6) (v := ?_) rfl (by kernel_rfl) (by kernel_rfl) (by kernel_rfl) (fun _ _ _ h => h) (Or.inl ⟨by rfl, ?_⟩) (by assumption) ?_
            rotate_left
            · (intro wx hSw; (try dsimp only at hSw); go_simp <;> with_reducible rfl)
            simp only [Act.put]
            refine wpAnyH_ready (rs := [7]) (by kernel_rfl) (by simp) ?_
            refine AllReadyH.cons rfl (fun K hK => ?_) AllReadyH.nil
            go_simp
            refine hK.out _ _ ?_ (fun hHeld => ?_)
            · trivial
            clear hK K
            refine wpAnyH_done (by kernel_rfl) ?_ _
            have hmm : IntKind.i64.wrap ((p : Int) + if z < 1 then 1 else z) = (p : Int) + max z 1 := by
              rw [show (if z < 1 then (1 : Int) else z) = max z 1 by split <;> omega]; exact hmx.out
            rw [hmm]
            obtain ⟨p2, hp2⟩ : ∃ p2 : Nat, (p : Int) + max z 1 = (p2 : Int) := ⟨((p : Int) + max z 1).toNat, by omega⟩
            have hpp : p < p2 := by omega
            rw [hp2]
            have b4' := ((Below.refl _ W3).drew).trans b4
            have R4 := set_row (row_below HR3.out b4') (.int .i64 (p2 : Int)) (i := 4)
            have B4 := (B3.out.trans (b4'.mono B3.out.size)).setCell (p := ⟨G, 4, none⟩) (by have := hBW.size; show wB.heap.size ≤ G; omega) (.int .i64 (p2 : Int))
            have J4 : J (visL f p0 (k + 1)) (w4.setCell ⟨G, 4, none⟩ (.int .i64 (p2 : Int))) := by
              rw [HVL.out]
              exact hJ _ w4 _ (some G) (hJ _ W3 w4 none hJ3 (grown_below b4' none) (fun r e => by cases e)) (grown_setCell w4 G 4 _) (fun r e => by cases e; exact hz.symm)
            have hq2 := HN.out
            rw [hp2] at hq2
            have hk2 : ∀ j, j < k + 1 → vis f p0 j < E := fun j hj => by
              by_cases hjk : j < k
              · exact HK.out j hjk
              · obtain rfl : j = k := by omega
                rw [HP.out]; exact hlt'
            clear b4 b4' q1 q2 r44 f44 hmm
            generalize w4.setCell ⟨G, 4, none⟩ (.int .i64 (p2 : Int)) = W6 at *
            gi_wp2
            go_roundw
            case rel => exact ⟨k + 1, p2, hk2, hq2, R4, B4, J4⟩
            case measure =>
              have e4 := at_row R4 4 rfl
              have : posO W6 G = p2 := by simp [posO, e4]
              rw [this, HPO.out]
              omega
          ·
            go_simp
            go_at_call 71
            refine (CW.out p z hlt HZ W3.drew B3.out.drew).mono ?_
            rintro e4 w4 ⟨rfl, b4⟩
            have q1 := (hbcell b4).1
            have q2 := (hbcell b4).2
            have r44 := (hbcell b4).1 G 4 hGl3
            have f44 := (hbcell b4).2 G 4 hGl3
            rw [show W3.drew.cell? ⟨G, 4, none⟩ = W3.cell? ⟨G, 4, none⟩ from rfl, d4] at r44
            rw [show W3.drew.frozen? ⟨G, 4, none⟩ = W3.frozen? ⟨G, 4, none⟩ from rfl, g4] at f44
            dsimp only
            refine hK.out _ _ ?_ (fun hHeld => ?_)
            · trivial
            clear hK K
            refine wpAnyH_ready (rs := [1, 4]) (by kernel_rfl) (by simp) ?_
            refine AllReadyH.cons rfl (fun K hK => ?_) (AllReadyH.cons rfl (fun K hK => ?_) AllReadyH.nil)
            ·
              go_simp
              refine hK.out _ _ ?_ (fun hHeld => ?_)
              · trivial
              clear hK K
              refine wpAnyH_ready (rs := [4]) (by kernel_rfl) (by simp) ?_
              refine AllReadyH.cons rfl (fun K hK => ?_) AllReadyH.nil
              go_simp
              refine hK.out _ _ ?_ (fun hHeld => ?_)
              · trivial
              clear hK K
              refine wpAnyH_take (i := 5) (v := ?_) rfl (by kernel_rfl) (by kernel_rfl) (by kernel_rfl) (fun _ _ _ h => h) (Or.inl ⟨by rfl, ?_⟩) (by assumption) ?_
              rotate_left
              · (intro wx hSw; (try dsimp only at hSw); go_simp <;> with_reducible rfl)
              simp only [Act.put]
              refine wpAnyH_take (i := 6) (v := ?_) rfl (by kernel_rfl) (by kernel_rfl) (by kernel_rfl) (fun _ _ _ h => h) (Or.inl ⟨by rfl, ?_⟩) (by assumption) ?_
              rotate_left
              · (intro wx hSw; (try dsimp only at hSw); go_simp <;> with_reducible rfl)
              simp only [Act.put]
              refine wpAnyH_ready (rs := [7]) (by kernel_rfl) (by simp) ?_
              refine AllReadyH.cons rfl (fun K hK => ?_) AllReadyH.nil
              go_simp
              refine hK.out _ _ ?_ (fun hHeld => ?_)
              · trivial
              clear hK K
              refine wpAnyH_done (by kernel_rfl) ?_ _
              have hmm : IntKind.i64.wrap ((p : Int) + if z < 1 then 1 else z) = (p : Int) + max z 1 := by
                rw [show (if z < 1 then (1 : Int) else z) = max z 1 by split <;> omega]; exact hmx.out
              rw [hmm]
              obtain ⟨p2, hp2⟩ : ∃ p2 : Nat, (p : Int) + max z 1 = (p2 : Int) := ⟨((p : Int) + max z 1).toNat, by omega⟩
              have hpp : p < p2 := by omega
              rw [hp2]
              have b4' := ((Below.refl _ W3).drew).trans b4
              have R4 := set_row (row_below HR3.out b4') (.int .i64 (p2 : Int)) (i := 4)
              have B4 := (B3.out.trans (b4'.mono B3.out.size)).setCell (p := ⟨G, 4, none⟩) (by have := hBW.size; show wB.heap.size ≤ G; omega) (.int .i64 (p2 : Int))
              have J4 : J (visL f p0 (k + 1)) (w4.setCell ⟨G, 4, none⟩ (.int .i64 (p2 : Int))) := by
                rw [HVL.out]
                exact hJ _ w4 _ (some G) (hJ _ W3 w4 none hJ3 (grown_below b4' none) (fun r e => by cases e)) (grown_setCell w4 G 4 _) (fun r e => by cases e; exact hz.symm)
              have hq2 := HN.out
              rw [hp2] at hq2
              have hk2 : ∀ j, j < k + 1 → vis f p0 j < E := fun j hj => by
                by_cases hjk : j < k
                · exact HK.out j hjk
                · obtain rfl : j = k := by omega
                  rw [HP.out]; exact hlt'
              clear b4 b4' q1 q2 r44 f44 hmm
              generalize w4.setCell ⟨G, 4, none⟩ (.int .i64 (p2 : Int)) = W6 at *
              gi_wp2
              go_roundw
              case rel => exact ⟨k + 1, p2, hk2, hq2, R4, B4, J4⟩
              case measure =>
                have e4 := at_row R4 4 rfl
                have : posO W6 G = p2 := by simp [posO, e4]
                rw [this, HPO.out]
                omega
            ·
              go_simp
              refine hK.out _ _ ?_ (fun hHeld => ?_)
              · trivial
              clear hK K
              refine wpAnyH_ready (rs := [1]) (by kernel_rfl) (by simp) ?_
              refine AllReadyH.cons rfl (fun K hK => ?_) AllReadyH.nil
              go_simp
              refine hK.out _ _ ?_ (fun hHeld => ?_)
              · trivial
              clear hK K
              refine wpAnyH_take (i := 5) (v := ?_) rfl (by kernel_rfl) (by kernel_rfl) (by kernel_rfl) (fun _ _ _ h => h) (Or.inl ⟨by rfl, ?_⟩) (by assumption) ?_
              rotate_left
              · (intro wx hSw; (try dsimp only at hSw); go_simp <;> with_reducible rfl)
              simp only [Act.put]
              refine wpAnyH_take (i := 6) (v := ?_) rfl (by kernel_rfl) (by kernel_rfl) (by kernel_rfl) (fun _ _ _ h => h) (Or.inl ⟨by rfl, ?_⟩) (by assumption) ?_
              rotate_left
              · (intro wx hSw; (try dsimp only at hSw); go_simp <;> with_reducible rfl)
              simp only [Act.put]
              refine wpAnyH_ready (rs := [7]) (by kernel_rfl) (by simp) ?_
              refine AllReadyH.cons rfl (fun K hK => ?_) AllReadyH.nil
              go_simp
              refine hK.out _ _ ?_ (fun hHeld => ?_)
              · trivial
              clear hK K
              refine wpAnyH_done (by kernel_rfl) ?_ _
              have hmm : IntKind.i64.wrap ((p : Int) + if z < 1 then 1 else z) = (p : Int) + max z 1 := by
                rw [show (if z < 1 then (1 : Int) else z) = max z 1 by split <;> omega]; exact hmx.out
              rw [hmm]
              obtain ⟨p2, hp2⟩ : ∃ p2 : Nat, (p : Int) + max z 1 = (p2 : Int) := ⟨((p : Int) + max z 1).toNat, by omega⟩
              have hpp : p < p2 := by omega
              rw [hp2]
              have b4' := ((Below.refl _ W3).drew).trans b4
              have R4 := set_row (row_below HR3.out b4') (.int .i64 (p2 : Int)) (i := 4)
              have B4 := (B3.out.trans (b4'.mono B3.out.size)).setCell (p := ⟨G, 4, none⟩) (by have := hBW.size; show wB.heap.size ≤ G; omega) (.int .i64 (p2 : Int))
              have J4 : J (visL f p0 (k + 1)) (w4.setCell ⟨G, 4, none⟩ (.int .i64 (p2 : Int))) := by
                rw [HVL.out]
                exact hJ _ w4 _ (some G) (hJ _ W3 w4 none hJ3 (grown_below b4' none) (fun r e => by cases e)) (grown_setCell w4 G 4 _) (fun r e => by cases e; exact hz.symm)
              have hq2 := HN.out
              rw [hp2] at hq2
              have hk2 : ∀ j, j < k + 1 → vis f p0 j < E := fun j hj => by
                by_cases hjk : j < k
                · exact HK.out j hjk
                · obtain rfl : j = k := by omega
                  rw [HP.out]; exact hlt'
              clear b4 b4' q1 q2 r44 f44 hmm
              generalize w4.setCell ⟨G, 4, none⟩ (.int .i64 (p2 : Int)) = W6 at *
              gi_wp2
              go_roundw
              case rel => exact ⟨k + 1, p2, hk2, hq2, R4, B4, J4⟩
              case measure =>
                have e4 := at_row R4 4 rfl
                have : posO W6 G = p2 := by simp [posO, e4]
                rw [this, HPO.out]
                omega
      · gi_wp2
        go_end0
        exact ⟨⟨_, rfl⟩, .inr ⟨_, ⟨k + 1, fun j hj => by
          by_cases hjk : j < k
          · exact HK.out j hjk
          · obtain rfl : j = k := by omega
            rw [HP.out]; exact hlt', HVL.out.symm⟩, hJx3⟩⟩
    · have hlt' : ¬ (p : Int) < (E : Int) := by omega
      clear p9
      gi_wp2
      refine ⟨(fun f e => by cases e), ?_⟩
      gi_wp2
      go_end0
      exact ⟨⟨_, rfl⟩, .inl ⟨_, ⟨k, ⟨by rw [hp]; omega, hk⟩, rfl⟩, hJr⟩⟩
end Go.Proofs.YtldfmlkjeniemaaGreatDoor
