/- The walk of the law ArenaAll. -/
import Derived.Test.YtlmkbnebpaopeaaArLawP
namespace Go.Proofs.Ytlmkbnebpaopeaa
open Go.RowKit Go.Shelf
attribute [local go_sem] Oper.semAt_some
theorem IsAr.own {W W' : World} {A B : Nat} {xs : List Int} {row : Option Nat} (h : IsAr W A B xs) (hg : W.grownBy W' row) (hr : ∀ r, row = some r → ∃ o : Obj, W.heap[r]? = some o ∧ o.isCells = false) : IsAr W' A B xs := by
  refine h.grown hg (fun e => ?_) (fun e => ?_)
  · obtain ⟨o, h1, h2⟩ := hr A e.symm
    rw [h.face] at h1; cases h1; cases h2
  · obtain ⟨o, h1, h2⟩ := hr B e.symm
    rw [h.row] at h1; cases h1; cases h2
/-- What ArenaAll's boxes hold: so many, the arena, its words' slice, how many were met. -/
def AlB (w : World) (many : Int) (xs : List Int) (n : Int) (W : World) : Prop :=
  Boxed W w.heap.size 3 (.int .i64 many) ∧ IsAr W (w.heap.size + 1 + 1) (w.heap.size + 1) xs ∧ Boxed W (w.heap.size + 1 + 1 + 1) 62 (.slice (some ⟨w.heap.size + 1, 0, none⟩) xs.length xs.length) ∧ Boxed W (w.heap.size + 1 + 1 + 1 + 1) 3 (.int .i64 n) ∧ Below w.heap.size w W
theorem AlB.own {w A B : World} {many n : Int} {xs : List Int} {row : Option Nat} {C : Nat} (h : AlB w many xs n A) (hC : w.heap.size ≤ C) (hg : A.grownBy B row) (hr : ∀ r, row = some r → C ≤ r ∧ ∃ o : Obj, A.heap[r]? = some o ∧ o.isCells = false) : AlB w many xs n B := by
  obtain ⟨h0, h1, h2, h3, hb⟩ := h
  have hr' := fun r e => (hr r e).2
  exact ⟨abox_own h0 hg hr', h1.own hg hr', abox_own h2 hg hr', abox_own h3 hg hr', hb.grown hg hb.size (fun k e => Nat.le_trans hC (hr k e).1)⟩
theorem AlB.setN {w A : World} {many n : Int} {xs : List Int} (h : AlB w many xs n A) (m : Int) : AlB w many xs m (A.setCell ⟨w.heap.size + 1 + 1 + 1 + 1, 0, none⟩ (.int .i64 m)) := by
  obtain ⟨h0, h1, h2, h3, hb⟩ := h
  exact ⟨h0.other (by omega) _, h1.grown (grown_setCell _ _ _ _) (by simp) (by simp), h2.other (by omega) _, h3.set _, hb.setCell (p := ⟨w.heap.size + 1 + 1 + 1 + 1, 0, none⟩) (by show w.heap.size ≤ w.heap.size + 1 + 1 + 1 + 1; omega) _⟩
theorem AlB.size {w A : World} {many n : Int} {xs : List Int} (h : AlB w many xs n A) : w.heap.size + 5 ≤ A.heap.size := h.2.2.2.1.lt
theorem alB_start (w : World) (many : Int) (xs : List Int) (hi : InW xs) (h1 : 1 ≤ xs.length) (h2 : xs.length ≤ 16384) : AlB w many xs 0 (((made (w.alloc (.cells #[.int .i64 many] 3)) xs).alloc (.cells #[.slice (some ⟨w.heap.size + 1, 0, none⟩) xs.length xs.length] 62)).alloc (.cells #[.int .i64 0] 3)) := by
  have hA := made_ar (w.alloc (.cells #[.int .i64 many] 3)) xs hi h1 h2
  have hB := made_below (w.alloc (.cells #[.int .i64 many] 3)) xs
  have hS := made_size (w.alloc (.cells #[.int .i64 many] 3)) xs
  rw [size_alloc] at hA hS
  refine ⟨(Boxed.alloc (Boxed.alloc ((hB.block _ (by simp)).trans (Boxed.new w _ _)) _) _), (hA.alloc _).alloc _, (abox_last _ _ (by omega) _ _).alloc _, abox_last _ _ (by simp; omega) _ _, ?_⟩
  exact (((bel1 hB).alloc (by omega) _).alloc (by simp; omega) _)
set_option maxRecDepth 100000 in
theorem all_leave {w W : World} {D : Nat} {tmps : Array Value} (hB : Below w.heap.size w W) (ht : tmps[4]?.getD undef = .bool true) (hD : w.heap.size ≤ D) (hK : W.heap[D]? = some (.deferred (some []))) :
    LeavesInM Fence.wide 4 Try.prog Try.f8 tmps (fun e W' => e = .returned (.bool true) ∧ Below w.heap.size w W') [{ target := .collected D, args := #[] }] .returning W := by
  have hB1 := hB.trans (belowK_b (w := w) (Nat.le_refl _) W D _ (.deferred none) hD hK rfl rfl)
  refine ⟨by simp, .inl ⟨_, _, rfl, run_takeDeferred hK, ?_⟩⟩
  refine ⟨.bool true, ?_, rfl, hB1⟩
  simp [results, Try.f8, go_sem, ht]
set_option maxRecDepth 10000000 in
set_option maxHeartbeats 8000000 in
theorem arenaAll_run (b off c : Nat) (xs : List Int) (many : Int) (w : World) (hx : Ws w b off xs) (hi : InW xs) (h1 : 1 ≤ xs.length) (h2 : xs.length ≤ 100) :
    CallsIn Fence.wide 4 Try.prog 8 #[.slice (some ⟨b, off, none⟩) xs.length c, .int .i64 many] w fun e W' => e = .returned (.bool true) ∧ Below w.heap.size w W' := by
  have h2' : (xs.length : Int) ≤ 100 := by omega
  have co := Of_yes b off c xs (w.alloc (.cells #[.int .i64 many] 3)) (hx.below (below_alloc0 w _)) h1 (by omega)
  have ca := AllA_at _ _ _ _ (made (w.alloc (.cells #[.int .i64 many] 3)) xs) (made_ar (w.alloc (.cells #[.int .i64 many] 3)) xs hi h1 (by omega)).faces
  have hfn := afunc_nil #[.pointer (some ⟨w.heap.size + 1 + 1 + 1, 0, none⟩)]
  have hms : (made (w.alloc (.cells #[.int .i64 many] 3)) xs).heap.size = w.heap.size + 1 + 1 + 1 := by rw [made_size, size_alloc]
  have H0 := alB_start w many xs hi h1 (by omega)
  rw [hms] at ca
  simp only [size_alloc] at co ca
  generalize made (w.alloc (.cells #[.int .i64 many] 3)) xs = w1 at *
  have h0 := hid H0
  clear H0
  have HX := hid hx
  clear hx hi
  refine callsIn_of_wp_marks Try.func8 rfl trivial ?_ rfl
  simp only [Try.ntmps8, List.size_toArray, List.length_cons, List.length_nil, Nat.reduceAdd, Nat.reduceSub, Array.replicate_succ, Array.replicate_zero, List.push_toArray, List.append_toArray, List.nil_append, List.cons_append]
  gi_wp2_with (first | (refine ⟨trivial, ?_⟩; gi_at_call 14; refine (callsIn_wide.2 co).mono ?_; rintro e w' ⟨rfl, hw⟩; rw [hw]; clear hw) | (refine ⟨trivial, ?_⟩; gi_at_call 28; refine (callsIn_wide.2 ca).mono ?_; rintro e w' ⟨rfl, hw⟩; rw [hw]; clear hw) | (refine ⟨trivial, ?_⟩; gi_at_call 10; refine (callsIn_wide.2 (anum_any _ _)).mono ?_; rintro e w' ⟨rfl, hw⟩; rw [hw]; clear hw))
  clear ca co hfn
  revert h0
  generalize World.alloc (World.alloc w1 _) _ = w0
  clear hms w1
  intro h0
  refine wpIn_rangeFunc_ownG (Q := _) rfl (by decide) (gf := 40) (lb := #[.pointer (some ⟨w.heap.size + 1 + 1 + 1, 0, none⟩)]) rfl trivial (enters_of Try.func40 (by kernel_rfl) rfl)
    (AllA_stops 3 (by omega) (w.heap.size + 1 + 1 + 1) (w.heap.size + 1) xs (by omega) w0 h0.out.2.2.1 h0.out.2.1.row) kpA_t (kpA_b h0.out.2.2.1.lt h0.out.2.1.ltB) (Below.refl _ _) (fun _ => rfl)
    (fun pre W => (pre.length ≤ xs.length ∧ ((pre.length : Int) < many ∨ pre.length = 0)) ∧ AlB w many xs (pre.length : Int) W)
    (fun c pre W => (c = .exit 0 ∧ (pre.length : Int) = max 1 many) ∧ AlB w many xs (pre.length : Int) W)
    (fun pre A B row hs hg hr => ⟨hs.1, hs.2.own (by have := h0.out.size; omega) hg hr⟩)
    (fun c pre A B row hs hg hr => ⟨hs.1, hs.2.own (by have := h0.out.size; omega) hg hr⟩)
    ⟨⟨by simp, .inr rfl⟩, h0.out⟩ ?a1 ?assign ?body ?done ?stop
  case assign =>
    intro l x W K hK
    dsimp only [encW]
    gi_wp2
    exact hK
  case body =>
    rintro l pre x W ⟨⟨hl8, hm⟩, hA⟩ hlen
    have HA := hid hA
    have HM := hid hm
    have k0 := hA.1.cell
    have k3 := hA.2.2.2.1.cell
    have f3 := hA.2.2.2.1.frozen
    have hl100 : (pre.length : Int) ≤ 100 := by omega
    clear hA hm
    have HW : Hid ((pre.length : Int) + 1 = ((pre ++ [x]).length : Int)) := hid (by simp)
    have HL : Hid ((pre ++ [x]).length ≤ xs.length) := hid (by simp; omega)
    by_cases hge : many ≤ (pre.length : Int) + 1
    · gi_wp2
      refine ⟨(KeepsOthers.setCell _ _ _).from _, ⟨rfl, ?_⟩, ?_⟩
      · rw [← HW.out]
        rcases HM.out with h | h <;> omega
      · rw [← HW.out]
        exact HA.out.setN _
    · have hge' : (pre.length : Int) + 1 < many := by omega
      clear hge
      gi_wp2
      refine ⟨(KeepsOthers.setCell _ _ _).from _, kpA_set W (by omega) (by omega) _ _, ⟨HL.out, .inl ?_⟩, ?_⟩
      · rw [← HW.out]; exact hge'
      · rw [← HW.out]; exact HA.out.setN _
  case done =>
    rintro D ys W hD rfl ⟨⟨_, hm⟩, hA⟩ hK
    rw [ups_length] at hA hm
    have HA := hid hA
    have k0 := hA.1.cell
    have k3 := hA.2.2.2.1.cell
    have ch := has_at _ _ b off c xs W hA.2.1 (HX.out.below hA.2.2.2.2)
    have hlm : (xs.length : Int) < many := by omega
    clear hA hm
    gi_wp2_with (first | (refine ⟨trivial, ?_⟩; gi_at_call 15; refine (callsIn_wide.2 ch).mono ?_; rintro e w4 ⟨rfl, b4⟩) | (refine ⟨trivial, ?_⟩; gi_at_call 9; refine (callsIn_wide.2 (aworks_any _)).mono ?_; rintro e w5 ⟨rfl, b5⟩))
    exact all_leave (HA.out.2.2.2.2.trans ((b4.trans (b5.mono b4.size)).mono HA.out.2.2.2.2.size)) rfl (by have := h0.out.size; omega) (((b4.trans (b5.mono b4.size)).block D (Array.getElem?_eq_some_iff.1 hK).1).trans hK)
  case stop =>
    rintro D cd pre W hD ⟨k, hk, rfl⟩ ⟨⟨rfl, hm⟩, hA⟩ hK
    rw [ups_length] at hA hm
    have HA := hid hA
    have k0 := hA.1.cell
    have k3 := hA.2.2.2.1.cell
    have ch := has_at _ _ b off c xs W hA.2.1 (HX.out.below hA.2.2.2.2)
    have hkl : (k : Int) ≤ xs.length := by omega
    clear hA
    by_cases hm1 : many ≤ 1
    · have hk1 : (k : Int) = 1 := by omega
      rw [hk1] at k3 hkl
      clear hm
      gi_wp2_with (first | (refine ⟨trivial, ?_⟩; gi_at_call 15; refine (callsIn_wide.2 ch).mono ?_; rintro e w4 ⟨rfl, b4⟩) | (refine ⟨trivial, ?_⟩; gi_at_call 9; refine (callsIn_wide.2 (aworks_any _)).mono ?_; rintro e w5 ⟨rfl, b5⟩))
      all_goals exact all_leave (HA.out.2.2.2.2.trans ((b4.trans (b5.mono b4.size)).mono HA.out.2.2.2.2.size)) rfl (by have := h0.out.size; omega) (((b4.trans (b5.mono b4.size)).block D (Array.getElem?_eq_some_iff.1 hK).1).trans hK)
    · have hkm : many = (k : Int) := by omega
      subst hkm
      have hm2 : 1 < (k : Int) := by omega
      clear hm hm1
      rcases Nat.lt_or_eq_of_le hk with hk2 | rfl
      · have hk3 : (k : Int) < xs.length := by omega
        gi_wp2_with (first | (refine ⟨trivial, ?_⟩; gi_at_call 15; refine (callsIn_wide.2 ch).mono ?_; rintro e w4 ⟨rfl, b4⟩) | (refine ⟨trivial, ?_⟩; gi_at_call 9; refine (callsIn_wide.2 (aworks_any _)).mono ?_; rintro e w5 ⟨rfl, b5⟩))
        exact all_leave (HA.out.2.2.2.2.trans ((b4.trans (b5.mono b4.size)).mono HA.out.2.2.2.2.size)) rfl (by have := h0.out.size; omega) (((b4.trans (b5.mono b4.size)).block D (Array.getElem?_eq_some_iff.1 hK).1).trans hK)
      · clear hkl
        gi_wp2_with (first | (refine ⟨trivial, ?_⟩; gi_at_call 15; refine (callsIn_wide.2 ch).mono ?_; rintro e w4 ⟨rfl, b4⟩) | (refine ⟨trivial, ?_⟩; gi_at_call 9; refine (callsIn_wide.2 (aworks_any _)).mono ?_; rintro e w5 ⟨rfl, b5⟩))
        exact all_leave (HA.out.2.2.2.2.trans ((b4.trans (b5.mono b4.size)).mono HA.out.2.2.2.2.size)) rfl (by have := h0.out.size; omega) (((b4.trans (b5.mono b4.size)).block D (Array.getElem?_eq_some_iff.1 hK).1).trans hK)
theorem arenaAll_walk_in (b off c : Nat) (xs : List Int) (many : Int) (w : World) (hx : Ws w b off xs) (hi : InW xs) (h1 : 1 ≤ xs.length) (h2 : xs.length ≤ 100) :
    Calls Try.prog 8 #[.slice (some ⟨b, off, none⟩) xs.length c, .int .i64 many] w fun e W' => e = .returned (.bool true) ∧ Below w.heap.size w W' :=
  callsIn_wide.1 (arenaAll_run b off c xs many w hx hi h1 h2)
set_option maxRecDepth 100000 in
set_option maxHeartbeats 4000000 in
theorem arenaAll_huge (a : Option Addr) (n c : Nat) (many : Int) (w : World) (h : 16384 < n) :
    Calls Try.prog 8 #[.slice a n c, .int .i64 many] w fun e w' => e = .returned (.bool true) ∧ Below w.heap.size w w' := by
  have h' : 100 < (n : Int) := by omega
  have co := Of_no a n c (w.alloc (.cells #[.int .i64 many] 3)) (by omega)
  have ca := AllA_at (.pointer none) none 0 0 (w.alloc (.cells #[.int .i64 many] 3)) (.inl ⟨rfl, rfl⟩)
  simp only [size_alloc] at ca
  go_enter Try.func8, Try.ntmps8
  go_wp2_with (first | (go_at_call 14; refine co.mono ?_; rintro e w' ⟨rfl, hw⟩; rw [hw]; clear hw) | (go_at_call 28; refine ca.mono ?_; rintro e w' ⟨rfl, hw⟩; rw [hw]; clear hw) | (go_at_call 10; refine (anum_any _ _).mono ?_; rintro e w' ⟨rfl, hw⟩; rw [hw]; clear hw) | (go_at_call 9; refine (aworks_any _).mono ?_; rintro e w' ⟨rfl, bq⟩))
  go_ret
  exact ⟨rfl, bel2 bq⟩
set_option maxRecDepth 100000 in
set_option maxHeartbeats 4000000 in
theorem arenaAll_none (a : Option Addr) (c : Nat) (many : Int) (w : World) :
    Calls Try.prog 8 #[.slice a 0 c, .int .i64 many] w fun e w' => e = .returned (.bool true) ∧ Below w.heap.size w w' := by
  have co := Of_no a 0 c (w.alloc (.cells #[.int .i64 many] 3)) (by omega)
  have ca := AllA_at (.pointer none) none 0 0 (w.alloc (.cells #[.int .i64 many] 3)) (.inl ⟨rfl, rfl⟩)
  simp only [size_alloc] at ca
  go_enter Try.func8, Try.ntmps8
  go_wp2_with (first | (go_at_call 14; refine co.mono ?_; rintro e w' ⟨rfl, hw⟩; rw [hw]; clear hw) | (go_at_call 28; refine ca.mono ?_; rintro e w' ⟨rfl, hw⟩; rw [hw]; clear hw) | (go_at_call 10; refine (anum_any _ _).mono ?_; rintro e w' ⟨rfl, hw⟩; rw [hw]; clear hw) | (go_at_call 9; refine (aworks_any _).mono ?_; rintro e w' ⟨rfl, bq⟩))
  go_ret
  exact ⟨rfl, bel2 bq⟩
set_option maxRecDepth 100000 in
set_option maxHeartbeats 4000000 in
theorem arenaAll_long (b off c : Nat) (xs : List Int) (many : Int) (w : World) (hx : Ws w b off xs) (hi : InW xs) (h : 100 < xs.length) (h2 : xs.length ≤ 16384) :
    Calls Try.prog 8 #[.slice (some ⟨b, off, none⟩) xs.length c, .int .i64 many] w fun e w' => e = .returned (.bool true) ∧ Below w.heap.size w w' := by
  have h' : 100 < (xs.length : Int) := by omega
  have co := Of_yes b off c xs (w.alloc (.cells #[.int .i64 many] 3)) (hx.below (below_alloc0 w _)) (by omega) h2
  have ca := AllA_at _ _ _ _ (made (w.alloc (.cells #[.int .i64 many] 3)) xs) (made_ar (w.alloc (.cells #[.int .i64 many] 3)) xs hi (by omega) h2).faces
  have hB := bel1 (made_below (w.alloc (.cells #[.int .i64 many] 3)) xs)
  simp only [size_alloc] at co ca
  generalize made (w.alloc (.cells #[.int .i64 many] 3)) xs = w1 at *
  have HB := hid hB
  clear hB hx hi
  go_enter Try.func8, Try.ntmps8
  go_wp2_with (first | (go_at_call 14; refine co.mono ?_; rintro e w' ⟨rfl, hw⟩; rw [hw]; clear hw) | (go_at_call 28; refine ca.mono ?_; rintro e w' ⟨rfl, hw⟩; rw [hw]; clear hw) | (go_at_call 10; refine (anum_any _ _).mono ?_; rintro e w' ⟨rfl, hw⟩; rw [hw]; clear hw) | (go_at_call 9; refine (aworks_any _).mono ?_; rintro e w' ⟨rfl, bq⟩))
  go_ret
  exact ⟨rfl, HB.out.trans ((bel1 bq).mono HB.out.size)⟩
theorem arenaAll_walk (a : Option Addr) (n c : Nat) (many : Int) (w : World) (hw : IsWs w a n) :
    Calls Try.prog 8 #[.slice a n c, .int .i64 many] w fun e w' => e = .returned (.bool true) ∧ Below w.heap.size w w' := by
  by_cases h : 16384 < n
  · exact arenaAll_huge a n c many w h
  by_cases h0 : n = 0
  · subst h0
    exact arenaAll_none a c many w
  · rcases hw with rfl | ⟨b, off, xs, rfl, rfl, hx, hi⟩
    · exact absurd rfl h0
    by_cases h1 : 100 < xs.length
    · exact arenaAll_long b off c xs many w hx hi h1 (by omega)
    · exact arenaAll_walk_in b off c xs many w hx hi (by omega) (by omega)
end Go.Proofs.Ytlmkbnebpaopeaa
