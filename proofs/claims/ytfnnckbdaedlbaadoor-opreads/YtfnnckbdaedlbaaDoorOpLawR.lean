/- laws of layer 8: Read. -/
import Derived.Test.YtfnnckbdaedlbaaDoorOpRefR
import Derived.Test.YtfnnckbdaedlbaaDoorOpLawX
import Derived.Test.YtfnnckbdaedlbaaDoorOpReadC
import Derived.Test.YtfnnckbdaedlbaaDoorOpWorksMOn
set_option linter.unusedVariables false
namespace Go.Proofs.YtfnnckbdaedlbaaDoor
open Go.RowKit Go.Oq Go.Sort Go.Sh
theorem rng_zro : rng zro := fun i _ => by show -9223372036854775808 ≤ zro i ∧ zro i ≤ 9223372036854775807; unfold zro; omega
set_option maxRecDepth 100000 in
set_option maxHeartbeats 8000000 in
theorem opReads_short (s : ByteArray) (w : World) (hE : Lib3 w) (hs : s.size ≤ 300) (G : Nat → Int) (E E2 : Int) (T : ByteArray) (hr : rng G)
    (hG : (rdS s).getD zro = G) (hE1 : (if (rdS s).isSome then (0 : Int) else 186) = E) (hT : (if bare G then txt G else ⟨#[]⟩) = T) (hE2 : (if bare G then (0 : Int) else 180) = E2)
    (hok : Hid ((E != 0) = true ∨ ((E != 0) = false ∧ (T.toList == s.toList) = true ∧ E2 = 0))) :
    Calls Tryd.prog 5 #[.string s] w fun e w' => e = .returned (.bool true) ∧ Below w.heap.size w w' := by
  have HE := hid hE
  have C1 := hid (fun W (bw : Below w.heap.size w W) => oRead_any s W (HE.out.below bw) (by omega))
  have C2 := hid (fun W => rRead_any s W hs)
  have C3 := hid (fun W (bw : Below w.heap.size w W) => oText_any G W (tab_below HE.out.1 bw) hr)
  rw [hG, hE1] at C1 C2
  rw [hT, hE2] at C3
  have heq := fun W => op_equal G G W
  rw [sam_self] at heq
  have hi : (s.size : Int) ≤ 300 := by omega
  have hEE : (E == E) = true := by simp
  clear hE hG hE1 hT hE2 hr
  go_enter Tryd.func5, Tryd.ntmps5
  go_wp2_with (go_at_call 17; refine (C1.out _ (Below.refl _ w)).mono ?_)
  rintro e w1 ⟨rfl, b1⟩
  have B1 := hid (b1.alloc b1.size (.cells (row G) 31))
  have R1 := hid (heap_alloc_last w1 (.cells (row G) 31))
  clear b1
  go_wp2_with (first
    | (refine wpList_store_row rfl 31 _ _ rfl w1.heap.size (row G) rfl rfl 31 _ (heap_alloc_last w1 _) (op_size G) rfl (row_one G) ?_; rw [World.setRow_alloc_new])
    | (go_at_call 19; refine (C2.out _).mono ?_))
  rintro e w2 ⟨rfl, b2⟩
  have r1 := hid ((b2.block _ (Array.getElem?_eq_some_iff.1 R1.out).1).trans R1.out)
  have B2' := hid (B1.out.trans (b2.mono B1.out.size))
  have B2 := hid (B2'.out.alloc B2'.out.size (.cells (row G) 31))
  have R1b := alloc_cell r1.out (.cells (row G) 31)
  have R2 := heap_alloc_last w2 (.cells (row G) 31)
  have HR1 := hid R1b
  have HR2 := hid R2
  have c0 := at_row R1b 0 rfl
  have c1 := at_row R1b 1 rfl
  have c2 := at_row R1b 2 rfl
  have c3 := at_row R1b 3 rfl
  have c4 := at_row R1b 4 rfl
  have c5 := at_row R1b 5 rfl
  have c6 := at_row R1b 6 rfl
  have c7 := at_row R1b 7 rfl
  clear b2 r1 R1 B2' R1b R2
  go_wp2_with (first
    | (refine wpList_store_row rfl 31 _ _ rfl w2.heap.size (row G) rfl rfl 31 _ (heap_alloc_last w2 _) (op_size G) rfl (row_one G) ?_; rw [World.setRow_alloc_new])
    | (go_at_call 15; refine (C3.out _ B2.out).mono ?_))
  rintro e w3 ⟨rfl, b3⟩
  have B3 := hid (B2.out.trans (b3.mono B2.out.size))
  have R1 := (b3.block _ (Array.getElem?_eq_some_iff.1 HR1.out).1).trans HR1.out
  have R2 := (b3.block _ (Array.getElem?_eq_some_iff.1 HR2.out).1).trans HR2.out
  clear c0 c1 c2 c3 c4 c5 c6 c7
  have d0 := at_row R1 0 rfl
  have e0 := at_row R2 0 rfl
  have d1 := at_row R1 1 rfl
  have e1 := at_row R2 1 rfl
  have d2 := at_row R1 2 rfl
  have e2 := at_row R2 2 rfl
  have d3 := at_row R1 3 rfl
  have e3 := at_row R2 3 rfl
  have d4 := at_row R1 4 rfl
  have e4 := at_row R2 4 rfl
  have d5 := at_row R1 5 rfl
  have e5 := at_row R2 5 rfl
  have d6 := at_row R1 6 rfl
  have e6 := at_row R2 6 rfl
  have d7 := at_row R1 7 rfl
  have e7 := at_row R2 7 rfl
  clear b3 R1 R2 HR1 HR2 B2
  rcases hok.out with h1 | ⟨h1, h2, h3⟩
  · clear hok
    go_wp2_with (first
      | (go_at_call 12; refine (qnum_any _ _).mono ?_; rintro e w5 ⟨rfl, rfl⟩)
      | (go_at_call 9; refine (qworks_any _ (HE.out.below B3.out)).mono ?_; rintro e w6 ⟨rfl, b6⟩))
    go_ret
    exact ⟨rfl, B3.out.trans (b6.mono B3.out.size)⟩
  · clear hok
    subst h3
    go_wp2_with (first
      | (go_at_call 12; refine (qnum_any _ _).mono ?_; rintro e w5 ⟨rfl, rfl⟩)
      | (go_at_call 9; refine (qworks_any _ (HE.out.below B3.out)).mono ?_; rintro e w6 ⟨rfl, b6⟩))
    go_ret
    exact ⟨rfl, B3.out.trans (b6.mono B3.out.size)⟩
theorem opReads_walk (s : ByteArray) (w : World) (hE : Lib3 w) : Calls Tryd.prog 5 #[.string s] w fun e w' => e = .returned (.bool true) ∧ Below w.heap.size w w' := by
  by_cases hs : s.size ≤ 300
  · cases hr : rdS s with
    | none => exact opReads_short s w hE hs zro 186 _ _ rng_zro (by rw [hr]; rfl) (by rw [hr]; rfl) rfl rfl (hid (.inl rfl))
    | some g =>
      obtain ⟨hb, ht, hg⟩ := txt_rd hr
      exact opReads_short s w hE hs g 0 0 s hg (by rw [hr]; rfl) (by rw [hr]; rfl) (by rw [if_pos hb, ht]) (by rw [if_pos hb]) (hid (.inr ⟨rfl, by simp, rfl⟩))
  · have HE := hid hE
    have hi : (300 : Int) < (s.size : Int) := by omega
    clear hE hs
    go_enter Tryd.func5, Tryd.ntmps5
    go_wp2_with (go_at_call 9; refine (qworks_any _ HE.out).mono ?_; rintro e w6 ⟨rfl, b6⟩)
    go_ret
    exact ⟨rfl, b6⟩
end Go.Proofs.YtfnnckbdaedlbaaDoor
