/- laws of layer 8: OpUnlike, OpNames. -/
import Derived.Test.YtfnnckbdaedlbaaDoorOpWorks
import Derived.Test.YtfnnckbdaedlbaaDoorOpRefA
namespace Go.Proofs.YtfnnckbdaedlbaaDoor
open Go.RowKit Go.Oq Go.Sh
theorem two_rows (w : World) (f g : Nat → Int) (t : TypeId) : ((w.alloc (.cells (row f) t)).alloc (.cells (row g) t)).heap[w.heap.size]? = some (.cells (row f) t) ∧ ((w.alloc (.cells (row f) t)).alloc (.cells (row g) t)).heap[w.heap.size + 1]? = some (.cells (row g) t) := ⟨halloc2 _ _ _, halloc2b _ _ _⟩
theorem bel2w (w : World) (A B : Obj) : Below w.heap.size w ((w.alloc A).alloc B) := (below_alloc0 w A).alloc (by simp) B
set_option maxRecDepth 100000 in
set_option maxHeartbeats 8000000 in
theorem unlike_no (f g : Nat → Int) (w : World) (hE : Lib3 w) (rf : rng f) (rg : rng g) (h : ¬ (bare f = true ∧ bare g = true)) :
    Calls Tryd.prog 8 #[opV f, opV g] w fun e w' => e = .returned (.bool true) ∧ Below w.heap.size w w' := by
  have HE := hid hE
  have ct1 := hid (fun W hT => oText_any f W hT rf)
  have ct2 := hid (fun W hT => oText_any g W hT rg)
  obtain ⟨e1, he1⟩ : ∃ e1 : Int, e1 = if bare f then 0 else 180 := ⟨_, rfl⟩
  obtain ⟨e2, he2⟩ : ∃ e2 : Int, e2 = if bare g then 0 else 180 := ⟨_, rfl⟩
  obtain ⟨t1, ht1⟩ : ∃ t1, t1 = if bare f then txt f else ⟨#[]⟩ := ⟨_, rfl⟩
  obtain ⟨t2, ht2⟩ : ∃ t2, t2 = if bare g then txt g else ⟨#[]⟩ := ⟨_, rfl⟩
  have hne : (e1 + e2 != 0) = true := by
    rw [bne_iff_ne, he1, he2]
    cases hf : bare f <;> cases hg : bare g <;> simp_all
  have hb1 : 0 ≤ e1 ∧ e1 ≤ 180 := by rw [he1]; split <;> omega
  have hb2 : 0 ≤ e2 ∧ e2 ≤ 180 := by rw [he2]; split <;> omega
  obtain ⟨x0, x1⟩ := hb1
  obtain ⟨y0, y1⟩ := hb2
  rw [← he1, ← ht1] at ct1
  rw [← he2, ← ht2] at ct2
  have TR := hid (two_rows w f g 31)
  have BW := hid (bel2w w (.cells (row f) 31) (.cells (row g) 31))
  clear he1 he2 ht1 ht2 h hE rf rg
  go_enter Tryd.func8, Tryd.ntmps8
  go_wp2_with (first
    | (refine wpList_load_row rfl 31 _ rfl w.heap.size rfl 31 (row f) (0, 0) _ TR.out.1 Tryd.underlying31 rfl (op_size f) ?_)
    | (go_at_call 15; refine (ct1.out _ (HE.out.below BW.out).1).mono ?_))
  rintro e w1 ⟨rfl, b1⟩
  have B1 := hid (BW.out.trans (b1.mono BW.out.size))
  have R2 := hid ((b1.block _ (Array.getElem?_eq_some_iff.1 TR.out.2).1).trans TR.out.2)
  clear b1
  go_wp2_with (first
    | (refine wpList_load_row rfl 31 _ rfl (w.heap.size + 1) rfl 31 (row g) (0, 0) _ R2.out Tryd.underlying31 rfl (op_size g) ?_)
    | (go_at_call 15; refine (ct2.out _ (HE.out.below B1.out).1).mono ?_))
  rintro e w2 ⟨rfl, b2⟩
  have B2 := hid (B1.out.trans (b2.mono B1.out.size))
  clear b2
  go_wp2_with (first
    | (go_at_call 12; refine (qnum_any _ _).mono ?_; rintro e w' ⟨rfl, hw⟩; rw [hw]; clear hw)
    | (go_at_call 9; refine (qworks_any _ (HE.out.below B2.out)).mono ?_; rintro e w5 ⟨rfl, b5⟩))
  go_ret
  exact ⟨rfl, B2.out.trans (b5.mono B2.out.size)⟩
set_option maxRecDepth 100000 in
set_option maxHeartbeats 8000000 in
theorem unlike_yes (f g : Nat → Int) (w : World) (hE : Lib3 w) (rf : rng f) (rg : rng g) (hf : bare f = true) (hg : bare g = true) :
    Calls Tryd.prog 8 #[opV f, opV g] w fun e w' => e = .returned (.bool true) ∧ Below w.heap.size w w' := by
  have HE := hid hE
  have ct1 := hid (fun W hT => oText_any f W hT rf)
  have ct2 := hid (fun W hT => oText_any g W hT rg)
  rw [hf, if_pos rfl, if_pos rfl] at ct1
  rw [hg, if_pos rfl, if_pos rfl] at ct2
  have hts := txt_same hf hg rf rg
  have heq := fun W => op_equal f g W
  generalize sam f g = b at *
  generalize txt f = t1 at *
  generalize txt g = t2 at *
  have HQ := hid heq
  have hbb : (b == b) = true := by cases b <;> rfl
  have TR := hid (two_rows w f g 31)
  have BW := hid (bel2w w (.cells (row f) 31) (.cells (row g) 31))
  clear hE rf rg hf hg
  go_enter Tryd.func8, Tryd.ntmps8
  go_wp2_with (first
    | (refine wpList_load_row rfl 31 _ rfl w.heap.size rfl 31 (row f) (0, 0) _ TR.out.1 Tryd.underlying31 rfl (op_size f) ?_)
    | (go_at_call 15; refine (ct1.out _ (HE.out.below BW.out).1).mono ?_))
  rintro e w1 ⟨rfl, b1⟩
  have B1 := hid (BW.out.trans (b1.mono BW.out.size))
  have R1 := hid ((b1.block _ (Array.getElem?_eq_some_iff.1 TR.out.1).1).trans TR.out.1)
  have R2 := hid ((b1.block _ (Array.getElem?_eq_some_iff.1 TR.out.2).1).trans TR.out.2)
  clear b1
  go_wp2_with (first
    | (refine wpList_load_row rfl 31 _ rfl (w.heap.size + 1) rfl 31 (row g) (0, 0) _ R2.out Tryd.underlying31 rfl (op_size g) ?_)
    | (go_at_call 15; refine (ct2.out _ (HE.out.below B1.out).1).mono ?_))
  rintro e w2 ⟨rfl, b2⟩
  have B2 := hid (B1.out.trans (b2.mono B1.out.size))
  have Q1 := hid ((b2.block _ (Array.getElem?_eq_some_iff.1 R1.out).1).trans R1.out)
  have Q2 := hid ((b2.block _ (Array.getElem?_eq_some_iff.1 R2.out).1).trans R2.out)
  clear b2 R1 R2
  go_wp2_with (first
    | (go_at_call 12; refine (qnum_any _ _).mono ?_; rintro e w' ⟨rfl, hw⟩; rw [hw]; clear hw)
    | (refine wpList_load_row rfl 31 _ rfl w.heap.size rfl 31 (row f) (0, 0) _ Q1.out Tryd.underlying31 rfl (op_size f) ?_)
    | (refine wpList_load_row rfl 31 _ rfl (w.heap.size + 1) rfl 31 (row g) (0, 0) _ Q2.out Tryd.underlying31 rfl (op_size g) ?_)
    | (go_at_call 9; refine (qworks_any _ (HE.out.below B2.out)).mono ?_; rintro e w5 ⟨rfl, b5⟩))
  go_ret
  exact ⟨rfl, B2.out.trans (b5.mono B2.out.size)⟩
theorem opUnlike_walk (f g : Nat → Int) (w : World) (hE : Lib3 w) (rf : rng f) (rg : rng g) :
    Calls Tryd.prog 8 #[opV f, opV g] w fun e w' => e = .returned (.bool true) ∧ Below w.heap.size w w' := by
  by_cases h : bare f = true ∧ bare g = true
  · exact unlike_yes f g w hE rf rg h.1 h.2
  · exact unlike_no f g w hE rf rg h
theorem kin_nam (k : Int) : (nam k.toNat).toList.isEmpty = !(kin k) := by
  rw [Wd.toL]
  by_cases hk : kin k = true
  · obtain ⟨K, rfl, k1, k2⟩ := kin_nat hk
    rw [hk]
    rcases eleven k1 k2 with rfl | rfl | rfl | rfl | rfl | rfl | rfl | rfl | rfl | rfl | rfl <;> rfl
  · have hk' : kin k = false := by simpa using hk
    rw [(nam_out hk').1, hk']
    rfl
set_option maxHeartbeats 4000000 in
theorem opNames_walk (k : Int) (w : World) (hE : Lib3 w) :
    Calls Tryd.prog 7 #[.int .i64 k] w fun e w' => e = .returned (.bool true) ∧ Below w.heap.size w w' := by
  have HE := hid hE
  have c1 := Name_any k w
  have c2 := fun W => rname_any k W
  have hn := kin_nam k
  have hne : ((nam k.toNat).toList == (nam k.toNat).toList) = true := by simp
  generalize nam k.toNat = N at *
  generalize kin k = b at *
  clear hE
  cases b
  all_goals
    go_enter Tryd.func7, Tryd.ntmps7
    go_wp2_with (go_at_call 22; refine c1.mono ?_)
    rintro e w1 ⟨rfl, b1⟩
    have B1 := hid b1
    clear b1
    go_wp2_with (go_at_call 23; refine (c2 _).mono ?_)
    rintro e w2 ⟨rfl, b2⟩
    have B2 := hid (B1.out.trans (b2.mono B1.out.size))
    clear b2
    go_wp2_with (go_at_call 9; refine (qworks_any _ (HE.out.below B2.out)).mono ?_; rintro e w5 ⟨rfl, b5⟩)
    go_ret
    exact ⟨rfl, B2.out.trans (b5.mono B2.out.size)⟩
end Go.Proofs.YtfnnckbdaedlbaaDoor
