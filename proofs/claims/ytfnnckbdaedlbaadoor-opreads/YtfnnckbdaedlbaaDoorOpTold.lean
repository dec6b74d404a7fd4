/- package op: Told. -/
import Derived.Test.YtfnnckbdaedlbaaDoorOpFace
namespace Go.Proofs.YtfnnckbdaedlbaaDoor
open Go.RowKit Go.Oq Go.Sort Go.Sh
theorem tfn_enters (K : Nat) (h1 : 1 ≤ K) (h2 : K ≤ 11) : ∀ args w, (callFunc (tfn K) args).run Tryd.prog w = .ok (.enter (tfn K) args) w := by
  have e0 := enters_of Tryd.func68 (by kernel_rfl) rfl
  have e1 := enters_of Tryd.func69 (by kernel_rfl) rfl
  have e2 := enters_of Tryd.func70 (by kernel_rfl) rfl
  have e3 := enters_of Tryd.func71 (by kernel_rfl) rfl
  rcases eleven h1 h2 with rfl | rfl | rfl | rfl | rfl | rfl | rfl | rfl | rfl | rfl | rfl
  · exact e0
  · exact e1
  · exact e0
  · exact e2
  · exact e3
  · exact e0
  · exact e2
  · exact e2
  · exact e0
  · exact e0
  · exact e0
set_option maxRecDepth 100000 in
set_option maxHeartbeats 4000000 in
theorem oTold_no (f : Nat → Int) (e0 : Int) (b : Bool) (v : Int) (w : World) (hb : bare f = false) :
    Calls Tryd.prog 20 #[opV f, outV e0 b v] w fun e w' => e = .returned (.tuple #[.string ⟨#[]⟩, .int .i64 180]) ∧ Below w.heap.size w w' := by
  have kk := fun W => kindOf_no f W hb
  clear hb
  go_enter Tryd.func20, Tryd.ntmps20
  go_wp2_with (go_at_call 26; refine (kk _).mono ?_)
  rintro e w2 ⟨rfl, b2⟩
  have B2 := hid (bel2 b2)
  clear b2
  go_wp2_with (refine wpList_store_row rfl 63 _ _ rfl w2.heap.size kz rfl rfl 63 _ (heap_alloc_last w2 _) (k_size.trans rfl) rfl kz_one ?_; rw [World.setRow_alloc_new])
  go_ret2
  exact ⟨rfl, B2.out.alloc B2.out.size _⟩
set_option maxRecDepth 100000 in
set_option maxHeartbeats 4000000 in
theorem oTold_err (f : Nat → Int) (e0 : Int) (b : Bool) (v : Int) (w : World) (hT : Tab w) (h0 : -9223372036854775808 ≤ e0) (h1 : e0 ≤ 9223372036854775807) (hb : bare f = true) (he : (e0 != 0) = true) :
    Calls Tryd.prog 20 #[opV f, outV e0 b v] w fun e w' => e = .returned (.tuple #[.string (⟨#[101, 114, 114, 111, 114, 32]⟩ ++ dgB e0), .int .i64 0]) ∧ Below w.heap.size w w' := by
  obtain ⟨K, hK, _, _⟩ := kin_nat ((bare_iff f).1 hb).1
  have kk := hid (fun W => kindOf_yes K f W hK hb)
  have HT := hid hT
  have hsz := dgB_size h0 h1
  obtain ⟨S, hS⟩ : ∃ S, S = dgB e0 := ⟨_, rfl⟩
  rw [← hS] at hsz ⊢
  have HS := hid hS.symm
  have H0 := hid h0
  have H1 := hid h1
  clear hb hK hT hS h0 h1
  go_enter Tryd.func20, Tryd.ntmps20
  go_wp2_with (go_at_call 26; refine (kk.out _).mono ?_)
  rintro e w2 ⟨v1, v2, rfl, i1, i2, b2⟩
  have ho := kcell_one i1 i2 K
  have hr2 := hid (row2b b2)
  have B2 := hid (bel2 b2)
  clear b2 i1 i2
  have hr3 := hid ((Below.heap_alloc w2 (.cells (kcell v1 v2 K) 63) _ (Array.getElem?_eq_some_iff.1 hr2.out).1).trans hr2.out)
  have B3 := hid (B2.out.alloc B2.out.size (.cells (kcell v1 v2 K) 63))
  have d0 := at_row hr3.out 0 rfl
  have cd := dig_er e0 S _ H0.out H1.out (tab_below HT.out B3.out) HS
  go_wp2_with (first
    | (refine wpList_store_row rfl 63 _ _ rfl w2.heap.size (kcell v1 v2 K) rfl rfl 63 _ (heap_alloc_last w2 _) (kcell_size _ _ _) rfl ho ?_; rw [World.setRow_alloc_new])
    | (go_at_call 46; refine cd.mono ?_; rintro e w5 ⟨rfl, b5⟩))
  go_ret2
  exact ⟨rfl, B3.out.trans (b5.mono B3.out.size)⟩
set_option maxRecDepth 100000 in
set_option maxHeartbeats 4000000 in
theorem oTold_ok (K : Nat) (f : Nat → Int) (b : Bool) (v : Int) (w : World) (hT : Tab w) (h0 : -9223372036854775808 ≤ v) (h1 : v ≤ 9223372036854775807) (hb : bare f = true) (hK : f 0 = (K : Int)) :
    Calls Tryd.prog 20 #[opV f, outV 0 b v] w fun e w' => e = .returned (.tuple #[.string (tdl K b v), .int .i64 0]) ∧ Below w.heap.size w w' := by
  have hk := kin_bd ((bare_iff f).1 hb).1
  have k1 : 1 ≤ K := by omega
  have k2 : K ≤ 11 := by omega
  have kk := hid (fun W => kindOf_yes K f W hK hb)
  have HT := hid hT
  have CT := hid (fun W hw => told_at K 0 b v W h0 h1 hw k1 k2)
  have he := tfn_enters K k1 k2
  clear hb hK hT h0 h1 hk k1 k2
  go_enter Tryd.func20, Tryd.ntmps20
  go_wp2_with (go_at_call 26; refine (kk.out _).mono ?_)
  rintro e w2 ⟨v1, v2, rfl, i1, i2, b2⟩
  have ho := kcell_one i1 i2 K
  have hr2 := hid (row2b b2)
  have B2 := hid (bel2 b2)
  clear b2 i1 i2
  have hr3 := hid ((Below.heap_alloc w2 (.cells (kcell v1 v2 K) 63) _ (Array.getElem?_eq_some_iff.1 hr2.out).1).trans hr2.out)
  have B3 := hid (B2.out.alloc B2.out.size (.cells (kcell v1 v2 K) 63))
  have d0 := at_row hr3.out 0 rfl
  have d1 := at_row hr3.out 1 rfl
  have d2 := at_row hr3.out 2 rfl
  have k5 := cell_last w2 (kcell v1 v2 K) 63 5 (.func (.func (tfn K)) #[] #[]) rfl
  have ct := CT.out _ (tab_below HT.out B3.out)
  go_wp2_with (first
    | (refine wpList_store_row rfl 63 _ _ rfl w2.heap.size (kcell v1 v2 K) rfl rfl 63 _ (heap_alloc_last w2 _) (kcell_size _ _ _) rfl ho ?_; rw [World.setRow_alloc_new])
    | (go_at_fn (tfn K); refine ct.mono ?_; rintro e w5 ⟨rfl, b5⟩))
  go_ret2
  exact ⟨rfl, B3.out.trans (b5.mono B3.out.size)⟩
theorem oTold_any (f : Nat → Int) (e0 : Int) (b : Bool) (v : Int) (w : World) (hT : Tab w) (a0 : -9223372036854775808 ≤ e0) (a1 : e0 ≤ 9223372036854775807) (h0 : -9223372036854775808 ≤ v) (h1 : v ≤ 9223372036854775807) :
    Calls Tryd.prog 20 #[opV f, outV e0 b v] w fun e w' => e = .returned (.tuple #[.string (tld f e0 (tdl (f 0).toNat b v)).1, .int .i64 (tld f e0 (tdl (f 0).toNat b v)).2]) ∧ Below w.heap.size w w' := by
  unfold tld
  by_cases hb : bare f = false
  · rw [if_pos hb]; exact oTold_no f e0 b v w hb
  · rw [if_neg hb]
    have hb' : bare f = true := by simpa using hb
    by_cases he : e0 = 0
    · subst he
      rw [if_pos rfl]
      obtain ⟨K, hK, _, _⟩ := kin_nat ((bare_iff f).1 hb').1
      have : (f 0).toNat = K := by omega
      rw [this]
      exact oTold_ok K f b v w hT h0 h1 hb' hK
    · rw [if_neg he]
      exact oTold_err f e0 b v w hT a0 a1 hb' (by simpa using he)
end Go.Proofs.YtfnnckbdaedlbaaDoor
