/- package op: a number read of a word. -/
import Derived.Test.YtfnnckbdaedlbaaDoorOpNamed
import Derived.Test.YtfnnckbdaedlbaaDoorShelf
import Derived.LaidEql
import Derived.ChangeBears2
namespace Go.Proofs.YtfnnckbdaedlbaaDoor
open Go.RowKit Go.Oq
/-- What is laid of the library stands: the table of powers, both errors. -/
def Lib3 (w : World) : Prop := Tab w ∧ (∃ ev, w.cell? ⟨2, 0, none⟩ = some ev ∧ ∃ te pe, ev = .iface te pe) ∧ ∃ ev, w.cell? ⟨3, 0, none⟩ = some ev ∧ ∃ te pe, ev = .iface te pe
theorem Lib3.below {w w' : World} (h : Lib3 w) (hb : Below w.heap.size w w') : Lib3 w' := by
  obtain ⟨h1, ⟨e1, c1, i1⟩, ⟨e2, c2, i2⟩⟩ := h
  exact ⟨tab_below h1 hb, ⟨e1, (hb.cell (p := ⟨_, 0, none⟩) (block_lt_of_cell c1)).trans c1, i1⟩, ⟨e2, (hb.cell (p := ⟨_, 0, none⟩) (block_lt_of_cell c2)).trans c2, i2⟩⟩
theorem whl_parse {l : List UInt8} {v : Int} (h : Lib.parseIntB 64 l = .ok v) (hi : Lib.itoa v = l) : whl l = some v := by simp [whl, h, hi]
theorem whl_parse_no {l : List UInt8} {v : Int} (h : Lib.parseIntB 64 l = .ok v) (hi : ¬ Lib.itoa v = l) : whl l = none := by simp [whl, h, hi]
theorem parse_yes (s : ByteArray) (v : Int) (w : World) (hs : s.size ≤ 100000) (hp : Lib.parseIntB 64 s.data.toList = .ok v) :
    Calls Tryd.prog 59 #[.string s, .int .i64 10, .int .i64 64] w fun e w' => e = .returned (.tuple #[.int .i64 v, .nilIface]) ∧ Below w.heap.size w w' := by
  have h1 : s.size ≤ 9223372036854775806 := by omega
  have c := Tryd.strconv_ParseInt_10_at64_ok s h1 v hp w
  refine c.mono ?_
  rintro e w' ⟨rfl, hw⟩
  refine ⟨rfl, ?_⟩
  rcases hw with rfl | ⟨t, rfl⟩
  · exact Below.refl _ _
  · exact Lib.bytesWorld_below _ _ _
theorem parse_no (s : ByteArray) (w : World) (hs : s.size ≤ 100000) (hE : Lib3 w) (hp : ∀ v, Lib.parseIntB 64 s.data.toList ≠ .ok v) :
    Calls Tryd.prog 59 #[.string s, .int .i64 10, .int .i64 64] w fun e w' => ∃ v t p, e = .returned (.tuple #[.int .i64 v, .iface t p]) ∧ Below w.heap.size w w' := by
  obtain ⟨_, ⟨e1, c1, t1, p1, rfl⟩, ⟨e2, c2, t2, p2, rfl⟩⟩ := hE
  cases hq : Lib.parseIntB 64 s.data.toList with
  | ok v => exact absurd hq (hp v)
  | «syntax» =>
    refine (Tryd.strconv_ParseInt_10_at64_syntax s (by omega) hq _ w c1 (.inr ⟨_, _, rfl⟩)).mono ?_
    rintro e w' ⟨N, rfl, _, _, hb⟩
    exact ⟨_, _, _, rfl, hb⟩
  | range =>
    refine (Tryd.strconv_ParseInt_10_at64_range s (by omega) hq _ w c2 (.inr ⟨_, _, rfl⟩)).mono ?_
    rintro e w' ⟨N, rfl, _, _, hb⟩
    exact ⟨_, _, _, rfl, hb⟩
/-- A number was written at one place of a block, beside new memory. -/
def Wrote (w : World) (g j : Nat) (v : Int) (w' : World) : Prop := ∃ w1, Below w.heap.size w w1 ∧ Below w.heap.size (w1.setCell ⟨g, j, none⟩ (.int .i64 v)) w'
theorem Wrote.other {w w' : World} {g j : Nat} {v : Int} (h : Wrote w g j v w') {k : Nat} (hk : k < w.heap.size) (hne : k ≠ g) : w'.heap[k]? = w.heap[k]? := by
  obtain ⟨w1, b1, b2⟩ := h
  rw [b2.block k hk, heap_setCell_other _ _ _ _ hne, b1.block k hk]
theorem Wrote.size {w w' : World} {g j : Nat} {v : Int} (h : Wrote w g j v w') : w.heap.size ≤ w'.heap.size := by
  obtain ⟨w1, b1, b2⟩ := h
  have h1 := b1.size
  have h2 := b2.size
  have h3 : (w1.setCell ⟨g, j, none⟩ (.int .i64 v)).heap.size = w1.heap.size := by simp [World.setCell]
  omega
theorem Wrote.below {w w' A : World} {g j B : Nat} {v : Int} (h : Wrote w g j v w') (hA : Below B A w) (hB : B ≤ w.heap.size) (hg : B ≤ g) : Below B A w' := by
  obtain ⟨w1, b1, b2⟩ := h
  exact ((hA.trans (b1.mono hB)).setCell (p := ⟨g, j, none⟩) hg _).trans (b2.mono hB)
theorem tab_set {w : World} (hT : Tab w) {g j : Nat} {z : Int} (hc : w.cell? ⟨g, j, none⟩ = some (.int .i64 z)) (v : Value) : Tab (w.setCell ⟨g, j, none⟩ v) := by
  obtain ⟨gt, hg, _⟩ := tab_lt hT
  have hT2 := hT
  unfold Tab Lib.TabIs at hT2 ⊢
  by_cases hne : g = gt
  · exfalso
    subst hne
    simp only [World.var?, hg, Option.bind_some] at hT2
    simp only [World.cell?] at hc
    cases hh : w.heap[g]? with
    | none => rw [hh] at hc; simp at hc
    | some o =>
      rw [hh] at hT2 hc
      cases o with
      | cells cs t fr =>
        simp only [Option.some.injEq] at hT2
        subst hT2
        simp at hc
      | _ => simp at hT2
  · rw [var?_setCell_other hg hne]
    exact hT2
theorem wrote_mk {w w1 w2 : World} {g j : Nat} {v : Int} (b1 : Below w.heap.size w w1) (b2 : Below (w1.setCell ⟨g, j, none⟩ (.int .i64 v)).heap.size (w1.setCell ⟨g, j, none⟩ (.int .i64 v)) w2) : Wrote w g j v w2 := by
  refine ⟨w1, b1, b2.mono ?_⟩
  have h1 := b1.size
  have h3 : (w1.setCell ⟨g, j, none⟩ (.int .i64 v)).heap.size = w1.heap.size := by simp [World.setCell]
  omega
theorem whl_bad {s : ByteArray} {v : Int} (h : Lib.parseIntB 64 s.data.toList = .ok v) (hw : whl s.data.toList = none) : ((dgB v).toList == s.toList) = false := by
  rw [str_beq, decide_eq_false_iff_not]
  intro e
  rw [whl_parse h (by rw [← e]; rfl)] at hw
  cases hw
set_option maxHeartbeats 1000000 in
theorem read_int_yes (s : ByteArray) (v : Int) (g j : Nat) (z : Int) (w : World) (hs : s.size ≤ 100000) (hE : Lib3 w) (hw : Hid (whl s.data.toList = some v)) (hc : w.cell? ⟨g, j, none⟩ = some (.int .i64 z)) (hf : w.frozen? ⟨g, j, none⟩ = false) :
    Calls Tryd.prog 40 #[.string s, .pointer (some ⟨g, j, none⟩)] w fun e w' => e = .returned (.bool true) ∧ Wrote w g j v w' := by
  have hlt : g < w.heap.size := block_lt_of_cell hc
  have hN := whl_some hw.out
  have hp := parse_itoa hN.2.1 hN.2.2
  rw [hN.1] at hp
  have c := parse_yes s v w hs hp
  have hv0 := hN.2.1
  have hv1 := hN.2.2
  have hb1 : (s.toList == s.toList) = true := by simp
  have HS : Hid (dgB v = s) := hid (by unfold dgB; rw [hN.1]; rfl)
  clear hp hN
  go_enter Tryd.func40, Tryd.ntmps40
  go_wp2_with (go_at_call 59; refine c.mono ?_)
  rintro e w1 ⟨rfl, b1⟩
  have c1 := (b1.cell (p := ⟨g, j, none⟩) hlt).trans hc
  have f1 := (b1.frozen (p := ⟨g, j, none⟩) hlt).trans hf
  have HE := hid (hE.below b1)
  have B1 := hid b1
  have HT : Hid (Tab (w1.setCell ⟨g, j, none⟩ (.int .i64 v))) := hid (tab_set HE.out.1 c1 _)
  clear b1 hc hf c hE
  go_wp2_with (go_at_call 34; refine (dig_int v s _ hv0 hv1 HT.out HS).mono ?_; rintro e w2 ⟨rfl, b2⟩)
  go_ret
  exact ⟨rfl, wrote_mk B1.out b2⟩
set_option maxHeartbeats 1000000 in
theorem read_int_no (s : ByteArray) (g j : Nat) (z : Int) (w : World) (hs : s.size ≤ 100000) (hE : Lib3 w) (hw : Hid (whl s.data.toList = none)) (hc : w.cell? ⟨g, j, none⟩ = some (.int .i64 z)) (hf : w.frozen? ⟨g, j, none⟩ = false) :
    Calls Tryd.prog 40 #[.string s, .pointer (some ⟨g, j, none⟩)] w fun e w' => e = .returned (.bool false) ∧ ∃ v, Wrote w g j v w' := by
  have hlt : g < w.heap.size := block_lt_of_cell hc
  by_cases hv : ∃ v, Lib.parseIntB 64 s.data.toList = .ok v
  · obtain ⟨v, hp⟩ := hv
    have c := parse_yes s v w hs hp
    have hbd := parse_bd hp
    have hv0 := hbd.1
    have hv1 := hbd.2
    obtain ⟨S, hS⟩ : ∃ S, S = dgB v := ⟨_, rfl⟩
    have hb1 : (S.toList == s.toList) = false := by rw [hS]; exact whl_bad hp hw.out
    have HS : Hid (dgB v = S) := hid hS.symm
    clear hp hbd hS
    go_enter Tryd.func40, Tryd.ntmps40
    go_wp2_with (go_at_call 59; refine c.mono ?_)
    rintro e w1 ⟨rfl, b1⟩
    have c1 := (b1.cell (p := ⟨g, j, none⟩) hlt).trans hc
    have f1 := (b1.frozen (p := ⟨g, j, none⟩) hlt).trans hf
    have HE := hid (hE.below b1)
    have B1 := hid b1
    have HT : Hid (Tab (w1.setCell ⟨g, j, none⟩ (.int .i64 v))) := hid (tab_set HE.out.1 c1 _)
    clear b1 hc hf c hE
    go_wp2_with (go_at_call 34; refine (dig_int v S _ hv0 hv1 HT.out HS).mono ?_; rintro e w2 ⟨rfl, b2⟩)
    go_ret
    exact ⟨rfl, _, wrote_mk B1.out b2⟩
  · have c := parse_no s w hs hE (fun v h => hv ⟨v, h⟩)
    clear hv
    go_enter Tryd.func40, Tryd.ntmps40
    go_wp2_with (go_at_call 59; refine c.mono ?_)
    rintro e w1 ⟨v, t, p, rfl, b1⟩
    have c1 := (b1.cell (p := ⟨g, j, none⟩) hlt).trans hc
    have f1 := (b1.frozen (p := ⟨g, j, none⟩) hlt).trans hf
    have B1 := hid b1
    clear b1 hc hf c hE
    go_wp2_with fail
    go_ret
    exact ⟨rfl, _, wrote_mk B1.out (Below.refl _ _)⟩
set_option maxHeartbeats 1000000 in
theorem read_i64_yes (s : ByteArray) (v : Int) (g j : Nat) (z : Int) (w : World) (hs : s.size ≤ 100000) (hE : Lib3 w) (hw : Hid (whl s.data.toList = some v)) (hc : w.cell? ⟨g, j, none⟩ = some (.int .i64 z)) (hf : w.frozen? ⟨g, j, none⟩ = false) :
    Calls Tryd.prog 41 #[.string s, .pointer (some ⟨g, j, none⟩)] w fun e w' => e = .returned (.bool true) ∧ Wrote w g j v w' := by
  have hlt : g < w.heap.size := block_lt_of_cell hc
  have hN := whl_some hw.out
  have hp := parse_itoa hN.2.1 hN.2.2
  rw [hN.1] at hp
  have c := parse_yes s v w hs hp
  have hv0 := hN.2.1
  have hv1 := hN.2.2
  have hb1 : (s.toList == s.toList) = true := by simp
  have HS : Hid (dgB v = s) := hid (by unfold dgB; rw [hN.1]; rfl)
  clear hp hN
  go_enter Tryd.func41, Tryd.ntmps41
  go_wp2_with (go_at_call 59; refine c.mono ?_)
  rintro e w1 ⟨rfl, b1⟩
  have c1 := (b1.cell (p := ⟨g, j, none⟩) hlt).trans hc
  have f1 := (b1.frozen (p := ⟨g, j, none⟩) hlt).trans hf
  have HE := hid (hE.below b1)
  have B1 := hid b1
  have HT : Hid (Tab (w1.setCell ⟨g, j, none⟩ (.int .i64 v))) := hid (tab_set HE.out.1 c1 _)
  clear b1 hc hf c hE
  go_wp2_with (go_at_call 35; refine (dig_i64 v s _ hv0 hv1 HT.out HS).mono ?_; rintro e w2 ⟨rfl, b2⟩)
  go_ret
  exact ⟨rfl, wrote_mk B1.out b2⟩
set_option maxHeartbeats 1000000 in
theorem read_i64_no (s : ByteArray) (g j : Nat) (z : Int) (w : World) (hs : s.size ≤ 100000) (hE : Lib3 w) (hw : Hid (whl s.data.toList = none)) (hc : w.cell? ⟨g, j, none⟩ = some (.int .i64 z)) (hf : w.frozen? ⟨g, j, none⟩ = false) :
    Calls Tryd.prog 41 #[.string s, .pointer (some ⟨g, j, none⟩)] w fun e w' => e = .returned (.bool false) ∧ ∃ v, Wrote w g j v w' := by
  have hlt : g < w.heap.size := block_lt_of_cell hc
  by_cases hv : ∃ v, Lib.parseIntB 64 s.data.toList = .ok v
  · obtain ⟨v, hp⟩ := hv
    have c := parse_yes s v w hs hp
    have hbd := parse_bd hp
    have hv0 := hbd.1
    have hv1 := hbd.2
    obtain ⟨S, hS⟩ : ∃ S, S = dgB v := ⟨_, rfl⟩
    have hb1 : (S.toList == s.toList) = false := by rw [hS]; exact whl_bad hp hw.out
    have HS : Hid (dgB v = S) := hid hS.symm
    clear hp hbd hS
    go_enter Tryd.func41, Tryd.ntmps41
    go_wp2_with (go_at_call 59; refine c.mono ?_)
    rintro e w1 ⟨rfl, b1⟩
    have c1 := (b1.cell (p := ⟨g, j, none⟩) hlt).trans hc
    have f1 := (b1.frozen (p := ⟨g, j, none⟩) hlt).trans hf
    have HE := hid (hE.below b1)
    have B1 := hid b1
    have HT : Hid (Tab (w1.setCell ⟨g, j, none⟩ (.int .i64 v))) := hid (tab_set HE.out.1 c1 _)
    clear b1 hc hf c hE
    go_wp2_with (go_at_call 35; refine (dig_i64 v S _ hv0 hv1 HT.out HS).mono ?_; rintro e w2 ⟨rfl, b2⟩)
    go_ret
    exact ⟨rfl, _, wrote_mk B1.out b2⟩
  · have c := parse_no s w hs hE (fun v h => hv ⟨v, h⟩)
    clear hv
    go_enter Tryd.func41, Tryd.ntmps41
    go_wp2_with (go_at_call 59; refine c.mono ?_)
    rintro e w1 ⟨v, t, p, rfl, b1⟩
    have c1 := (b1.cell (p := ⟨g, j, none⟩) hlt).trans hc
    have f1 := (b1.frozen (p := ⟨g, j, none⟩) hlt).trans hf
    have B1 := hid b1
    clear b1 hc hf c hE
    go_wp2_with fail
    go_ret
    exact ⟨rfl, _, wrote_mk B1.out (Below.refl _ _)⟩
end Go.Proofs.YtfnnckbdaedlbaaDoor
