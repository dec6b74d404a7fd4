/- package op: Read, where a text's first word is no kind's name, or there are too few words, or too many. -/
import Derived.Test.YtfnnckbdaedlbaaDoorOpFirst
namespace Go.Oq
open Go.Sh
theorem take6_len (s : ByteArray) : ((spB s).take 6).length = min 6 (spB s).length := List.length_take
theorem spB_pos (s : ByteArray) : 0 < (spB s).length := by rw [ct_sp]; simp
end Go.Oq
namespace Go.Proofs.YtfnnckbdaedlbaaDoor
open Go.RowKit Go.Oq Go.Sh Go.Shelf
abbrev zro : Nat → Int := fun _ => 0
theorem spB_at (s : ByteArray) (hs : s.size ≤ 100000) (i : Nat) : (at' (spB s) i).size ≤ 100000 := by
  by_cases hi : i < (spB s).length
  · have := spB_size s _ (at_mem hi)
    omega
  · have : at' (spB s) i = ByteArray.empty := by
      rw [at', List.getD_eq_getElem?_getD, List.getElem?_eq_none (by omega)]; rfl
    rw [this]
    have : (ByteArray.empty).size = 0 := rfl
    omega
/-- What Read has behind its first statements. -/
structure RdS (w : World) (k : Int) (W : World) : Prop where
  bel : Below w.heap.size w W
  out : W.heap[w.heap.size]? = some (.cells (row zro) 31)
  op : W.heap[w.heap.size + 1]? = some (.cells (row (bar k)) 77)
  knd : W.heap[w.heap.size + 1 + 1]? = some (.cells kz 63)
theorem rds_set {w w2 : World} (k : Int) (b : Below w.heap.size w w2) (h0 : w2.heap[w.heap.size]? = some (.cells (row zro) 31)) (h1 : w2.heap[w.heap.size + 1]? = some (.cells (row zro) 77))
    (h2 : w2.heap[w.heap.size + 1 + 1]? = some (.cells kz 63)) : RdS w k (w2.setCell ⟨w.heap.size + 1, 0, none⟩ (.int .i64 k)) := by
  refine ⟨b.setCell (p := ⟨w.heap.size + 1, 0, none⟩) (by show w.heap.size ≤ w.heap.size + 1; omega) _, (heap_setCell_other _ _ _ _ (by show w.heap.size ≠ w.heap.size + 1; omega)).trans h0, ?_, (heap_setCell_other _ _ _ _ (by show w.heap.size + 1 + 1 ≠ w.heap.size + 1; omega)).trans h2⟩
  have := row_set h1 (j := 0) (by omega) k
  rw [this]
  congr 3
theorem RdS.below {w W W' : World} {k : Int} (h : RdS w k W) (b : Below W.heap.size W W') : RdS w k W' := by
  exact ⟨h.bel.trans (b.mono h.bel.size), (b.block _ (Array.getElem?_eq_some_iff.1 h.out).1).trans h.out, (b.block _ (Array.getElem?_eq_some_iff.1 h.op).1).trans h.op, (b.block _ (Array.getElem?_eq_some_iff.1 h.knd).1).trans h.knd⟩
set_option maxRecDepth 100000 in
set_option maxHeartbeats 4000000 in
theorem Read_name (s : ByteArray) (w : World) (hs : s.size ≤ 100000) (hk : knd (at' (spB s) 0) = 0) :
    Calls Tryd.prog 17 #[.string s] w fun e w' => e = .returned (.tuple #[opV zro, .int .i64 186]) ∧ Below w.heap.size w w' := by
  have HK := hid hk
  have hn0 : 0 < ((spB s).take 6).length := by rw [take6_len]; have := spB_pos s; omega
  have cn := named_any (at' (spB s) 0)
  rw [hk] at cn
  have cF := firstWords_at s
  have HC := hid cF
  clear hk cF
  generalize ((spB s).take 6).length = n6 at *
  have hn6 : (0 : Int) < n6 := by omega
  go_enter Tryd.func17, Tryd.ntmps17
  go_wp2
  refine wp_scope_once 0 rfl ?_
  go_wp2_with (go_at_call 38; refine (HC.out _ hs).mono ?_)
  rintro e w1 ⟨g, cap, rfl, hcap, hgW, hcell, b1⟩
  have HGW := hid hgW
  clear hgW
  have B1 := hid (bel3 b1)
  have r0 := hid (row3a b1)
  have r1 := hid (row3b b1)
  have r2 := hid (row3c b1)
  have c0 := hcell 0 hn0
  clear b1 hcell
  go_wp2_with (go_at_call 39; refine (cn _).mono ?_)
  rintro e w2 ⟨rfl, b2⟩
  have B2 := hid (B1.out.trans (b2.mono B1.out.size))
  have r0 := hid ((b2.block _ (Array.getElem?_eq_some_iff.1 r0.out).1).trans r0.out)
  have r1 := hid ((b2.block _ (Array.getElem?_eq_some_iff.1 r1.out).1).trans r1.out)
  have r2 := hid ((b2.block _ (Array.getElem?_eq_some_iff.1 r2.out).1).trans r2.out)
  have cT := at_row r1.out 0 rfl
  have fT := fz_row r1.out 0
  have HS := hid (rds_set 0 B2.out r0.out r1.out r2.out)
  clear b2 r0 r1 r2 B1 B2 c0 cn
  go_wp2_with (go_at_call 24; refine (find_no _ _ rfl).mono ?_)
  rintro e w3 ⟨rfl, b3⟩
  have HS3 := hid (HS.out.below b3)
  have HR := hid HS3.out.knd
  clear b3 HS
  go_wp2_with (refine wpList_store_row rfl 63 _ _ rfl (w.heap.size + 1 + 1) kz rfl rfl 63 kz HR.out (k_size.trans rfl) rfl kz_one ?_)
  have HOut := hid ((setRow_other w3 (w.heap.size + 1 + 1) w.heap.size kz (by omega)).trans HS3.out.out)
  have HBel := hid (below_setRow HS3.out.bel (show w.heap.size ≤ w.heap.size + 1 + 1 by omega) kz)
  go_step3
  refine ⟨rfl, ?_⟩
  go_wp2_with (refine wpList_store_row rfl 31 _ _ rfl w.heap.size (row zro) rfl rfl 31 _ HOut.out (op_size zro) rfl (row_one zro) ?_)
  rw [Exit.noGoto_ret]
  exact bodyPost_ret (v := .tuple #[.agg (row zro), .int .i64 186]) (results_row_slot Tryd.results17 _ _ w.heap.size 31 (row zro) (0, 0) _ rfl rfl (setRow_heap _ _ _ _ _ _ HOut.out) Tryd.underlying31 (op_size zro)) rfl ⟨rfl, below_setRow HBel.out (Nat.le_refl _) _⟩
set_option maxRecDepth 100000 in
set_option maxHeartbeats 4000000 in
theorem Read_len (K : Nat) (s : ByteArray) (w : World) (hs : s.size ≤ 100000) (k1 : 1 ≤ K) (k2 : K ≤ 11) (hk : knd (at' (spB s) 0) = K) (hl : (spB s).length ≠ 1 + (alln K).length) :
    Calls Tryd.prog 17 #[.string s] w fun e w' => e = .returned (.tuple #[opV zro, .int .i64 186]) ∧ Below w.heap.size w w' := by
  have HK := hid hk
  have hn0 : 0 < ((spB s).take 6).length := by rw [take6_len]; have := spB_pos s; omega
  have HNE : Hid (((spB s).take 6).length ≠ 1 + (nums K).length + (scas K).length) := hid (by
    have := alln_len K
    rw [alln, List.length_append] at this hl
    rw [take6_len]; omega)
  have cn := named_any (at' (spB s) 0)
  rw [hk] at cn
  have cF := firstWords_at s
  have HC := hid cF
  have HFD := hid (fun W => find_yes K W k1 k2)
  have hn1 := nums_len K
  have hn2 := scas_len K
  have h6 : ((spB s).take 6).length ≤ 6 := by rw [take6_len]; omega
  clear hk cF hl k1 k2
  generalize ((spB s).take 6).length = n6 at *
  have hn6 : (0 : Int) < n6 := by omega
  go_enter Tryd.func17, Tryd.ntmps17
  go_wp2
  refine wp_scope_once 0 rfl ?_
  go_wp2_with (go_at_call 38; refine (HC.out _ hs).mono ?_)
  rintro e w1 ⟨g, cap, rfl, hcap, hgW, hcell, b1⟩
  have HGW := hid hgW
  clear hgW
  have B1 := hid (bel3 b1)
  have r0 := hid (row3a b1)
  have r1 := hid (row3b b1)
  have r2 := hid (row3c b1)
  have c0 := hcell 0 hn0
  clear b1 hcell
  go_wp2_with (go_at_call 39; refine (cn _).mono ?_)
  rintro e w2 ⟨rfl, b2⟩
  have B2 := hid (B1.out.trans (b2.mono B1.out.size))
  have r0 := hid ((b2.block _ (Array.getElem?_eq_some_iff.1 r0.out).1).trans r0.out)
  have r1 := hid ((b2.block _ (Array.getElem?_eq_some_iff.1 r1.out).1).trans r1.out)
  have r2 := hid ((b2.block _ (Array.getElem?_eq_some_iff.1 r2.out).1).trans r2.out)
  have cT := at_row r1.out 0 rfl
  have fT := fz_row r1.out 0
  have HS := hid (rds_set K B2.out r0.out r1.out r2.out)
  clear b2 r0 r1 r2 B1 B2 c0 cn
  go_wp2_with (go_at_call 24; refine (HFD.out _).mono ?_)
  rintro e w3 ⟨v1, v2, rfl, i1, i2, b3⟩
  have HS3 := hid (HS.out.below b3)
  have ho := kcell_one i1 i2 K
  obtain ⟨a1, rfl, _⟩ := i1.slice
  obtain ⟨a2, rfl, _⟩ := i2.slice
  generalize (nums K).length = n1 at *
  generalize (scas K).length = n2 at *
  have HR := hid HS3.out.knd
  have hR2 := hid (setRow_heap w3 (w.heap.size + 1 + 1) kz (kcell (.slice a1 n1 n1) (.slice a2 n2 n2) K) _ (0, 0) HR.out)
  have d1 := at_row hR2.out 1 (v := .slice a1 n1 n1) rfl
  have d2 := at_row hR2.out 2 (v := .slice a2 n2 n2) rfl
  have hne : ((n6 : Int) != 1 + (n1 : Int) + (n2 : Int)) = true := by
    have := HNE.out
    rw [bne_iff_ne]; omega
  clear b3 HS i1 i2
  go_wp2_with (refine wpList_store_row rfl 63 _ _ rfl (w.heap.size + 1 + 1) (kcell (.slice a1 n1 n1) (.slice a2 n2 n2) K) rfl rfl 63 kz HR.out (kcell_size _ _ _) rfl ho ?_)
  have HOut := hid ((setRow_other w3 (w.heap.size + 1 + 1) w.heap.size (kcell (.slice a1 n1 n1) (.slice a2 n2 n2) K) (by omega)).trans HS3.out.out)
  have HBel := hid (below_setRow HS3.out.bel (show w.heap.size ≤ w.heap.size + 1 + 1 by omega) (kcell (.slice a1 n1 n1) (.slice a2 n2 n2) K))
  go_step3
  refine ⟨rfl, ?_⟩
  go_wp2_with (refine wpList_store_row rfl 31 _ _ rfl w.heap.size (row zro) rfl rfl 31 _ HOut.out (op_size zro) rfl (row_one zro) ?_)
  rw [Exit.noGoto_ret]
  exact bodyPost_ret (v := .tuple #[.agg (row zro), .int .i64 186]) (results_row_slot Tryd.results17 _ _ w.heap.size 31 (row zro) (0, 0) _ rfl rfl (setRow_heap _ _ _ _ _ _ HOut.out) Tryd.underlying31 (op_size zro)) rfl ⟨rfl, below_setRow HBel.out (Nat.le_refl _) _⟩
end Go.Proofs.YtfnnckbdaedlbaaDoor
