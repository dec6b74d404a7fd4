/- package shape: ofText, Read; strings.Clone, strings.SplitN at a blank. -/
import Derived.Test.YtngnjlmpmpdnjaaDoorShText
import Derived.Test.YtngnjlmpmpdnjaaDoorShSplit
import Derived.Maps.AppendAt
namespace Go.Proofs.YtngnjlmpmpdnjaaDoor
open Go.RowKit Go.Sh
theorem clone_any (s : ByteArray) (w : World) (h : s.size ≤ 1000000) : Calls Tryd.prog 44 #[.string s] w fun e w' => e = .returned (.string s) ∧ Below w.heap.size w w' := by
  have c := Tryd.stringslite_Clone s w (by omega)
  go_enter Tryd.func44, Tryd.ntmps44
  go_wp2_with (go_at_call 49; refine c.mono ?_; rintro e w1 ⟨rfl, b1⟩)
  go_ret
  exact ⟨rfl, b1⟩
theorem ret_sb {a b : ByteArray} {c d : Bool} (h : a = b) (h2 : c = d) : Ending.returned (.tuple #[.string a, .bool c]) = .returned (.tuple #[.string b, .bool d]) := by rw [h, h2]
def otV (p : ByteArray) : ByteArray := if okT p then vT p else ByteArray.empty
set_option maxHeartbeats 2000000 in
theorem ofText_any (p : ByteArray) (w : World) (hp : p.size ≤ 1000000) :
    Calls Tryd.prog 39 #[.string p] w fun e w' => e = .returned (.tuple #[.string (otV p), .bool (okT p)]) ∧ Below w.heap.size w w' := by
  by_cases h45 : p.data.toList = [45]
  · have hb : (p.toList == [45]) = true := by rw [toL, h45]; rfl
    have e1 : okT p = true := by simp [okT, h45]
    have e2 : otV p = ByteArray.empty := by simp [otV, e1, vT, h45]
    rw [e1, e2]
    clear e1 e2 h45
    go_enter Tryd.func39, Tryd.ntmps39
    go_wp2
    go_ret2
    exact ⟨rfl, Below.refl _ _⟩
  · have hb : (p.toList == [45]) = false := by rw [toL, beq_eq_false_iff_ne]; exact h45
    by_cases h0 : p.size = 0
    · obtain rfl := empty_of_size h0
      go_enter Tryd.func39, Tryd.ntmps39
      go_wp2
      go_ret2
      exact ⟨rfl, Below.refl _ _⟩
    · have he := isEmpty_no h0
      have c := may_any p w
      by_cases h1 : one p = true
      · have e1 : okT p = true := by simp [okT, h1, show 1 ≤ p.size by omega]
        have e2 : otV p = p := by simp [otV, e1, vT, h45]
        rw [e1, e2]
        rw [h1] at c
        clear e1 e2 h45 h0 h1
        go_enter Tryd.func39, Tryd.ntmps39
        go_wp2_with (first | (go_at_call 31; refine c.mono ?_; rintro e w1 ⟨rfl, b1⟩) | (go_at_call 44; refine (clone_any _ _ hp).mono ?_; rintro e w2 ⟨rfl, b2⟩))
        go_ret2
        exact ⟨rfl, b1.trans (b2.mono b1.size)⟩
      · have h1' : one p = false := by simpa using h1
        have e1 : okT p = false := by simp [okT, h1', h45]
        have e2 : otV p = ByteArray.empty := by simp [otV, e1]
        rw [e1, e2]
        rw [h1'] at c
        clear e1 e2 h45 h0 h1 h1'
        go_enter Tryd.func39, Tryd.ntmps39
        go_wp2_with (go_at_call 31; refine c.mono ?_; rintro e w1 ⟨rfl, b1⟩)
        go_ret2
        exact ⟨rfl, b1⟩
theorem one_byte_index (x : ByteArray) : (Lib.indexByte x.data.toList 32 : Int) = Lib.indexB x ⟨#[32]⟩ := by
  show _ = Lib.index x.data.toList [32]
  exact (Lib.index_one x.data.toList 32).symm
theorem split_any (s : ByteArray) (w : World) (hs : s.size ≤ 1000000) :
    Calls Tryd.prog 38 #[.string s, .string ⟨#[32]⟩, .int .i64 17] w fun e w' =>
      e = .returned (.slice (some ⟨w.heap.size, 0, none⟩) (parts s).length (min 17 (s.size + 1))) ∧ w' = w.alloc (.cells (Lib.cellsOf (parts s) (min 17 (s.size + 1))) 9) := by
  have c := Any.strings_genSplit_core Tryd.lays221 (by kernel_rfl) s ⟨#[32]⟩ 0 17 (min 17 (s.size + 1)) w (by omega) (by decide) (by omega)
    (fun x c hx => by
      refine (Tryd.strings_Index_one x 32 _).mono ?_
      rintro e w' ⟨rfl, rfl⟩
      exact ⟨by rw [one_byte_index], rfl⟩)
    (by
      refine (Tryd.strings_Count_one s 32 w).mono ?_
      rintro e w' ⟨rfl, rfl⟩
      exact ⟨by rw [show Lib.countB s ⟨#[32]⟩ = Lib.count s.data.toList [32] from rfl, Lib.count_one]; rfl, rfl⟩)
    (by decide) (by decide) (by rw [if_neg (by decide)]; omega)
  go_enter Tryd.func38, Tryd.ntmps38
  go_wp2_with (go_at_call 43; refine c.mono ?_; rintro e w1 ⟨rfl, rfl⟩)
  go_ret
  exact ⟨rfl, rfl⟩
theorem parts_cell (w : World) (P : List ByteArray) (N : Nat) (t : TypeId) (k : Nat) (hk : k < P.length) : (w.alloc (.cells (Lib.cellsOf P N) t)).cell? ⟨w.heap.size, k, none⟩ = some (.string (at' P k)) := by
  refine cell_last w _ t k _ ?_
  unfold Lib.cellsOf
  rw [List.getElem?_toArray, List.getElem?_append_left (by simpa using hk), List.getElem?_map, List.getElem?_eq_getElem hk, at', List.getD_eq_getElem?_getD, List.getElem?_eq_getElem hk]
  rfl
theorem own_below {w w' : World} {base : Nat} {e : TypeId} {size : Nat} {v : Value} {n : Nat} {xs : List Value} (h : w.ownsRow base e size v n xs) (b : Below w.heap.size w w') : w'.ownsRow base e size v n xs := by
  obtain ⟨h1, h2⟩ := h
  refine ⟨h1, ?_⟩
  rcases h2 with h2 | ⟨g, cap, cur, hv, hb, hg, r⟩
  · exact .inl h2
  · exact .inr ⟨g, cap, cur, hv, hb, (b.block g (Array.getElem?_eq_some_iff.1 hg).1).trans hg, r⟩
theorem own_tab {w : World} {base : Nat} {e : TypeId} {v : Value} {ss : List ByteArray} (h : w.ownsRow base e 1 v ss.length (ss.map Value.string)) : IsTab w v ss := by
  rcases h.2 with ⟨rfl, h0⟩ | ⟨g, cap, cur, rfl, _, hg, _, _, _, ht⟩
  · exact .inl ⟨List.eq_nil_of_length_eq_zero h0, _, _, rfl⟩
  · refine .inr ⟨g, 0, cap, rfl, fun i hi => ?_⟩
    rw [Nat.zero_add]
    refine at_row hg i ?_
    have : (cur.toList.take (ss.length * 1))[i]? = some (.string (at' ss i)) := by
      rw [ht, List.getElem?_map, List.getElem?_eq_getElem hi, at', List.getD_eq_getElem?_getD, List.getElem?_eq_getElem hi]
      rfl
    rw [List.getElem?_take, if_pos (by omega)] at this
    rw [← Array.getElem?_toList]
    exact this
theorem ret_ve {v : Value} {a b : Int} (h : a = b) : Ending.returned (.tuple #[v, .int .i64 a]) = .returned (.tuple #[v, .int .i64 b]) := by rw [h]
theorem shape_info : (Tryd.prog.info? 42).map (fun i => (i.zero, i.size, i.bytes)) = some (some (.string ByteArray.empty), 1, 16) := by kernel_rfl
theorem rdOk_many {s : ByteArray} (h : 16 < (parts s).length) : rdOk s = false := by
  have := parts_many h
  simp only [rdOk, Bool.and_eq_false_iff, decide_eq_false_iff_not]
  left; omega
set_option maxHeartbeats 2000000 in
theorem Read_many (s : ByteArray) (w : World) (hs : s.size ≤ 1000000) (h : 16 < (parts s).length) :
    Calls Tryd.prog 25 #[.string s] w fun e w' => e = .returned (.tuple #[.slice none 0 0, .int .i64 2]) ∧ Below w.heap.size w w' := by
  have h' : (16 : Int) < ((parts s).length : Int) := by omega
  have c := split_any s w hs
  clear h
  generalize (parts s).length = len at *
  generalize min 17 (s.size + 1) = N at *
  generalize Lib.cellsOf (parts s) N = cs at *
  go_enter Tryd.func25, Tryd.ntmps25
  go_wp2
  refine wp_scope_once 0 rfl ?_
  go_wp2_with (go_at_call 38; refine c.mono ?_; rintro e w1 ⟨rfl, rfl⟩)
  go_step3
  refine ⟨rfl, ?_⟩
  go_wp2
  rw [Exit.noGoto_ret]
  go_ret2
  exact ⟨rfl, below_alloc0 _ _⟩
set_option maxRecDepth 100000 in
set_option maxHeartbeats 4000000 in
theorem Read_few (s : ByteArray) (w : World) (hs : s.size ≤ 1000000) (h : (parts s).length ≤ 16) :
    Calls Tryd.prog 25 #[.string s] w fun e w' => ∃ v, e = .returned (.tuple #[v, .int .i64 (er (rdOk s))]) ∧ IsTab w' v (rdT s) ∧ Below w.heap.size w w' := by
  obtain ⟨i0, hi, hz0, hz1, hz2⟩ := info_parts shape_info
  have h' : ((parts s).length : Int) ≤ 16 := by omega
  have c := split_any s w hs
  have HP := hid (parts_few h)
  have HZ : Hid (∀ k, k < (parts s).length → (at' (parts s) k).size ≤ 1000000) := hid (fun k hk => by
    have := spB_size s (at' (parts s) k) (by rw [parts_few h] at hk ⊢; exact at_mem hk)
    omega)
  have HC := hid (fun k hk => parts_cell w (parts s) (min 17 (s.size + 1)) 9 k hk)
  obtain ⟨len, hlen⟩ : ∃ len, len = (parts s).length := ⟨_, rfl⟩
  have HL := hid hlen
  rw [← hlen] at h h' c HZ HC
  clear hlen
  generalize Lib.cellsOf (parts s) (min 17 (s.size + 1)) = cs at *
  generalize parts s = P at *
  generalize min 17 (s.size + 1) = N at *
  go_enter Tryd.func25, Tryd.ntmps25
  go_wp2
  refine wp_scope_once 0 rfl ?_
  go_wp2_with (go_at_call 38; refine c.mono ?_; rintro e w1 ⟨rfl, rfl⟩)
  have hbase : (w.alloc (.cells cs 9)).heap.size = w.heap.size + 1 := size_alloc _ _
  generalize hW : w.alloc (.cells cs 9) = W at *
  have HB0 : Hid (Below w.heap.size w W) := hid (hW ▸ below_alloc0 _ _)
  clear hW c
  have Hbase := hid hbase
  clear hbase
  go_loopw [4, 17] (fun v i wr => ∃ k : Nat, k ≤ len ∧ i = .int .i64 k ∧ wr.ownsRow (w.heap.size + 1) 42 1 v k (((P.take k).map vT).map Value.string) ∧ Below (w.heap.size + 1) W wr ∧ Hid (∀ j, j < k → okT (at' P j) = true)) (fun _ i _ => len - (intOf i).toNat)
  case atStart => exact ⟨0, by omega, rfl, ⟨by simp, .inl ⟨rfl, rfl⟩⟩, Below.refl _ _, hid (fun j hj => by omega)⟩
  case round =>
    obtain ⟨k, hk, rfl, hown, ar, hall⟩ := hrel
    have hsz : w.heap.size + 1 ≤ wr.heap.size := by have := ar.size; have := Hbase.out; omega
    by_cases hlt : k < len
    · have hcr : wr.cell? ⟨w.heap.size, k, none⟩ = some (.string (at' P k)) := (ar.cell (p := ⟨w.heap.size, k, none⟩) (by show w.heap.size < w.heap.size + 1; omega)).trans (HC.out k hlt)
      have hpz := HZ.out k hlt
      obtain ⟨x, hx⟩ : ∃ x, x = at' P k := ⟨_, rfl⟩
      rw [← hx] at hcr hpz
      have HX := hid hx
      clear hx
      have co := ofText_any x wr hpz
      clear hpz
      by_cases ho : okT x = true
      · have eo : otV x = vT x := by simp [otV, ho]
        rw [ho, eo] at co
        have HO := hid ho
        clear ho eo
        generalize hvx : vT x = y at *
        have HY := hid hvx
        clear hvx
        go_wp2_with (first | (go_at_call 39; refine co.mono ?_; rintro e w2 ⟨rfl, b2⟩; have own2 := own_below hown b2; have hz2' : w.heap.size + 1 ≤ w2.heap.size := Nat.le_trans hsz b2.size) | (at_builtin; refine wpList_append_own _ rfl _ _ 22 rfl (w.heap.size + 1) 42 i0 (.string ByteArray.empty) 1 16 Tryd.underlying22 hi hz0 hz1 hz2 rfl (by decide) _ _ _ rfl (own2.alloc _) ⟨w2.heap.size, 0, none⟩ 1 1 [.string y] rfl rfl (cell_one_new _ _ _) (fun u hu => by simp at hu; subst hu; rfl) (by unfold maxLen; omega) (by omega) (by simp; omega) ?_; intro v' w3 own3 hgrow _))
        have bl2 : Below (w.heap.size + 1) W (w2.alloc (.cells #[.string y] 42)) := (ar.trans (b2.mono hsz)).alloc (by omega) _
        refine ⟨⟨k + 1, by omega, by simp, ?_, bl2.grown hgrow (by simp; omega) (fun j hj => (own2.lt j hj).1), hid (fun j hj => ?_)⟩, by simp [intOf]; omega⟩
        · rw [take_succ_at (by rw [← HL.out]; exact hlt), List.map_append, List.map_append, ← HX.out]
          simp only [List.map_cons, List.map_nil, HY.out]
          exact own3
        · by_cases hj2 : j < k
          · exact hall.out j hj2
          · obtain rfl : j = k := by omega
            rw [← HX.out]; exact HO.out
      · have ho' : okT x = false := by simpa using ho
        have eo : otV x = ByteArray.empty := by simp [otV, ho']
        rw [ho', eo] at co
        have HN : Hid (rdOk s = false) := hid (by
          simp only [rdOk, Bool.and_eq_false_iff]
          right
          rw [List.all_eq_false]
          exact ⟨x, by rw [HX.out, ← HP.out]; exact at_mem (by rw [← HL.out]; exact hlt), by simp [ho']⟩)
        clear ho' ho eo
        go_wp2_with (go_at_call 39; refine co.mono ?_; rintro e w2 ⟨rfl, b2⟩)
        go_step3
        refine ⟨rfl, ?_⟩
        go_wp2
        rw [Exit.noGoto_ret]
        go_ret2
        refine ⟨_, ret_ve (by rw [HN.out]; rfl), ?_, ?_⟩
        · rw [rdT, HN.out]
          exact .inl ⟨rfl, _, _, rfl⟩
        · exact (HB0.out.trans (ar.mono (by omega))).trans (b2.mono (by omega))
    · obtain rfl : k = len := by omega
      have HN : Hid (rdOk s = true) := hid (by
        simp only [rdOk, Bool.and_eq_true, decide_eq_true_eq, List.all_eq_true]
        refine ⟨by rw [← HP.out, ← HL.out]; exact h, fun p hp => ?_⟩
        rw [← HP.out] at hp
        obtain ⟨i, hi, rfl⟩ := List.mem_iff_getElem.1 hp
        have := hall.out i (by rw [HL.out]; exact hi)
        rwa [at', List.getD_eq_getElem?_getD, List.getElem?_eq_getElem hi] at this)
      have own' : wr.ownsRow (w.heap.size + 1) 42 1 u4 (rdV s).length ((rdV s).map Value.string) := by
        have e1 : P.take k = P := by rw [HL.out, List.take_length]
        have e2 : (rdV s).length = k := by rw [rdV, List.length_map, ← HP.out, HL.out]
        rw [e2, rdV, ← HP.out]
        rwa [e1] at hown
      go_wp2
      rw [jump_ret]
      go_ret2
      refine ⟨_, ret_ve (by rw [HN.out]; rfl), ?_, HB0.out.trans (ar.mono (by omega))⟩
      rw [rdT, if_pos HN.out]
      exact own_tab own'
theorem Read_any (s : ByteArray) (w : World) (hs : s.size ≤ 1000000) :
    Calls Tryd.prog 25 #[.string s] w fun e w' => ∃ v, e = .returned (.tuple #[v, .int .i64 (er (rdOk s))]) ∧ IsTab w' v (rdT s) ∧ Below w.heap.size w w' := by
  by_cases h : (parts s).length ≤ 16
  · exact Read_few s w hs h
  · have hr := rdOk_many (s := s) (by omega)
    refine (Read_many s w hs (by omega)).mono ?_
    rintro e w' ⟨rfl, b⟩
    refine ⟨_, ret_ve (by rw [hr]; rfl), ?_, b⟩
    rw [rdT, hr]
    exact .inl ⟨rfl, _, _, rfl⟩
end Go.Proofs.YtngnjlmpmpdnjaaDoor
