/- The document's texts (lapidaryref01's digits, Number, Text). -/
import Derived.Test.YtlbhkaokpfljmaaDoorWdTextF
import Derived.Test.YtlbhkaokpfljmaaDoorWdSeals
import Derived.Laws.BytesArg
namespace Go.Proofs.YtlbhkaokpfljmaaDoor
open Go.RowKit
theorem conv_one (wr : World) (v : Int) : (convert 74 9 (.slice (some ⟨wr.heap.size, 0, none⟩) 1 1)).run Tryd.prog (wr.alloc (.cells #[.int .u8 v] 5)) = .ok (.string (strOfNums [v])) (wr.alloc (.cells #[.int .u8 v] 5)) :=
  run_convert_bytes_arg (wr.alloc (.cells #[.int .u8 v] 5)) 74 5 Tryd.underlying74 Tryd.underlying5 wr.heap.size 0 1 1 [v] rfl (fun i hi => by
    obtain rfl : i = 0 := by omega
    exact (cell_of_row _ _ 0 _ _ _ (heap_alloc_last wr _))) 9 Tryd.underlying9
theorem decDigits_small (u : Nat) (h : u < 10) : Lib.decDigits u = [UInt8.ofNat (48 + u)] := by rw [Lib.decDigits, dif_pos h]
theorem decDigits_big (u : Nat) (h : ¬ u < 10) : Lib.decDigits u = Lib.decDigits (u / 10) ++ [UInt8.ofNat (48 + u % 10)] := by rw [Lib.decDigits, dif_neg h]
theorem decDigits_len : ∀ (d u : Nat), u < 10 ^ (d + 1) → (Lib.decDigits u).length ≤ d + 1
  | 0, u, h => by rw [decDigits_small u (by omega)]; simp
  | d + 1, u, h => by
    by_cases hu : u < 10
    · rw [decDigits_small u hu]; simp
    · rw [decDigits_big u hu]
      have := decDigits_len d (u / 10) (by rw [Nat.pow_succ] at h; omega)
      simp; omega
theorem decDigits_len20 (u : Nat) (h : u ≤ 18446744073709551615) : (Lib.decDigits u).length ≤ 20 := decDigits_len 19 u (by omega)
theorem str_one (k : Nat) (S : ByteArray) : (strOfNums [(48 : Int) + (k : Int) % 10] ++ S).toList = UInt8.ofNat (48 + k % 10) :: S.toList := by
  have e : ((48 : Int) + (k : Int) % 10).toNat = 48 + k % 10 := by omega
  rw [Wd.toL, Wd.toL, ByteArray.data_append, Array.toList_append, strOfNums_data, List.map_cons, List.map_nil, e]
  rfl
theorem str_of_list {S : ByteArray} {l : List UInt8} (h : S.toList = l) : S = ⟨l.toArray⟩ := by
  subst h
  rw [Wd.toL]
set_option maxHeartbeats 4000000 in
theorem rdigits_any (n : Int) (w : World) (h0 : 0 ≤ n) (h1 : n ≤ 18446744073709551615) :
    Calls Tryd.prog 56 #[.int .u64 n] w fun e w' => e = .returned (.string ⟨(Lib.decDigits n.toNat).toArray⟩) ∧ Below w.heap.size w w' := by
  have HL := hid (decDigits_len20 n.toNat (by omega))
  go_enter Tryd.func56, Tryd.ntmps56
  go_wp2
  go_loopw [0, 3] (fun m t wr => ∃ (k : Nat) (S : ByteArray), m = .int .u64 k ∧ (k : Int) ≤ 18446744073709551615 ∧ t = .string S ∧ Lib.decDigits n.toNat = Lib.decDigits k ++ S.toList ∧ Below w.heap.size w wr) (fun m _ _ => (intOf m).toNat)
  case atStart => exact ⟨n.toNat, ByteArray.empty, by rw [Int.toNat_of_nonneg h0], by omega, rfl, by rw [Wd.toL]; simp, Below.refl _ _⟩
  case round =>
    obtain ⟨k, S, rfl, hk, rfl, hd, hb⟩ := hrel
    have hS : S.size ≤ 20 := by
      have e := congrArg List.length hd
      rw [List.length_append, Wd.toL_length] at e
      have := HL.out
      omega
    have HD := hid hd; clear hd
    have hcv := conv_one
    have hsz := strOfNums_size [(48 : Int) + (k : Int) % 10]
    have hsum : (strOfNums [(48 : Int) + (k : Int) % 10]).size + S.size ≤ 9223372036854775807 := by rw [hsz]; simp; omega
    have z := hb.size
    clear hsz
    by_cases hz : k < 10
    · have ht : ((k : Int) / 10 == 0) = true := by simp; omega
      have HR : Hid ((strOfNums [(48 : Int) + (k : Int) % 10] ++ S) = ⟨(Lib.decDigits n.toNat).toArray⟩) := by
        refine str_of_list ?_
        rw [str_one, HD.out, decDigits_small k hz, Nat.mod_eq_of_lt hz]
        rfl
      go_wp2
      go_ret
      exact ⟨ret_str HR.out, hb.alloc z _⟩
    · have ht : ((k : Int) / 10 == 0) = false := by rw [beq_eq_false_iff_ne]; omega
      have HR : Hid (Lib.decDigits n.toNat = Lib.decDigits (k / 10) ++ (strOfNums [(48 : Int) + (k : Int) % 10] ++ S).toList) := by
        show _ = _
        rw [str_one, HD.out, decDigits_big k hz]
        simp
      go_wp2
      refine ⟨⟨k / 10, _, ?_, by omega, rfl, HR.out, hb.alloc z _⟩, ?_⟩
      · rw [Int.natCast_ediv]; rfl
      · simp [intOf]; omega
set_option maxHeartbeats 4000000 in
theorem rnumberT_any (v : Int) (S : ByteArray) (w : World) (h0 : -9223372036854775808 ≤ v) (h1 : v ≤ 9223372036854775807) (hS : Hid ((⟨(Lib.itoa v).toArray⟩ : ByteArray) = S)) :
    Calls Tryd.prog 39 #[.int .i64 v] w fun e w' => e = .returned (.string S) ∧ Below w.heap.size w w' := by
  by_cases hv : v < 0
  · have hl := decDigits_len20 (-v).toNat (by omega)
    have HT : Hid (({ data := #[45] } : ByteArray) ++ (⟨(Lib.decDigits (-v).toNat).toArray⟩ : ByteArray) = S) := by
      refine Eq.trans (bytes_append [45] _) (Eq.trans ?_ hS.out)
      unfold Lib.itoa
      rw [if_pos hv, show v.natAbs = (-v).toNat by omega]
      rfl
    generalize hs : (⟨(Lib.decDigits (-v).toNat).toArray⟩ : ByteArray) = T at HT
    have hsz : T.size ≤ 20 := by rw [← hs]; exact hl
    have hg : ∀ u, Calls Tryd.prog 56 #[.int .u64 (-(v + 1) + 1)] u fun e w' => e = .returned (.string T) ∧ Below u.heap.size u w' := by
      intro u
      rw [show -(v + 1) + 1 = -v by omega, ← hs]
      exact rdigits_any (-v) u (by omega) (by omega)
    have HG := hid hg
    clear hg hs
    go_enter Tryd.func39, Tryd.ntmps39
    go_wp2_with (go_at_call 56; refine (HG.out _).mono ?_)
    rintro e w1 ⟨rfl, hb⟩
    go_wp2
    go_ret
    exact ⟨ret_str HT.out, hb⟩
  · have hv' : 0 ≤ v := by omega
    have HT : Hid ((⟨(Lib.decDigits v.toNat).toArray⟩ : ByteArray) = S) := by
      refine Eq.trans ?_ hS.out
      unfold Lib.itoa
      rw [if_neg hv]
    clear hv
    go_enter Tryd.func39, Tryd.ntmps39
    go_wp2_with (go_at_call 56; refine (rdigits_any v _ hv' (by omega)).mono ?_)
    rintro e w1 ⟨rfl, hb⟩
    go_wp2
    go_ret
    exact ⟨ret_str HT.out, hb⟩
/-- A word's text (P1.3). -/
def tx (x : Int) : List UInt8 := txS (Wd.ofS x) (Wd.ofK x).toNat (Wd.ofV x)
theorem text_fn (x : Int) (w : World) (h0 : 0 ≤ x) (h1 : x ≤ 18446744073709551615) (hf : Fit (Wd.ofV x) w) :
    Calls Tryd.prog 26 #[.int .u64 x] w fun e w' => e = .returned (.string ⟨(tx x).toArray⟩) ∧ Below w.heap.size w w' := by
  refine (text_any x w h0 h1 (fun k v h => by rw [← (Wd.is_fun h0 h).2.1]; exact hf)).mono ?_
  rintro e w' ⟨k, v, rfl, hIs, hb⟩
  obtain ⟨e1, e2, e3⟩ := Wd.is_fun h0 hIs
  refine ⟨ret_str ?_, hb⟩
  unfold tx
  rw [e1, e2, e3]
  rfl
theorem ofV_bd (x : Int) (h0 : 0 ≤ x) : -9223372036854775808 ≤ Wd.ofV x ∧ Wd.ofV x ≤ 9223372036854775807 := by
  obtain ⟨k, v, h⟩ := Wd.has_is x h0
  rw [(Wd.is_fun h0 h).2.1]
  exact is_bd h
set_option maxHeartbeats 4000000 in
theorem rtext_null (x : Int) (w : World) (h0 : 0 ≤ x) (h1 : x ≤ 18446744073709551615) (hk : Wd.ofK x = 1) (hs : Wd.ofS x = false) :
    Calls Tryd.prog 28 #[.int .u64 x] w fun e w' => e = .returned (.string ⟨(tx x).toArray⟩) ∧ Below w.heap.size w w' := by
  obtain ⟨v0, v1⟩ := ofV_bd x h0
  have hof := rof_any x w h0 h1
  rw [hk, hs] at hof
  have HX : Hid (tx x = txS false 1 (Wd.ofV x)) := by unfold tx; rw [hk, hs]; rfl
  generalize Wd.ofV x = v at *
  have HO := hid hof
  clear hof hk hs
  have HR : Hid (({ data := #[110, 117, 108, 108] } : ByteArray) = ⟨(tx x).toArray⟩) := by rw [HX.out]; rfl
  go_enter Tryd.func28, Tryd.ntmps28
  go_wp2_with (go_at_call 12; refine (HO.out).mono ?_)
  rintro e w1 ⟨rfl, b1⟩
  have z1 := b1.size
  go_wp2
  go_ret
  exact ⟨ret_str HR.out, b1.alloc z1 _⟩
set_option maxHeartbeats 4000000 in
theorem rtext_null_s (x : Int) (w : World) (h0 : 0 ≤ x) (h1 : x ≤ 18446744073709551615) (hk : Wd.ofK x = 1) (hs : Wd.ofS x = true) :
    Calls Tryd.prog 28 #[.int .u64 x] w fun e w' => e = .returned (.string ⟨(tx x).toArray⟩) ∧ Below w.heap.size w w' := by
  obtain ⟨v0, v1⟩ := ofV_bd x h0
  have hof := rof_any x w h0 h1
  rw [hk, hs] at hof
  have HX : Hid (tx x = txS true 1 (Wd.ofV x)) := by unfold tx; rw [hk, hs]; rfl
  generalize Wd.ofV x = v at *
  have HO := hid hof
  clear hof hk hs
  have HR : Hid (({ data := #[33, 110, 117, 108, 108] } : ByteArray) = ⟨(tx x).toArray⟩) := by rw [HX.out]; rfl
  go_enter Tryd.func28, Tryd.ntmps28
  go_wp2_with (go_at_call 12; refine (HO.out).mono ?_)
  rintro e w1 ⟨rfl, b1⟩
  have z1 := b1.size
  go_wp2
  go_ret
  exact ⟨ret_str HR.out, b1.alloc z1 _⟩
set_option maxHeartbeats 4000000 in
theorem rtext_ptr (x : Int) (w : World) (h0 : 0 ≤ x) (h1 : x ≤ 18446744073709551615) (hk : Wd.ofK x = 2) (hs : Wd.ofS x = false) :
    Calls Tryd.prog 28 #[.int .u64 x] w fun e w' => e = .returned (.string ⟨(tx x).toArray⟩) ∧ Below w.heap.size w w' := by
  obtain ⟨v0, v1⟩ := ofV_bd x h0
  have hof := rof_any x w h0 h1
  rw [hk, hs] at hof
  have HX : Hid (tx x = txS false 2 (Wd.ofV x)) := by unfold tx; rw [hk, hs]; rfl
  generalize Wd.ofV x = v at *
  have HO := hid hof
  clear hof hk hs
  have hl := Lib.itoa_length_le v v0 v1
  generalize hT : (⟨(Lib.itoa v).toArray⟩ : ByteArray) = T
  have hsz : T.size ≤ 21 := by rw [← hT]; exact hl
  have HT := hid hT
  have HR : Hid (({ data := #[64] } : ByteArray) ++ T = ⟨(tx x).toArray⟩) := by rw [← hT]; exact (bytes_append [64] (Lib.itoa v)).trans (by rw [HX.out]; rfl)
  clear hT hl
  go_enter Tryd.func28, Tryd.ntmps28
  go_wp2_with (go_at_call 12; refine (HO.out).mono ?_)
  rintro e w1 ⟨rfl, b1⟩
  have z1 := b1.size
  go_wp2_with (go_at_call 39; refine (rnumberT_any v T _ v0 v1 HT).mono ?_)
  rintro e w2 ⟨rfl, b2⟩
  go_wp2
  go_ret
  exact ⟨ret_str HR.out, (b1.alloc z1 _).trans (b2.mono (by simp; omega))⟩
set_option maxHeartbeats 4000000 in
theorem rtext_ptr_s (x : Int) (w : World) (h0 : 0 ≤ x) (h1 : x ≤ 18446744073709551615) (hk : Wd.ofK x = 2) (hs : Wd.ofS x = true) :
    Calls Tryd.prog 28 #[.int .u64 x] w fun e w' => e = .returned (.string ⟨(tx x).toArray⟩) ∧ Below w.heap.size w w' := by
  obtain ⟨v0, v1⟩ := ofV_bd x h0
  have hof := rof_any x w h0 h1
  rw [hk, hs] at hof
  have HX : Hid (tx x = txS true 2 (Wd.ofV x)) := by unfold tx; rw [hk, hs]; rfl
  generalize Wd.ofV x = v at *
  have HO := hid hof
  clear hof hk hs
  have hl := Lib.itoa_length_le v v0 v1
  generalize hT : (⟨(Lib.itoa v).toArray⟩ : ByteArray) = T
  have hsz : T.size ≤ 21 := by rw [← hT]; exact hl
  have HT := hid hT
  have HR : Hid (({ data := #[33, 64] } : ByteArray) ++ T = ⟨(tx x).toArray⟩) := by rw [← hT]; exact (bytes_append [33, 64] (Lib.itoa v)).trans (by rw [HX.out]; rfl)
  clear hT hl
  go_enter Tryd.func28, Tryd.ntmps28
  go_wp2_with (go_at_call 12; refine (HO.out).mono ?_)
  rintro e w1 ⟨rfl, b1⟩
  have z1 := b1.size
  go_wp2_with (go_at_call 39; refine (rnumberT_any v T _ v0 v1 HT).mono ?_)
  rintro e w2 ⟨rfl, b2⟩
  go_wp2
  go_ret
  exact ⟨ret_str HR.out, (b1.alloc z1 _).trans (b2.mono (by simp; omega))⟩
set_option maxHeartbeats 4000000 in
theorem rtext_scalar (x : Int) (w : World) (h0 : 0 ≤ x) (h1 : x ≤ 18446744073709551615) (hk : Wd.ofK x = 3) (hs : Wd.ofS x = false) :
    Calls Tryd.prog 28 #[.int .u64 x] w fun e w' => e = .returned (.string ⟨(tx x).toArray⟩) ∧ Below w.heap.size w w' := by
  obtain ⟨v0, v1⟩ := ofV_bd x h0
  have hof := rof_any x w h0 h1
  rw [hk, hs] at hof
  have HX : Hid (tx x = txS false 3 (Wd.ofV x)) := by unfold tx; rw [hk, hs]; rfl
  generalize Wd.ofV x = v at *
  have HO := hid hof
  clear hof hk hs
  have hl := Lib.itoa_length_le v v0 v1
  generalize hT : (⟨(Lib.itoa v).toArray⟩ : ByteArray) = T
  have hsz : T.size ≤ 21 := by rw [← hT]; exact hl
  have HT := hid hT
  have HR : Hid (T = ⟨(tx x).toArray⟩) := by rw [← hT, HX.out]; rfl
  clear hT hl
  go_enter Tryd.func28, Tryd.ntmps28
  go_wp2_with (go_at_call 12; refine (HO.out).mono ?_)
  rintro e w1 ⟨rfl, b1⟩
  have z1 := b1.size
  go_wp2_with (go_at_call 39; refine (rnumberT_any v T _ v0 v1 HT).mono ?_)
  rintro e w2 ⟨rfl, b2⟩
  go_wp2
  go_ret
  exact ⟨ret_str HR.out, (b1.alloc z1 _).trans (b2.mono (by simp; omega))⟩
set_option maxHeartbeats 4000000 in
theorem rtext_scalar_s (x : Int) (w : World) (h0 : 0 ≤ x) (h1 : x ≤ 18446744073709551615) (hk : Wd.ofK x = 3) (hs : Wd.ofS x = true) :
    Calls Tryd.prog 28 #[.int .u64 x] w fun e w' => e = .returned (.string ⟨(tx x).toArray⟩) ∧ Below w.heap.size w w' := by
  obtain ⟨v0, v1⟩ := ofV_bd x h0
  have hof := rof_any x w h0 h1
  rw [hk, hs] at hof
  have HX : Hid (tx x = txS true 3 (Wd.ofV x)) := by unfold tx; rw [hk, hs]; rfl
  generalize Wd.ofV x = v at *
  have HO := hid hof
  clear hof hk hs
  have hl := Lib.itoa_length_le v v0 v1
  generalize hT : (⟨(Lib.itoa v).toArray⟩ : ByteArray) = T
  have hsz : T.size ≤ 21 := by rw [← hT]; exact hl
  have HT := hid hT
  have HR : Hid (({ data := #[33] } : ByteArray) ++ T = ⟨(tx x).toArray⟩) := by rw [← hT]; exact (bytes_append [33] (Lib.itoa v)).trans (by rw [HX.out]; rfl)
  clear hT hl
  go_enter Tryd.func28, Tryd.ntmps28
  go_wp2_with (go_at_call 12; refine (HO.out).mono ?_)
  rintro e w1 ⟨rfl, b1⟩
  have z1 := b1.size
  go_wp2_with (go_at_call 39; refine (rnumberT_any v T _ v0 v1 HT).mono ?_)
  rintro e w2 ⟨rfl, b2⟩
  go_wp2
  go_ret
  exact ⟨ret_str HR.out, (b1.alloc z1 _).trans (b2.mono (by simp; omega))⟩
set_option maxHeartbeats 4000000 in
theorem rtext_empty (x : Int) (w : World) (h0 : 0 ≤ x) (h1 : x ≤ 18446744073709551615) (hk : Wd.ofK x = 4) (hs : Wd.ofS x = false) :
    Calls Tryd.prog 28 #[.int .u64 x] w fun e w' => e = .returned (.string ⟨(tx x).toArray⟩) ∧ Below w.heap.size w w' := by
  obtain ⟨v0, v1⟩ := ofV_bd x h0
  have hof := rof_any x w h0 h1
  rw [hk, hs] at hof
  have HX : Hid (tx x = txS false 4 (Wd.ofV x)) := by unfold tx; rw [hk, hs]; rfl
  generalize Wd.ofV x = v at *
  have HO := hid hof
  clear hof hk hs
  have HR : Hid (({ data := #[101, 109, 112, 116, 121] } : ByteArray) = ⟨(tx x).toArray⟩) := by rw [HX.out]; rfl
  go_enter Tryd.func28, Tryd.ntmps28
  go_wp2_with (go_at_call 12; refine (HO.out).mono ?_)
  rintro e w1 ⟨rfl, b1⟩
  have z1 := b1.size
  go_wp2
  go_ret
  exact ⟨ret_str HR.out, b1.alloc z1 _⟩
set_option maxHeartbeats 4000000 in
theorem rtext_bad (x : Int) (w : World) (h0 : 0 ≤ x) (h1 : x ≤ 18446744073709551615) (hk : Wd.ofK x = 0) (hs : Wd.ofS x = false) :
    Calls Tryd.prog 28 #[.int .u64 x] w fun e w' => e = .returned (.string ⟨(tx x).toArray⟩) ∧ Below w.heap.size w w' := by
  obtain ⟨v0, v1⟩ := ofV_bd x h0
  have hof := rof_any x w h0 h1
  rw [hk, hs] at hof
  have HX : Hid (tx x = txS false 0 (Wd.ofV x)) := by unfold tx; rw [hk, hs]; rfl
  generalize Wd.ofV x = v at *
  have HO := hid hof
  clear hof hk hs
  have HR : Hid (({ data := #[98, 97, 100] } : ByteArray) = ⟨(tx x).toArray⟩) := by rw [HX.out]; rfl
  go_enter Tryd.func28, Tryd.ntmps28
  go_wp2_with (go_at_call 12; refine (HO.out).mono ?_)
  rintro e w1 ⟨rfl, b1⟩
  have z1 := b1.size
  go_wp2
  go_ret
  exact ⟨ret_str HR.out, b1.alloc z1 _⟩
/-- The document's text, of every word. -/
theorem rtext_any (x : Int) (w : World) (h0 : 0 ≤ x) (h1 : x ≤ 18446744073709551615) :
    Calls Tryd.prog 28 #[.int .u64 x] w fun e w' => e = .returned (.string ⟨(tx x).toArray⟩) ∧ Below w.heap.size w w' := by
  obtain ⟨k, v, h⟩ := Wd.has_is x h0
  obtain ⟨e1, e2, e3⟩ := Wd.is_fun h0 h
  rcases h with ⟨rfl, rfl, h⟩ | ⟨rfl, h⟩ | ⟨rfl, h⟩ | ⟨rfl, rfl, h⟩ | ⟨rfl, rfl, h⟩
  · cases hs : Wd.ofS x
    · exact rtext_null x w h0 h1 e1 hs
    · exact rtext_null_s x w h0 h1 e1 hs
  · cases hs : Wd.ofS x
    · exact rtext_ptr x w h0 h1 e1 hs
    · exact rtext_ptr_s x w h0 h1 e1 hs
  · cases hs : Wd.ofS x
    · exact rtext_scalar x w h0 h1 e1 hs
    · exact rtext_scalar_s x w h0 h1 e1 hs
  · exact rtext_empty x w h0 h1 e1 (by rw [e3, h]; rfl)
  · exact rtext_bad x w h0 h1 e1 (by rw [e3]; rfl)
end Go.Proofs.YtlbhkaokpfljmaaDoor
