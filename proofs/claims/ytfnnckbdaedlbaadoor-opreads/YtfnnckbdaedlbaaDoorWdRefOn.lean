/- The document's own answers for chapter 1 (lapidaryref01): Of, Make, and what stands on them. -/
import Derived.Test.YtfnnckbdaedlbaaDoorWdOfOn
import Derived.Test.YtfnnckbdaedlbaaDoorWdReadOn
import Derived.Laws.BytesArg
namespace Go.Proofs.YtfnnckbdaedlbaaDoor
open Go.RowKit
theorem is_two : Wd.Is 2 4 0 := .inr (.inr (.inr (.inl ⟨rfl, rfl, rfl⟩)))
end Go.Proofs.YtfnnckbdaedlbaaDoor
/- The document's texts (lapidaryref01's digits, Number, Text). -/
namespace Go.Proofs.YtfnnckbdaedlbaaDoor
open Go.RowKit
theorem conv_one (wr : World) (v : Int) : (convert 107 9 (.slice (some ⟨wr.heap.size, 0, none⟩) 1 1)).run Tryd.prog (wr.alloc (.cells #[.int .u8 v] 5)) = .ok (.string (strOfNums [v])) (wr.alloc (.cells #[.int .u8 v] 5)) :=
  run_convert_bytes_arg (wr.alloc (.cells #[.int .u8 v] 5)) 107 5 Tryd.underlying107 Tryd.underlying5 wr.heap.size 0 1 1 [v] rfl (fun i hi => by
    obtain rfl : i = 0 := by omega
    exact (cell_of_row _ _ 0 _ _ _ (heap_alloc_last wr _))) 9 Tryd.underlying9
theorem str_one (k : Nat) (S : ByteArray) : (strOfNums [(48 : Int) + (k : Int) % 10] ++ S).toList = UInt8.ofNat (48 + k % 10) :: S.toList := by
  have e : ((48 : Int) + (k : Int) % 10).toNat = 48 + k % 10 := by omega
  rw [Wd.toL, Wd.toL, ByteArray.data_append, Array.toList_append, strOfNums_data, List.map_cons, List.map_nil, e]
  rfl
theorem str_of_list {S : ByteArray} {l : List UInt8} (h : S.toList = l) : S = ⟨l.toArray⟩ := by
  subst h
  rw [Wd.toL]
set_option maxHeartbeats 4000000 in
theorem rdigits_any (n : Int) (w : World) (h0 : 0 ≤ n) (h1 : n ≤ 18446744073709551615) :
    Calls Tryd.prog 60 #[.int .u64 n] w fun e w' => e = .returned (.string ⟨(Lib.decDigits n.toNat).toArray⟩) ∧ Below w.heap.size w w' := by
  have HL := hid (decDigits_len20 n.toNat (by omega))
  go_enter Tryd.func60, Tryd.ntmps60
  go_wp2
  go_loopw [0, 3] (fun m t wr => ∃ (k : Nat) (S : ByteArray), m = .int .u64 k ∧ (k : Int) ≤ 18446744073709551615 ∧ t = .string S ∧ Lib.decDigits n.toNat = Lib.decDigits k ++ S.toList ∧ Below w.heap.size w wr) (fun m _ _ => (intOf m).toNat)
  case atStart => exact ⟨n.toNat, ByteArray.empty, by rw [Int.toNat_of_nonneg h0], by omega, rfl, by rw [Wd.toL]; simp, Below.refl _ _⟩
  case round =>
    obtain ⟨k, S, rfl, hk, rfl, hd, hb⟩ := hrel
    have hS : S.size ≤ 20 := by
      have e := congrArg List.length hd
      rw [List.length_append, Wd.toL_length] at e
      have := HL.out
      omega
    have HD := hid hd; clear hd
    have hcv := conv_one
    have hsz := strOfNums_size [(48 : Int) + (k : Int) % 10]
    have hsum : (strOfNums [(48 : Int) + (k : Int) % 10]).size + S.size ≤ 9223372036854775807 := by rw [hsz]; simp; omega
    have z := hb.size
    clear hsz
    by_cases hz : k < 10
    · have ht : ((k : Int) / 10 == 0) = true := by simp; omega
      have HR : Hid ((strOfNums [(48 : Int) + (k : Int) % 10] ++ S) = ⟨(Lib.decDigits n.toNat).toArray⟩) := by
        refine str_of_list ?_
        rw [str_one, HD.out, decDigits_small k hz, Nat.mod_eq_of_lt hz]
        rfl
      go_wp2
      go_ret
      exact ⟨ret_str HR.out, hb.alloc z _⟩
    · have ht : ((k : Int) / 10 == 0) = false := by rw [beq_eq_false_iff_ne]; omega
      have HR : Hid (Lib.decDigits n.toNat = Lib.decDigits (k / 10) ++ (strOfNums [(48 : Int) + (k : Int) % 10] ++ S).toList) := by
        show _ = _
        rw [str_one, HD.out, decDigits_big k hz]
        simp
      go_wp2
      refine ⟨⟨k / 10, _, ?_, by omega, rfl, HR.out, hb.alloc z _⟩, ?_⟩
      · rw [Int.natCast_ediv]; rfl
      · simp [intOf]; omega
set_option maxHeartbeats 4000000 in
theorem rnumberT_any (v : Int) (S : ByteArray) (w : World) (h0 : -9223372036854775808 ≤ v) (h1 : v ≤ 9223372036854775807) (hS : Hid ((⟨(Lib.itoa v).toArray⟩ : ByteArray) = S)) :
    Calls Tryd.prog 42 #[.int .i64 v] w fun e w' => e = .returned (.string S) ∧ Below w.heap.size w w' := by
  by_cases hv : v < 0
  · have hl := decDigits_len20 (-v).toNat (by omega)
    have HT : Hid (({ data := #[45] } : ByteArray) ++ (⟨(Lib.decDigits (-v).toNat).toArray⟩ : ByteArray) = S) := by
      refine Eq.trans (bytes_append [45] _) (Eq.trans ?_ hS.out)
      unfold Lib.itoa
      rw [if_pos hv, show v.natAbs = (-v).toNat by omega]
      rfl
    generalize hs : (⟨(Lib.decDigits (-v).toNat).toArray⟩ : ByteArray) = T at HT
    have hsz : T.size ≤ 20 := by rw [← hs]; exact hl
    have hg : ∀ u, Calls Tryd.prog 60 #[.int .u64 (-(v + 1) + 1)] u fun e w' => e = .returned (.string T) ∧ Below u.heap.size u w' := by
      intro u
      rw [show -(v + 1) + 1 = -v by omega, ← hs]
      exact rdigits_any (-v) u (by omega) (by omega)
    have HG := hid hg
    clear hg hs
    go_enter Tryd.func42, Tryd.ntmps42
    go_wp2_with (go_at_call 60; refine (HG.out _).mono ?_)
    rintro e w1 ⟨rfl, hb⟩
    go_wp2
    go_ret
    exact ⟨ret_str HT.out, hb⟩
  · have hv' : 0 ≤ v := by omega
    have HT : Hid ((⟨(Lib.decDigits v.toNat).toArray⟩ : ByteArray) = S) := by
      refine Eq.trans ?_ hS.out
      unfold Lib.itoa
      rw [if_neg hv]
    clear hv
    go_enter Tryd.func42, Tryd.ntmps42
    go_wp2_with (go_at_call 60; refine (rdigits_any v _ hv' (by omega)).mono ?_)
    rintro e w1 ⟨rfl, hb⟩
    go_wp2
    go_ret
    exact ⟨ret_str HT.out, hb⟩
end Go.Proofs.YtfnnckbdaedlbaaDoor
