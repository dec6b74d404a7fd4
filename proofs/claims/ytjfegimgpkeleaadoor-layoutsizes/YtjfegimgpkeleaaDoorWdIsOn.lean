/- More on what words are (chapter 1). -/
import Derived.Test.YtjfegimgpkeleaaDoorWdSpecOn
import Derived.Test.YtjfegimgpkeleaaDoorWdTextOn
import Derived.Test.YtjfegimgpkeleaaDoorWdRef
import Derived.Laws.BytesArg
namespace Go.Wd
theorem is_ofK {x : Int} {k : Nat} {v : Int} (h0 : 0 ≤ x) (h : Is x k v) : ofK x = k := (is_fun h0 h).1
theorem is_hold {x : Int} (h0 : 0 ≤ x) (h1 : 1 ≤ ofK x) (h3 : ofK x ≤ 3) {k : Nat} {v : Int} (h : Is x k v) : k = 1 ∨ k = 2 ∨ k = 3 := by
  have := is_ofK h0 h; omega
theorem is_noHold {x : Int} (h0 : 0 ≤ x) (h1 : ¬ (1 ≤ ofK x ∧ ofK x ≤ 3)) {k : Nat} {v : Int} (h : Is x k v) : k = 0 ∨ k = 4 := by
  have := is_ofK h0 h
  rcases h with ⟨rfl, _⟩ | ⟨rfl, _⟩ | ⟨rfl, _⟩ | ⟨rfl, _⟩ | ⟨rfl, _⟩ <;> simp_all
theorem has_is (x : Int) (_h0 : 0 ≤ x) : ∃ (k : Nat) (v : Int), Is x k v := by
  by_cases a : x ≤ 1
  · exact ⟨1, 0, .inl ⟨rfl, rfl, a⟩⟩
  by_cases b : x = 2
  · exact ⟨4, 0, .inr (.inr (.inr (.inl ⟨rfl, rfl, b⟩)))⟩
  by_cases c : x % 8 ≤ 1 ∧ x / 8 ≤ 16777215
  · exact ⟨2, x / 8, .inr (.inl ⟨rfl, by omega, by omega, by omega, by omega⟩)⟩
  by_cases d : 4 ≤ x % 8 ∧ x % 8 ≤ 5 ∧ x / 8 ≤ 1152921504606846975
  · exact ⟨3, x / 8 - 576460752303423488, .inr (.inr (.inl ⟨rfl, by omega, by omega, by omega, by omega⟩))⟩
  exact ⟨0, 0, .inr (.inr (.inr (.inr ⟨rfl, rfl, by omega, c, d⟩)))⟩
/-- A word that may be sealed, sealed, is of the same kind and holds the same. -/
theorem is_seal {x : Int} (h0 : 0 ≤ x) (h1 : 1 ≤ ofK x) (h3 : ofK x ≤ 3) : ofK (x - x % 2 + 1) = ofK x := by
  obtain ⟨k, v, h⟩ := has_is x h0
  have hk := is_hold h0 h1 h3 h
  have e := is_ofK h0 h
  rw [e]
  refine is_ofK (v := v) (by omega) ?_
  rcases h with ⟨rfl, rfl, h⟩ | ⟨rfl, h⟩ | ⟨rfl, h⟩ | ⟨rfl, _⟩ | ⟨rfl, _⟩
  · exact .inl ⟨rfl, rfl, by omega⟩
  · exact .inr (.inl ⟨rfl, by omega, by omega, by omega, by omega⟩)
  · exact .inr (.inr (.inl ⟨rfl, by omega, by omega, by omega, by omega⟩))
  · omega
  · omega
/-- A pointer's address; 0 of others. -/
def adr (x : Int) : Int := if ofK x = 2 then ofV x else 0
end Go.Wd
/- A word's text, as a function of the word. -/
namespace Go.Proofs.YtjfegimgpkeleaaDoor
open Go.RowKit
theorem decDigits_small (u : Nat) (h : u < 10) : Lib.decDigits u = [UInt8.ofNat (48 + u)] := by rw [Lib.decDigits, dif_pos h]
theorem decDigits_big (u : Nat) (h : ¬ u < 10) : Lib.decDigits u = Lib.decDigits (u / 10) ++ [UInt8.ofNat (48 + u % 10)] := by rw [Lib.decDigits, dif_neg h]
theorem decDigits_len : ∀ (d u : Nat), u < 10 ^ (d + 1) → (Lib.decDigits u).length ≤ d + 1
  | 0, u, h => by rw [decDigits_small u (by omega)]; simp
  | d + 1, u, h => by
    by_cases hu : u < 10
    · rw [decDigits_small u hu]; simp
    · rw [decDigits_big u hu]
      have := decDigits_len d (u / 10) (by rw [Nat.pow_succ] at h; omega)
      simp; omega
theorem decDigits_len20 (u : Nat) (h : u ≤ 18446744073709551615) : (Lib.decDigits u).length ≤ 20 := decDigits_len 19 u (by omega)
/-- A word's text (P1.3). -/
def tx (x : Int) : List UInt8 := txS (Wd.ofS x) (Wd.ofK x).toNat (Wd.ofV x)
theorem ofV_bd (x : Int) (h0 : 0 ≤ x) : -9223372036854775808 ≤ Wd.ofV x ∧ Wd.ofV x ≤ 9223372036854775807 := by
  obtain ⟨k, v, h⟩ := Wd.has_is x h0
  rw [(Wd.is_fun h0 h).2.1]
  exact is_bd h
end Go.Proofs.YtjfegimgpkeleaaDoor
/- The document's texts (lapidaryref01's digits, Number, Text). -/
namespace Go.Proofs.YtjfegimgpkeleaaDoor
open Go.RowKit
theorem conv_one (wr : World) (v : Int) : (convert 102 9 (.slice (some ⟨wr.heap.size, 0, none⟩) 1 1)).run Tryd.prog (wr.alloc (.cells #[.int .u8 v] 5)) = .ok (.string (strOfNums [v])) (wr.alloc (.cells #[.int .u8 v] 5)) :=
  run_convert_bytes_arg (wr.alloc (.cells #[.int .u8 v] 5)) 102 5 Tryd.underlying102 Tryd.underlying5 wr.heap.size 0 1 1 [v] rfl (fun i hi => by
    obtain rfl : i = 0 := by omega
    exact (cell_of_row _ _ 0 _ _ _ (heap_alloc_last wr _))) 9 Tryd.underlying9
theorem str_one (k : Nat) (S : ByteArray) : (strOfNums [(48 : Int) + (k : Int) % 10] ++ S).toList = UInt8.ofNat (48 + k % 10) :: S.toList := by
  have e : ((48 : Int) + (k : Int) % 10).toNat = 48 + k % 10 := by omega
  rw [Wd.toL, Wd.toL, ByteArray.data_append, Array.toList_append, strOfNums_data, List.map_cons, List.map_nil, e]
  rfl
theorem str_of_list {S : ByteArray} {l : List UInt8} (h : S.toList = l) : S = ⟨l.toArray⟩ := by
  subst h
  rw [Wd.toL]
set_option maxHeartbeats 4000000 in
theorem rdigits_any (n : Int) (w : World) (h0 : 0 ≤ n) (h1 : n ≤ 18446744073709551615) :
    Calls Tryd.prog 60 #[.int .u64 n] w fun e w' => e = .returned (.string ⟨(Lib.decDigits n.toNat).toArray⟩) ∧ Below w.heap.size w w' := by
  have HL := hid (decDigits_len20 n.toNat (by omega))
  go_enter Tryd.func60, Tryd.ntmps60
  go_wp2
  go_loopw [0, 3] (fun m t wr => ∃ (k : Nat) (S : ByteArray), m = .int .u64 k ∧ (k : Int) ≤ 18446744073709551615 ∧ t = .string S ∧ Lib.decDigits n.toNat = Lib.decDigits k ++ S.toList ∧ Below w.heap.size w wr) (fun m _ _ => (intOf m).toNat)
  case atStart => exact ⟨n.toNat, ByteArray.empty, by rw [Int.toNat_of_nonneg h0], by omega, rfl, by rw [Wd.toL]; simp, Below.refl _ _⟩
  case round =>
    obtain ⟨k, S, rfl, hk, rfl, hd, hb⟩ := hrel
    have hS : S.size ≤ 20 := by
      have e := congrArg List.length hd
      rw [List.length_append, Wd.toL_length] at e
      have := HL.out
      omega
    have HD := hid hd; clear hd
    have hcv := conv_one
    have hsz := strOfNums_size [(48 : Int) + (k : Int) % 10]
    have hsum : (strOfNums [(48 : Int) + (k : Int) % 10]).size + S.size ≤ 9223372036854775807 := by rw [hsz]; simp; omega
    have z := hb.size
    clear hsz
    by_cases hz : k < 10
    · have ht : ((k : Int) / 10 == 0) = true := by simp; omega
      have HR : Hid ((strOfNums [(48 : Int) + (k : Int) % 10] ++ S) = ⟨(Lib.decDigits n.toNat).toArray⟩) := by
        refine str_of_list ?_
        rw [str_one, HD.out, decDigits_small k hz, Nat.mod_eq_of_lt hz]
        rfl
      go_wp2
      go_ret
      exact ⟨ret_str HR.out, hb.alloc z _⟩
    · have ht : ((k : Int) / 10 == 0) = false := by rw [beq_eq_false_iff_ne]; omega
      have HR : Hid (Lib.decDigits n.toNat = Lib.decDigits (k / 10) ++ (strOfNums [(48 : Int) + (k : Int) % 10] ++ S).toList) := by
        show _ = _
        rw [str_one, HD.out, decDigits_big k hz]
        simp
      go_wp2
      refine ⟨⟨k / 10, _, ?_, by omega, rfl, HR.out, hb.alloc z _⟩, ?_⟩
      · rw [Int.natCast_ediv]; rfl
      · simp [intOf]; omega
set_option maxHeartbeats 4000000 in
theorem rnumberT_any (v : Int) (S : ByteArray) (w : World) (h0 : -9223372036854775808 ≤ v) (h1 : v ≤ 9223372036854775807) (hS : Hid ((⟨(Lib.itoa v).toArray⟩ : ByteArray) = S)) :
    Calls Tryd.prog 45 #[.int .i64 v] w fun e w' => e = .returned (.string S) ∧ Below w.heap.size w w' := by
  by_cases hv : v < 0
  · have hl := decDigits_len20 (-v).toNat (by omega)
    have HT : Hid (({ data := #[45] } : ByteArray) ++ (⟨(Lib.decDigits (-v).toNat).toArray⟩ : ByteArray) = S) := by
      refine Eq.trans (bytes_append [45] _) (Eq.trans ?_ hS.out)
      unfold Lib.itoa
      rw [if_pos hv, show v.natAbs = (-v).toNat by omega]
      rfl
    generalize hs : (⟨(Lib.decDigits (-v).toNat).toArray⟩ : ByteArray) = T at HT
    have hsz : T.size ≤ 20 := by rw [← hs]; exact hl
    have hg : ∀ u, Calls Tryd.prog 60 #[.int .u64 (-(v + 1) + 1)] u fun e w' => e = .returned (.string T) ∧ Below u.heap.size u w' := by
      intro u
      rw [show -(v + 1) + 1 = -v by omega, ← hs]
      exact rdigits_any (-v) u (by omega) (by omega)
    have HG := hid hg
    clear hg hs
    go_enter Tryd.func45, Tryd.ntmps45
    go_wp2_with (go_at_call 60; refine (HG.out _).mono ?_)
    rintro e w1 ⟨rfl, hb⟩
    go_wp2
    go_ret
    exact ⟨ret_str HT.out, hb⟩
  · have hv' : 0 ≤ v := by omega
    have HT : Hid ((⟨(Lib.decDigits v.toNat).toArray⟩ : ByteArray) = S) := by
      refine Eq.trans ?_ hS.out
      unfold Lib.itoa
      rw [if_neg hv]
    clear hv
    go_enter Tryd.func45, Tryd.ntmps45
    go_wp2_with (go_at_call 60; refine (rdigits_any v _ hv' (by omega)).mono ?_)
    rintro e w1 ⟨rfl, hb⟩
    go_wp2
    go_ret
    exact ⟨ret_str HT.out, hb⟩
end Go.Proofs.YtjfegimgpkeleaaDoor
