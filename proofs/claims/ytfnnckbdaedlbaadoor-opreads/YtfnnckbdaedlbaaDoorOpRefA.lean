/- the document's functions of layer 8: Names, Name, get, with, named. -/
import Derived.Test.YtfnnckbdaedlbaaDoorOpFace
import Derived.Great.Walk
namespace Go.Proofs.YtfnnckbdaedlbaaDoor
open Go.RowKit Go.Oq Go.Sh
def nlet : Array Value := #[.string (lets 0), .string (lets 1), .string (lets 2), .string (lets 3), .string (lets 4), .string (lets 5), .string (lets 6), .string (lets 7), .string (lets 8), .string (lets 9), .string (lets 10), .string (lets 11)]
def nnam : Array Value := #[.string (nam 0), .string (nam 1), .string (nam 2), .string (nam 3), .string (nam 4), .string (nam 5), .string (nam 6), .string (nam 7), .string (nam 8), .string (nam 9), .string (nam 10), .string (nam 11)]
theorem nlet_at {K : Nat} (k1 : 1 ≤ K) (k2 : K ≤ 11) : nlet[K]? = some (.string (lets K)) := by
  rcases eleven k1 k2 with rfl | rfl | rfl | rfl | rfl | rfl | rfl | rfl | rfl | rfl | rfl <;> rfl
theorem nnam_at {K : Nat} (k1 : 1 ≤ K) (k2 : K ≤ 11) : nnam[K]? = some (.string (nam K)) := by
  rcases eleven k1 k2 with rfl | rfl | rfl | rfl | rfl | rfl | rfl | rfl | rfl | rfl | rfl <;> rfl
set_option maxHeartbeats 2000000 in
theorem names_yes (K : Nat) (w : World) (k1 : 1 ≤ K) (k2 : K ≤ 11) : Calls Tryd.prog 31 #[.int .i64 (K : Int)] w fun e w' => e = .returned (.string (lets K)) ∧ Below w.heap.size w w' := by
  have c0 := cell_last w nlet 9 K _ (nlet_at k1 k2)
  have i1 : 1 ≤ (K : Int) := by omega
  have i2 : (K : Int) ≤ 11 := by omega
  go_enter Tryd.func31, Tryd.ntmps31
  go_wp2_with (refine Great.wpList_buildSliceTo rfl 78 9 12 _ rfl w.heap.size rfl (some 9) rfl Tryd.underlying78 nlet (by kernel_rfl) ?_)
  go_ret
  exact ⟨rfl, below_alloc0 w _⟩
set_option maxHeartbeats 2000000 in
theorem rname_any (k : Int) (w : World) : Calls Tryd.prog 23 #[.int .i64 k] w fun e w' => e = .returned (.string (nam k.toNat)) ∧ Below w.heap.size w w' := by
  by_cases hk : kin k = true
  · obtain ⟨K, rfl, k1, k2⟩ := kin_nat hk
    have c0 := cell_last w nnam 9 K _ (nnam_at k1 k2)
    have i1 : 1 ≤ (K : Int) := by omega
    have i2 : (K : Int) ≤ 11 := by omega
    clear hk
    go_enter Tryd.func23, Tryd.ntmps23
    go_wp2_with (refine Great.wpList_buildSliceTo rfl 78 9 12 _ rfl w.heap.size rfl (some 9) rfl Tryd.underlying78 nnam (by kernel_rfl) ?_)
    go_ret
    exact ⟨rfl, below_alloc0 w _⟩
  · have hk' : kin k = false := by simpa using hk
    have HN := hid (nam_out hk').1
    by_cases h1 : k < 1
    · clear hk hk'
      go_enter Tryd.func23, Tryd.ntmps23
      go_wp2
      go_ret
      exact ⟨ret_str HN.out.symm, Below.refl _ _⟩
    · have h2 : 1 ≤ k := by omega
      have h3 : 11 < k := by
        simp [kin] at hk'; omega
      clear hk hk' h1
      go_enter Tryd.func23, Tryd.ntmps23
      go_wp2
      go_ret
      exact ⟨ret_str HN.out.symm, Below.refl _ _⟩
def hasL (s : ByteArray) (c : UInt8) : Bool := s.data.toList.contains c
/-- A number by its letter. -/
theorem get_l (j : Nat) (f : Nat → Int) (w : World) (h1 : 1 ≤ j) (h7 : j ≤ 7) : Calls Tryd.prog 32 #[opV f, .int .u8 ((lett j).toNat : Int)] w fun e w' => e = .returned (.int .i64 (f j)) ∧ Below w.heap.size w w' := by
  have : j = 1 ∨ j = 2 ∨ j = 3 ∨ j = 4 ∨ j = 5 ∨ j = 6 ∨ j = 7 := by omega
  rcases this with rfl | rfl | rfl | rfl | rfl | rfl | rfl <;>
  · show Calls _ _ #[_, .int .u8 _] _ _
    dsimp only [lett]
    go_enter Tryd.func32, Tryd.ntmps32
    go_wp2
    go_ret
    exact ⟨rfl, below_alloc0 w _⟩
/-- Is a letter one of a text's? -/
theorem rnamed_any (s : ByteArray) (c : UInt8) (w : World) (hs : s.size ≤ 100) : Calls Tryd.prog 37 #[.string s, .int .u8 (c.toNat : Int)] w fun e w' => e = .returned (.bool (hasL s c)) ∧ w' = w := by
  have hs' : (s.size : Int) ≤ 100 := by omega
  go_enter Tryd.func37, Tryd.ntmps37
  go_wp2
  go_loop [5] (fun i => ∃ k : Nat, k ≤ s.size ∧ i = .int .i64 k ∧ Hid (∀ x ∈ s.data.toList.take k, x ≠ c)) (fun i => s.size - (intOf i).toNat)
  case atStart => exact ⟨0, by omega, rfl, by intro x hx; simp at hx⟩
  case round =>
    obtain ⟨k, hk, rfl, hN⟩ := hrel
    by_cases hlt : k < s.size
    · have hll : k < s.data.toList.length := by rw [Array.length_toList]; exact hlt
      have hge : s.data.toList[k] = s[k]'hlt := rfl
      by_cases he : s[k]'hlt = c
      · have hb1 : (((s[k]'hlt).toNat : Int) == (c.toNat : Int)) = true := by rw [he]; simp
        have HT : Hid (hasL s c = true) := hid (by
          rw [hasL, List.contains_iff_mem, ← he, ← hge]
          exact List.getElem_mem hll)
        clear he
        go_wp2
        go_ret
        exact ⟨ret_bool HT.out.symm, rfl⟩
      · have hb1 : (((s[k]'hlt).toNat : Int) == (c.toNat : Int)) = false := by
          rw [beq_eq_false_iff_ne]
          intro e
          exact he (UInt8.toNat_inj.1 (by omega))
        have HN2 : Hid (∀ x ∈ s.data.toList.take (k + 1), x ≠ c) := hid (by
          rw [List.take_succ_eq_append_getElem hll]
          intro x hx
          rw [List.mem_append, List.mem_singleton] at hx
          rcases hx with hx | rfl
          · exact hN.out x hx
          · exact he)
        clear he hN
        go_wp2
        exact ⟨⟨k + 1, by omega, by go_num, HN2⟩, by simp [intOf]; omega⟩
    · have HF : Hid (hasL s c = false) := hid (by
        have h := hN.out
        rw [List.take_of_length_le (by rw [Array.length_toList]; show s.size ≤ k; omega)] at h
        cases hc : s.data.toList.contains c with
        | false => exact hc
        | true => exact absurd rfl (h c (List.contains_iff_mem.1 hc)))
      clear hN
      go_wp2
      go_ret
      exact ⟨ret_bool HF.out.symm, rfl⟩
end Go.Proofs.YtfnnckbdaedlbaaDoor
