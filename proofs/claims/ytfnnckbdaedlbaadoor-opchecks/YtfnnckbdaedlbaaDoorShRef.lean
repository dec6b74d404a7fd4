/- The document's functions (lapidaryref03): One, Right, Size, Most, Kind, Is. -/
import Derived.Test.YtfnnckbdaedlbaaDoorShTop
namespace Go.Proofs.YtfnnckbdaedlbaaDoor
open Go.RowKit Go.Sh
theorem get_data (s : ByteArray) (k : Nat) (h : k < s.size) : s.data.toList.getD k 0 = s[k]'h := by
  have hl : k < s.data.toList.length := by rw [Array.length_toList]; exact h
  rw [List.getD_eq_getElem?_getD, List.getElem?_eq_getElem hl, Option.getD_some]
  rfl
theorem ne112 {b : UInt8} (h : ¬ b = 112) : ((b.toNat : Int) == 112) = false := by
  rw [beq_eq_false_iff_ne]
  intro e
  apply h
  apply UInt8.toNat_inj.1
  simp
  omega
theorem ne115 {b : UInt8} (h : ¬ b = 115) : ((b.toNat : Int) == 115) = false := by
  rw [beq_eq_false_iff_ne]
  intro e
  apply h
  apply UInt8.toNat_inj.1
  simp
  omega
theorem bne_of {a b : Int} (h : (a == b) = false) : (a != b) = true := by simp [bne, h]
theorem bne_no {a b : Int} (h : (a == b) = true) : (a != b) = false := by simp [bne, h]
theorem rOne_long (s : ByteArray) (w : World) (h : 8 < s.size) : Calls Tryd.prog 53 #[.string s] w fun e w' => e = .returned (.bool false) ∧ w' = w := by
  have h' : (8 : Int) < (s.size : Int) := by omega
  go_enter Tryd.func53, Tryd.ntmps53
  go_wp2
  go_ret
  exact ⟨rfl, rfl⟩
set_option maxRecDepth 100000 in
set_option maxHeartbeats 2000000 in
theorem rOne_short (s : ByteArray) (w : World) (h : s.size ≤ 8) : Calls Tryd.prog 53 #[.string s] w fun e w' => e = .returned (.bool (one s)) ∧ w' = w := by
  have h' : (s.size : Int) ≤ 8 := by omega
  go_enter Tryd.func53, Tryd.ntmps53
  go_wp2
  go_loopw [3] (fun i wr => ∃ k : Nat, k ≤ s.size ∧ i = .int .i64 k ∧ wr = w ∧ Hid (∀ j, j < k → okB (s.data.toList.getD j 0) = true)) (fun i _ => s.size - (intOf i).toNat)
  case atStart => exact ⟨0, by omega, rfl, rfl, hid (fun j hj => by omega)⟩
  case round =>
    obtain ⟨k, hk, rfl, rfl, hall⟩ := hrel
    by_cases hlt : k < s.size
    · by_cases h1 : s[k]'hlt = 112
      · have HK := hid h1
        go_wp2
        refine ⟨⟨k + 1, by omega, by simp, trivial, hid (fun j hj => ?_)⟩, by simp [intOf]; omega⟩
        by_cases hj2 : j < k
        · exact hall.out j hj2
        · obtain rfl : j = k := by omega
          rw [get_data s j hlt]; rw [HK.out]; rfl
      · have e1 := bne_of (ne112 h1)
        by_cases h2 : s[k]'hlt = 115
        · have HK := hid h2
          have e2 : (((s[k]'hlt).toNat : Int) != 115) = false := by rw [h2]; rfl
          clear h1 h2
          go_wp2
          refine ⟨⟨k + 1, by omega, by simp, trivial, hid (fun j hj => ?_)⟩, by simp [intOf]; omega⟩
          by_cases hj2 : j < k
          · exact hall.out j hj2
          · obtain rfl : j = k := by omega
            rw [get_data s j hlt]; rw [HK.out]; rfl
        · have e2 := bne_of (ne115 h2)
          have HN : Hid (one s = false) := hid (one_no s k hlt (by rw [get_data s k hlt]; simp [okB, h1, h2]))
          clear h1 h2
          go_wp2
          go_ret
          exact ⟨ret_bool HN.out.symm, rfl⟩
    · obtain rfl : k = s.size := by omega
      have HN := hid (all_upto s s.size hall.out (Nat.le_refl _) h)
      go_wp2
      go_ret
      exact ⟨ret_bool HN.out.symm, rfl⟩
theorem rOne_any (s : ByteArray) (w : World) : Calls Tryd.prog 53 #[.string s] w fun e w' => e = .returned (.bool (one s)) ∧ w' = w := by
  by_cases h : s.size ≤ 8
  · exact rOne_short s w h
  · refine (rOne_long s w (by omega)).mono ?_
    rintro e w' ⟨rfl, b⟩
    have : one s = false := by simp [one, h]
    exact ⟨by rw [this], b⟩
theorem rRight_none (a : Option Addr) (cap : Nat) (w : World) : Calls Tryd.prog 30 #[.slice a 0 cap] w fun e w' => e = .returned (.bool false) ∧ w' = w := by
  go_enter Tryd.func30, Tryd.ntmps30
  go_wp2
  go_ret
  exact ⟨rfl, rfl⟩
theorem rRight_many (a : Option Addr) (len cap : Nat) (h : 16 < len) (w : World) : Calls Tryd.prog 30 #[.slice a len cap] w fun e w' => e = .returned (.bool false) ∧ w' = w := by
  have h1 : (1 : Int) ≤ (len : Int) := by omega
  have h2 : (16 : Int) < (len : Int) := by omega
  go_enter Tryd.func30, Tryd.ntmps30
  go_wp2
  go_ret
  exact ⟨rfl, rfl⟩
set_option maxRecDepth 100000 in
set_option maxHeartbeats 2000000 in
theorem rRight_some (b off cap : Nat) (ss : List ByteArray) (w : World) (h1 : 1 ≤ ss.length) (h16 : ss.length ≤ 16) (hc : Hid (∀ i, i < ss.length → w.cell? ⟨b, off + i, none⟩ = some (.string (at' ss i)))) :
    Calls Tryd.prog 30 #[.slice (some ⟨b, off, none⟩) ss.length cap] w fun e w' => e = .returned (.bool (ss.all one)) ∧ w' = w := by
  have g1 : (1 : Int) ≤ (ss.length : Int) := by omega
  have g2 : (ss.length : Int) ≤ 16 := by omega
  obtain ⟨len, hlen⟩ : ∃ len, len = ss.length := ⟨_, rfl⟩
  have HL := hid hlen
  rw [← hlen] at h1 h16 g1 g2
  rw [← hlen]
  clear hlen
  go_enter Tryd.func30, Tryd.ntmps30
  go_wp2
  go_loopw [3] (fun i wr => ∃ k : Nat, k ≤ len ∧ i = .int .i64 k ∧ wr = w ∧ Hid (∀ j, j < k → one (at' ss j) = true)) (fun i _ => len - (intOf i).toNat)
  case atStart => exact ⟨0, by omega, rfl, rfl, hid (fun j hj => by omega)⟩
  case round =>
    obtain ⟨k, hk, rfl, rfl, hall⟩ := hrel
    by_cases hlt : k < len
    · have hcr := hc.out k (by rw [← HL.out]; exact hlt)
      obtain ⟨x, hx⟩ : ∃ x, x = at' ss k := ⟨_, rfl⟩
      rw [← hx] at hcr
      have HX := hid hx
      clear hx
      by_cases ho : one x = true
      · have c := rOne_any x wr
        rw [ho] at c
        go_wp2_with (go_at_call 53; refine c.mono ?_; rintro e w2 ⟨rfl, rfl⟩)
        refine ⟨⟨k + 1, by omega, by simp, trivial, hid (fun j hj => ?_)⟩, by simp [intOf]; omega⟩
        by_cases hj2 : j < k
        · exact hall.out j hj2
        · obtain rfl : j = k := by omega
          rw [← HX.out]; exact ho
      · have ho' : one x = false := by simpa using ho
        have c := rOne_any x wr
        rw [ho'] at c
        have HN : Hid (ss.all one = false) := hid (all_take_false (k := k) (by rw [← HL.out]; exact hlt) (by rw [← HX.out]; exact ho'))
        go_wp2_with (go_at_call 53; refine c.mono ?_; rintro e w2 ⟨rfl, rfl⟩)
        go_ret
        exact ⟨ret_bool HN.out.symm, rfl⟩
    · obtain rfl : k = len := by omega
      have HN : Hid (ss.all one = true) := hid (all_of_at (fun j hj => hall.out j (by rw [HL.out]; exact hj)))
      go_wp2
      go_ret
      exact ⟨ret_bool HN.out.symm, rfl⟩
theorem rRight_any (v : Value) (ss : List ByteArray) (w : World) (h : IsTab w v ss) :
    Calls Tryd.prog 30 #[v] w fun e w' => e = .returned (.bool (right ss)) ∧ w' = w := by
  by_cases h0 : ss.length = 0
  · obtain ⟨a, cap, rfl⟩ := h.len
    rw [h0]
    refine (rRight_none a cap w).mono ?_
    rintro e w' ⟨rfl, b⟩
    exact ⟨ret_bool (by simp [right, h0]), b⟩
  · by_cases h16 : ss.length ≤ 16
    · obtain ⟨b, off, cap, rfl, hc⟩ := h.some (by omega)
      refine (rRight_some b off cap ss w (by omega) h16 (hid hc)).mono ?_
      rintro e w' ⟨rfl, b⟩
      exact ⟨ret_bool (by simp [right, h16, show 1 ≤ ss.length by omega]), b⟩
    · obtain ⟨a, cap, rfl⟩ := h.len
      refine (rRight_many a _ cap (by omega) w).mono ?_
      rintro e w' ⟨rfl, b⟩
      exact ⟨ret_bool (by simp [right, h16]), b⟩
theorem ret_pair {p : Int × Int} {a c : Int} (h : p = (a, c)) : Ending.returned (.tuple #[.int .i64 a, .int .i64 c]) = .returned (.tuple #[.int .i64 p.1, .int .i64 p.2]) := by rw [h]
theorem rSize_any (v : Value) (ss : List ByteArray) (n : Int) (w : World) (h : IsTab w v ss) :
    Calls Tryd.prog 33 #[v, .int .i64 n] w fun e w' => e = .returned (.tuple #[.int .i64 (sz ss n).1, .int .i64 (sz ss n).2]) ∧ w' = w := by
  have c := rRight_any v ss w h
  by_cases hr : right ss = true
  · have h16 := (right_len hr).2
    rw [hr] at c
    by_cases h0 : n < 0
    · have HS := hid (sz_out (n := n) hr (by simp [inR]; omega))
      obtain ⟨a, cap, rfl⟩ := h.len
      clear h hr
      go_enter Tryd.func33, Tryd.ntmps33
      go_wp2_with (go_at_call 30; refine c.mono ?_; rintro e w1 ⟨rfl, rfl⟩)
      go_ret2
      exact ⟨ret_pair HS.out, rfl⟩
    · by_cases h1 : (ss.length : Int) ≤ n
      · have HS := hid (sz_out (n := n) hr (by simp [inR]; omega))
        obtain ⟨a, cap, rfl⟩ := h.len
        have h0' : 0 ≤ n := by omega
        clear h hr h0
        go_enter Tryd.func33, Tryd.ntmps33
        go_wp2_with (go_at_call 30; refine c.mono ?_; rintro e w1 ⟨rfl, rfl⟩)
        go_ret2
        exact ⟨ret_pair HS.out, rfl⟩
      · obtain ⟨k, rfl⟩ : ∃ k : Nat, n = k := ⟨n.toNat, by omega⟩
        have hk : k < ss.length := by omega
        have HS := hid (sz_in (n := k) hr (by simp [inR]; omega))
        have h8 := one_size (right_all hr k hk)
        obtain ⟨b, off, cap, rfl, hc⟩ := h.some (by omega)
        have hcell := hc k hk
        rw [Int.toNat_natCast] at HS
        clear h hr h0 h1 hc
        generalize at' ss k = x at *
        generalize ss.length = len at *
        go_enter Tryd.func33, Tryd.ntmps33
        go_wp2_with (go_at_call 30; refine c.mono ?_; rintro e w1 ⟨rfl, rfl⟩)
        go_ret2
        exact ⟨ret_pair HS.out, rfl⟩
  · have hr' : right ss = false := by simpa using hr
    rw [hr'] at c
    have HS := hid (sz_no (n := n) hr')
    clear hr hr' h
    go_enter Tryd.func33, Tryd.ntmps33
    go_wp2_with (go_at_call 30; refine c.mono ?_; rintro e w1 ⟨rfl, rfl⟩)
    go_ret2
    exact ⟨ret_pair HS.out, rfl⟩
theorem fd_out {s : ByteArray} {f : Int} (h : inR f s.size = false) : fd s f = (0, 131) := by simp [fd, h]
theorem fd_in {s : ByteArray} {j : Nat} (h : j < s.size) : fd s j = (kb (s[j]'h), 0) := by
  have : inR (j : Int) s.size = true := by simp [inR]; omega
  simp only [fd, this, if_true, Int.toNat_natCast, get_data s j h]
end Go.Proofs.YtfnnckbdaedlbaaDoor
