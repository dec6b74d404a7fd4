/- The document's Same of layer 5. -/
import Derived.Test.YtlmkbnebpaopeaaArSame
namespace Go.Proofs.Ytlmkbnebpaopeaa
open Go.RowKit Go.Shelf
theorem rSame_no (a1 a2 : Option Addr) (n1 n2 c1 c2 : Nat) (w : World) (hn : n1 ≠ n2) : Calls Try.prog 26 #[.slice a1 n1 c1, .slice a2 n2 c2] w fun e W' => e = .returned (.bool false) ∧ W' = w := by
  have hne : ((n1 : Int) != (n2 : Int)) = true := by simp; omega
  go_enter Try.func26, Try.ntmps26
  go_wp2
  go_ret
  exact ⟨rfl, rfl⟩
set_option maxRecDepth 100000 in
set_option maxHeartbeats 4000000 in
theorem rSame_yes (b off c b2 off2 c2 : Nat) (xs ys : List Int) (r : Bool) (w : World) (hx : Ws w b off xs) (hy : Ws w b2 off2 ys) (hl : ys.length = xs.length) (hle : xs.length ≤ 16384) (hr : Hid (((pl xs ys xs.length).length == 0) = r)) :
    Calls Try.prog 26 #[.slice (some ⟨b, off, none⟩) xs.length c, .slice (some ⟨b2, off2, none⟩) xs.length c2] w fun e W' => e = .returned (.bool r) ∧ Below w.heap.size w W' := by
  have hne : ((xs.length : Int) != (xs.length : Int)) = false := by simp
  have hle' : (xs.length : Int) ≤ 16384 := by omega
  have HX := hid hx
  have HY := hid hy
  clear hx hy
  go_enter Try.func26, Try.ntmps26
  go_wp2
  go_loopw [5] (fun i wr => ∃ k : Nat, k ≤ xs.length ∧ i = .int .i64 k ∧ Hid (pl xs ys k = []) ∧ Hid (Below w.heap.size w wr)) (fun i _ => xs.length - (intOf i).toNat)
  case atStart => exact ⟨0, Nat.zero_le _, rfl, hid rfl, hid (Below.refl _ _)⟩
  case round =>
    obtain ⟨k, hk, rfl, HP, HB⟩ := hrel
    by_cases hlt : k < xs.length
    · have hlt' : (k : Int) < xs.length := by omega
      have hc1 := (HX.out.below HB.out) k hlt
      have hc2 := (HY.out.below HB.out) k (by omega)
      by_cases hd : dif xs ys k = true
      · have hnq : (wat xs k != wat ys k) = true := hd
        have HR : Hid (false = r) := hid (by
          rw [← hr.out]
          have e := pl_mono xs ys (k + 1) (xs.length - (k + 1))
          rw [show k + 1 + (xs.length - (k + 1)) = xs.length by omega, pl_hit hd] at e
          simp at e
          symm
          rw [beq_eq_false_iff_ne]; omega)
        clear hd
        generalize wat xs k = p1 at *
        generalize wat ys k = p2 at *
        go_wp2
        go_quiet (fail)
        go_wp2
        go_ret
        exact ⟨ret_bool HR.out, bdrewN HB.out _⟩
      · have hd' : dif xs ys k = false := by simpa using hd
        have hnq : (wat xs k != wat ys k) = false := hd'
        have HN := hid (pl_miss hd')
        clear hd hd'
        generalize wat xs k = p1 at *
        generalize wat ys k = p2 at *
        go_wp2
        go_quiet (fail)
        go_wp2
        go_roundw
        case rel => exact ⟨k + 1, by omega, by go_num, hid (by rw [HN.out]; exact HP.out), hid (bdrewN HB.out _)⟩
        case measure => simp [intOf]; omega
    · obtain rfl : k = xs.length := by omega
      have HR : Hid (true = r) := hid (by rw [← hr.out, HP.out]; rfl)
      go_wp2
      go_ret
      exact ⟨ret_bool HR.out, HB.out⟩
end Go.Proofs.Ytlmkbnebpaopeaa
