/- package arena: Unlike, Same; the document's Same. -/
import Derived.Test.YtlmkbnebpaopeabArUnl
import Derived.Test.YtlmkbnebpaopeabArRef
namespace Go.Proofs.Ytlmkbnebpaopeab
open Go.RowKit Go.Shelf
attribute [local go_sem] Oper.semAt_some
/-- The numbers below k of words that are unlike. -/
def pl (xs ys : List Int) (k : Nat) : List Value := ((List.range k).filter fun i => dif xs ys i).map fun (i : Nat) => Value.int .i64 (i : Int)
theorem pl_hit {xs ys : List Int} {k : Nat} (h : dif xs ys k = true) : pl xs ys (k + 1) = pl xs ys k ++ [.int .i64 (k : Int)] := by simp [pl, List.range_succ, h]
theorem pl_miss {xs ys : List Int} {k : Nat} (h : dif xs ys k = false) : pl xs ys (k + 1) = pl xs ys k := by simp [pl, List.range_succ, h]
theorem pl_le (xs ys : List Int) (k : Nat) : (pl xs ys k).length ≤ k := by
  simp only [pl, List.length_map]
  have := List.length_filter_le (fun i => dif xs ys i) (List.range k)
  simpa using this
theorem told_pl (xs ys : List Int) : ∀ k, k ≤ xs.length → told xs ys (fus xs.length k) = pl xs ys k
  | 0, _ => by simp [fus, told, pl]
  | k + 1, h => by
    have ih := told_pl xs ys k (by omega)
    rw [fus_succ (show k < xs.length by omega)]
    by_cases hd : dif xs ys k = true
    · rw [told_hit _ (by exact hd), pl_hit hd, ih]
    · have hd' : dif xs ys k = false := by simpa using hd
      rw [told_miss _ (by exact hd'), pl_miss hd', ih]
theorem pl_mono (xs ys : List Int) (k : Nat) : ∀ j, (pl xs ys k).length ≤ (pl xs ys (k + j)).length
  | 0 => Nat.le_refl _
  | j + 1 => by
    have ih := pl_mono xs ys k j
    rw [← Nat.add_assoc]
    by_cases hd : dif xs ys (k + j) = true
    · rw [pl_hit hd]; simp; omega
    · rw [pl_miss (by simpa using hd)]; exact ih
theorem pl_same (xs : List Int) (k : Nat) : pl xs xs k = [] := by
  induction k with
  | zero => rfl
  | succ k ih => rw [pl_miss (by simp [dif]), ih]
theorem ownsRow_low {W : World} {b b' k : Nat} {e : TypeId} {size : Nat} {v : Value} {vs : List Value} (h : W.ownsRow b e size v k vs) (hb : b' ≤ b) : W.ownsRow b' e size v k vs := by
  refine ⟨h.1, ?_⟩
  rcases h.2 with h | ⟨g, cap, cur, h1, h2, h3⟩
  · exact .inl h
  · exact .inr ⟨g, cap, cur, h1, Nat.le_trans hb h2, h3⟩
theorem own_shape {W : World} {b k : Nat} {e : TypeId} {size : Nat} {v : Value} {vs : List Value} (h : W.ownsRow b e size v k vs) : ∃ a c, v = .slice a k c := by
  rcases h.2 with ⟨e, h0⟩ | ⟨g, cap, cur, e, _⟩
  · exact ⟨none, 0, by rw [e, h0]⟩
  · exact ⟨_, _, e⟩
/-- unlike, over an arena's words, behind All. -/
theorem unlike_at (A B b off c : Nat) (xs ys : List Int) (most : Int) (w : World) (ha : IsAr w A B xs) (hl : ys.length = xs.length) (hy : Ws w b off ys) :
    Calls Try.prog 22 #[.func (.func 27) #[] #[.pointer (some ⟨w.heap.size, 0, none⟩)], .slice (some ⟨b, off, none⟩) xs.length c, .int .i64 most] (w.alloc (.cells #[.slice (some ⟨B, 0, none⟩) xs.length xs.length] 28)) fun e W' =>
      ∃ a m c' k, e = .returned (.slice a m c') ∧ k ≤ xs.length ∧ m = (pl xs ys k).length ∧ W'.ownsRow w.heap.size 3 1 (.slice a m c') m (pl xs ys k) ∧ (k = xs.length ∨ (m : Int) = most) ∧ Below w.heap.size w W' := by
  refine (callsIn_wide.1 (unlike_in w.heap.size B b off c xs ys most _ ha.le hl (heap_alloc_last w _) (ha.alloc _).row (hy.below (below_alloc0 w _)))).mono ?_
  rintro e W' ⟨v, k, rfl, hk, ho, hm, hb⟩
  rw [told_pl xs ys k hk] at ho hm
  obtain ⟨a, c', rfl⟩ := own_shape ho
  exact ⟨a, _, c', k, rfl, hk, rfl, ownsRow_low ho (by simp; omega), hm, bel1 hb⟩
theorem Unlike_yes (A B A2 B2 : Nat) (xs ys : List Int) (w : World) (ha : IsAr w A B xs) (hb : IsAr w A2 B2 ys) (hl : ys.length = xs.length) :
    Calls Try.prog 14 #[.pointer (some ⟨A, 0, none⟩), .pointer (some ⟨A2, 0, none⟩)] w fun e W' =>
      ∃ a m c, e = .returned (.slice a m c) ∧ m = (pl xs ys xs.length).length ∧ W'.ownsRow w.heap.size 3 1 (.slice a m c) m (pl xs ys xs.length) ∧ Below w.heap.size w W' := by
  have c1 := Len_at _ _ _ _ w ha.faces
  have c2 := Len_at _ _ _ _ w hb.faces
  have c3 := AllA_at _ _ _ _ w ha.faces
  have c4 := list_at _ _ _ (hb.alloc (.cells #[.slice (some ⟨B, 0, none⟩) xs.length xs.length] 28)).faces
  have c5 := Len_at _ _ _ _ _ (ha.alloc (.cells #[.slice (some ⟨B, 0, none⟩) xs.length xs.length] 28)).faces
  rw [hl] at c2 c4
  have cu := unlike_at A B B2 0 xs.length xs ys xs.length w ha hl hb.ws
  have hne : ((xs.length : Int) != (xs.length : Int)) = false := by simp
  go_enter Try.func14, Try.ntmps14
  go_wp2_with (go_at_call 11; refine c1.mono ?_)
  rintro e w' ⟨rfl, hw⟩; rw [hw]; clear hw w'
  go_wp2_with (go_at_call 11; refine c2.mono ?_)
  rintro e w' ⟨rfl, hw⟩; rw [hw]; clear hw w'
  go_wp2_with (go_at_call 8; refine c3.mono ?_)
  rintro e w' ⟨rfl, hw⟩; rw [hw]; clear hw w'
  go_wp2_with (go_at_call 19; refine c4.mono ?_)
  rintro e w' ⟨rfl, hw⟩; rw [hw]; clear hw w'
  go_wp2_with (go_at_call 11; refine c5.mono ?_)
  rintro e w' ⟨rfl, hw⟩; rw [hw]; clear hw w'
  go_wp2_with (go_at_call 22; refine cu.mono ?_)
  rintro e w' ⟨a, m, c', k, rfl, hk, hm, ho, hq, hB⟩
  have HO := hid ho
  have HM := hid hm
  clear hm ho
  go_wp2
  go_ret
  have hkk : k = xs.length := by
    rcases hq with h | h
    · exact h
    · have := pl_le xs ys k
      have := HM.out
      omega
  subst hkk
  exact ⟨a, m, c', rfl, HM.out, HO.out, hB⟩
theorem Unlike_no (p1 p2 : Value) (a1 a2 : Option Addr) (n1 n2 c1 c2 : Nat) (w : World) (h1 : Faces w p1 (.slice a1 n1 c1)) (h2 : Faces w p2 (.slice a2 n2 c2)) (hn : n1 ≠ n2) :
    Calls Try.prog 14 #[p1, p2] w fun e W' => e = .returned (.slice none 0 0) ∧ W' = w := by
  have d1 := Len_at _ _ _ _ w h1
  have d2 := Len_at _ _ _ _ w h2
  have hne : ((n1 : Int) != (n2 : Int)) = true := by simp; omega
  go_enter Try.func14, Try.ntmps14
  go_wp2_with (go_at_call 11; refine d1.mono ?_)
  rintro e w' ⟨rfl, hw⟩; rw [hw]; clear hw w'
  go_wp2_with (go_at_call 11; refine d2.mono ?_)
  rintro e w' ⟨rfl, hw⟩; rw [hw]; clear hw w'
  go_wp2
  go_ret
  exact ⟨rfl, rfl⟩
theorem Same_yes (A B A2 B2 : Nat) (xs ys : List Int) (r : Bool) (w : World) (ha : IsAr w A B xs) (hb : IsAr w A2 B2 ys) (hl : ys.length = xs.length) (hr : Hid (((pl xs ys xs.length).length == 0) = r)) :
    Calls Try.prog 13 #[.pointer (some ⟨A, 0, none⟩), .pointer (some ⟨A2, 0, none⟩)] w fun e W' => e = .returned (.bool r) ∧ Below w.heap.size w W' := by
  have c1 := Len_at _ _ _ _ w ha.faces
  have c2 := Len_at _ _ _ _ w hb.faces
  have c3 := AllA_at _ _ _ _ w ha.faces
  have c4 := list_at _ _ _ (hb.alloc (.cells #[.slice (some ⟨B, 0, none⟩) xs.length xs.length] 28)).faces
  rw [hl] at c2 c4
  have cu := unlike_at A B B2 0 xs.length xs ys 1 w ha hl hb.ws
  have hne : ((xs.length : Int) == (xs.length : Int)) = true := by simp
  go_enter Try.func13, Try.ntmps13
  go_wp2_with (go_at_call 11; refine c1.mono ?_)
  rintro e w' ⟨rfl, hw⟩; rw [hw]; clear hw w'
  go_wp2_with (go_at_call 11; refine c2.mono ?_)
  rintro e w' ⟨rfl, hw⟩; rw [hw]; clear hw w'
  go_wp2_with (go_at_call 8; refine c3.mono ?_)
  rintro e w' ⟨rfl, hw⟩; rw [hw]; clear hw w'
  go_wp2_with (go_at_call 19; refine c4.mono ?_)
  rintro e w' ⟨rfl, hw⟩; rw [hw]; clear hw w'
  go_wp2_with (go_at_call 22; refine cu.mono ?_)
  rintro e w' ⟨a, m, c', k, rfl, hk, hm, ho, hq, hB⟩
  have HR : Hid (((m : Int) == 0) = r) := hid (by
    rw [← hr.out, hm]
    rcases hq with h | h
    · subst h
      rw [Bool.eq_iff_iff]; simp
    · have e := pl_mono xs ys k (xs.length - k)
      rw [show k + (xs.length - k) = xs.length by omega] at e
      have e2 : (pl xs ys k).length = 1 := by omega
      have e3 : ((pl xs ys xs.length).length == 0) = false := by rw [beq_eq_false_iff_ne]; omega
      rw [e3, e2]; rfl)
  clear hm ho hq
  go_wp2
  go_ret
  exact ⟨ret_bool HR.out, hB⟩
theorem Same_no (p1 p2 : Value) (a1 a2 : Option Addr) (n1 n2 c1 c2 : Nat) (w : World) (h1 : Faces w p1 (.slice a1 n1 c1)) (h2 : Faces w p2 (.slice a2 n2 c2)) (hn : n1 ≠ n2) :
    Calls Try.prog 13 #[p1, p2] w fun e W' => e = .returned (.bool false) ∧ W' = w := by
  have d1 := Len_at _ _ _ _ w h1
  have d2 := Len_at _ _ _ _ w h2
  have hne : ((n1 : Int) == (n2 : Int)) = false := by simp; omega
  go_enter Try.func13, Try.ntmps13
  go_wp2_with (go_at_call 11; refine d1.mono ?_)
  rintro e w' ⟨rfl, hw⟩; rw [hw]; clear hw w'
  go_wp2_with (go_at_call 11; refine d2.mono ?_)
  rintro e w' ⟨rfl, hw⟩; rw [hw]; clear hw w'
  go_wp2
  go_ret
  exact ⟨rfl, rfl⟩
end Go.Proofs.Ytlmkbnebpaopeab
