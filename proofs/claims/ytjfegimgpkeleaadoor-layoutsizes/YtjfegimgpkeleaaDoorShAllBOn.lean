/- package shape: All: the iterator's contract, with the elements told by another type (so that a loop's body need not answer for kinds that are none). -/
import Derived.Test.YtjfegimgpkeleaaDoorShAll
import Derived.Test.YtjfegimgpkeleaaDoorBsKitOn
namespace Go.Proofs.YtjfegimgpkeleaaDoor
open Go.RowKit Go.Sh Go.Shelf
attribute [local go_sem] Oper.semAt_some
set_option maxRecDepth 100000 in
set_option maxHeartbeats 2000000 in
theorem allB_yes {α : Type} (enc : α → Array Value) (el : Nat → α) (n l Bs : Nat) (s : ByteArray) (h1 : one s = true) (hel : ∀ k, k < s.size → enc (el k) = encF (fieldAt s k)) (J Jx : List α → World → Prop) (W : World) (hJ : AbidesFrom W.heap.size J)
    (hY : ∀ pre x W1, J pre W1 → pre.length < s.size → YieldAt Fence.wide (n - 1) Tryd.prog l (enc x) W1 fun e W' =>
      (e = .returned (.bool true) ∧ J (pre ++ [x]) W' ∧ KeepsWalks W1 W') ∨ (e = .returned (.bool false) ∧ Jx (pre ++ [x]) W'))
    (hBs : W.cell? ⟨Bs, 0, none⟩ = some (.string s)) (h0 : J [] W) (hn : 1 ≤ n) :
    CallsIn Fence.wide n Tryd.prog 77 #[.func (.yield l) #[] #[], .pointer (some ⟨Bs, 0, none⟩)] W fun e W' => (∃ v, e = .returned v) ∧
      ((∃ ys, ys = upto el s.size ∧ J ys W') ∨ (∃ pre, (∃ k, k ≤ s.size ∧ pre = upto el k) ∧ Jx pre W')) := by
  have c := (callsIn_wide (n := n - 1)).2 (may_any s W)
  rw [h1] at c
  have hlt := block_lt_of_cell hBs
  refine callsIn_of_wp Tryd.func77 rfl trivial ?_ rfl
  simp only [Tryd.ntmps77, List.size_toArray, List.length_cons, List.length_nil, Nat.reduceAdd, Nat.reduceSub, Array.replicate_succ, Array.replicate_zero, List.push_toArray, List.append_toArray, List.nil_append, List.cons_append]
  gi_wp2
  refine ⟨trivial, ?_⟩
  gi_at_call 61
  refine c.mono ?_
  rintro e w1 ⟨rfl, b1⟩
  have hBs1 := (b1.cell (p := ⟨Bs, 0, none⟩) hlt).trans hBs
  have hBs2 := cell_al lettersObj hBs1
  gi_wp2
  refine ⟨trivial, ?_⟩
  gi_at_call 74
  refine (callsIn_wide.2 (letters_any _)).mono ?_
  rintro e w2 ⟨rfl, rfl⟩
  gi_wp2
  have hg0 : W.heap.size ≤ w1.heap.size := b1.size
  have hJ1 : J [] w1 := hJ _ _ _ none h0 (grown_of_below b1) (fun r e => by cases e)
  generalize hG : w1.heap.size = g at *
  gi_loopw [] (fun wr => ∃ k : Nat, k ≤ s.size ∧ wr.heap[g]? = some lettersObj ∧ wr.heap[g + 1]? = some (.stringIter s k) ∧ J (upto el k) wr)
    (fun wr => s.size - wr.iterPos (g + 1))
  case atStart =>
    refine ⟨0, Nat.zero_le _, ?_, ?_, ?_⟩
    · rw [← hG]; exact (Below.heap_alloc _ _ _ (by simp)).trans (heap_alloc_last w1 _)
    · have := World.iter_heap (w1.alloc lettersObj) s 0
      rw [← hG]; simpa using this
    · have h2 := hJ _ _ _ none hJ1 (World.grownBy_alloc w1 lettersObj none) (fun r e => by cases e)
      exact hJ _ _ _ none h2 (World.grownBy_alloc (w1.alloc lettersObj) (.stringIter s 0) none) (fun r e => by cases e)
  case round =>
    obtain ⟨k, hk, hm, hit, hJs⟩ := hrel
    by_cases hp : k < s.size
    · have hb : okB (s.data.toList.getD k 0) = true := by
        have hl : k < s.data.toList.length := by rw [Array.length_toList]; exact hp
        have := one_all h1 k hl
        rwa [List.getD_eq_getElem?_getD, List.getElem?_eq_getElem hl]
      obtain ⟨hw1, hlk⟩ := decode_okB s k hp hb
      have hnx0 : ∀ ty, (Instr.next (.pointer (some ⟨g + 1, 0, none⟩)) true ty).run Tryd.prog wr = .ok (.tuple #[.bool true, .int .i64 k, .int .i32 (Utf8.decode s k).1]) (wr.iterAt (g + 1) s (k + 1)) := fun ty => by
        have := Lib.run_next_any_at (P := Tryd.prog) wr (g + 1) s k ty hit hp
        rwa [hw1] at this
      have hm2 : (wr.iterAt (g + 1) s (k + 1)).heap[g]? = some lettersObj := (Lib.iterAt_other wr _ _ s _ (by omega)).trans hm
      have hit2 := Lib.iterAt_heap wr (g + 1) s k (k + 1) hit
      have hlo := lookup_plain _ _ hm2 ((Utf8.decode s k).1 : Int)
      rw [hlk] at hlo
      have hJ2 : J (upto el k) (wr.iterAt (g + 1) s (k + 1)) := hJ _ _ _ (some (g + 1)) hJs (grown_iterAt wr (g + 1) s (k + 1)) (fun r e => by cases e; exact ⟨by omega, _, hit, rfl⟩)
      obtain ⟨fn, tmps, assign, body, hy, hR⟩ := hY _ (el k) _ hJ2 (by rw [upto_length]; exact hp)
      rw [hel k hp] at hy
      dsimp only [encF, fieldAt] at hy
      clear hw1 hlk hb
      obtain ⟨kk, hkk⟩ : ∃ kk, kk = kb (s.data.toList.getD k 0) := ⟨_, rfl⟩
      rw [← hkk] at hlo hy
      clear hkk
      gi_wp2
      refine hR.mono ?_
      rintro e W3 (⟨rfl, hJ3, hk3⟩ | ⟨rfl, hJx3⟩)
      · gi_wp2
        go_roundw
        case rel => exact ⟨k + 1, by omega, hk3.same _ _ hm2 rfl, hk3.same _ _ hit2 rfl, by rw [upto_succ]; exact hJ3⟩
        case measure =>
          simp only [World.iterPos, hk3.same _ _ hit2 rfl, hit]
          omega
      · gi_wp2
        refine bodyPost_ret (results_none rfl _ _ _) rfl ?_
        exact ⟨⟨_, rfl⟩, .inr ⟨_, ⟨k + 1, by omega, (upto_succ _ _).symm⟩, hJx3⟩⟩
    · obtain rfl : k = s.size := by omega
      have hnx0 : ∀ ty, (Instr.next (.pointer (some ⟨g + 1, 0, none⟩)) true ty).run Tryd.prog wr = _ := fun ty => Lib.run_next_end_at wr (g + 1) s _ ty hit hp
      gi_wp2
      go_end0
      exact ⟨⟨_, rfl⟩, .inl ⟨_, rfl, hJs⟩⟩
/-- What All hands back of a shape goes over the fields, each with its kind; it may be left. -/
theorem AllB_stops {α : Type} (enc : α → Array Value) (el : Nat → α) (n : Nat) (hn : 1 ≤ n) (Bs : Nat) (s : ByteArray) (h1 : one s = true) (hel : ∀ k, k < s.size → enc (el k) = encF (fieldAt s k)) (w : World) (hc : w.cell? ⟨Bs, 0, none⟩ = some (.string s)) :
    SeqStopsK Fence.wide n Tryd.prog 77 #[.pointer (some ⟨Bs, 0, none⟩)] enc KeepsWalks (fun ys => ys = upto el s.size)
      (fun pre => ∃ k, k ≤ s.size ∧ pre = upto el k) s.size w := fun l J Jx W hW hJ _ hY h0 =>
  allB_yes enc el n l Bs s h1 hel J Jx W hJ hY ((hW.cell (p := ⟨Bs, 0, none⟩) (block_lt_of_cell hc)).trans hc) h0 hn
end Go.Proofs.YtjfegimgpkeleaaDoor
/- package head: isMark, a header under way (may, word), a word's parts. -/
namespace Go.Hd
/-- May it be a mark, a header? -/
def mk (m : Int) : Bool := decide (0 ≤ m) && decide (m ≤ 2)
def ok (s m : Int) : Bool := decide (0 ≤ s) && decide (s < 16) && mk m
/-- A header's word. -/
def wd (s m : Int) : Int := 8 * (4 * s + m) + 6
theorem mk_yes {m : Int} (h : mk m = true) : 0 ≤ m ∧ m ≤ 2 := by simpa [mk] using h
theorem ok_yes {s m : Int} (h : ok s m = true) : 0 ≤ s ∧ s < 16 ∧ 0 ≤ m ∧ m ≤ 2 := by
  simp [ok, mk] at h; omega
theorem sixteen {s : Int} (h0 : 0 ≤ s) (h1 : s < 16) : s = 0 ∨ s = 1 ∨ s = 2 ∨ s = 3 ∨ s = 4 ∨ s = 5 ∨ s = 6 ∨ s = 7 ∨ s = 8 ∨ s = 9 ∨ s = 10 ∨ s = 11 ∨ s = 12 ∨ s = 13 ∨ s = 14 ∨ s = 15 := by omega
theorem three {m : Int} (h0 : 0 ≤ m) (h1 : m ≤ 2) : m = 0 ∨ m = 1 ∨ m = 2 := by omega
theorem or_wd (s m : Int) (s0 : 0 ≤ s) (s1 : s < 16) (m0 : 0 ≤ m) (m1 : m ≤ 2) : bits .or .u64 (bits .or .u64 (s * 32) (m * 8)) 6 = wd s m := by
  rcases three m0 m1 with rfl | rfl | rfl <;>
  rcases sixteen s0 s1 with rfl | rfl | rfl | rfl | rfl | rfl | rfl | rfl | rfl | rfl | rfl | rfl | rfl | rfl | rfl | rfl <;> rfl
end Go.Hd
namespace Go.Proofs.YtjfegimgpkeleaaDoor
open Go.RowKit Go.Hd
theorem isMark_any (m : Int) (w : World) : Calls Tryd.prog 91 #[.int .i64 m] w fun e w' => e = .returned (.bool (mk m)) ∧ w' = w := by
  by_cases h0 : m < 0
  · have H : Hid (mk m = false) := hid (by simp [mk]; omega)
    go_enter Tryd.func91, Tryd.ntmps91
    go_wp2
    go_ret
    exact ⟨ret_bool H.out.symm, rfl⟩
  · have h0' : 0 ≤ m := by omega
    clear h0
    by_cases h1 : m ≤ 2
    · have H : Hid (mk m = true) := hid (by simp [mk]; omega)
      go_enter Tryd.func91, Tryd.ntmps91
      go_wp2
      go_ret
      exact ⟨ret_bool H.out.symm, rfl⟩
    · have H : Hid (decide (m ≤ 2) = mk m) := hid (by simp [mk, h0'])
      have h1' : 2 < m := by omega
      clear h1
      go_enter Tryd.func91, Tryd.ntmps91
      go_wp2
      go_ret
      exact ⟨ret_bool H.out, rfl⟩
theorem hmay_any (s m : Int) (w : World) : Calls Tryd.prog 75 #[.agg #[.int .i64 s, .int .i64 m]] w fun e w' => e = .returned (.bool (ok s m)) ∧ Below w.heap.size w w' := by
  by_cases h0 : s < 0
  · have H : Hid (ok s m = false) := hid (by simp [ok]; omega)
    go_enter Tryd.func75, Tryd.ntmps75
    go_wp2
    go_ret
    exact ⟨ret_bool H.out.symm, below_alloc0 w _⟩
  · have h0' : 0 ≤ s := by omega
    clear h0
    by_cases h1 : s < 16
    · have H : Hid (mk m = ok s m) := hid (by simp [ok, h0', h1])
      go_enter Tryd.func75, Tryd.ntmps75
      go_wp2_with (go_at_call 91; refine (isMark_any m _).mono ?_; rintro e w1 ⟨rfl, hw⟩; rw [hw]; clear hw)
      go_ret
      exact ⟨ret_bool H.out, below_alloc0 w _⟩
    · have H : Hid (ok s m = false) := hid (by simp [ok]; omega)
      have h1' : 16 ≤ s := by omega
      clear h1
      go_enter Tryd.func75, Tryd.ntmps75
      go_wp2
      go_ret
      exact ⟨ret_bool H.out.symm, below_alloc0 w _⟩
theorem hword_any (s m : Int) (w : World) (h : ok s m = true) : Calls Tryd.prog 76 #[.agg #[.int .i64 s, .int .i64 m]] w fun e w' => e = .returned (.int .u64 (wd s m)) ∧ Below w.heap.size w w' := by
  obtain ⟨s0, s1, m0, m1⟩ := ok_yes h
  have H := hid (or_wd s m s0 s1 m0 m1)
  clear h
  go_enter Tryd.func76, Tryd.ntmps76
  go_wp2
  go_ret
  exact ⟨ret_int H.out, below_alloc0 w _⟩
end Go.Proofs.YtjfegimgpkeleaaDoor
/- package shape: size$1 (what All goes over is counted), findField. -/
namespace Go.Proofs.YtjfegimgpkeleaaDoor
open Go.RowKit Go.Sh Go.Shelf
attribute [local go_sem] Oper.semAt_some
theorem box_own {A B : World} {row : Option Nat} {b : Nat} {t : TypeId} {v : Value} (h : Boxed A b t v) (hg : A.grownBy B row) (hr : ∀ r, row = some r → ∃ o : Obj, A.heap[r]? = some o ∧ o.isCells = false) : Boxed B b t v :=
  boxed_own (β := Unit) b t (fun _ => v) () A B row h hg hr
theorem wpIn_scope_wide {n : Nat} {P : Program} {Q : Exit → Act → World → Prop} {a : Act} {w : World} {c : Code} (h : c.wpIn Fence.wide n P (Exit.noGoto Q) a w) : (Code.scope c).wpIn Fence.wide n P Q a w :=
  wpIn_wide.2 (wp_scope_straight (wpIn_wide.1 h))
end Go.Proofs.YtjfegimgpkeleaaDoor
