/- package shape: textOf, Text. -/
import Derived.Test.YtngnjlmpmpdnjaaDoorShBuild
namespace Go.Proofs.YtngnjlmpmpdnjaaDoor
open Go.RowKit Go.Sh
/-- What stands in a text for a shape. -/
def pc (s : ByteArray) : ByteArray := if s.size = 0 then ⟨#[45]⟩ else s
theorem pc_data (s : ByteArray) : (pc s).data.toList = piece s := by
  unfold pc piece
  split <;> rfl
theorem pc_size (s : ByteArray) : (pc s).size ≤ s.size + 1 := by
  unfold pc
  split
  · exact Nat.le_add_left _ _
  · omega
theorem ret_str {a b : ByteArray} (h : a = b) : Ending.returned (.string a) = .returned (.string b) := by rw [h]
theorem empty_of_size {s : ByteArray} (h : s.size = 0) : s = ⟨#[]⟩ := by
  apply ByteArray.ext
  exact Array.eq_empty_of_size_eq_zero h
theorem toL (s : ByteArray) : s.toList = s.data.toList := by
  exact ByteArray.toList_eq s
theorem isEmpty_no {s : ByteArray} (h : ¬ s.size = 0) : s.toList.isEmpty = false := by
  rw [toL, List.isEmpty_eq_false_iff]
  intro e
  apply h
  have := congrArg List.length e
  simpa using this
theorem textOf_any (s : ByteArray) (w : World) : Calls Tryd.prog 36 #[.string s] w fun e w' => e = .returned (.string (pc s)) ∧ w' = w := by
  by_cases h : s.size = 0
  · obtain rfl := empty_of_size h
    go_enter Tryd.func36, Tryd.ntmps36
    go_wp2
    go_ret
    exact ⟨rfl, rfl⟩
  · have hp : pc s = s := by simp [pc, h]
    have hb := isEmpty_no h
    rw [hp]
    go_enter Tryd.func36, Tryd.ntmps36
    go_wp2
    go_ret
    exact ⟨rfl, rfl⟩
theorem text_bd {ss : List ByteArray} (h : right ss = true) : ∀ k, k ≤ ss.length → (text (ss.take k)).length ≤ 10 * k
  | 0, _ => by simp [text]
  | k + 1, hk => by
    have := text_bd h k (by omega)
    rw [text_take (by omega)]
    have h1 := piece_le (at' ss k)
    have h2 := one_size (right_all h k (by omega))
    simp only [List.length_append]
    split <;> simp <;> omega
/-- What Text answers. -/
def tx (ss : List ByteArray) : ByteArray × Int := if right ss then (⟨(text ss).toArray⟩, 0) else (ByteArray.empty, 2)
set_option maxHeartbeats 2000000 in
theorem Text_no (v : Value) (ss : List ByteArray) (w : World) (h : IsTab w v ss) (hr : right ss = false) :
    Calls Tryd.prog 24 #[v] w fun e w' => e = .returned (.tuple #[.string ByteArray.empty, .int .i64 2]) ∧ Below w.heap.size w w' := by
  have c := check_any v ss w h
  rw [hr] at c
  clear hr h
  go_enter Tryd.func24, Tryd.ntmps24
  go_wp2_with (go_at_call 16; refine c.mono ?_; rintro e w1 ⟨rfl, b1⟩; simp only [er])
  go_ret2
  exact ⟨rfl, b1⟩
set_option maxRecDepth 100000 in
set_option maxHeartbeats 2000000 in
theorem Text_yes (v : Value) (ss : List ByteArray) (w : World) (h : IsTab w v ss) (hr : right ss = true) :
    Calls Tryd.prog 24 #[v] w fun e w' => e = .returned (.tuple #[.string ⟨(text ss).toArray⟩, .int .i64 0]) ∧ Below w.heap.size w w' := by
  have c := check_any v ss w h
  rw [hr] at c
  obtain ⟨r1, r16⟩ := right_len hr
  have HR := hid hr
  clear hr
  obtain ⟨b, off, cap, rfl, hc⟩ := h.some r1
  clear h
  have HC := hid hc
  have Hb : Hid (b < w.heap.size) := hid (block_lt_of_cell (hc 0 r1))
  clear hc
  obtain ⟨len, hlen⟩ : ∃ len, len = ss.length := ⟨_, rfl⟩
  have HL := hid hlen
  rw [← hlen] at r1 r16 c ⊢
  clear hlen
  go_enter Tryd.func24, Tryd.ntmps24
  go_wp2_with (go_at_call 16; refine c.mono ?_; rintro e w1 ⟨rfl, b1⟩; simp only [er])
  have f0 := Lib.IsBuilderF.of (Lib.fresh_isBuilder 67 5 w1)
  obtain ⟨g, hg⟩ : ∃ g, g = w1.heap.size := ⟨_, rfl⟩
  have HG := hid hg
  have a0 : Below g w1 (w1.alloc (.cells #[.pointer none, .slice none 0 0] 67)) := hg ▸ below_alloc0 _ _
  rw [← hg] at f0 ⊢
  clear hg
  go_loopw [15] (fun i wr => ∃ k : Nat, k ≤ len ∧ i = .int .i64 k ∧ IsB g g (text (ss.take k)) wr ∧ Below g w1 wr) (fun i _ => len - (intOf i).toNat)
  case atStart => exact ⟨0, by omega, rfl, f0, a0⟩
  case round =>
    obtain ⟨k, hk, rfl, hI, ar⟩ := hrel
    have hwr : g ≤ wr.heap.size := by have := ar.size; have := HG.out; omega
    have HT := hid (text_bd HR.out k (by rw [← HL.out]; exact hk))
    by_cases hlt : k < len
    · have hcell := HC.out k (by rw [← HL.out]; exact hlt)
      have hcr : wr.cell? ⟨b, off + k, none⟩ = some (.string (at' ss k)) := (ar.cell (p := ⟨b, off + k, none⟩) (by have := Hb.out; have := b1.size; have := HG.out; show b < g; omega)).trans ((b1.cell (p := ⟨b, off + k, none⟩) Hb.out).trans hcell)
      have HX := hid (one_size (right_all HR.out k (by rw [← HL.out]; exact hlt)))
      have HS := hid (text_take (l := ss) (k := k) (by rw [← HL.out]; exact hlt))
      clear hcell
      obtain ⟨x, hx⟩ : ∃ x, x = at' ss k := ⟨_, rfl⟩
      rw [← hx] at hcr HX HS
      clear hx
      obtain ⟨t, ht⟩ : ∃ t, t = text (ss.take k) := ⟨_, rfl⟩
      rw [← ht] at hI HS HT
      clear ht
      have HP := hid (pc_size x)
      have HD := hid (pc_data x)
      by_cases h0 : k = 0
      · subst h0
        rw [Nat.add_zero] at hcr
        have hx1 : t.length + (pc x).size ≤ 1000000 := by have := HX.out; have := HT.out; have := HP.out; omega
        go_wp2_with (first | (go_at_call 36; refine (textOf_any _ _).mono ?_; rintro e w2 ⟨rfl, rfl⟩) | (go_at_call 35; refine (Write_any g g t (pc x) _ hI hx1 hwr).mono ?_; rintro e w2 ⟨rfl, i2, b2⟩))
        refine ⟨⟨1, by omega, rfl, ?_, ar.trans b2⟩, by simp [intOf]; omega⟩
        have e := HS.out
        simp only [Nat.zero_add, if_pos] at e
        rw [e, List.nil_append, ← HD.out]
        exact i2
      · have hk0 : (0 : Int) < (k : Int) := by omega
        have hx0 : t.length + (⟨#[32]⟩ : ByteArray).size ≤ 1000000 := by have := HT.out; show t.length + 1 ≤ 1000000; omega
        have hx1 : (t ++ [32]).length + (pc x).size ≤ 1000000 := by have := HX.out; have := HT.out; have := HP.out; simp; omega
        go_wp2_with (first | (go_at_call 35; refine (Write_any g g t ⟨#[32]⟩ _ hI hx0 hwr).mono ?_; clear hI; rintro e w2 ⟨rfl, i2, b2⟩; have hwr2 : g ≤ w2.heap.size := Nat.le_trans hwr b2.size) | (go_at_call 36; refine (textOf_any _ _).mono ?_; rintro e w3 ⟨rfl, rfl⟩) | (go_at_call 35; refine (Write_any g g (t ++ [32]) (pc x) _ i2 hx1 hwr2).mono ?_; rintro e w4 ⟨rfl, i4, b4⟩))
        refine ⟨⟨k + 1, by omega, by simp, ?_, (ar.trans b2).trans b4⟩, by simp [intOf]; omega⟩
        have e := HS.out
        simp only [if_neg h0] at e
        rw [e, ← HD.out, ← List.append_assoc]
        exact i4
    · obtain rfl : k = len := by omega
      have HM : Hid (text (ss.take k) = text ss) := hid (by rw [HL.out, List.take_length])
      rw [HM.out] at hI
      go_wp2_with (go_at_call 37; refine (Tryd.Builder_String_any_f g g (text ss) _ hI hwr).mono ?_; rintro e w2 ⟨rfl, _, b2⟩)
      go_ret2
      exact ⟨rfl, b1.trans ((ar.trans b2).mono (by rw [HG.out]; exact b1.size))⟩
theorem Text_any (v : Value) (ss : List ByteArray) (w : World) (h : IsTab w v ss) :
    Calls Tryd.prog 24 #[v] w fun e w' => e = .returned (.tuple #[.string (tx ss).1, .int .i64 (tx ss).2]) ∧ Below w.heap.size w w' := by
  by_cases hr : right ss = true
  · have : tx ss = (⟨(text ss).toArray⟩, 0) := by simp [tx, hr]
    rw [this]
    exact Text_yes v ss w h hr
  · have hr' : right ss = false := by simpa using hr
    have : tx ss = (ByteArray.empty, 2) := by simp [tx, hr']
    rw [this]
    exact Text_no v ss w h hr'
end Go.Proofs.YtngnjlmpmpdnjaaDoor
