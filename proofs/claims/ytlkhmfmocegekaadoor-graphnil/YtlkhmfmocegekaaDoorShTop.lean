/- package shape: findShape, greatest, size, Size, Most, Kind, Is. -/
import Derived.Test.YtlkhmfmocegekaaDoorShSizeOn
namespace Go.Proofs.YtlkhmfmocegekaaDoor
open Go.RowKit Go.Sh
def fs (ss : List ByteArray) (n : Int) : ByteArray × Int := if right ss then (if inR n ss.length then (at' ss n.toNat, 0) else (ByteArray.empty, 130)) else (ByteArray.empty, 2)
theorem ret_si {a b : ByteArray} {c d : Int} (h : a = b) (h2 : c = d) : Ending.returned (.tuple #[.string a, .int .i64 c]) = .returned (.tuple #[.string b, .int .i64 d]) := by rw [h, h2]
theorem fs_no {ss : List ByteArray} {n : Int} (h : right ss = false) : fs ss n = (ByteArray.empty, 2) := by simp [fs, h]
theorem fs_out {ss : List ByteArray} {n : Int} (h : right ss = true) (h2 : inR n ss.length = false) : fs ss n = (ByteArray.empty, 130) := by simp [fs, h, h2]
theorem fs_in {ss : List ByteArray} {k : Nat} (h : right ss = true) (h2 : k < ss.length) : fs ss k = (at' ss k, 0) := by simp [fs, h, inR, h2]
set_option maxHeartbeats 2000000 in
theorem findShape_no (v : Value) (ss : List ByteArray) (n : Int) (w : World) (h : IsTab w v ss) (hr : right ss = false) :
    Calls Tryd.prog 38 #[v, .int .i64 n] w fun e w' => e = .returned (.tuple #[.string (fs ss n).1, .int .i64 (fs ss n).2]) ∧ Below w.heap.size w w' := by
  have c := check_any v ss w h
  rw [hr] at c
  have HF := hid (fs_no (n := n) hr)
  clear hr h
  go_enter Tryd.func38, Tryd.ntmps38
  go_wp2_with (go_at_call 46; refine c.mono ?_; rintro e w1 ⟨rfl, b1⟩; simp only [er])
  go_ret2
  exact ⟨by rw [HF.out]; rfl, b1⟩
set_option maxHeartbeats 2000000 in
theorem findShape_neg (v : Value) (ss : List ByteArray) (n : Int) (w : World) (h : IsTab w v ss) (hr : right ss = true) (hn : n < 0) :
    Calls Tryd.prog 38 #[v, .int .i64 n] w fun e w' => e = .returned (.tuple #[.string (fs ss n).1, .int .i64 (fs ss n).2]) ∧ Below w.heap.size w w' := by
  have c := check_any v ss w h
  rw [hr] at c
  have HF := hid (fs_out (n := n) hr (by simp [inR]; omega))
  clear hr
  obtain ⟨a, cap, rfl⟩ := h.len
  clear h
  go_enter Tryd.func38, Tryd.ntmps38
  go_wp2_with (go_at_call 46; refine c.mono ?_; rintro e w1 ⟨rfl, b1⟩; simp only [er])
  go_ret2
  exact ⟨by rw [HF.out]; rfl, b1⟩
set_option maxHeartbeats 2000000 in
theorem findShape_big (v : Value) (ss : List ByteArray) (n : Int) (w : World) (h : IsTab w v ss) (hr : right ss = true) (hn : (ss.length : Int) ≤ n) :
    Calls Tryd.prog 38 #[v, .int .i64 n] w fun e w' => e = .returned (.tuple #[.string (fs ss n).1, .int .i64 (fs ss n).2]) ∧ Below w.heap.size w w' := by
  have c := check_any v ss w h
  rw [hr] at c
  have HF := hid (fs_out (n := n) hr (by simp [inR]; omega))
  have h0 : 0 ≤ n := by omega
  clear hr
  obtain ⟨a, cap, rfl⟩ := h.len
  clear h
  go_enter Tryd.func38, Tryd.ntmps38
  go_wp2_with (go_at_call 46; refine c.mono ?_; rintro e w1 ⟨rfl, b1⟩; simp only [er])
  go_ret2
  exact ⟨by rw [HF.out]; rfl, b1⟩
set_option maxHeartbeats 2000000 in
theorem findShape_in (v : Value) (ss : List ByteArray) (k : Nat) (w : World) (h : IsTab w v ss) (hr : right ss = true) (hk : k < ss.length) :
    Calls Tryd.prog 38 #[v, .int .i64 (k : Int)] w fun e w' => e = .returned (.tuple #[.string (fs ss k).1, .int .i64 (fs ss k).2]) ∧ Below w.heap.size w w' := by
  have c := check_any v ss w h
  rw [hr] at c
  have HF := hid (fs_in hr hk)
  have h16 := (right_len hr).2
  clear hr
  obtain ⟨b, off, cap, rfl, hc⟩ := h.some (by omega)
  have hcell := hc k hk
  have hbk := block_lt_of_cell hcell
  clear h hc
  obtain ⟨len, hlen⟩ : ∃ len, len = ss.length := ⟨_, rfl⟩
  rw [← hlen] at hk h16 c ⊢
  clear hlen
  obtain ⟨x, hx⟩ : ∃ x, x = at' ss k := ⟨_, rfl⟩
  rw [← hx] at hcell HF
  clear hx
  go_enter Tryd.func38, Tryd.ntmps38
  go_wp2_with (go_at_call 46; refine c.mono ?_; rintro e w1 ⟨rfl, b1⟩; simp only [er]; have hc1 := (b1.cell (p := ⟨b, off + k, none⟩) hbk).trans hcell)
  go_ret2
  exact ⟨by rw [HF.out]; rfl, b1⟩
theorem findShape_any (v : Value) (ss : List ByteArray) (n : Int) (w : World) (h : IsTab w v ss) :
    Calls Tryd.prog 38 #[v, .int .i64 n] w fun e w' => e = .returned (.tuple #[.string (fs ss n).1, .int .i64 (fs ss n).2]) ∧ Below w.heap.size w w' := by
  by_cases hr : right ss = true
  · by_cases h0 : n < 0
    · exact findShape_neg v ss n w h hr h0
    · by_cases h1 : (ss.length : Int) ≤ n
      · exact findShape_big v ss n w h hr h1
      · obtain ⟨k, rfl⟩ : ∃ k : Nat, n = k := ⟨n.toNat, by omega⟩
        exact findShape_in v ss k w h hr (by omega)
  · exact findShape_no v ss n w h (by simpa using hr)
set_option maxRecDepth 100000 in
set_option maxHeartbeats 2000000 in
theorem greatest_any (b off cap : Nat) (ss : List ByteArray) (w : World) (h16 : ss.length ≤ 16) (hc : Hid (∀ i, i < ss.length → w.cell? ⟨b, off + i, none⟩ = some (.string (at' ss i)))) :
    Calls Tryd.prog 65 #[.slice (some ⟨b, off, none⟩) ss.length cap, .func (.func 66) #[] #[]] w fun e w' => e = .returned (.int .i64 (mostF ss)) ∧ Below w.heap.size w w' := by
  obtain ⟨len, hlen⟩ : ∃ len, len = ss.length := ⟨_, rfl⟩
  have HL := hid hlen
  rw [← hlen] at h16
  rw [← hlen]
  clear hlen
  go_enter Tryd.func65, Tryd.ntmps65
  go_wp2
  go_loopw [5, 10] (fun m i wr => ∃ k : Nat, k ≤ len ∧ i = .int .i64 k ∧ m = .int .i64 (mostF (ss.take k)) ∧ Below w.heap.size w wr) (fun _ i _ => len - (intOf i).toNat)
  case atStart => exact ⟨0, by omega, rfl, rfl, Below.refl _ _⟩
  case round =>
    obtain ⟨k, hk, rfl, rfl, ar⟩ := hrel
    by_cases hlt : k < len
    · have hcell := hc.out k (by rw [← HL.out]; exact hlt)
      have hbk := block_lt_of_cell hcell
      have hcr : wr.cell? ⟨b, off + k, none⟩ = some (.string (at' ss k)) := (ar.cell (p := ⟨b, off + k, none⟩) hbk).trans hcell
      have HM := hid (mostF_take (l := ss) (k := k) (by rw [← HL.out]; exact hlt))
      clear hcell
      obtain ⟨x, hx⟩ : ∃ x, x = at' ss k := ⟨_, rfl⟩
      rw [← hx] at hcr HM
      clear hx
      generalize mostF (ss.take k) = m at *
      have c := size1_any x wr
      generalize 2 + (fields x : Int) = y at *
      go_wp2_with (go_at_call 66; refine c.mono ?_; rintro e w2 ⟨rfl, b2⟩)
      refine ⟨⟨k + 1, by omega, by simp, ?_, ar.trans (b2.mono ar.size)⟩, by simp [intOf]; omega⟩
      have e : (if m < y then y else m) = max m y := by split <;> omega
      first
      | rw [HM.out, e]
      | rw [HM.out]
    · obtain rfl : k = len := by omega
      have HM : Hid (mostF (ss.take k) = mostF ss) := hid (by rw [HL.out, List.take_length])
      go_wp2
      go_ret
      exact ⟨ret_int HM.out, ar⟩
set_option maxHeartbeats 2000000 in
theorem size_any (b off cap : Nat) (ss : List ByteArray) (w : World) (h16 : ss.length ≤ 16) (hc : Hid (∀ i, i < ss.length → w.cell? ⟨b, off + i, none⟩ = some (.string (at' ss i)))) :
    Calls Tryd.prog 39 #[.slice (some ⟨b, off, none⟩) ss.length cap] w fun e w' => e = .returned (.int .i64 (mostF ss)) ∧ Below w.heap.size w w' := by
  have c := greatest_any b off cap ss w h16 hc
  go_enter Tryd.func39, Tryd.ntmps39
  go_wp2_with (go_at_call 65; refine c.mono ?_; rintro e w1 ⟨rfl, b1⟩)
  go_ret
  exact ⟨rfl, b1⟩
/-- size of one shape, that a new block holds. -/
theorem size_one (x : ByteArray) (hx : one x = true) (t : TypeId) (w : World) :
    Calls Tryd.prog 39 #[.slice (some ⟨w.heap.size, 0, none⟩) 1 1] (w.alloc (.cells #[.string x] t)) fun e w' => e = .returned (.int .i64 (2 + (x.size : Int))) ∧ Below w.heap.size w w' := by
  refine (size_any w.heap.size 0 1 [x] (w.alloc (.cells #[.string x] t)) (by simp) (hid (fun i hi => ?_))).mono ?_
  · obtain rfl : i = 0 := by simp at hi; omega
    exact cell_last w _ t 0 _ rfl
  · rintro e w' ⟨rfl, b⟩
    refine ⟨ret_int ?_, bel1 b⟩
    simp only [mostF, List.foldl_cons, List.foldl_nil, fields_one hx]
    omega
theorem sz_no {ss : List ByteArray} {n : Int} (h : right ss = false) : sz ss n = (0, 2) := by simp [sz, h]
theorem sz_out {ss : List ByteArray} {n : Int} (h : right ss = true) (h2 : inR n ss.length = false) : sz ss n = (0, 130) := by simp [sz, h, h2]
theorem sz_in {ss : List ByteArray} {n : Int} (h : right ss = true) (h2 : inR n ss.length = true) : sz ss n = (2 + ((at' ss n.toNat).size : Int), 0) := by simp [sz, h, h2]
theorem inR_lt {n : Int} {k : Nat} (h : inR n k = true) : n.toNat < k := by simp [inR] at h; omega
set_option maxHeartbeats 2000000 in
theorem Size_err (v : Value) (ss : List ByteArray) (n : Int) (w : World) (h : IsTab w v ss) (x : ByteArray) (c : Int) (hf : fs ss n = (x, c)) (hc : (c == 0) = false) :
    Calls Tryd.prog 24 #[v, .int .i64 n] w fun e w' => e = .returned (.tuple #[.int .i64 0, .int .i64 c]) ∧ Below w.heap.size w w' := by
  have c0 := findShape_any v ss n w h
  rw [hf] at c0
  clear hf h
  go_enter Tryd.func24, Tryd.ntmps24
  go_wp2_with (go_at_call 38; refine c0.mono ?_; rintro e w1 ⟨rfl, b1⟩)
  go_ret2
  exact ⟨rfl, b1⟩
set_option maxHeartbeats 2000000 in
theorem Size_ok (v : Value) (ss : List ByteArray) (n : Int) (w : World) (h : IsTab w v ss) (x : ByteArray) (hf : fs ss n = (x, 0)) (hx : one x = true) :
    Calls Tryd.prog 24 #[v, .int .i64 n] w fun e w' => e = .returned (.tuple #[.int .i64 (2 + (x.size : Int)), .int .i64 0]) ∧ Below w.heap.size w w' := by
  have c0 := findShape_any v ss n w h
  rw [hf] at c0
  clear hf h
  have HX := hid hx
  clear hx
  go_enter Tryd.func24, Tryd.ntmps24
  go_wp2_with (first | (go_at_call 38; refine c0.mono ?_; rintro e w1 ⟨rfl, b1⟩) | (go_at_call 39; refine (size_one x HX.out _ _).mono ?_; rintro e w2 ⟨rfl, b2⟩))
  go_ret2
  exact ⟨rfl, b1.trans (b2.mono b1.size)⟩
theorem Size_any (v : Value) (ss : List ByteArray) (n : Int) (w : World) (h : IsTab w v ss) :
    Calls Tryd.prog 24 #[v, .int .i64 n] w fun e w' => e = .returned (.tuple #[.int .i64 (sz ss n).1, .int .i64 (sz ss n).2]) ∧ Below w.heap.size w w' := by
  by_cases hr : right ss = true
  · by_cases h2 : inR n ss.length = true
    · rw [sz_in hr h2]
      exact Size_ok v ss n w h _ (by simp [fs, hr, h2]) (right_all hr _ (inR_lt h2))
    · have h2' : inR n ss.length = false := by simpa using h2
      rw [sz_out hr h2']
      exact Size_err v ss n w h _ _ (fs_out hr h2') rfl
  · have hr' : right ss = false := by simpa using hr
    rw [sz_no hr']
    exact Size_err v ss n w h _ _ (fs_no hr') rfl
/-- What Most answers. -/
def ms (ss : List ByteArray) : Int × Int := if right ss then (most ss, 0) else (0, 2)
set_option maxHeartbeats 2000000 in
theorem Kind_err (v : Value) (ss : List ByteArray) (n f : Int) (w : World) (h : IsTab w v ss) (x : ByteArray) (c : Int) (hf : fs ss n = (x, c)) (hc : (c == 0) = false) :
    Calls Tryd.prog 89 #[v, .int .i64 n, .int .i64 f] w fun e w' => e = .returned (.tuple #[.int .i64 0, .int .i64 c]) ∧ Below w.heap.size w w' := by
  have c0 := findShape_any v ss n w h
  rw [hf] at c0
  clear hf h
  go_enter Tryd.func89, Tryd.ntmps89
  go_wp2_with (go_at_call 38; refine c0.mono ?_; rintro e w1 ⟨rfl, b1⟩)
  go_ret2
  exact ⟨rfl, b1⟩
set_option maxHeartbeats 2000000 in
theorem Kind_ok (v : Value) (ss : List ByteArray) (n f : Int) (w : World) (h : IsTab w v ss) (x : ByteArray) (hf : fs ss n = (x, 0)) (hx : one x = true) :
    Calls Tryd.prog 89 #[v, .int .i64 n, .int .i64 f] w fun e w' => e = .returned (.tuple #[.int .i64 (fd x f).1, .int .i64 (fd x f).2]) ∧ Below w.heap.size w w' := by
  have c0 := findShape_any v ss n w h
  rw [hf] at c0
  clear hf h
  have HX := hid hx
  clear hx
  go_enter Tryd.func89, Tryd.ntmps89
  go_wp2_with (first | (go_at_call 38; refine c0.mono ?_; rintro e w1 ⟨rfl, b1⟩) | (go_at_call 91; refine (findField_any x HX.out f _).mono ?_; rintro e w2 ⟨rfl, b2⟩))
  go_ret2
  exact ⟨rfl, b1.trans (b2.mono b1.size)⟩
theorem Kind_any (v : Value) (ss : List ByteArray) (n f : Int) (w : World) (h : IsTab w v ss) :
    Calls Tryd.prog 89 #[v, .int .i64 n, .int .i64 f] w fun e w' => e = .returned (.tuple #[.int .i64 (kd ss n f).1, .int .i64 (kd ss n f).2]) ∧ Below w.heap.size w w' := by
  by_cases hr : right ss = true
  · by_cases h2 : inR n ss.length = true
    · have : kd ss n f = fd (at' ss n.toNat) f := by simp [kd, hr, h2]
      rw [this]
      exact Kind_ok v ss n f w h _ (by simp [fs, hr, h2]) (right_all hr _ (inR_lt h2))
    · have h2' : inR n ss.length = false := by simpa using h2
      have : kd ss n f = (0, 130) := by simp [kd, hr, h2']
      rw [this]
      exact Kind_err v ss n f w h _ _ (fs_out hr h2') rfl
  · have hr' : right ss = false := by simpa using hr
    have : kd ss n f = (0, 2) := by simp [kd, hr']
    rw [this]
    exact Kind_err v ss n f w h _ _ (fs_no hr') rfl
theorem Kind_at (v : Value) (ss : List ByteArray) (n f k c : Int) (w : World) (h : IsTab w v ss) (hk : kd ss n f = (k, c)) :
    Calls Tryd.prog 89 #[v, .int .i64 n, .int .i64 f] w fun e w' => e = .returned (.tuple #[.int .i64 k, .int .i64 c]) ∧ Below w.heap.size w w' := by
  have := Kind_any v ss n f w h
  rwa [hk] at this
set_option maxHeartbeats 2000000 in
theorem Is_any (v : Value) (ss : List ByteArray) (n f kind : Int) (w : World) (h : IsTab w v ss) :
    Calls Tryd.prog 77 #[v, .int .i64 n, .int .i64 f, .int .i64 kind] w fun e w' => e = .returned (.int .i64 (iz ss n f kind)) ∧ Below w.heap.size w w' := by
  obtain ⟨k, c, hkc⟩ : ∃ k c, kd ss n f = (k, c) := ⟨_, _, rfl⟩
  have c0 := Kind_at v ss n f k c w h hkc
  by_cases hc : c = 0
  · subst hc
    by_cases he : k = kind
    · subst he
      have HI : Hid (iz ss n f k = 0) := hid (by simp [iz, hkc])
      clear hkc h
      go_enter Tryd.func77, Tryd.ntmps77
      go_wp2_with (go_at_call 89; refine c0.mono ?_; rintro e w1 ⟨rfl, b1⟩)
      go_ret
      exact ⟨ret_int HI.out.symm, b1⟩
    · have HI : Hid (iz ss n f kind = 132) := hid (by simp [iz, hkc, he])
      have he' : (k == kind) = false := by simpa using he
      clear hkc h he
      go_enter Tryd.func77, Tryd.ntmps77
      go_wp2_with (go_at_call 89; refine c0.mono ?_; rintro e w1 ⟨rfl, b1⟩)
      go_ret
      exact ⟨ret_int HI.out.symm, b1⟩
  · have HI : Hid (iz ss n f kind = c) := hid (by simp [iz, hkc, hc])
    have hc' : (c == 0) = false := by simpa using hc
    clear hkc h hc
    go_enter Tryd.func77, Tryd.ntmps77
    go_wp2_with (go_at_call 89; refine c0.mono ?_; rintro e w1 ⟨rfl, b1⟩)
    go_ret
    exact ⟨ret_int HI.out.symm, b1⟩
end Go.Proofs.YtlkhmfmocegekaaDoor
