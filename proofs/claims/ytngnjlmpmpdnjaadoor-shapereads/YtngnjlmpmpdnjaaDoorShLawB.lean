/- The laws ShapeTexts, ShapeReads, ShapeMost. -/
import Derived.Test.YtngnjlmpmpdnjaaDoorShLaw
namespace Go.Proofs.YtngnjlmpmpdnjaaDoor
open Go.RowKit Go.Sh
theorem Read_at (s : ByteArray) (b : Bool) (ss : List ByteArray) (w : World) (hs : s.size ≤ 1000000) (h1 : rdOk s = b) (h2 : rdT s = ss) :
    Calls Tryd.prog 25 #[.string s] w fun e w' => ∃ v, e = .returned (.tuple #[v, .int .i64 (er b)]) ∧ IsTab w' v ss ∧ Below w.heap.size w w' := by
  subst h1 h2; exact Read_any s w hs
theorem rRead_at (s : ByteArray) (b : Bool) (ss : List ByteArray) (w : World) (h1 : rdOk s = b) (h2 : rdT s = ss) :
    Calls Tryd.prog 28 #[.string s] w fun e w' => ∃ v, e = .returned (.tuple #[v, .int .i64 (er b)]) ∧ IsTab w' v ss ∧ Below w.heap.size w w' := by
  subst h1 h2; exact rRead_any s w
theorem rText_at (v : Value) (ss : List ByteArray) (x : ByteArray) (w : World) (h : IsTab w v ss) (hr : right ss = true) (hx : x = ⟨(text ss).toArray⟩) :
    Calls Tryd.prog 26 #[v] w fun e w' => e = .returned (.string x) ∧ Below w.heap.size w w' := by
  subst hx; exact rText_any v ss w h hr
theorem rSame_self (va vb : Value) (ss : List ByteArray) (w : World) (ha : IsTab w va ss) (hb : IsTab w vb ss) (hl : ss.length ≤ 1000) :
    Calls Tryd.prog 27 #[va, vb] w fun e w' => e = .returned (.bool true) ∧ Below w.heap.size w w' := by
  have := rSame_any va vb ss ss w ha hb hl
  rwa [decide_eq_true rfl] at this
theorem shapeTexts_vast (v : Value) (ss : List ByteArray) (w : World) (h : IsTab w v ss) (hv : vs ss = true) : Holds 6 #[v] w := by
  have c := vast_any v ss w h
  rw [hv] at c
  clear hv h
  go_enter Tryd.func6, Tryd.ntmps6
  go_wp2_with (first | (go_at_call 9; refine c.mono ?_; rintro e w1 ⟨rfl, rfl⟩) | (go_at_call 10; refine (works_any _).mono ?_; rintro e w2 ⟨rfl, b2⟩))
  go_ret
  exact ⟨rfl, b2⟩
set_option maxHeartbeats 4000000 in
theorem shapeTexts_no (v : Value) (ss : List ByteArray) (w : World) (h : IsTab w v ss) (hv : vs ss = false) (hr : right ss = false) : Holds 6 #[v] w := by
  have c := vast_any v ss w h
  rw [hv] at c
  have HM : Hid (tx ss = (⟨#[]⟩, 2)) := hid (by simp [tx, hr]; rfl)
  have HR := hid hr
  have T0 := hid h
  clear hv h hr
  go_enter Tryd.func6, Tryd.ntmps6
  go_wp2_with (first | (go_at_call 9; refine c.mono ?_; rintro e w1 ⟨rfl, rfl⟩) | (go_at_call 24; refine (Text_at _ ss ⟨#[]⟩ 2 _ T0.out HM.out).mono ?_))
  rintro e w1 ⟨rfl, b1⟩
  have B1 := hid b1
  have T1 := hid (T0.out.below (Nat.le_refl _) b1)
  clear b1 T0
  go_wp2_with (first | (go_at_call 14; refine (rRight_at _ ss false _ T1.out HR.out).mono ?_; rintro e w4 ⟨rfl, rfl⟩) | (go_at_call 15; refine (num_any _ _).mono ?_; rintro e w9 ⟨rfl, rfl⟩) | (go_at_call 10; refine (works_any _).mono ?_))
  rintro e w6 ⟨rfl, b6⟩
  go_wp2
  go_ret
  exact ⟨rfl, B1.out.trans (b6.mono B1.out.size)⟩
set_option maxHeartbeats 4000000 in
theorem shapeTexts_yes (v : Value) (ss : List ByteArray) (w : World) (h : IsTab w v ss) (hv : vs ss = false) (hr : right ss = true) : Holds 6 #[v] w := by
  have c := vast_any v ss w h
  rw [hv] at c
  obtain ⟨x, hx⟩ : ∃ x : ByteArray, x = ⟨(text ss).toArray⟩ := ⟨_, rfl⟩
  have HX := hid hx
  have HM : Hid (tx ss = (x, 0)) := hid (by simp [tx, hr, hx])
  have hl := (right_len hr).2
  have HZ : Hid (x.size ≤ 1000000) := hid (by
    have h1 := text_bd hr ss.length (Nat.le_refl _)
    rw [List.take_length] at h1
    rw [hx]
    show (text ss).length ≤ 1000000
    omega)
  have hrd := rd_text hr
  rw [← hx] at hrd
  have H1 := hid hrd.1
  have H2 : Hid (rdT x = ss) := hid (by rw [rdT, if_pos hrd.1]; exact hrd.2)
  have HL : Hid (ss.length ≤ 1000) := hid (by omega)
  have HR := hid hr
  have T0 := hid h
  clear hv h hr hx hrd hl
  go_enter Tryd.func6, Tryd.ntmps6
  go_wp2_with (first | (go_at_call 9; refine c.mono ?_; rintro e w1 ⟨rfl, rfl⟩) | (go_at_call 24; refine (Text_at _ ss x 0 _ T0.out HM.out).mono ?_))
  rintro e w1 ⟨rfl, b1⟩
  have B1 := hid b1
  have T1 := hid (T0.out.below (Nat.le_refl _) b1)
  clear b1 T0
  go_wp2_with (first | (go_at_call 14; refine (rRight_at _ ss true _ T1.out HR.out).mono ?_; rintro e w4 ⟨rfl, rfl⟩) | (go_at_call 25; refine (Read_at x true ss _ HZ.out H1.out H2.out).mono ?_))
  rintro e w2 ⟨v2, rfl, t2, b2⟩
  have B2 := hid (B1.out.trans (b2.mono B1.out.size))
  have T2 := hid (T1.out.below (Nat.le_refl _) b2)
  have S2 := hid t2
  clear b2 T1 B1 t2
  simp only [er]
  go_wp2_with (go_at_call 26; refine (rText_at _ ss x _ T2.out HR.out HX.out).mono ?_)
  rintro e w3 ⟨rfl, b3⟩
  have B3 := hid (B2.out.trans (b3.mono B2.out.size))
  have T3 := hid (T2.out.below (Nat.le_refl _) b3)
  have S3 := hid (S2.out.below (Nat.le_refl _) b3)
  clear b3 T2 B2 S2
  go_wp2_with (first | (go_at_call 15; refine (num_any _ _).mono ?_; rintro e w9 ⟨rfl, rfl⟩) | (go_at_call 27; refine (rSame_self _ _ ss _ S3.out T3.out HL.out).mono ?_))
  rintro e w4 ⟨rfl, b4⟩
  have B4 := hid (B3.out.trans (b4.mono B3.out.size))
  clear b4 B3 T3 S3
  go_wp2_with (go_at_call 10; refine (works_any _).mono ?_)
  rintro e w6 ⟨rfl, b6⟩
  go_wp2
  go_ret
  exact ⟨rfl, B4.out.trans (b6.mono B4.out.size)⟩
theorem shapeTexts_walk (v : Value) (ss : List ByteArray) (w : World) (h : IsTab w v ss) : Holds 6 #[v] w := by
  cases hv : vs ss with
  | true => exact shapeTexts_vast v ss w h hv
  | false =>
    cases hr : right ss with
    | true => exact shapeTexts_yes v ss w h hv hr
    | false => exact shapeTexts_no v ss w h hv hr
theorem shapeReads_vast (s : ByteArray) (w : World) (h : 250 < s.size) : Holds 7 #[.string s] w := by
  have h' : (250 : Int) < (s.size : Int) := by omega
  go_enter Tryd.func7, Tryd.ntmps7
  go_wp2_with (go_at_call 10; refine (works_any _).mono ?_; rintro e w2 ⟨rfl, b2⟩)
  go_ret
  exact ⟨rfl, b2⟩
theorem rdT_len (s : ByteArray) : (rdT s).length ≤ 1000 := by
  unfold rdT
  split
  · next h =>
    have := (right_len (rdV_right h)).2
    omega
  · simp
set_option maxHeartbeats 4000000 in
theorem shapeReads_ok (s : ByteArray) (w : World) (h : s.size ≤ 250) (hr : rdOk s = true) : Holds 7 #[.string s] w := by
  have h' : (s.size : Int) ≤ 250 := by omega
  have HZ : Hid (s.size ≤ 1000000) := hid (by omega)
  have HL := hid (rdT_len s)
  have HX : Hid (tx (rdT s) = (s, 0)) := hid (by
    have h1 := text_rd hr
    have h2 := rdV_right hr
    rw [rdT, if_pos hr, tx, if_pos h2, h1])
  obtain ⟨ss, hss⟩ : ∃ ss, rdT s = ss := ⟨_, rfl⟩
  rw [hss] at HL HX
  have HS := hid hss
  have HR := hid hr
  clear hr hss h
  go_enter Tryd.func7, Tryd.ntmps7
  go_wp2_with (go_at_call 25; refine (Read_at s true ss _ HZ.out HR.out HS.out).mono ?_)
  rintro e w1 ⟨v1, rfl, t1, b1⟩
  have B1 := hid b1
  have T1 := hid t1
  clear b1 t1
  simp only [er]
  go_wp2_with (go_at_call 28; refine (rRead_at s true ss _ HR.out HS.out).mono ?_)
  rintro e w2 ⟨v2, rfl, t2, b2⟩
  have B2 := hid (B1.out.trans (b2.mono B1.out.size))
  have T2 := hid (T1.out.below (Nat.le_refl _) b2)
  have S2 := hid t2
  clear b2 T1 B1 t2
  simp only [er]
  go_wp2_with (first | (go_at_call 15; refine (num_any _ _).mono ?_; rintro e w9 ⟨rfl, rfl⟩) | (go_at_call 27; refine (rSame_self _ _ ss _ T2.out S2.out HL.out).mono ?_))
  rintro e w3 ⟨rfl, b3⟩
  have B3 := hid (B2.out.trans (b3.mono B2.out.size))
  have T3 := hid (T2.out.below (Nat.le_refl _) b3)
  clear b3 T2 B2 S2
  go_wp2_with (go_at_call 24; refine (Text_at _ ss s 0 _ T3.out HX.out).mono ?_)
  rintro e w4 ⟨rfl, b4⟩
  have B4 := hid (B3.out.trans (b4.mono B3.out.size))
  clear b4 B3 T3
  go_wp2_with (first | (go_at_call 15; refine (num_any _ _).mono ?_; rintro e w9 ⟨rfl, rfl⟩) | (go_at_call 10; refine (works_any _).mono ?_))
  rintro e w6 ⟨rfl, b6⟩
  go_wp2
  go_ret
  exact ⟨rfl, B4.out.trans (b6.mono B4.out.size)⟩
set_option maxHeartbeats 4000000 in
theorem shapeReads_no (s : ByteArray) (w : World) (h : s.size ≤ 250) (hr : rdOk s = false) : Holds 7 #[.string s] w := by
  have h' : (s.size : Int) ≤ 250 := by omega
  have HZ : Hid (s.size ≤ 1000000) := hid (by omega)
  have HL := hid (rdT_len s)
  have HX : Hid (tx (rdT s) = (⟨#[]⟩, 2)) := hid (by rw [rdT, hr]; rfl)
  obtain ⟨ss, hss⟩ : ∃ ss, rdT s = ss := ⟨_, rfl⟩
  rw [hss] at HL HX
  have HS := hid hss
  have HR := hid hr
  clear hr hss h
  go_enter Tryd.func7, Tryd.ntmps7
  go_wp2_with (go_at_call 25; refine (Read_at s false ss _ HZ.out HR.out HS.out).mono ?_)
  rintro e w1 ⟨v1, rfl, t1, b1⟩
  have B1 := hid b1
  have T1 := hid t1
  clear b1 t1
  simp only [er]
  go_wp2_with (first | (go_at_call 28; refine (rRead_at s false ss _ HR.out HS.out).mono ?_; rintro e w2 ⟨v2, rfl, t2, b2⟩; have B2 := hid (B1.out.trans (b2.mono B1.out.size)); have T2 := hid (T1.out.below (Nat.le_refl _) b2); have S2 := hid t2; clear b2 T1 B1 t2; simp only [er]) | (go_at_call 15; refine (num_any _ _).mono ?_; rintro e w9 ⟨rfl, rfl⟩) | (go_at_call 27; refine (rSame_self _ _ ss _ T2.out S2.out HL.out).mono ?_))
  rintro e w3 ⟨rfl, b3⟩
  have B3 := hid (B2.out.trans (b3.mono B2.out.size))
  have T3 := hid (T2.out.below (Nat.le_refl _) b3)
  clear b3 T2 B2 S2
  go_wp2_with (go_at_call 24; refine (Text_at _ ss ⟨#[]⟩ 2 _ T3.out HX.out).mono ?_)
  rintro e w4 ⟨rfl, b4⟩
  have B4 := hid (B3.out.trans (b4.mono B3.out.size))
  clear b4 B3 T3
  go_wp2_with (go_at_call 10; refine (works_any _).mono ?_)
  rintro e w6 ⟨rfl, b6⟩
  go_wp2
  go_ret
  exact ⟨rfl, B4.out.trans (b6.mono B4.out.size)⟩
theorem shapeReads_walk (s : ByteArray) (w : World) : Holds 7 #[.string s] w := by
  by_cases h : s.size ≤ 250
  · cases hr : rdOk s with
    | true => exact shapeReads_ok s w h hr
    | false => exact shapeReads_no s w h hr
  · exact shapeReads_vast s w (by omega)
end Go.Proofs.YtngnjlmpmpdnjaaDoor
