/- The document's Text (lapidaryref06). Typed by tools/gen06reft.py. -/
import Derived.Test.YtjfegimgpkeleaaDoorLyText
set_option linter.unusedVariables false
namespace Go.Proofs.YtjfegimgpkeleaaDoor
open Go.RowKit Go.Ly Go.Sh
abbrev rpO (t s : Int) (a : Option Addr) (n c : Nat) : Obj := .cells #[.int .i64 t, .int .i64 s, .slice a n c] 24
theorem ptx_num (k x y : Int) (A : List UInt8) (h : (jn (tws (pnam k.toNat) x y) (pnm k.toNat)) = A) : ptx k x y = ⟨A.toArray⟩ := by rw [ptx, h]
set_option maxRecDepth 100000 in
set_option maxHeartbeats 4000000 in
theorem rText6_1 (t s at_ x y : Int) (a : Option Addr) (n c : Nat) (w : World) (t0 : 1 ≤ t) (t1 : t ≤ 8) (s0 : 32 ≤ s) (s1 : s ≤ 4096) (x0 : 0 ≤ x) (x1 : x ≤ 100000) (y0 : 0 ≤ y) (y1 : y ≤ 100000)
    (h : Hid ((if 0 ≤ at_ ∧ at_ < 3 + t + t + 2 * s then pt t s at_ else (0, 0, 0)) = (1, x, y))) :
    Calls Tryd.prog 27 #[planV t s a n c, .int .i64 at_] w fun e w' => e = .returned (.string (ptx 1 x y)) ∧ Below w.heap.size w w' := by
  have cp := fun W => rPart6_at t s at_ 1 x y a n c W t0 t1 s0 s1 h
  have HR : Hid (ptx 1 x y = ⟨#[114, 101, 113, 117, 101, 115, 116]⟩) := hid rfl
  clear h
  go_enter Tryd.func27, Tryd.ntmps27
  go_wp2_with (go_at_call 26; refine (cp _).mono ?_)
  rintro e w1 ⟨rfl, b1⟩
  have B1 := hid (bel1 b1)
  have z1 := siz1 b1
  clear b1
  go_wp2
  go_ret
  exact ⟨ret_str HR.out.symm, ((B1.out.alloc B1.out.size _).alloc (by have := B1.out.size; simp; omega) _)⟩
set_option maxRecDepth 100000 in
set_option maxHeartbeats 4000000 in
theorem rText6_2 (t s at_ x y : Int) (a : Option Addr) (n c : Nat) (w : World) (t0 : 1 ≤ t) (t1 : t ≤ 8) (s0 : 32 ≤ s) (s1 : s ≤ 4096) (x0 : 0 ≤ x) (x1 : x ≤ 100000) (y0 : 0 ≤ y) (y1 : y ≤ 100000)
    (h : Hid ((if 0 ≤ at_ ∧ at_ < 3 + t + t + 2 * s then pt t s at_ else (0, 0, 0)) = (2, x, y))) :
    Calls Tryd.prog 27 #[planV t s a n c, .int .i64 at_] w fun e w' => e = .returned (.string (ptx 2 x y)) ∧ Below w.heap.size w w' := by
  have cp := fun W => rPart6_at t s at_ 2 x y a n c W t0 t1 s0 s1 h
  have HR : Hid (ptx 2 x y = ⟨#[102, 114, 111, 110, 116, 105, 101, 114]⟩) := hid rfl
  clear h
  go_enter Tryd.func27, Tryd.ntmps27
  go_wp2_with (go_at_call 26; refine (cp _).mono ?_)
  rintro e w1 ⟨rfl, b1⟩
  have B1 := hid (bel1 b1)
  have z1 := siz1 b1
  clear b1
  go_wp2
  go_ret
  exact ⟨ret_str HR.out.symm, ((B1.out.alloc B1.out.size _).alloc (by have := B1.out.size; simp; omega) _)⟩
set_option maxRecDepth 100000 in
set_option maxHeartbeats 4000000 in
theorem rText6_3 (t s at_ x y : Int) (a : Option Addr) (n c : Nat) (w : World) (t0 : 1 ≤ t) (t1 : t ≤ 8) (s0 : 32 ≤ s) (s1 : s ≤ 4096) (x0 : 0 ≤ x) (x1 : x ≤ 100000) (y0 : 0 ≤ y) (y1 : y ≤ 100000)
    (h : Hid ((if 0 ≤ at_ ∧ at_ < 3 + t + t + 2 * s then pt t s at_ else (0, 0, 0)) = (3, x, y))) :
    Calls Tryd.prog 27 #[planV t s a n c, .int .i64 at_] w fun e w' => e = .returned (.string (ptx 3 x y)) ∧ Below w.heap.size w w' := by
  have cp := fun W => rPart6_at t s at_ 3 x y a n c W t0 t1 s0 s1 h
  have HR : Hid (ptx 3 x y = ⟨#[116, 114, 105, 103, 103, 101, 114]⟩) := hid rfl
  clear h
  go_enter Tryd.func27, Tryd.ntmps27
  go_wp2_with (go_at_call 26; refine (cp _).mono ?_)
  rintro e w1 ⟨rfl, b1⟩
  have B1 := hid (bel1 b1)
  have z1 := siz1 b1
  clear b1
  go_wp2
  go_ret
  exact ⟨ret_str HR.out.symm, ((B1.out.alloc B1.out.size _).alloc (by have := B1.out.size; simp; omega) _)⟩
set_option maxRecDepth 100000 in
set_option maxHeartbeats 4000000 in
theorem rText6_4 (t s at_ x y : Int) (a : Option Addr) (n c : Nat) (w : World) (t0 : 1 ≤ t) (t1 : t ≤ 8) (s0 : 32 ≤ s) (s1 : s ≤ 4096) (x0 : 0 ≤ x) (x1 : x ≤ 100000) (y0 : 0 ≤ y) (y1 : y ≤ 100000)
    (h : Hid ((if 0 ≤ at_ ∧ at_ < 3 + t + t + 2 * s then pt t s at_ else (0, 0, 0)) = (4, x, y))) :
    Calls Tryd.prog 27 #[planV t s a n c, .int .i64 at_] w fun e w' => e = .returned (.string (ptx 4 x y)) ∧ Below w.heap.size w w' := by
  have cp := fun W => rPart6_at t s at_ 4 x y a n c W t0 t1 s0 s1 h
  have sx := dg_size x x0 x1
  have cx := fun W => rnumberT_any x (dg x) W (by omega) (by omega) (hid rfl)
  have HR : Hid (ptx 4 x y = (⟨#[97, 99, 107, 32]⟩ : ByteArray) ++ dg x) := hid (ByteArray.ext (by simp [ptx, jn, tws, pnm, pnam, at', ByteArray.data_append]))
  generalize dg x = X at *
  clear h
  go_enter Tryd.func27, Tryd.ntmps27
  go_wp2_with (go_at_call 26; refine (cp _).mono ?_)
  rintro e w1 ⟨rfl, b1⟩
  have B1 := hid (bel1 b1)
  have z1 := siz1 b1
  clear b1
  go_wp2_with (go_at_call 45; refine (cx _).mono ?_)
  rintro e w2 ⟨rfl, b2⟩
  have B2 := hid (B1.out.trans ((bel2 b2).mono B1.out.size))
  have Rx := row2a b2
  clear b2 B1
  have q0 := at_row Rx 0 rfl
  have q2 := at_row Rx 2 rfl
  clear Rx
  go_wp2
  go_ret
  exact ⟨ret_str HR.out.symm, B2.out⟩
set_option maxRecDepth 100000 in
set_option maxHeartbeats 4000000 in
theorem rText6_5 (t s at_ x y : Int) (a : Option Addr) (n c : Nat) (w : World) (t0 : 1 ≤ t) (t1 : t ≤ 8) (s0 : 32 ≤ s) (s1 : s ≤ 4096) (x0 : 0 ≤ x) (x1 : x ≤ 100000) (y0 : 0 ≤ y) (y1 : y ≤ 100000)
    (h : Hid ((if 0 ≤ at_ ∧ at_ < 3 + t + t + 2 * s then pt t s at_ else (0, 0, 0)) = (5, x, y))) :
    Calls Tryd.prog 27 #[planV t s a n c, .int .i64 at_] w fun e w' => e = .returned (.string (ptx 5 x y)) ∧ Below w.heap.size w w' := by
  have cp := fun W => rPart6_at t s at_ 5 x y a n c W t0 t1 s0 s1 h
  have sx := dg_size x x0 x1
  have cx := fun W => rnumberT_any x (dg x) W (by omega) (by omega) (hid rfl)
  have HR : Hid (ptx 5 x y = (⟨#[108, 105, 115, 116, 32]⟩ : ByteArray) ++ dg x) := hid (ByteArray.ext (by simp [ptx, jn, tws, pnm, pnam, at', ByteArray.data_append]))
  generalize dg x = X at *
  clear h
  go_enter Tryd.func27, Tryd.ntmps27
  go_wp2_with (go_at_call 26; refine (cp _).mono ?_)
  rintro e w1 ⟨rfl, b1⟩
  have B1 := hid (bel1 b1)
  have z1 := siz1 b1
  clear b1
  go_wp2_with (go_at_call 45; refine (cx _).mono ?_)
  rintro e w2 ⟨rfl, b2⟩
  have B2 := hid (B1.out.trans ((bel2 b2).mono B1.out.size))
  have Rx := row2a b2
  clear b2 B1
  have q0 := at_row Rx 0 rfl
  have q2 := at_row Rx 2 rfl
  clear Rx
  go_wp2
  go_ret
  exact ⟨ret_str HR.out.symm, B2.out⟩
set_option maxRecDepth 100000 in
set_option maxHeartbeats 4000000 in
theorem rText6_6 (t s at_ x y : Int) (a : Option Addr) (n c : Nat) (w : World) (t0 : 1 ≤ t) (t1 : t ≤ 8) (s0 : 32 ≤ s) (s1 : s ≤ 4096) (x0 : 0 ≤ x) (x1 : x ≤ 100000) (y0 : 0 ≤ y) (y1 : y ≤ 100000)
    (h : Hid ((if 0 ≤ at_ ∧ at_ < 3 + t + t + 2 * s then pt t s at_ else (0, 0, 0)) = (6, x, y))) :
    Calls Tryd.prog 27 #[planV t s a n c, .int .i64 at_] w fun e w' => e = .returned (.string (ptx 6 x y)) ∧ Below w.heap.size w w' := by
  have cp := fun W => rPart6_at t s at_ 6 x y a n c W t0 t1 s0 s1 h
  have sx := dg_size x x0 x1
  have cx := fun W => rnumberT_any x (dg x) W (by omega) (by omega) (hid rfl)
  have HR : Hid (ptx 6 x y = (⟨#[115, 112, 97, 99, 101, 32]⟩ : ByteArray) ++ dg x ++ (⟨#[32]⟩ : ByteArray) ++ dg y) := hid (ByteArray.ext (by simp [ptx, jn, tws, pnm, pnam, at', ByteArray.data_append]))
  have sy := dg_size y y0 y1
  have cy := fun W => rnumberT_any y (dg y) W (by omega) (by omega) (hid rfl)
  generalize dg x = X at *
  generalize dg y = Y at *
  clear h
  go_enter Tryd.func27, Tryd.ntmps27
  go_wp2_with (go_at_call 26; refine (cp _).mono ?_)
  rintro e w1 ⟨rfl, b1⟩
  have B1 := hid (bel1 b1)
  have z1 := siz1 b1
  clear b1
  go_wp2_with (go_at_call 45; refine (cx _).mono ?_)
  rintro e w2 ⟨rfl, b2⟩
  have B2 := hid (B1.out.trans ((bel2 b2).mono B1.out.size))
  have Rx := row2a b2
  clear b2 B1
  have q0 := at_row Rx 0 rfl
  have q2 := at_row Rx 2 rfl
  clear Rx
  go_wp2_with (go_at_call 45; refine (cy _).mono ?_)
  rintro e w3 ⟨rfl, b3⟩
  have B3 := hid (B2.out.trans (b3.mono B2.out.size))
  clear b3 B2 q0 q2
  go_wp2
  go_ret
  exact ⟨ret_str HR.out.symm, B3.out⟩
/-- The document's Text, of a word that there is. -/
theorem rText6_at (t s at_ k x y : Int) (a : Option Addr) (n c : Nat) (w : World) (t0 : 1 ≤ t) (t1 : t ≤ 8) (s0 : 32 ≤ s) (s1 : s ≤ 4096) (a0 : 0 ≤ at_) (a1 : at_ < 3 + t + t + 2 * s) (h : Hid (pt t s at_ = (k, x, y))) :
    Calls Tryd.prog 27 #[planV t s a n c, .int .i64 at_] w fun e w' => e = .returned (.string (ptx k x y)) ∧ Below w.heap.size w w' := by
  have h := h.out
  have hx : 0 ≤ x ∧ x ≤ 100000 ∧ 0 ≤ y ∧ y ≤ 100000 := by
    have hi := pt_is s0 a0 a1
    rw [h] at hi
    simp only [Prod.mk.injEq] at hi
    rcases hi with hi | hi | hi | hi | hi | hi | hi <;> omega
  obtain ⟨x0, x1, y0, y1⟩ := hx
  have hk : k = (kn t at_ : Int) := by have := congrArg Prod.fst h; simp [pt] at this; exact this.symm
  have h' : (if 0 ≤ at_ ∧ at_ < 3 + t + t + 2 * s then pt t s at_ else (0, 0, 0)) = (k, x, y) := by rw [if_pos ⟨a0, a1⟩]; exact h
  rcases kn_cases t at_ with e | e | e | e | e | e <;> rw [e] at hk <;> subst hk
  · exact rText6_1 t s at_ x y a n c w t0 t1 s0 s1 x0 x1 y0 y1 (hid h')
  · exact rText6_2 t s at_ x y a n c w t0 t1 s0 s1 x0 x1 y0 y1 (hid h')
  · exact rText6_3 t s at_ x y a n c w t0 t1 s0 s1 x0 x1 y0 y1 (hid h')
  · exact rText6_4 t s at_ x y a n c w t0 t1 s0 s1 x0 x1 y0 y1 (hid h')
  · exact rText6_5 t s at_ x y a n c w t0 t1 s0 s1 x0 x1 y0 y1 (hid h')
  · exact rText6_6 t s at_ x y a n c w t0 t1 s0 s1 x0 x1 y0 y1 (hid h')
end Go.Proofs.YtjfegimgpkeleaaDoor
