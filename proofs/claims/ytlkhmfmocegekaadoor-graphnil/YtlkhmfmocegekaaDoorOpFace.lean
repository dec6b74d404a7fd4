/- package op: Name, Field, Check, Told. -/
import Derived.Test.YtlkhmfmocegekaaDoorOpEq
import Derived.Test.YtlkhmfmocegekaaDoorShTop
namespace Go.Oq
open Go.Sh
/-- Is it a slot, a scalar? -/
def slt (x : Int) : Bool := decide (0 ≤ x) && decide (x ≤ 5)
def scl (x : Int) : Bool := decide (-576460752303423488 ≤ x) && decide (x ≤ 576460752303423487)
/-- What Check answers. -/
def chk (ss : List ByteArray) (f : Nat → Int) : Int :=
  if right ss = false then 2 else if bare f = false then 180 else if (slt (f 1) && slt (f 2) && slt (f 3)) = false then 181
  else if inR (f 5) ss.length = false then 130 else if (scl (f 6) && scl (f 7)) = false then 182 else 0
/-- What Told answers. -/
def tld (f : Nat → Int) (e : Int) (D : ByteArray) : ByteArray × Int :=
  if bare f = false then (⟨#[]⟩, 180) else if e = 0 then (D, 0) else (⟨#[101, 114, 114, 111, 114, 32]⟩ ++ dgB e, 0)
end Go.Oq
namespace Go.Proofs.YtlkhmfmocegekaaDoor
open Go.RowKit Go.Oq Go.Sort Go.Sh
theorem nam_out {k : Int} (h : kin k = false) : nam k.toNat = ⟨#[]⟩ ∧ fld k.toNat = 0 ∧ opn k.toNat = false := by
  by_cases h1 : k < 1
  · have : k.toNat = 0 := by omega
    rw [this]; exact ⟨rfl, rfl, rfl⟩
  · have h2 : 11 < k.toNat := by
      by_cases h3 : k ≤ 11
      · simp [kin] at h; omega
      · omega
    generalize k.toNat = m at h2
    match m, h2 with
    | n + 12, _ => exact ⟨rfl, rfl, rfl⟩
theorem ret_sb' {a b : ByteArray} {c d : Bool} (h : a = b) (h2 : c = d) : Ending.returned (.tuple #[.string a, .bool c]) = .returned (.tuple #[.string b, .bool d]) := by rw [h, h2]
theorem ret_ib' {a b : Int} {c d : Bool} (h : a = b) (h2 : c = d) : Ending.returned (.tuple #[.int .i64 a, .bool c]) = .returned (.tuple #[.int .i64 b, .bool d]) := by rw [h, h2]
set_option maxHeartbeats 1000000 in
theorem Field_any (f : Nat → Int) (w : World) :
    Calls Tryd.prog 76 #[opV f] w fun e w' => e = .returned (.tuple #[.int .i64 (fld (f 0).toNat), .bool (opn (f 0).toNat)]) ∧ Below w.heap.size w w' := by
  by_cases hk : kin (f 0) = true
  · obtain ⟨K, hK, k1, k2⟩ := kin_nat hk
    have HF : Hid (∀ W, Calls Tryd.prog 69 #[.int .i64 (f 0)] W fun e w' => ∃ v1 v2, e = .returned (.tuple #[kV v1 v2 K, .bool true]) ∧ IsNums w' v1 (nums K) ∧ IsNums w' v2 (scas K) ∧ Below W.heap.size W w') := hid (fun W => by rw [hK]; exact find_yes K W k1 k2)
    have HE : Hid (fld K = fld (f 0).toNat ∧ opn K = opn (f 0).toNat) := hid (by rw [hK]; exact ⟨rfl, rfl⟩)
    clear hk hK k1 k2
    go_enter Tryd.func76, Tryd.ntmps76
    go_wp2_with (go_at_call 69; refine (HF.out _).mono ?_)
    rintro e w1 ⟨v1, v2, rfl, i1, i2, b1⟩
    have ho := kcell_one i1 i2 K
    have B1 := hid (bel1 b1)
    clear b1 i1 i2
    have c3 := cell_last w1 (kcell v1 v2 K) 128 3 _ rfl
    have c4 := cell_last w1 (kcell v1 v2 K) 128 4 _ rfl
    go_wp2_with (refine wpList_store_row rfl 128 _ _ rfl w1.heap.size (kcell v1 v2 K) rfl rfl 128 _ (heap_alloc_last w1 _) (kcell_size _ _ _) rfl ho ?_; rw [World.setRow_alloc_new])
    go_quiet (fail)
    go_wp2_with fail
    go_ret2
    exact ⟨ret_ib' HE.out.1 HE.out.2, odrewN (B1.out.alloc B1.out.size _) _⟩
  · have hk' : kin (f 0) = false := by simpa using hk
    have HN := hid (nam_out hk')
    have HK := hid hk'
    clear hk hk'
    go_enter Tryd.func76, Tryd.ntmps76
    go_wp2_with (go_at_call 69; refine (find_no _ _ HK.out).mono ?_)
    rintro e w1 ⟨rfl, b1⟩
    have B1 := hid (bel1 b1)
    clear b1
    have c3 := cell_last w1 kz 128 3 _ rfl
    have c4 := cell_last w1 kz 128 4 _ rfl
    go_wp2_with (refine wpList_store_row rfl 128 _ _ rfl w1.heap.size kz rfl rfl 128 _ (heap_alloc_last w1 _) (k_size.trans rfl) rfl kz_one ?_; rw [World.setRow_alloc_new])
    go_quiet (fail)
    go_wp2_with fail
    go_ret2
    exact ⟨ret_ib' HN.out.2.1.symm HN.out.2.2.symm, odrewN (B1.out.alloc B1.out.size _) _⟩
theorem win3 (a b c : Int) : Pk.win 0 5 [a, b, c] = (slt a && slt b && slt c) := by
  simp only [Pk.win, slt, List.all_cons, List.all_nil, Bool.and_true]
  cases decide (0 ≤ a) <;> cases decide (a ≤ 5) <;> cases decide (0 ≤ b) <;> cases decide (b ≤ 5) <;> simp
theorem win2 (a b : Int) : Pk.win (-576460752303423488) 576460752303423487 [a, b] = (scl a && scl b) := by
  simp only [Pk.win, scl, List.all_cons, List.all_nil, Bool.and_true]
theorem three_cells (w : World) (a b c : Int) (t : TypeId) : ∀ i, i < 3 → (w.alloc (.cells #[.int .i64 a, .int .i64 b, .int .i64 c] t)).cell? ⟨w.heap.size, 0 + i, none⟩ = some (.int .i64 ([a, b, c].getD i 0)) := by
  intro i hi
  have : i = 0 ∨ i = 1 ∨ i = 2 := by omega
  rcases this with rfl | rfl | rfl
  · exact cell_last w _ t 0 _ rfl
  · exact cell_last w _ t 1 _ rfl
  · exact cell_last w _ t 2 _ rfl
theorem two_cells (w : World) (a b : Int) (t : TypeId) : ∀ i, i < 2 → (w.alloc (.cells #[.int .i64 a, .int .i64 b] t)).cell? ⟨w.heap.size, 0 + i, none⟩ = some (.int .i64 ([a, b].getD i 0)) := by
  intro i hi
  have : i = 0 ∨ i = 1 := by omega
  rcases this with rfl | rfl
  · exact cell_last w _ t 0 _ rfl
  · exact cell_last w _ t 1 _ rfl
theorem w3_at (a b c : Int) (r : Bool) (w : World) (t : TypeId) (hr : Hid ((slt a && slt b && slt c) = r)) :
    Calls Tryd.prog 52 #[.int .i64 0, .int .i64 5, .slice (some ⟨w.heap.size, 0, none⟩) 3 3] (w.alloc (.cells #[.int .i64 a, .int .i64 b, .int .i64 c] t)) fun e w' => e = .returned (.bool r) ∧ w' = w.alloc (.cells #[.int .i64 a, .int .i64 b, .int .i64 c] t) := by
  have h := owithin_int 0 5 w.heap.size 0 3 3 [a, b, c] _ (hid rfl) (by omega) (hid (three_cells w a b c t))
  rwa [win3, hr.out] at h
theorem w2_at (a b : Int) (r : Bool) (w : World) (t : TypeId) (hr : Hid ((scl a && scl b) = r)) :
    Calls Tryd.prog 53 #[.int .i64 (-576460752303423488), .int .i64 576460752303423487, .slice (some ⟨w.heap.size, 0, none⟩) 2 2] (w.alloc (.cells #[.int .i64 a, .int .i64 b] t)) fun e w' => e = .returned (.bool r) ∧ w' = w.alloc (.cells #[.int .i64 a, .int .i64 b] t) := by
  have h := owithin_i64 (-576460752303423488) 576460752303423487 w.heap.size 0 2 2 [a, b] _ (hid rfl) (by omega) (hid (two_cells w a b t))
  rwa [win2, hr.out] at h
end Go.Proofs.YtlkhmfmocegekaaDoor
