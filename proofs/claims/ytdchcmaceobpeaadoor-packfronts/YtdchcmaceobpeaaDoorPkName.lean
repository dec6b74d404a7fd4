/- Package pack's Name, the document's Name; the chapter's own rows: works answers true. -/
import Derived.Test.YtdchcmaceobpeaaDoorPkSpec
namespace Go.Proofs.YtdchcmaceobpeaaDoor
open Go.RowKit
/-- The phases' names. -/
def nm : Nat → ByteArray
  | 0 => ⟨#[112, 108, 97, 105, 110]⟩
  | 1 => ⟨#[103, 117, 97, 114, 100]⟩
  | 2 => ⟨#[103, 117, 97, 114, 100, 101, 100]⟩
  | 3 => ⟨#[98, 108, 97, 99, 107]⟩
  | 4 => ⟨#[97, 119, 97, 114, 101]⟩
  | 5 => ⟨#[105, 110, 115, 116, 97, 108, 108]⟩
  | 6 => ⟨#[102, 108, 105, 112]⟩
  | _ => ⟨#[]⟩
/-- The table of names stands as it was laid. -/
def Names (w : World) : Prop := 0 < w.heap.size ∧ ∀ i, i < 7 → w.cell? ⟨0, i, none⟩ = some (.string (nm i))
theorem Names.below {w w' : World} (h : Names w) (hb : Below w.heap.size w w') : Names w' :=
  ⟨Nat.lt_of_lt_of_le h.1 hb.size, fun i hi => (hb.cell (p := ⟨0, i, none⟩) h.1).trans (h.2 i hi)⟩
set_option maxHeartbeats 1000000 in
theorem name_in (p : Int) (k : Nat) (w : World) (hk : p = k) (hk7 : k < 7) (h : Names w) :
    Calls Tryd.prog 27 #[.int .i64 p] w fun e w' => e = .returned (.tuple #[.string (nm k), .bool true]) ∧ Below w.heap.size w w' := by
  subst hk
  have hw : Pk.win 0 6 [(k : Int)] = true := by rw [Pk.win_one]; exact decide_eq_true (by omega)
  have hN := hid h
  go_enter Tryd.func27, Tryd.ntmps27
  go_wp2_with (go_at_call 38; refine (isPhase_any _ _).mono ?_)
  rintro e w1 ⟨rfl, b1⟩
  have hc := (hN.out.below b1).2 k hk7
  have k7 : (k : Int) < 7 := by omega
  go_wp2
  go_ret2
  exact ⟨rfl, b1⟩
set_option maxHeartbeats 1000000 in
theorem name_out (p : Int) (w : World) (h : ¬ (0 ≤ p ∧ p ≤ 6)) :
    Calls Tryd.prog 27 #[.int .i64 p] w fun e w' => e = .returned (.tuple #[.string ⟨#[]⟩, .bool false]) ∧ Below w.heap.size w w' := by
  have hw : Pk.win 0 6 [p] = false := by rw [Pk.win_one]; exact decide_eq_false h
  clear h
  go_enter Tryd.func27, Tryd.ntmps27
  go_wp2_with (go_at_call 38; refine (isPhase_any _ _).mono ?_)
  rintro e w1 ⟨rfl, b1⟩
  go_wp2
  go_ret2
  exact ⟨rfl, b1⟩
theorem rname_lo (p : Int) (w : World) (h : p < 0) :
    Calls Tryd.prog 28 #[.int .i64 p] w fun e w' => e = .returned (.string ⟨#[]⟩) ∧ Below w.heap.size w w' := by
  go_enter Tryd.func28, Tryd.ntmps28
  go_wp2
  go_ret
  exact ⟨rfl, Below.refl _ _⟩
theorem rname_hi (p : Int) (w : World) (h0 : 0 ≤ p) (h : 6 < p) :
    Calls Tryd.prog 28 #[.int .i64 p] w fun e w' => e = .returned (.string ⟨#[]⟩) ∧ Below w.heap.size w w' := by
  go_enter Tryd.func28, Tryd.ntmps28
  go_wp2
  go_ret
  exact ⟨rfl, Below.refl _ _⟩
theorem rname_in (k : Nat) (w : World) (hk7 : k < 7) :
    Calls Tryd.prog 28 #[.int .i64 (k : Int)] w fun e w' => e = .returned (.string (nm k)) ∧ Below w.heap.size w w' := by
  have hcs : k = 0 ∨ k = 1 ∨ k = 2 ∨ k = 3 ∨ k = 4 ∨ k = 5 ∨ k = 6 := by omega
  rcases hcs with rfl | rfl | rfl | rfl | rfl | rfl | rfl
  all_goals
    go_enter Tryd.func28, Tryd.ntmps28
    go_wp2
    go_ret
    exact ⟨rfl, below_alloc0 w _⟩
theorem pkNum (a : Int) (w : World) : Calls Tryd.prog 12 #[.int .i64 a] w fun e w' => e = .returned (.int .i64 a) ∧ w = w' := by
  go_enter Tryd.func12, Tryd.ntmps12
  go_wp2
  go_ret
  exact ⟨rfl, rfl⟩
end Go.Proofs.YtdchcmaceobpeaaDoor
