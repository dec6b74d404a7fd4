/- Plain facts of package pack: bounds, frontiers, claims; nothing of the program's text. -/
namespace Go.Pk
/-- Are all numbers from a to b? -/
def win (a b : Int) (zs : List Int) : Bool := zs.all fun n => decide (a ≤ n) && decide (n ≤ b)
theorem win_one (a b x : Int) : win a b [x] = decide (a ≤ x ∧ x ≤ b) := by
  simp [win]
theorem win_three (a b x y z : Int) : win a b [x, y, z] = decide ((a ≤ x ∧ x ≤ b) ∧ (a ≤ y ∧ y ≤ b) ∧ (a ≤ z ∧ z ≤ b)) := by
  simp [win]
theorem win_out (a b : Int) (zs : List Int) (k : Nat) (hk : k < zs.length) (h : ¬ (a ≤ zs.getD k 0 ∧ zs.getD k 0 ≤ b)) : win a b zs = false := by
  unfold win
  rw [List.all_eq_false]
  refine ⟨zs[k], List.getElem_mem hk, ?_⟩
  simp only [List.getD_eq_getElem?_getD, List.getElem?_eq_getElem hk, Option.getD_some] at h
  simp
  omega
theorem win_all (a b : Int) (zs : List Int) (h : ∀ k, k < zs.length → a ≤ zs.getD k 0 ∧ zs.getD k 0 ≤ b) : win a b zs = true := by
  unfold win
  rw [List.all_eq_true]
  intro x hx
  obtain ⟨k, hk, rfl⟩ := List.mem_iff_getElem.1 hx
  have := h k hk
  simp only [List.getD_eq_getElem?_getD, List.getElem?_eq_getElem hk, Option.getD_some] at this
  simp
  omega
/-- May a frontier be? -/
def frOk (s l h o : Int) : Bool := decide ((s = 0 ∨ s = 1) ∧ 0 ≤ l ∧ l ≤ 4096 ∧ 0 ≤ h ∧ h ≤ 4096 ∧ 0 ≤ o ∧ o ≤ 4096 ∧ l + o ≤ h)
theorem frOk_yes {s l h o : Int} (e : frOk s l h o = true) : (s = 0 ∨ s = 1) ∧ 0 ≤ l ∧ l ≤ 4096 ∧ 0 ≤ h ∧ h ≤ 4096 ∧ 0 ≤ o ∧ o ≤ 4096 ∧ l + o ≤ h := of_decide_eq_true e
theorem frOk_mk {s l h o : Int} (e : (s = 0 ∨ s = 1) ∧ 0 ≤ l ∧ l ≤ 4096 ∧ 0 ≤ h ∧ h ≤ 4096 ∧ 0 ≤ o ∧ o ≤ 4096 ∧ l + o ≤ h) : frOk s l h o = true := decide_eq_true e
theorem frOk_no {s l h o : Int} (e : ¬ ((s = 0 ∨ s = 1) ∧ 0 ≤ l ∧ l ≤ 4096 ∧ 0 ≤ h ∧ h ≤ 4096 ∧ 0 ≤ o ∧ o ≤ 4096 ∧ l + o ≤ h)) : frOk s l h o = false := decide_eq_false e
theorem frOk_not {s l h o : Int} (e : frOk s l h o = false) : ¬ ((s = 0 ∨ s = 1) ∧ 0 ≤ l ∧ l ≤ 4096 ∧ 0 ≤ h ∧ h ≤ 4096 ∧ 0 ≤ o ∧ o ≤ 4096 ∧ l + o ≤ h) := of_decide_eq_false e
/-- May a request be? -/
def rqOk (e p : Int) : Bool := decide (0 ≤ e ∧ e ≤ 1099511627775 ∧ 0 ≤ p ∧ p ≤ 6)
theorem rqOk_yes {e p : Int} (h : rqOk e p = true) : 0 ≤ e ∧ e ≤ 1099511627775 ∧ 0 ≤ p ∧ p ≤ 6 := of_decide_eq_true h
theorem rqOk_mk {e p : Int} (h : 0 ≤ e ∧ e ≤ 1099511627775 ∧ 0 ≤ p ∧ p ≤ 6) : rqOk e p = true := decide_eq_true h
theorem rqOk_no {e p : Int} (h : ¬ (0 ≤ e ∧ e ≤ 1099511627775 ∧ 0 ≤ p ∧ p ≤ 6)) : rqOk e p = false := decide_eq_false h
theorem rqOk_not {e p : Int} (h : rqOk e p = false) : ¬ (0 ≤ e ∧ e ≤ 1099511627775 ∧ 0 ≤ p ∧ p ≤ 6) := of_decide_eq_false h
end Go.Pk
