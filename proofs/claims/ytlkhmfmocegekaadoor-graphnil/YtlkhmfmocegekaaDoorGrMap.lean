/- Maps whose keys are objects: what they hold, in the order in which it was laid. -/
import Derived.Test.YtlkhmfmocegekaaDoorGrA
import Derived.MapKept
import Derived.RangeFuncOwn
set_option linter.unusedVariables false
namespace Go.Proofs.YtlkhmfmocegekaaDoor
open Go.RowKit Go.Gr Go.Sh Go.Oq
/-- The entries of such a map. -/
def pents (at_ : Nat → Nat) : List (Nat × Value) → Nat → List MapEntry
  | [], _ => []
  | (x, v) :: r, i => { key := .pointer (pp at_ x), val := v, born := i } :: pents at_ r (i + 1)
def mapO (at_ : Nat → Nat) (l : List (Nat × Value)) : Obj := .map (pents at_ l 0).toArray l.length
theorem pents_snoc (at_ : Nat → Nat) (l : List (Nat × Value)) (x : Nat) (v : Value) : ∀ i, pents at_ (l ++ [(x, v)]) i = pents at_ l i ++ [{ key := .pointer (pp at_ x), val := v, born := i + l.length }] := by
  induction l with
  | nil => intro i; simp [pents]
  | cons p r ih =>
    intro i
    obtain ⟨y, u⟩ := p
    simp only [pents, List.cons_append, ih, List.length_cons]
    rw [show i + 1 + r.length = i + (r.length + 1) by omega]
theorem pents_len (at_ : Nat → Nat) (l : List (Nat × Value)) : ∀ i, (pents at_ l i).length = l.length := by
  induction l with
  | nil => intro i; rfl
  | cons p r ih => intro i; obtain ⟨y, u⟩ := p; simp [pents, ih]
/-- What is at a key. -/
def lkp : List (Nat × Value) → Nat → Option Value
  | [], _ => none
  | (y, u) :: r, x => if x = y then some u else lkp r x
theorem lkp_snoc (l : List (Nat × Value)) (y : Nat) (u : Value) (x : Nat) : lkp (l ++ [(y, u)]) x = match lkp l x with | some v => some v | none => if x = y then some u else none := by
  induction l with
  | nil => rfl
  | cons p r ih =>
    obtain ⟨z, v⟩ := p
    simp only [List.cons_append, lkp]
    by_cases h : x = z
    · rw [if_pos h, if_pos h]
    · rw [if_neg h, if_neg h, ih]
theorem lkp_none {l : List (Nat × Value)} {x : Nat} : lkp l x = none ↔ ∀ p ∈ l, p.1 ≠ x := by
  induction l with
  | nil => simp [lkp]
  | cons p r ih =>
    obtain ⟨y, u⟩ := p
    simp only [lkp, List.mem_cons, forall_eq_or_imp]
    by_cases h : x = y
    · rw [if_pos h]; simp [h]
    · rw [if_neg h, ih]
      exact ⟨fun q => ⟨fun e => h e.symm, q⟩, fun q => q.2⟩
variable {W : World} {γ : Gh} {g : Gr}
/-- The keys lead to objects of the graph, or are nothing. -/
def KeysOk (γ : Gh) (l : List (Nat × Value)) : Prop := ∀ p ∈ l, p.1 ≠ 0 → γ.live p.1
theorem find_asking (h : IsG W γ g) {x : Nat} (hx : x ≠ 0 → γ.live x) : ∀ (l : List (Nat × Value)) (i j : Nat), KeysOk γ l →
    (lkp l x = none → (Instr.findAsking 60 (.pointer (pp γ.at_ x)) (pents γ.at_ l i) j).run Tryd.prog W = .ok none W) ∧
    (∀ v, lkp l x = some v → ∃ q, (Instr.findAsking 60 (.pointer (pp γ.at_ x)) (pents γ.at_ l i) j).run Tryd.prog W = .ok (some (q, v)) W)
  | [], i, j, _ => ⟨fun _ => rfl, fun v e => by cases e⟩
  | (y, u) :: r, i, j, hk => by
    have hy : y ≠ 0 → γ.live y := hk (y, u) (by simp)
    have he : (Op.equal 60 (.pointer (pp γ.at_ x)) (.pointer (pp γ.at_ y))).run Tryd.prog W = .ok (x == y) W := pv_equalIn h hx hy 9999
    have ih := find_asking h hx r (i + 1) (j + 1) (fun p hp => hk p (by simp [hp]))
    simp only [lkp, pents, Instr.findAsking, Sem.run_bind, he, Result.andThen]
    by_cases e : x = y
    · have eb : (x == y) = true := by rw [e]; simp
      rw [if_pos e, eb]
      exact ⟨fun q => (by cases q), fun v q => by cases q; exact ⟨j, rfl⟩⟩
    · have eb : (x == y) = false := by rw [beq_eq_false_iff_ne]; exact e
      rw [if_neg e, eb]
      exact ih
theorem find_key (h : IsG W γ g) {x : Nat} (hx : x ≠ 0 → γ.live x) (l : List (Nat × Value)) (hk : KeysOk γ l) :
    (lkp l x = none → (Instr.findKey 60 (.pointer (pp γ.at_ x)) (pents γ.at_ l 0)).run Tryd.prog W = .ok none W) ∧
    (∀ v, lkp l x = some v → ∃ q, (Instr.findKey 60 (.pointer (pp γ.at_ x)) (pents γ.at_ l 0)).run Tryd.prog W = .ok (some (q, v)) W) := by
  have hu := Tryd.underlying60
  cases l with
  | nil =>
    refine ⟨fun _ => ?_, fun v e => by cases e⟩
    simp [Instr.findKey, run_underlying hu, pents, Instr.findNow]
  | cons p r =>
    have hf := find_asking h hx (p :: r) 0 0 hk
    have hn : Instr.findNow (.pointer 76) (.pointer (pp γ.at_ x)) (pents γ.at_ (p :: r) 0) 0 = none := by
      obtain ⟨y, u⟩ := p
      rfl
    have e : ∀ (R : Result (Option (Nat × Value))), (Instr.findAsking 60 (.pointer (pp γ.at_ x)) (pents γ.at_ (p :: r) 0)).run Tryd.prog W = R → (Instr.findKey 60 (.pointer (pp γ.at_ x)) (pents γ.at_ (p :: r) 0)).run Tryd.prog W = R := by
      intro R hR
      simp only [Instr.findKey, Sem.run_bind, run_underlying hu, Result.andThen, hn]
      exact hR
    exact ⟨fun q => e _ (hf.1 q), fun v q => by obtain ⟨i, hi⟩ := hf.2 v q; exact ⟨i, e _ hi⟩⟩
theorem check_ptr (em : Bool) (v : Value) (W : World) : (Instr.checkKey em 10000 60 v).run Tryd.prog W = .ok () W := by
  have hu := Tryd.underlying60
  have key : ∀ n : Nat, (Instr.checkKey em (n + 1) 60 v).run Tryd.prog W = .ok () W := fun n => by simp [Instr.checkKey, run_underlying hu]
  exact key 9999
/-- A look-up. -/
theorem plookup (h : IsG W γ g) {x : Nat} (hx : x ≠ 0 → γ.live x) {l : List (Nat × Value)} (hk : KeysOk γ l) {b : Nat} (hb : W.heap[b]? = some (mapO γ.at_ l)) {t e : TypeId} {z : Value} (ht : Tryd.prog.underlying t = some (.map 60 e)) (hz : (zeroValue e).run Tryd.prog W = .ok z W) (c : Bool) :
    (Instr.lookup t (.map (some b)) (.pointer (pp γ.at_ x)) c).run Tryd.prog W = .ok (if c then .tuple #[(lkp l x).getD z, .bool (lkp l x).isSome] else (lkp l x).getD z) W := by
  have hf := find_key h hx l hk
  have hl : (pents γ.at_ l 0).toArray.toList = pents γ.at_ l 0 := rfl
  unfold mapO at hb
  simp only [Instr.lookup, Sem.run_bind, run_underlying ht, MapKept.run_getObj_map hb, Result.andThen, check_ptr]
  have hp : Sem.run Tryd.prog (pure (pents γ.at_ l 0).toArray) W = .ok (pents γ.at_ l 0).toArray W := rfl
  rw [hp]
  dsimp only
  cases hq : lkp l x with
  | none =>
    rw [hf.1 hq]
    simp only [Sem.run_bind, hz, Result.andThen]
    cases c <;> rfl
  | some v =>
    obtain ⟨i, hi⟩ := hf.2 v hq
    rw [hi]
    cases c <;> rfl
/-- A new entry is laid. -/
theorem pupdate (h : IsG W γ g) {x : Nat} (hx : x ≠ 0 → γ.live x) {l : List (Nat × Value)} (hk : KeysOk γ l) {b : Nat} (hb : W.heap[b]? = some (mapO γ.at_ l)) {t e : TypeId} (ht : Tryd.prog.underlying t = some (.map 60 e)) (hn : lkp l x = none) (v : Value) :
    (Instr.mapUpdate t (.map (some b)) (.pointer (pp γ.at_ x)) v).run Tryd.prog W = .ok () (W.putObj b (mapO γ.at_ (l ++ [(x, v)]))) := by
  have hf := (find_key h hx l hk).1 hn
  have e1 : mapO γ.at_ (l ++ [(x, v)]) = .map ((pents γ.at_ l 0).toArray.push { key := .pointer (pp γ.at_ x), val := v, born := l.length }) (l.length + 1) := by
    unfold mapO
    rw [pents_snoc, Nat.zero_add]
    simp
  unfold mapO at hb
  rw [e1]
  simp only [Instr.mapUpdate, Sem.run_bind, run_underlying ht, MapKept.run_getObj_map hb, Result.andThen, check_ptr]
  rw [hf]
  exact MapKept.run_setObj_map _ hb
/-- How many entries there are. -/
theorem plen {l : List (Nat × Value)} {at_ : Nat → Nat} {b : Nat} (hb : W.heap[b]? = some (mapO at_ l)) {t e ty : TypeId} (ht : Tryd.prog.underlying t = some (.map 60 e)) : (Builtin.len_ #[t] ty #[.map (some b)]).run Tryd.prog W = .ok (.int .i64 (l.length : Int)) W := by
  unfold mapO at hb
  simp [Builtin.len_, run_underlying ht, MapKept.run_getObj_map hb, goInt, Result.andThen, pents_len]
end Go.Proofs.YtlkhmfmocegekaaDoor
