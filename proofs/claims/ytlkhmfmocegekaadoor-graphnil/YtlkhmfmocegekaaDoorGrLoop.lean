/- A range over a function that keeps a map and a queue of its own in memory: the map is the first block that it makes, the queue's rows are of one type, which nobody else writes meanwhile. -/
import Derived.Test.YtlkhmfmocegekaaDoorBsKit
import Derived.RangeFuncNested
import Derived.RangeFuncBox
import Derived.RangeFuncLeaves
import Derived.RangeFuncCalls
namespace Go.Proofs.YtlkhmfmocegekaaDoor
open Go.RowKit
variable {F : Fence} {n : Nat} {P : Program}
/-- What such a step may turn: blocks from B on that hold no cells, the block G, rows of the type T from there on. -/
def MTurns (T : TypeId) (B G : Nat) (A : World) (row : Option Nat) : Prop := ∀ r, row = some r → B ≤ r ∧ (r = G ∨ (∃ o : Obj, A.heap[r]? = some o ∧ o.isCells = false) ∨ (G ≤ r ∧ ∃ cs, A.heap[r]? = some (.cells cs T)))
/-- An invariant that minds no such step. -/
def MStays {β : Type} (T : TypeId) (B G : Nat) (I : β → World → Prop) : Prop := ∀ s A A' row, I s A → A.grownBy A' row → MTurns T B G A row → I s A'
theorem MStays.put {β : Type} {T : TypeId} {B G : Nat} {I : β → World → Prop} (h : MStays T B G I) {s : β} {W : World} {l : Nat} {o : Obj} (o' : Obj) (hs : I s W) (hB : B ≤ l) (hl : W.heap[l]? = some o) (ho : o.isCells = false) : I s (W.putObj l o') :=
  h s W _ (some l) hs (grownBy_putObj' W l o') (fun r e => by cases e; exact ⟨hB, .inr (.inl ⟨o, hl, ho⟩)⟩)
theorem MStays.new {β : Type} {T : TypeId} {B G : Nat} {I : β → World → Prop} (h : MStays T B G I) {s : β} {W : World} (o : Obj) (hs : I s W) : I s (W.alloc o) :=
  h s W _ none hs (World.grownBy_alloc W o none) (fun r e => by cases e)
/-- What it may write itself. -/
def MAl (T : TypeId) (N : Nat) (A : World) (r : Nat) : Prop := r = N ∨ (N ≤ r ∧ ∃ cs, A.heap[r]? = some (.cells cs T))
/-- What such a function promises of whatever its caller keeps. -/
def MSeqOwns {α : Type} (T : TypeId) (F : Fence) (n : Nat) (P : Program) (g : Nat) (lb : Array Value) (encs : α → Array Value) (Kp : World → World → Prop) (S Sp : List α → Prop) (N G : Nat) (w : World) : Prop :=
  ∀ (l : Nat) (J Jx : List α → World → Prop) (W : World), Below w.heap.size w W → W.heap.size = G →
    (∀ s A A' row, J s A → A.grownBy A' row → (∀ r, row = some r → MAl T W.heap.size A r) → J s A') → (∀ s A A' row, Jx s A → A.grownBy A' row → (∀ r, row = some r → MAl T W.heap.size A r) → Jx s A') →
    (∀ pre x W1, J pre W1 → W.heap.size < W1.heap.size → pre.length < N → Sp (pre ++ [x]) → YieldAt F (n - 1) P l (encs x) W1 fun e W' =>
      (e = .returned (.bool true) ∧ J (pre ++ [x]) W' ∧ Kp W1 W') ∨ (e = .returned (.bool false) ∧ Jx (pre ++ [x]) W')) →
    J [] W →
    CallsIn F n P g (#[.func (.yield l) #[] #[]] ++ lb) W fun e W' => (∃ v, e = .returned v) ∧ ((∃ xs, S xs ∧ J xs W') ∨ (∃ pre, Sp pre ∧ Jx pre W'))
theorem wpIn_rangeFunc_mowns {α : Type} (T : TypeId) {g : Operand} {ps : Array Tmp} {assign body : Code} {Q : Exit → Act → World → Prop} {a : Act} {w : World}
    (hro : F.round = none) (h1 : 1 ≤ n) {gf : Nat} {lb : Array Value} (hg : a.eval g = .func (.func gf) #[] lb) (hF : F.fn gf) (he : ∀ args w, (callFunc gf args).run P w = .ok (.enter gf args) w)
    {encs : α → Array Value} {Kp : World → World → Prop} {S Sp : List α → Prop} {N : Nat} {w0 : World} (hseq : MSeqOwns T F (n - 1) P gf lb encs Kp S Sp N (w.heap.size + 2) w0)
    (hKt : ∀ {A B C : World}, Kp A B → Kp B C → Kp A C) (hKb : ∀ (W : World) (o' : Obj), Kp W (W.putObj (w.heap.size + 1) o')) (hb0 : Below w0.heap.size w0 w) (hps : ∀ x, (encs x).size = ps.size)
    (I : List α → World → Prop) (Ix : Code → List α → World → Prop) (hI : MStays T w.heap.size (w.heap.size + 2) I) (hIx : ∀ c, MStays T w.heap.size (w.heap.size + 2) (Ix c)) (h0 : I [] w)
    (Ax : α → Act → World → Prop) (hAx : ∀ x a', MStays T w.heap.size (w.heap.size + 2) (fun (_ : Unit) W => Ax x a' W))
    (hassign : ∀ (l : Nat) (pre : List α) (x : α) (W : World) (K : Act → World → Prop), I pre W → w.heap.size + 2 < W.heap.size → (∀ a' W', KeepsFrom w.heap.size W W' → Kp W W' → I pre W' → Ax x a' W' → K a' W') →
      assign.wpIn (F.inRound l) (n - 1 - 1) P (Exit.then K (fun _ _ _ => False)) { tmps := (ps.zip (encs x)).foldl (fun t (p, v) => t.setIfInBounds p v) a.tmps, defers := [] } W)
    (hbody : ∀ (l : Nat) (pre : List α) (x : α) (a' : Act) (W : World), I pre W → Ax x a' W → w.heap.size + 2 < W.heap.size → pre.length < N → Sp (pre ++ [x]) → body.wpIn (F.inRound l) (n - 1 - 1) P (ownPostG w.heap.size Kp I Ix (pre ++ [x]) W) a' W)
    (hdone : ∀ (D : Nat) (xs : List α) (W : World), w.heap.size ≤ D → S xs → I xs W → W.heap[D]? = some (.deferred (some [])) → Q .normal { a with defers := { target := .collected D, args := #[] } :: a.defers } W)
    (hstop : ∀ (D : Nat) (c : Code) (pre : List α) (W : World), w.heap.size ≤ D → Sp pre → Ix c pre W → W.heap[D]? = some (.deferred (some [])) → c.wpIn F n P Q { a with defers := { target := .collected D, args := #[] } :: a.defers } W) :
    (Code.rangeFunc g ps assign body).wpIn F n P Q a w := by
  refine wpIn_rangeFunc fun fn hfn => ?_
  rw [hro]
  generalize hD : w.heap.size = D at *
  obtain ⟨rec, hrec⟩ : ∃ rec : LoopState → Option Code → Loop, rec = fun st pe => { state := st, pending := pe, fn, tmps := a.tmps, params := ps, assign, body, defers := D } := ⟨_, rfl⟩
  obtain ⟨W1, hW⟩ : ∃ W1, W1 = (w.alloc (.deferred (some []))).alloc (.loop (rec .ready none)) := ⟨_, rfl⟩
  have hz : W1.heap.size = D + 2 := by rw [hW]; simp [hD]
  have keep : ∀ {A B : World} {row : Option Nat} {j : Nat} {o : Obj}, A.grownBy B row → (∀ r, row = some r → MAl T W1.heap.size A r) → j < D + 2 → A.heap[j]? = some o → B.heap[j]? = some o := fun hg' hr hj ho =>
    (hg'.block _ (Array.getElem?_eq_some_iff.1 ho).1 (fun e => by rcases hr _ e.symm with q | ⟨q, _⟩ <;> omega)).trans ho
  have turn : ∀ {A : World} {row : Option Nat}, (∀ r, row = some r → MAl T W1.heap.size A r) → MTurns T D (D + 2) A row := fun hr r e => by
    rcases hr r e with q | ⟨q, cs, hc⟩
    · exact ⟨by omega, .inl (by omega)⟩
    · exact ⟨by omega, .inr (.inr ⟨by omega, cs, hc⟩)⟩
  have hL1 : W1.heap[D + 1]? = some (.loop (rec .ready none)) := by rw [hW, ← hD]; exact row2b (Below.refl _ _)
  have hK1 : W1.heap[D]? = some (.deferred (some [])) := by rw [hW, ← hD]; exact row2a (Below.refl _ _)
  have hI1 : I [] W1 := by rw [hW]; exact hI.new _ (hI.new _ h0)
  have hb1 : Below w0.heap.size w0 W1 := by rw [hW]; exact (hb0.alloc (hb0.size) _).alloc (by have := hb0.size; simp; omega) _
  refine ⟨D + 1, [{ target := .collected D, args := #[] }], W1, { target := .fn (.func gf) lb, args := #[.func (.yield (D + 1)) #[] #[]] }, W1, gf, #[.func (.yield (D + 1)) #[] #[]] ++ lb, W1, ?_, ?_, ?_, ?_, fun _ => h1, ?_⟩
  · rw [hW, hrec, ← hD]; exact run_enterLoop_outer _ _ _ _ _
  · simp only [resolve, hg]; simp [go_sem]
  · intro f' hf'; simp [Target.leads] at hf'; subst hf'; exact hF
  · simp [invoke, go_sem, he]
  refine (hseq (D + 1)
    (fun pre W => I pre W ∧ W.heap[D + 1]? = some (.loop (rec .ready none)) ∧ W.heap[D]? = some (.deferred (some [])))
    (fun pre W => ∃ c, Ix c pre W ∧ W.heap[D + 1]? = some (.loop (rec .done (some c))) ∧ W.heap[D]? = some (.deferred (some [])))
    W1 hb1 hz
    (fun s A B row hs hg' hr => ⟨hI s A B row hs.1 hg' (turn hr), keep hg' hr (by omega) hs.2.1, keep hg' hr (by omega) hs.2.2⟩)
    (fun s A B row ⟨c, hc, hl, hk⟩ hg' hr => ⟨c, hIx c s A B row hc hg' (turn hr), keep hg' hr (by omega) hl, keep hg' hr (by omega) hk⟩)
    ?_ ⟨hI1, hL1, hK1⟩).mono ?_
  · rintro pre x W ⟨hi, hl, hk⟩ hGl hlen hsp
    rw [hz] at hGl
    have hy := run_yield (P := P) (args := encs x) hl (by rw [hrec]; exact hps x)
    rw [hrec] at hy
    refine ⟨fn, _, assign, body, hy, roundIn_of_wpIn hfn (hassign _ pre x W _ hi hGl fun a' W2 hkf hkp hi2 hax => ?_)⟩
    clear hy
    have hl2 := hkf.same _ _ (by omega) hl rfl
    have hk2 := hkf.same _ _ (Nat.le_refl _) hk rfl
    have hs2 := hkf.size
    have hlt : D + 1 < W2.heap.size := (Array.getElem?_eq_some_iff.1 hl2).1
    refine ⟨_, run_beginRound hl2 (by rw [hrec]), ?_⟩
    have hl3 : (W2.putObj (D + 1) (.loop { rec .ready none with state := .busy })).heap[D + 1]? = some (.loop { rec .ready none with state := .busy }) := World.putObj_heap_same hlt
    have hk3 : (W2.putObj (D + 1) (.loop { rec .ready none with state := .busy })).heap[D]? = some (.deferred (some [])) := (World.putObj_heap_other (by omega)).trans hk2
    refine wpIn_mono (hbody _ pre x a' _ (hI.put _ hi2 (by omega) hl2 rfl) ((hAx x a').put (s := ()) _ hax (by omega) hl2 rfl) (by simp [World.putObj]; omega) hlen hsp) ?_
    have fin : ∀ (jump : Option Code) (W3 : World), KeepsFrom D (W2.putObj (D + 1) (.loop { rec .ready none with state := .busy })) W3 →
        (Instr.endRound (D + 1) jump).run P W3 = .ok (.bool jump.isNone) (W3.putObj (D + 1) (.loop (rec (if jump.isNone then .ready else .done) jump))) ∧ W3.heap[D + 1]? = some (.loop { rec .ready none with state := .busy }) ∧
        (W3.putObj (D + 1) (.loop (rec (if jump.isNone then .ready else .done) jump))).heap[D + 1]? = some (.loop (rec (if jump.isNone then .ready else .done) jump)) ∧
        (W3.putObj (D + 1) (.loop (rec (if jump.isNone then .ready else .done) jump))).heap[D]? = some (.deferred (some [])) := fun jump W3 hk4 => by
      have h5 := hk4.same _ _ (by omega) hl3 rfl
      have := run_endRound (P := P) jump h5
      rw [hrec] at this ⊢
      exact ⟨this, by rw [hrec] at h5; exact h5, World.putObj_heap_same (Array.getElem?_eq_some_iff.1 h5).1, (World.putObj_heap_other (by omega)).trans (hk4.same _ _ (Nat.le_refl _) hk3 rfl)⟩
    have stop : ∀ (c : Code) (W3 : World), KeepsFrom D (W2.putObj (D + 1) (.loop { rec .ready none with state := .busy })) W3 → Ix c (pre ++ [x]) W3 →
        (Instr.endRound (D + 1) (some c)).run P W3 = .ok (.bool false) (W3.putObj (D + 1) (.loop (rec .done (some c)))) ∧ Ix c (pre ++ [x]) (W3.putObj (D + 1) (.loop (rec .done (some c)))) ∧ (W3.putObj (D + 1) (.loop (rec .done (some c)))).heap[D + 1]? = some (.loop (rec .done (some c))) ∧ (W3.putObj (D + 1) (.loop (rec .done (some c)))).heap[D]? = some (.deferred (some [])) := fun c W3 hk4 hi4 => by
      obtain ⟨hr, h5, h6, h7⟩ := fin (some c) W3 hk4
      exact ⟨hr, (hIx c).put _ hi4 (by omega) h5 rfl, h6, h7⟩
    rintro e a3 W3 hp
    cases e with
    | normal =>
      obtain ⟨hk4, hkp4, hi4⟩ := hp
      obtain ⟨hr, h5, h6, h7⟩ := fin none W3 hk4
      exact ⟨_, _, hr, .inl ⟨rfl, ⟨hI.put _ hi4 (by omega) h5 rfl, h6, h7⟩, hKt hkp (hKt (hKt (hKb _ _) hkp4) (hKb _ _))⟩⟩
    | ret => obtain ⟨hr, h4, h5, h6⟩ := stop .ret W3 hp.1 hp.2; exact ⟨_, _, hr, .inr ⟨rfl, _, h4, h5, h6⟩⟩
    | exit id => obtain ⟨hr, h4, h5, h6⟩ := stop (.exit id) W3 hp.1 hp.2; exact ⟨_, _, hr, .inr ⟨rfl, _, h4, h5, h6⟩⟩
    | goto t => obtain ⟨hr, h4, h5, h6⟩ := stop (.goto t) W3 hp.1 hp.2; exact ⟨_, _, hr, .inr ⟨rfl, _, h4, h5, h6⟩⟩
    | panic ch => exact hp.elim
    | outgrown => exact hp.elim
  · rintro e W2 ⟨⟨v, rfl⟩, ⟨xs, hS, hi, hl, hk⟩ | ⟨pre, hSp, c, hi, hl, hk⟩⟩
    · exact ⟨none, _, by have := run_endLoop (P := P) hl (by rw [hrec]; simp); rw [hrec] at this; exact this, hdone _ xs _ (Nat.le_refl _) hS (hI.put _ hi (by omega) hl rfl) ((World.putObj_heap_other (by omega)).trans hk)⟩
    · exact ⟨some c, _, by have := run_endLoop (P := P) hl (by rw [hrec]; simp); rw [hrec] at this; exact this, hstop _ c pre _ (Nat.le_refl _) hSp ((hIx c).put _ hi (by omega) hl rfl) ((World.putObj_heap_other (by omega)).trans hk)⟩
/-- .. where the loop's variables are no boxes. -/
theorem wpIn_rangeFunc_mplain {α : Type} (T : TypeId) {g : Operand} {ps : Array Tmp} {assign body : Code} {Q : Exit → Act → World → Prop} {a : Act} {w : World}
    (hro : F.round = none) (h1 : 1 ≤ n) {gf : Nat} {lb : Array Value} (hg : a.eval g = .func (.func gf) #[] lb) (hF : F.fn gf) (he : ∀ args w, (callFunc gf args).run P w = .ok (.enter gf args) w)
    {encs : α → Array Value} {Kp : World → World → Prop} {S Sp : List α → Prop} {N : Nat} {w0 : World} (hseq : MSeqOwns T F (n - 1) P gf lb encs Kp S Sp N (w.heap.size + 2) w0)
    (hKt : ∀ {A B C : World}, Kp A B → Kp B C → Kp A C) (hKb : ∀ (W : World) (o' : Obj), Kp W (W.putObj (w.heap.size + 1) o')) (hKr : ∀ W, Kp W W) (hb0 : Below w0.heap.size w0 w) (hps : ∀ x, (encs x).size = ps.size)
    (I : List α → World → Prop) (Ix : Code → List α → World → Prop) (hI : MStays T w.heap.size (w.heap.size + 2) I) (hIx : ∀ c, MStays T w.heap.size (w.heap.size + 2) (Ix c)) (h0 : I [] w)
    (a₁ : α → Act)
    (hassign : ∀ (l : Nat) (x : α) (W : World) (K : Act → World → Prop), K (a₁ x) W →
      assign.wpIn (F.inRound l) (n - 1 - 1) P (Exit.then K (fun _ _ _ => False)) { tmps := (ps.zip (encs x)).foldl (fun t (p, v) => t.setIfInBounds p v) a.tmps, defers := [] } W)
    (hbody : ∀ (l : Nat) (pre : List α) (x : α) (W : World), I pre W → w.heap.size + 2 < W.heap.size → pre.length < N → Sp (pre ++ [x]) → body.wpIn (F.inRound l) (n - 1 - 1) P (ownPostG w.heap.size Kp I Ix (pre ++ [x]) W) (a₁ x) W)
    (hdone : ∀ (D : Nat) (xs : List α) (W : World), w.heap.size ≤ D → S xs → I xs W → W.heap[D]? = some (.deferred (some [])) → Q .normal { a with defers := { target := .collected D, args := #[] } :: a.defers } W)
    (hstop : ∀ (D : Nat) (c : Code) (pre : List α) (W : World), w.heap.size ≤ D → Sp pre → Ix c pre W → W.heap[D]? = some (.deferred (some [])) → c.wpIn F n P Q { a with defers := { target := .collected D, args := #[] } :: a.defers } W) :
    (Code.rangeFunc g ps assign body).wpIn F n P Q a w :=
  wpIn_rangeFunc_mowns T hro h1 hg hF he hseq (fun h k => hKt h k) hKb hb0 hps I Ix hI hIx h0 (fun x a' W => a' = a₁ x)
    (fun x a' s A A' row h hg' ht => h)
    (fun l pre x W K hi hG hK => hassign l x W K (hK _ _ ((KeepsOthers.refl W).from _) (hKr W) hi rfl))
    (fun l pre x a' W hi h hG hlen hsp => by subst h; exact hbody l pre x W hi hG hlen hsp) hdone hstop
end Go.Proofs.YtlkhmfmocegekaaDoor
