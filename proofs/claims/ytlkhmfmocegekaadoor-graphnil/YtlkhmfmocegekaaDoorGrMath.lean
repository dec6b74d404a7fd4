/- package graph, plain: graphs as lists of numbers, operations, what can be reached and in which order it is met, views. -/
import Derived.Test.YtlkhmfmocegekaaDoorOpFace
set_option linter.unusedVariables false
namespace Go.Gr
open Go.Sh Go.Oq
/-- A graph: the table, each thread's slots, each object's shape and fields; objects are numbered from 1 on. -/
structure Gr where
  ss : List ByteArray
  rt : List (List Nat)
  sh : List Nat
  fl : List (List Int)
/-- How many objects there are. -/
def Gr.m (g : Gr) : Nat := g.sh.length
def Gr.row (g : Gr) (t : Nat) : List Nat := g.rt.getD t []
def Gr.slot (g : Gr) (t s : Nat) : Nat := (g.row t).getD s 0
def Gr.shp (g : Gr) (x : Nat) : Nat := g.sh.getD (x - 1) 0
def Gr.fls (g : Gr) (x : Nat) : List Int := g.fl.getD (x - 1) []
def Gr.fld (g : Gr) (x f : Nat) : Int := (g.fls x).getD f 0
def Gr.txt (g : Gr) (x : Nat) : ByteArray := at' g.ss (g.shp x)
/-- Is a field a pointer field? -/
def ptr (s : ByteArray) (f : Nat) : Bool := s.data.toList.getD f 0 == 112
def Gr.setS (g : Gr) (t s x : Nat) : Gr := { g with rt := g.rt.set t ((g.row t).set s x) }
def Gr.setF (g : Gr) (x f : Nat) (v : Int) : Gr := { g with fl := g.fl.set (x - 1) ((g.fls x).set f v) }
def Gr.new (g : Gr) (k : Nat) : Gr := { g with sh := g.sh ++ [k], fl := g.fl ++ [List.replicate (at' g.ss k).size 0] }
/-- At first. -/
def first (ss : List ByteArray) (n : Nat) : Gr := { ss := ss, rt := List.replicate n [1, 0, 0, 0, 0, 0], sh := [0], fl := [List.replicate (at' ss 0).size 0] }
/-- What may be. -/
structure Gr.Ok (g : Gr) : Prop where
  rgt : right g.ss = true
  len : g.fl.length = g.sh.length
  big : g.sh.length ≤ 1000
  shs : ∀ x, 1 ≤ x → x ≤ g.m → g.shp x < g.ss.length
  fls : ∀ x, 1 ≤ x → x ≤ g.m → (g.fls x).length = (g.txt x).size
  six : ∀ t, t < g.rt.length → (g.row t).length = 6
  slo : ∀ t s, g.slot t s ≤ g.m
  ptr : ∀ x f, 1 ≤ x → x ≤ g.m → ptr (g.txt x) f = true → 0 ≤ g.fld x f ∧ g.fld x f ≤ (g.m : Int)
  bnd : ∀ x f, -9223372036854775808 ≤ g.fld x f ∧ g.fld x f ≤ 9223372036854775807
  thr : 1 ≤ g.rt.length ∧ g.rt.length ≤ 8
/-- An answer: the error, yes or no, the number. -/
abbrev Ans := Int × Bool × Int
/-- An operation of a field that there is, by its kind. -/
def deedF (g : Gr) (t : Nat) (f : Nat → Int) (o : Nat) : Gr × Ans :=
  match (f 0).toNat with
  | 2 => (g.setS t (f 2).toNat (g.fld o (f 4).toNat).toNat, (0, (g.fld o (f 4).toNat) != 0, 0))
  | 3 => (g.setF o (f 4).toNat (g.slot t (f 2).toNat), (0, false, 0))
  | 4 => if g.fld o (f 4).toNat = (g.slot t (f 2).toNat : Int) then (g.setF o (f 4).toNat (g.slot t (f 3).toNat), (0, true, 0)) else (g, (0, false, 0))
  | 5 => (g, (0, false, g.fld o (f 4).toNat))
  | 6 => (g.setF o (f 4).toNat (f 6), (0, false, 0))
  | _ => if g.fld o (f 4).toNat = f 6 then (g.setF o (f 4).toNat (f 7), (0, true, 0)) else (g, (0, false, 0))
/-- An operation that may be. -/
def deed (g : Gr) (t : Nat) (f : Nat → Int) : Gr × Ans :=
  match (f 0).toNat with
  | 1 => ((g.new (f 5).toNat).setS t (f 1).toNat (g.m + 1), (0, false, 0))
  | 8 => (g, (0, g.slot t (f 1).toNat == g.slot t (f 2).toNat, 0))
  | 9 => (g.setS t (f 1).toNat (g.slot t (f 2).toNat), (0, false, 0))
  | 10 => (g.setS t (f 1).toNat 0, (0, false, 0))
  | 11 => (g, (0, false, 0))
  | _ => if g.slot t (f 1).toNat = 0 then (g, (183, false, 0))
    else if iz g.ss (g.shp (g.slot t (f 1).toNat)) (f 4) (fld (f 0).toNat) = 0 then deedF g t f (g.slot t (f 1).toNat)
    else (g, (iz g.ss (g.shp (g.slot t (f 1).toNat)) (f 4) (fld (f 0).toNat), false, 0))
/-- An operation done. -/
def gdo (g : Gr) (t : Nat) (f : Nat → Int) : Gr × Ans := if chk g.ss f = 0 then deed g t f else (g, (chk g.ss f, false, 0))
/-! ### What can be reached -/
/-- What an object's fields hold: 0 for nothing, and where there is a scalar. -/
def Gr.kids (g : Gr) (x : Nat) : List Nat := (List.range (g.txt x).size).map fun f => if ptr (g.txt x) f then (g.fld x f).toNat else 0
/-- Going over a queue: what is met, in its order. -/
inductive Run (g : Gr) : List Nat → List Nat → List Nat → Prop
  | done (K : List Nat) : Run g K [] K
  | skip {K : List Nat} {o : Nat} {q L : List Nat} : o = 0 ∨ o ∈ K → Run g K q L → Run g K (o :: q) L
  | meet {K : List Nat} {o : Nat} {q L : List Nat} : o ≠ 0 → o ∉ K → Run g (K ++ [o]) (q ++ g.kids o) L → Run g K (o :: q) L
/-- What can be reached. -/
def Met (g : Gr) (L : List Nat) : Prop := Run g [] g.rt.flatten L
theorem Run.uniq {g : Gr} {K q L : List Nat} (h : Run g K q L) : ∀ {L' : List Nat}, Run g K q L' → L' = L := by
  induction h with
  | done K => intro L' h'; cases h'; rfl
  | skip ho _ ih =>
    intro L' h'
    cases h' with
    | skip _ h2 => exact ih h2
    | meet h0 h1 _ => rcases ho with h | h <;> contradiction
  | meet h0 h1 _ ih =>
    intro L' h'
    cases h' with
    | skip ho _ => rcases ho with h | h <;> contradiction
    | meet _ _ h2 => exact ih h2
theorem Run.pre {g : Gr} {K q L : List Nat} (h : Run g K q L) : ∃ r, L = K ++ r := by
  induction h with
  | done K => exact ⟨[], by simp⟩
  | skip _ _ ih => exact ih
  | meet _ _ _ ih => obtain ⟨r, rfl⟩ := ih; exact ⟨_, List.append_assoc _ _ _⟩
theorem Run.nodup {g : Gr} {K q L : List Nat} (h : Run g K q L) : K.Nodup → L.Nodup := by
  induction h with
  | done K => exact id
  | skip _ _ ih => exact ih
  | @meet K o q L h0 h1 _ ih =>
    intro hK
    refine ih (List.nodup_append.2 ⟨hK, by simp, ?_⟩)
    intro a ha b hb e
    simp only [List.mem_singleton] at hb
    subst hb e
    exact h1 ha
theorem Run.queue {g : Gr} {K q L : List Nat} (h : Run g K q L) : ∀ x ∈ q, x = 0 ∨ x ∈ L := by
  induction h with
  | done K => intro x hx; cases hx
  | @skip K o q L ho h2 ih =>
    intro x hx
    rcases List.mem_cons.1 hx with rfl | hx
    · rcases ho with h | h
      · exact .inl h
      · obtain ⟨r, rfl⟩ := h2.pre
        exact .inr (List.mem_append_left _ h)
    · exact ih x hx
  | @meet K o q L h0 h1 h2 ih =>
    intro x hx
    rcases List.mem_cons.1 hx with rfl | hx
    · obtain ⟨r, rfl⟩ := h2.pre
      exact .inr (List.mem_append_left _ (List.mem_append_right _ (List.mem_singleton.2 rfl)))
    · exact ih x (List.mem_append_left _ hx)
/-- All that is met keeps a property that the queue has, and that fields hand on. -/
theorem Run.all {g : Gr} {p : Nat → Prop} (hp : ∀ x, p x → x ≠ 0 → ∀ y ∈ g.kids x, p y) {K q L : List Nat} (h : Run g K q L) : (∀ x ∈ K, p x) → (∀ x ∈ q, p x) → ∀ x ∈ L, p x := by
  induction h with
  | done K => intro hK _; exact hK
  | skip _ _ ih => intro hK hq; exact ih hK (fun x hx => hq x (by simp [hx]))
  | @meet K o q L h0 h1 h2 ih =>
    intro hK hq
    have ho := hq o (by simp)
    refine ih (fun x hx => ?_) (fun x hx => ?_)
    · rcases List.mem_append.1 hx with h | h
      · exact hK x h
      · simp only [List.mem_singleton] at h; subst h; exact ho
    · rcases List.mem_append.1 hx with h | h
      · exact hq x (by simp [h])
      · exact hp o ho h0 x h
theorem Run.pos {g : Gr} {K q L : List Nat} (h : Run g K q L) : (∀ x ∈ K, x ≠ 0) → ∀ x ∈ L, x ≠ 0 := by
  induction h with
  | done K => exact id
  | skip _ _ ih => exact ih
  | @meet K o q L h0 _ _ ih =>
    intro hK
    refine ih (fun x hx => ?_)
    rcases List.mem_append.1 hx with h | h
    · exact hK x h
    · simp only [List.mem_singleton] at h; subst h; exact h0
/-- What an object that is met leads to is met. -/
theorem Run.shut {g : Gr} {K q L : List Nat} (h : Run g K q L) : (∀ x ∈ K, ∀ y ∈ g.kids x, y = 0 ∨ y ∈ K ∨ y ∈ q) → ∀ x ∈ L, ∀ y ∈ g.kids x, y = 0 ∨ y ∈ L := by
  induction h with
  | done K =>
    intro hK x hx y hy
    rcases hK x hx y hy with h | h | h
    · exact .inl h
    · exact .inr h
    · cases h
  | @skip K o q L ho _ ih =>
    intro hK
    refine ih (fun x hx y hy => ?_)
    rcases hK x hx y hy with h | h | h
    · exact .inl h
    · exact .inr (.inl h)
    · rcases List.mem_cons.1 h with rfl | h
      · rcases ho with h | h
        · exact .inl h
        · exact .inr (.inl h)
      · exact .inr (.inr h)
  | @meet K o q L h0 h1 _ ih =>
    intro hK
    refine ih (fun x hx y hy => ?_)
    rcases List.mem_append.1 hx with h | h
    · rcases hK x h y hy with h2 | h2 | h2
      · exact .inl h2
      · exact .inr (.inl (List.mem_append_left _ h2))
      · rcases List.mem_cons.1 h2 with rfl | h2
        · exact .inr (.inl (by simp))
        · exact .inr (.inr (List.mem_append_left _ h2))
    · simp only [List.mem_singleton] at h
      subst h
      exact .inr (.inr (List.mem_append_right _ hy))
/-- Of so many numbers no more than so many are apart. -/
theorem nodup_len : ∀ (m : Nat) (K : List Nat), K.Nodup → (∀ x ∈ K, 1 ≤ x ∧ x ≤ m) → K.length ≤ m := by
  intro m
  induction m with
  | zero =>
    intro K _ hb
    cases K with
    | nil => simp
    | cons a r => have := hb a (by simp); omega
  | succ m ih =>
    intro K hn hb
    have h1 := ih (K.erase (m + 1)) (hn.erase _) (fun x hx => by
      have hx2 := (List.Nodup.mem_erase_iff hn).1 hx
      have := hb x hx2.2
      have := hx2.1
      omega)
    have h2 := List.length_erase_le (a := m + 1) (l := K)
    by_cases hm : m + 1 ∈ K
    · have := List.length_erase_of_mem hm
      omega
    · rw [List.erase_of_not_mem hm] at h1
      omega
theorem kids_len (g : Gr) (x : Nat) : (g.kids x).length = (g.txt x).size := by simp [Gr.kids]
theorem Gr.Ok.txt8 {g : Gr} (h : g.Ok) {x : Nat} (h1 : 1 ≤ x) (h2 : x ≤ g.m) : (g.txt x).size ≤ 8 := one_size (right_all h.rgt _ (h.shs x h1 h2))
theorem Gr.Ok.kid {g : Gr} (h : g.Ok) {x : Nat} (h1 : 1 ≤ x) (h2 : x ≤ g.m) : ∀ y ∈ g.kids x, y ≤ g.m := by
  intro y hy
  simp only [Gr.kids, List.mem_map, List.mem_range] at hy
  obtain ⟨f, hf, rfl⟩ := hy
  split
  · next hp => have := h.ptr x f h1 h2 hp; omega
  · omega
/-- Each going over ends. -/
theorem run_ends {g : Gr} (h : g.Ok) : ∀ (N : Nat) (K q : List Nat), K.Nodup → (∀ x ∈ K, 1 ≤ x ∧ x ≤ g.m) → (∀ x ∈ q, x ≤ g.m) → 9 * (g.m - K.length) + q.length ≤ N → ∃ L, Run g K q L := by
  intro N
  induction N with
  | zero =>
    intro K q _ _ _ hN
    cases q with
    | nil => exact ⟨K, .done K⟩
    | cons a r => simp at hN
  | succ N ih =>
    intro K q hn hK hq hN
    cases q with
    | nil => exact ⟨K, .done K⟩
    | cons o r =>
      by_cases ho : o = 0 ∨ o ∈ K
      · obtain ⟨L, hL⟩ := ih K r hn hK (fun x hx => hq x (by simp [hx])) (by simp at hN; omega)
        exact ⟨L, .skip ho hL⟩
      · have h0 : o ≠ 0 := fun e => ho (.inl e)
        have h1 : o ∉ K := fun e => ho (.inr e)
        have h2 := hq o (by simp)
        have hn' : (K ++ [o]).Nodup := List.nodup_append.2 ⟨hn, by simp, fun a ha b hb e => by
          simp only [List.mem_singleton] at hb
          subst hb e
          exact h1 ha⟩
        have hK' : ∀ x ∈ K ++ [o], 1 ≤ x ∧ x ≤ g.m := fun x hx => by
          rcases List.mem_append.1 hx with h | h
          · exact hK x h
          · simp only [List.mem_singleton] at h; subst h; omega
        have hl := nodup_len g.m _ hn' hK'
        have h8 := h.txt8 (x := o) (by omega) h2
        obtain ⟨L, hL⟩ := ih (K ++ [o]) (r ++ g.kids o) hn' hK' (fun x hx => by
          rcases List.mem_append.1 hx with h' | h'
          · exact hq x (by simp [h'])
          · exact h.kid (by omega) h2 x h') (by
            simp [kids_len] at hN hl ⊢
            omega)
        exact ⟨L, .meet h0 h1 hL⟩
theorem flat_le {g : Gr} (h : g.Ok) : ∀ x ∈ g.rt.flatten, x ≤ g.m := by
  intro x hx
  obtain ⟨l, hl, hx⟩ := List.mem_flatten.1 hx
  obtain ⟨t, ht, rfl⟩ := List.mem_iff_getElem.1 hl
  obtain ⟨s, hs, rfl⟩ := List.mem_iff_getElem.1 hx
  have := h.slo t s
  simpa [Gr.slot, Gr.row, List.getD_eq_getElem?_getD, List.getElem?_eq_getElem ht, List.getElem?_eq_getElem hs] using this
theorem met_ends {g : Gr} (h : g.Ok) : ∃ L, Met g L := run_ends h _ [] g.rt.flatten (by simp) (by simp) (flat_le h) (Nat.le_refl _)
theorem Met.nodup {g : Gr} {L : List Nat} (h : Met g L) : L.Nodup := Run.nodup h (by simp)
theorem Met.pos {g : Gr} {L : List Nat} (h : Met g L) : ∀ x ∈ L, x ≠ 0 := Run.pos h (by simp)
theorem Met.le {g : Gr} {L : List Nat} (h : Met g L) (ok : g.Ok) : ∀ x ∈ L, x ≤ g.m := by
  have := Run.all (p := fun x => x ≤ g.m) (fun x hx h0 y hy => ok.kid (by omega) hx y hy) h (by simp) (flat_le ok)
  exact this
theorem Met.len {g : Gr} {L : List Nat} (h : Met g L) (ok : g.Ok) : L.length ≤ g.m :=
  nodup_len g.m L h.nodup (fun x hx => ⟨by have := h.pos x hx; omega, h.le ok x hx⟩)
theorem Met.root {g : Gr} {L : List Nat} (h : Met g L) : ∀ x ∈ g.rt.flatten, x = 0 ∨ x ∈ L := Run.queue h
theorem Met.kid {g : Gr} {L : List Nat} (h : Met g L) : ∀ x ∈ L, ∀ y ∈ g.kids x, y = 0 ∨ y ∈ L := Run.shut h (by simp)
/-! ### The same, with what waits known already -/
/-- What is new in a list, behind what is there. -/
def enq (out : List Nat) (q : List Nat) : List Nat := q.foldl (fun o x => if x = 0 ∨ x ∈ o then o else o ++ [x]) out
theorem enq_append (out q r : List Nat) : enq out (q ++ r) = enq (enq out q) r := by simp [enq]
theorem enq_skip {out q : List Nat} {o : Nat} (h : o = 0 ∨ o ∈ out) : enq out (o :: q) = enq out q := by simp [enq, h]
theorem enq_meet {out q : List Nat} {o : Nat} (h0 : o ≠ 0) (h1 : o ∉ out) : enq out (o :: q) = enq (out ++ [o]) q := by simp [enq, h0, h1]
theorem enq_pre : ∀ (q out : List Nat), ∃ r, enq out q = out ++ r
  | [], out => ⟨[], by simp [enq]⟩
  | o :: q, out => by
    by_cases h : o = 0 ∨ o ∈ out
    · rw [enq_skip h]; exact enq_pre q out
    · rw [enq_meet (fun e => h (.inl e)) (fun e => h (.inr e))]
      obtain ⟨r, hr⟩ := enq_pre q (out ++ [o])
      exact ⟨o :: r, by rw [hr]; simp⟩
/-- Where so many are gone over, and so many wait. -/
def At (g : Gr) (i : Nat) (out L : List Nat) : Prop := ∃ K q, Run g K q L ∧ K.length = i ∧ enq K q = out
theorem At.start {g : Gr} {L : List Nat} (h : Met g L) : At g 0 (enq [] g.rt.flatten) L := ⟨[], _, h, rfl, rfl⟩
theorem At.le {g : Gr} {i : Nat} {out L : List Nat} (h : At g i out L) : i ≤ out.length := by
  obtain ⟨K, q, _, hi, he⟩ := h
  obtain ⟨r, hr⟩ := enq_pre q K
  rw [← he, hr]; simp; omega
theorem At.done {g : Gr} {i : Nat} {out L : List Nat} (h : At g i out L) (hi : out.length ≤ i) : out = L := by
  obtain ⟨K, q, hr, hk, he⟩ := h
  obtain ⟨r, hr2⟩ := enq_pre q K
  have : r = [] := by
    have := congrArg List.length hr2
    rw [he] at this
    simp at this
    exact List.eq_nil_of_length_eq_zero (by omega)
  subst this
  rw [he, List.append_nil] at hr2
  subst hr2
  clear hi hk
  induction hr with
  | done K => rfl
  | @skip K o q L ho h2 ih => rw [enq_skip ho] at he; exact ih he
  | @meet K o q L h0 h1 h2 ih =>
    rw [enq_meet h0 h1] at he
    obtain ⟨r, hr⟩ := enq_pre q (K ++ [o])
    rw [he] at hr
    have := congrArg List.length hr
    simp at this
theorem At.step {g : Gr} {i : Nat} {out L : List Nat} (h : At g i out L) (hi : i < out.length) : At g (i + 1) (enq out (g.kids (out.getD i 0))) L := by
  obtain ⟨K, q, hr, hk, he⟩ := h
  induction hr with
  | done K => simp [enq] at he; subst he; omega
  | @skip K o q L ho h2 ih => rw [enq_skip ho] at he; exact ih hk he
  | @meet K o q L h0 h1 h2 ih =>
    rw [enq_meet h0 h1] at he
    obtain ⟨r, hr⟩ := enq_pre q (K ++ [o])
    have ho : out.getD i 0 = o := by
      rw [← he, hr, ← hk]
      simp [List.getD_eq_getElem?_getD]
    refine ⟨K ++ [o], q ++ g.kids o, h2, by simp; omega, ?_⟩
    rw [enq_append, he, ho]
end Go.Gr
