/- The walks of the laws ArenaChecks and ArenaOf; what their lists hold. -/
import Derived.Test.YtlmkbnebpaopeaaArWorks
import Derived.Test.YtlmkbnebpaopeaaArRefD
import Derived.Test.YtlmkbnebpaopeaaArHas
namespace Go.Proofs.Ytlmkbnebpaopeaa
open Go.RowKit Go.Shelf Go.Sort
/-- An access as four numbers. -/
structure Acs where
  k : Int
  p : Int
  o : Int
  n : Int
/-- Accesses that a slice leads to. -/
def Accs (W : World) (b off len : Nat) (q : Nat → Acs) : Prop := ∀ i, i < len →
  (W.cell? ⟨b, off + i * 4, none⟩ = some (.int .i64 (q i).k) ∧ W.cell? ⟨b, off + i * 4 + 1, none⟩ = some (.int .i64 (q i).p) ∧ W.cell? ⟨b, off + i * 4 + 2, none⟩ = some (.int .u64 (q i).o) ∧ W.cell? ⟨b, off + i * 4 + 3, none⟩ = some (.int .u64 (q i).n)) ∧
  0 ≤ (q i).n ∧ (q i).n ≤ 18446744073709551615
theorem Accs.below {W W' : World} {b off len : Nat} {q : Nat → Acs} (h : Accs W b off len q) (k : Below W.heap.size W W') : Accs W' b off len q := fun i hi => by
  obtain ⟨⟨h0, h1, h2, h3⟩, hn⟩ := h i hi
  have t := fun {p : Addr} {v : Value} (h : W.cell? p = some v) => (k.cell (p := p) (block_lt_of_cell h)).trans h
  exact ⟨⟨t h0, t h1, t h2, t h3⟩, hn⟩
/-- A slice of accesses that came in. -/
def IsAccs (W : World) (a : Option Addr) (len : Nat) : Prop := len = 0 ∨ ∃ b off q, a = some ⟨b, off, none⟩ ∧ Accs W b off len q
/-- A slice of words that came in. -/
def IsWs (W : World) (a : Option Addr) (len : Nat) : Prop := len = 0 ∨ ∃ b off xs, a = some ⟨b, off, none⟩ ∧ xs.length = len ∧ Ws W b off xs ∧ InW xs
theorem isWs_of_row {W : World} {a : Option Addr} {len cap : Nat} {zs : List Int} (h : IsRow W a len cap zs) : IsWs W a len := by
  rcases h with ⟨_, h, _, _⟩ | ⟨x, rfl, hl, hm, hz, hcell, hw⟩
  · exact .inl h
  · by_cases h0 : len = 0
    · exact .inl h0
    · right
      obtain ⟨b, off, rfl, hc⟩ := IsRow.cells (by omega : 0 < len) hl hz hcell hw
      refine ⟨b, off, zs.take len, rfl, by simp; omega, fun i hi => ?_, fun x hx => ?_⟩
      · have hi' : i < len := by simp at hi; omega
        rw [(hc i hi').2.1]
        simp [wat, List.getD, hi']
      · obtain ⟨i, hi, rfl⟩ := List.getElem_of_mem hx
        have hi' : i < len := by simp at hi; omega
        have := (hc i hi').2.2
        have e : zs.getD i 0 = (zs.take len)[i] := by simp [List.getD, List.getElem?_eq_getElem (show i < zs.length by omega)]
        rwa [e] at this
/-- The four cells of an access. -/
abbrev AcS (b g : Nat) (k p o n : Int) (W : World) : Prop :=
  W.cell? ⟨b, g, none⟩ = some (.int .i64 k) ∧ W.cell? ⟨b, g + 1, none⟩ = some (.int .i64 p) ∧ W.cell? ⟨b, g + 2, none⟩ = some (.int .u64 o) ∧ W.cell? ⟨b, g + 3, none⟩ = some (.int .u64 n)
theorem acS_below {b g : Nat} {k p o n : Int} {W W' : World} (h : AcS b g k p o n W) (bw : Below W.heap.size W W') : AcS b g k p o n W' := by
  obtain ⟨h0, h1, h2, h3⟩ := h
  have t := fun {p : Addr} {v : Value} (h : W.cell? p = some v) => (bw.cell (p := p) (block_lt_of_cell h)).trans h
  exact ⟨t h0, t h1, t h2, t h3⟩
theorem acS_drew {b g : Nat} {k p o n : Int} {W : World} (h : AcS b g k p o n W) : AcS b g k p o n W.drew := h
set_option maxRecDepth 100000 in
set_option maxHeartbeats 8000000 in
theorem arenaChecks_walk (a : Option Addr) (len cap : Nat) (w : World) (hw : IsAccs w a len) :
    Calls Try.prog 3 #[.slice a len cap] w fun e w' => e = .returned (.bool true) ∧ Below w.heap.size w w' := by
  by_cases h60 : 60 < len
  · have h60' : 60 < (len : Int) := by omega
    go_enter Try.func3, Try.ntmps3
    go_wp2_with (go_at_call 9; refine (aworks_any _).mono ?_; rintro e w' ⟨rfl, b1⟩)
    go_ret
    exact ⟨rfl, b1⟩
  · have h60' : (len : Int) ≤ 60 := by omega
    clear h60
    have HW := hid hw
    clear hw
    go_enter Try.func3, Try.ntmps3
    go_wp2
    go_loopw [3] (fun i wr => ∃ k : Nat, k ≤ len ∧ i = .int .i64 k ∧ Hid (Below w.heap.size w wr)) (fun i _ => len - (intOf i).toNat)
    case atStart => exact ⟨0, Nat.zero_le _, rfl, hid (Below.refl _ _)⟩
    case round =>
      obtain ⟨k, hk, rfl, HB⟩ := hrel
      by_cases hlt : k < len
      · have hlt' : (k : Int) < len := by omega
        rcases HW.out with h0 | ⟨b, off, q, rfl, hq⟩
        · omega
        obtain ⟨hS0, _⟩ := (hq.below HB.out) k hlt
        clear hq
        generalize q k = x at *
        obtain ⟨xk, xp, xo, xn⟩ := x
        dsimp only at hS0
        have c0 := cell_regrown hS0.1
        have c1 := cell_regrown hS0.2.1
        have c2 := cell_regrown hS0.2.2.1
        have c3 := cell_regrown hS0.2.2.2
        clear hS0
        have cc := fun W => Check_any xk xp xo xn W
        have rc := fun W => rCheck_any xk xp xo xn W
        revert cc rc
        generalize (if ck xk xp xo xn = true then (0 : Int) else 2) = er
        intro cc rc
        have cC : ∀ d os, Calls Try.prog 11 #[acc xk xp xo xn] (grow (redrawn wr d) os) fun e w'' => e = .returned (.int .i64 er) ∧ ∃ p : Regrown, w'' = grow (redrawn wr p.d) p.os := fun d os => Calls.regrown_of (cc _)
        have cR : ∀ d os, Calls Try.prog 12 #[acc xk xp xo xn] (grow (redrawn wr d) os) fun e w'' => e = .returned (.int .i64 er) ∧ ∃ p : Regrown, w'' = grow (redrawn wr p.d) p.os := fun d os => Calls.regrown_of (rc _)
        have cN : ∀ d os, Calls Try.prog 10 #[.int .i64 er] (grow (redrawn wr d) os) fun e w'' => e = .returned (.int .i64 er) ∧ ∃ p : Regrown, w'' = grow (redrawn wr p.d) p.os := fun d os => Calls.regrown_of ((anum_any er _).mono fun _ _ h => ⟨h.1, h.2 ▸ Below.refl _ _⟩)
        have hne : (er != er) = false := by simp
        clear cc rc
        go_wp2
        refine wp_region_quiet_below (by kernel_rfl) (by kernel_rfl) ?_
        repeat (go_big_quiet_step ((first | (go_at_call 11; exact cC _ _) | (go_at_call 12; exact cR _ _) | (go_at_call 10; exact cN _ _))))
        refine wpQuiet_nil ?_
        intro _ hw'
        obtain ⟨⟨dq, osq⟩, hw''⟩ := hw'
        subst hw''
        go_wp2
        go_roundw
        case rel => exact ⟨k + 1, by omega, by go_num, hid (HB.out.trans ((below_regrown wr dq osq).mono HB.out.size))⟩
        case measure => simp [intOf]; omega
      · go_wp2_with (go_at_call 9; refine (aworks_any _).mono ?_; rintro e w' ⟨rfl, b1⟩)
        go_ret
        exact ⟨rfl, HB.out.trans (b1.mono HB.out.size)⟩
end Go.Proofs.Ytlmkbnebpaopeaa
