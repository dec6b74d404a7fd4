/- package layout: the extents of a plan, the first word of a kind, how many words there are. -/
import Derived.Test.YtldfmlkjeniemaaDoorPkMathOn
namespace Go.Proofs.YtldfmlkjeniemaaDoor
open Go.RowKit Go.Ly
theorem last2 (w : World) (A B : Obj) : ((w.alloc A).alloc B).heap[w.heap.size + 1]? = some B := row2b (Below.refl _ _)
theorem setRow2 (w : World) (A : Obj) (cs cs' : Array Value) (t : TypeId) : ((w.alloc A).alloc (.cells cs t)).setRow (w.heap.size + 1) cs' = (w.alloc A).alloc (.cells cs' t) := by
  have := World.setRow_alloc_new (w.alloc A) cs cs' t
  rwa [size_alloc] at this
/-- The extents of a plan, kind by kind. -/
def extArr (p : Value) : Array Value := #[.func (.func 94) #[p] #[], .func (.func 95) #[p] #[], .func (.func 95) #[p] #[], .func (.func 95) #[p] #[], .func (.func 96) #[p] #[], .func (.func 96) #[p] #[], .func (.func 97) #[p] #[]]
theorem extArr_one (p : Value) : (extArr p).all (·.oneCell') = true := by kernel_rfl
theorem extArr_size (p : Value) : (Tryd.prog.info? 141).map (·.size) = some (extArr p).size := by kernel_rfl
set_option maxHeartbeats 1000000 in
theorem extents_any (t s : Int) (a : Option Addr) (n c : Nat) (w : World) :
    Calls Tryd.prog 82 #[planV t s a n c] w fun e w' => e = .returned (.agg (extArr (planV t s a n c))) ∧ Below w.heap.size w w' := by
  go_enter Tryd.func82, Tryd.ntmps82
  go_wp2_with (refine wpList_store_row rfl 141 _ _ rfl (w.heap.size + 1) (extArr (planV t s a n c)) rfl rfl 141 _ (last2 w _ _) (extArr_size _) rfl (extArr_one _) ?_; rw [setRow2])
  refine bodyPost_ret (v := .agg (extArr (planV t s a n c))) (results_cell_row Tryd.results82 _ _ (w.heap.size + 1) 141 (extArr (planV t s a n c)) (0, 0) _ rfl (last2 w _ _) Tryd.underlying141 rfl (extArr_size _)) rfl ⟨rfl, (below_alloc0 w _).alloc (by simp) _⟩
theorem ext_at0 (p : Value) : (extArr p)[0]? = some (.func (.func 94) #[p] #[]) := rfl
theorem ext_at1 (p : Value) : (extArr p)[1]? = some (.func (.func 95) #[p] #[]) := rfl
theorem ext_at2 (p : Value) : (extArr p)[2]? = some (.func (.func 95) #[p] #[]) := rfl
theorem ext_at3 (p : Value) : (extArr p)[3]? = some (.func (.func 95) #[p] #[]) := rfl
theorem ext_at4 (p : Value) : (extArr p)[4]? = some (.func (.func 96) #[p] #[]) := rfl
theorem ext_at5 (p : Value) : (extArr p)[5]? = some (.func (.func 96) #[p] #[]) := rfl
theorem ext_at6 (p : Value) : (extArr p)[6]? = some (.func (.func 97) #[p] #[]) := rfl
set_option maxRecDepth 100000 in
set_option maxHeartbeats 4000000 in
theorem base_at (t s : Int) (a : Option Addr) (n c : Nat) (K : Nat) (w : World) (t0 : 1 ≤ t) (t1 : t ≤ 8) (s0 : 32 ≤ s) (s1 : s ≤ 4096) (hK : K ≤ 7) :
    Calls Tryd.prog 80 #[planV t s a n c, .int .i64 (K : Int)] w fun e w' => e = .returned (.int .i64 (bs t s K)) ∧ Below w.heap.size w w' := by
  have hK7 : (K : Int) ≤ 7 := by omega
  go_enter Tryd.func80, Tryd.ntmps80
  go_wp2_with (go_at_call 82; refine (extents_any t s a n c _).mono ?_)
  rintro e w1 ⟨rfl, b1⟩
  have B1 := hid (bel1 b1)
  have z1 := siz1 b1
  clear b1
  generalize hp : planV t s a n c = p
  have c0 := fun W => plNone_any t s a n c W
  have c1 := fun W => plOne_any t s a n c W
  have c2 := fun W => plThread_any t s a n c W
  have c3 := fun W => plSpace_any t s a n c W
  rw [hp] at c0 c1 c2 c3
  clear hp
  go_wp2_with (refine wpList_store_row rfl 141 _ _ rfl w1.heap.size (extArr p) rfl rfl 141 _ (heap_alloc_last w1 _) (extArr_size _) rfl (extArr_one _) ?_; rw [World.setRow_alloc_new])
  have hz1 := heap_alloc_last w1 (.cells (extArr p) 141)
  go_loopw [5, 16] (fun x i wr => ∃ k : Nat, k ≤ K ∧ i = .int .i64 (k : Int) ∧ ∃ y : Int, x = .int .i64 y ∧ Hid (y = bs t s k) ∧ 0 ≤ y ∧ y ≤ 20000 ∧ Hid (Below (w1.heap.size + 1) (w1.alloc (.cells (extArr p) 141)) wr)) (fun _ i _ => K - (intOf i).toNat)
  case atStart => exact ⟨0, by omega, rfl, 0, rfl, hid rfl, by omega, by omega, hid (Below.refl _ _)⟩
  case round =>
    obtain ⟨k, hk, rfl, y, rfl, hy, y0, y1, B⟩ := hrel
    by_cases hlt : k < K
    · have hrow : wr.heap[w1.heap.size]? = some (.cells (extArr p) 141) := (B.out.block _ (by omega)).trans hz1
      have hcs : k = 0 ∨ k = 1 ∨ k = 2 ∨ k = 3 ∨ k = 4 ∨ k = 5 ∨ k = 6 := by omega
      rcases hcs with rfl | rfl | rfl | rfl | rfl | rfl | rfl
      · have hc := at_row hrow 0 (ext_at0 p)
        have hv := hid (hy.out.trans (show bs t s 0 = 0 from rfl))
        have hw := hid (bs1 t s)
        clear hrow hy
        go_wp2_with (first | (go_at_call 94; refine (c0 _).mono ?_; rintro e w2 ⟨rfl, b2⟩) | (go_at_call 95; refine (c1 _).mono ?_; rintro e w2 ⟨rfl, b2⟩) | (go_at_call 96; refine (c2 _).mono ?_; rintro e w2 ⟨rfl, b2⟩) | (go_at_call 97; refine (c3 _).mono ?_; rintro e w2 ⟨rfl, b2⟩))
        have := hv.out
        have := hw.out
        go_roundw
        case rel => exact ⟨1, by omega, by go_num, _, rfl, hid (by omega), by omega, by omega, hid (B.out.trans (b2.mono (by have := B.out.size; simpa using this)))⟩
        case measure => simp [intOf]; omega
      · have hc := at_row hrow 1 (ext_at1 p)
        have hv := hid (hy.out.trans (bs1 t s))
        have hw := hid (bs2 t s)
        clear hrow hy
        go_wp2_with (first | (go_at_call 94; refine (c0 _).mono ?_; rintro e w2 ⟨rfl, b2⟩) | (go_at_call 95; refine (c1 _).mono ?_; rintro e w2 ⟨rfl, b2⟩) | (go_at_call 96; refine (c2 _).mono ?_; rintro e w2 ⟨rfl, b2⟩) | (go_at_call 97; refine (c3 _).mono ?_; rintro e w2 ⟨rfl, b2⟩))
        have := hv.out
        have := hw.out
        go_roundw
        case rel => exact ⟨2, by omega, by go_num, _, rfl, hid (by omega), by omega, by omega, hid (B.out.trans (b2.mono (by have := B.out.size; simpa using this)))⟩
        case measure => simp [intOf]; omega
      · have hc := at_row hrow 2 (ext_at2 p)
        have hv := hid (hy.out.trans (bs2 t s))
        have hw := hid (bs3 t s)
        clear hrow hy
        go_wp2_with (first | (go_at_call 94; refine (c0 _).mono ?_; rintro e w2 ⟨rfl, b2⟩) | (go_at_call 95; refine (c1 _).mono ?_; rintro e w2 ⟨rfl, b2⟩) | (go_at_call 96; refine (c2 _).mono ?_; rintro e w2 ⟨rfl, b2⟩) | (go_at_call 97; refine (c3 _).mono ?_; rintro e w2 ⟨rfl, b2⟩))
        have := hv.out
        have := hw.out
        go_roundw
        case rel => exact ⟨3, by omega, by go_num, _, rfl, hid (by omega), by omega, by omega, hid (B.out.trans (b2.mono (by have := B.out.size; simpa using this)))⟩
        case measure => simp [intOf]; omega
      · have hc := at_row hrow 3 (ext_at3 p)
        have hv := hid (hy.out.trans (bs3 t s))
        have hw := hid (bs4 t s)
        clear hrow hy
        go_wp2_with (first | (go_at_call 94; refine (c0 _).mono ?_; rintro e w2 ⟨rfl, b2⟩) | (go_at_call 95; refine (c1 _).mono ?_; rintro e w2 ⟨rfl, b2⟩) | (go_at_call 96; refine (c2 _).mono ?_; rintro e w2 ⟨rfl, b2⟩) | (go_at_call 97; refine (c3 _).mono ?_; rintro e w2 ⟨rfl, b2⟩))
        have := hv.out
        have := hw.out
        go_roundw
        case rel => exact ⟨4, by omega, by go_num, _, rfl, hid (by omega), by omega, by omega, hid (B.out.trans (b2.mono (by have := B.out.size; simpa using this)))⟩
        case measure => simp [intOf]; omega
      · have hc := at_row hrow 4 (ext_at4 p)
        have hv := hid (hy.out.trans (bs4 t s))
        have hw := hid (bs5 t s)
        clear hrow hy
        go_wp2_with (first | (go_at_call 94; refine (c0 _).mono ?_; rintro e w2 ⟨rfl, b2⟩) | (go_at_call 95; refine (c1 _).mono ?_; rintro e w2 ⟨rfl, b2⟩) | (go_at_call 96; refine (c2 _).mono ?_; rintro e w2 ⟨rfl, b2⟩) | (go_at_call 97; refine (c3 _).mono ?_; rintro e w2 ⟨rfl, b2⟩))
        have := hv.out
        have := hw.out
        go_roundw
        case rel => exact ⟨5, by omega, by go_num, _, rfl, hid (by omega), by omega, by omega, hid (B.out.trans (b2.mono (by have := B.out.size; simpa using this)))⟩
        case measure => simp [intOf]; omega
      · have hc := at_row hrow 5 (ext_at5 p)
        have hv := hid (hy.out.trans (bs5 t s))
        have hw := hid (bs6 t s)
        clear hrow hy
        go_wp2_with (first | (go_at_call 94; refine (c0 _).mono ?_; rintro e w2 ⟨rfl, b2⟩) | (go_at_call 95; refine (c1 _).mono ?_; rintro e w2 ⟨rfl, b2⟩) | (go_at_call 96; refine (c2 _).mono ?_; rintro e w2 ⟨rfl, b2⟩) | (go_at_call 97; refine (c3 _).mono ?_; rintro e w2 ⟨rfl, b2⟩))
        have := hv.out
        have := hw.out
        go_roundw
        case rel => exact ⟨6, by omega, by go_num, _, rfl, hid (by omega), by omega, by omega, hid (B.out.trans (b2.mono (by have := B.out.size; simpa using this)))⟩
        case measure => simp [intOf]; omega
      · have hc := at_row hrow 6 (ext_at6 p)
        have hv := hid (hy.out.trans (bs6 t s))
        have hw := hid (bs7 t s)
        clear hrow hy
        go_wp2_with (first | (go_at_call 94; refine (c0 _).mono ?_; rintro e w2 ⟨rfl, b2⟩) | (go_at_call 95; refine (c1 _).mono ?_; rintro e w2 ⟨rfl, b2⟩) | (go_at_call 96; refine (c2 _).mono ?_; rintro e w2 ⟨rfl, b2⟩) | (go_at_call 97; refine (c3 _).mono ?_; rintro e w2 ⟨rfl, b2⟩))
        have := hv.out
        have := hw.out
        go_roundw
        case rel => exact ⟨7, by omega, by go_num, _, rfl, hid (by omega), by omega, by omega, hid (B.out.trans (b2.mono (by have := B.out.size; simpa using this)))⟩
        case measure => simp [intOf]; omega
    · obtain rfl : k = K := by omega
      have HB := hid (B1.out.trans (((below_alloc0 w1 _).mono (by omega)).trans (B.out.mono (by omega))))
      clear B B1
      go_wp2
      go_ret
      exact ⟨ret_int hy.out, HB.out⟩
theorem size_at (t s : Int) (a : Option Addr) (n c : Nat) (w : World) (t0 : 1 ≤ t) (t1 : t ≤ 8) (s0 : 32 ≤ s) (s1 : s ≤ 4096) :
    Calls Tryd.prog 65 #[planV t s a n c] w fun e w' => e = .returned (.int .i64 (3 + t + t + 2 * s)) ∧ Below w.heap.size w w' := by
  have cb := fun W => base_at t s a n c 7 W t0 t1 s0 s1 (by omega)
  simp only [bs7] at cb
  go_enter Tryd.func65, Tryd.ntmps65
  go_wp2_with (go_at_call 80; refine (cb _).mono ?_; rintro e w1 ⟨rfl, b1⟩)
  go_ret
  exact ⟨rfl, bel1 b1⟩
end Go.Proofs.YtldfmlkjeniemaaDoor
