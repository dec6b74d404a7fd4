/- package object: read. -/
import Derived.Test.YtldfmlkjeniemaaGreatDoorLyFaceOn
import Derived.Test.YtldfmlkjeniemaaGreatDoorObHeld
import Derived.OwnWalk
set_option linter.unusedVariables false
namespace Go.Proofs.YtldfmlkjeniemaaGreatDoor
open Go.RowKit Go.Ly Go.Hd Go.Sh Go.Ob
/-- append to a row of the call's own, as one step of a region that draws its order. -/
theorem step_append_own {P : Program} {ops : Array Oper} {o : Oper} {a : Act} {w : World} {K : Act → World → Prop} {Q : Exit → Act → World → Prop} {E : Prop}
    (hg : o.guard = none) (s x : Operand) (t : TypeId) (hop : o.op = .call { callee := .builtin .append, args := #[s, x], argTypes := #[t, t] })
    (base : Nat) (e : TypeId) (i : TypeInfo) (z : Value) (size bytes : Nat) (ht : P.underlying t = some (.slice e)) (hi : P.info? e = some i) (hz : i.zero = some z)
    (hsize : i.size = size) (hby : i.bytes = bytes) (hzs : z.cells.size = size) (hsz : 0 < size)
    (v : Value) (n : Nat) (xs : List Value) (hs : a.eval s = v) (hown : w.ownsRow base e size v n xs)
    (ad : Addr) (m c : Nat) (news : List Value) (hx : a.eval x = .slice (some ad) m c) (hl : news.length = m * size) (hnews : ∀ j u, news[j]? = some u → w.cell? (ad.add j) = some u) (h1 : ∀ u ∈ news, u.oneCell' = true)
    (h63 : n + m ≤ maxLen) (hbytes : (n + m) * bytes ≤ 140737488355328) (hbase : base ≤ w.heap.size)
    (h : ∀ v' w', w'.ownsRow base e size v' (n + m) (xs ++ news) → w.grownBy w' v.ownBlock → K (a.put o.dst v') w') :
    if Region.wanted o (yielded ops a.tmps) = true then Oper.wp P o a w K Q else E := by
  have hw : Region.wanted o (yielded ops a.tmps) = true := by simp [Region.wanted, hg]
  rw [if_pos hw]
  exact wp_append_own w s x t hop base e i z size bytes ht hi hz hsize hby hzs hsz v n xs hs hown ad m c news hx hl hnews h1 h63 hbytes hbase fun v' w' h2 h3 _ => h v' w' h2 h3
/-- An object, as it is handed round. -/
abbrev obC (at_ sh mk_ lk : Int) (v : Value) : Array Value := #[.int .i64 at_, .int .i64 sh, .int .i64 mk_, .int .u64 lk, v]
abbrev obV (at_ sh mk_ lk : Int) (v : Value) : Value := .agg (obC at_ sh mk_ lk v)
abbrev obO (at_ sh mk_ lk : Int) (v : Value) : Obj := .cells (obC at_ sh mk_ lk v) 41
theorem aob_size : (Tryz.prog.info? 41).map (·.size) = some 5 := by kernel_rfl
/-- Words that a slice leads to; whoever made them made them from the block lo on. -/
def FsAt (lo : Nat) (W : World) (v : Value) (zs : List Int) : Prop := ∃ a c, v = .slice a zs.length c ∧ (zs = [] ∨ ∃ b off, a = some ⟨b, off, none⟩ ∧ lo ≤ b ∧ Ws W b off zs)
theorem FsAt.below {lo : Nat} {W W' : World} {v : Value} {zs : List Int} (h : FsAt lo W v zs) (b : Below W.heap.size W W') : FsAt lo W' v zs := by
  obtain ⟨a, c, rfl, h⟩ := h
  refine ⟨a, c, rfl, ?_⟩
  rcases h with rfl | ⟨b1, off, rfl, h2, h3⟩
  · exact .inl rfl
  · exact .inr ⟨b1, off, rfl, h2, h3.below b⟩
theorem FsAt.set {lo : Nat} {W : World} {v : Value} {zs : List Int} (h : FsAt lo W v zs) {g : Nat} (hg : g < lo) (i : Nat) (u : Value) : FsAt lo (W.setCell ⟨g, i, none⟩ u) v zs := by
  obtain ⟨a, c, rfl, h⟩ := h
  refine ⟨a, c, rfl, ?_⟩
  rcases h with rfl | ⟨b1, off, rfl, h2, h3⟩
  · exact .inl rfl
  · exact .inr ⟨b1, off, rfl, h2, fun j hj => (World.cell?_setCell_other W _ _ u (fun e => by cases e; omega)).trans (h3 j hj)⟩
theorem FsAt.lower {lo lo' : Nat} {W : World} {v : Value} {zs : List Int} (h : FsAt lo W v zs) (hl : lo' ≤ lo) : FsAt lo' W v zs := by
  obtain ⟨a, c, rfl, h⟩ := h
  refine ⟨a, c, rfl, ?_⟩
  rcases h with rfl | ⟨b1, off, rfl, h2, h3⟩
  · exact .inl rfl
  · exact .inr ⟨b1, off, rfl, by omega, h3⟩
theorem rinfo_u64 : (Tryz.prog.info? 39).map (fun i => (i.zero, i.size, i.bytes)) = some (some (.int .u64 0), 1, 8) := by kernel_rfl
theorem fsAt_own {lo base : Nat} {W : World} {v : Value} {k : Nat} {zs : List Int} (h : W.ownsRow base 39 1 v k (zs.map (Value.int .u64))) (hl : lo ≤ base) : FsAt lo W v zs := by
  have hk : zs.length = k := by have := h.1; simpa using this
  subst hk
  rcases h.2 with ⟨rfl, h0⟩ | ⟨g, cap, cur, rfl, hg, hrow, _, _, _, htk⟩
  · refine ⟨none, 0, by rw [h0], .inl (List.eq_nil_of_length_eq_zero h0)⟩
  · refine ⟨_, _, rfl, .inr ⟨g, 0, rfl, by omega, fun i hi => ?_⟩⟩
    rw [Nat.zero_add]
    refine at_row hrow i ?_
    rw [Nat.mul_one] at htk
    have e1 : (cur.toList.take zs.length)[i]? = some (.int .u64 (wat zs i)) := by
      rw [htk, List.getElem?_map, List.getElem?_eq_getElem hi, wat, List.getD_eq_getElem?_getD, List.getElem?_eq_getElem hi]; rfl
    rw [List.getElem?_take_of_lt hi, Array.getElem?_toList] at e1
    exact e1
/-- The first so many fields of the object at a word. -/
def flw (xs : List Int) (q k : Nat) : List Int := (List.range k).map fun i => wat xs (q + 2 + i)
theorem flw_len (xs : List Int) (q k : Nat) : (flw xs q k).length = k := by simp [flw]
theorem flw_succ (xs : List Int) (q k : Nat) : flw xs q (k + 1) = flw xs q k ++ [wat xs (q + 2 + k)] := by simp [flw, List.range_succ]
theorem flw_get (xs : List Int) (q k i : Nat) (h : i < k) : wat (flw xs q k) i = wat xs (q + 2 + i) := by
  simp [flw, wat, List.getD, h]
/-- Where reading stands: the object's own box, its fields' row; the box of what is read it with; the result's. -/
structure RdW (w : World) (g : Nat) (O1 : Obj) (at_ sh mk_ lk : Int) (k : Nat) (v : Value) (zs : List Int) (W : World) : Prop where
  row : W.heap[g]? = some (obO at_ sh mk_ lk v)
  own : W.ownsRow (g + 1) 39 1 v k (zs.map (Value.int .u64))
  box : W.heap[w.heap.size]? = some O1
  res : W.heap[w.heap.size + 1]? = some (obO 0 0 0 0 (.slice none 0 0))
  bel : Below w.heap.size w W
  gt : w.heap.size + 1 < g
theorem rown_below {w w' : World} {base : Nat} {e : TypeId} {size : Nat} {v : Value} {n : Nat} {xs : List Value} (h : w.ownsRow base e size v n xs) (b : Below w.heap.size w w') : w'.ownsRow base e size v n xs :=
  h.kept (row := none) (grown_below b none) (by
    cases hv : v.ownBlock with
    | none => exact .inl rfl
    | some k => exact .inr (fun e => by cases e))
theorem RdW.below {w W W' : World} {g : Nat} {O1 : Obj} {at_ sh mk_ lk : Int} {k : Nat} {v : Value} {zs : List Int} (h : RdW w g O1 at_ sh mk_ lk k v zs W) (b : Below W.heap.size W W') : RdW w g O1 at_ sh mk_ lk k v zs W' :=
  ⟨row_below h.row b, rown_below h.own b, row_below h.box b, row_below h.res b, h.bel.trans (b.mono h.bel.size), h.gt⟩
theorem RdW.drew {w W : World} {g : Nat} {O1 : Obj} {at_ sh mk_ lk : Int} {k : Nat} {v : Value} {zs : List Int} (h : RdW w g O1 at_ sh mk_ lk k v zs W) : RdW w g O1 at_ sh mk_ lk k v zs W.drew :=
  ⟨h.row, h.own, h.box, h.res, h.bel.drew, h.gt⟩
/-- Behind an append and its store. -/
theorem RdW.app {w W w1 : World} {g : Nat} {O1 : Obj} {at_ sh mk_ lk : Int} {k : Nat} {v v' : Value} {zs : List Int} {y : Int} {tmp : Obj} (h : RdW w g O1 at_ sh mk_ lk k v zs W) (hown : w1.ownsRow (g + 1) 39 1 v' (k + 1) (zs.map (Value.int .u64) ++ [.int .u64 y])) (hgrow : (W.alloc tmp).grownBy w1 v.ownBlock) :
    w1.heap[g]? = some (obO at_ sh mk_ lk v) ∧ RdW w g O1 at_ sh mk_ lk (k + 1) v' (zs ++ [y]) (w1.setCell ⟨g, 4, none⟩ v') := by
  have hgt := h.gt
  have hgl := (Array.getElem?_eq_some_iff.1 h.row).1
  have hbl := (Array.getElem?_eq_some_iff.1 h.box).1
  have hrl := (Array.getElem?_eq_some_iff.1 h.res).1
  have hne : ∀ j, j < g + 1 → some j ≠ v.ownBlock := fun j hj e => by have := (h.own.lt j e.symm).1; omega
  have get : ∀ j O, j < g + 1 → W.heap[j]? = some O → w1.heap[j]? = some O := fun j O hj ho => by
    have hl := (Array.getElem?_eq_some_iff.1 ho).1
    rw [hgrow.block j (by simp; omega) (hne j hj), Below.heap_alloc W tmp j (by omega)]
    exact ho
  have r1 := get g _ (by omega) h.row
  refine ⟨r1, ?_, ?_, okeep_row (by omega) (get _ _ (by omega) h.box), okeep_row (by omega) (get _ _ (by omega) h.res), ?_, hgt⟩
  · have := set_row r1 v' (i := 4)
    exact this
  · have := hown.kept (grown_setCell w1 g 4 v') (.inr (fun e => by have := (hown.lt g e).1; omega))
    simpa using this
  · have hz := h.bel.size
    refine Below.setCell (p := ⟨g, 4, none⟩) ⟨hgrow.os.trans h.bel.os, hgrow.tape.trans h.bel.tape, hgrow.output.trans h.bel.output, Nat.le_trans hz (Nat.le_trans (by simp) hgrow.size), fun j hj => ?_⟩ (by simp; omega) _
    rw [hgrow.block j (by simp; omega) (hne j (by omega)), Below.heap_alloc W tmp j (by omega)]
    exact h.bel.block j hj
theorem rdW_a {w W w5 : World} {O1 : Obj} {q sh mk_ lk : Int} (r1 : W.heap[w.heap.size]? = some O1) (r2 : W.heap[w.heap.size + 1]? = some (obO 0 0 0 0 (.slice none 0 0))) (B : Below w.heap.size w W) (z : w.heap.size + 1 < W.heap.size) (b : Below W.drew.heap.size W.drew w5) :
    RdW w w5.heap.size O1 q sh mk_ lk 0 (.slice none 0 0) [] (w5.alloc (obO q sh mk_ lk (.slice none 0 0))) := by
  have sz : W.heap.size ≤ w5.heap.size := b.size
  have k : Below W.heap.size W w5 := (Below.refl _ _).drew.trans b
  exact ⟨heap_alloc_last w5 _, World.ownsRow_nil _ _ _ _, row_below (row_below r1 k) (below_alloc0 _ _), row_below (row_below r2 k) (below_alloc0 _ _), B.trans ((k.alloc sz _).mono B.size), by omega⟩
theorem rdW_b {w W w5 : World} {O1 : Obj} {q sh mk_ lk : Int} {a b c d e : Value} (r1 : W.heap[w.heap.size]? = some O1) (r2 : W.heap[w.heap.size + 1]? = some (obO 0 0 0 0 (.slice none 0 0))) (B : Below w.heap.size w W) (z : w.heap.size + 1 < W.heap.size) (k : Below (W.alloc (.cells #[a, b, c, d, e] 41)).drew.heap.size (W.alloc (.cells #[a, b, c, d, e] 41)).drew w5) :
    RdW w W.heap.size O1 q sh mk_ lk 0 (.slice none 0 0) [] (((((w5.setCell ⟨W.heap.size, 0, none⟩ (.int .i64 q)).setCell ⟨W.heap.size, 1, none⟩ (.int .i64 sh)).setCell ⟨W.heap.size, 2, none⟩ (.int .i64 mk_)).setCell ⟨W.heap.size, 3, none⟩ (.int .u64 lk)).setCell ⟨W.heap.size, 4, none⟩ (.slice none 0 0)) := by
  have sz : W.heap.size + 1 ≤ w5.heap.size := by have := k.size; rw [show (W.alloc (.cells #[a, b, c, d, e] 41)).drew.heap.size = W.heap.size + 1 from size_alloc W _] at this; exact this
  have k0 : Below W.heap.size W w5 := ((below_alloc0 W _).drew).trans (k.mono (by show W.heap.size ≤ (W.alloc (.cells #[a, b, c, d, e] 41)).heap.size; simp))
  have rg : w5.heap[W.heap.size]? = some (.cells #[a, b, c, d, e] 41) := (k.block _ (by show W.heap.size < (W.alloc (.cells #[a, b, c, d, e] 41)).heap.size; simp)).trans (heap_alloc_last W _)
  exact ⟨set5_row rg _ _ _ _ _, World.ownsRow_nil _ _ _ _, keep5 (by omega) (row_below r1 k0) _ _ _ _ _, keep5 (by omega) (row_below r2 k0) _ _ _ _ _, five_set (B.trans (k0.mono B.size)) B.size _ _ _ _ _, z⟩
/-- The box that an object under way is in. -/
abbrev BxS (G : Nat) (t s : Int) (a : Option Addr) (n c : Nat) (L : Nat) (p e : Int) (W : World) : Prop := W.cell? ⟨G, 3, none⟩ = some (loadV L) ∧ W.cell? ⟨G, 4, none⟩ = some (.int .i64 p) ∧ W.heap[G]? = some (objO t s a n c L p e)
theorem bxS_mk {G : Nat} {t s : Int} {a : Option Addr} {n c : Nat} {L : Nat} {p e : Int} {W : World} (h : W.heap[G]? = some (objO t s a n c L p e)) : BxS G t s a n c L p e W := ⟨at_row h 3 rfl, at_row h 4 rfl, h⟩
theorem bxS_call {G : Nat} {t s : Int} {a : Option Addr} {n c : Nat} {L : Nat} {p e : Int} {W W' : World} (h : BxS G t s a n c L p e W) (b : Below W.heap.size W W') : BxS G t s a n c L p e W' := bxS_mk (row_below h.2.2 b)
theorem bxS_alloc {G : Nat} {t s : Int} {a : Option Addr} {n c : Nat} {L : Nat} {p e : Int} {W : World} (h : BxS G t s a n c L p e W) (O : Obj) : BxS G t s a n c L p e (W.alloc O) := bxS_call h (below_alloc0 W O)
theorem bxS_drew {G : Nat} {t s : Int} {a : Option Addr} {n c : Nat} {L : Nat} {p e : Int} {W : World} (h : BxS G t s a n c L p e W) : BxS G t s a n c L p e W.drew := bxS_mk h.2.2
theorem bxS_set {G g : Nat} {t s : Int} {a : Option Addr} {n c : Nat} {L : Nat} {p e : Int} {W : World} {j : Nat} {v : Value} (h : BxS G t s a n c L p e W) (hg : G ≠ g) : BxS G t s a n c L p e (W.setCell ⟨g, j, none⟩ v) := bxS_mk (okeep_row hg h.2.2)
theorem bxS_app {G : Nat} {t s : Int} {a : Option Addr} {n c : Nat} {L : Nat} {p e : Int} {W W' : World} {v : Value} {base k : Nat} {vs : List Value} {ty : TypeId} {X : World} (h : BxS G t s a n c L p e W) (hg : W.grownBy W' v.ownBlock) (hown : X.ownsRow base ty 1 v k vs) (hb : G < base) : BxS G t s a n c L p e W' :=
  bxS_mk ((hg.block G (Array.getElem?_eq_some_iff.1 h.2.2).1 (fun e' => by have := (hown.lt G e'.symm).1; omega)).trans h.2.2)
set_option maxRecDepth 100000 in
set_option maxHeartbeats 1000000 in
theorem read_no (t s : Int) (a : Option Addr) (n c : Nat) (ss : List ByteArray) (L A B : Nat) (xs : List Int) (q : Nat) (e : Int) (w : World) (h : IsHp w t s a n c ss A B xs) (hL : w.heap[L]? = some (arO A)) (hq : q < xs.length) (e0 : 0 ≤ e) (e1 : e ≤ 20000) (hz : Hid (osz xs ss e q = 0)) :
    Calls Tryz.prog 26 #[objV t s a n c L (q : Int) e] w fun e' w' => e' = upE 170 ∧ Below w.heap.size w w' := by
  have bw := bel_two w (objO t s a n c L (q : Int) e) (obO 0 0 0 0 (.slice none 0 0))
  have cm := mustStand_no t s a n c ss L A B xs q e _ (h.below bw) (row_below hL bw) hq e0 e1 hz
  clear h hL hz
  go_enter Tryz.func26, Tryz.ntmps26
  go_wp2_with (go_at_call 56; refine cm.mono ?_; rintro e w' ⟨rfl, b1⟩)
  exact ⟨rfl, rfl, bel2 b1⟩
set_option maxRecDepth 100000 in
set_option maxHeartbeats 8000000 in
theorem read_yes (t s : Int) (a : Option Addr) (n c : Nat) (ss : List ByteArray) (L A B : Nat) (xs : List Int) (q m : Nat) (e z sh mk_ lk : Int) (w : World) (h : IsHp w t s a n c ss A B xs) (hL : w.heap[L]? = some (arO A)) (hq : q + z ≤ xs.length) (e0 : 0 ≤ e) (e1 : e ≤ 20000) (hz : Hid (osz xs ss e q = z)) (hm : z = (m : Int) + 2) (hm8 : m ≤ 8)
    (ho : Hid (ofv (wat xs q) = (sh, mk_, true))) (hl : Hid (wat xs (q + 1) = lk)) :
    Calls Tryz.prog 26 #[objV t s a n c L (q : Int) e] w fun e' w' => ∃ v, e' = .returned (obV q sh mk_ lk v) ∧ FsAt w.heap.size w' v (flw xs q m) ∧ Below w.heap.size w w' := by
  have q9 : (q : Int) ≤ 20000 := by have := h.ar.le; omega
  have q0 : (0 : Int) ≤ (q : Int) := by omega
  have bw := bel_two w (objO t s a n c L (q : Int) e) (obO 0 0 0 0 (.slice none 0 0))
  have cm := mustStand_yes t s a n c ss L A B xs q e z _ (h.below bw) (row_below hL bw) (by omega) e0 e1 hz (by rw [beq_eq_false_iff_ne]; omega)
  have cl := fun (p : Nat) (x : Int) (hp : p < xs.length) (hx : wat xs p = x) (W : World) (b : Below w.heap.size w W) => (hx ▸ oload_at L A B xs p W (h.ar.below b) (row_below hL b) hp : Calls Tryz.prog 53 #[.int .i64 (p : Int), .pointer (some ⟨L, 0, none⟩)] W fun e w' => e = .returned (.int .u64 x) ∧ Below W.heap.size W w')
  have hb := h.ar.bnd.get q
  have co := fun W => hof_at (wat xs q) sh mk_ true W hb.1 hb.2 ho.out
  obtain ⟨x0, hx0⟩ : ∃ x, wat xs q = x := ⟨_, rfl⟩
  have cl0 := cl q x0 (by omega) hx0
  have cl1 := cl (q + 1) lk (by omega) hl.out
  have HCL := hid cl
  rw [hx0] at co
  subst hm
  clear h hL hz ho hl hb cl hx0
  go_enter Tryz.func26, Tryz.ntmps26
  go_wp2_with (go_at_call 56; refine cm.mono ?_)
  rintro e1' w1 ⟨rfl, b1⟩
  have R1 := hid (row2a b1)
  have R2 := hid (row2b b1)
  have B1 := hid (bel2 b1)
  have z1 := siz2 b1
  clear b1 cm bw
  have c3 := at_row R1.out 3 rfl
  have c4 := at_row R1.out 4 rfl
  go_wp2_with (go_at_call 53; refine (cl0 _ B1.out).mono ?_)
  rintro e2' w2 ⟨rfl, b2⟩
  have R12 := hid (row_below R1.out b2)
  have R22 := hid (row_below R2.out b2)
  have B2 := hid (B1.out.trans (b2.mono B1.out.size))
  have z2 := Nat.lt_of_lt_of_le z1 b2.size
  clear b2 z1 B1 R1 R2 c3 c4 cl0
  go_wp2_with (go_at_call 57; refine (co _).mono ?_)
  rintro e3' w3 ⟨rfl, b3⟩
  have R13 := hid (row_below R12.out b3)
  have R23 := hid (row_below R22.out b3)
  have B3 := hid (B2.out.trans (b3.mono B2.out.size))
  have z3 := Nat.lt_of_lt_of_le z2 b3.size
  clear b3 z2 B2 R12 R22 co
  have H0 := hid (heap_alloc_last w3 (.cells #[.int .i64 sh, .int .i64 mk_] 38))
  have R14 := hid (row_below R13.out (below_alloc0 w3 (.cells #[.int .i64 sh, .int .i64 mk_] 38)))
  have R24 := hid (row_below R23.out (below_alloc0 w3 (.cells #[.int .i64 sh, .int .i64 mk_] 38)))
  have B4 := hid (B3.out.trans ((below_alloc0 w3 (.cells #[.int .i64 sh, .int .i64 mk_] 38)).mono B3.out.size))
  have z4 : w.heap.size + 1 < (w3.alloc (.cells #[.int .i64 sh, .int .i64 mk_] 38)).heap.size := by rw [size_alloc]; omega
  go_wp2_with fail
  generalize w3.alloc (.cells #[.int .i64 sh, .int .i64 mk_] 38) = W at *
  generalize w3.heap.size = g0 at *
  clear R13 R23 B3 z3
  have HS := hid (show Hs4 W w.heap.size 3 (loadV L) w.heap.size 4 (.int .i64 (q : Int)) g0 0 (.int .i64 sh) g0 1 (.int .i64 mk_) W from ⟨at_row R14.out 3 rfl, at_row R14.out 4 rfl, at_row H0.out 0 rfl, at_row H0.out 1 rfl, Below.refl _ _⟩)
  have q1w : (q : Int) + 1 = ((q + 1 : Nat) : Int) := by omega
  have cl2 : ∀ W', Below W.heap.size W W' → Calls Tryz.prog 53 #[.int .i64 (IntKind.i64.wrap ((q : Int) + 1)), .pointer (some ⟨L, 0, none⟩)] W' fun e w' => e = .returned (.int .u64 lk) ∧ Below W'.heap.size W' w' := fun W' b => by rw [IntWalk.i64_in ((q : Int) + 1) ⟨by omega, by omega⟩, q1w]; exact cl1 W' (B4.out.trans (b.mono B4.out.size))
  clear cl1 H0 q1w
  go_region_held3 (Hs4 W w.heap.size 3 (loadV L) w.heap.size 4 (.int .i64 (q : Int)) g0 0 (.int .i64 sh) g0 1 (.int .i64 mk_)) (with_reducible (first | assumption | exact hs4_drew HS.out | exact hs4_call HS.out (hs4_drew HS.out) b3 | (refine hs4_call HS.out ?_ b3; assumption) | (refine hs4_alloc HS.out ?_ _; assumption) | exact hs4_drewa HS.out (hs4_alloc HS.out HS.out _) | exact hs4_alloc HS.out (hs4_call HS.out (hs4_drew HS.out) b3) _ | (refine hs4_set HS.out (hs4_set HS.out (hs4_set HS.out (hs4_set HS.out (hs4_set HS.out ?_ (Nat.le_refl _)) (Nat.le_refl _)) (Nat.le_refl _)) (Nat.le_refl _)) (Nat.le_refl _); assumption))) (first | (go_at_call 53; refine (cl2 _ ?hb3).mono ?_; (case hb3 => first | exact hs4_bel (hs4_drew HS.out) | exact hs4_bel (hs4_drewa HS.out (hs4_alloc HS.out HS.out _))); rintro e w5 ⟨rfl, b3⟩; have q1 := (hbcell b3).1; have q2 := (hbcell b3).2))
  all_goals
    first
      | (have hR := rdW_a (q := (q : Int)) (sh := sh) (mk_ := mk_) (lk := lk) R14.out R24.out B4.out z4 b3; clear q1 q2 b3; revert hR; generalize w5.heap.size = g; generalize w5.alloc _ = W5; intro hR)
      | (have hR := rdW_b (q := (q : Int)) (sh := sh) (mk_ := mk_) (lk := lk) R14.out R24.out B4.out z4 b3; clear q1 q2 b3; revert hR; generalize W.heap.size = g; generalize World.setCell _ _ _ = W5; intro hR)
  all_goals
    have HR := hid hR
    clear hR R14 R24 B4 z4 HS cl2
    go_wp2
    go_loopw [7] (fun i wr => ∃ (k : Nat) (a' : Option Addr) (c' : Nat), k ≤ m ∧ i = .int .i64 ((k : Int) + 2) ∧ Hid (RdW w g (objO t s a n c L (q : Int) e) (q : Int) sh mk_ lk k (.slice a' k c') (flw xs q k) wr)) (fun i _ => m + 2 - (intOf i).toNat)
    case atStart => exact ⟨0, none, 0, Nat.zero_le _, rfl, HR⟩
    case round =>
      obtain ⟨k, a', c', hk, rfl, HK⟩ := hrel
      clear HR
      have k8 : (k : Int) ≤ 8 := by omega
      by_cases hlt : k < m
      · have hlt' : (k : Int) + 2 < (m : Int) + 2 := by omega
        have r4 := at_row HK.out.row 4 rfl
        have f4 := fz_row HK.out.row 4
        have HB := hid (bxS_mk HK.out.box)
        have hGg : w.heap.size < g + 1 := by have := HK.out.gt; omega
        have hne : w.heap.size ≠ g := by have := HK.out.gt; omega
        have hgl := (Array.getElem?_eq_some_iff.1 HK.out.row).1
        obtain ⟨i0, hi, hz0, hz1, hz2⟩ := info_parts rinfo_u64
        obtain ⟨y, hy⟩ : ∃ y, Hid (wat xs (q + 2 + k) = y) := ⟨_, hid rfl⟩
        have cl3 : ∀ W', Below wr.heap.size wr W' → Calls Tryz.prog 53 #[.int .i64 (IntKind.i64.wrap ((q : Int) + ((k : Int) + 2))), .pointer (some ⟨L, 0, none⟩)] W' fun e w' => e = .returned (.int .u64 y) ∧ Below W'.heap.size W' w' := fun W' b => by
          rw [IntWalk.i64_in ((q : Int) + ((k : Int) + 2)) ⟨by omega, by omega⟩, show (q : Int) + ((k : Int) + 2) = ((q + 2 + k : Nat) : Int) by omega]
          exact HCL.out (q + 2 + k) y (by omega) hy.out W' (HK.out.bel.trans (b.mono HK.out.bel.size))
        have HFS := hid (flw_succ xs q k)
        rw [hy.out] at HFS
        have HVS : Hid ((flw xs q k).map (Value.int .u64) = (flw xs q k).map (Value.int .u64)) := hid rfl
        generalize hvs : (flw xs q k).map (Value.int .u64) = VS at HVS
        have HOW : Hid (wr.ownsRow (g + 1) 39 1 (.slice a' k c') k VS) := hid (by rw [← hvs]; exact HK.out.own)
        have HV := hid hvs
        clear hvs HVS hy
        go_wp2_with fail
        refine wp_region_held_drew (S := BxS w.heap.size t s a n c L (q : Int) e) (by kernel_rfl) (bxS_drew HB.out) (fun hHeld => ?_)
        refine wpAnyH_take (i := 0) (v := ?_) rfl (by kernel_rfl) (by kernel_rfl) (by kernel_rfl) (fun _ _ _ h => h) (Or.inl ⟨by rfl, ?_⟩) (by assumption) ?_
        rotate_left
        · (intro wx hSw; (try dsimp only at hSw); go_simp <;> with_reducible rfl)
        simp only [Act.put]
        refine wpAnyH_take (i := 2) (v := ?_) rfl (by kernel_rfl) (by kernel_rfl) (by kernel_rfl) (fun _ _ _ h => h) (Or.inl ⟨by rfl, ?_⟩) (by assumption) ?_
        rotate_left
        · (intro wx hSw; (try dsimp only at hSw); go_simp <;> with_reducible rfl)
        simp only [Act.put]
        refine wpAnyH_take (i := 3) (v := ?_) rfl (by kernel_rfl) (by kernel_rfl) (by kernel_rfl) (fun _ _ _ h => h) (Or.inl ⟨by rfl, ?_⟩) (by assumption) ?_
        rotate_left
        · (intro wx hSw; (try dsimp only at hSw); go_simp <;> with_reducible rfl)
        simp only [Act.put]
        refine wpAnyH_take (i := 4) (v := ?_) rfl (by kernel_rfl) (by kernel_rfl) (by kernel_rfl) (fun _ _ _ h => h) (Or.inl ⟨by rfl, ?_⟩) (by assumption) ?_
        rotate_left
        · (intro wx hSw; (try dsimp only at hSw); go_simp <;> with_reducible rfl)
        simp only [Act.put]
        refine wpAnyH_take (i := 5) (v := ?_) rfl (by kernel_rfl) (by kernel_rfl) (by kernel_rfl) (fun _ _ _ h => h) (Or.inl ⟨by rfl, ?_⟩) (by assumption) ?_
        rotate_left
        · (intro wx hSw; (try dsimp only at hSw); go_simp <;> with_reducible rfl)
        simp only [Act.put]
        refine wpAnyH_take (i := 6) (v := ?_) rfl (by kernel_rfl) (by kernel_rfl) (by kernel_rfl) (fun _ _ _ h => h) (Or.inl ⟨by rfl, ?_⟩) (by assumption) ?_
        rotate_left
        · (intro wx hSw; (try dsimp only at hSw); go_simp <;> with_reducible rfl)
        simp only [Act.put]
        refine wpAnyH_take (i := 7) (v := ?_) rfl (by kernel_rfl) (by kernel_rfl) (by kernel_rfl) (fun _ _ _ h => h) (Or.inl ⟨by rfl, ?_⟩) (by assumption) ?_
        rotate_left
        · (intro wx hSw; (try dsimp only at hSw); go_simp <;> with_reducible rfl)
        simp only [Act.put]
        refine wpAnyH_ready (rs := [1, 8]) (by kernel_rfl) (by simp) ?_
        refine AllReadyH.cons rfl (fun K hK => ?_) (AllReadyH.cons rfl (fun K hK => ?_) AllReadyH.nil)
        ·
          go_simp
          refine hK.out _ _ ?_ (fun hHeld => ?_)
          · with_reducible (first | assumption | exact bxS_drew HB.out | (refine bxS_call ?_ b3; first | assumption | exact bxS_drew HB.out) | (refine bxS_alloc ?_ _; assumption) | (refine bxS_app ?_ hgrow HOW.out hGg; assumption) | (refine bxS_set ?_ hne; assumption))
          clear hK K
          refine wpAnyH_ready (rs := [8]) (by kernel_rfl) (by simp) ?_
          refine AllReadyH.cons rfl (fun K hK => ?_) AllReadyH.nil
          go_simp
          go_at_call 53
          refine (cl3 _ ((Below.refl _ _).drew)).mono ?_
          rintro e w6 ⟨rfl, b3⟩
          have q1 := (hbcell b3).1
          have q2 := (hbcell b3).2
          have bb := ((Below.refl _ wr).drew).trans b3
          have r46 := hcell_below r4 bb
          dsimp only
          refine hK.out _ _ ?_ (fun hHeld => ?_)
          · with_reducible (first | assumption | exact bxS_drew HB.out | (refine bxS_call ?_ b3; first | assumption | exact bxS_drew HB.out) | (refine bxS_alloc ?_ _; assumption) | (refine bxS_app ?_ hgrow HOW.out hGg; assumption) | (refine bxS_set ?_ hne; assumption))
          clear hK K
          refine wpAnyH_ready (rs := [9]) (by kernel_rfl) (by simp) ?_
          refine AllReadyH.cons rfl (fun K hK => ?_) AllReadyH.nil
          have r47 := hcell_below r46 (below_alloc0 w6 (.cells #[.int .u64 y] 39))
          go_simp
          refine hK.out _ _ ?_ (fun hHeld => ?_)
          · with_reducible (first | assumption | exact bxS_drew HB.out | (refine bxS_call ?_ b3; first | assumption | exact bxS_drew HB.out) | (refine bxS_alloc ?_ _; assumption) | (refine bxS_app ?_ hgrow HOW.out hGg; assumption) | (refine bxS_set ?_ hne; assumption))
          clear hK K
          refine wpAnyH_ready (rs := [10]) (by kernel_rfl) (by simp) ?_
          refine AllReadyH.cons rfl (fun K hK => ?_) AllReadyH.nil
          refine step_append_own rfl _ _ 25 rfl (g + 1) 39 i0 (.int .u64 0) 1 8 Tryz.underlying25 hi hz0 hz1 hz2 rfl (by decide) (.slice a' k c') k VS rfl ((rown_below HOW.out bb).alloc _) ⟨w6.heap.size, 0, none⟩ 1 1 [.int .u64 y] rfl rfl (cell_one_new _ _ _) (by simp [Value.oneCell']) (by unfold maxLen; omega) (by omega) (by have := bb.size; simp; omega) ?_
          intro v' w7 hown hgrow
          obtain ⟨g', cap', rfl⟩ := ownsRow_succ hown
          have happ := hid ((HK.out.below bb).app (y := y) (by rw [HV.out]; exact hown) hgrow)
          have s4 := at_row happ.out.1 4 rfl
          have t4 := fz_row happ.out.1 4
          refine hK.out _ _ ?_ (fun hHeld => ?_)
          · with_reducible (first | assumption | exact bxS_drew HB.out | (refine bxS_call ?_ b3; first | assumption | exact bxS_drew HB.out) | (refine bxS_alloc ?_ _; assumption) | (refine bxS_app ?_ hgrow HOW.out hGg; assumption) | (refine bxS_set ?_ hne; assumption))
          clear hK K
          refine wpAnyH_take (i := 11) (v := ?_) rfl (by kernel_rfl) (by kernel_rfl) (by kernel_rfl) (fun _ _ _ h => h) (Or.inl ⟨by rfl, ?_⟩) (by assumption) ?_
          rotate_left
          · (intro wx hSw; (try dsimp only at hSw); go_simp <;> with_reducible rfl)
          simp only [Act.put]
          refine wpAnyH_ready (rs := [12]) (by kernel_rfl) (by simp) ?_
          refine AllReadyH.cons rfl (fun K hK => ?_) AllReadyH.nil
          go_simp
          refine hK.out _ _ ?_ (fun hHeld => ?_)
          · with_reducible (first | assumption | exact bxS_drew HB.out | (refine bxS_call ?_ b3; first | assumption | exact bxS_drew HB.out) | (refine bxS_alloc ?_ _; assumption) | (refine bxS_app ?_ hgrow HOW.out hGg; assumption) | (refine bxS_set ?_ hne; assumption))
          clear hK K
          refine wpAnyH_done (by kernel_rfl) ?_ _
          have hn := happ.out.2
          rw [← HFS.out] at hn
          have HN := hid hn
          clear hn s4 t4 r46 r47 hown hgrow happ b3 bb q1 q2
          go_wp2
          go_roundw
          case rel => exact ⟨k + 1, _, _, by omega, by go_num, HN⟩
          case measure => simp [intOf]; omega
        ·
          go_simp
          go_at_call 53
          refine (cl3 _ ((Below.refl _ _).drew)).mono ?_
          rintro e w6 ⟨rfl, b3⟩
          have q1 := (hbcell b3).1
          have q2 := (hbcell b3).2
          have bb := ((Below.refl _ wr).drew).trans b3
          have r46 := hcell_below r4 bb
          dsimp only
          refine hK.out _ _ ?_ (fun hHeld => ?_)
          · with_reducible (first | assumption | exact bxS_drew HB.out | (refine bxS_call ?_ b3; first | assumption | exact bxS_drew HB.out) | (refine bxS_alloc ?_ _; assumption) | (refine bxS_app ?_ hgrow HOW.out hGg; assumption) | (refine bxS_set ?_ hne; assumption))
          clear hK K
          refine wpAnyH_ready (rs := [1, 9]) (by kernel_rfl) (by simp) ?_
          refine AllReadyH.cons rfl (fun K hK => ?_) (AllReadyH.cons rfl (fun K hK => ?_) AllReadyH.nil)
          ·
            go_simp
            refine hK.out _ _ ?_ (fun hHeld => ?_)
            · with_reducible (first | assumption | exact bxS_drew HB.out | (refine bxS_call ?_ b3; first | assumption | exact bxS_drew HB.out) | (refine bxS_alloc ?_ _; assumption) | (refine bxS_app ?_ hgrow HOW.out hGg; assumption) | (refine bxS_set ?_ hne; assumption))
            clear hK K
            refine wpAnyH_ready (rs := [9]) (by kernel_rfl) (by simp) ?_
            refine AllReadyH.cons rfl (fun K hK => ?_) AllReadyH.nil
            have r47 := hcell_below r46 (below_alloc0 w6 (.cells #[.int .u64 y] 39))
            go_simp
            refine hK.out _ _ ?_ (fun hHeld => ?_)
            · with_reducible (first | assumption | exact bxS_drew HB.out | (refine bxS_call ?_ b3; first | assumption | exact bxS_drew HB.out) | (refine bxS_alloc ?_ _; assumption) | (refine bxS_app ?_ hgrow HOW.out hGg; assumption) | (refine bxS_set ?_ hne; assumption))
            clear hK K
            refine wpAnyH_ready (rs := [10]) (by kernel_rfl) (by simp) ?_
            refine AllReadyH.cons rfl (fun K hK => ?_) AllReadyH.nil
            refine step_append_own rfl _ _ 25 rfl (g + 1) 39 i0 (.int .u64 0) 1 8 Tryz.underlying25 hi hz0 hz1 hz2 rfl (by decide) (.slice a' k c') k VS rfl ((rown_below HOW.out bb).alloc _) ⟨w6.heap.size, 0, none⟩ 1 1 [.int .u64 y] rfl rfl (cell_one_new _ _ _) (by simp [Value.oneCell']) (by unfold maxLen; omega) (by omega) (by have := bb.size; simp; omega) ?_
            intro v' w7 hown hgrow
            obtain ⟨g', cap', rfl⟩ := ownsRow_succ hown
            have happ := hid ((HK.out.below bb).app (y := y) (by rw [HV.out]; exact hown) hgrow)
            have s4 := at_row happ.out.1 4 rfl
            have t4 := fz_row happ.out.1 4
            refine hK.out _ _ ?_ (fun hHeld => ?_)
            · with_reducible (first | assumption | exact bxS_drew HB.out | (refine bxS_call ?_ b3; first | assumption | exact bxS_drew HB.out) | (refine bxS_alloc ?_ _; assumption) | (refine bxS_app ?_ hgrow HOW.out hGg; assumption) | (refine bxS_set ?_ hne; assumption))
            clear hK K
            refine wpAnyH_take (i := 11) (v := ?_) rfl (by kernel_rfl) (by kernel_rfl) (by kernel_rfl) (fun _ _ _ h => h) (Or.inl ⟨by rfl, ?_⟩) (by assumption) ?_
            rotate_left
            · (intro wx hSw; (try dsimp only at hSw); go_simp <;> with_reducible rfl)
            simp only [Act.put]
            refine wpAnyH_ready (rs := [12]) (by kernel_rfl) (by simp) ?_
            refine AllReadyH.cons rfl (fun K hK => ?_) AllReadyH.nil
            go_simp
            refine hK.out _ _ ?_ (fun hHeld => ?_)
            · with_reducible (first | assumption | exact bxS_drew HB.out | (refine bxS_call ?_ b3; first | assumption | exact bxS_drew HB.out) | (refine bxS_alloc ?_ _; assumption) | (refine bxS_app ?_ hgrow HOW.out hGg; assumption) | (refine bxS_set ?_ hne; assumption))
            clear hK K
            refine wpAnyH_done (by kernel_rfl) ?_ _
            have hn := happ.out.2
            rw [← HFS.out] at hn
            have HN := hid hn
            clear hn s4 t4 r46 r47 hown hgrow happ b3 bb q1 q2
            go_wp2
            go_roundw
            case rel => exact ⟨k + 1, _, _, by omega, by go_num, HN⟩
            case measure => simp [intOf]; omega
          ·
            have r47 := hcell_below r46 (below_alloc0 w6 (.cells #[.int .u64 y] 39))
            go_simp
            refine hK.out _ _ ?_ (fun hHeld => ?_)
            · with_reducible (first | assumption | exact bxS_drew HB.out | (refine bxS_call ?_ b3; first | assumption | exact bxS_drew HB.out) | (refine bxS_alloc ?_ _; assumption) | (refine bxS_app ?_ hgrow HOW.out hGg; assumption) | (refine bxS_set ?_ hne; assumption))
            clear hK K
            refine wpAnyH_ready (rs := [1]) (by kernel_rfl) (by simp) ?_
            refine AllReadyH.cons rfl (fun K hK => ?_) AllReadyH.nil
            go_simp
            refine hK.out _ _ ?_ (fun hHeld => ?_)
            · with_reducible (first | assumption | exact bxS_drew HB.out | (refine bxS_call ?_ b3; first | assumption | exact bxS_drew HB.out) | (refine bxS_alloc ?_ _; assumption) | (refine bxS_app ?_ hgrow HOW.out hGg; assumption) | (refine bxS_set ?_ hne; assumption))
            clear hK K
            refine wpAnyH_ready (rs := [10]) (by kernel_rfl) (by simp) ?_
            refine AllReadyH.cons rfl (fun K hK => ?_) AllReadyH.nil
            refine step_append_own rfl _ _ 25 rfl (g + 1) 39 i0 (.int .u64 0) 1 8 Tryz.underlying25 hi hz0 hz1 hz2 rfl (by decide) (.slice a' k c') k VS rfl ((rown_below HOW.out bb).alloc _) ⟨w6.heap.size, 0, none⟩ 1 1 [.int .u64 y] rfl rfl (cell_one_new _ _ _) (by simp [Value.oneCell']) (by unfold maxLen; omega) (by omega) (by have := bb.size; simp; omega) ?_
            intro v' w7 hown hgrow
            obtain ⟨g', cap', rfl⟩ := ownsRow_succ hown
            have happ := hid ((HK.out.below bb).app (y := y) (by rw [HV.out]; exact hown) hgrow)
            have s4 := at_row happ.out.1 4 rfl
            have t4 := fz_row happ.out.1 4
            refine hK.out _ _ ?_ (fun hHeld => ?_)
            · with_reducible (first | assumption | exact bxS_drew HB.out | (refine bxS_call ?_ b3; first | assumption | exact bxS_drew HB.out) | (refine bxS_alloc ?_ _; assumption) | (refine bxS_app ?_ hgrow HOW.out hGg; assumption) | (refine bxS_set ?_ hne; assumption))
            clear hK K
            refine wpAnyH_take (i := 11) (v := ?_) rfl (by kernel_rfl) (by kernel_rfl) (by kernel_rfl) (fun _ _ _ h => h) (Or.inl ⟨by rfl, ?_⟩) (by assumption) ?_
            rotate_left
            · (intro wx hSw; (try dsimp only at hSw); go_simp <;> with_reducible rfl)
            simp only [Act.put]
            refine wpAnyH_ready (rs := [12]) (by kernel_rfl) (by simp) ?_
            refine AllReadyH.cons rfl (fun K hK => ?_) AllReadyH.nil
            go_simp
            refine hK.out _ _ ?_ (fun hHeld => ?_)
            · with_reducible (first | assumption | exact bxS_drew HB.out | (refine bxS_call ?_ b3; first | assumption | exact bxS_drew HB.out) | (refine bxS_alloc ?_ _; assumption) | (refine bxS_app ?_ hgrow HOW.out hGg; assumption) | (refine bxS_set ?_ hne; assumption))
            clear hK K
            refine wpAnyH_done (by kernel_rfl) ?_ _
            have hn := happ.out.2
            rw [← HFS.out] at hn
            have HN := hid hn
            clear hn s4 t4 r46 r47 hown hgrow happ b3 bb q1 q2
            go_wp2
            go_roundw
            case rel => exact ⟨k + 1, _, _, by omega, by go_num, HN⟩
            case measure => simp [intOf]; omega
      · obtain rfl : k = m := by omega
        have hnlt : ¬ ((k : Int) + 2 < (k : Int) + 2) := by omega
        have r0 := at_row HK.out.row 0 rfl
        have r1 := at_row HK.out.row 1 rfl
        have r2 := at_row HK.out.row 2 rfl
        have r3 := at_row HK.out.row 3 rfl
        have r4 := at_row HK.out.row 4 rfl
        have e0 := at_row HK.out.res 0 rfl
        have e1 := at_row HK.out.res 1 rfl
        have e2 := at_row HK.out.res 2 rfl
        have e3 := at_row HK.out.res 3 rfl
        have e4 := at_row HK.out.res 4 rfl
        have f0 := fz_row HK.out.res 0
        have f1 := fz_row HK.out.res 1
        have f2 := fz_row HK.out.res 2
        have f3 := fz_row HK.out.res 3
        have f4 := fz_row HK.out.res 4
        go_wp2
        refine bodyPost_ret (v := obV (q : Int) sh mk_ lk (.slice a' k c')) (results_cell_row Tryz.results26 _ _ (w.heap.size + 1) 41 _ (0, 0) _ rfl (set5_row HK.out.res _ _ _ _ _) Tryz.underlying41 rfl aob_size) rfl ⟨_, rfl, ?_, five_set HK.out.bel (by omega) _ _ _ _ _⟩
        have hgt := HK.out.gt
        exact ((((((fsAt_own (lo := w.heap.size + 2) HK.out.own (by omega)).set (by omega) _ _).set (by omega) _ _).set (by omega) _ _).set (by omega) _ _).set (by omega) _ _).lower (by omega)
end Go.Proofs.YtldfmlkjeniemaaGreatDoor
