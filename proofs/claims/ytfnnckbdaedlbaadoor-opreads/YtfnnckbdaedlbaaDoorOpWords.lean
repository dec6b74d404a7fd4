/- package op: strings.Cut at a blank; words: the iterator over a text's words. -/
import Derived.Test.YtfnnckbdaedlbaaDoorOpNum
import Derived.Test.YtfnnckbdaedlbaaDoorShAll
namespace Go.Oq
open Go.Sh Go.Lib
/-- The text ahead of the first blank, that behind it, and whether there is one. -/
def ctW (s : ByteArray) : ByteArray := ⟨(Lib.cut s.data.toList [32]).1.toArray⟩
def ctR (s : ByteArray) : ByteArray := ⟨(Lib.cut s.data.toList [32]).2.1.toArray⟩
def ctM (s : ByteArray) : Bool := (Lib.cut s.data.toList [32]).2.2
theorem ct_sp (s : ByteArray) : spB s = ctW s :: (if ctM s then spB (ctR s) else []) := by
  have key : ∀ L : List UInt8, sp L = (Lib.cut L [32]).1 :: (if (Lib.cut L [32]).2.2 then sp (Lib.cut L [32]).2.1 else []) := by
    intro L
    rcases index_blank L with ⟨h1, h2⟩ | ⟨a, r, rfl, h2, h3⟩
    · unfold Lib.cut
      rw [h1, if_neg (by omega), sp_clear h2]
      rfl
    · unfold Lib.cut
      rw [h3, if_pos (by omega)]
      have e1 : (a ++ 32 :: r).take ((a.length : Int).toNat) = a := by simp
      have e2 : (a ++ 32 :: r).drop ((a.length : Int).toNat + [(32 : UInt8)].length) = r := by simp
      show sp (a ++ 32 :: r) = (a ++ 32 :: r).take _ :: (if true = true then sp ((a ++ 32 :: r).drop _) else [])
      rw [e1, e2, if_pos rfl]
      exact sp_append r h2
  unfold spB
  rw [key s.data.toList, List.map_cons]
  unfold ctW ctR ctM
  congr 1
  split <;> rfl
theorem ct_size (s : ByteArray) (h : ctM s = true) : (ctR s).size < s.size := by
  have key : ∀ L : List UInt8, (Lib.cut L [32]).2.2 = true → (Lib.cut L [32]).2.1.length < L.length := by
    intro L hm
    rcases index_blank L with ⟨h1, h2⟩ | ⟨a, r, rfl, h2, h3⟩
    · unfold Lib.cut at hm
      rw [h1, if_neg (by omega)] at hm
      cases hm
    · unfold Lib.cut
      rw [h3, if_pos (by omega)]
      have e2 : (a ++ 32 :: r).drop ((a.length : Int).toNat + [(32 : UInt8)].length) = r := by simp
      show ((a ++ 32 :: r).drop _).length < _
      rw [e2]
      simp; omega
  have := key s.data.toList h
  rwa [Array.length_toList] at this
theorem ctR_le (s : ByteArray) : (ctR s).size ≤ s.size := by
  cases h : ctM s with
  | true => have := ct_size s h; omega
  | false =>
    have key : ∀ L : List UInt8, (Lib.cut L [32]).2.2 = false → (Lib.cut L [32]).2.1 = [] := by
      intro L hm
      unfold Lib.cut at hm ⊢
      split at hm
      · cases hm
      · next h0 => rw [if_neg h0]
    have := key s.data.toList h
    have h2 : (ctR s).size = (Lib.cut s.data.toList [32]).2.1.length := rfl
    rw [h2, this]
    simp
end Go.Oq
namespace Go.Proofs.YtfnnckbdaedlbaaDoor
open Go.RowKit Go.Oq Go.Sh Go.Shelf
theorem index_at (s : ByteArray) (w : World) : Calls Tryd.prog 101 #[.string s, .string ⟨#[32]⟩] w fun e w' => e = .returned (.int .i64 (Lib.index s.data.toList [32])) ∧ w' = w := by
  refine (Tryd.stringslite_Index_one s 32 w).mono ?_
  rintro e w' ⟨rfl, rfl⟩
  exact ⟨by rw [Lib.index_one], rfl⟩
set_option maxHeartbeats 2000000 in
set_option maxRecDepth 100000 in
theorem slCut_at (s : ByteArray) (w : World) (hs : s.size ≤ 100000) : Calls Tryd.prog 90 #[.string s, .string ⟨#[32]⟩] w fun e w' => e = .returned (.tuple #[.string (ctW s), .string (ctR s), .bool (ctM s)]) ∧ ∃ n, w' = w.drewN n := by
  unfold ctW ctR ctM
  have ci := index_at s w
  rcases Lib.indexB_cases s ⟨#[32]⟩ with hix | ⟨i, hix, hroom⟩
  · obtain ⟨e1, e2, e3⟩ := Lib.cutB_miss s ⟨#[32]⟩ hix
    have e1 : (⟨(Lib.cut s.data.toList [32]).1.toArray⟩ : ByteArray) = _ := e1
    have e2 : (⟨(Lib.cut s.data.toList [32]).2.1.toArray⟩ : ByteArray) = _ := e2
    have e3 : (Lib.cut s.data.toList [32]).2.2 = _ := e3
    rw [e1, e2, e3]
    have hix' : Lib.index s.data.toList [32] = -1 := hix
    rw [hix'] at ci
    clear e1 e2 e3 hix hix'
    go_enter Tryd.func90, Tryd.ntmps90
    go_wp2_with (go_at_call 101; refine ci.mono ?_; rintro e w' ⟨rfl, hw⟩; rw [hw]; clear hw)
    go_ret3
    exact ⟨rfl, 0, rfl⟩
  · obtain ⟨e1, e2, e3⟩ := Lib.cutB_hit s ⟨#[32]⟩ i hix
    have e1 : (⟨(Lib.cut s.data.toList [32]).1.toArray⟩ : ByteArray) = _ := e1
    have e2 : (⟨(Lib.cut s.data.toList [32]).2.1.toArray⟩ : ByteArray) = _ := e2
    have e3 : (Lib.cut s.data.toList [32]).2.2 = _ := e3
    rw [e1, e2, e3]
    have hix' : Lib.index s.data.toList [32] = (i : Int) := hix
    rw [hix'] at ci
    have hsz : (ByteArray.size ⟨#[32]⟩) = 1 := rfl
    have c1 : (0 : Int) ≤ ↑i := by omega
    have c2 : (↑i : Int) ≤ ↑s.size := by omega
    have c3 : (0 : Int) ≤ ↑i + 1 := by omega
    have c4 : (↑i + 1 : Int) ≤ ↑s.size := by omega
    have c5 : (↑i : Int) ≤ 100000 := by omega
    have c6 : (↑s.size : Int) ≤ 100000 := by omega
    clear e1 e2 e3 hix hix' hsz
    go_enter Tryd.func90, Tryd.ntmps90
    go_wp2_with (go_at_call 101; refine ci.mono ?_; rintro e w' ⟨rfl, hw⟩; rw [hw]; clear hw)
    go_region
    go_wp2_with fail
    go_ret3
    exact ⟨rfl, 1, rfl⟩
theorem cut_at (s : ByteArray) (w : World) (hs : s.size ≤ 100000) : Calls Tryd.prog 80 #[.string s, .string ⟨#[32]⟩] w fun e w' => e = .returned (.tuple #[.string (ctW s), .string (ctR s), .bool (ctM s)]) ∧ Below w.heap.size w w' := by
  have c := slCut_at s w hs
  go_enter Tryd.func80, Tryd.ntmps80
  go_wp2_with (go_at_call 90; refine c.mono ?_; rintro e w' ⟨rfl, n, rfl⟩)
  go_ret3
  exact ⟨rfl, ⟨rfl, rfl, rfl, Nat.le_refl _, fun _ _ => rfl⟩⟩
theorem words_any (s : ByteArray) (w : World) : Calls Tryd.prog 58 #[.string s] w fun e w' => e = .returned (.func (.func 79) #[] #[.pointer (some ⟨w.heap.size, 0, none⟩)]) ∧ w' = w.alloc (.cells #[.string s] 9) := by
  go_enter Tryd.func58, Tryd.ntmps58
  go_wp2
  go_ret
  exact ⟨rfl, rfl⟩
abbrev encW (x : ByteArray) : Array Value := #[.string x]
/-- What is left to go over. -/
def mzW (r b : Value) : Nat := match b with
  | .bool true => (match r with | .string x => x.size + 1 | _ => 0)
  | _ => 0
theorem spB_ne (s : ByteArray) : spB s ≠ [] := by rw [ct_sp]; simp
attribute [local go_sem] Oper.semAt_some
set_option maxRecDepth 100000 in
set_option maxHeartbeats 4000000 in
theorem words1_in (n l Bs : Nat) (s : ByteArray) (hs : s.size ≤ 100000) (J Jx : List ByteArray → World → Prop) (W : World) (hJ : AbidesFrom W.heap.size J)
    (hY : ∀ pre x W1, J pre W1 → pre.length < (spB s).length → YieldAt Fence.wide (n - 1) Tryd.prog l (encW x) W1 fun e W' =>
      (e = .returned (.bool true) ∧ J (pre ++ [x]) W' ∧ KeepsWalks W1 W') ∨ (e = .returned (.bool false) ∧ Jx (pre ++ [x]) W'))
    (hBs : W.cell? ⟨Bs, 0, none⟩ = some (.string s)) (h0 : J [] W) (hn : 1 ≤ n) :
    CallsIn Fence.wide n Tryd.prog 79 #[.func (.yield l) #[] #[], .pointer (some ⟨Bs, 0, none⟩)] W fun e W' => (∃ v, e = .returned v) ∧
      ((∃ ys, ys = spB s ∧ J ys W') ∨ (∃ pre, (∃ k, k ≤ (spB s).length ∧ pre = (spB s).take k) ∧ Jx pre W')) := by
  have c := (callsIn_wide (n := n - 1)).2 (cut_at s W hs)
  have hlt := block_lt_of_cell hBs
  refine callsIn_of_wp Tryd.func79 rfl trivial ?_ rfl
  simp only [Tryd.ntmps79, List.size_toArray, List.length_cons, List.length_nil, Nat.reduceAdd, Nat.reduceSub, Array.replicate_succ, Array.replicate_zero, List.push_toArray, List.append_toArray, List.nil_append, List.cons_append]
  have HY := hid hY
  clear hY
  gi_wp2_with (refine ⟨trivial, ?_⟩; gi_at_call 80; refine c.mono ?_; rintro e w1 ⟨rfl, b1⟩)
  have hJ1 : Hid (J [] w1) := hid (hJ _ _ _ none h0 (grown_of_below b1) (fun r e => by cases e))
  have HC := hid (ct_sp s)
  have HS := hid (ctR_le s)
  clear b1 c h0
  generalize ctW s = W0, ctR s = R0, ctM s = M0 at *
  gi_wp2_with fail
  gi_loopw [3, 4, 5] (fun a b m wr => ∃ (pre : List ByteArray) (wd rs : ByteArray) (mm : Bool), a = .string wd ∧ b = .string rs ∧ m = .bool mm ∧ rs.size ≤ 100000 ∧ Hid (spB s = pre ++ wd :: (if mm then spB rs else [])) ∧ Hid (J pre wr))
    (fun _ b m _ => mzW b m)
  case atStart => exact ⟨[], W0, R0, M0, rfl, rfl, rfl, by have := HS.out; omega, HC, hJ1⟩
  case round =>
    obtain ⟨pre, wd, rs, mm, rfl, rfl, rfl, hrs, HSP, HJ⟩ := hrel
    have hlen : pre.length < (spB s).length := by rw [HSP.out]; simp
    obtain ⟨fn, tmps, assign, body, hy, hR⟩ := HY.out pre wd wr HJ.out hlen
    dsimp only [encW] at hy
    have HT : Hid (pre ++ [wd] = (spB s).take (pre.length + 1)) := hid (by
      rw [HSP.out, List.take_append, List.take_of_length_le (by omega), Nat.add_sub_cancel_left]
      simp)
    have HL : Hid (pre.length + 1 ≤ (spB s).length) := hid hlen
    clear hlen
    gi_wp2
    refine hR.mono ?_
    rintro e W3 (⟨rfl, hJ3, hk3⟩ | ⟨rfl, hJx3⟩)
    · cases mm
      · have HE : Hid (spB s = pre ++ [wd]) := hid HSP.out
        gi_wp2
        go_end0
        exact ⟨⟨_, rfl⟩, .inl ⟨_, rfl, by rw [HE.out]; exact hJ3⟩⟩
      · have HC3 := hid (ct_sp rs)
        have HE : Hid (spB s = pre ++ wd :: spB rs) := hid HSP.out
        have hz3 := ct_size rs
        have hz4 := ctR_le rs
        have HJ3 := hid hJ3
        have c3 := (callsIn_wide (n := n - 1)).2 (cut_at rs W3 hrs)
        generalize ctW rs = W3', ctR rs = R3', ctM rs = M3' at *
        have HZ3 := hid hz3
        clear hJ3 hz3
        gi_wp2_with (refine ⟨trivial, ?_⟩; gi_at_call 80; refine c3.mono ?_; rintro e w4 ⟨rfl, b4⟩)
        refine ⟨⟨pre ++ [wd], W3', R3', M3', rfl, rfl, rfl, by omega, hid (by rw [HE.out, HC3.out]; simp), hid (hJ _ _ _ none HJ3.out (grown_of_below b4) (fun r e => by cases e))⟩, ?_⟩
        cases M3'
        · show 0 < rs.size + 1; omega
        · have := HZ3.out rfl
          show R3'.size + 1 < rs.size + 1; omega
    · gi_wp2
      go_end0
      exact ⟨⟨_, rfl⟩, .inr ⟨_, ⟨pre.length + 1, HL.out, HT.out⟩, hJx3⟩⟩
/-- What words hands back goes over a text's words; it may be left. -/
theorem words_stops (n : Nat) (hn : 1 ≤ n) (Bs : Nat) (s : ByteArray) (hs : s.size ≤ 100000) (w : World) (hc : w.cell? ⟨Bs, 0, none⟩ = some (.string s)) :
    SeqStopsK Fence.wide n Tryd.prog 79 #[.pointer (some ⟨Bs, 0, none⟩)] encW KeepsWalks (fun ys => ys = spB s)
      (fun pre => ∃ k, k ≤ (spB s).length ∧ pre = (spB s).take k) (spB s).length w := fun l J Jx W hW hJ _ hY h0 =>
  words1_in n l Bs s hs J Jx W hJ hY ((hW.cell (p := ⟨Bs, 0, none⟩) (block_lt_of_cell hc)).trans hc) h0 hn
end Go.Proofs.YtfnnckbdaedlbaaDoor
