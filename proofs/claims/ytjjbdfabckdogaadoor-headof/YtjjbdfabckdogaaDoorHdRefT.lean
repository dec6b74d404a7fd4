/- The document's Text (lapidaryref04), with lapidaryref01's digits and Number below 16; lapidaryref01's Of at a header's word. -/
import Derived.Test.YtjjbdfabckdogaaDoorHdRefB
import Derived.Laws.BytesArg
namespace Go.Hd
theorem one_dig (k : Nat) (h : k < 10) : (strOfNums [(48 : Int) + (k : Int) % 10] ++ ByteArray.empty) = it k := by
  have : k = 0 ∨ k = 1 ∨ k = 2 ∨ k = 3 ∨ k = 4 ∨ k = 5 ∨ k = 6 ∨ k = 7 ∨ k = 8 ∨ k = 9 := by omega
  rcases this with rfl | rfl | rfl | rfl | rfl | rfl | rfl | rfl | rfl | rfl <;> rfl
theorem two_dig (k : Nat) (h0 : 10 ≤ k) (h : k < 16) : (strOfNums [(48 : Int) + ((1 : Nat) : Int) % 10] ++ (strOfNums [(48 : Int) + (k : Int) % 10] ++ ByteArray.empty)) = it k := by
  have : k = 10 ∨ k = 11 ∨ k = 12 ∨ k = 13 ∨ k = 14 ∨ k = 15 := by omega
  rcases this with rfl | rfl | rfl | rfl | rfl | rfl <;> rfl
end Go.Hd
namespace Go.Proofs.YtjjbdfabckdogaaDoor
open Go.RowKit Go.Hd Go.Sh Go.Sort
theorem ret_str {a b : ByteArray} (h : a = b) : Ending.returned (.string a) = .returned (.string b) := by rw [h]
theorem conv_one (wr : World) (v : Int) : (convert 86 9 (.slice (some ⟨wr.heap.size, 0, none⟩) 1 1)).run Tryd.prog (wr.alloc (.cells #[.int .u8 v] 5)) = .ok (.string (strOfNums [v])) (wr.alloc (.cells #[.int .u8 v] 5)) :=
  run_convert_bytes_arg (wr.alloc (.cells #[.int .u8 v] 5)) 86 5 Tryd.underlying86 Tryd.underlying5 wr.heap.size 0 1 1 [v] rfl (fun i hi => by
    obtain rfl : i = 0 := by omega
    exact (cell_of_row _ _ 0 _ _ _ (heap_alloc_last wr _))) 9 Tryd.underlying9
set_option maxHeartbeats 4000000 in
theorem rdigits_at (n : Nat) (w : World) (h16 : n < 16) :
    Calls Tryd.prog 37 #[.int .u64 (n : Int)] w fun e w' => e = .returned (.string (it n)) ∧ Below w.heap.size w w' := by
  go_enter Tryd.func37, Tryd.ntmps37
  go_wp2
  go_loopw [0, 3] (fun m t wr => ∃ (k : Nat) (S : ByteArray), m = .int .u64 k ∧ k < 16 ∧ t = .string S ∧ S.size ≤ 1 ∧ Hid ((k < 10 → strOfNums [(48 : Int) + (k : Int) % 10] ++ S = it n) ∧ (10 ≤ k → k = n ∧ S = ByteArray.empty)) ∧ Below w.heap.size w wr) (fun m _ _ => (intOf m).toNat)
  case atStart => exact ⟨n, ByteArray.empty, rfl, h16, rfl, by decide, hid ⟨fun h => one_dig n h, fun _ => ⟨rfl, rfl⟩⟩, Below.refl _ _⟩
  case round =>
    obtain ⟨k, S, rfl, hk, rfl, hS, HH, hb⟩ := hrel
    have hcv := conv_one
    have hsz := strOfNums_size [(48 : Int) + (k : Int) % 10]
    have hsum : (strOfNums [(48 : Int) + (k : Int) % 10]).size + S.size ≤ 9223372036854775807 := by rw [hsz]; simp; omega
    have z := hb.size
    by_cases hz : k < 10
    · have ht : ((k : Int) / 10 == 0) = true := by simp; omega
      have HR := hid (HH.out.1 hz)
      clear hsz hS HH
      go_wp2
      go_ret
      exact ⟨ret_str HR.out, hb.alloc z _⟩
    · have ht : ((k : Int) / 10 == 0) = false := by rw [beq_eq_false_iff_ne]; omega
      obtain ⟨rfl, rfl⟩ := HH.out.2 (by omega)
      have hS2 : (strOfNums [(48 : Int) + (k : Int) % 10] ++ ByteArray.empty).size ≤ 1 := by rw [ByteArray.size_append, hsz]; exact Nat.le_refl 1
      have e1 : k / 10 = 1 := by omega
      have HR := hid (two_dig k (by omega) hk)
      clear hsz hS HH hz
      go_wp2
      refine ⟨⟨k / 10, _, ?_, by omega, rfl, hS2, hid ⟨fun _ => by rw [e1]; exact HR.out, fun h => by omega⟩, hb.alloc z _⟩, ?_⟩
      · rw [Int.natCast_ediv]; rfl
      · simp [intOf]; omega
theorem rnumber_at (n : Nat) (w : World) (h16 : n < 16) :
    Calls Tryd.prog 31 #[.int .i64 (n : Int)] w fun e w' => e = .returned (.string (it n)) ∧ Below w.heap.size w w' := by
  have c := fun W => rdigits_at n W h16
  have h0 : (n : Int) ≤ 15 := by omega
  go_enter Tryd.func31, Tryd.ntmps31
  go_wp2_with (go_at_call 37; refine (c _).mono ?_)
  rintro e w1 ⟨rfl, b1⟩
  go_wp2
  go_ret
  exact ⟨rfl, b1⟩
set_option maxHeartbeats 2000000 in
theorem rtext_no (x : Int) (w : World) (x0 : 0 ≤ x) (x1 : x ≤ 18446744073709551615) (h : isH x = false) : Calls Tryd.prog 21 #[.int .u64 x] w fun e w' => e = .returned (.tuple #[.string ⟨#[]⟩, .int .i64 2]) ∧ Below w.heap.size w w' := by
  have c := fun W => rof_no x W x0 x1 h
  clear h x0 x1
  go_enter Tryd.func21, Tryd.ntmps21
  go_wp2_with (go_at_call 14; refine (c _).mono ?_)
  rintro e w1 ⟨rfl, b1⟩
  go_wp2
  go_ret2
  exact ⟨rfl, b1.alloc b1.size _⟩
set_option maxHeartbeats 2000000 in
theorem rtext_is (x : Int) (s m : Nat) (w : World) (x0 : 0 ≤ x) (x1 : x ≤ 18446744073709551615) (h : isH x = true) (hs : s < 16) (hm : m < 3) (es : x / 32 = s) (em : x / 8 % 4 = m) :
    Calls Tryd.prog 21 #[.int .u64 x] w fun e w' => e = .returned (.tuple #[.string (hx s m), .int .i64 0]) ∧ Below w.heap.size w w' := by
  have c := fun W => rof_yes x W x0 x1 h
  rw [es, em] at c
  have HS : Hid (it s ++ ⟨#[32]⟩ ++ nm m = hx s m) := hid rfl
  have ci := fun W => rnumber_at s W hs
  have cm := fun W => rname_in m (nm m) W hm rfl
  have zi := it_size s
  have zn := nm_size m
  clear h x0 x1 es em hs hm
  generalize it s = T at *
  generalize hx s m = R at *
  go_enter Tryd.func21, Tryd.ntmps21
  go_wp2_with (go_at_call 14; refine (c _).mono ?_)
  rintro e w1 ⟨rfl, b1⟩
  go_wp2_with fail
  have c0 := cell_last w1 #[.int .i64 (s : Int), .int .i64 (m : Int)] 24 0 _ rfl
  have c1 := cell_last w1 #[.int .i64 (s : Int), .int .i64 (m : Int)] 24 1 _ rfl
  have bw := b1.alloc b1.size (.cells #[.int .i64 (s : Int), .int .i64 (m : Int)] 24)
  clear b1
  generalize nm m = N at *
  generalize w1.alloc (.cells #[.int .i64 (s : Int), .int .i64 (m : Int)] 24) = W at *
  generalize w1.heap.size = g at *
  have c0 := cell_regrown c0
  have c1 := cell_regrown c1
  have cI : ∀ d os, Calls Tryd.prog 31 #[.int .i64 (s : Int)] (grow (redrawn W d) os) fun e w'' => e = .returned (.string T) ∧ ∃ p : Regrown, w'' = grow (redrawn W p.d) p.os := fun d os => Calls.regrown_of (ci _)
  have cN : ∀ d os, Calls Tryd.prog 23 #[.int .i64 (m : Int)] (grow (redrawn W d) os) fun e w'' => e = .returned (.string N) ∧ ∃ p : Regrown, w'' = grow (redrawn W p.d) p.os := fun d os => Calls.regrown_of (cm _)
  refine wp_region_quiet_below (by kernel_rfl) (by kernel_rfl) ?_
  repeat (go_big_quiet_step ((first | (go_at_call 31; exact cI _ _) | (go_at_call 23; exact cN _ _))))
  refine wpQuiet_nil ?_
  intro _ hw'
  obtain ⟨⟨dq, osq⟩, hw''⟩ := hw'
  subst hw''
  go_wp2
  go_ret2
  exact ⟨by rw [HS.out]; rfl, bw.trans ((below_regrown W dq osq).mono bw.size)⟩
theorem rtext_at (x : Int) (T : ByteArray) (c : Int) (w : World) (x0 : 0 ≤ x) (x1 : x ≤ 18446744073709551615) (h : txv x = (T, c)) :
    Calls Tryd.prog 21 #[.int .u64 x] w fun e w' => e = .returned (.tuple #[.string T, .int .i64 c]) ∧ Below w.heap.size w w' := by
  by_cases hi : isH x = true
  · obtain ⟨s, m, hs, hm, es, em⟩ := isH_nat hi
    rw [txv, if_pos hi, es, em] at h
    simp only [Prod.mk.injEq, Int.toNat_natCast] at h
    obtain ⟨rfl, rfl⟩ := h
    exact rtext_is x s m w x0 x1 hi hs hm es em
  · rw [txv, if_neg hi] at h
    simp only [Prod.mk.injEq] at h
    obtain ⟨rfl, rfl⟩ := h
    exact rtext_no x w x0 x1 (by simpa using hi)
/-- A header's word is no word of layer 1. -/
theorem rwd_bad (x : Int) (w : World) (x0 : 0 ≤ x) (x1 : x ≤ 18446744073709551615) (h : x % 8 = 6) :
    Calls Tryd.prog 17 #[.int .u64 x] w fun e w' => e = .returned (.agg #[.int .i64 0, .bool false, .int .i64 0]) ∧ Below w.heap.size w w' := by
  have t0 : (x == 2) = false := by rw [beq_eq_false_iff_ne]; omega
  have t1 : ((x - x % 2) % 8 == 0) = false := by rw [beq_eq_false_iff_ne]; omega
  have t2 : ((x - x % 2) % 8 == 4) = false := by rw [beq_eq_false_iff_ne]; omega
  have t3 : (x - x % 2 == 0) = false := by rw [beq_eq_false_iff_ne]; omega
  clear h
  go_enter Tryd.func17, Tryd.ntmps17
  go_wp2
  exact bodyPost_ret (v := .agg #[.int .i64 0, .bool false, .int .i64 0]) (by simp [results, Tryd.results17, go_sem]) rfl ⟨rfl, ((Below.refl _ _).alloc (Nat.le_refl _) _).alloc (by simp) _⟩
end Go.Proofs.YtjjbdfabckdogaaDoor
