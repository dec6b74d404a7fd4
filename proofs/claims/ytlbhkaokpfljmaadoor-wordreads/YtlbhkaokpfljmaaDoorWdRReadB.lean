/- The document's Read (lapidaryref01), of a text without a seal's sign. -/
import Derived.Test.YtlbhkaokpfljmaaDoorWdRNum
import Derived.Test.YtlbhkaokpfljmaaDoorWdRef
import Derived.Test.YtlbhkaokpfljmaaDoorWdRRead
import Derived.Deep.DeepCutAuto
namespace Go.Proofs.YtlbhkaokpfljmaaDoor
open Go.RowKit
set_option linter.unusedVariables false
set_option maxRecDepth 100000 in
set_option maxHeartbeats 4000000 in
theorem rread_none_num_err_nil (s B : ByteArray) (sl : Bool) (w : World) (hs' : s.size ≤ 9223372036854775807) (hBs' : B.size ≤ 9223372036854775807) (hs0 : ¬ 0 < s.size) (HBe : Hid (s = B)) (HSl : Hid (sl = false)) (h1 : (B.toList == [110, 117, 108, 108]) = false) (h2 : (B.toList == [101, 109, 112, 116, 121]) = false) (hz : ¬ 0 < B.size) (H3 : Hid (¬ B.toList.head? = some 64)) (Hsz : Hid (B.size ≤ maxLen)) (n e : Int) (Hn : Hid (Wd.nm B.toList = (n, e))) (he : (e != 0) = true) :
    Calls Tryd.prog 29 #[.string s] w fun e w' => e = .returned (.tuple #[.int .u64 (Wd.rrB sl B.toList).1, .int .i64 (Wd.rrB sl B.toList).2]) ∧ Below w.heap.size w w' := by
  have HR : Hid (Wd.rrB sl B.toList = (0, e)) := by unfold Wd.rrB; rw [if_neg (by rw [h1]; decide), if_neg (by rw [h2]; decide), if_neg H3.out, show Wd.nm B.toList = (n, e) from Hn.out]; unfold Wd.mkN; rw [if_pos (by simpa using he)]; rfl
  go_enter Tryd.func29, Tryd.ntmps29
  go_upto_if 15 with (fail)
  go_cut [0] (fun s0 wr => s0 = .string B ∧ wr = w.alloc (.cells #[.int .i64 3, .bool sl, .int .i64 0] 26))
  case first =>
    go_wp2
    go_meet
    case rel => exact ⟨by rw [HBe.out], by rw [HSl.out]⟩
  case rest =>
    obtain ⟨rfl, rfl⟩ := hcut
    clear HBe HSl
    go_wp2_with (go_at_call 40; refine (rnumber_at B n e _ Hsz.out Hn.out).mono ?_; rintro x w' ⟨rfl, rfl⟩)
    go_ret2
    exact ⟨ret_iep HR.out, (Below.refl _ _).alloc (Nat.le_refl _) _⟩
set_option maxRecDepth 100000 in
set_option maxHeartbeats 4000000 in
theorem rread_other_null (s B : ByteArray) (sl : Bool) (w : World) (hs' : s.size ≤ 9223372036854775807) (hBs' : B.size ≤ 9223372036854775807) (hs0 : 0 < s.size) (hs0i : (0 : Int) < s.size) (tb : ((s[0].toNat : Int) == 33) = false) (HBe : Hid (s = B)) (HSl : Hid (sl = false)) (h1 : (B.toList == [110, 117, 108, 108]) = true) :
    Calls Tryd.prog 29 #[.string s] w fun e w' => e = .returned (.tuple #[.int .u64 (Wd.rrB sl B.toList).1, .int .i64 (Wd.rrB sl B.toList).2]) ∧ Below w.heap.size w w' := by
  have HR : Hid (Wd.rrB sl B.toList = (Wd.mkW 1 sl 0, Wd.mkE 1 sl 0)) := by unfold Wd.rrB; rw [if_pos h1]; rfl
  go_enter Tryd.func29, Tryd.ntmps29
  go_upto_if 15 with (fail)
  go_cut [0] (fun s0 wr => s0 = .string B ∧ wr = w.alloc (.cells #[.int .i64 3, .bool sl, .int .i64 0] 26))
  case first =>
    go_wp2
    go_meet
    case rel => exact ⟨by rw [HBe.out], by rw [HSl.out]⟩
  case rest =>
    obtain ⟨rfl, rfl⟩ := hcut
    clear HBe HSl
    go_wp2_with (go_at_call 14; refine (rmake_any 1 sl 0 _).mono ?_)
    rintro x w2 ⟨rfl, b2⟩
    go_wp2
    go_ret2
    exact ⟨ret_iep HR.out, ((Below.refl _ _).alloc (Nat.le_refl _) _).trans (b2.mono (by simp))⟩
set_option maxRecDepth 100000 in
set_option maxHeartbeats 4000000 in
theorem rread_other_empty (s B : ByteArray) (sl : Bool) (w : World) (hs' : s.size ≤ 9223372036854775807) (hBs' : B.size ≤ 9223372036854775807) (hs0 : 0 < s.size) (hs0i : (0 : Int) < s.size) (tb : ((s[0].toNat : Int) == 33) = false) (HBe : Hid (s = B)) (HSl : Hid (sl = false)) (h1 : (B.toList == [110, 117, 108, 108]) = false) (h2 : (B.toList == [101, 109, 112, 116, 121]) = true) :
    Calls Tryd.prog 29 #[.string s] w fun e w' => e = .returned (.tuple #[.int .u64 (Wd.rrB sl B.toList).1, .int .i64 (Wd.rrB sl B.toList).2]) ∧ Below w.heap.size w w' := by
  have HR : Hid (Wd.rrB sl B.toList = (Wd.mkW 4 sl 0, Wd.mkE 4 sl 0)) := by unfold Wd.rrB; rw [if_neg (by rw [h1]; decide), if_pos h2]; rfl
  go_enter Tryd.func29, Tryd.ntmps29
  go_upto_if 15 with (fail)
  go_cut [0] (fun s0 wr => s0 = .string B ∧ wr = w.alloc (.cells #[.int .i64 3, .bool sl, .int .i64 0] 26))
  case first =>
    go_wp2
    go_meet
    case rel => exact ⟨by rw [HBe.out], by rw [HSl.out]⟩
  case rest =>
    obtain ⟨rfl, rfl⟩ := hcut
    clear HBe HSl
    go_wp2_with (go_at_call 14; refine (rmake_any 4 sl 0 _).mono ?_)
    rintro x w2 ⟨rfl, b2⟩
    go_wp2
    go_ret2
    exact ⟨ret_iep HR.out, ((Below.refl _ _).alloc (Nat.le_refl _) _).trans (b2.mono (by simp))⟩
set_option maxRecDepth 100000 in
set_option maxHeartbeats 4000000 in
theorem rread_other_at_minus (s B : ByteArray) (sl : Bool) (w : World) (hs' : s.size ≤ 9223372036854775807) (hBs' : B.size ≤ 9223372036854775807) (hs0 : 0 < s.size) (hs0i : (0 : Int) < s.size) (tb : ((s[0].toNat : Int) == 33) = false) (HBe : Hid (s = B)) (HSl : Hid (sl = false)) (h1 : (B.toList == [110, 117, 108, 108]) = false) (h2 : (B.toList == [101, 109, 112, 116, 121]) = false) (hz : 0 < B.size) (hzi : (0 : Int) < B.size) (t3 : ((B[0].toNat : Int) == 64) = true) (H3 : Hid (B.toList.head? = some 64)) (hc0 : 0 < B.size - 1) (hc0i : (0 : Int) < ((B.size - 1 : Nat) : Int)) (t4 : ((((B.extract 1 B.size)[0]'(by simp; omega)).toNat : Int) == 45) = true) (H4 : Hid (B.toList.tail.head? = some 45)) :
    Calls Tryd.prog 29 #[.string s] w fun e w' => e = .returned (.tuple #[.int .u64 (Wd.rrB sl B.toList).1, .int .i64 (Wd.rrB sl B.toList).2]) ∧ Below w.heap.size w w' := by
  have HR : Hid (Wd.rrB sl B.toList = (0, 2)) := by unfold Wd.rrB; rw [if_neg (by rw [h1]; decide), if_neg (by rw [h2]; decide), if_pos H3.out, if_pos H4.out]; rfl
  go_enter Tryd.func29, Tryd.ntmps29
  go_upto_if 15 with (fail)
  go_cut [0] (fun s0 wr => s0 = .string B ∧ wr = w.alloc (.cells #[.int .i64 3, .bool sl, .int .i64 0] 26))
  case first =>
    go_wp2
    go_meet
    case rel => exact ⟨by rw [HBe.out], by rw [HSl.out]⟩
  case rest =>
    obtain ⟨rfl, rfl⟩ := hcut
    clear HBe HSl
    go_wp2
    go_ret2
    exact ⟨ret_iep HR.out, (Below.refl _ _).alloc (Nat.le_refl _) _⟩
set_option maxRecDepth 100000 in
set_option maxHeartbeats 4000000 in
theorem rread_other_at_err_nil (s B : ByteArray) (sl : Bool) (w : World) (hs' : s.size ≤ 9223372036854775807) (hBs' : B.size ≤ 9223372036854775807) (hs0 : 0 < s.size) (hs0i : (0 : Int) < s.size) (tb : ((s[0].toNat : Int) == 33) = false) (HBe : Hid (s = B)) (HSl : Hid (sl = false)) (h1 : (B.toList == [110, 117, 108, 108]) = false) (h2 : (B.toList == [101, 109, 112, 116, 121]) = false) (hz : 0 < B.size) (hzi : (0 : Int) < B.size) (t3 : ((B[0].toNat : Int) == 64) = true) (H3 : Hid (B.toList.head? = some 64)) (hc0 : ¬ 0 < B.size - 1) (H4 : Hid (¬ B.toList.tail.head? = some 45)) (Hsz : Hid ((B.extract 1 B.size).size ≤ maxLen)) (n e : Int) (Hn : Hid (Wd.nm (B.extract 1 B.size).toList = (n, e))) (he : (e != 0) = true) :
    Calls Tryd.prog 29 #[.string s] w fun e w' => e = .returned (.tuple #[.int .u64 (Wd.rrB sl B.toList).1, .int .i64 (Wd.rrB sl B.toList).2]) ∧ Below w.heap.size w w' := by
  have HR : Hid (Wd.rrB sl B.toList = (0, e)) := by unfold Wd.rrB; rw [if_neg (by rw [h1]; decide), if_neg (by rw [h2]; decide), if_pos H3.out, if_neg H4.out, ← ext_tail, show Wd.nm (B.extract 1 B.size).toList = (n, e) from Hn.out]; unfold Wd.mkN; rw [if_pos (by simpa using he)]; rfl
  go_enter Tryd.func29, Tryd.ntmps29
  go_upto_if 15 with (fail)
  go_cut [0] (fun s0 wr => s0 = .string B ∧ wr = w.alloc (.cells #[.int .i64 3, .bool sl, .int .i64 0] 26))
  case first =>
    go_wp2
    go_meet
    case rel => exact ⟨by rw [HBe.out], by rw [HSl.out]⟩
  case rest =>
    obtain ⟨rfl, rfl⟩ := hcut
    clear HBe HSl
    go_wp2_with (go_at_call 40; refine (rnumber_at (B.extract 1 B.size) n e _ Hsz.out Hn.out).mono ?_; rintro x w' ⟨rfl, rfl⟩)
    go_ret2
    exact ⟨ret_iep HR.out, (Below.refl _ _).alloc (Nat.le_refl _) _⟩
set_option maxRecDepth 100000 in
set_option maxHeartbeats 4000000 in
theorem rread_other_at_err (s B : ByteArray) (sl : Bool) (w : World) (hs' : s.size ≤ 9223372036854775807) (hBs' : B.size ≤ 9223372036854775807) (hs0 : 0 < s.size) (hs0i : (0 : Int) < s.size) (tb : ((s[0].toNat : Int) == 33) = false) (HBe : Hid (s = B)) (HSl : Hid (sl = false)) (h1 : (B.toList == [110, 117, 108, 108]) = false) (h2 : (B.toList == [101, 109, 112, 116, 121]) = false) (hz : 0 < B.size) (hzi : (0 : Int) < B.size) (t3 : ((B[0].toNat : Int) == 64) = true) (H3 : Hid (B.toList.head? = some 64)) (hc0 : 0 < B.size - 1) (hc0i : (0 : Int) < ((B.size - 1 : Nat) : Int)) (t4 : ((((B.extract 1 B.size)[0]'(by simp; omega)).toNat : Int) == 45) = false) (H4 : Hid (¬ B.toList.tail.head? = some 45)) (Hsz : Hid ((B.extract 1 B.size).size ≤ maxLen)) (n e : Int) (Hn : Hid (Wd.nm (B.extract 1 B.size).toList = (n, e))) (he : (e != 0) = true) :
    Calls Tryd.prog 29 #[.string s] w fun e w' => e = .returned (.tuple #[.int .u64 (Wd.rrB sl B.toList).1, .int .i64 (Wd.rrB sl B.toList).2]) ∧ Below w.heap.size w w' := by
  have HR : Hid (Wd.rrB sl B.toList = (0, e)) := by unfold Wd.rrB; rw [if_neg (by rw [h1]; decide), if_neg (by rw [h2]; decide), if_pos H3.out, if_neg H4.out, ← ext_tail, show Wd.nm (B.extract 1 B.size).toList = (n, e) from Hn.out]; unfold Wd.mkN; rw [if_pos (by simpa using he)]; rfl
  go_enter Tryd.func29, Tryd.ntmps29
  go_upto_if 15 with (fail)
  go_cut [0] (fun s0 wr => s0 = .string B ∧ wr = w.alloc (.cells #[.int .i64 3, .bool sl, .int .i64 0] 26))
  case first =>
    go_wp2
    go_meet
    case rel => exact ⟨by rw [HBe.out], by rw [HSl.out]⟩
  case rest =>
    obtain ⟨rfl, rfl⟩ := hcut
    clear HBe HSl
    go_wp2_with (go_at_call 40; refine (rnumber_at (B.extract 1 B.size) n e _ Hsz.out Hn.out).mono ?_; rintro x w' ⟨rfl, rfl⟩)
    go_ret2
    exact ⟨ret_iep HR.out, (Below.refl _ _).alloc (Nat.le_refl _) _⟩
set_option maxRecDepth 100000 in
set_option maxHeartbeats 4000000 in
theorem rread_other_at_ok (s B : ByteArray) (sl : Bool) (w : World) (hs' : s.size ≤ 9223372036854775807) (hBs' : B.size ≤ 9223372036854775807) (hs0 : 0 < s.size) (hs0i : (0 : Int) < s.size) (tb : ((s[0].toNat : Int) == 33) = false) (HBe : Hid (s = B)) (HSl : Hid (sl = false)) (h1 : (B.toList == [110, 117, 108, 108]) = false) (h2 : (B.toList == [101, 109, 112, 116, 121]) = false) (hz : 0 < B.size) (hzi : (0 : Int) < B.size) (t3 : ((B[0].toNat : Int) == 64) = true) (H3 : Hid (B.toList.head? = some 64)) (hc0 : 0 < B.size - 1) (hc0i : (0 : Int) < ((B.size - 1 : Nat) : Int)) (t4 : ((((B.extract 1 B.size)[0]'(by simp; omega)).toNat : Int) == 45) = false) (H4 : Hid (¬ B.toList.tail.head? = some 45)) (Hsz : Hid ((B.extract 1 B.size).size ≤ maxLen)) (n : Int) (Hn : Hid (Wd.nm (B.extract 1 B.size).toList = (n, 0))) :
    Calls Tryd.prog 29 #[.string s] w fun e w' => e = .returned (.tuple #[.int .u64 (Wd.rrB sl B.toList).1, .int .i64 (Wd.rrB sl B.toList).2]) ∧ Below w.heap.size w w' := by
  have HR : Hid (Wd.rrB sl B.toList = (Wd.mkW 2 sl n, Wd.mkE 2 sl n)) := by unfold Wd.rrB; rw [if_neg (by rw [h1]; decide), if_neg (by rw [h2]; decide), if_pos H3.out, if_neg H4.out, ← ext_tail, show Wd.nm (B.extract 1 B.size).toList = (n, 0) from Hn.out]; rfl
  go_enter Tryd.func29, Tryd.ntmps29
  go_upto_if 15 with (fail)
  go_cut [0] (fun s0 wr => s0 = .string B ∧ wr = w.alloc (.cells #[.int .i64 3, .bool sl, .int .i64 0] 26))
  case first =>
    go_wp2
    go_meet
    case rel => exact ⟨by rw [HBe.out], by rw [HSl.out]⟩
  case rest =>
    obtain ⟨rfl, rfl⟩ := hcut
    clear HBe HSl
    go_wp2_with (first | (go_at_call 40; refine (rnumber_at (B.extract 1 B.size) n 0 _ Hsz.out Hn.out).mono ?_; rintro x w' ⟨rfl, rfl⟩) | (go_at_call 14; refine (rmake_any 2 sl n _).mono ?_))
    rintro x w2 ⟨rfl, b2⟩
    go_wp2
    go_ret2
    exact ⟨ret_iep HR.out, ((Below.refl _ _).alloc (Nat.le_refl _) _).trans (b2.mono (by simp))⟩
set_option maxRecDepth 100000 in
set_option maxHeartbeats 4000000 in
theorem rread_other_num_err_nil (s B : ByteArray) (sl : Bool) (w : World) (hs' : s.size ≤ 9223372036854775807) (hBs' : B.size ≤ 9223372036854775807) (hs0 : 0 < s.size) (hs0i : (0 : Int) < s.size) (tb : ((s[0].toNat : Int) == 33) = false) (HBe : Hid (s = B)) (HSl : Hid (sl = false)) (h1 : (B.toList == [110, 117, 108, 108]) = false) (h2 : (B.toList == [101, 109, 112, 116, 121]) = false) (hz : ¬ 0 < B.size) (H3 : Hid (¬ B.toList.head? = some 64)) (Hsz : Hid (B.size ≤ maxLen)) (n e : Int) (Hn : Hid (Wd.nm B.toList = (n, e))) (he : (e != 0) = true) :
    Calls Tryd.prog 29 #[.string s] w fun e w' => e = .returned (.tuple #[.int .u64 (Wd.rrB sl B.toList).1, .int .i64 (Wd.rrB sl B.toList).2]) ∧ Below w.heap.size w w' := by
  have HR : Hid (Wd.rrB sl B.toList = (0, e)) := by unfold Wd.rrB; rw [if_neg (by rw [h1]; decide), if_neg (by rw [h2]; decide), if_neg H3.out, show Wd.nm B.toList = (n, e) from Hn.out]; unfold Wd.mkN; rw [if_pos (by simpa using he)]; rfl
  go_enter Tryd.func29, Tryd.ntmps29
  go_upto_if 15 with (fail)
  go_cut [0] (fun s0 wr => s0 = .string B ∧ wr = w.alloc (.cells #[.int .i64 3, .bool sl, .int .i64 0] 26))
  case first =>
    go_wp2
    go_meet
    case rel => exact ⟨by rw [HBe.out], by rw [HSl.out]⟩
  case rest =>
    obtain ⟨rfl, rfl⟩ := hcut
    clear HBe HSl
    go_wp2_with (go_at_call 40; refine (rnumber_at B n e _ Hsz.out Hn.out).mono ?_; rintro x w' ⟨rfl, rfl⟩)
    go_ret2
    exact ⟨ret_iep HR.out, (Below.refl _ _).alloc (Nat.le_refl _) _⟩
set_option maxRecDepth 100000 in
set_option maxHeartbeats 4000000 in
theorem rread_other_num_err (s B : ByteArray) (sl : Bool) (w : World) (hs' : s.size ≤ 9223372036854775807) (hBs' : B.size ≤ 9223372036854775807) (hs0 : 0 < s.size) (hs0i : (0 : Int) < s.size) (tb : ((s[0].toNat : Int) == 33) = false) (HBe : Hid (s = B)) (HSl : Hid (sl = false)) (h1 : (B.toList == [110, 117, 108, 108]) = false) (h2 : (B.toList == [101, 109, 112, 116, 121]) = false) (hz : 0 < B.size) (hzi : (0 : Int) < B.size) (t3 : ((B[0].toNat : Int) == 64) = false) (H3 : Hid (¬ B.toList.head? = some 64)) (Hsz : Hid (B.size ≤ maxLen)) (n e : Int) (Hn : Hid (Wd.nm B.toList = (n, e))) (he : (e != 0) = true) :
    Calls Tryd.prog 29 #[.string s] w fun e w' => e = .returned (.tuple #[.int .u64 (Wd.rrB sl B.toList).1, .int .i64 (Wd.rrB sl B.toList).2]) ∧ Below w.heap.size w w' := by
  have HR : Hid (Wd.rrB sl B.toList = (0, e)) := by unfold Wd.rrB; rw [if_neg (by rw [h1]; decide), if_neg (by rw [h2]; decide), if_neg H3.out, show Wd.nm B.toList = (n, e) from Hn.out]; unfold Wd.mkN; rw [if_pos (by simpa using he)]; rfl
  go_enter Tryd.func29, Tryd.ntmps29
  go_upto_if 15 with (fail)
  go_cut [0] (fun s0 wr => s0 = .string B ∧ wr = w.alloc (.cells #[.int .i64 3, .bool sl, .int .i64 0] 26))
  case first =>
    go_wp2
    go_meet
    case rel => exact ⟨by rw [HBe.out], by rw [HSl.out]⟩
  case rest =>
    obtain ⟨rfl, rfl⟩ := hcut
    clear HBe HSl
    go_wp2_with (go_at_call 40; refine (rnumber_at B n e _ Hsz.out Hn.out).mono ?_; rintro x w' ⟨rfl, rfl⟩)
    go_ret2
    exact ⟨ret_iep HR.out, (Below.refl _ _).alloc (Nat.le_refl _) _⟩
set_option maxRecDepth 100000 in
set_option maxHeartbeats 4000000 in
theorem rread_other_num_ok (s B : ByteArray) (sl : Bool) (w : World) (hs' : s.size ≤ 9223372036854775807) (hBs' : B.size ≤ 9223372036854775807) (hs0 : 0 < s.size) (hs0i : (0 : Int) < s.size) (tb : ((s[0].toNat : Int) == 33) = false) (HBe : Hid (s = B)) (HSl : Hid (sl = false)) (h1 : (B.toList == [110, 117, 108, 108]) = false) (h2 : (B.toList == [101, 109, 112, 116, 121]) = false) (hz : 0 < B.size) (hzi : (0 : Int) < B.size) (t3 : ((B[0].toNat : Int) == 64) = false) (H3 : Hid (¬ B.toList.head? = some 64)) (Hsz : Hid (B.size ≤ maxLen)) (n : Int) (Hn : Hid (Wd.nm B.toList = (n, 0))) :
    Calls Tryd.prog 29 #[.string s] w fun e w' => e = .returned (.tuple #[.int .u64 (Wd.rrB sl B.toList).1, .int .i64 (Wd.rrB sl B.toList).2]) ∧ Below w.heap.size w w' := by
  have HR : Hid (Wd.rrB sl B.toList = (Wd.mkW 3 sl n, Wd.mkE 3 sl n)) := by unfold Wd.rrB; rw [if_neg (by rw [h1]; decide), if_neg (by rw [h2]; decide), if_neg H3.out, show Wd.nm B.toList = (n, 0) from Hn.out]; rfl
  go_enter Tryd.func29, Tryd.ntmps29
  go_upto_if 15 with (fail)
  go_cut [0] (fun s0 wr => s0 = .string B ∧ wr = w.alloc (.cells #[.int .i64 3, .bool sl, .int .i64 0] 26))
  case first =>
    go_wp2
    go_meet
    case rel => exact ⟨by rw [HBe.out], by rw [HSl.out]⟩
  case rest =>
    obtain ⟨rfl, rfl⟩ := hcut
    clear HBe HSl
    go_wp2_with (first | (go_at_call 40; refine (rnumber_at B n 0 _ Hsz.out Hn.out).mono ?_; rintro x w' ⟨rfl, rfl⟩) | (go_at_call 14; refine (rmake_any 3 sl n _).mono ?_))
    rintro x w2 ⟨rfl, b2⟩
    go_wp2
    go_ret2
    exact ⟨ret_iep HR.out, ((Below.refl _ _).alloc (Nat.le_refl _) _).trans (b2.mono (by simp))⟩
end Go.Proofs.YtlbhkaokpfljmaaDoor
