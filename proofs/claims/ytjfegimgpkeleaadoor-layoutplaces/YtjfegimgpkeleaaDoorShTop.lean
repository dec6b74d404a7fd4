/- package shape: findShape, greatest, size, Size, Most, Kind, Is. -/
import Derived.Test.YtjfegimgpkeleaaDoorShTab
namespace Go.Proofs.YtjfegimgpkeleaaDoor
open Go.RowKit Go.Sh
def fs (ss : List ByteArray) (n : Int) : ByteArray × Int := if right ss then (if inR n ss.length then (at' ss n.toNat, 0) else (ByteArray.empty, 130)) else (ByteArray.empty, 2)
theorem ret_si {a b : ByteArray} {c d : Int} (h : a = b) (h2 : c = d) : Ending.returned (.tuple #[.string a, .int .i64 c]) = .returned (.tuple #[.string b, .int .i64 d]) := by rw [h, h2]
theorem fs_no {ss : List ByteArray} {n : Int} (h : right ss = false) : fs ss n = (ByteArray.empty, 2) := by simp [fs, h]
theorem fs_out {ss : List ByteArray} {n : Int} (h : right ss = true) (h2 : inR n ss.length = false) : fs ss n = (ByteArray.empty, 130) := by simp [fs, h, h2]
theorem fs_in {ss : List ByteArray} {k : Nat} (h : right ss = true) (h2 : k < ss.length) : fs ss k = (at' ss k, 0) := by simp [fs, h, inR, h2]
theorem sz_no {ss : List ByteArray} {n : Int} (h : right ss = false) : sz ss n = (0, 2) := by simp [sz, h]
theorem sz_out {ss : List ByteArray} {n : Int} (h : right ss = true) (h2 : inR n ss.length = false) : sz ss n = (0, 130) := by simp [sz, h, h2]
theorem sz_in {ss : List ByteArray} {n : Int} (h : right ss = true) (h2 : inR n ss.length = true) : sz ss n = (2 + ((at' ss n.toNat).size : Int), 0) := by simp [sz, h, h2]
theorem inR_lt {n : Int} {k : Nat} (h : inR n k = true) : n.toNat < k := by simp [inR] at h; omega
/-- What Most answers. -/
def ms (ss : List ByteArray) : Int × Int := if right ss then (most ss, 0) else (0, 2)
end Go.Proofs.YtjfegimgpkeleaaDoor
