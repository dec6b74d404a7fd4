/- Package word's Make, and what stands on it alone: Pointer, Scalar, Empty. -/
import Derived.Test.YtfnnckbdaedlbaaDoorWdOf
namespace Go.Proofs.YtfnnckbdaedlbaaDoor
open Go.RowKit
theorem ret_word {a a' c c' : Int} {b b' : Bool} (h : a = a') (h2 : b = b') (h3 : c = c') : Ending.returned (.agg #[.int .i64 a, .bool b, .int .i64 c]) = .returned (.agg #[.int .i64 a', .bool b', .int .i64 c']) := by rw [h, h2, h3]
end Go.Proofs.YtfnnckbdaedlbaaDoor
