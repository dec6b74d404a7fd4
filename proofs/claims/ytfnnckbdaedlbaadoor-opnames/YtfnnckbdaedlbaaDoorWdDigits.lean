/- Package word's digits. -/
import Derived.Test.YtfnnckbdaedlbaaDoorWdMake
import Derived.Test.YtfnnckbdaedlbaaDoorWdText
import Derived.Laws.RangeAny
namespace Go.Proofs.YtfnnckbdaedlbaaDoor
open Go.RowKit
theorem ret_ib {a a' : Int} {b b' : Bool} (h : a = a') (h2 : b = b') : Ending.returned (.tuple #[.int .i64 a, .bool b]) = .returned (.tuple #[.int .i64 a', .bool b']) := by rw [h, h2]
end Go.Proofs.YtfnnckbdaedlbaaDoor
