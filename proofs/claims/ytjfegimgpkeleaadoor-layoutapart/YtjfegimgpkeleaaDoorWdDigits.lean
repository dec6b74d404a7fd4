/- Package word's digits. -/
import Derived.Test.YtjfegimgpkeleaaDoorWdMake
import Derived.Test.YtjfegimgpkeleaaDoorWdText
import Derived.Laws.RangeAny
namespace Go.Proofs.YtjfegimgpkeleaaDoor
open Go.RowKit
theorem ret_ib {a a' : Int} {b b' : Bool} (h : a = a') (h2 : b = b') : Ending.returned (.tuple #[.int .i64 a, .bool b]) = .returned (.tuple #[.int .i64 a', .bool b']) := by rw [h, h2]
end Go.Proofs.YtjfegimgpkeleaaDoor
