/- The leaves of package word: contracts of bits' methods and of the functions of kinds. -/
import Derived.Test.YtfnnckbdaedlbaaDoorProg
import Derived.Test.YtfnnckbdaedlbaaDoorWdMath
import Derived.Test.YtfnnckbdaedlbaaDoorBsKit
import Derived.WalkKit
import Derived.WalkLawsBesides
import Derived.WalkSpells
import Derived.BigQuiet
import Derived.Outline
import Derived.Deep.WholeRow
import Derived.Laws.EntriesVeiled
namespace Go.Proofs.YtfnnckbdaedlbaaDoor
open Go.RowKit
end Go.Proofs.YtfnnckbdaedlbaaDoor
