/- leveeref01.Lent and leveeref01.Kept. -/
import Derived.Test.YtadadidccbhopaaGreatKOps
import Derived.Deep.QuietTactic
import Derived.BigQuiet
import Derived.WalkSmall
namespace Go.Proofs.YtadadidccbhopaaGreat
open Go.RowKit
set_option maxRecDepth 100000
def a5 : List UInt8 := [165, 165, 165, 165, 165, 165, 165, 165]
end Go.Proofs.YtadadidccbhopaaGreat
