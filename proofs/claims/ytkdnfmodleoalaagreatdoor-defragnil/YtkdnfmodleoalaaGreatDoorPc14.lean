/- Of the calls 13 to 13: the reckoner, run by the kernel, comes to what is told, so the machine does. No condition. -/
import Derived.Test.YtkdnfmodleoalaaGreatDoorTy
import Derived.Test.YtkdnfmodleoalaaGreatDoorMem
namespace Go.EvT
open Go.Ev Go.Proofs
set_option maxRecDepth 100000
theorem pc13 : MemoOk Tryz.prog mem13 := piece_ok (reckoner envT 100000) (by kernel_rfl)
end Go.EvT
