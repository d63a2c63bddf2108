/- Of the calls 22 to 22: the reckoner, run by the kernel, comes to what is told, so the machine does. No condition. -/
import Derived.Test.YtkdnfmodleoalaaGreatDoorTy
import Derived.Test.YtkdnfmodleoalaaGreatDoorMem
namespace Go.EvT
open Go.Ev Go.Proofs
set_option maxRecDepth 100000
theorem pc22 : MemoOk Tryz.prog mem22 := piece_ok (reckoner envT 100000) (by kernel_rfl)
end Go.EvT
