/- Of the calls 33 to 33: the reckoner, run by the kernel, comes to what is told, so the machine does. No condition. -/
import Derived.Test.YtipkmcgamkoncaaGreatDoorTy
import Derived.Test.YtipkmcgamkoncaaGreatDoorMem
namespace Go.EvT
open Go.Ev Go.Proofs
set_option maxRecDepth 100000
theorem pc33 : MemoOk Tryz.prog mem33 := piece_ok (reckoner envT 100000) (by kernel_rfl)
end Go.EvT
