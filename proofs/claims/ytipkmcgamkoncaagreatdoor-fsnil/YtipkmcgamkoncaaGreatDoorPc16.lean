/- Of the calls 15 to 15: the reckoner, run by the kernel, comes to what is told, so the machine does. No condition. -/
import Derived.Test.YtipkmcgamkoncaaGreatDoorTy
import Derived.Test.YtipkmcgamkoncaaGreatDoorMem
namespace Go.EvT
open Go.Ev Go.Proofs
set_option maxRecDepth 100000
theorem pc15 : MemoOk Tryz.prog mem15 := piece_ok (reckoner envT 100000) (by kernel_rfl)
end Go.EvT
