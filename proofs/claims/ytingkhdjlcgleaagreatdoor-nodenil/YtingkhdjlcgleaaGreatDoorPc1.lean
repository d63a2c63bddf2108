/- Of the calls 0 to 3: the reckoner, run by the kernel, comes to what is told, so the machine does. No condition. -/
import Derived.Test.YtingkhdjlcgleaaGreatDoorTy
import Derived.Test.YtingkhdjlcgleaaGreatDoorMem
namespace Go.EvT
open Go.Ev Go.Proofs
set_option maxRecDepth 100000
theorem pc0 : MemoOk Tryz.prog mem0 := piece_ok (reckoner envT 100000) (by kernel_rfl)
theorem pc1 : MemoOk Tryz.prog mem1 := piece_ok (reckoner envT 100000) (by kernel_rfl)
theorem pc2 : MemoOk Tryz.prog mem2 := piece_ok (reckoner envT 100000) (by kernel_rfl)
theorem pc3 : MemoOk Tryz.prog mem3 := piece_ok (reckoner envT 100000) (by kernel_rfl)
end Go.EvT
