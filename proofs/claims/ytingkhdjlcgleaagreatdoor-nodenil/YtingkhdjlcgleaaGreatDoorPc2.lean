/- Of the calls 4 to 7: the reckoner, run by the kernel, comes to what is told, so the machine does. No condition. -/
import Derived.Test.YtingkhdjlcgleaaGreatDoorTy
import Derived.Test.YtingkhdjlcgleaaGreatDoorMem
namespace Go.EvT
open Go.Ev Go.Proofs
set_option maxRecDepth 100000
theorem pc4 : MemoOk Tryz.prog mem4 := piece_ok (reckoner envT 100000) (by kernel_rfl)
theorem pc5 : MemoOk Tryz.prog mem5 := piece_ok (reckoner envT 100000) (by kernel_rfl)
theorem pc6 : MemoOk Tryz.prog mem6 := piece_ok (reckoner envT 100000) (by kernel_rfl)
theorem pc7 : MemoOk Tryz.prog mem7 := piece_ok (reckoner envT 100000) (by kernel_rfl)
end Go.EvT
