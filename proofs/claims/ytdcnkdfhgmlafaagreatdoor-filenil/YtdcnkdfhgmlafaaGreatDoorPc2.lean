/- Of the calls 5 to 9: the reckoner, run by the kernel, comes to what is told, so the machine does. No condition. -/
import Derived.Test.YtdcnkdfhgmlafaaGreatDoorTy
import Derived.Test.YtdcnkdfhgmlafaaGreatDoorMem
namespace Go.EvT
open Go.Ev Go.Proofs
set_option maxRecDepth 100000
theorem pc5 : MemoOk Tryz.prog mem5 := piece_ok (reckoner envT 100000) (by kernel_rfl)
theorem pc6 : MemoOk Tryz.prog mem6 := piece_ok (reckoner envT 100000) (by kernel_rfl)
theorem pc7 : MemoOk Tryz.prog mem7 := piece_ok (reckoner envT 100000) (by kernel_rfl)
theorem pc8 : MemoOk Tryz.prog mem8 := piece_ok (reckoner envT 100000) (by kernel_rfl)
theorem pc9 : MemoOk Tryz.prog mem9 := piece_ok (reckoner envT 100000) (by kernel_rfl)
end Go.EvT
