/- Of the calls 10 to 13: the reckoner, run by the kernel, comes to what is told, so the machine does. No condition. -/
import Derived.Test.YtdcnkdfhgmlafaaGreatDoorTy
import Derived.Test.YtdcnkdfhgmlafaaGreatDoorMem
namespace Go.EvT
open Go.Ev Go.Proofs
set_option maxRecDepth 100000
theorem pc10 : MemoOk Tryz.prog mem10 := piece_ok (reckoner envT 100000) (by kernel_rfl)
theorem pc11 : MemoOk Tryz.prog mem11 := piece_ok (reckoner envT 100000) (by kernel_rfl)
theorem pc12 : MemoOk Tryz.prog mem12 := piece_ok (reckoner envT 100000) (by kernel_rfl)
theorem pc13 : MemoOk Tryz.prog mem13 := piece_ok (reckoner envT 100000) (by kernel_rfl)
end Go.EvT
