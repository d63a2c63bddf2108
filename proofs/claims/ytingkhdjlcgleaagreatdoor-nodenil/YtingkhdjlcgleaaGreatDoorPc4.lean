/- Of the calls 12 to 15: the reckoner, run by the kernel, comes to what is told, so the machine does. No condition. -/
import Derived.Test.YtingkhdjlcgleaaGreatDoorTy
import Derived.Test.YtingkhdjlcgleaaGreatDoorMem
namespace Go.EvT
open Go.Ev Go.Proofs
set_option maxRecDepth 100000
theorem pc12 : MemoOk Tryz.prog mem12 := piece_ok (reckoner envT 100000) (by kernel_rfl)
theorem pc13 : MemoOk Tryz.prog mem13 := piece_ok (reckoner envT 100000) (by kernel_rfl)
theorem pc14 : MemoOk Tryz.prog mem14 := piece_ok (reckoner envT 100000) (by kernel_rfl)
theorem pc15 : MemoOk Tryz.prog mem15 := piece_ok (reckoner envT 100000) (by kernel_rfl)
end Go.EvT
