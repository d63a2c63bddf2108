/- Of the calls 8 to 11: the reckoner, run by the kernel, comes to what is told, so the machine does. No condition. -/
import Derived.Test.YtingkhdjlcgleaaGreatDoorTy
import Derived.Test.YtingkhdjlcgleaaGreatDoorMem
namespace Go.EvT
open Go.Ev Go.Proofs
set_option maxRecDepth 100000
theorem pc8 : MemoOk Tryz.prog mem8 := piece_ok (reckoner envT 100000) (by kernel_rfl)
theorem pc9 : MemoOk Tryz.prog mem9 := piece_ok (reckoner envT 100000) (by kernel_rfl)
theorem pc10 : MemoOk Tryz.prog mem10 := piece_ok (reckoner envT 100000) (by kernel_rfl)
theorem pc11 : MemoOk Tryz.prog mem11 := piece_ok (reckoner envT 100000) (by kernel_rfl)
end Go.EvT
