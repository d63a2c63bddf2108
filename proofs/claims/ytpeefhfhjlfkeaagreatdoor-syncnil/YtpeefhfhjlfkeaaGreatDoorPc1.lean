/- Of the calls 0 to 3: the reckoner, run by the kernel, comes to what is told, so the machine does. No condition. -/
import Derived.Test.YtpeefhfhjlfkeaaGreatDoorTy
import Derived.Test.YtpeefhfhjlfkeaaGreatDoorMem
import Derived.Test.YtpeefhfhjlfkeaaGreatDoorKeys
namespace Go.EvT
open Go.Ev Go.Proofs
set_option maxRecDepth 100000
theorem pc0 : MemoOk Tryz.prog mem0 := piece_ok (reckonerK envT (o := ⟨48, 83, 3⟩) Go.Proofs.YtpeefhfhjlfkeaaGreatDoor.keys_do (ms := []) (fun _ h => by cases h) 100000) (by kernel_rfl)
theorem pc1 : MemoOk Tryz.prog mem1 := piece_ok (reckonerK envT (o := ⟨48, 83, 3⟩) Go.Proofs.YtpeefhfhjlfkeaaGreatDoor.keys_do (ms := []) (fun _ h => by cases h) 100000) (by kernel_rfl)
theorem pc2 : MemoOk Tryz.prog mem2 := piece_ok (reckonerK envT (o := ⟨48, 83, 3⟩) Go.Proofs.YtpeefhfhjlfkeaaGreatDoor.keys_do (ms := []) (fun _ h => by cases h) 100000) (by kernel_rfl)
theorem pc3 : MemoOk Tryz.prog mem3 := piece_ok (reckonerK envT (o := ⟨48, 83, 3⟩) Go.Proofs.YtpeefhfhjlfkeaaGreatDoor.keys_do (ms := []) (fun _ h => by cases h) 100000) (by kernel_rfl)
end Go.EvT
