/- Of the calls 12 to 15: the reckoner, run by the kernel, comes to what is told, so the machine does. No condition. -/
import Derived.Test.YtpeefhfhjlfkeaaGreatDoorTy
import Derived.Test.YtpeefhfhjlfkeaaGreatDoorMem
import Derived.Test.YtpeefhfhjlfkeaaGreatDoorKeys
namespace Go.EvT
open Go.Ev Go.Proofs
set_option maxRecDepth 100000
theorem pc12 : MemoOk Tryz.prog mem12 := piece_ok (reckonerK envT (o := ⟨48, 83, 3⟩) Go.Proofs.YtpeefhfhjlfkeaaGreatDoor.keys_do (ms := []) (fun _ h => by cases h) 100000) (by kernel_rfl)
theorem pc13 : MemoOk Tryz.prog mem13 := piece_ok (reckonerK envT (o := ⟨48, 83, 3⟩) Go.Proofs.YtpeefhfhjlfkeaaGreatDoor.keys_do (ms := []) (fun _ h => by cases h) 100000) (by kernel_rfl)
theorem pc14 : MemoOk Tryz.prog mem14 := piece_ok (reckonerK envT (o := ⟨48, 83, 3⟩) Go.Proofs.YtpeefhfhjlfkeaaGreatDoor.keys_do (ms := []) (fun _ h => by cases h) 100000) (by kernel_rfl)
theorem pc15 : MemoOk Tryz.prog mem15 := piece_ok (reckonerK envT (o := ⟨48, 83, 3⟩) Go.Proofs.YtpeefhfhjlfkeaaGreatDoor.keys_do (ms := []) (fun _ h => by cases h) 100000) (by kernel_rfl)
end Go.EvT
