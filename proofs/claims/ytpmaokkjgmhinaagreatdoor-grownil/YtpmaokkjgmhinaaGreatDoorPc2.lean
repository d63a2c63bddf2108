/- Of the calls 3 to 5: the reckoner, run by the kernel, comes to what is told, so the machine does. No condition. -/
import Derived.Test.YtpmaokkjgmhinaaGreatDoorTy
import Derived.Test.YtpmaokkjgmhinaaGreatDoorMem
import Derived.Test.YtpmaokkjgmhinaaGreatDoorKeys
namespace Go.EvT
open Go.Ev Go.Proofs
set_option maxRecDepth 100000
theorem pc3 : MemoOk Tryz.prog mem3 := piece_ok (reckonerK envT (o := ⟨98, 136, 3⟩) Go.Proofs.YtpmaokkjgmhinaaGreatDoor.keys_do (ms := []) (fun _ h => by cases h) 100000) (by kernel_rfl)
theorem pc4 : MemoOk Tryz.prog mem4 := piece_ok (reckonerK envT (o := ⟨98, 136, 3⟩) Go.Proofs.YtpmaokkjgmhinaaGreatDoor.keys_do (ms := []) (fun _ h => by cases h) 100000) (by kernel_rfl)
theorem pc5 : MemoOk Tryz.prog mem5 := piece_ok (reckonerK envT (o := ⟨98, 136, 3⟩) Go.Proofs.YtpmaokkjgmhinaaGreatDoor.keys_do (ms := []) (fun _ h => by cases h) 100000) (by kernel_rfl)
end Go.EvT
