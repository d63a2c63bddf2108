/- What the rows' condition on the package's table gives the walks, and that the program's own start meets it. -/
import Derived.Test.YtmedfjodkeplfaaDoorRows
import Derived.Test.YtmedfjodkeplfaaDoorKnown
import Derived.ProofKit
import Derived.LaidMore
import Derived.OpenShut
import Derived.Stop.Joined
import Derived.Lib.LaidTab
namespace Go.Proofs.YtmedfjodkeplfaaDoor
open Go.ChangeShapes Go.WideShapes Go.ChangeAt Go.RowKit

theorem own : ownKnob Tryd.prog.godebug = none := by kernel_rfl
theorem gQ : Tryd.prog.globalNamed "levee/num.quarters" = some 0 := by kernel_rfl
theorem tQ : (Tryd.prog.globals[0]?).map (·.type) = some 48 := by kernel_rfl
theorem c29 : Tryd.prog.cellsOf 29 = 1 := by kernel_rfl
theorem c48 : Tryd.prog.cellsOf 48 = 16 := by kernel_rfl
def laidQ : List (String × DataW Unit) := [("levee/num.quarters", Rows.laid_levee_num_quarters)]

/-- The door's own heap meets the condition: three closed facts. -/
theorem door_met (os : Os) (args : Array Value) : laidMetH Tryd.prog laidQ ((World.doorLaid Tryd.prog 400 os).forCall (fun _ _ => 0) ⟨#[], args, []⟩).memory :=
  laidMetH_of_parts3 (fuel := 8) (laidMet_of_run' 8 (by kernel_rfl) (by kernel_rfl)) (by kernel_rfl) (by kernel_rfl)

theorem tab_of_laid {W : World} (h : laidMetH Tryd.prog laidQ W) : Tab W := by
  rw [MakeChecks.laidMetH_plain _ _ _ (by kernel_rfl)] at h
  have h2 : Lib.TabIs Tryd.prog W "levee/num.quarters" .u32 (tab.map fun (n : Nat) => (n : Int)) := Lib.tabIs_of_head (rest := []) gQ tQ Tryd.underlying48 Tryd.underlying29 c29 c48 h
  intro i hi
  rw [h2.cell gQ i (by simpa [tab] using hi)]
  simp [tabAt, List.getD_eq_getElem?_getD, List.getElem?_map]
  cases tab[i]? <;> simp
end Go.Proofs.YtmedfjodkeplfaaDoor
