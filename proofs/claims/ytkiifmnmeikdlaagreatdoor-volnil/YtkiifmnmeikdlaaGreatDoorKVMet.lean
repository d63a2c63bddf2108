/- What the row's condition on the package's table gives the walk, that the program's own start meets it, and a shape as an argument. -/
import Derived.Test.YtkiifmnmeikdlaaGreatDoorRows
import Derived.Test.YtkiifmnmeikdlaaGreatDoorJCVGSizes10
import Derived.ProofKit
import Derived.LaidMore
import Derived.OpenShut
import Derived.Stop.Joined
import Derived.Lib.LaidTab
import Derived.ChangeOld
import Derived.Below
namespace Go.Proofs.YtkiifmnmeikdlaaGreatDoor
open Go.ChangeShapes Go.WideShapes Go.ChangeAt Go.RowKit
set_option maxRecDepth 100000
theorem ownV : ownKnob Tryz.prog.godebug = none := by kernel_rfl
theorem gQ : Tryz.prog.globalNamed "levee/num.quarters" = some 0 := by kernel_rfl
theorem tQ : (Tryz.prog.globals[0]?).map (·.type) = some 188 := by kernel_rfl
theorem cQ1 : Tryz.prog.cellsOf 139 = 1 := by kernel_rfl
theorem cQ16 : Tryz.prog.cellsOf 188 = 16 := by kernel_rfl
def laidQ : List (String × DataW Unit) := [("levee/num.quarters", Rows.laid_levee_num_quarters)]
/-- The door's own heap meets the condition: three closed facts. -/
theorem door_met (os : Os) (args : Array Value) : laidMetH Tryz.prog laidQ ((World.doorLaid Tryz.prog 400 os).forCall (fun _ _ => 0) ⟨#[], args, []⟩).memory :=
  laidMetH_of_parts3 (fuel := 8) (laidMet_of_run' 8 (by kernel_rfl) (by kernel_rfl)) (by kernel_rfl) (by kernel_rfl)
theorem tab_of_laid {W : World} (h : laidMetH Tryz.prog laidQ W) : Tab W := by
  rw [MakeChecks.laidMetH_plain _ _ _ (by kernel_rfl)] at h
  have h2 : Lib.TabIs Tryz.prog W "levee/num.quarters" .u32 (tab.map fun (n : Nat) => (n : Int)) := Lib.tabIs_of_head (rest := []) gQ tQ Tryz.underlying188 Tryz.underlying139 cQ1 cQ16 h
  intro i hi
  rw [h2.cell gQ i (by simpa [tab] using hi)]
  simp [tabAt, List.getD_eq_getElem?_getD, List.getElem?_map]
  cases tab[i]? <;> simp
theorem laidOutV : laidOutB Tryz.prog = true := by kernel_rfl
theorem cells_geoV : Tryz.prog.cellTypes Tryz.prog.depth 23 = some [3, 3, 3] := by kernel_rfl
theorem size_geoV : Tryz.prog.cellsOf 23 = 3 := by kernel_rfl
theorem int_of_cellV {W : World} {r : Reach} {b : Nat} {v : Value} (h : Cell.okWide Tryz.prog W r b 3 v) : ∃ n, v = .int .i64 n := by
  have hU : Tryz.prog.underlying 3 = some (.int .i64) := Tryz.underlying3
  exact okWide_int (P := Tryz.prog) (w := W) (r := r) (base := b) hU (by unfold Value.okWide; rw [hU]; exact h)
theorem open_geoV {W : World} {r : Reach} {b : Nat} {v : Value} (h : Value.okWide Tryz.prog W r b 23 v) : ∃ x y z : Int, v = .agg #[.int .i64 x, .int .i64 y, .int .i64 z] := by
  unfold Value.okWide at h
  rw [Tryz.underlying23] at h
  obtain ⟨cs, rfl, hsz, ts, hts, _, hall⟩ := h
  rw [cells_geoV] at hts
  obtain rfl : [3, 3, 3] = ts := by simpa using hts
  rw [size_geoV] at hsz
  obtain ⟨l⟩ := cs
  match l, hsz with
  | [c0, c1, c2], _ =>
  have one : ∀ (j : Nat) (c : Value), [c0, c1, c2][j]? = some c → ∃ n, c = .int .i64 n := by
    intro j c hc
    obtain ⟨u, hu, hk⟩ := hall j c (by simpa using hc)
    obtain rfl : u = 3 := by
      have : u ∈ [3, 3, 3] := List.mem_of_getElem? hu
      simpa using this
    exact int_of_cellV hk
  obtain ⟨x, rfl⟩ := one 0 c0 rfl
  obtain ⟨y, rfl⟩ := one 1 c1 rfl
  obtain ⟨z, rfl⟩ := one 2 c2 rfl
  exact ⟨x, y, z, rfl⟩
end Go.Proofs.YtkiifmnmeikdlaaGreatDoor
