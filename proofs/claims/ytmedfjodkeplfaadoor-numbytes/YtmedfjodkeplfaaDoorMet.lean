/- What the rows' condition on the package's table gives the walks, and that the program's own start meets it. -/
import Derived.Test.YtmedfjodkeplfaaDoorRows
import Derived.Test.YtmedfjodkeplfaaDoorKnown
import Derived.ProofKit
import Derived.LaidMore
import Derived.OpenShut
import Derived.Stop.Joined
import Derived.Lib.LaidTab
import Derived.Test.YtmedfjodkeplfaaDoorOps
import Derived.ChangeOld
import Derived.Below
namespace Go.Proofs.YtmedfjodkeplfaaDoor
open Go.ChangeShapes Go.WideShapes Go.ChangeAt Go.RowKit

theorem own : ownKnob Tryd.prog.godebug = none := by kernel_rfl
theorem gQ : Tryd.prog.globalNamed "levee/num.quarters" = some 0 := by kernel_rfl
theorem tQ : (Tryd.prog.globals[0]?).map (·.type) = some 48 := by kernel_rfl
theorem c29 : Tryd.prog.cellsOf 29 = 1 := by kernel_rfl
theorem c48 : Tryd.prog.cellsOf 48 = 16 := by kernel_rfl
def laidQ : List (String × DataW Unit) := [("levee/num.quarters", Rows.laid_levee_num_quarters)]

/-- The door's own heap meets the condition: three closed facts. -/
theorem door_met (os : Os) (args : Array Value) : laidMetH Tryd.prog laidQ ((World.doorLaid Tryd.prog 400 os).forCall (fun _ _ => 0) ⟨#[], args, []⟩).memory :=
  laidMetH_of_parts3 (fuel := 8) (laidMet_of_run' 8 (by kernel_rfl) (by kernel_rfl)) (by kernel_rfl) (by kernel_rfl)

theorem tab_of_laid {W : World} (h : laidMetH Tryd.prog laidQ W) : Tab W := by
  rw [MakeChecks.laidMetH_plain _ _ _ (by kernel_rfl)] at h
  have h2 : Lib.TabIs Tryd.prog W "levee/num.quarters" .u32 (tab.map fun (n : Nat) => (n : Int)) := Lib.tabIs_of_head (rest := []) gQ tQ Tryd.underlying48 Tryd.underlying29 c29 c48 h
  intro i hi
  rw [h2.cell gQ i (by simpa [tab] using hi)]
  simp [tabAt, List.getD_eq_getElem?_getD, List.getElem?_map]
  cases tab[i]? <;> simp
theorem laidOut : laidOutB Tryd.prog = true := by kernel_rfl
theorem bytes5 : Tryd.prog.bytesOf 5 = 1 := by kernel_rfl
theorem byteLit {z : Int} (h : (Lit.int .u8 z).wf = true) : ((UInt8.ofNat z.toNat).toNat : Int) = z := by
  have := bounds_u8 h
  simp; omega
/-- A slice of bytes that came in. -/
theorem open_bytes {H : Type} {enc : TypeId × Value → H} {W : World} {base : Nat} {v : Value} {d : DataW H} {p : List MemPlace}
    (hv : Value.okWide Tryd.prog W .any base 23 v) (h : DataW.Trod enc Tryd.prog W 0 (fun _ => true) true 23 v d p)
    (hsz : ∀ elems spare, d = .slice elems spare → (elems.length + spare.length) * Tryd.prog.bytesOf 5 ≤ reachBytes) :
    ∃ sp cap, ∃ l : List UInt8, v = .slice sp l.length cap ∧ Arg W sp cap l := by
  obtain ⟨a0, len0, cap0, rfl⟩ := okWide_slice Tryd.underlying23 hv
  obtain ⟨fuel, hf⟩ := h
  rcases open_ints Tryd.underlying23 Tryd.underlying5 (by kernel_rfl) hf with ⟨hcs, _⟩ | ⟨x, l, c, zs, hcs, _, hl, hm, hz, hx, hcell, hwz⟩
  · simp [Value.cells] at hcs
    obtain ⟨rfl, rfl, rfl⟩ := hcs
    exact ⟨none, 0, [], rfl, .inl ⟨rfl, rfl⟩⟩
  · simp [Value.cells] at hcs
    obtain ⟨rfl, rfl, rfl⟩ := hcs
    simp only [if_true] at hz
    simp only [Prod.mk.injEq] at hx
    have hs := hsz _ _ hx.1
    rw [bytes5] at hs
    simp only [lits, List.length_map, List.length_take, List.length_drop, reachBytes] at hs
    have hlen : ((zs.take len0).map fun z => UInt8.ofNat z.toNat).length = len0 := by simp; omega
    refine ⟨some x, cap0, (zs.take len0).map fun z => UInt8.ofNat z.toNat, by rw [hlen], ?_⟩
    by_cases hc : cap0 = 0
    · exact .inl ⟨hc, List.eq_nil_of_length_eq_zero (by rw [hlen]; omega)⟩
    · obtain ⟨b, off, rfl, hc2⟩ := ints_at hcell (by omega)
      refine .inr ⟨b, off, rfl, by omega, by rw [hlen]; exact hl, by unfold maxLen at hm; omega, by rw [hlen]; omega, .inr ⟨b, off, rfl, block_lt_of_cell (hc2 0 (by omega)), fun j hj => ?_⟩⟩
      rw [hlen] at hj
      rw [hc2 j (by omega)]
      have hjz : j < zs.length := by omega
      simp only [bv, List.getElem_map, List.getElem_take]
      rw [byteLit (hwz _ (List.getElem_mem hjz))]
      simp [hjz]
end Go.Proofs.YtmedfjodkeplfaaDoor
