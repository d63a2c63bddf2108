/- What the rows' condition on the package's table gives the walks, and that the program's own start meets it. -/
import Derived.Test.YtjdfkbpadhndlaaDoorRows
import Derived.Test.YtjdfkbpadhndlaaDoorSknown
import Derived.ProofKit
import Derived.LaidMore
import Derived.OpenShut
import Derived.Stop.Joined
import Derived.Lib.LaidTab
import Derived.Test.YtjdfkbpadhndlaaDoorOps
import Derived.ChangeOld
import Derived.Below
namespace Go.Proofs.YtjdfkbpadhndlaaDoor
open Go.ChangeShapes Go.WideShapes Go.ChangeAt Go.RowKit

theorem own : ownKnob Tryd.prog.godebug = none := by kernel_rfl
theorem gQ : Tryd.prog.globalNamed "levee/num.quarters" = some 0 := by kernel_rfl
theorem tQ : (Tryd.prog.globals[0]?).map (·.type) = some 69 := by kernel_rfl
theorem c58 : Tryd.prog.cellsOf 58 = 1 := by kernel_rfl
theorem c69 : Tryd.prog.cellsOf 69 = 16 := by kernel_rfl
def laidQ : List (String × DataW Unit) := [("levee/num.quarters", Rows.laid_levee_num_quarters)]

/-- The door's own heap meets the condition: three closed facts. -/
theorem door_met (os : Os) (args : Array Value) : laidMetH Tryd.prog laidQ ((World.doorLaid Tryd.prog 400 os).forCall (fun _ _ => 0) ⟨#[], args, []⟩).memory :=
  laidMetH_of_parts3 (fuel := 8) (laidMet_of_run' 8 (by kernel_rfl) (by kernel_rfl)) (by kernel_rfl) (by kernel_rfl)

theorem tab_of_laid {W : World} (h : laidMetH Tryd.prog laidQ W) : Tab W := by
  rw [MakeChecks.laidMetH_plain _ _ _ (by kernel_rfl)] at h
  have h2 : Lib.TabIs Tryd.prog W "levee/num.quarters" .u32 (tab.map fun (n : Nat) => (n : Int)) := Lib.tabIs_of_head (rest := []) gQ tQ Tryd.underlying69 Tryd.underlying58 c58 c69 h
  intro i hi
  rw [h2.cell gQ i (by simpa [tab] using hi)]
  simp [tabAt, List.getD_eq_getElem?_getD, List.getElem?_map]
  cases tab[i]? <;> simp
theorem laidOut : laidOutB Tryd.prog = true := by kernel_rfl
theorem bytes5 : Tryd.prog.bytesOf 5 = 1 := by kernel_rfl
theorem byteLit {z : Int} (h : (Lit.int .u8 z).wf = true) : ((UInt8.ofNat z.toNat).toNat : Int) = z := by
  have := bounds_u8 h
  simp; omega
/-- A slice of bytes that came in. -/
theorem open_bytes {H : Type} {enc : TypeId × Value → H} {W : World} {base : Nat} {v : Value} {d : DataW H} {p : List MemPlace}
    (hv : Value.okWide Tryd.prog W .any base 26 v) (h : DataW.Trod enc Tryd.prog W 0 (fun _ => true) true 26 v d p)
    (hsz : ∀ elems spare, d = .slice elems spare → (elems.length + spare.length) * Tryd.prog.bytesOf 5 ≤ reachBytes) :
    ∃ sp cap, ∃ l : List UInt8, v = .slice sp l.length cap ∧ Arg W sp cap l := by
  obtain ⟨a0, len0, cap0, rfl⟩ := okWide_slice Tryd.underlying26 hv
  obtain ⟨fuel, hf⟩ := h
  rcases open_ints Tryd.underlying26 Tryd.underlying5 (by kernel_rfl) hf with ⟨hcs, _⟩ | ⟨x, l, c, zs, hcs, _, hl, hm, hz, hx, hcell, hwz⟩
  · simp [Value.cells] at hcs
    obtain ⟨rfl, rfl, rfl⟩ := hcs
    exact ⟨none, 0, [], rfl, .inl ⟨rfl, rfl⟩⟩
  · simp [Value.cells] at hcs
    obtain ⟨rfl, rfl, rfl⟩ := hcs
    simp only [if_true] at hz
    simp only [Prod.mk.injEq] at hx
    have hs := hsz _ _ hx.1
    rw [bytes5] at hs
    simp only [lits, List.length_map, List.length_take, List.length_drop, reachBytes] at hs
    have hlen : ((zs.take len0).map fun z => UInt8.ofNat z.toNat).length = len0 := by simp; omega
    refine ⟨some x, cap0, (zs.take len0).map fun z => UInt8.ofNat z.toNat, by rw [hlen], ?_⟩
    by_cases hc : cap0 = 0
    · exact .inl ⟨hc, List.eq_nil_of_length_eq_zero (by rw [hlen]; omega)⟩
    · obtain ⟨b, off, rfl, hc2⟩ := ints_at hcell (by omega)
      refine .inr ⟨b, off, rfl, by omega, by rw [hlen]; exact hl, by unfold maxLen at hm; omega, by rw [hlen]; omega, .inr ⟨b, off, rfl, block_lt_of_cell (hc2 0 (by omega)), fun j hj => ?_⟩⟩
      rw [hlen] at hj
      rw [hc2 j (by omega)]
      have hjz : j < zs.length := by omega
      simp only [bv, List.getElem_map, List.getElem_take]
      rw [byteLit (hwz _ (List.getElem_mem hjz))]
      simp [hjz]
theorem cells_sup : Tryd.prog.cellTypes Tryd.prog.depth 25 = some [2, 3, 3, 3] := by kernel_rfl
theorem size_sup : Tryd.prog.cellsOf 25 = 4 := by kernel_rfl
theorem cells_geo : Tryd.prog.cellTypes Tryd.prog.depth 23 = some [3, 3, 3] := by kernel_rfl
theorem size_geo : Tryd.prog.cellsOf 23 = 3 := by kernel_rfl
theorem int_of_cell {W : World} {r : Reach} {b u : Nat} {v : Value} (hu : u = 2 ∨ u = 3) (h : Cell.okWide Tryd.prog W r b u v) : ∃ n, v = .int .i64 n ∧ -9223372036854775808 ≤ n ∧ n ≤ 9223372036854775807 := by
  have hU : Tryd.prog.underlying u = some (.int .i64) := by rcases hu with rfl | rfl; exact Tryd.underlying2; exact Tryd.underlying3
  obtain ⟨n, rfl⟩ := okWide_int (P := Tryd.prog) (w := W) (r := r) (base := b) hU (by unfold Value.okWide; rw [hU]; exact h)
  refine ⟨n, rfl, ?_⟩
  unfold Cell.okWide at h
  rw [hU] at h
  simp only at h
  unfold Cell.ok at h
  rw [hU] at h
  have h2 : IntKind.i64.has n := h.2
  simp [IntKind.has, IntKind.min, IntKind.max, IntKind.signed, IntKind.bits] at h2
  omega
theorem open_sup {W : World} {r : Reach} {b : Nat} {v : Value} (h : Value.okWide Tryd.prog W r b 25 v) : ∃ g x y z : Int, v = .agg #[.int .i64 g, .int .i64 x, .int .i64 y, .int .i64 z] ∧ -9223372036854775808 ≤ g ∧ g ≤ 9223372036854775807 := by
  unfold Value.okWide at h
  rw [Tryd.underlying25] at h
  obtain ⟨cs, rfl, hsz, ts, hts, _, hall⟩ := h
  rw [cells_sup] at hts
  obtain rfl : [2, 3, 3, 3] = ts := by simpa using hts
  rw [size_sup] at hsz
  obtain ⟨l⟩ := cs
  match l, hsz with
  | [c0, c1, c2, c3], _ =>
  have one : ∀ (j : Nat) (c : Value), [c0, c1, c2, c3][j]? = some c → ∃ n, c = .int .i64 n ∧ -9223372036854775808 ≤ n ∧ n ≤ 9223372036854775807 := by
    intro j c hc
    obtain ⟨u, hu, hk⟩ := hall j c (by simpa using hc)
    have hu3 : u = 2 ∨ u = 3 := by
      have : u ∈ [2, 3, 3, 3] := List.mem_of_getElem? hu
      simp at this; exact this
    exact int_of_cell hu3 hk
  obtain ⟨g, rfl, hg⟩ := one 0 c0 rfl
  obtain ⟨x, rfl, _⟩ := one 1 c1 rfl
  obtain ⟨y, rfl, _⟩ := one 2 c2 rfl
  obtain ⟨z, rfl, _⟩ := one 3 c3 rfl
  exact ⟨g, x, y, z, rfl, hg⟩
end Go.Proofs.YtjdfkbpadhndlaaDoor
