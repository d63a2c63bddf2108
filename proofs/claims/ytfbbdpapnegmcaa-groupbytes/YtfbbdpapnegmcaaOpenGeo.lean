/- Opening a shape that is an argument. -/
import Derived.Test.YtfbbdpapnegmcaaActs
namespace Go.Proofs.Ytfbbdpapnegmcaa
open Go.ChangeShapes Go.WideShapes Go.ChangeAt Go.RowKit
theorem cells_geo : Try.prog.cellTypes Try.prog.depth 23 = some [3, 3, 3] := by kernel_rfl
theorem size_geo : Try.prog.cellsOf 23 = 3 := by kernel_rfl
theorem open_geo {W : World} {r : Reach} {b : Nat} {v : Value} (h : Value.okWide Try.prog W r b 23 v) : ∃ x y z : Int, v = .agg #[.int .i64 x, .int .i64 y, .int .i64 z] := by
  unfold Value.okWide at h
  rw [Try.underlying23] at h
  obtain ⟨cs, rfl, hsz, ts, hts, _, hall⟩ := h
  rw [cells_geo] at hts
  obtain rfl : [3, 3, 3] = ts := by simpa using hts
  rw [size_geo] at hsz
  obtain ⟨l⟩ := cs
  match l, hsz with
  | [c0, c1, c2], _ =>
  have one : ∀ (j : Nat) (c : Value), [c0, c1, c2][j]? = some c → ∃ n, c = .int .i64 n := by
    intro j c hc
    obtain ⟨u, hu, hk⟩ := hall j c (by simpa using hc)
    have hu3 : u = 3 := by
      have : u ∈ [3, 3, 3] := List.mem_of_getElem? hu
      simp at this; exact this
    subst hu3
    refine okWide_int (P := Try.prog) (w := W) (r := r) (base := b) Try.underlying3 ?_
    unfold Value.okWide
    rw [Try.underlying3]; exact hk
  obtain ⟨x, rfl⟩ := one 0 c0 rfl
  obtain ⟨y, rfl⟩ := one 1 c1 rfl
  obtain ⟨z, rfl⟩ := one 2 c2 rfl
  exact ⟨x, y, z, rfl⟩
end Go.Proofs.Ytfbbdpapnegmcaa
