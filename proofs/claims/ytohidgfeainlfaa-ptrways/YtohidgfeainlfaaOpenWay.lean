/- Opening a way that is an argument. -/
import Derived.Test.YtohidgfeainlfaaOpens
namespace Go.Proofs.Ytohidgfeainlfaa
open Go.ChangeShapes Go.WideShapes Go.ChangeAt Go.RowKit
theorem cells_way : Try.prog.cellTypes Try.prog.depth 23 = some [3, 3, 3, 3] := by kernel_rfl
theorem size_way : Try.prog.cellsOf 23 = 4 := by kernel_rfl
theorem open_way {W : World} {r : Reach} {b : Nat} {v : Value} (h : Value.okWide Try.prog W r b 23 v) : ∃ x y z u : Int, v = .agg #[.int .i64 x, .int .i64 y, .int .i64 z, .int .i64 u] := by
  unfold Value.okWide at h
  rw [Try.underlying23] at h
  obtain ⟨cs, rfl, hsz, ts, hts, _, hall⟩ := h
  rw [cells_way] at hts
  obtain rfl : [3, 3, 3, 3] = ts := by simpa using hts
  rw [size_way] at hsz
  obtain ⟨l⟩ := cs
  match l, hsz with
  | [c0, c1, c2, c3], _ =>
  have one : ∀ (j : Nat) (c : Value), [c0, c1, c2, c3][j]? = some c → ∃ n, c = .int .i64 n := by
    intro j c hc
    obtain ⟨u, hu, hk⟩ := hall j c (by simpa using hc)
    obtain rfl : u = 3 := by
      have : u ∈ [3, 3, 3, 3] := List.mem_of_getElem? hu
      simpa using this
    refine okWide_int (P := Try.prog) (w := W) (r := r) (base := b) Try.underlying3 ?_
    unfold Value.okWide
    rw [Try.underlying3]; exact hk
  obtain ⟨x0, rfl⟩ := one 0 c0 rfl
  obtain ⟨x1, rfl⟩ := one 1 c1 rfl
  obtain ⟨x2, rfl⟩ := one 2 c2 rfl
  obtain ⟨x3, rfl⟩ := one 3 c3 rfl
  exact ⟨x0, x1, x2, x3, rfl⟩
end Go.Proofs.Ytohidgfeainlfaa
