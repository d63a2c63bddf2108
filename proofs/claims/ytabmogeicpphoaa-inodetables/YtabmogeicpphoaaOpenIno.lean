/- Opening an inode that is an argument. -/
import Derived.Test.YtabmogeicpphoaaOpens
import Derived.Test.YtabmogeicpphoaaIno
namespace Go.Proofs.Ytabmogeicpphoaa
open Go.ChangeShapes Go.WideShapes Go.ChangeAt Go.RowKit
theorem cells_ino : Try.prog.cellTypes Try.prog.depth 24 = some [3, 3, 2, 2, 3, 3, 3, 3, 3, 3, 3, 3] := by kernel_rfl
theorem size_ino : Try.prog.cellsOf 24 = 12 := by kernel_rfl
theorem open_ino {W : World} {r : Reach} {b : Nat} {v : Value} (h : Value.okWide Try.prog W r b 24 v) : ∃ i : Ino, v = .agg (iA i) ∧ i.ns.length = 8 := by
  unfold Value.okWide at h
  rw [Try.underlying24] at h
  obtain ⟨cs, rfl, hsz, ts, hts, _, hall⟩ := h
  rw [cells_ino] at hts
  obtain rfl : [3, 3, 2, 2, 3, 3, 3, 3, 3, 3, 3, 3] = ts := by simpa using hts
  rw [size_ino] at hsz
  obtain ⟨l⟩ := cs
  match l, hsz with
  | [c0, c1, c2, c3, c4, c5, c6, c7, c8, c9, c10, c11], _ =>
  have one : ∀ (j : Nat) (c : Value), [c0, c1, c2, c3, c4, c5, c6, c7, c8, c9, c10, c11][j]? = some c → ∃ n, c = .int .i64 n := by
    intro j c hc
    obtain ⟨u, hu, hk⟩ := hall j c (by simpa using hc)
    have hu3 : u = 3 ∨ u = 2 := by
      have : u ∈ [3, 3, 2, 2, 3, 3, 3, 3, 3, 3, 3, 3] := List.mem_of_getElem? hu
      simp only [List.mem_cons, List.not_mem_nil, or_false] at this
      rcases this with h | h | h | h | h | h | h | h | h | h | h | h <;> first | exact .inl h | exact .inr h
    rcases hu3 with rfl | rfl
    · refine okWide_int (P := Try.prog) (w := W) (r := r) (base := b) Try.underlying3 ?_
      unfold Value.okWide
      rw [Try.underlying3]; exact hk
    · refine okWide_int (P := Try.prog) (w := W) (r := r) (base := b) Try.underlying2 ?_
      unfold Value.okWide
      rw [Try.underlying2]; exact hk
  obtain ⟨x0, rfl⟩ := one 0 c0 rfl
  obtain ⟨x1, rfl⟩ := one 1 c1 rfl
  obtain ⟨x2, rfl⟩ := one 2 c2 rfl
  obtain ⟨x3, rfl⟩ := one 3 c3 rfl
  obtain ⟨x4, rfl⟩ := one 4 c4 rfl
  obtain ⟨x5, rfl⟩ := one 5 c5 rfl
  obtain ⟨x6, rfl⟩ := one 6 c6 rfl
  obtain ⟨x7, rfl⟩ := one 7 c7 rfl
  obtain ⟨x8, rfl⟩ := one 8 c8 rfl
  obtain ⟨x9, rfl⟩ := one 9 c9 rfl
  obtain ⟨x10, rfl⟩ := one 10 c10 rfl
  obtain ⟨x11, rfl⟩ := one 11 c11 rfl
  exact ⟨⟨x0, x1, x2, x3, [x4, x5, x6, x7, x8, x9, x10, x11]⟩, rfl, rfl⟩
end Go.Proofs.Ytabmogeicpphoaa
