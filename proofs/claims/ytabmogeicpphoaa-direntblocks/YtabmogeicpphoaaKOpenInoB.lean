/- Opening an inode and a shape that are arguments, with the bounds of the numbers. -/
import Derived.Test.YtabmogeicpphoaaKOpens
import Derived.Test.YtabmogeicpphoaaKIno
namespace Go.Proofs.Ytabmogeicpphoaa
open Go.ChangeShapes Go.WideShapes Go.ChangeAt Go.RowKit
theorem cells_inoB : Try.prog.cellTypes Try.prog.depth 24 = some [3, 3, 2, 2, 3, 3, 3, 3, 3, 3, 3, 3] := by kernel_rfl
theorem size_inoB : Try.prog.cellsOf 24 = 12 := by kernel_rfl
theorem okInt {W : World} {r : Reach} {b : Nat} {v : Value} {t : TypeId} (ht : Try.prog.underlying t = some (.int .i64)) (h : Value.okWide Try.prog W r b t v) : ∃ n, v = .int .i64 n ∧ (Lit.int .i64 n).wf = true := by
  obtain ⟨n, rfl⟩ := okWide_int ht h
  simp only [Value.okWide, ht, Cell.okWide] at h
  refine ⟨n, rfl, ?_⟩
  simp [Cell.ok, IntKind.has, ht] at h
  simp only [Lit.wf, Bool.and_eq_true, decide_eq_true_eq]
  exact h
theorem open_inoB {W : World} {r : Reach} {b : Nat} {v : Value} (h : Value.okWide Try.prog W r b 24 v) : ∃ i : Ino, v = .agg (iA i) ∧ i.ns.length = 8 ∧ i.s ≤ 9223372036854775807 ∧ ∀ x ∈ i.ns, (Lit.int .i64 x).wf = true := by
  unfold Value.okWide at h
  rw [Try.underlying24] at h
  obtain ⟨cs, rfl, hsz, ts, hts, _, hall⟩ := h
  rw [cells_inoB] at hts
  obtain rfl : [3, 3, 2, 2, 3, 3, 3, 3, 3, 3, 3, 3] = ts := by simpa using hts
  rw [size_inoB] at hsz
  obtain ⟨l⟩ := cs
  match l, hsz with
  | [c0, c1, c2, c3, c4, c5, c6, c7, c8, c9, c10, c11], _ =>
  have one : ∀ (j : Nat) (c : Value), [c0, c1, c2, c3, c4, c5, c6, c7, c8, c9, c10, c11][j]? = some c → ∃ n, c = .int .i64 n ∧ (Lit.int .i64 n).wf = true := by
    intro j c hc
    obtain ⟨u, hu, hk⟩ := hall j c (by simpa using hc)
    have hu3 : u = 3 ∨ u = 2 := by
      have : u ∈ [3, 3, 2, 2, 3, 3, 3, 3, 3, 3, 3, 3] := List.mem_of_getElem? hu
      simp only [List.mem_cons, List.not_mem_nil, or_false] at this
      rcases this with h | h | h | h | h | h | h | h | h | h | h | h <;> first | exact .inl h | exact .inr h
    rcases hu3 with rfl | rfl
    · refine okInt (W := W) (r := r) (b := b) Try.underlying3 ?_
      unfold Value.okWide
      rw [Try.underlying3]; exact hk
    · refine okInt (W := W) (r := r) (b := b) Try.underlying2 ?_
      unfold Value.okWide
      rw [Try.underlying2]; exact hk
  obtain ⟨x0, rfl, y0⟩ := one 0 c0 rfl
  obtain ⟨x1, rfl, y1⟩ := one 1 c1 rfl
  obtain ⟨x2, rfl, y2⟩ := one 2 c2 rfl
  obtain ⟨x3, rfl, y3⟩ := one 3 c3 rfl
  obtain ⟨x4, rfl, y4⟩ := one 4 c4 rfl
  obtain ⟨x5, rfl, y5⟩ := one 5 c5 rfl
  obtain ⟨x6, rfl, y6⟩ := one 6 c6 rfl
  obtain ⟨x7, rfl, y7⟩ := one 7 c7 rfl
  obtain ⟨x8, rfl, y8⟩ := one 8 c8 rfl
  obtain ⟨x9, rfl, y9⟩ := one 9 c9 rfl
  obtain ⟨x10, rfl, y10⟩ := one 10 c10 rfl
  obtain ⟨x11, rfl, y11⟩ := one 11 c11 rfl
  refine ⟨⟨x0, x1, x2, x3, [x4, x5, x6, x7, x8, x9, x10, x11]⟩, rfl, rfl, (bounds_i64 y2).2, ?_⟩
  intro x hx
  simp only [List.mem_cons, List.not_mem_nil, or_false] at hx
  rcases hx with h | h | h | h | h | h | h | h <;> (subst h; assumption)
theorem cells_geo : Try.prog.cellTypes Try.prog.depth 37 = some [3, 3, 3] := by kernel_rfl
theorem size_geo : Try.prog.cellsOf 37 = 3 := by kernel_rfl
theorem open_geo {W : World} {r : Reach} {b : Nat} {v : Value} (h : Value.okWide Try.prog W r b 37 v) : ∃ x y z : Int, v = .agg #[.int .i64 x, .int .i64 y, .int .i64 z] := by
  unfold Value.okWide at h
  rw [Try.underlying37] at h
  obtain ⟨cs, rfl, hsz, ts, hts, _, hall⟩ := h
  rw [cells_geo] at hts
  obtain rfl : [3, 3, 3] = ts := by simpa using hts
  rw [size_geo] at hsz
  obtain ⟨l⟩ := cs
  match l, hsz with
  | [c0, c1, c2], _ =>
  have one : ∀ (j : Nat) (c : Value), [c0, c1, c2][j]? = some c → ∃ n, c = .int .i64 n := by
    intro j c hc
    obtain ⟨u, hu, hk⟩ := hall j c (by simpa using hc)
    have hu3 : u = 3 := by
      have : u ∈ [3, 3, 3] := List.mem_of_getElem? hu
      simp at this; exact this
    subst hu3
    refine okWide_int (P := Try.prog) (w := W) (r := r) (base := b) Try.underlying3 ?_
    unfold Value.okWide
    rw [Try.underlying3]; exact hk
  obtain ⟨x, rfl⟩ := one 0 c0 rfl
  obtain ⟨y, rfl⟩ := one 1 c1 rfl
  obtain ⟨z, rfl⟩ := one 2 c2 rfl
  exact ⟨x, y, z, rfl⟩
end Go.Proofs.Ytabmogeicpphoaa
