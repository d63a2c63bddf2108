/- Opening an entry and a string that are arguments. -/
import Derived.Test.YtabmogeicpphoaaKOpens
import Derived.Test.YtabmogeicpphoaaKOpenInoB
import Derived.Test.YtabmogeicpphoaaJ8
import Derived.ShutString
import Derived.ChangeMaps5
namespace Go.Proofs.Ytabmogeicpphoaa
open Go.ChangeShapes Go.WideShapes Go.ChangeAt Go.RowKit
theorem cells_ent : Try.prog.cellTypes Try.prog.depth 48 = some [3, 4, 9] := by kernel_rfl
theorem size_ent : Try.prog.cellsOf 48 = 3 := by kernel_rfl
theorem str_of (s : ByteArray) : ∃ l : List UInt8, s = str l ∧ l.length = s.size := ⟨s.data.toList, by cases s; rfl, Array.length_toList⟩
theorem okStr {W : World} {r : Reach} {b : Nat} {v : Value} (h : Value.okWide Try.prog W r b 9 v) : ∃ l : List UInt8, v = .string (str l) ∧ l.length ≤ 9223372036854775807 := by
  obtain ⟨s, rfl⟩ := okWide_string Try.underlying9 h
  obtain ⟨l, rfl, hl⟩ := str_of s
  refine ⟨l, rfl, ?_⟩
  simp only [Value.okWide, Try.underlying9, Cell.okWide] at h
  simp [Cell.ok, Try.underlying9] at h
  rw [hl]
  have : IntKind.i64.max = 9223372036854775807 := by decide
  omega
theorem open_ent {W : World} {r : Reach} {b : Nat} {v : Value} (h : Value.okWide Try.prog W r b 48 v) : ∃ i : Ent, v = .agg (eA i) ∧ i.nm.length ≤ 9223372036854775807 := by
  unfold Value.okWide at h
  rw [Try.underlying48] at h
  obtain ⟨cs, rfl, hsz, ts, hts, _, hall⟩ := h
  rw [cells_ent] at hts
  obtain rfl : [3, 4, 9] = ts := by simpa using hts
  rw [size_ent] at hsz
  obtain ⟨l⟩ := cs
  match l, hsz with
  | [c0, c1, c2], _ =>
  obtain ⟨u0, hu0, hk0⟩ := hall 0 c0 rfl
  obtain ⟨u1, hu1, hk1⟩ := hall 1 c1 rfl
  obtain ⟨u2, hu2, hk2⟩ := hall 2 c2 rfl
  obtain rfl : 3 = u0 := by simpa using hu0
  obtain rfl : 4 = u1 := by simpa using hu1
  obtain rfl : 9 = u2 := by simpa using hu2
  obtain ⟨x, rfl⟩ := okWide_int (P := Try.prog) (w := W) (r := r) (base := b) Try.underlying3 (by unfold Value.okWide; rw [Try.underlying3]; exact hk0)
  obtain ⟨y, rfl⟩ := okWide_bool (P := Try.prog) (w := W) (r := r) (base := b) Try.underlying4 (by unfold Value.okWide; rw [Try.underlying4]; exact hk1)
  obtain ⟨z, rfl, hz⟩ := okStr (W := W) (r := r) (b := b) (by unfold Value.okWide; rw [Try.underlying9]; exact hk2)
  exact ⟨⟨x, y, z⟩, rfl, hz⟩
end Go.Proofs.Ytabmogeicpphoaa
