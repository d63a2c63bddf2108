/- A shape as an argument. -/
import Derived.Test.YtjdfkbpadhndlaaDoorMet
import Derived.Test.YtjdfkbpadhndlaaDoorNextEven
namespace Go.Proofs.YtjdfkbpadhndlaaDoor
open Go.RowKit
theorem open_geo {W : World} {r : Reach} {b : Nat} {v : Value} (h : Value.okWide Tryd.prog W r b 23 v) : ∃ x y z : Int, v = .agg #[.int .i64 x, .int .i64 y, .int .i64 z] := by
  unfold Value.okWide at h
  rw [Tryd.underlying23] at h
  obtain ⟨cs, rfl, hsz, ts, hts, _, hall⟩ := h
  rw [cells_geo] at hts
  obtain rfl : [3, 3, 3] = ts := by simpa using hts
  rw [size_geo] at hsz
  obtain ⟨l⟩ := cs
  match l, hsz with
  | [c0, c1, c2], _ =>
  have one : ∀ (j : Nat) (c : Value), [c0, c1, c2][j]? = some c → ∃ n, c = .int .i64 n ∧ -9223372036854775808 ≤ n ∧ n ≤ 9223372036854775807 := by
    intro j c hc
    obtain ⟨u, hu, hk⟩ := hall j c (by simpa using hc)
    have hu3 : u = 2 ∨ u = 3 := by
      have : u ∈ [3, 3, 3] := List.mem_of_getElem? hu
      simp at this; exact .inr this
    exact int_of_cell hu3 hk
  obtain ⟨x, rfl, _⟩ := one 0 c0 rfl
  obtain ⟨y, rfl, _⟩ := one 1 c1 rfl
  obtain ⟨z, rfl, _⟩ := one 2 c2 rfl
  exact ⟨x, y, z, rfl⟩
end Go.Proofs.YtjdfkbpadhndlaaDoor
