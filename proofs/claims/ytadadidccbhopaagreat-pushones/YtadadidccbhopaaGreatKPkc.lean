/- Three changes: which may be written, and what is laid. -/
import Derived.Test.YtadadidccbhopaaGreatJPlog9
namespace Go.Proofs.YtadadidccbhopaaGreat
open Go.RowKit
set_option maxRecDepth 100000
structure C3 (c1 c2 c3 : Ch) : Prop where
  i1 : c1.id = 1
  b1 : c1.b = 5
  f1 : c1.fr = 0
  d1 : c1.d = [97]
  w1 : c1.wr = false
  a1 : c1.ah = []
  i2 : c2.id = 2
  b2 : c2.b = 6
  w2 : c2.wr = false
  a2 : (1 : Int) ∈ c2.ah
  a2' : ∀ i ∈ c2.ah, i = 1
  i3 : c3.id = 3
  b3 : c3.b = 5
  f3 : c3.fr = 1
  d3 : c3.d = [99]
  w3 : c3.wr = false
  a3 : (2 : Int) ∈ c3.ah
  a3' : ∀ i ∈ c3.ah, i = 1 ∨ i = 2
section
variable {c1 c2 c3 : Ch}
end
theorem src_one (w : World) (x : UInt8) : Src (w.alloc (.cells #[bv x] 5 (1, 2))) (some ⟨w.heap.size, 0, none⟩) [x] := by
  refine .inr ⟨w.heap.size, 0, rfl, by show _ < (w.heap.push _).size; simp, fun j hj => ?_⟩
  have hj0 : j = 0 := by simpa using hj
  subst hj0
  have := heap_alloc_new w (.cells #[bv x] 5 (1, 2))
  exact (cell_of_row _ _ _ _ _ _ this).trans rfl
theorem srcI_one (w : World) (i : Int) : SrcI (w.alloc (.cells #[.int .i64 i] 2)) (some ⟨w.heap.size, 0, none⟩) [i] := by
  refine .inr ⟨w.heap.size, 0, rfl, by show _ < (w.heap.push _).size; simp, fun j hj => ?_⟩
  have hj0 : j = 0 := by simpa using hj
  subst hj0
  have := heap_alloc_new w (.cells #[.int .i64 i] 2)
  exact (cell_of_row _ _ _ _ _ _ this).trans rfl
section
variable {w0 w : World} {p : Nat} {s : PSt} {ops : Nat → List Int} {κ : Nat}
end
end Go.Proofs.YtadadidccbhopaaGreat
