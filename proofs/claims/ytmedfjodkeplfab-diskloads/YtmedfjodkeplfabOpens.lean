/- Slices that came in: of bytes, of numbers, of slices of bytes. -/
import Derived.Test.YtmedfjodkeplfabSafeWalk
import Derived.ProofKit
import Derived.OpenShut
import Derived.ChangeOld
import Derived.Below
import Derived.Deep.Matrix
namespace Go.Proofs.Ytmedfjodkeplfab
open Go.ChangeShapes Go.WideShapes Go.ChangeAt Go.RowKit
theorem byteLit {z : Int} (h : (Lit.int .u8 z).wf = true) : ((UInt8.ofNat z.toNat).toNat : Int) = z := by
  have := bounds_u8 h
  simp; omega
/-- The bytes of the first n numbers. -/
def bytesOf (zs : List Int) (n : Nat) : List UInt8 := (zs.take n).map fun z => UInt8.ofNat z.toNat
theorem bytesOf_length (zs : List Int) (n : Nat) (h : n ≤ zs.length) : (bytesOf zs n).length = n := by simp [bytesOf]; omega
theorem src_of_ints {W : World} {x : Addr} {zs : List Int} {n : Nat} (hn : n ≤ zs.length) (hcell : ∀ i, i < zs.length → W.cell? (x.add i) = some (.int .u8 (zs.getD i 0))) (hwz : ∀ z ∈ zs, (Lit.int .u8 z).wf = true) : Src W (some x) (bytesOf zs n) := by
  by_cases h0 : n = 0
  · subst h0; exact .inl (by simp [bytesOf])
  · obtain ⟨b, off, rfl, hc2⟩ := ints_at hcell (by omega)
    refine .inr ⟨b, off, rfl, block_lt_of_cell (hc2 0 (by omega)), fun j hj => ?_⟩
    rw [bytesOf_length zs n hn] at hj
    have hjz : j < zs.length := by omega
    rw [hc2 j hjz]
    simp only [bv, bytesOf, List.getElem_map, List.getElem_take]
    rw [byteLit (hwz _ (List.getElem_mem hjz))]
    simp [hjz]
section
variable {H : Type} {enc : TypeId × Value → H} {W : World} {base : Nat} {v : Value} {d : DataW H} {p : List MemPlace}
/-- A slice of bytes that came in. -/
theorem open_b (hv : Value.okWide Try.prog W .any base 22 v) (h : DataW.Trod enc Try.prog W 0 (fun _ => true) true 22 v d p) :
    ∃ sp cap, ∃ l : List UInt8, v = .slice sp l.length cap ∧ Src W sp l ∧ l.length ≤ cap ∧ (cap : Int) ≤ 9223372036854775807 ∧ (sp = none → cap = 0) := by
  obtain ⟨a0, len0, cap0, rfl⟩ := okWide_slice Try.underlying22 hv
  obtain ⟨fuel, hf⟩ := h
  rcases open_ints Try.underlying22 Try.underlying5 (by kernel_rfl) hf with ⟨hcs, _⟩ | ⟨x, l, c, zs, hcs, _, hl, hm, hz, hx, hcell, hwz⟩
  · simp [Value.cells] at hcs
    obtain ⟨rfl, rfl, rfl⟩ := hcs
    exact ⟨none, 0, [], rfl, .inl rfl, Nat.le_refl _, by omega, fun _ => rfl⟩
  · simp [Value.cells] at hcs
    obtain ⟨rfl, rfl, rfl⟩ := hcs
    simp only [if_true] at hz
    have hlen := bytesOf_length zs len0 (by omega)
    refine ⟨some x, cap0, bytesOf zs len0, by rw [hlen], src_of_ints (by omega) hcell hwz, by rw [hlen]; exact hl, by unfold maxLen at hm; omega, fun h => by cases h⟩
/-- A slice of numbers that came in. -/
theorem open_n (hv : Value.okWide Try.prog W .any base 39 v) (h : DataW.Trod enc Try.prog W 0 (fun _ => true) true 39 v d p) :
    ∃ sp m cap pk, v = .slice sp m cap ∧ (m ≤ cap ∧ (cap : Int) ≤ 9223372036854775807) ∧ ∀ q, W.heap.size ≤ q → PickAt W q sp m pk := by
  obtain ⟨a0, len0, cap0, rfl⟩ := okWide_slice Try.underlying39 hv
  obtain ⟨fuel, hf⟩ := h
  rcases open_ints Try.underlying39 Try.underlying3 (by kernel_rfl) hf with ⟨hcs, _⟩ | ⟨x, l, c, zs, hcs, _, hl, hm, hz, hx, hcell, hwz⟩
  · simp [Value.cells] at hcs
    obtain ⟨rfl, rfl, rfl⟩ := hcs
    exact ⟨none, 0, 0, fun _ => 0, rfl, ⟨Nat.le_refl _, by omega⟩, fun _ _ h => by omega⟩
  · simp [Value.cells] at hcs
    obtain ⟨rfl, rfl, rfl⟩ := hcs
    simp only [if_true] at hz
    refine ⟨some x, len0, cap0, fun k => zs.getD k 0, rfl, ⟨hl, by unfold maxLen at hm; omega⟩, fun q hq hpos => ?_⟩
    obtain ⟨b, off, rfl, hc2⟩ := ints_at hcell (by omega)
    have hb : b < W.heap.size := block_lt_of_cell (hc2 0 (by omega))
    exact ⟨b, off, rfl, by omega, hb, fun k hk => hc2 k (by omega)⟩
/-- A slice of slices of bytes that came in. -/
theorem open_bb (hv : Value.okWide Try.prog W .any base 38 v) (h : DataW.Trod enc Try.prog W 0 (fun _ => true) true 38 v d p) :
    ∃ sp m cap ls, v = .slice sp m cap ∧ (m ≤ cap ∧ (cap : Int) ≤ 9223372036854775807) ∧ RowsAt W sp m ls := by
  obtain ⟨a0, len0, cap0, rfl⟩ := okWide_slice Try.underlying38 hv
  obtain ⟨fuel, hf⟩ := h
  rcases Deep.open_int_rows Try.underlying38 Try.underlying22 Try.underlying5 (by kernel_rfl) (by kernel_rfl) hf with ⟨hcs, _⟩ | ⟨x, len, cap, A, L, C, Z, hcs, _, hl, hm, hx, hrow⟩
  · simp [Value.cells] at hcs
    obtain ⟨rfl, rfl, rfl⟩ := hcs
    exact ⟨none, 0, 0, fun _ => [], rfl, ⟨Nat.le_refl _, by omega⟩, fun h => by omega⟩
  · simp [Value.cells] at hcs
    obtain ⟨rfl, rfl, rfl⟩ := hcs
    refine ⟨some x, len0, cap0, fun k => bytesOf (Z k) (L k), rfl, ⟨hl, by unfold maxLen at hm; omega⟩, fun hpos => ?_⟩
    have hsp : x.spot = none := by
      have h0 := (hrow 0 (by omega)).1
      simpa [Addr.add] using World.cell?_spot h0
    obtain ⟨b, off, rfl⟩ : ∃ b off, x = ⟨b, off, none⟩ := ⟨x.block, x.off, by cases x; simp_all⟩
    refine ⟨b, off, rfl, ?_, fun k hk => ?_⟩
    · have h0 := (hrow 0 (by omega)).1
      rw [addr_add] at h0
      exact block_lt_of_cell h0
    · obtain ⟨h1, h2, h3, h4, h5, h6, h7⟩ := hrow k (by omega)
      rw [addr_add] at h1
      have hlen := bytesOf_length (Z k) (L k) (by omega)
      refine ⟨A k, C k, by rw [hlen]; exact h1, ?_, by rw [hlen]; unfold maxLen at h3; omega⟩
      cases hA : A k with
      | none => exact .inl (List.eq_nil_of_length_eq_zero (by rw [hlen]; have := h6 hA; omega))
      | some a' => exact src_of_ints (by omega) (fun i hi => (h7 a' hA).2 i (by omega)) h5
end
end Go.Proofs.Ytmedfjodkeplfab
