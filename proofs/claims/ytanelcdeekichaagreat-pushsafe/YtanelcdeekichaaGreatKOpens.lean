/- Slices of bytes that came in. -/
import Derived.Test.YtanelcdeekichaaGreatKOps
import Derived.Test.YtanelcdeekichaaGreatChecked
import Derived.ProofKit
import Derived.OpenShut
import Derived.ChangeOld
import Derived.Below
namespace Go.Proofs.YtanelcdeekichaaGreat
open Go.ChangeShapes Go.WideShapes Go.ChangeAt Go.RowKit
set_option maxRecDepth 100000
theorem own : ownKnob Tryz.prog.godebug = none := by kernel_rfl
theorem laidOut : laidOutB Tryz.prog = true := by kernel_rfl
theorem bytes5 : Tryz.prog.bytesOf 5 = 1 := by kernel_rfl
theorem byteLit {z : Int} (h : (Lit.int .u8 z).wf = true) : ((UInt8.ofNat z.toNat).toNat : Int) = z := by
  have := bounds_u8 h
  simp; omega
theorem open_bytes {H : Type} {enc : TypeId × Value → H} {W : World} {base : Nat} {v : Value} {d : DataW H} {p : List MemPlace}
    (hv : Value.okWide Tryz.prog W .any base 36 v) (h : DataW.Trod enc Tryz.prog W 0 (fun _ => true) true 36 v d p)
    (hsz : ∀ elems spare, d = .slice elems spare → (elems.length + spare.length) * Tryz.prog.bytesOf 5 ≤ reachBytes) :
    ∃ sp cap, ∃ l : List UInt8, v = .slice sp l.length cap ∧ Arg W sp cap l := by
  obtain ⟨a0, len0, cap0, rfl⟩ := okWide_slice Tryz.underlying36 hv
  obtain ⟨fuel, hf⟩ := h
  rcases open_ints Tryz.underlying36 Tryz.underlying5 (by kernel_rfl) hf with ⟨hcs, _⟩ | ⟨x, l, c, zs, hcs, _, hl, hm, hz, hx, hcell, hwz⟩
  · simp [Value.cells] at hcs
    obtain ⟨rfl, rfl, rfl⟩ := hcs
    exact ⟨none, 0, [], rfl, .inl ⟨rfl, rfl⟩⟩
  · simp [Value.cells] at hcs
    obtain ⟨rfl, rfl, rfl⟩ := hcs
    simp only [if_true] at hz
    simp only [Prod.mk.injEq] at hx
    have hs := hsz _ _ hx.1
    rw [bytes5] at hs
    simp only [lits, List.length_map, List.length_take, List.length_drop, reachBytes] at hs
    have hlen : ((zs.take len0).map fun z => UInt8.ofNat z.toNat).length = len0 := by simp; omega
    refine ⟨some x, cap0, (zs.take len0).map fun z => UInt8.ofNat z.toNat, by rw [hlen], ?_⟩
    by_cases hc : cap0 = 0
    · exact .inl ⟨hc, List.eq_nil_of_length_eq_zero (by rw [hlen]; omega)⟩
    · obtain ⟨b, off, rfl, hc2⟩ := ints_at hcell (by omega)
      refine .inr ⟨b, off, rfl, by omega, by rw [hlen]; exact hl, by unfold maxLen at hm; omega, by rw [hlen]; omega, .inr ⟨b, off, rfl, block_lt_of_cell (hc2 0 (by omega)), fun j hj => ?_⟩⟩
      rw [hlen] at hj
      rw [hc2 j (by omega)]
      have hjz : j < zs.length := by omega
      simp only [bv, List.getElem_map, List.getElem_take]
      rw [byteLit (hwz _ (List.getElem_mem hjz))]
      simp [hjz]
end Go.Proofs.YtanelcdeekichaaGreat
