/- A map from numbers to pointers. -/
import Derived.Test.YtikpnfnbmbaljaaKHeld
import Derived.Maps.OwnSet
import Derived.Maps.Views
namespace Go.Proofs.Ytikpnfnbmbaljaa
open Go.RowKit
set_option maxRecDepth 100000
/-- How a pointer reads: none as 0, the head of block q as q + 1. -/
def ptrR : Value → Option (DataW Unit × List MemPlace)
  | .pointer none => some (.lit (.int .i64 0), [])
  | .pointer (some ⟨q, 0, none⟩) => some (.lit (.int .i64 ((q : Int) + 1)), [])
  | _ => none
/-- The pointer of a code. -/
def ptrV : Nat → Value
  | 0 => .pointer none
  | q + 1 => .pointer (some ⟨q, 0, none⟩)
theorem ptrR_V (k : Nat) : ptrR (ptrV k) = some (.lit (.int .i64 (k : Int)), []) := by
  cases k <;> simp [ptrR, ptrV]
theorem ptrR_inv {v : Value} {k : Nat} {ps : List MemPlace} (h : ptrR v = some (.lit (.int .i64 (k : Int)), ps)) : v = ptrV k := by
  unfold ptrR at h
  split at h
  · have : k = 0 := by simp at h; omega
    subst this; rfl
  · rename_i q
    have : k = q + 1 := by simp at h; omega
    subst this; rfl
  · cases h
/-- Block b is a map that says f; it was written at most K times. -/
structure PMap (w : World) (b K : Nat) (f : Int → Nat) : Prop where
  own : ∃ D : DataW Unit, w.ownsMap Try.prog 72 ptrR b K D ∧ (∃ es, D = .map es) ∧ ∀ x : Int, (Lit.int .i64 x).wf = true → D.atKey (.int .i64 x) (.lit (.int .i64 0)) = .lit (.int .i64 (f x))
theorem PMap.lt {w : World} {b K : Nat} {f : Int → Nat} (h : PMap w b K f) : b < w.heap.size := by
  obtain ⟨D, h1, _⟩ := h.own
  exact h1.lt
theorem PMap.same {w w' : World} {b K : Nat} {f : Int → Nat} (h : PMap w b K f) (hb : w'.heap[b]? = w.heap[b]?) : PMap w' b K f := by
  obtain ⟨D, ⟨es, clock, h1, r1⟩, r⟩ := h.own
  exact ⟨D, ⟨es, clock, by rw [hb]; exact h1, r1⟩, r⟩
theorem PMap.made (w : World) : PMap (w.alloc (.map #[] 0)) w.heap.size 0 (fun _ => 0) :=
  ⟨.map [], World.ownsMap_made w Try.prog 72 _, ⟨[], rfl⟩, fun x _ => by simp [DataW.atKey]⟩
theorem zeroP (w : World) : (zeroValue 80).run Try.prog w = .ok (.pointer none) w := by
  have h : (Try.prog.info? 80).map (fun i => i.zero) = some (some (.pointer none)) := by kernel_rfl
  cases hi : Try.prog.info? 80 with
  | none => rw [hi] at h; cases h
  | some i =>
    rw [hi] at h
    have hz : i.zero = some (.pointer none) := Option.some.inj h
    simp [zeroValue, typeInfo, hi, hz]
theorem PMap.look {w : World} {b K : Nat} {f : Int → Nat} (h : PMap w b K f) (x : Int) (hx : (Lit.int .i64 x).wf = true) : (Instr.lookup 57 (.map (some b)) (.int .i64 x) false).run Try.prog w = .ok (ptrV (f x)) w := by
  obtain ⟨D, h1, _, h2⟩ := h.own
  obtain ⟨v, ps, hrun, hv⟩ := h1.lookup (Maps.int_keyed Try.underlying72) Try.underlying57 (zeroP w) (ptrR_V 0) (Maps.keyOf_int_mk Try.underlying72 hx)
  have hv' : ptrR v = some (.lit (.int .i64 (f x)), ps) := by rw [hv]; congr 2; exact h2 x hx
  rw [ptrR_inv hv'] at hrun
  exact hrun
def setF (f : Int → Nat) (x : Int) (k : Nat) : Int → Nat := fun y => if y = x then k else f y
theorem PMap.put {w : World} {b K : Nat} {f : Int → Nat} (h : PMap w b K f) (x : Int) (hx : (Lit.int .i64 x).wf = true) (k : Nat) (hK : K ≤ 1000000) :
    ∃ w', (Instr.mapUpdate 57 (.map (some b)) (.int .i64 x) (ptrV k)).run Try.prog w = .ok () w' ∧ PMap w' b (K + 1) (setF f x k) ∧ w.grownBy w' (some b) := by
  obtain ⟨D, h1, ⟨es, hes⟩, h2⟩ := h.own
  obtain ⟨w', hrun, hown, hgr⟩ := h1.update (Maps.int_keyed Try.underlying72) Try.underlying57 (by unfold maxLen; omega) (Maps.keyOf_int_mk Try.underlying72 hx) (ptrR_V k)
  refine ⟨w', hrun, ⟨_, hown, ?_, ?_⟩, hgr⟩
  · subst hes; exact ⟨_, rfl⟩
  · intro y hy
    subst hes
    by_cases hxy : y = x
    · subst hxy
      rw [Maps.atKey_put_same (k := .int .i64 y) ⟨es, rfl⟩ (show WideAt.IsKeyLit (Lit.int .i64 y) from trivial)]
      simp [setF]
    · rw [Maps.atKey_put_other (by simpa using hxy), h2 y hy]
      simp [setF, hxy]
theorem PMap.del {w : World} {b K : Nat} {f : Int → Nat} (h : PMap w b K f) (x : Int) (hx : (Lit.int .i64 x).wf = true) (ty : TypeId) :
    ∃ w', (Builtin.delete_ #[57, 72] ty #[.map (some b), .int .i64 x]).run Try.prog w = .ok (.tuple #[]) w' ∧ PMap w' b K (setF f x 0) ∧ w.grownBy w' (some b) := by
  obtain ⟨D, h1, ⟨es, hes⟩, h2⟩ := h.own
  obtain ⟨w', hrun, hown, hgr⟩ := h1.drop (Maps.int_keyed Try.underlying72) Try.underlying57 (Maps.keyOf_int_mk Try.underlying72 hx) ty
  refine ⟨w', hrun, ⟨_, hown, ?_, ?_⟩, hgr.grown⟩
  · subst hes; exact ⟨_, rfl⟩
  · intro y hy
    subst hes
    by_cases hxy : y = x
    · subst hxy
      rw [Maps.atKey_del_same]
      simp [setF]
    · rw [Maps.atKey_del_other (by simpa using hxy), h2 y hy]
      simp [setF, hxy]
end Go.Proofs.Ytikpnfnbmbaljaa
