/- Slices of calls that came in: leveelaw10.Act. -/
import Derived.Test.YtikpnfnbmbaljaaKOpens
import Derived.Deep.Slices
import Derived.Deep.Strs
namespace Go.Proofs.Ytikpnfnbmbaljaa
open Go.ChangeShapes Go.WideShapes Go.ChangeAt Go.RowKit
set_option maxRecDepth 100000
/-- A list of calls: kind, number, bytes. -/
structure Acts where
  K : Nat → Int
  N : Nat → Int
  P : Nat → Option Addr
  D : Nat → List UInt8
  C : Nat → Nat
theorem three_of {α : Type} {l : List α} (h : l.length = 3) : ∃ a b c, l = [a, b, c] := by
  match l, h with
  | [a, b, c], _ => exact ⟨a, b, c, rfl⟩
theorem act_fields : ∃ f0 f1 f2 : Field, Try.prog.underlying 41 = some (.struct #[f0, f1, f2]) ∧ (f0.type = 3 ∧ f0.offset = 0) ∧ (f1.type = 3 ∧ f1.offset = 1) ∧ (f2.type = 39 ∧ f2.offset = 2) := by
  have h : (match Try.prog.underlying 41 with | some (.struct fs) => some (fs.toList.map fun f => (f.type, f.offset)) | _ => none) = some [(3, 0), (3, 1), (39, 2)] := by kernel_rfl
  cases hu : Try.prog.underlying 41 with
  | none => rw [hu] at h; cases h
  | some d =>
    rw [hu] at h
    cases d with
    | struct fs =>
      have h' : (fs.toList.map fun f => (f.type, f.offset)) = [(3, 0), (3, 1), (39, 2)] := Option.some.inj h
      obtain ⟨f0, f1, f2, hf⟩ := three_of (l := fs.toList) (by have := congrArg List.length h'; simpa using this)
      rw [hf] at h'
      simp only [List.map_cons, List.map_nil, List.cons.injEq, Prod.mk.injEq, and_true] at h'
      refine ⟨f0, f1, f2, ?_, h'.1, h'.2.1, h'.2.2⟩
      have : fs = #[f0, f1, f2] := by cases fs; simp_all
      rw [this]
    | _ => cases h
end Go.Proofs.Ytikpnfnbmbaljaa
