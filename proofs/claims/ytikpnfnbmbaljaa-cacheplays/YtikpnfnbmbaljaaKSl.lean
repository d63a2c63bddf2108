/- Parts of slices; what turns but one block. -/
import Derived.Test.YtikpnfnbmbaljaaKRay
import Derived.Laws.Cover3
namespace Go.Proofs.Ytikpnfnbmbaljaa
open Go.RowKit
set_option maxRecDepth 100000
theorem size_of {t : TypeId} {n : Nat} (h : (Try.prog.info? t).map (fun i => i.size) = some n) (w : World) : (sizeOf t).run Try.prog w = .ok n w := by
  cases hi : Try.prog.info? t with
  | none => rw [hi] at h; cases h
  | some i => rw [hi] at h; have := Option.some.inj h; simp [sizeOf, typeInfo, hi]; exact this
theorem size5 (w : World) : (sizeOf 5).run Try.prog w = .ok 1 w := size_of (by kernel_rfl) w
section
variable {w0 W W' : World} {q p : Nat}
end
end Go.Proofs.Ytikpnfnbmbaljaa
