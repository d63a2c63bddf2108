/- Package geo: lead, head, Right. -/
import Derived.Test.YtabmogeicpphoaaProg
import Derived.WalkKit
namespace Go.Proofs.Ytabmogeicpphoaa
open Go.RowKit
set_option maxHeartbeats 1000000 in
theorem lead_any (a i n : Int) (w : World) (h0 : 0 ≤ i) (h1 : i ≤ 64) :
    Calls Try.prog 72 #[.agg #[.int .i64 a, .int .i64 i, .int .i64 n]] w fun e w' => e = .returned (.int .i64 (1 + i / 4)) ∧ Below w.heap.size w w' := by
  have hb : Below w.heap.size w (w.alloc (.cells #[.int .i64 a, .int .i64 i, .int .i64 n] 37)) := (Below.refl _ _).alloc (Nat.le_refl _) _
  go_enter Try.func72, Try.ntmps72
  go_wp2
  go_ret
  exact ⟨rfl, hb⟩
set_option maxHeartbeats 1000000 in
theorem head_any (a i n k : Int) (w : World) (h0 : 0 ≤ k * a) (h1 : k * a ≤ 2048) :
    Calls Try.prog 73 #[.agg #[.int .i64 a, .int .i64 i, .int .i64 n], .int .i64 k] w fun e w' => e = .returned (.int .i64 (2 + k * a)) ∧ Below w.heap.size w w' := by
  have hb : Below w.heap.size w (w.alloc (.cells #[.int .i64 a, .int .i64 i, .int .i64 n] 37)) := (Below.refl _ _).alloc (Nat.le_refl _) _
  go_enter Try.func73, Try.ntmps73
  go_wp2
  go_ret
  exact ⟨rfl, hb⟩
end Go.Proofs.Ytabmogeicpphoaa
