/- The walk of leveelaw10.CacheNil. -/
import Derived.Test.YtglmbihahldfcaaCknown
namespace Go.Proofs.Ytglmbihahldfcaa
open Go.RowKit
set_option maxRecDepth 100000
theorem nnew (w : World) : Calls Try.prog 10 #[.pointer none, .int .i64 2] w fun r w' => r = .returned (.tuple #[.pointer none, .int .i64 2]) ∧ w' = w := by
  go_enter Try.func10, Try.ntmps10
  go_wp2
  go_ret2
  exact ⟨rfl, rfl⟩
theorem nreach (b : Int) (w : World) : Calls Try.prog 56 #[.pointer none, .int .i64 b] w fun r w' => r = .returned (.int .i64 2) ∧ w' = w := by
  go_enter Try.func56, Try.ntmps56
  go_wp2_with fail
  go_ret
  exact ⟨rfl, rfl⟩
theorem nfind (b : Int) (w : World) : Calls Try.prog 61 #[.pointer none, .int .i64 b] w fun r w' => r = .returned (.tuple #[.pointer none, .int .i64 2]) ∧ w' = w := by
  go_enter Try.func61, Try.ntmps61
  go_wp2_with fail
  go_ret2
  exact ⟨rfl, rfl⟩
theorem nread (b : Int) (w : World) : Calls Try.prog 25 #[.pointer none, .int .i64 b] w fun r w' => r = .returned (.tuple #[.slice none 0 0, .int .i64 2]) ∧ w' = w := by
  have RC := nreach b
  go_enter Try.func25, Try.ntmps25
  go_wp2_with (first | (go_at_call 56; refine (RC _).mono ?_; rintro r w1 ⟨rfl, rfl⟩))
  go_ret2
  exact ⟨rfl, rfl⟩
theorem nlay (b : Int) (v : Value) (w : World) : Calls Try.prog 21 #[.pointer none, .int .i64 b, v] w fun r w' => r = .returned (.int .i64 2) ∧ w' = w := by
  have RC := nreach b
  go_enter Try.func21, Try.ntmps21
  go_wp2_with (first | (go_at_call 56; refine (RC _).mono ?_; rintro r w1 ⟨rfl, rfl⟩))
  go_ret
  exact ⟨rfl, rfl⟩
theorem nwrite (b : Int) (v : Value) (w : World) : Calls Try.prog 23 #[.pointer none, .int .i64 b, v] w fun r w' => r = .returned (.int .i64 2) ∧ w' = w := by
  have RC := nreach b
  go_enter Try.func23, Try.ntmps23
  go_wp2_with (first | (go_at_call 56; refine (RC _).mono ?_; rintro r w1 ⟨rfl, rfl⟩))
  go_ret
  exact ⟨rfl, rfl⟩
theorem npin (b : Int) (w : World) : Calls Try.prog 28 #[.pointer none, .int .i64 b] w fun r w' => r = .returned (.int .i64 2) ∧ w' = w := by
  have RC := nfind b
  go_enter Try.func28, Try.ntmps28
  go_wp2_with (first | (go_at_call 61; refine (RC _).mono ?_; rintro r w1 ⟨rfl, rfl⟩))
  go_ret
  exact ⟨rfl, rfl⟩
theorem nunpin (b : Int) (w : World) : Calls Try.prog 29 #[.pointer none, .int .i64 b] w fun r w' => r = .returned (.int .i64 2) ∧ w' = w := by
  have RC := nfind b
  go_enter Try.func29, Try.ntmps29
  go_wp2_with (first | (go_at_call 61; refine (RC _).mono ?_; rintro r w1 ⟨rfl, rfl⟩))
  go_ret
  exact ⟨rfl, rfl⟩
theorem ndrop (b : Int) (w : World) : Calls Try.prog 24 #[.pointer none, .int .i64 b] w fun r w' => r = .returned (.int .i64 2) ∧ w' = w := by
  have RC := nfind b
  go_enter Try.func24, Try.ntmps24
  go_wp2_with (first | (go_at_call 61; refine (RC _).mono ?_; rintro r w1 ⟨rfl, rfl⟩))
  go_ret
  exact ⟨rfl, rfl⟩
theorem nflush (w : World) : Calls Try.prog 31 #[.pointer none] w fun r w' => r = .returned (.int .i64 2) ∧ w' = w := by
  go_enter Try.func31, Try.ntmps31
  go_wp2_with fail
  go_ret
  exact ⟨rfl, rfl⟩
theorem nheld (w : World) : Calls Try.prog 15 #[.pointer none] w fun r w' => r = .returned (.slice none 0 0) ∧ w' = w := by
  go_enter Try.func15, Try.ntmps15
  go_wp2_with fail
  go_ret
  exact ⟨rfl, rfl⟩
theorem ndirty (w : World) : Calls Try.prog 17 #[.pointer none] w fun r w' => r = .returned (.slice none 0 0) ∧ w' = w := by
  have NH := nheld
  have SN := sort_nil
  go_enter Try.func17, Try.ntmps17
  go_wp2_with (first | (go_at_call 15; refine (NH _).mono ?_; rintro r w1 ⟨rfl, rfl⟩))
  refine wp_loop_rounds 1 ?_
  rw [rounds_succ]
  go_wp2_with (first | (go_at_call 44; refine (SN _).mono ?_; rintro r w1 ⟨rfl, rfl⟩))
  go_ret
  exact ⟨rfl, rfl⟩
set_option maxHeartbeats 4000000 in
theorem cacheNil_any (b : Int) (sp : Option Addr) (cap : Nat) (l : List UInt8) (w : World) : Calls Try.prog 6 #[.int .i64 b, .slice sp l.length cap] w fun e w' => e = .returned (.bool true) ∧ Below w.heap.size w w' := by
  have N1 := nnew
  have N2 := nread b
  have N3 := nlay b
  have N4 := nwrite b
  have N5 := npin b
  have N6 := nunpin b
  have N7 := ndrop b
  have N8 := nflush
  have N9 := nheld
  have N10 := ndirty
  have KN := cknown_any
  go_enter Try.func6, Try.ntmps6
  go_wp2_with (first | (go_at_call 10; refine (N1 _).mono ?_; rintro r w1 ⟨rfl, rfl⟩) | (go_at_call 25; refine (N2 _).mono ?_; rintro r w1 ⟨rfl, rfl⟩) | (go_at_call 21; refine (N3 _ _).mono ?_; rintro r w1 ⟨rfl, rfl⟩) | (go_at_call 23; refine (N4 _ _).mono ?_; rintro r w1 ⟨rfl, rfl⟩) | (go_at_call 28; refine (N5 _).mono ?_; rintro r w1 ⟨rfl, rfl⟩) | (go_at_call 29; refine (N6 _).mono ?_; rintro r w1 ⟨rfl, rfl⟩) | (go_at_call 24; refine (N7 _).mono ?_; rintro r w1 ⟨rfl, rfl⟩) | (go_at_call 31; refine (N8 _).mono ?_; rintro r w1 ⟨rfl, rfl⟩) | (go_at_call 15; refine (N9 _).mono ?_; rintro r w1 ⟨rfl, rfl⟩) | (go_at_call 17; refine (N10 _).mono ?_; rintro r w1 ⟨rfl, rfl⟩) | (go_at_call 12; refine (KN _).mono ?_; rintro r w1 ⟨rfl, hb⟩))
  go_ret
  exact ⟨rfl, hb⟩
end Go.Proofs.Ytglmbihahldfcaa
