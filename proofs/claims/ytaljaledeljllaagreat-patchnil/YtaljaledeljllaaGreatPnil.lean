/- The walk of leveelaw11.PatchNil. -/
import Derived.Test.YtaljaledeljllaaGreatPkn
namespace Go.Proofs.YtaljaledeljllaaGreat
open Go.RowKit
set_option maxRecDepth 100000
theorem nnew (w : World) : Calls Tryz.prog 51 #[.pointer none, .int .i64 4] w fun r w' => r = .returned (.tuple #[.pointer none, .int .i64 2]) ∧ w' = w := by
  go_enter Tryz.func51, Tryz.ntmps51
  go_wp2
  go_ret2
  exact ⟨rfl, rfl⟩
theorem nopen (w : World) : Calls Tryz.prog 11 #[.pointer none, .int .i64 4] w fun r w' => r = .returned (.tuple #[.pointer none, .int .i64 2]) ∧ w' = w := by
  have RC := nnew
  go_enter Tryz.func11, Tryz.ntmps11
  go_wp2_with (first | (go_at_call 51; refine (RC _).mono ?_; rintro r w1 ⟨rfl, rfl⟩))
  go_ret2
  exact ⟨rfl, rfl⟩
theorem nreach (b : Int) (w : World) : Calls Tryz.prog 72 #[.pointer none, .int .i64 b] w fun r w' => r = .returned (.int .i64 2) ∧ w' = w := by
  go_enter Tryz.func72, Tryz.ntmps72
  go_wp2_with fail
  go_ret
  exact ⟨rfl, rfl⟩
theorem nread (b : Int) (w : World) : Calls Tryz.prog 34 #[.pointer none, .int .i64 b] w fun r w' => r = .returned (.tuple #[.slice none 0 0, .int .i64 2]) ∧ w' = w := by
  go_enter Tryz.func34, Tryz.ntmps34
  go_wp2
  go_ret2
  exact ⟨rfl, rfl⟩
theorem npatch (b : Int) (v v2 : Value) (w : World) : Calls Tryz.prog 28 #[.pointer none, .int .i64 b, .int .i64 0, v, v2] w fun r w' => r = .returned (.tuple #[.int .i64 0, .int .i64 2]) ∧ w' = w := by
  have RC := nreach b
  go_enter Tryz.func28, Tryz.ntmps28
  go_wp2_with (first | (go_at_call 72; refine (RC _).mono ?_; rintro r w1 ⟨rfl, rfl⟩))
  go_ret2
  exact ⟨rfl, rfl⟩
theorem nimage (b : Int) (w : World) : Calls Tryz.prog 35 #[.pointer none, .int .i64 b] w fun r w' => r = .returned (.tuple #[.slice none 0 0, .int .i64 2]) ∧ w' = w := by
  have RC := nread b
  go_enter Tryz.func35, Tryz.ntmps35
  go_wp2_with (first | (go_at_call 34; refine (RC _).mono ?_; rintro r w1 ⟨rfl, rfl⟩))
  go_ret2
  exact ⟨rfl, rfl⟩
theorem nblock (w : World) : Calls Tryz.prog 36 #[.pointer none, .int .i64 1] w fun r w' => r = .returned (.tuple #[.int .i64 0, .int .i64 2]) ∧ w' = w := by
  go_enter Tryz.func36, Tryz.ntmps36
  go_wp2
  go_ret2
  exact ⟨rfl, rfl⟩
theorem nwrite (b : Int) (w : World) : Calls Tryz.prog 26 #[.pointer none, .int .i64 b] w fun r w' => r = .returned (.int .i64 2) ∧ w' = w := by
  have RC := nreach b
  go_enter Tryz.func26, Tryz.ntmps26
  go_wp2_with (first | (go_at_call 72; refine (RC _).mono ?_; rintro r w1 ⟨rfl, rfl⟩))
  go_ret
  exact ⟨rfl, rfl⟩
theorem nflush (w : World) : Calls Tryz.prog 27 #[.pointer none] w fun r w' => r = .returned (.int .i64 2) ∧ w' = w := by
  go_enter Tryz.func27, Tryz.ntmps27
  go_wp2
  go_ret
  exact ⟨rfl, rfl⟩
theorem nsafe (w : World) : Calls Tryz.prog 29 #[.pointer none, .int .i64 1] w fun r w' => r = .returned (.bool false) ∧ w' = w := by
  go_enter Tryz.func29, Tryz.ntmps29
  go_wp2
  go_ret
  exact ⟨rfl, rfl⟩
theorem nopenN (w : World) : Calls Tryz.prog 32 #[.pointer none] w fun r w' => r = .returned (.int .i64 0) ∧ w' = w := by
  go_enter Tryz.func32, Tryz.ntmps32
  go_wp2
  go_ret
  exact ⟨rfl, rfl⟩
theorem ndirty (w : World) : Calls Tryz.prog 33 #[.pointer none] w fun r w' => r = .returned (.slice none 0 0) ∧ w' = w := by
  go_enter Tryz.func33, Tryz.ntmps33
  go_wp2
  go_ret
  exact ⟨rfl, rfl⟩
theorem nready (b : Int) (w : World) : Calls Tryz.prog 37 #[.pointer none, .int .i64 b] w fun r w' => r = .returned (.int .i64 0) ∧ w' = w := by
  have RC := nreach b
  go_enter Tryz.func37, Tryz.ntmps37
  go_wp2_with (first | (go_at_call 72; refine (RC _).mono ?_; rintro r w1 ⟨rfl, rfl⟩))
  go_ret
  exact ⟨rfl, rfl⟩
theorem nwaits (w : World) : Calls Tryz.prog 38 #[.pointer none, .int .i64 1] w fun r w' => r = .returned (.slice none 0 0) ∧ Below w.heap.size w w' := by
  have hb : Below w.heap.size w (w.alloc (.cells #[.pointer none] 30)) := (Below.refl _ _).alloc (Nat.le_refl _) _
  go_enter Tryz.func38, Tryz.ntmps38
  go_wp2
  go_ret
  exact ⟨rfl, hb⟩
theorem nlen (w : World) : Calls Tryz.prog 12 #[.pointer none] w fun r w' => r = .returned (.int .i64 0) ∧ w' = w := by
  go_enter Tryz.func12, Tryz.ntmps12
  go_wp2
  go_ret
  exact ⟨rfl, rfl⟩
set_option maxHeartbeats 4000000 in
theorem patchNil_any (b : Int) (sp : Option Addr) (cap : Nat) (l : List UInt8) (w : World) : Calls Tryz.prog 6 #[.int .i64 b, .slice sp l.length cap] w fun e w' => e = .returned (.bool true) ∧ Below w.heap.size w w' := by
  have N1 := nopen
  have N2 := nread b
  have N3 := npatch b
  have N4 := nimage b
  have N5 := nblock
  have N6 := nwrite b
  have N7 := nflush
  have N8 := nsafe
  have N9 := nopenN
  have N10 := ndirty
  have N11 := nready b
  have N12 := nwaits
  have N13 := nlen
  have KN := pknown_any
  go_enter Tryz.func6, Tryz.ntmps6
  go_wp2_with (first | (go_at_call 11; refine (N1 _).mono ?_; rintro r w1 ⟨rfl, rfl⟩) | (go_at_call 34; refine (N2 _).mono ?_; rintro r w1 ⟨rfl, rfl⟩) | (go_at_call 28; refine (N3 _ _ _).mono ?_; rintro r w1 ⟨rfl, rfl⟩) | (go_at_call 35; refine (N4 _).mono ?_; rintro r w1 ⟨rfl, rfl⟩) | (go_at_call 36; refine (N5 _).mono ?_; rintro r w1 ⟨rfl, rfl⟩) | (go_at_call 26; refine (N6 _).mono ?_; rintro r w1 ⟨rfl, rfl⟩) | (go_at_call 27; refine (N7 _).mono ?_; rintro r w1 ⟨rfl, rfl⟩) | (go_at_call 29; refine (N8 _).mono ?_; rintro r w1 ⟨rfl, rfl⟩) | (go_at_call 32; refine (N9 _).mono ?_; rintro r w1 ⟨rfl, rfl⟩) | (go_at_call 33; refine (N10 _).mono ?_; rintro r w1 ⟨rfl, rfl⟩) | (go_at_call 37; refine (N11 _).mono ?_; rintro r w1 ⟨rfl, rfl⟩) | (go_at_call 38; refine (N12 _).mono ?_; rintro r w2 ⟨rfl, hb2⟩) | (go_at_call 12; refine (N13 _).mono ?_; rintro r w3 ⟨rfl, rfl⟩) | (go_at_call 24; refine (KN _).mono ?_; rintro r w4 ⟨rfl, hb4⟩))
  go_ret
  exact ⟨rfl, hb2.trans (hb4.mono hb2.size)⟩
end Go.Proofs.YtaljaledeljllaaGreat
