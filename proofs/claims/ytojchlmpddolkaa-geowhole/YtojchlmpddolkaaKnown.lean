/- leveelaw03.known. -/
import Derived.Test.YtojchlmpddolkaaSlot
namespace Go.Proofs.Ytojchlmpddolkaa
open Go.RowKit
theorem known_ok : okG 16 8 2 := by decide
set_option maxHeartbeats 2000000 in
theorem known_any (w : World) : Calls Try.prog 21 #[] w fun e w' => e = .returned (.bool true) ∧ Below w.heap.size w w' := by
  have HD := Head_any 16 8 2 1
  have PL := place_any 16 8 2 9
  have RG := range_any 16 8 2 0
  have KD := kind_any 16 8 2 18
  have RT := right_ok known_ok
  have SZ := size_ok known_ok
  have SL := slots_ok known_ok
  rw [show headV 16 8 2 1 = 18 from by decide, show headE 16 8 2 1 = 0 from by decide] at HD
  rw [show placeB 16 8 2 9 = 19 from by decide, show placeP 16 8 2 9 = 1 from by decide, show placeE 16 8 2 9 = 0 from by decide] at PL
  rw [show fromV 16 8 2 0 = 5 from by decide, show toV 16 8 2 0 = 18 from by decide] at RG
  rw [show kindV 16 8 2 18 = 2 from by decide, show kindG 16 8 2 18 = 1 from by decide] at KD
  have hb : Below w.heap.size w (w.alloc (.cells #[.int .i64 16, .int .i64 8, .int .i64 2] 23)) := (Below.refl _ _).alloc (Nat.le_refl _) _
  have L0 : Lies w w.heap.size 16 8 2 (w.alloc (.cells #[.int .i64 16, .int .i64 8, .int .i64 2] 23)) := ⟨by go_simp, by go_simp, by go_simp, hb⟩
  go_enter Try.func21, Try.ntmps21
  go_wp2_with (first | (go_at_call 7; refine (keep3 w.heap.size 16 8 2 w ?_ (HD _)).mono ?_; (first | exact L0 | exact ⟨k0, k1, k2, kb⟩); (try clear k0 k1 k2 kb); rintro e w1 ⟨rfl, k0, k1, k2, kb⟩) | (go_at_call 22; refine (keep3 w.heap.size 16 8 2 w ?_ (PL _)).mono ?_; (first | exact L0 | exact ⟨k0, k1, k2, kb⟩); (try clear k0 k1 k2 kb); rintro e w1 ⟨rfl, k0, k1, k2, kb⟩) | (go_at_call 9; refine (keep3 w.heap.size 16 8 2 w ?_ (RG _)).mono ?_; (first | exact L0 | exact ⟨k0, k1, k2, kb⟩); (try clear k0 k1 k2 kb); rintro e w1 ⟨rfl, k0, k1, k2, kb⟩) | (go_at_call 26; refine (keep3 w.heap.size 16 8 2 w ?_ (KD _)).mono ?_; (first | exact L0 | exact ⟨k0, k1, k2, kb⟩); (try clear k0 k1 k2 kb); rintro e w1 ⟨rfl, k0, k1, k2, kb⟩) | (go_at_call 13; refine (keep3 w.heap.size 16 8 2 w ?_ (RT _)).mono ?_; (first | exact L0 | exact ⟨k0, k1, k2, kb⟩); (try clear k0 k1 k2 kb); rintro e w1 ⟨rfl, k0, k1, k2, kb⟩) | (go_at_call 15; refine (keep3 w.heap.size 16 8 2 w ?_ (SZ _)).mono ?_; (first | exact L0 | exact ⟨k0, k1, k2, kb⟩); (try clear k0 k1 k2 kb); rintro e w1 ⟨rfl, k0, k1, k2, kb⟩) | (go_at_call 17; refine (keep3 w.heap.size 16 8 2 w ?_ (SL _)).mono ?_; (first | exact L0 | exact ⟨k0, k1, k2, kb⟩); (try clear k0 k1 k2 kb); rintro e w1 ⟨rfl, k0, k1, k2, kb⟩))
  go_ret
  exact ⟨rfl, kb⟩
end Go.Proofs.Ytojchlmpddolkaa
