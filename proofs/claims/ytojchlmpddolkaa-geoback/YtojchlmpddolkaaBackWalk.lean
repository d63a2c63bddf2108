/- The walk of leveelaw03.GeoBack. -/
import Derived.Test.YtojchlmpddolkaaKnown
namespace Go.Proofs.Ytojchlmpddolkaa
open Go.RowKit
/-- The block of a slot, and its place, are those of the slot alone. -/
theorem back_math {a i n s : Int} (h : okG a i n ∧ 0 ≤ s ∧ s < n * i) :
    kindV a i n (placeB a i n s) = 3 ∧ kindG a i n (placeB a i n s) = s / i ∧ slotV a i n (placeB a i n s) (placeP a i n s) = s ∧ slotE a i n (placeB a i n s) (placeP a i n s) = 0 := by
  obtain ⟨g0, g1, g2, g3⟩ := slot_in h
  rw [← placeB_in h, ← placeP_in h]
  obtain ⟨hok, hs⟩ := h
  obtain ⟨o1, o2, o3, o4, o5, o6, o7, o8⟩ := okG_iff.1 hok
  have hse := Int.mul_ediv_add_emod s i
  rw [Int.mul_comm] at hse
  obtain ⟨e1, e2⟩ := (Int.ediv_emod_unique (a := 2 + s / i * a + 1 + s % i / 4 - 2) (b := a) (q := s / i) (r := 1 + s % i / 4) (by omega)).2 ⟨by rw [Int.mul_comm a]; omega, by omega, by omega⟩
  have hlt : s / i * a + a ≤ n * a := by
    have := Int.mul_le_mul_of_nonneg_right (show s / i + 1 ≤ n by omega) (show 0 ≤ a by omega)
    rw [Int.add_mul, Int.one_mul] at this; exact this
  have hge : 0 ≤ s / i * a := Int.mul_nonneg g0 (by omega)
  have hin : okG a i n ∧ 0 ≤ 2 + s / i * a + 1 + s % i / 4 ∧ 2 + s / i * a + 1 + s % i / 4 < 2 + n * a := ⟨hok, by omega, by omega⟩
  have k1 : kindV a i n (2 + s / i * a + 1 + s % i / 4) = 3 := by
    rw [kindV_in hin (by omega) e2, if_neg (by omega), if_pos (by omega)]
  have k2 : kindG a i n (2 + s / i * a + 1 + s % i / 4) = s / i := (kindG_in hin (by omega) e1).symm
  refine ⟨k1, k2, ?_, ?_⟩
  · rw [← slotV_in ⟨hok, k1, by omega, by omega⟩, e1, e2]; omega
  · rw [← slotE_in ⟨hok, k1, by omega, by omega⟩]
set_option maxHeartbeats 2000000 in
theorem back_walk (a i n s : Int) (w : World) :
    Calls Try.prog 5 #[.agg #[.int .i64 a, .int .i64 i, .int .i64 n], .int .i64 s] w fun e w' => e = .returned (.bool true) ∧ Below w.heap.size w w' := by
  have hb : Below w.heap.size w (w.alloc (.cells #[.int .i64 a, .int .i64 i, .int .i64 n] 23)) := (Below.refl _ _).alloc (Nat.le_refl _) _
  have L0 : Lies w w.heap.size a i n (w.alloc (.cells #[.int .i64 a, .int .i64 i, .int .i64 n] 23)) := ⟨by go_simp, by go_simp, by go_simp, hb⟩
  have KN := known_any
  have PL := place_any a i n s
  by_cases hin : okG a i n ∧ 0 ≤ s ∧ s < n * i
  · obtain ⟨m1, m2, m3, m4⟩ := back_math hin
    have ST := slot_any a i n (placeB a i n s) (placeP a i n s)
    have KD := kind_any a i n (placeB a i n s)
    have OF := of_ok hin
    rw [m3, m4] at ST
    rw [m1, m2] at KD
    rw [← placeE_in hin] at PL
    clear m1 m2 m3 m4
    go_enter Try.func5, Try.ntmps5
    go_wp2_with (first | (go_at_call 22; refine (keep3 w.heap.size a i n w ?_ (PL _)).mono ?_; (first | exact L0 | exact ⟨k0, k1, k2, kb⟩); (try clear k0 k1 k2 kb); rintro e w1 ⟨rfl, k0, k1, k2, kb⟩) | (go_at_call 24; refine (keep3 w.heap.size a i n w ?_ (ST _)).mono ?_; (first | exact L0 | exact ⟨k0, k1, k2, kb⟩); (try clear k0 k1 k2 kb); rintro e w1 ⟨rfl, k0, k1, k2, kb⟩) | (go_at_call 26; refine (keep3 w.heap.size a i n w ?_ (KD _)).mono ?_; (first | exact L0 | exact ⟨k0, k1, k2, kb⟩); (try clear k0 k1 k2 kb); rintro e w1 ⟨rfl, k0, k1, k2, kb⟩) | (go_at_call 28; refine (keep3 w.heap.size a i n w ?_ (OF _)).mono ?_; (first | exact L0 | exact ⟨k0, k1, k2, kb⟩); (try clear k0 k1 k2 kb); rintro e w1 ⟨rfl, k0, k1, k2, kb⟩) | (go_at_call 21; refine (keep3 w.heap.size a i n w ?_ (KN _)).mono ?_; (first | exact L0 | exact ⟨k0, k1, k2, kb⟩); (try clear k0 k1 k2 kb); rintro e w1 ⟨rfl, k0, k1, k2, kb⟩))
    go_ret
    exact ⟨rfl, kb⟩
  · have hE : (placeE a i n s == 0) = false := by
      rw [placeE]; split
      · rfl
      · rename_i h1
        rw [if_neg (fun c => hin ⟨Decidable.not_not.1 h1, c⟩)]; rfl
    rw [← placeB_out hin, ← placeP_out hin] at PL
    go_enter Try.func5, Try.ntmps5
    go_wp2_with (first | (go_at_call 22; refine (keep3 w.heap.size a i n w ?_ (PL _)).mono ?_; (first | exact L0 | exact ⟨k0, k1, k2, kb⟩); (try clear k0 k1 k2 kb); rintro e w1 ⟨rfl, k0, k1, k2, kb⟩) | (go_at_call 21; refine (keep3 w.heap.size a i n w ?_ (KN _)).mono ?_; (first | exact L0 | exact ⟨k0, k1, k2, kb⟩); (try clear k0 k1 k2 kb); rintro e w1 ⟨rfl, k0, k1, k2, kb⟩))
    go_ret
    exact ⟨rfl, kb⟩
end Go.Proofs.Ytojchlmpddolkaa
