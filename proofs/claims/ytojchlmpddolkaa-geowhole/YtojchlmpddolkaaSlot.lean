/- Package geo and the document's answer: where a slot stands, and which slot stands there. -/
import Derived.Test.YtojchlmpddolkaaKind
import Derived.OwnWalk
namespace Go.Proofs.Ytojchlmpddolkaa
open Go.RowKit
/-- Where a slot stands. -/
def placeB (a i n s : Int) : Int := if okG a i n ∧ 0 ≤ s ∧ s < n * i then 2 + s / i * a + 1 + s % i / 4 else 0
def placeP (a i n s : Int) : Int := if okG a i n ∧ 0 ≤ s ∧ s < n * i then s % i % 4 else 0
def placeE (a i n s : Int) : Int := if ¬ okG a i n then 1 else if 0 ≤ s ∧ s < n * i then 0 else 3
theorem placeB_in {a i n s : Int} (h : okG a i n ∧ 0 ≤ s ∧ s < n * i) : 2 + s / i * a + 1 + s % i / 4 = placeB a i n s := (if_pos h).symm
theorem placeP_in {a i n s : Int} (h : okG a i n ∧ 0 ≤ s ∧ s < n * i) : s % i % 4 = placeP a i n s := (if_pos h).symm
theorem placeE_in {a i n s : Int} (h : okG a i n ∧ 0 ≤ s ∧ s < n * i) : 0 = placeE a i n s := by rw [placeE, if_neg (fun c => c h.1), if_pos h.2]
theorem placeB_out {a i n s : Int} (h : ¬ (okG a i n ∧ 0 ≤ s ∧ s < n * i)) : 0 = placeB a i n s := (if_neg h).symm
theorem placeP_out {a i n s : Int} (h : ¬ (okG a i n ∧ 0 ≤ s ∧ s < n * i)) : 0 = placeP a i n s := (if_neg h).symm
theorem placeE_out {a i n s : Int} (h0 : okG a i n) (h : ¬ (0 ≤ s ∧ s < n * i)) : 3 = placeE a i n s := by rw [placeE, if_neg (fun c => c h0), if_neg h]
theorem placeE_no {a i n s : Int} (h : ¬ okG a i n) : 1 = placeE a i n s := (if_pos h).symm
theorem of_ok {a i n s : Int} (h : okG a i n ∧ 0 ≤ s ∧ s < n * i) (w : World) : Calls Try.prog 28 #[.agg #[.int .i64 a, .int .i64 i, .int .i64 n], .int .i64 s] w fun e w' => e = .returned (.int .i64 (s / i)) ∧ Below w.heap.size w w' := by
  have := of_any a i n s w; rw [← ofV_in h.1 h.2.1 h.2.2] at this; exact this
theorem of_out {a i n s : Int} (h : ¬ (0 ≤ s ∧ s < n * i)) (w : World) : Calls Try.prog 28 #[.agg #[.int .i64 a, .int .i64 i, .int .i64 n], .int .i64 s] w fun e w' => e = .returned (.int .i64 (-1)) ∧ Below w.heap.size w w' := by
  have := of_any a i n s w; rw [← ofV_out h] at this; exact this
theorem slot_in {a i n s : Int} (h : okG a i n ∧ 0 ≤ s ∧ s < n * i) : 0 ≤ s / i ∧ s / i < n ∧ 0 ≤ s % i ∧ s % i < i := by
  have h4 : 4 ≤ i := h.1.box.2.2.1
  exact ⟨Int.ediv_nonneg h.2.1 (by omega), Int.ediv_lt_of_lt_mul (by omega) h.2.2, Int.emod_nonneg _ (by omega), Int.emod_lt_of_pos _ (by omega)⟩
set_option maxHeartbeats 1000000 in
theorem place_any (a i n s : Int) (w : World) :
    Calls Try.prog 22 #[.agg #[.int .i64 a, .int .i64 i, .int .i64 n], .int .i64 s] w fun e w' => e = .returned (.tuple #[.int .i64 (placeB a i n s), .int .i64 (placeP a i n s), .int .i64 (placeE a i n s)]) ∧ Below w.heap.size w w' := by
  have hb : Below w.heap.size w (w.alloc (.cells #[.int .i64 a, .int .i64 i, .int .i64 n] 23)) := (Below.refl _ _).alloc (Nat.le_refl _) _
  have L0 : Lies w w.heap.size a i n (w.alloc (.cells #[.int .i64 a, .int .i64 i, .int .i64 n] 23)) := ⟨by go_simp, by go_simp, by go_simp, hb⟩
  by_cases hok : okG a i n
  · have RT := right_ok hok
    have hq0 : 16 ≤ a ∧ a ≤ 128 ∧ 4 ≤ i ∧ i ≤ 64 := hok.box
    by_cases hs : 0 ≤ s ∧ s < n * i
    · have hin : okG a i n ∧ 0 ≤ s ∧ s < n * i := ⟨hok, hs⟩
      have OF := of_ok hin
      obtain ⟨g0, g1, g2, g3⟩ := slot_in hin
      have hgl := grp_le hok g0 g1
      have HD := fun W => head_any a i n (s / i) W (by omega) (by omega)
      obtain ⟨hs0, hs1⟩ := hs
      rw [← placeB_in hin, ← placeP_in hin, ← placeE_in hin]
      clear hin
      go_enter Try.func22, Try.ntmps22
      go_wp2_with (first | (go_at_call 13; refine (keep3 w.heap.size a i n w ?_ (RT _)).mono ?_; (first | exact L0 | exact ⟨k0, k1, k2, kb⟩); (try clear k0 k1 k2 kb); rintro e w1 ⟨rfl, k0, k1, k2, kb⟩) | (go_at_call 28; refine (keep3 w.heap.size a i n w ?_ (OF _)).mono ?_; (first | exact L0 | exact ⟨k0, k1, k2, kb⟩); (try clear k0 k1 k2 kb); rintro e w1 ⟨rfl, k0, k1, k2, kb⟩) | (go_at_call 30; refine (keep3 w.heap.size a i n w ?_ (HD _)).mono ?_; (first | exact L0 | exact ⟨k0, k1, k2, kb⟩); (try clear k0 k1 k2 kb); rintro e w1 ⟨rfl, k0, k1, k2, kb⟩))
      go_ret3
      exact ⟨rfl, kb⟩
    · have OF := of_out (a := a) hs
      go_enter Try.func22, Try.ntmps22
      go_wp2_with (first | (go_at_call 13; refine (keep3 w.heap.size a i n w ?_ (RT _)).mono ?_; (first | exact L0 | exact ⟨k0, k1, k2, kb⟩); (try clear k0 k1 k2 kb); rintro e w1 ⟨rfl, k0, k1, k2, kb⟩) | (go_at_call 28; refine (keep3 w.heap.size a i n w ?_ (OF _)).mono ?_; (first | exact L0 | exact ⟨k0, k1, k2, kb⟩); (try clear k0 k1 k2 kb); rintro e w1 ⟨rfl, k0, k1, k2, kb⟩))
      go_ret3
      exact ⟨ret3 (placeB_out (fun c => hs c.2)) (placeP_out (fun c => hs c.2)) (placeE_out hok hs), kb⟩
  · have RT := right_no hok
    go_enter Try.func22, Try.ntmps22
    go_wp2_with (first | (go_at_call 13; refine (keep3 w.heap.size a i n w ?_ (RT _)).mono ?_; (first | exact L0 | exact ⟨k0, k1, k2, kb⟩); (try clear k0 k1 k2 kb); rintro e w1 ⟨rfl, k0, k1, k2, kb⟩))
    go_ret3
    exact ⟨ret3 (placeB_out (fun c => hok c.1)) (placeP_out (fun c => hok c.1)) (placeE_no hok), kb⟩
set_option maxHeartbeats 1000000 in
theorem rplace_any (a i n s : Int) (w : World) :
    Calls Try.prog 23 #[.agg #[.int .i64 a, .int .i64 i, .int .i64 n], .int .i64 s] w fun e w' => e = .returned (.tuple #[.int .i64 (placeB a i n s), .int .i64 (placeP a i n s), .int .i64 (placeE a i n s)]) ∧ Below w.heap.size w w' := by
  have hb : Below w.heap.size w (w.alloc (.cells #[.int .i64 a, .int .i64 i, .int .i64 n] 23)) := (Below.refl _ _).alloc (Nat.le_refl _) _
  have L0 : Lies w w.heap.size a i n (w.alloc (.cells #[.int .i64 a, .int .i64 i, .int .i64 n] 23)) := ⟨by go_simp, by go_simp, by go_simp, hb⟩
  by_cases hok : okG a i n
  · have RT := rright_ok hok
    have SL := rslots_ok hok
    have hp2 := hok.prod2
    have hq0 : 16 ≤ a ∧ a ≤ 128 ∧ 4 ≤ i ∧ i ≤ 64 := hok.box
    by_cases hs0 : s < 0
    · go_enter Try.func23, Try.ntmps23
      go_wp2_with (first | (go_at_call 14; refine (keep3 w.heap.size a i n w ?_ (RT _)).mono ?_; (first | exact L0 | exact ⟨k0, k1, k2, kb⟩); (try clear k0 k1 k2 kb); rintro e w1 ⟨rfl, k0, k1, k2, kb⟩))
      go_ret3
      exact ⟨ret3 (placeB_out (by omega)) (placeP_out (by omega)) (placeE_out hok (by omega)), kb⟩
    by_cases hs1 : n * i ≤ s
    · go_enter Try.func23, Try.ntmps23
      go_wp2_with (first | (go_at_call 14; refine (keep3 w.heap.size a i n w ?_ (RT _)).mono ?_; (first | exact L0 | exact ⟨k0, k1, k2, kb⟩); (try clear k0 k1 k2 kb); rintro e w1 ⟨rfl, k0, k1, k2, kb⟩) | (go_at_call 18; refine (keep3 w.heap.size a i n w ?_ (SL _)).mono ?_; (first | exact L0 | exact ⟨k0, k1, k2, kb⟩); (try clear k0 k1 k2 kb); rintro e w1 ⟨rfl, k0, k1, k2, kb⟩))
      go_ret3
      exact ⟨ret3 (placeB_out (by omega)) (placeP_out (by omega)) (placeE_out hok (by omega)), kb⟩
    have hin : okG a i n ∧ 0 ≤ s ∧ s < n * i := ⟨hok, by omega, by omega⟩
    obtain ⟨g0, g1, g2, g3⟩ := slot_in hin
    have hgl := grp_le hok g0 g1
    rw [← placeB_in hin, ← placeP_in hin, ← placeE_in hin]
    clear hin
    go_enter Try.func23, Try.ntmps23
    go_wp2_with (first | (go_at_call 14; refine (keep3 w.heap.size a i n w ?_ (RT _)).mono ?_; (first | exact L0 | exact ⟨k0, k1, k2, kb⟩); (try clear k0 k1 k2 kb); rintro e w1 ⟨rfl, k0, k1, k2, kb⟩) | (go_at_call 18; refine (keep3 w.heap.size a i n w ?_ (SL _)).mono ?_; (first | exact L0 | exact ⟨k0, k1, k2, kb⟩); (try clear k0 k1 k2 kb); rintro e w1 ⟨rfl, k0, k1, k2, kb⟩))
    go_ret3
    exact ⟨rfl, kb⟩
  · have RT := rright_no hok
    go_enter Try.func23, Try.ntmps23
    go_wp2_with (first | (go_at_call 14; refine (keep3 w.heap.size a i n w ?_ (RT _)).mono ?_; (first | exact L0 | exact ⟨k0, k1, k2, kb⟩); (try clear k0 k1 k2 kb); rintro e w1 ⟨rfl, k0, k1, k2, kb⟩))
    go_ret3
    exact ⟨ret3 (placeB_out (fun c => hok c.1)) (placeP_out (fun c => hok c.1)) (placeE_no hok), kb⟩
/-- Which slot stands at a place. -/
def slotV (a i n b p : Int) : Int := if okG a i n ∧ kindV a i n b = 3 ∧ 0 ≤ p ∧ p < 4 then (b - 2) / a * i + ((b - 2) % a - 1) * 4 + p else 0
def slotE (a i n b p : Int) : Int := if ¬ okG a i n then 1 else if kindV a i n b = 3 ∧ 0 ≤ p ∧ p < 4 then 0 else 3
theorem slotV_in {a i n b p : Int} (h : okG a i n ∧ kindV a i n b = 3 ∧ 0 ≤ p ∧ p < 4) : (b - 2) / a * i + ((b - 2) % a - 1) * 4 + p = slotV a i n b p := (if_pos h).symm
theorem slotE_in {a i n b p : Int} (h : okG a i n ∧ kindV a i n b = 3 ∧ 0 ≤ p ∧ p < 4) : 0 = slotE a i n b p := by rw [slotE, if_neg (fun c => c h.1), if_pos h.2]
theorem slotV_out {a i n b p : Int} (h : ¬ (okG a i n ∧ kindV a i n b = 3 ∧ 0 ≤ p ∧ p < 4)) : 0 = slotV a i n b p := (if_neg h).symm
theorem slotE_out {a i n b p : Int} (h0 : okG a i n) (h : ¬ (kindV a i n b = 3 ∧ 0 ≤ p ∧ p < 4)) : 3 = slotE a i n b p := by rw [slotE, if_neg (fun c => c h0), if_neg h]
theorem slotE_no {a i n b p : Int} (h : ¬ okG a i n) : 1 = slotE a i n b p := (if_pos h).symm
/-- A block of a table. -/
theorem kind3 {a i n b : Int} (h : kindV a i n b = 3) : okG a i n ∧ 2 ≤ b ∧ b < 2 + n * a ∧ 1 ≤ (b - 2) % a ∧ (b - 2) % a ≤ i / 4 ∧ kindG a i n b = (b - 2) / a := by
  rw [kindV] at h
  split at h
  · rename_i h1
    split at h
    · omega
    · rename_i h2
      split at h
      · omega
      · rename_i h3
        split at h
        · rename_i h4
          have ha : 16 ≤ a := h1.1.box.1
          have := Int.emod_nonneg (b - 2) (show a ≠ 0 by omega)
          exact ⟨h1.1, by omega, h1.2.2, by omega, h4, by rw [kindG, if_pos ⟨h1.1, by omega, h1.2.2⟩]⟩
        · omega
  · omega
attribute [local go_sem] wrapI decF decT tdiv4
set_option maxHeartbeats 1000000 in
theorem slot_any (a i n b p : Int) (w : World) :
    Calls Try.prog 24 #[.agg #[.int .i64 a, .int .i64 i, .int .i64 n], .int .i64 b, .int .i64 p] w fun e w' => e = .returned (.tuple #[.int .i64 (slotV a i n b p), .int .i64 (slotE a i n b p)]) ∧ Below w.heap.size w w' := by
  have hb : Below w.heap.size w (w.alloc (.cells #[.int .i64 a, .int .i64 i, .int .i64 n] 23)) := (Below.refl _ _).alloc (Nat.le_refl _) _
  have L0 : Lies w w.heap.size a i n (w.alloc (.cells #[.int .i64 a, .int .i64 i, .int .i64 n] 23)) := ⟨by go_simp, by go_simp, by go_simp, hb⟩
  by_cases hok : okG a i n
  · have RT := right_ok hok
    have KD := kind_any a i n b
    by_cases h3 : kindV a i n b = 3
    · obtain ⟨_, hb2, hb3, hr0, hr1, hkg⟩ := kind3 h3
      rw [h3, hkg] at KD
      by_cases hp0 : p < 0
      · go_enter Try.func24, Try.ntmps24
        go_wp2_with (first | (go_at_call 13; refine (keep3 w.heap.size a i n w ?_ (RT _)).mono ?_; (first | exact L0 | exact ⟨k0, k1, k2, kb⟩); (try clear k0 k1 k2 kb); rintro e w1 ⟨rfl, k0, k1, k2, kb⟩) | (go_at_call 26; refine (keep3 w.heap.size a i n w ?_ (KD _)).mono ?_; (first | exact L0 | exact ⟨k0, k1, k2, kb⟩); (try clear k0 k1 k2 kb); rintro e w1 ⟨rfl, k0, k1, k2, kb⟩))
        go_ret2
        exact ⟨ret2 (slotV_out (by omega)) (slotE_out hok (by omega)), kb⟩
      by_cases hp1 : 3 < p
      · go_enter Try.func24, Try.ntmps24
        go_wp2_with (first | (go_at_call 13; refine (keep3 w.heap.size a i n w ?_ (RT _)).mono ?_; (first | exact L0 | exact ⟨k0, k1, k2, kb⟩); (try clear k0 k1 k2 kb); rintro e w1 ⟨rfl, k0, k1, k2, kb⟩) | (go_at_call 26; refine (keep3 w.heap.size a i n w ?_ (KD _)).mono ?_; (first | exact L0 | exact ⟨k0, k1, k2, kb⟩); (try clear k0 k1 k2 kb); rintro e w1 ⟨rfl, k0, k1, k2, kb⟩))
        go_ret2
        exact ⟨ret2 (slotV_out (by omega)) (slotE_out hok (by omega)), kb⟩
      have hin : okG a i n ∧ kindV a i n b = 3 ∧ 0 ≤ p ∧ p < 4 := ⟨hok, h3, by omega, by omega⟩
      rw [← slotV_in hin, ← slotE_in hin]
      have hq0 : 16 ≤ a ∧ a ≤ 128 ∧ 4 ≤ i ∧ i ≤ 64 := hok.box
      obtain ⟨q, r, hq, hr, hqr, hr2, hr3, hq1, hq2⟩ := parts (a := a) (n := n) (x := b - 2) hq0.1 (by omega) (by omega)
      have hgl := grp_le hok hq1 hq2
      have hp2 := hok.prod2
      have hqi : 0 ≤ q * i ∧ q * i ≤ 1024 := ⟨Int.mul_nonneg hq1 (by omega), by have := Int.mul_le_mul_of_nonneg_right (show q ≤ n by omega) (show 0 ≤ i by omega); omega⟩
      clear hin h3 hkg
      subst hr
      subst hq
      have hs : b - (2 + (b - 2) / a * a) = (b - 2) % a := by omega
      have HD := fun W => head_any a i n ((b - 2) / a) W (by omega) (by omega)
      have e1 : In64 ((b - 2) / a * i) := ⟨by omega⟩
      have e2 : In64 (b - (2 + (b - 2) / a * a)) := ⟨by omega⟩
      have e3 : In64 (b - (2 + (b - 2) / a * a) - 1) := ⟨by omega⟩
      have e4 : In64 ((b - (2 + (b - 2) / a * a) - 1) * 4) := ⟨by omega⟩
      have e5 : In64 ((b - 2) / a * i + (b - (2 + (b - 2) / a * a) - 1) * 4) := ⟨by omega⟩
      have e6 : In64 ((b - 2) / a * i + (b - (2 + (b - 2) / a * a) - 1) * 4 + p) := ⟨by omega⟩
      have f2 : In64 ((b - 2) % a) := ⟨by omega⟩
      have f3 : In64 ((b - 2) % a - 1) := ⟨by omega⟩
      have f4 : In64 (((b - 2) % a - 1) * 4) := ⟨by omega⟩
      have f5 : In64 ((b - 2) / a * i + ((b - 2) % a - 1) * 4) := ⟨by omega⟩
      have f6 : In64 ((b - 2) / a * i + ((b - 2) % a - 1) * 4 + p) := ⟨by omega⟩
      go_enter Try.func24, Try.ntmps24
      go_wp2_with (first | (go_at_call 13; refine (keep3 w.heap.size a i n w ?_ (RT _)).mono ?_; (first | exact L0 | exact ⟨k0, k1, k2, kb⟩); (try clear k0 k1 k2 kb); rintro e w1 ⟨rfl, k0, k1, k2, kb⟩) | (go_at_call 26; refine (keep3 w.heap.size a i n w ?_ (KD _)).mono ?_; (first | exact L0 | exact ⟨k0, k1, k2, kb⟩); (try clear k0 k1 k2 kb); rintro e w1 ⟨rfl, k0, k1, k2, kb⟩))
      have hbd : Lies w w.heap.size a i n w1.drew := ⟨by go_simp, by go_simp, by go_simp, kb.drew⟩
      refine wp_region_held_drew (S := (fun w' => Lies w w.heap.size a i n w')) (by kernel_rfl) hbd (fun hH => ?_)
      refine takeH (i := 0) (dst := some 29) (v := ?v1) rfl rfl (by kernel_rfl) (by kernel_rfl) (by kernel_rfl) (fun _ _ _ h => h) rfl ?hy1 hH rfl ?rest1
      case hy1 => (intro W hW; obtain ⟨hW0, hW1, hW2, _⟩ := hW; go_simp; try with_reducible rfl)
      (try simp only [Act.put, List.setIfInBounds_toArray, List.set_cons_zero, List.set_cons_succ])
      refine takeH (i := 1) (dst := some 30) (v := ?v2) rfl rfl (by kernel_rfl) (by kernel_rfl) (by kernel_rfl) (fun _ _ _ h => h) rfl ?hy2 hH rfl ?rest2
      case hy2 => (intro W hW; obtain ⟨hW0, hW1, hW2, _⟩ := hW; go_simp; try with_reducible rfl)
      (try simp only [Act.put, List.setIfInBounds_toArray, List.set_cons_zero, List.set_cons_succ])
      refine takeH (i := 2) (dst := some 31) (v := ?v3) rfl rfl (by kernel_rfl) (by kernel_rfl) (by kernel_rfl) (fun _ _ _ h => h) rfl ?hy3 hH rfl ?rest3
      case hy3 => (intro W hW; obtain ⟨hW0, hW1, hW2, _⟩ := hW; go_simp; try with_reducible rfl)
      (try simp only [Act.put, List.setIfInBounds_toArray, List.set_cons_zero, List.set_cons_succ])
      refine takeH (i := 3) (dst := some 32) (v := ?v4) rfl rfl (by kernel_rfl) (by kernel_rfl) (by kernel_rfl) (fun _ _ _ h => h) rfl ?hy4 hH rfl ?rest4
      case hy4 => (intro W hW; obtain ⟨hW0, hW1, hW2, _⟩ := hW; go_simp; try with_reducible rfl)
      (try simp only [Act.put, List.setIfInBounds_toArray, List.set_cons_zero, List.set_cons_succ])
      refine takeH (i := 4) (dst := some 33) (v := ?v5) rfl rfl (by kernel_rfl) (by kernel_rfl) (by kernel_rfl) (fun _ _ _ h => h) rfl ?hy5 hH rfl ?rest5
      case hy5 => (intro W hW; obtain ⟨hW0, hW1, hW2, _⟩ := hW; go_simp; try with_reducible rfl)
      (try simp only [Act.put, List.setIfInBounds_toArray, List.set_cons_zero, List.set_cons_succ])
      refine takeH (i := 5) (dst := some 34) (v := ?v6) rfl rfl (by kernel_rfl) (by kernel_rfl) (by kernel_rfl) (fun _ _ _ h => h) rfl ?hy6 hH rfl ?rest6
      case hy6 => (intro W hW; obtain ⟨hW0, hW1, hW2, _⟩ := hW; go_simp; try with_reducible rfl)
      (try simp only [Act.put, List.setIfInBounds_toArray, List.set_cons_zero, List.set_cons_succ])
      refine takeH (i := 6) (dst := some 35) (v := ?v7) rfl rfl (by kernel_rfl) (by kernel_rfl) (by kernel_rfl) (fun _ _ _ h => h) rfl ?hy7 hH rfl ?rest7
      case hy7 => (intro W hW; obtain ⟨hW0, hW1, hW2, _⟩ := hW; go_simp; try with_reducible rfl)
      (try simp only [Act.put, List.setIfInBounds_toArray, List.set_cons_zero, List.set_cons_succ])
      refine takeH (i := 12) (dst := some 41) (v := ?v8) rfl rfl (by kernel_rfl) (by kernel_rfl) (by kernel_rfl) (fun _ _ _ h => h) rfl ?hy8 hH rfl ?rest8
      case hy8 => (intro W hW; obtain ⟨hW0, hW1, hW2, _⟩ := hW; go_simp; try with_reducible rfl)
      (try simp only [Act.put, List.setIfInBounds_toArray, List.set_cons_zero, List.set_cons_succ])
      refine callH (i := 7) { dst := some 36, op := Go.Op.call { callee := Go.Callee.value (Go.Operand.func 30), args := #[Go.Operand.tmp 34, Go.Operand.tmp 35], argTypes := #[23, 3] }, type := 3, pos := "geo.go:99", after := #[{ on := 5, ground := Go.Ground.data }, { on := 6, ground := Go.Ground.data }], guard := none } (by kernel_rfl) rfl rfl (fun K hK => ?_)
      go_simp
      refine (keep3 w.heap.size a i n w hH (HD _)).mono ?_
      rintro e w2 ⟨rfl, k⟩
      clear hH
      refine hK.out _ _ k (fun hH => ?_)
      clear hK K
      (try simp only [Act.put, List.setIfInBounds_toArray, List.set_cons_zero, List.set_cons_succ])
      refine takeH (i := 8) (dst := some 37) (v := ?v9) rfl rfl (by kernel_rfl) (by kernel_rfl) (by kernel_rfl) (fun _ _ _ h => h) rfl ?hy9 hH rfl ?rest9
      case hy9 => (intro W hW; obtain ⟨hW0, hW1, hW2, _⟩ := hW; go_simp; try with_reducible rfl)
      (try simp only [Act.put, List.setIfInBounds_toArray, List.set_cons_zero, List.set_cons_succ])
      refine takeH (i := 9) (dst := some 38) (v := ?v10) rfl rfl (by kernel_rfl) (by kernel_rfl) (by kernel_rfl) (fun _ _ _ h => h) rfl ?hy10 hH rfl ?rest10
      case hy10 => (intro W hW; obtain ⟨hW0, hW1, hW2, _⟩ := hW; go_simp; try with_reducible rfl)
      (try simp only [Act.put, List.setIfInBounds_toArray, List.set_cons_zero, List.set_cons_succ])
      refine takeH (i := 10) (dst := some 39) (v := ?v11) rfl rfl (by kernel_rfl) (by kernel_rfl) (by kernel_rfl) (fun _ _ _ h => h) rfl ?hy11 hH rfl ?rest11
      case hy11 => (intro W hW; obtain ⟨hW0, hW1, hW2, _⟩ := hW; go_simp; try with_reducible rfl)
      (try simp only [Act.put, List.setIfInBounds_toArray, List.set_cons_zero, List.set_cons_succ])
      refine takeH (i := 11) (dst := some 40) (v := ?v12) rfl rfl (by kernel_rfl) (by kernel_rfl) (by kernel_rfl) (fun _ _ _ h => h) rfl ?hy12 hH rfl ?rest12
      case hy12 => (intro W hW; obtain ⟨hW0, hW1, hW2, _⟩ := hW; go_simp; try with_reducible rfl)
      (try simp only [Act.put, List.setIfInBounds_toArray, List.set_cons_zero, List.set_cons_succ])
      refine takeH (i := 13) (dst := some 42) (v := ?v13) rfl rfl (by kernel_rfl) (by kernel_rfl) (by kernel_rfl) (fun _ _ _ h => h) rfl ?hy13 hH rfl ?rest13
      case hy13 => (intro W hW; obtain ⟨hW0, hW1, hW2, _⟩ := hW; go_simp; try with_reducible rfl)
      (try simp only [Act.put, List.setIfInBounds_toArray, List.set_cons_zero, List.set_cons_succ])
      refine takeH (i := 14) (dst := some 6) (v := ?v14) rfl rfl (by kernel_rfl) (by kernel_rfl) (by kernel_rfl) (fun _ _ _ h => h) rfl ?hy14 hH rfl ?rest14
      case hy14 => (intro W hW; obtain ⟨hW0, hW1, hW2, _⟩ := hW; go_simp; try with_reducible rfl)
      (try simp only [Act.put, List.setIfInBounds_toArray, List.set_cons_zero, List.set_cons_succ])
      refine takeH (i := 15) (dst := some 7) (v := ?v15) rfl rfl (by kernel_rfl) (by kernel_rfl) (by kernel_rfl) (fun _ _ _ h => h) rfl ?hy15 hH rfl ?rest15
      case hy15 => (intro W hW; obtain ⟨hW0, hW1, hW2, _⟩ := hW; go_simp; try with_reducible rfl)
      (try simp only [Act.put, List.setIfInBounds_toArray, List.set_cons_zero, List.set_cons_succ])
      refine wpAnyH_done (by kernel_rfl) ?_ _
      clear hH
      go_wp2
      go_ret2
      exact ⟨ret2 (by first | rfl | omega) rfl, k.2.2.2⟩
    · have h3' : (kindV a i n b == 3) = false := beq_eq_false_iff_ne.2 h3
      go_enter Try.func24, Try.ntmps24
      go_wp2_with (first | (go_at_call 13; refine (keep3 w.heap.size a i n w ?_ (RT _)).mono ?_; (first | exact L0 | exact ⟨k0, k1, k2, kb⟩); (try clear k0 k1 k2 kb); rintro e w1 ⟨rfl, k0, k1, k2, kb⟩) | (go_at_call 26; refine (keep3 w.heap.size a i n w ?_ (KD _)).mono ?_; (first | exact L0 | exact ⟨k0, k1, k2, kb⟩); (try clear k0 k1 k2 kb); rintro e w1 ⟨rfl, k0, k1, k2, kb⟩))
      go_ret2
      exact ⟨ret2 (slotV_out (fun c => h3 c.2.1)) (slotE_out hok (fun c => h3 c.1)), kb⟩
  · have RT := right_no hok
    go_enter Try.func24, Try.ntmps24
    go_wp2_with (first | (go_at_call 13; refine (keep3 w.heap.size a i n w ?_ (RT _)).mono ?_; (first | exact L0 | exact ⟨k0, k1, k2, kb⟩); (try clear k0 k1 k2 kb); rintro e w1 ⟨rfl, k0, k1, k2, kb⟩))
    go_ret2
    exact ⟨ret2 (slotV_out (fun c => hok c.1)) (slotE_no hok), kb⟩
set_option maxHeartbeats 1000000 in
theorem rslot_any (a i n b p : Int) (w : World) :
    Calls Try.prog 25 #[.agg #[.int .i64 a, .int .i64 i, .int .i64 n], .int .i64 b, .int .i64 p] w fun e w' => e = .returned (.tuple #[.int .i64 (slotV a i n b p), .int .i64 (slotE a i n b p)]) ∧ Below w.heap.size w w' := by
  have hb : Below w.heap.size w (w.alloc (.cells #[.int .i64 a, .int .i64 i, .int .i64 n] 23)) := (Below.refl _ _).alloc (Nat.le_refl _) _
  have L0 : Lies w w.heap.size a i n (w.alloc (.cells #[.int .i64 a, .int .i64 i, .int .i64 n] 23)) := ⟨by go_simp, by go_simp, by go_simp, hb⟩
  by_cases hok : okG a i n
  · have RT := rright_ok hok
    have KD := rkind_any a i n b
    by_cases h3 : kindV a i n b = 3
    · obtain ⟨_, hb2, hb3, hr0, hr1, hkg⟩ := kind3 h3
      rw [h3, hkg] at KD
      by_cases hp0 : p < 0
      · go_enter Try.func25, Try.ntmps25
        go_wp2_with (first | (go_at_call 14; refine (keep3 w.heap.size a i n w ?_ (RT _)).mono ?_; (first | exact L0 | exact ⟨k0, k1, k2, kb⟩); (try clear k0 k1 k2 kb); rintro e w1 ⟨rfl, k0, k1, k2, kb⟩) | (go_at_call 27; refine (keep3 w.heap.size a i n w ?_ (KD _)).mono ?_; (first | exact L0 | exact ⟨k0, k1, k2, kb⟩); (try clear k0 k1 k2 kb); rintro e w1 ⟨rfl, k0, k1, k2, kb⟩))
        go_ret2
        exact ⟨ret2 (slotV_out (by omega)) (slotE_out hok (by omega)), kb⟩
      by_cases hp1 : 3 < p
      · go_enter Try.func25, Try.ntmps25
        go_wp2_with (first | (go_at_call 14; refine (keep3 w.heap.size a i n w ?_ (RT _)).mono ?_; (first | exact L0 | exact ⟨k0, k1, k2, kb⟩); (try clear k0 k1 k2 kb); rintro e w1 ⟨rfl, k0, k1, k2, kb⟩) | (go_at_call 27; refine (keep3 w.heap.size a i n w ?_ (KD _)).mono ?_; (first | exact L0 | exact ⟨k0, k1, k2, kb⟩); (try clear k0 k1 k2 kb); rintro e w1 ⟨rfl, k0, k1, k2, kb⟩))
        go_ret2
        exact ⟨ret2 (slotV_out (by omega)) (slotE_out hok (by omega)), kb⟩
      have hin : okG a i n ∧ kindV a i n b = 3 ∧ 0 ≤ p ∧ p < 4 := ⟨hok, h3, by omega, by omega⟩
      rw [← slotV_in hin, ← slotE_in hin]
      have hq0 : 16 ≤ a ∧ a ≤ 128 ∧ 4 ≤ i ∧ i ≤ 64 := hok.box
      obtain ⟨q, r, hq, hr, hqr, hr2, hr3, hq1, hq2⟩ := parts (a := a) (n := n) (x := b - 2) hq0.1 (by omega) (by omega)
      have hgl := grp_le hok hq1 hq2
      have hp2 := hok.prod2
      have hqi : 0 ≤ q * i ∧ q * i ≤ 1024 := ⟨Int.mul_nonneg hq1 (by omega), by have := Int.mul_le_mul_of_nonneg_right (show q ≤ n by omega) (show 0 ≤ i by omega); omega⟩
      clear hin h3 hkg
      subst hr
      subst hq
      have e0 : In64 (b - 2) := ⟨by omega⟩
      have e1 : In64 ((b - 2) / a * i) := ⟨by omega⟩
      have e2 : In64 ((b - 2) % a) := ⟨by omega⟩
      have e3 : In64 ((b - 2) % a - 1) := ⟨by omega⟩
      have e4 : In64 (((b - 2) % a - 1) * 4) := ⟨by omega⟩
      have e5 : In64 ((b - 2) / a * i + ((b - 2) % a - 1) * 4) := ⟨by omega⟩
      have e6 : In64 ((b - 2) / a * i + ((b - 2) % a - 1) * 4 + p) := ⟨by omega⟩
      have e7 : (b - 2).tmod a = (b - 2) % a := Int.tmod_eq_emod_of_nonneg (by omega)
      have e8 : (a == 0) = false := beq_eq_false_iff_ne.2 (by omega)
      have e9 : a ≠ 0 := by omega
      go_enter Try.func25, Try.ntmps25
      go_wp2_with (first | (go_at_call 14; refine (keep3 w.heap.size a i n w ?_ (RT _)).mono ?_; (first | exact L0 | exact ⟨k0, k1, k2, kb⟩); (try clear k0 k1 k2 kb); rintro e w1 ⟨rfl, k0, k1, k2, kb⟩) | (go_at_call 27; refine (keep3 w.heap.size a i n w ?_ (KD _)).mono ?_; (first | exact L0 | exact ⟨k0, k1, k2, kb⟩); (try clear k0 k1 k2 kb); rintro e w1 ⟨rfl, k0, k1, k2, kb⟩))
      have hbd : Lies w w.heap.size a i n w1.drew := ⟨by go_simp, by go_simp, by go_simp, kb.drew⟩
      refine wp_region_held_drew (S := (fun w' => Lies w w.heap.size a i n w')) (by kernel_rfl) hbd (fun hH => ?_)
      refine takeH (i := 0) (dst := some 29) (v := ?v16) rfl rfl (by kernel_rfl) (by kernel_rfl) (by kernel_rfl) (fun _ _ _ h => h) rfl ?hy16 hH rfl ?rest16
      case hy16 => (intro W hW; obtain ⟨hW0, hW1, hW2, _⟩ := hW; go_simp; try with_reducible rfl)
      (try simp only [Act.put, List.setIfInBounds_toArray, List.set_cons_zero, List.set_cons_succ])
      refine takeH (i := 1) (dst := some 30) (v := ?v17) rfl rfl (by kernel_rfl) (by kernel_rfl) (by kernel_rfl) (fun _ _ _ h => h) rfl ?hy17 hH rfl ?rest17
      case hy17 => (intro W hW; obtain ⟨hW0, hW1, hW2, _⟩ := hW; go_simp; try with_reducible rfl)
      (try simp only [Act.put, List.setIfInBounds_toArray, List.set_cons_zero, List.set_cons_succ])
      refine takeH (i := 2) (dst := some 31) (v := ?v18) rfl rfl (by kernel_rfl) (by kernel_rfl) (by kernel_rfl) (fun _ _ _ h => h) rfl ?hy18 hH rfl ?rest18
      case hy18 => (intro W hW; obtain ⟨hW0, hW1, hW2, _⟩ := hW; go_simp; try with_reducible rfl)
      (try simp only [Act.put, List.setIfInBounds_toArray, List.set_cons_zero, List.set_cons_succ])
      refine takeH (i := 3) (dst := some 32) (v := ?v19) rfl rfl (by kernel_rfl) (by kernel_rfl) (by kernel_rfl) (fun _ _ _ h => h) rfl ?hy19 hH rfl ?rest19
      case hy19 => (intro W hW; obtain ⟨hW0, hW1, hW2, _⟩ := hW; go_simp; try with_reducible rfl)
      (try simp only [Act.put, List.setIfInBounds_toArray, List.set_cons_zero, List.set_cons_succ])
      refine takeH (i := 4) (dst := some 33) (v := ?v20) rfl rfl (by kernel_rfl) (by kernel_rfl) (by kernel_rfl) (fun _ _ _ h => h) rfl ?hy20 hH rfl ?rest20
      case hy20 => (intro W hW; obtain ⟨hW0, hW1, hW2, _⟩ := hW; go_simp; try with_reducible rfl)
      (try simp only [Act.put, List.setIfInBounds_toArray, List.set_cons_zero, List.set_cons_succ])
      refine takeH (i := 5) (dst := some 34) (v := ?v21) rfl rfl (by kernel_rfl) (by kernel_rfl) (by kernel_rfl) (fun _ _ _ h => h) rfl ?hy21 hH rfl ?rest21
      case hy21 => (intro W hW; obtain ⟨hW0, hW1, hW2, _⟩ := hW; go_simp; try with_reducible rfl)
      (try simp only [Act.put, List.setIfInBounds_toArray, List.set_cons_zero, List.set_cons_succ])
      refine takeH (i := 6) (dst := some 35) (v := ?v22) rfl rfl (by kernel_rfl) (by kernel_rfl) (by kernel_rfl) (fun _ _ _ h => h) rfl ?hy22 hH rfl ?rest22
      case hy22 => (intro W hW; obtain ⟨hW0, hW1, hW2, _⟩ := hW; go_simp; try with_reducible rfl)
      (try simp only [Act.put, List.setIfInBounds_toArray, List.set_cons_zero, List.set_cons_succ])
      refine takeH (i := 7) (dst := some 36) (v := ?v23) rfl rfl (by kernel_rfl) (by kernel_rfl) (by kernel_rfl) (fun _ _ _ h => h) rfl ?hy23 hH rfl ?rest23
      case hy23 => (intro W hW; obtain ⟨hW0, hW1, hW2, _⟩ := hW; go_simp; try with_reducible rfl)
      (try simp only [Act.put, List.setIfInBounds_toArray, List.set_cons_zero, List.set_cons_succ])
      refine takeH (i := 8) (dst := some 37) (v := ?v24) rfl rfl (by kernel_rfl) (by kernel_rfl) (by kernel_rfl) (fun _ _ _ h => h) rfl ?hy24 hH rfl ?rest24
      case hy24 => (intro W hW; obtain ⟨hW0, hW1, hW2, _⟩ := hW; go_simp; try with_reducible rfl)
      (try simp only [Act.put, List.setIfInBounds_toArray, List.set_cons_zero, List.set_cons_succ])
      refine takeH (i := 9) (dst := some 38) (v := ?v25) rfl rfl (by kernel_rfl) (by kernel_rfl) (by kernel_rfl) (fun _ _ _ h => h) rfl ?hy25 hH rfl ?rest25
      case hy25 => (intro W hW; obtain ⟨hW0, hW1, hW2, _⟩ := hW; go_simp; try with_reducible rfl)
      (try simp only [Act.put, List.setIfInBounds_toArray, List.set_cons_zero, List.set_cons_succ])
      refine takeH (i := 10) (dst := some 39) (v := ?v26) rfl rfl (by kernel_rfl) (by kernel_rfl) (by kernel_rfl) (fun _ _ _ h => h) rfl ?hy26 hH rfl ?rest26
      case hy26 => (intro W hW; obtain ⟨hW0, hW1, hW2, _⟩ := hW; go_simp; try with_reducible rfl)
      (try simp only [Act.put, List.setIfInBounds_toArray, List.set_cons_zero, List.set_cons_succ])
      refine takeH (i := 11) (dst := some 40) (v := ?v27) rfl rfl (by kernel_rfl) (by kernel_rfl) (by kernel_rfl) (fun _ _ _ h => h) rfl ?hy27 hH rfl ?rest27
      case hy27 => (intro W hW; obtain ⟨hW0, hW1, hW2, _⟩ := hW; go_simp; try with_reducible rfl)
      (try simp only [Act.put, List.setIfInBounds_toArray, List.set_cons_zero, List.set_cons_succ])
      refine takeH (i := 12) (dst := some 41) (v := ?v28) rfl rfl (by kernel_rfl) (by kernel_rfl) (by kernel_rfl) (fun _ _ _ h => h) rfl ?hy28 hH rfl ?rest28
      case hy28 => (intro W hW; obtain ⟨hW0, hW1, hW2, _⟩ := hW; go_simp; try with_reducible rfl)
      (try simp only [Act.put, List.setIfInBounds_toArray, List.set_cons_zero, List.set_cons_succ])
      refine takeH (i := 13) (dst := some 42) (v := ?v29) rfl rfl (by kernel_rfl) (by kernel_rfl) (by kernel_rfl) (fun _ _ _ h => h) rfl ?hy29 hH rfl ?rest29
      case hy29 => (intro W hW; obtain ⟨hW0, hW1, hW2, _⟩ := hW; go_simp; try with_reducible rfl)
      (try simp only [Act.put, List.setIfInBounds_toArray, List.set_cons_zero, List.set_cons_succ])
      refine takeH (i := 14) (dst := some 6) (v := ?v30) rfl rfl (by kernel_rfl) (by kernel_rfl) (by kernel_rfl) (fun _ _ _ h => h) rfl ?hy30 hH rfl ?rest30
      case hy30 => (intro W hW; obtain ⟨hW0, hW1, hW2, _⟩ := hW; go_simp; try with_reducible rfl)
      (try simp only [Act.put, List.setIfInBounds_toArray, List.set_cons_zero, List.set_cons_succ])
      refine takeH (i := 15) (dst := some 7) (v := ?v31) rfl rfl (by kernel_rfl) (by kernel_rfl) (by kernel_rfl) (fun _ _ _ h => h) rfl ?hy31 hH rfl ?rest31
      case hy31 => (intro W hW; obtain ⟨hW0, hW1, hW2, _⟩ := hW; go_simp; try with_reducible rfl)
      (try simp only [Act.put, List.setIfInBounds_toArray, List.set_cons_zero, List.set_cons_succ])
      refine wpAnyH_done (by kernel_rfl) ?_ _
      clear hH
      go_wp2
      go_ret2
      exact ⟨ret2 (by first | rfl | omega) rfl, kb.drew⟩
    · have h3' : (kindV a i n b == 3) = false := beq_eq_false_iff_ne.2 h3
      go_enter Try.func25, Try.ntmps25
      go_wp2_with (first | (go_at_call 14; refine (keep3 w.heap.size a i n w ?_ (RT _)).mono ?_; (first | exact L0 | exact ⟨k0, k1, k2, kb⟩); (try clear k0 k1 k2 kb); rintro e w1 ⟨rfl, k0, k1, k2, kb⟩) | (go_at_call 27; refine (keep3 w.heap.size a i n w ?_ (KD _)).mono ?_; (first | exact L0 | exact ⟨k0, k1, k2, kb⟩); (try clear k0 k1 k2 kb); rintro e w1 ⟨rfl, k0, k1, k2, kb⟩))
      go_ret2
      exact ⟨ret2 (slotV_out (fun c => h3 c.2.1)) (slotE_out hok (fun c => h3 c.1)), kb⟩
  · have RT := rright_no hok
    go_enter Try.func25, Try.ntmps25
    go_wp2_with (first | (go_at_call 14; refine (keep3 w.heap.size a i n w ?_ (RT _)).mono ?_; (first | exact L0 | exact ⟨k0, k1, k2, kb⟩); (try clear k0 k1 k2 kb); rintro e w1 ⟨rfl, k0, k1, k2, kb⟩))
    go_ret2
    exact ⟨ret2 (slotV_out (fun c => hok c.1)) (slotE_no hok), kb⟩
end Go.Proofs.Ytojchlmpddolkaa
