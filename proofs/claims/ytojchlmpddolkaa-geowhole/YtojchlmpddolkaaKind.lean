/- Package geo and the document's answer: what a block is. -/
import Derived.Test.YtojchlmpddolkaaRange
namespace Go.Proofs.Ytojchlmpddolkaa
open Go.RowKit
/-- What a block is, and of which group. -/
def kindV (a i n b : Int) : Int := if okG a i n ∧ 0 ≤ b ∧ b < 2 + n * a then (if b < 2 then 1 else if (b - 2) % a = 0 then 2 else if (b - 2) % a ≤ i / 4 then 3 else 4) else 0
def kindG (a i n b : Int) : Int := if okG a i n ∧ 2 ≤ b ∧ b < 2 + n * a then (b - 2) / a else -1
theorem kindV_out {a i n b : Int} (h : ¬ (okG a i n ∧ 0 ≤ b ∧ b < 2 + n * a)) : 0 = kindV a i n b := (if_neg h).symm
theorem kindG_out {a i n b : Int} (h : ¬ (okG a i n ∧ 0 ≤ b ∧ b < 2 + n * a)) : -1 = kindG a i n b := by
  rw [kindG, if_neg]; exact fun c => h ⟨c.1, by omega, c.2.2⟩
theorem kindV_one {a i n b : Int} (h : okG a i n ∧ 0 ≤ b ∧ b < 2 + n * a) (h1 : b < 2) : 1 = kindV a i n b := by rw [kindV, if_pos h, if_pos h1]
theorem kindG_one {a i n b : Int} (h1 : b < 2) : -1 = kindG a i n b := by rw [kindG, if_neg]; omega
theorem kindG_in {a i n b q : Int} (h : okG a i n ∧ 0 ≤ b ∧ b < 2 + n * a) (h1 : 2 ≤ b) (hq : (b - 2) / a = q) : q = kindG a i n b := by rw [kindG, if_pos ⟨h.1, h1, h.2.2⟩, hq]
theorem kindV_in {a i n b r : Int} (h : okG a i n ∧ 0 ≤ b ∧ b < 2 + n * a) (h1 : 2 ≤ b) (hr : (b - 2) % a = r) : kindV a i n b = if r = 0 then 2 else if r ≤ i / 4 then 3 else 4 := by
  rw [kindV, if_pos h, if_neg (by omega), hr]
/-- A block of the groups: its group and its place there. -/
theorem parts {a n x : Int} (ha : 16 ≤ a) (h0 : 0 ≤ x) (h1 : x < n * a) : ∃ q r, x / a = q ∧ x % a = r ∧ q * a + r = x ∧ 0 ≤ r ∧ r < a ∧ 0 ≤ q ∧ q < n := by
  refine ⟨x / a, x % a, rfl, rfl, ?_, Int.emod_nonneg _ (by omega), Int.emod_lt_of_pos _ (by omega), Int.ediv_nonneg h0 (by omega), Int.ediv_lt_of_lt_mul (by omega) h1⟩
  have := Int.mul_ediv_add_emod x a
  rw [Int.mul_comm] at this; exact this
set_option maxHeartbeats 1000000 in
theorem kind_any (a i n b : Int) (w : World) :
    Calls Try.prog 26 #[.agg #[.int .i64 a, .int .i64 i, .int .i64 n], .int .i64 b] w fun e w' => e = .returned (.tuple #[.int .i64 (kindV a i n b), .int .i64 (kindG a i n b)]) ∧ Below w.heap.size w w' := by
  have hb : Below w.heap.size w (w.alloc (.cells #[.int .i64 a, .int .i64 i, .int .i64 n] 23)) := (Below.refl _ _).alloc (Nat.le_refl _) _
  have L0 : Lies w w.heap.size a i n (w.alloc (.cells #[.int .i64 a, .int .i64 i, .int .i64 n] 23)) := ⟨by go_simp, by go_simp, by go_simp, hb⟩
  by_cases hok : okG a i n
  · have SZ := size_ok hok
    have hp := hok.prod
    by_cases hb0 : b < 0
    · go_enter Try.func26, Try.ntmps26
      go_wp2_with (first | fail)
      go_ret2
      exact ⟨ret2 (kindV_out (by omega)) (kindG_out (by omega)), hb⟩
    by_cases hb1 : 2 + n * a ≤ b
    · go_enter Try.func26, Try.ntmps26
      go_wp2_with (first | (go_at_call 15; refine (keep3 w.heap.size a i n w ?_ (SZ _)).mono ?_; (first | exact L0 | exact ⟨k0, k1, k2, kb⟩); (try clear k0 k1 k2 kb); rintro e w1 ⟨rfl, k0, k1, k2, kb⟩))
      go_ret2
      exact ⟨ret2 (kindV_out (by omega)) (kindG_out (by omega)), kb⟩
    have hin : okG a i n ∧ 0 ≤ b ∧ b < 2 + n * a := ⟨hok, by omega, by omega⟩
    by_cases hb2 : b < 2
    · go_enter Try.func26, Try.ntmps26
      go_wp2_with (first | (go_at_call 15; refine (keep3 w.heap.size a i n w ?_ (SZ _)).mono ?_; (first | exact L0 | exact ⟨k0, k1, k2, kb⟩); (try clear k0 k1 k2 kb); rintro e w1 ⟨rfl, k0, k1, k2, kb⟩))
      go_ret2
      exact ⟨ret2 (kindV_one hin hb2) (kindG_one hb2), kb⟩
    have hq0 : 16 ≤ a ∧ a ≤ 128 ∧ 4 ≤ i ∧ i ≤ 64 := hok.box
    obtain ⟨q, r, hq, hr, hqr, hr0, hr1, hq1, hq2⟩ := parts (a := a) (n := n) (x := b - 2) hq0.1 (by omega) (by omega)
    have hkv := kindV_in hin (by omega) hr
    have hkg := kindG_in hin (by omega) hq
    rw [← hkg, hkv]
    have hgl := grp_le hok hq1 hq2
    have LD := fun W => lead_any a i n W (by omega) (by omega)
    subst hq
    have HD := fun W => head_any a i n ((b - 2) / a) W (by omega) (by omega)
    have hs : b - (2 + (b - 2) / a * a) = r := by omega
    clear hkv hkg hin hp hr
    by_cases hz : r = 0
    · subst hz
      rw [if_pos rfl]
      go_enter Try.func26, Try.ntmps26
      go_wp2_with (first | (go_at_call 15; refine (keep3 w.heap.size a i n w ?_ (SZ _)).mono ?_; (first | exact L0 | exact ⟨k0, k1, k2, kb⟩); (try clear k0 k1 k2 kb); rintro e w1 ⟨rfl, k0, k1, k2, kb⟩) | (go_at_call 30; refine (keep3 w.heap.size a i n w ?_ (HD _)).mono ?_; (first | exact L0 | exact ⟨k0, k1, k2, kb⟩); (try clear k0 k1 k2 kb); rintro e w1 ⟨rfl, k0, k1, k2, kb⟩) | (go_at_call 31; refine (keep3 w.heap.size a i n w ?_ (LD _)).mono ?_; (first | exact L0 | exact ⟨k0, k1, k2, kb⟩); (try clear k0 k1 k2 kb); rintro e w1 ⟨rfl, k0, k1, k2, kb⟩))
      go_ret2
      exact ⟨ret2 rfl rfl, kb⟩
    rw [if_neg hz]
    have hz' : (r == 0) = false := beq_eq_false_iff_ne.2 hz
    by_cases hz2 : r ≤ i / 4
    · rw [if_pos hz2]
      go_enter Try.func26, Try.ntmps26
      go_wp2_with (first | (go_at_call 15; refine (keep3 w.heap.size a i n w ?_ (SZ _)).mono ?_; (first | exact L0 | exact ⟨k0, k1, k2, kb⟩); (try clear k0 k1 k2 kb); rintro e w1 ⟨rfl, k0, k1, k2, kb⟩) | (go_at_call 30; refine (keep3 w.heap.size a i n w ?_ (HD _)).mono ?_; (first | exact L0 | exact ⟨k0, k1, k2, kb⟩); (try clear k0 k1 k2 kb); rintro e w1 ⟨rfl, k0, k1, k2, kb⟩) | (go_at_call 31; refine (keep3 w.heap.size a i n w ?_ (LD _)).mono ?_; (first | exact L0 | exact ⟨k0, k1, k2, kb⟩); (try clear k0 k1 k2 kb); rintro e w1 ⟨rfl, k0, k1, k2, kb⟩))
      go_ret2
      exact ⟨ret2 rfl rfl, kb⟩
    rw [if_neg hz2]
    go_enter Try.func26, Try.ntmps26
    go_wp2_with (first | (go_at_call 15; refine (keep3 w.heap.size a i n w ?_ (SZ _)).mono ?_; (first | exact L0 | exact ⟨k0, k1, k2, kb⟩); (try clear k0 k1 k2 kb); rintro e w1 ⟨rfl, k0, k1, k2, kb⟩) | (go_at_call 30; refine (keep3 w.heap.size a i n w ?_ (HD _)).mono ?_; (first | exact L0 | exact ⟨k0, k1, k2, kb⟩); (try clear k0 k1 k2 kb); rintro e w1 ⟨rfl, k0, k1, k2, kb⟩) | (go_at_call 31; refine (keep3 w.heap.size a i n w ?_ (LD _)).mono ?_; (first | exact L0 | exact ⟨k0, k1, k2, kb⟩); (try clear k0 k1 k2 kb); rintro e w1 ⟨rfl, k0, k1, k2, kb⟩))
    go_ret2
    exact ⟨ret2 rfl rfl, kb⟩
  · have SZ := size_no hok
    by_cases hb0 : b < 0
    · go_enter Try.func26, Try.ntmps26
      go_wp2_with (first | fail)
      go_ret2
      exact ⟨ret2 (kindV_out (by omega)) (kindG_out (by omega)), hb⟩
    go_enter Try.func26, Try.ntmps26
    go_wp2_with (first | (go_at_call 15; refine (keep3 w.heap.size a i n w ?_ (SZ _)).mono ?_; (first | exact L0 | exact ⟨k0, k1, k2, kb⟩); (try clear k0 k1 k2 kb); rintro e w1 ⟨rfl, k0, k1, k2, kb⟩))
    go_ret2
    exact ⟨ret2 (kindV_out (fun c => hok c.1)) (kindG_out (fun c => hok c.1)), kb⟩
set_option maxHeartbeats 1000000 in
theorem rkind_any (a i n b : Int) (w : World) :
    Calls Try.prog 27 #[.agg #[.int .i64 a, .int .i64 i, .int .i64 n], .int .i64 b] w fun e w' => e = .returned (.tuple #[.int .i64 (kindV a i n b), .int .i64 (kindG a i n b)]) ∧ Below w.heap.size w w' := by
  have hb : Below w.heap.size w (w.alloc (.cells #[.int .i64 a, .int .i64 i, .int .i64 n] 23)) := (Below.refl _ _).alloc (Nat.le_refl _) _
  have L0 : Lies w w.heap.size a i n (w.alloc (.cells #[.int .i64 a, .int .i64 i, .int .i64 n] 23)) := ⟨by go_simp, by go_simp, by go_simp, hb⟩
  by_cases hok : okG a i n
  · have SZ := rsize_ok hok
    have RT := rright_ok hok
    have hp := hok.prod
    by_cases hb0 : b < 0
    · go_enter Try.func27, Try.ntmps27
      go_wp2_with (first | (go_at_call 14; refine (keep3 w.heap.size a i n w ?_ (RT _)).mono ?_; (first | exact L0 | exact ⟨k0, k1, k2, kb⟩); (try clear k0 k1 k2 kb); rintro e w1 ⟨rfl, k0, k1, k2, kb⟩))
      go_ret2
      exact ⟨ret2 (kindV_out (by omega)) (kindG_out (by omega)), kb⟩
    by_cases hb1 : 2 + n * a ≤ b
    · go_enter Try.func27, Try.ntmps27
      go_wp2_with (first | (go_at_call 14; refine (keep3 w.heap.size a i n w ?_ (RT _)).mono ?_; (first | exact L0 | exact ⟨k0, k1, k2, kb⟩); (try clear k0 k1 k2 kb); rintro e w1 ⟨rfl, k0, k1, k2, kb⟩) | (go_at_call 16; refine (keep3 w.heap.size a i n w ?_ (SZ _)).mono ?_; (first | exact L0 | exact ⟨k0, k1, k2, kb⟩); (try clear k0 k1 k2 kb); rintro e w1 ⟨rfl, k0, k1, k2, kb⟩))
      go_ret2
      exact ⟨ret2 (kindV_out (by omega)) (kindG_out (by omega)), kb⟩
    have hin : okG a i n ∧ 0 ≤ b ∧ b < 2 + n * a := ⟨hok, by omega, by omega⟩
    by_cases hb2 : b < 2
    · go_enter Try.func27, Try.ntmps27
      go_wp2_with (first | (go_at_call 14; refine (keep3 w.heap.size a i n w ?_ (RT _)).mono ?_; (first | exact L0 | exact ⟨k0, k1, k2, kb⟩); (try clear k0 k1 k2 kb); rintro e w1 ⟨rfl, k0, k1, k2, kb⟩) | (go_at_call 16; refine (keep3 w.heap.size a i n w ?_ (SZ _)).mono ?_; (first | exact L0 | exact ⟨k0, k1, k2, kb⟩); (try clear k0 k1 k2 kb); rintro e w1 ⟨rfl, k0, k1, k2, kb⟩))
      go_ret2
      exact ⟨ret2 (kindV_one hin hb2) (kindG_one hb2), kb⟩
    have hq0 : 16 ≤ a ∧ a ≤ 128 ∧ 4 ≤ i ∧ i ≤ 64 := hok.box
    obtain ⟨q, r, hq, hr, hqr, hr0, hr1, hq1, hq2⟩ := parts (a := a) (n := n) (x := b - 2) hq0.1 (by omega) (by omega)
    have hkv := kindV_in hin (by omega) hr
    have hkg := kindG_in hin (by omega) hq
    rw [← hkg, hkv]
    have hgl := grp_le hok hq1 hq2
    clear hkv hkg hin hp
    subst hr
    subst hq
    by_cases hz : (b - 2) % a = 0
    · rw [if_pos hz]
      have hz' : ((b - 2) % a == 0) = true := beq_iff_eq.2 hz
      go_enter Try.func27, Try.ntmps27
      go_wp2_with (first | (go_at_call 14; refine (keep3 w.heap.size a i n w ?_ (RT _)).mono ?_; (first | exact L0 | exact ⟨k0, k1, k2, kb⟩); (try clear k0 k1 k2 kb); rintro e w1 ⟨rfl, k0, k1, k2, kb⟩) | (go_at_call 16; refine (keep3 w.heap.size a i n w ?_ (SZ _)).mono ?_; (first | exact L0 | exact ⟨k0, k1, k2, kb⟩); (try clear k0 k1 k2 kb); rintro e w1 ⟨rfl, k0, k1, k2, kb⟩))
      go_ret2
      exact ⟨ret2 rfl rfl, kb⟩
    rw [if_neg hz]
    have hz' : ((b - 2) % a == 0) = false := beq_eq_false_iff_ne.2 hz
    by_cases hz2 : (b - 2) % a ≤ i / 4
    · rw [if_pos hz2]
      go_enter Try.func27, Try.ntmps27
      go_wp2_with (first | (go_at_call 14; refine (keep3 w.heap.size a i n w ?_ (RT _)).mono ?_; (first | exact L0 | exact ⟨k0, k1, k2, kb⟩); (try clear k0 k1 k2 kb); rintro e w1 ⟨rfl, k0, k1, k2, kb⟩) | (go_at_call 16; refine (keep3 w.heap.size a i n w ?_ (SZ _)).mono ?_; (first | exact L0 | exact ⟨k0, k1, k2, kb⟩); (try clear k0 k1 k2 kb); rintro e w1 ⟨rfl, k0, k1, k2, kb⟩))
      go_ret2
      exact ⟨ret2 rfl rfl, kb⟩
    rw [if_neg hz2]
    go_enter Try.func27, Try.ntmps27
    go_wp2_with (first | (go_at_call 14; refine (keep3 w.heap.size a i n w ?_ (RT _)).mono ?_; (first | exact L0 | exact ⟨k0, k1, k2, kb⟩); (try clear k0 k1 k2 kb); rintro e w1 ⟨rfl, k0, k1, k2, kb⟩) | (go_at_call 16; refine (keep3 w.heap.size a i n w ?_ (SZ _)).mono ?_; (first | exact L0 | exact ⟨k0, k1, k2, kb⟩); (try clear k0 k1 k2 kb); rintro e w1 ⟨rfl, k0, k1, k2, kb⟩))
    go_ret2
    exact ⟨ret2 rfl rfl, kb⟩
  · have RT := rright_no hok
    go_enter Try.func27, Try.ntmps27
    go_wp2_with (first | (go_at_call 14; refine (keep3 w.heap.size a i n w ?_ (RT _)).mono ?_; (first | exact L0 | exact ⟨k0, k1, k2, kb⟩); (try clear k0 k1 k2 kb); rintro e w1 ⟨rfl, k0, k1, k2, kb⟩))
    go_ret2
    exact ⟨ret2 (kindV_out (fun c => hok c.1)) (kindG_out (fun c => hok c.1)), kb⟩
end Go.Proofs.Ytojchlmpddolkaa
