/- Package geo and the document's answer: the small functions. -/
import Derived.Test.YtfbbdpapnegmcaaRight
namespace Go.Proofs.Ytfbbdpapnegmcaa
open Go.RowKit
theorem right_ok {a i n : Int} (h : okG a i n) (w : World) : Calls Try.prog 33 #[.agg #[.int .i64 a, .int .i64 i, .int .i64 n]] w fun e w' => e = .returned (.bool true) ∧ Below w.heap.size w w' := by
  have := right_any a i n w; rw [show okB a i n = true from h] at this; exact this
theorem right_no {a i n : Int} (h : ¬ okG a i n) (w : World) : Calls Try.prog 33 #[.agg #[.int .i64 a, .int .i64 i, .int .i64 n]] w fun e w' => e = .returned (.bool false) ∧ Below w.heap.size w w' := by
  have := right_any a i n w; rw [show okB a i n = false from by simpa using h] at this; exact this
set_option maxHeartbeats 2000000 in
theorem rright_any (a i n : Int) (w : World) :
    Calls Try.prog 30 #[.agg #[.int .i64 a, .int .i64 i, .int .i64 n]] w fun e w' => e = .returned (.bool (okB a i n)) ∧ Below w.heap.size w w' := by
  have hb : Below w.heap.size w (w.alloc (.cells #[.int .i64 a, .int .i64 i, .int .i64 n] 23)) := (Below.refl _ _).alloc (Nat.le_refl _) _
  by_cases h1 : a < 16
  · go_enter Try.func30, Try.ntmps30
    go_wp2
    go_ret
    exact ⟨no_ok (by rw [okG_iff]; omega), hb⟩
  by_cases h2 : 128 < a
  · go_enter Try.func30, Try.ntmps30
    go_wp2
    go_ret
    exact ⟨no_ok (by rw [okG_iff]; omega), hb⟩
  by_cases h3 : i < 4
  · go_enter Try.func30, Try.ntmps30
    go_wp2
    go_ret
    exact ⟨no_ok (by rw [okG_iff]; omega), hb⟩
  by_cases h4 : 64 < i
  · go_enter Try.func30, Try.ntmps30
    go_wp2
    go_ret
    exact ⟨no_ok (by rw [okG_iff]; omega), hb⟩
  by_cases h5 : (i % 4 == 0) = false
  · have h5' := beq_eq_false_iff_ne.1 h5
    go_enter Try.func30, Try.ntmps30
    go_wp2
    go_ret
    exact ⟨no_ok (by rw [okG_iff]; omega), hb⟩
  replace h5 : i % 4 = 0 := by simpa using h5
  by_cases h6 : n < 1
  · go_enter Try.func30, Try.ntmps30
    go_wp2
    go_ret
    exact ⟨no_ok (by rw [okG_iff]; omega), hb⟩
  by_cases h7 : 16 < n
  · go_enter Try.func30, Try.ntmps30
    go_wp2
    go_ret
    exact ⟨no_ok (by rw [okG_iff]; omega), hb⟩
  obtain ⟨p0, p1⟩ := prod_le (k := n) (a := a) (by omega) (by omega) (by omega) (by omega)
  by_cases h8 : a - 1 - i / 4 < 4
  · go_enter Try.func30, Try.ntmps30
    go_wp2
    go_ret
    exact ⟨no_ok (by rw [okG_iff]; omega), hb⟩
  · go_enter Try.func30, Try.ntmps30
    go_wp2
    go_ret
    exact ⟨(ret_bool (show decide (2 + n * a ≤ 4096) = true from decide_eq_true (by omega))).trans (is_ok (by rw [okG_iff]; omega)), hb⟩
theorem rright_ok {a i n : Int} (h : okG a i n) (w : World) : Calls Try.prog 30 #[.agg #[.int .i64 a, .int .i64 i, .int .i64 n]] w fun e w' => e = .returned (.bool true) ∧ Below w.heap.size w w' := by
  have := rright_any a i n w; rw [show okB a i n = true from h] at this; exact this
theorem rright_no {a i n : Int} (h : ¬ okG a i n) (w : World) : Calls Try.prog 30 #[.agg #[.int .i64 a, .int .i64 i, .int .i64 n]] w fun e w' => e = .returned (.bool false) ∧ Below w.heap.size w w' := by
  have := rright_any a i n w; rw [show okB a i n = false from by simpa using h] at this; exact this
theorem okG.prod {a i n : Int} (h : okG a i n) : 16 ≤ n * a ∧ n * a ≤ 2048 := by
  obtain ⟨h1, h2, _, _, _, h3, h4, _⟩ := okG_iff.1 h
  refine ⟨?_, (prod_le (by omega) h4 (by omega) h2).2⟩
  have := Int.mul_le_mul_of_nonneg_right h3 (show 0 ≤ a by omega); omega
theorem okG.prod2 {a i n : Int} (h : okG a i n) : 4 ≤ n * i ∧ n * i ≤ 1024 := by
  obtain ⟨h1, h2, h5, h6, _, h3, h4, _⟩ := okG_iff.1 h
  refine ⟨?_, ?_⟩
  · have := Int.mul_le_mul_of_nonneg_right h3 (show 0 ≤ i by omega); omega
  · have := Int.mul_le_mul h4 h6 (by omega) (by omega); omega
set_option maxHeartbeats 1000000 in
theorem tables_any (a i n : Int) (w : World) :
    Calls Try.prog 54 #[.agg #[.int .i64 a, .int .i64 i, .int .i64 n]] w fun e w' => e = .returned (.int .i64 (if okG a i n then i / 4 else 0)) ∧ Below w.heap.size w w' := by
  have hb : Below w.heap.size w (w.alloc (.cells #[.int .i64 a, .int .i64 i, .int .i64 n] 23)) := (Below.refl _ _).alloc (Nat.le_refl _) _
  have L0 : Lies w w.heap.size a i n (w.alloc (.cells #[.int .i64 a, .int .i64 i, .int .i64 n] 23)) := ⟨by go_simp, by go_simp, by go_simp, hb⟩
  by_cases hok : okG a i n
  · have RT := right_ok hok
    rw [if_pos hok]
    have hp := hok.prod
    have hp2 := hok.prod2
    rw [okG_iff] at hok
    go_enter Try.func54, Try.ntmps54
    go_wp2_with (first | (go_at_call 33; refine (keep3 w.heap.size a i n w L0 (RT _)).mono ?_; rintro e w1 ⟨rfl, k0, k1, k2, kb⟩))
    go_ret
    exact ⟨rfl, kb⟩
  · have RT := right_no hok
    rw [if_neg hok]
    go_enter Try.func54, Try.ntmps54
    go_wp2_with (first | (go_at_call 33; refine (keep3 w.heap.size a i n w L0 (RT _)).mono ?_; rintro e w1 ⟨rfl, k0, k1, k2, kb⟩))
    go_ret
    exact ⟨rfl, kb⟩
end Go.Proofs.Ytfbbdpapnegmcaa
