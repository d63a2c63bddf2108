/- Package geo and the document: sizes, what a block is. -/
import Derived.Test.YtabmogeicpphoaaRightG
namespace Go.Proofs.Ytabmogeicpphoaa
open Go.RowKit
theorem right_ok {a i n : Int} (h : okG a i n) (w : World) : Calls Try.prog 54 #[.agg #[.int .i64 a, .int .i64 i, .int .i64 n]] w fun e w' => e = .returned (.bool true) ∧ Below w.heap.size w w' := by
  have := right_any a i n w; rw [show okB a i n = true from h] at this; exact this
theorem right_no {a i n : Int} (h : ¬ okG a i n) (w : World) : Calls Try.prog 54 #[.agg #[.int .i64 a, .int .i64 i, .int .i64 n]] w fun e w' => e = .returned (.bool false) ∧ Below w.heap.size w w' := by
  have := right_any a i n w; rw [show okB a i n = false from by simpa using h] at this; exact this
set_option maxHeartbeats 2000000 in
theorem rright_any (a i n : Int) (w : World) :
    Calls Try.prog 56 #[.agg #[.int .i64 a, .int .i64 i, .int .i64 n]] w fun e w' => e = .returned (.bool (okB a i n)) ∧ Below w.heap.size w w' := by
  have hb : Below w.heap.size w (w.alloc (.cells #[.int .i64 a, .int .i64 i, .int .i64 n] 37)) := (Below.refl _ _).alloc (Nat.le_refl _) _
  by_cases h1 : a < 16
  · go_enter Try.func56, Try.ntmps56
    go_wp2
    go_ret
    exact ⟨no_ok (by rw [okG_iff]; omega), hb⟩
  by_cases h2 : 128 < a
  · go_enter Try.func56, Try.ntmps56
    go_wp2
    go_ret
    exact ⟨no_ok (by rw [okG_iff]; omega), hb⟩
  by_cases h3 : i < 4
  · go_enter Try.func56, Try.ntmps56
    go_wp2
    go_ret
    exact ⟨no_ok (by rw [okG_iff]; omega), hb⟩
  by_cases h4 : 64 < i
  · go_enter Try.func56, Try.ntmps56
    go_wp2
    go_ret
    exact ⟨no_ok (by rw [okG_iff]; omega), hb⟩
  by_cases h5 : (i % 4 == 0) = false
  · have h5' := beq_eq_false_iff_ne.1 h5
    go_enter Try.func56, Try.ntmps56
    go_wp2
    go_ret
    exact ⟨no_ok (by rw [okG_iff]; omega), hb⟩
  replace h5 : i % 4 = 0 := by simpa using h5
  by_cases h6 : n < 1
  · go_enter Try.func56, Try.ntmps56
    go_wp2
    go_ret
    exact ⟨no_ok (by rw [okG_iff]; omega), hb⟩
  by_cases h7 : 16 < n
  · go_enter Try.func56, Try.ntmps56
    go_wp2
    go_ret
    exact ⟨no_ok (by rw [okG_iff]; omega), hb⟩
  obtain ⟨p0, p1⟩ := prod_le (k := n) (a := a) (by omega) (by omega) (by omega) (by omega)
  by_cases h8 : a - 1 - i / 4 < 4
  · go_enter Try.func56, Try.ntmps56
    go_wp2
    go_ret
    exact ⟨no_ok (by rw [okG_iff]; omega), hb⟩
  · go_enter Try.func56, Try.ntmps56
    go_wp2
    go_ret
    exact ⟨(ret_bool (show decide (2 + n * a ≤ 4096) = true from decide_eq_true (by omega))).trans (is_ok (by rw [okG_iff]; omega)), hb⟩
theorem rright_ok {a i n : Int} (h : okG a i n) (w : World) : Calls Try.prog 56 #[.agg #[.int .i64 a, .int .i64 i, .int .i64 n]] w fun e w' => e = .returned (.bool true) ∧ Below w.heap.size w w' := by
  have := rright_any a i n w; rw [show okB a i n = true from h] at this; exact this
theorem rright_no {a i n : Int} (h : ¬ okG a i n) (w : World) : Calls Try.prog 56 #[.agg #[.int .i64 a, .int .i64 i, .int .i64 n]] w fun e w' => e = .returned (.bool false) ∧ Below w.heap.size w w' := by
  have := rright_any a i n w; rw [show okB a i n = false from by simpa using h] at this; exact this
theorem okG.prod {a i n : Int} (h : okG a i n) : 16 ≤ n * a ∧ n * a ≤ 2048 := by
  obtain ⟨h1, h2, _, _, _, h3, h4, _⟩ := okG_iff.1 h
  refine ⟨?_, (prod_le (by omega) h4 (by omega) h2).2⟩
  have := Int.mul_le_mul_of_nonneg_right h3 (show 0 ≤ a by omega); omega
theorem okG.prod2 {a i n : Int} (h : okG a i n) : 4 ≤ n * i ∧ n * i ≤ 1024 := by
  obtain ⟨h1, h2, h5, h6, _, h3, h4, _⟩ := okG_iff.1 h
  refine ⟨?_, ?_⟩
  · have := Int.mul_le_mul_of_nonneg_right h3 (show 0 ≤ i by omega); omega
  · have := Int.mul_le_mul h4 h6 (by omega) (by omega); omega
set_option maxHeartbeats 1000000 in
theorem size_any (a i n : Int) (w : World) :
    Calls Try.prog 74 #[.agg #[.int .i64 a, .int .i64 i, .int .i64 n]] w fun e w' => e = .returned (.int .i64 (if okG a i n then 2 + n * a else 0)) ∧ Below w.heap.size w w' := by
  have hb : Below w.heap.size w (w.alloc (.cells #[.int .i64 a, .int .i64 i, .int .i64 n] 37)) := (Below.refl _ _).alloc (Nat.le_refl _) _
  have L0 : Lies w w.heap.size a i n (w.alloc (.cells #[.int .i64 a, .int .i64 i, .int .i64 n] 37)) := ⟨by go_simp, by go_simp, by go_simp, hb⟩
  by_cases hok : okG a i n
  · have RT := right_ok hok
    rw [if_pos hok]
    have hp := hok.prod
    have hp2 := hok.prod2
    rw [okG_iff] at hok
    have HD := fun W => head_any a i n n W (by omega) (by omega)
    go_enter Try.func74, Try.ntmps74
    go_wp2_with (first | (go_at_call 54; refine (keep3 w.heap.size a i n w L0 (RT _)).mono ?_; rintro e w1 ⟨rfl, k0, k1, k2, kb⟩) | (go_at_call 73; refine (keep3 w.heap.size a i n w ⟨k0, k1, k2, kb⟩ (HD _)).mono ?_; clear k0 k1 k2 kb; rintro e w2 ⟨rfl, k0, k1, k2, kb⟩))
    go_ret
    exact ⟨rfl, kb⟩
  · have RT := right_no hok
    rw [if_neg hok]
    go_enter Try.func74, Try.ntmps74
    go_wp2_with (first | (go_at_call 54; refine (keep3 w.heap.size a i n w L0 (RT _)).mono ?_; rintro e w1 ⟨rfl, k0, k1, k2, kb⟩))
    go_ret
    exact ⟨rfl, kb⟩
set_option maxHeartbeats 1000000 in
theorem rsize_any (a i n : Int) (w : World) :
    Calls Try.prog 75 #[.agg #[.int .i64 a, .int .i64 i, .int .i64 n]] w fun e w' => e = .returned (.int .i64 (if okG a i n then 2 + n * a else 0)) ∧ Below w.heap.size w w' := by
  have hb : Below w.heap.size w (w.alloc (.cells #[.int .i64 a, .int .i64 i, .int .i64 n] 37)) := (Below.refl _ _).alloc (Nat.le_refl _) _
  have L0 : Lies w w.heap.size a i n (w.alloc (.cells #[.int .i64 a, .int .i64 i, .int .i64 n] 37)) := ⟨by go_simp, by go_simp, by go_simp, hb⟩
  by_cases hok : okG a i n
  · have RT := rright_ok hok
    rw [if_pos hok]
    have hp := hok.prod
    have hp2 := hok.prod2
    rw [okG_iff] at hok
    go_enter Try.func75, Try.ntmps75
    go_wp2_with (first | (go_at_call 56; refine (keep3 w.heap.size a i n w L0 (RT _)).mono ?_; rintro e w1 ⟨rfl, k0, k1, k2, kb⟩))
    go_ret
    exact ⟨rfl, kb⟩
  · have RT := rright_no hok
    rw [if_neg hok]
    go_enter Try.func75, Try.ntmps75
    go_wp2_with (first | (go_at_call 56; refine (keep3 w.heap.size a i n w L0 (RT _)).mono ?_; rintro e w1 ⟨rfl, k0, k1, k2, kb⟩))
    go_ret
    exact ⟨rfl, kb⟩
theorem ret1 {x x' : Int} (hx : x' = x) : Ending.returned (.int .i64 x') = .returned (.int .i64 x) := by rw [hx]
theorem ret2 {x x' y y' : Int} (hx : x' = x) (hy : y' = y) : Ending.returned (.tuple #[.int .i64 x', .int .i64 y']) = .returned (.tuple #[.int .i64 x, .int .i64 y]) := by rw [hx, hy]
theorem ret3 {x x' y y' z z' : Int} (hx : x' = x) (hy : y' = y) (hz : z' = z) : Ending.returned (.tuple #[.int .i64 x', .int .i64 y', .int .i64 z']) = .returned (.tuple #[.int .i64 x, .int .i64 y, .int .i64 z]) := by rw [hx, hy, hz]
theorem grp_le {a i n k : Int} (h : okG a i n) (h0 : 0 ≤ k) (h1 : k < n) : 0 ≤ k * a ∧ k * a ≤ 2048 := by
  obtain ⟨g1, g2, _, _, _, g3, g4, _⟩ := okG_iff.1 h; exact prod_le h0 (by omega) (by omega) g2
theorem size_ok {a i n : Int} (h : okG a i n) (w : World) : Calls Try.prog 74 #[.agg #[.int .i64 a, .int .i64 i, .int .i64 n]] w fun e w' => e = .returned (.int .i64 (2 + n * a)) ∧ Below w.heap.size w w' := by
  have := size_any a i n w; rw [if_pos h] at this; exact this
theorem size_no {a i n : Int} (h : ¬ okG a i n) (w : World) : Calls Try.prog 74 #[.agg #[.int .i64 a, .int .i64 i, .int .i64 n]] w fun e w' => e = .returned (.int .i64 0) ∧ Below w.heap.size w w' := by
  have := size_any a i n w; rw [if_neg h] at this; exact this
theorem rsize_ok {a i n : Int} (h : okG a i n) (w : World) : Calls Try.prog 75 #[.agg #[.int .i64 a, .int .i64 i, .int .i64 n]] w fun e w' => e = .returned (.int .i64 (2 + n * a)) ∧ Below w.heap.size w w' := by
  have := rsize_any a i n w; rw [if_pos h] at this; exact this
abbrev Pos0 (x : Int) : Prop := Nonempty (0 ≤ x)
theorem tdiv4 (x : Int) [h : Pos0 x] : x.tdiv 4 = x / 4 := h.elim Int.tdiv_eq_ediv_of_nonneg
theorem tmod4 (x : Int) [h : Pos0 x] : x.tmod 4 = x % 4 := h.elim Int.tmod_eq_emod_of_nonneg
/-- What a block is, and of which group. -/
def kindV (a i n b : Int) : Int := if okG a i n ∧ 0 ≤ b ∧ b < 2 + n * a then (if b < 2 then 1 else if (b - 2) % a = 0 then 2 else if (b - 2) % a ≤ i / 4 then 3 else 4) else 0
def kindG (a i n b : Int) : Int := if okG a i n ∧ 2 ≤ b ∧ b < 2 + n * a then (b - 2) / a else -1
theorem kindV_out {a i n b : Int} (h : ¬ (okG a i n ∧ 0 ≤ b ∧ b < 2 + n * a)) : 0 = kindV a i n b := (if_neg h).symm
theorem kindG_out {a i n b : Int} (h : ¬ (okG a i n ∧ 0 ≤ b ∧ b < 2 + n * a)) : -1 = kindG a i n b := by
  rw [kindG, if_neg]; exact fun c => h ⟨c.1, by omega, c.2.2⟩
theorem kindV_one {a i n b : Int} (h : okG a i n ∧ 0 ≤ b ∧ b < 2 + n * a) (h1 : b < 2) : 1 = kindV a i n b := by rw [kindV, if_pos h, if_pos h1]
theorem kindG_one {a i n b : Int} (h1 : b < 2) : -1 = kindG a i n b := by rw [kindG, if_neg]; omega
theorem kindG_in {a i n b q : Int} (h : okG a i n ∧ 0 ≤ b ∧ b < 2 + n * a) (h1 : 2 ≤ b) (hq : (b - 2) / a = q) : q = kindG a i n b := by rw [kindG, if_pos ⟨h.1, h1, h.2.2⟩, hq]
theorem kindV_in {a i n b r : Int} (h : okG a i n ∧ 0 ≤ b ∧ b < 2 + n * a) (h1 : 2 ≤ b) (hr : (b - 2) % a = r) : kindV a i n b = if r = 0 then 2 else if r ≤ i / 4 then 3 else 4 := by
  rw [kindV, if_pos h, if_neg (by omega), hr]
/-- A block of the groups: its group and its place there. -/
theorem parts {a n x : Int} (ha : 16 ≤ a) (h0 : 0 ≤ x) (h1 : x < n * a) : ∃ q r, x / a = q ∧ x % a = r ∧ q * a + r = x ∧ 0 ≤ r ∧ r < a ∧ 0 ≤ q ∧ q < n := by
  refine ⟨x / a, x % a, rfl, rfl, ?_, Int.emod_nonneg _ (by omega), Int.emod_lt_of_pos _ (by omega), Int.ediv_nonneg h0 (by omega), Int.ediv_lt_of_lt_mul (by omega) h1⟩
  have := Int.mul_ediv_add_emod x a
  rw [Int.mul_comm] at this; exact this
set_option maxHeartbeats 1000000 in
theorem kind_any (a i n b : Int) (w : World) :
    Calls Try.prog 55 #[.agg #[.int .i64 a, .int .i64 i, .int .i64 n], .int .i64 b] w fun e w' => e = .returned (.tuple #[.int .i64 (kindV a i n b), .int .i64 (kindG a i n b)]) ∧ Below w.heap.size w w' := by
  have hb : Below w.heap.size w (w.alloc (.cells #[.int .i64 a, .int .i64 i, .int .i64 n] 37)) := (Below.refl _ _).alloc (Nat.le_refl _) _
  have L0 : Lies w w.heap.size a i n (w.alloc (.cells #[.int .i64 a, .int .i64 i, .int .i64 n] 37)) := ⟨by go_simp, by go_simp, by go_simp, hb⟩
  by_cases hok : okG a i n
  · have SZ := size_ok hok
    have hp := hok.prod
    by_cases hb0 : b < 0
    · go_enter Try.func55, Try.ntmps55
      go_wp2_with (first | fail)
      go_ret2
      exact ⟨ret2 (kindV_out (by omega)) (kindG_out (by omega)), hb⟩
    by_cases hb1 : 2 + n * a ≤ b
    · go_enter Try.func55, Try.ntmps55
      go_wp2_with (first | (go_at_call 74; refine (keep3 w.heap.size a i n w ?_ (SZ _)).mono ?_; (first | exact L0 | exact ⟨k0, k1, k2, kb⟩); (try clear k0 k1 k2 kb); rintro e w1 ⟨rfl, k0, k1, k2, kb⟩))
      go_ret2
      exact ⟨ret2 (kindV_out (by omega)) (kindG_out (by omega)), kb⟩
    have hin : okG a i n ∧ 0 ≤ b ∧ b < 2 + n * a := ⟨hok, by omega, by omega⟩
    by_cases hb2 : b < 2
    · go_enter Try.func55, Try.ntmps55
      go_wp2_with (first | (go_at_call 74; refine (keep3 w.heap.size a i n w ?_ (SZ _)).mono ?_; (first | exact L0 | exact ⟨k0, k1, k2, kb⟩); (try clear k0 k1 k2 kb); rintro e w1 ⟨rfl, k0, k1, k2, kb⟩))
      go_ret2
      exact ⟨ret2 (kindV_one hin hb2) (kindG_one hb2), kb⟩
    have hq0 : 16 ≤ a ∧ a ≤ 128 ∧ 4 ≤ i ∧ i ≤ 64 := hok.box
    obtain ⟨q, r, hq, hr, hqr, hr0, hr1, hq1, hq2⟩ := parts (a := a) (n := n) (x := b - 2) hq0.1 (by omega) (by omega)
    have hkv := kindV_in hin (by omega) hr
    have hkg := kindG_in hin (by omega) hq
    rw [← hkg, hkv]
    have hgl := grp_le hok hq1 hq2
    have LD := fun W => lead_any a i n W (by omega) (by omega)
    subst hq
    have HD := fun W => head_any a i n ((b - 2) / a) W (by omega) (by omega)
    have hs : b - (2 + (b - 2) / a * a) = r := by omega
    clear hkv hkg hin hp hr
    by_cases hz : r = 0
    · subst hz
      rw [if_pos rfl]
      go_enter Try.func55, Try.ntmps55
      go_wp2_with (first | (go_at_call 74; refine (keep3 w.heap.size a i n w ?_ (SZ _)).mono ?_; (first | exact L0 | exact ⟨k0, k1, k2, kb⟩); (try clear k0 k1 k2 kb); rintro e w1 ⟨rfl, k0, k1, k2, kb⟩) | (go_at_call 73; refine (keep3 w.heap.size a i n w ?_ (HD _)).mono ?_; (first | exact L0 | exact ⟨k0, k1, k2, kb⟩); (try clear k0 k1 k2 kb); rintro e w1 ⟨rfl, k0, k1, k2, kb⟩) | (go_at_call 72; refine (keep3 w.heap.size a i n w ?_ (LD _)).mono ?_; (first | exact L0 | exact ⟨k0, k1, k2, kb⟩); (try clear k0 k1 k2 kb); rintro e w1 ⟨rfl, k0, k1, k2, kb⟩))
      go_ret2
      exact ⟨ret2 rfl rfl, kb⟩
    rw [if_neg hz]
    have hz' : (r == 0) = false := beq_eq_false_iff_ne.2 hz
    by_cases hz2 : r ≤ i / 4
    · rw [if_pos hz2]
      go_enter Try.func55, Try.ntmps55
      go_wp2_with (first | (go_at_call 74; refine (keep3 w.heap.size a i n w ?_ (SZ _)).mono ?_; (first | exact L0 | exact ⟨k0, k1, k2, kb⟩); (try clear k0 k1 k2 kb); rintro e w1 ⟨rfl, k0, k1, k2, kb⟩) | (go_at_call 73; refine (keep3 w.heap.size a i n w ?_ (HD _)).mono ?_; (first | exact L0 | exact ⟨k0, k1, k2, kb⟩); (try clear k0 k1 k2 kb); rintro e w1 ⟨rfl, k0, k1, k2, kb⟩) | (go_at_call 72; refine (keep3 w.heap.size a i n w ?_ (LD _)).mono ?_; (first | exact L0 | exact ⟨k0, k1, k2, kb⟩); (try clear k0 k1 k2 kb); rintro e w1 ⟨rfl, k0, k1, k2, kb⟩))
      go_ret2
      exact ⟨ret2 rfl rfl, kb⟩
    rw [if_neg hz2]
    go_enter Try.func55, Try.ntmps55
    go_wp2_with (first | (go_at_call 74; refine (keep3 w.heap.size a i n w ?_ (SZ _)).mono ?_; (first | exact L0 | exact ⟨k0, k1, k2, kb⟩); (try clear k0 k1 k2 kb); rintro e w1 ⟨rfl, k0, k1, k2, kb⟩) | (go_at_call 73; refine (keep3 w.heap.size a i n w ?_ (HD _)).mono ?_; (first | exact L0 | exact ⟨k0, k1, k2, kb⟩); (try clear k0 k1 k2 kb); rintro e w1 ⟨rfl, k0, k1, k2, kb⟩) | (go_at_call 72; refine (keep3 w.heap.size a i n w ?_ (LD _)).mono ?_; (first | exact L0 | exact ⟨k0, k1, k2, kb⟩); (try clear k0 k1 k2 kb); rintro e w1 ⟨rfl, k0, k1, k2, kb⟩))
    go_ret2
    exact ⟨ret2 rfl rfl, kb⟩
  · have SZ := size_no hok
    by_cases hb0 : b < 0
    · go_enter Try.func55, Try.ntmps55
      go_wp2_with (first | fail)
      go_ret2
      exact ⟨ret2 (kindV_out (by omega)) (kindG_out (by omega)), hb⟩
    go_enter Try.func55, Try.ntmps55
    go_wp2_with (first | (go_at_call 74; refine (keep3 w.heap.size a i n w ?_ (SZ _)).mono ?_; (first | exact L0 | exact ⟨k0, k1, k2, kb⟩); (try clear k0 k1 k2 kb); rintro e w1 ⟨rfl, k0, k1, k2, kb⟩))
    go_ret2
    exact ⟨ret2 (kindV_out (fun c => hok c.1)) (kindG_out (fun c => hok c.1)), kb⟩
set_option maxHeartbeats 1000000 in
theorem rkind_any (a i n b : Int) (w : World) :
    Calls Try.prog 57 #[.agg #[.int .i64 a, .int .i64 i, .int .i64 n], .int .i64 b] w fun e w' => e = .returned (.tuple #[.int .i64 (kindV a i n b), .int .i64 (kindG a i n b)]) ∧ Below w.heap.size w w' := by
  have hb : Below w.heap.size w (w.alloc (.cells #[.int .i64 a, .int .i64 i, .int .i64 n] 37)) := (Below.refl _ _).alloc (Nat.le_refl _) _
  have L0 : Lies w w.heap.size a i n (w.alloc (.cells #[.int .i64 a, .int .i64 i, .int .i64 n] 37)) := ⟨by go_simp, by go_simp, by go_simp, hb⟩
  by_cases hok : okG a i n
  · have SZ := rsize_ok hok
    have RT := rright_ok hok
    have hp := hok.prod
    by_cases hb0 : b < 0
    · go_enter Try.func57, Try.ntmps57
      go_wp2_with (first | (go_at_call 56; refine (keep3 w.heap.size a i n w ?_ (RT _)).mono ?_; (first | exact L0 | exact ⟨k0, k1, k2, kb⟩); (try clear k0 k1 k2 kb); rintro e w1 ⟨rfl, k0, k1, k2, kb⟩))
      go_ret2
      exact ⟨ret2 (kindV_out (by omega)) (kindG_out (by omega)), kb⟩
    by_cases hb1 : 2 + n * a ≤ b
    · go_enter Try.func57, Try.ntmps57
      go_wp2_with (first | (go_at_call 56; refine (keep3 w.heap.size a i n w ?_ (RT _)).mono ?_; (first | exact L0 | exact ⟨k0, k1, k2, kb⟩); (try clear k0 k1 k2 kb); rintro e w1 ⟨rfl, k0, k1, k2, kb⟩) | (go_at_call 75; refine (keep3 w.heap.size a i n w ?_ (SZ _)).mono ?_; (first | exact L0 | exact ⟨k0, k1, k2, kb⟩); (try clear k0 k1 k2 kb); rintro e w1 ⟨rfl, k0, k1, k2, kb⟩))
      go_ret2
      exact ⟨ret2 (kindV_out (by omega)) (kindG_out (by omega)), kb⟩
    have hin : okG a i n ∧ 0 ≤ b ∧ b < 2 + n * a := ⟨hok, by omega, by omega⟩
    by_cases hb2 : b < 2
    · go_enter Try.func57, Try.ntmps57
      go_wp2_with (first | (go_at_call 56; refine (keep3 w.heap.size a i n w ?_ (RT _)).mono ?_; (first | exact L0 | exact ⟨k0, k1, k2, kb⟩); (try clear k0 k1 k2 kb); rintro e w1 ⟨rfl, k0, k1, k2, kb⟩) | (go_at_call 75; refine (keep3 w.heap.size a i n w ?_ (SZ _)).mono ?_; (first | exact L0 | exact ⟨k0, k1, k2, kb⟩); (try clear k0 k1 k2 kb); rintro e w1 ⟨rfl, k0, k1, k2, kb⟩))
      go_ret2
      exact ⟨ret2 (kindV_one hin hb2) (kindG_one hb2), kb⟩
    have hq0 : 16 ≤ a ∧ a ≤ 128 ∧ 4 ≤ i ∧ i ≤ 64 := hok.box
    obtain ⟨q, r, hq, hr, hqr, hr0, hr1, hq1, hq2⟩ := parts (a := a) (n := n) (x := b - 2) hq0.1 (by omega) (by omega)
    have hkv := kindV_in hin (by omega) hr
    have hkg := kindG_in hin (by omega) hq
    rw [← hkg, hkv]
    have hgl := grp_le hok hq1 hq2
    clear hkv hkg hin hp
    subst hr
    subst hq
    by_cases hz : (b - 2) % a = 0
    · rw [if_pos hz]
      have hz' : ((b - 2) % a == 0) = true := beq_iff_eq.2 hz
      go_enter Try.func57, Try.ntmps57
      go_wp2_with (first | (go_at_call 56; refine (keep3 w.heap.size a i n w ?_ (RT _)).mono ?_; (first | exact L0 | exact ⟨k0, k1, k2, kb⟩); (try clear k0 k1 k2 kb); rintro e w1 ⟨rfl, k0, k1, k2, kb⟩) | (go_at_call 75; refine (keep3 w.heap.size a i n w ?_ (SZ _)).mono ?_; (first | exact L0 | exact ⟨k0, k1, k2, kb⟩); (try clear k0 k1 k2 kb); rintro e w1 ⟨rfl, k0, k1, k2, kb⟩))
      go_ret2
      exact ⟨ret2 rfl rfl, kb⟩
    rw [if_neg hz]
    have hz' : ((b - 2) % a == 0) = false := beq_eq_false_iff_ne.2 hz
    by_cases hz2 : (b - 2) % a ≤ i / 4
    · rw [if_pos hz2]
      go_enter Try.func57, Try.ntmps57
      go_wp2_with (first | (go_at_call 56; refine (keep3 w.heap.size a i n w ?_ (RT _)).mono ?_; (first | exact L0 | exact ⟨k0, k1, k2, kb⟩); (try clear k0 k1 k2 kb); rintro e w1 ⟨rfl, k0, k1, k2, kb⟩) | (go_at_call 75; refine (keep3 w.heap.size a i n w ?_ (SZ _)).mono ?_; (first | exact L0 | exact ⟨k0, k1, k2, kb⟩); (try clear k0 k1 k2 kb); rintro e w1 ⟨rfl, k0, k1, k2, kb⟩))
      go_ret2
      exact ⟨ret2 rfl rfl, kb⟩
    rw [if_neg hz2]
    go_enter Try.func57, Try.ntmps57
    go_wp2_with (first | (go_at_call 56; refine (keep3 w.heap.size a i n w ?_ (RT _)).mono ?_; (first | exact L0 | exact ⟨k0, k1, k2, kb⟩); (try clear k0 k1 k2 kb); rintro e w1 ⟨rfl, k0, k1, k2, kb⟩) | (go_at_call 75; refine (keep3 w.heap.size a i n w ?_ (SZ _)).mono ?_; (first | exact L0 | exact ⟨k0, k1, k2, kb⟩); (try clear k0 k1 k2 kb); rintro e w1 ⟨rfl, k0, k1, k2, kb⟩))
    go_ret2
    exact ⟨ret2 rfl rfl, kb⟩
  · have RT := rright_no hok
    go_enter Try.func57, Try.ntmps57
    go_wp2_with (first | (go_at_call 56; refine (keep3 w.heap.size a i n w ?_ (RT _)).mono ?_; (first | exact L0 | exact ⟨k0, k1, k2, kb⟩); (try clear k0 k1 k2 kb); rintro e w1 ⟨rfl, k0, k1, k2, kb⟩))
    go_ret2
    exact ⟨ret2 (kindV_out (fun c => hok c.1)) (kindG_out (fun c => hok c.1)), kb⟩
end Go.Proofs.Ytabmogeicpphoaa
