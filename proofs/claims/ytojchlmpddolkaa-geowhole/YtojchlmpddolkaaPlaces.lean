/- Package geo and the document's answer: groups, slots, blocks. -/
import Derived.Test.YtojchlmpddolkaaSizes
namespace Go.Proofs.Ytojchlmpddolkaa
open Go.RowKit
theorem ret1 {x x' : Int} (hx : x' = x) : Ending.returned (.int .i64 x') = .returned (.int .i64 x) := by rw [hx]
theorem ret2 {x x' y y' : Int} (hx : x' = x) (hy : y' = y) : Ending.returned (.tuple #[.int .i64 x', .int .i64 y']) = .returned (.tuple #[.int .i64 x, .int .i64 y]) := by rw [hx, hy]
theorem ret3 {x x' y y' z z' : Int} (hx : x' = x) (hy : y' = y) (hz : z' = z) : Ending.returned (.tuple #[.int .i64 x', .int .i64 y', .int .i64 z']) = .returned (.tuple #[.int .i64 x, .int .i64 y, .int .i64 z]) := by rw [hx, hy, hz]
/-- What Head answers. -/
def headV (a i n k : Int) : Int := if okG a i n ∧ 0 ≤ k ∧ k < n then 2 + k * a else 0
def headE (a i n k : Int) : Int := if ¬ okG a i n then 1 else if 0 ≤ k ∧ k < n then 0 else 3
theorem headV_in {a i n k : Int} (h : okG a i n) (h0 : 0 ≤ k) (h1 : k < n) : 2 + k * a = headV a i n k := (if_pos ⟨h, h0, h1⟩).symm
theorem headE_in {a i n k : Int} (h : okG a i n) (h0 : 0 ≤ k) (h1 : k < n) : 0 = headE a i n k := by rw [headE, if_neg (fun c => c h), if_pos ⟨h0, h1⟩]
theorem headV_out {a i n k : Int} (h : ¬ (0 ≤ k ∧ k < n)) : 0 = headV a i n k := (if_neg (fun c => h c.2)).symm
theorem headE_out {a i n k : Int} (h0 : okG a i n) (h : ¬ (0 ≤ k ∧ k < n)) : 3 = headE a i n k := by rw [headE, if_neg (fun c => c h0), if_neg h]
theorem headV_no {a i n k : Int} (h : ¬ okG a i n) : 0 = headV a i n k := (if_neg (fun c => h c.1)).symm
theorem headE_no {a i n k : Int} (h : ¬ okG a i n) : 1 = headE a i n k := (if_pos h).symm
theorem grp_le {a i n k : Int} (h : okG a i n) (h0 : 0 ≤ k) (h1 : k < n) : 0 ≤ k * a ∧ k * a ≤ 2048 := by
  obtain ⟨g1, g2, _, _, _, g3, g4, _⟩ := okG_iff.1 h; exact prod_le h0 (by omega) (by omega) g2
set_option maxHeartbeats 1000000 in
theorem Head_any (a i n k : Int) (w : World) :
    Calls Try.prog 7 #[.agg #[.int .i64 a, .int .i64 i, .int .i64 n], .int .i64 k] w fun e w' => e = .returned (.tuple #[.int .i64 (headV a i n k), .int .i64 (headE a i n k)]) ∧ Below w.heap.size w w' := by
  have hb : Below w.heap.size w (w.alloc (.cells #[.int .i64 a, .int .i64 i, .int .i64 n] 23)) := (Below.refl _ _).alloc (Nat.le_refl _) _
  have L0 : Lies w w.heap.size a i n (w.alloc (.cells #[.int .i64 a, .int .i64 i, .int .i64 n] 23)) := ⟨by go_simp, by go_simp, by go_simp, hb⟩
  by_cases hok : okG a i n
  · by_cases hk : k < 0
    · have RT := right_ok hok
      go_enter Try.func7, Try.ntmps7
      go_wp2_with (first | (go_at_call 13; refine (keep3 w.heap.size a i n w ?_ (RT _)).mono ?_; (first | exact L0 | exact ⟨k0, k1, k2, kb⟩); (try clear k0 k1 k2 kb); rintro e w1 ⟨rfl, k0, k1, k2, kb⟩))
      go_ret2
      exact ⟨ret2 (headV_out (by omega)) (headE_out hok (by omega)), kb⟩
    by_cases hk2 : n ≤ k
    · have RT := right_ok hok
      go_enter Try.func7, Try.ntmps7
      go_wp2_with (first | (go_at_call 13; refine (keep3 w.heap.size a i n w ?_ (RT _)).mono ?_; (first | exact L0 | exact ⟨k0, k1, k2, kb⟩); (try clear k0 k1 k2 kb); rintro e w1 ⟨rfl, k0, k1, k2, kb⟩))
      go_ret2
      exact ⟨ret2 (headV_out (by omega)) (headE_out hok (by omega)), kb⟩
    have RT := right_ok hok
    have hp := grp_le hok (by omega) (show k < n by omega)
    have HD := fun W => head_any a i n k W (by omega) (by omega)
    go_enter Try.func7, Try.ntmps7
    go_wp2_with (first | (go_at_call 13; refine (keep3 w.heap.size a i n w ?_ (RT _)).mono ?_; (first | exact L0 | exact ⟨k0, k1, k2, kb⟩); (try clear k0 k1 k2 kb); rintro e w1 ⟨rfl, k0, k1, k2, kb⟩) | (go_at_call 30; refine (keep3 w.heap.size a i n w ?_ (HD _)).mono ?_; (first | exact L0 | exact ⟨k0, k1, k2, kb⟩); (try clear k0 k1 k2 kb); rintro e w1 ⟨rfl, k0, k1, k2, kb⟩))
    go_ret2
    exact ⟨ret2 (headV_in hok (by omega) (by omega)) (headE_in hok (by omega) (by omega)), kb⟩
  · have RT := right_no hok
    go_enter Try.func7, Try.ntmps7
    go_wp2_with (first | (go_at_call 13; refine (keep3 w.heap.size a i n w ?_ (RT _)).mono ?_; (first | exact L0 | exact ⟨k0, k1, k2, kb⟩); (try clear k0 k1 k2 kb); rintro e w1 ⟨rfl, k0, k1, k2, kb⟩))
    go_ret2
    exact ⟨ret2 (headV_no hok) (headE_no hok), kb⟩
set_option maxHeartbeats 1000000 in
theorem rHead_any (a i n k : Int) (w : World) :
    Calls Try.prog 8 #[.agg #[.int .i64 a, .int .i64 i, .int .i64 n], .int .i64 k] w fun e w' => e = .returned (.tuple #[.int .i64 (headV a i n k), .int .i64 (headE a i n k)]) ∧ Below w.heap.size w w' := by
  have hb : Below w.heap.size w (w.alloc (.cells #[.int .i64 a, .int .i64 i, .int .i64 n] 23)) := (Below.refl _ _).alloc (Nat.le_refl _) _
  have L0 : Lies w w.heap.size a i n (w.alloc (.cells #[.int .i64 a, .int .i64 i, .int .i64 n] 23)) := ⟨by go_simp, by go_simp, by go_simp, hb⟩
  by_cases hok : okG a i n
  · by_cases hk : k < 0
    · have RT := rright_ok hok
      go_enter Try.func8, Try.ntmps8
      go_wp2_with (first | (go_at_call 14; refine (keep3 w.heap.size a i n w ?_ (RT _)).mono ?_; (first | exact L0 | exact ⟨k0, k1, k2, kb⟩); (try clear k0 k1 k2 kb); rintro e w1 ⟨rfl, k0, k1, k2, kb⟩))
      go_ret2
      exact ⟨ret2 (headV_out (by omega)) (headE_out hok (by omega)), kb⟩
    by_cases hk2 : n ≤ k
    · have RT := rright_ok hok
      go_enter Try.func8, Try.ntmps8
      go_wp2_with (first | (go_at_call 14; refine (keep3 w.heap.size a i n w ?_ (RT _)).mono ?_; (first | exact L0 | exact ⟨k0, k1, k2, kb⟩); (try clear k0 k1 k2 kb); rintro e w1 ⟨rfl, k0, k1, k2, kb⟩))
      go_ret2
      exact ⟨ret2 (headV_out (by omega)) (headE_out hok (by omega)), kb⟩
    have RT := rright_ok hok
    have hp := grp_le hok (by omega) (show k < n by omega)
    go_enter Try.func8, Try.ntmps8
    go_wp2_with (first | (go_at_call 14; refine (keep3 w.heap.size a i n w ?_ (RT _)).mono ?_; (first | exact L0 | exact ⟨k0, k1, k2, kb⟩); (try clear k0 k1 k2 kb); rintro e w1 ⟨rfl, k0, k1, k2, kb⟩))
    go_ret2
    exact ⟨ret2 (headV_in hok (by omega) (by omega)) (headE_in hok (by omega) (by omega)), kb⟩
  · have RT := rright_no hok
    go_enter Try.func8, Try.ntmps8
    go_wp2_with (first | (go_at_call 14; refine (keep3 w.heap.size a i n w ?_ (RT _)).mono ?_; (first | exact L0 | exact ⟨k0, k1, k2, kb⟩); (try clear k0 k1 k2 kb); rintro e w1 ⟨rfl, k0, k1, k2, kb⟩))
    go_ret2
    exact ⟨ret2 (headV_no hok) (headE_no hok), kb⟩
/-- The group of a slot. -/
def ofV (a i n s : Int) : Int := if okG a i n ∧ 0 ≤ s ∧ s < n * i then s / i else -1
theorem ofV_in {a i n s : Int} (h : okG a i n) (h0 : 0 ≤ s) (h1 : s < n * i) : s / i = ofV a i n s := (if_pos ⟨h, h0, h1⟩).symm
theorem ofV_out {a i n s : Int} (h : ¬ (0 ≤ s ∧ s < n * i)) : -1 = ofV a i n s := (if_neg (fun c => h c.2)).symm
theorem ofV_no {a i n s : Int} (h : ¬ okG a i n) : -1 = ofV a i n s := (if_neg (fun c => h c.1)).symm
theorem slots_ok {a i n : Int} (h : okG a i n) (w : World) : Calls Try.prog 17 #[.agg #[.int .i64 a, .int .i64 i, .int .i64 n]] w fun e w' => e = .returned (.int .i64 (n * i)) ∧ Below w.heap.size w w' := by
  have := slots_any a i n w; rw [if_pos h] at this; exact this
theorem slots_no {a i n : Int} (h : ¬ okG a i n) (w : World) : Calls Try.prog 17 #[.agg #[.int .i64 a, .int .i64 i, .int .i64 n]] w fun e w' => e = .returned (.int .i64 0) ∧ Below w.heap.size w w' := by
  have := slots_any a i n w; rw [if_neg h] at this; exact this
theorem rslots_ok {a i n : Int} (h : okG a i n) (w : World) : Calls Try.prog 18 #[.agg #[.int .i64 a, .int .i64 i, .int .i64 n]] w fun e w' => e = .returned (.int .i64 (n * i)) ∧ Below w.heap.size w w' := by
  have := rslots_any a i n w; rw [if_pos h] at this; exact this
theorem size_ok {a i n : Int} (h : okG a i n) (w : World) : Calls Try.prog 15 #[.agg #[.int .i64 a, .int .i64 i, .int .i64 n]] w fun e w' => e = .returned (.int .i64 (2 + n * a)) ∧ Below w.heap.size w w' := by
  have := size_any a i n w; rw [if_pos h] at this; exact this
theorem size_no {a i n : Int} (h : ¬ okG a i n) (w : World) : Calls Try.prog 15 #[.agg #[.int .i64 a, .int .i64 i, .int .i64 n]] w fun e w' => e = .returned (.int .i64 0) ∧ Below w.heap.size w w' := by
  have := size_any a i n w; rw [if_neg h] at this; exact this
theorem rsize_ok {a i n : Int} (h : okG a i n) (w : World) : Calls Try.prog 16 #[.agg #[.int .i64 a, .int .i64 i, .int .i64 n]] w fun e w' => e = .returned (.int .i64 (2 + n * a)) ∧ Below w.heap.size w w' := by
  have := rsize_any a i n w; rw [if_pos h] at this; exact this
set_option maxHeartbeats 1000000 in
theorem of_any (a i n s : Int) (w : World) :
    Calls Try.prog 28 #[.agg #[.int .i64 a, .int .i64 i, .int .i64 n], .int .i64 s] w fun e w' => e = .returned (.int .i64 (ofV a i n s)) ∧ Below w.heap.size w w' := by
  have hb : Below w.heap.size w (w.alloc (.cells #[.int .i64 a, .int .i64 i, .int .i64 n] 23)) := (Below.refl _ _).alloc (Nat.le_refl _) _
  have L0 : Lies w w.heap.size a i n (w.alloc (.cells #[.int .i64 a, .int .i64 i, .int .i64 n] 23)) := ⟨by go_simp, by go_simp, by go_simp, hb⟩
  by_cases hs : s < 0
  · go_enter Try.func28, Try.ntmps28
    go_wp2_with (first | fail)
    go_ret
    exact ⟨ret1 (ofV_out (by omega)), hb⟩
  by_cases hok : okG a i n
  · have hp2 := hok.prod2
    have SL := slots_ok hok
    by_cases hs2 : n * i ≤ s
    · go_enter Try.func28, Try.ntmps28
      go_wp2_with (first | (go_at_call 17; refine (keep3 w.heap.size a i n w ?_ (SL _)).mono ?_; (first | exact L0 | exact ⟨k0, k1, k2, kb⟩); (try clear k0 k1 k2 kb); rintro e w1 ⟨rfl, k0, k1, k2, kb⟩))
      go_ret
      exact ⟨ret1 (ofV_out (by omega)), kb⟩
    have hi : 4 ≤ i ∧ i ≤ 64 := hok.box.2.2
    go_enter Try.func28, Try.ntmps28
    go_wp2_with (first | (go_at_call 17; refine (keep3 w.heap.size a i n w ?_ (SL _)).mono ?_; (first | exact L0 | exact ⟨k0, k1, k2, kb⟩); (try clear k0 k1 k2 kb); rintro e w1 ⟨rfl, k0, k1, k2, kb⟩))
    go_ret
    exact ⟨ret1 (ofV_in hok (by omega) (by omega)), kb⟩
  · have SL := slots_no hok
    go_enter Try.func28, Try.ntmps28
    go_wp2_with (first | (go_at_call 17; refine (keep3 w.heap.size a i n w ?_ (SL _)).mono ?_; (first | exact L0 | exact ⟨k0, k1, k2, kb⟩); (try clear k0 k1 k2 kb); rintro e w1 ⟨rfl, k0, k1, k2, kb⟩))
    go_ret
    exact ⟨ret1 (ofV_no hok), kb⟩
end Go.Proofs.Ytojchlmpddolkaa
