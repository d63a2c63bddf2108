/- Package geo and the document's answer: the small functions. -/
import Derived.Test.YtkiifmnmeikdlaaGreatDoorJCBase9
import Derived.OwnWalk
import Derived.Laws.ResultCell
import Derived.Laws.Rows
import Derived.Lib.BufferWrite
namespace Go.Proofs.YtkiifmnmeikdlaaGreatDoor
open Go.RowKit
set_option maxRecDepth 100000
theorem right_ok {a i n : Int} (h : okG a i n) (w : World) : Calls Tryz.prog 51 #[.agg #[.int .i64 a, .int .i64 i, .int .i64 n]] w fun e w' => e = .returned (.bool true) ∧ Below w.heap.size w w' := by
  have := right_any a i n w; rw [show okB a i n = true from h] at this; exact this
theorem right_no {a i n : Int} (h : ¬ okG a i n) (w : World) : Calls Tryz.prog 51 #[.agg #[.int .i64 a, .int .i64 i, .int .i64 n]] w fun e w' => e = .returned (.bool false) ∧ Below w.heap.size w w' := by
  have := right_any a i n w; rw [show okB a i n = false from by simpa using h] at this; exact this
theorem okG.prod {a i n : Int} (h : okG a i n) : 16 ≤ n * a ∧ n * a ≤ 2048 := by
  obtain ⟨h1, h2, _, _, _, h3, h4, _⟩ := okG_iff.1 h
  refine ⟨?_, (prod_le (by omega) h4 (by omega) h2).2⟩
  have := Int.mul_le_mul_of_nonneg_right h3 (show 0 ≤ a by omega); omega
theorem okG.prod2 {a i n : Int} (h : okG a i n) : 4 ≤ n * i ∧ n * i ≤ 1024 := by
  obtain ⟨h1, h2, h5, h6, _, h3, h4, _⟩ := okG_iff.1 h
  refine ⟨?_, ?_⟩
  · have := Int.mul_le_mul_of_nonneg_right h3 (show 0 ≤ i by omega); omega
  · have := Int.mul_le_mul h4 h6 (by omega) (by omega); omega
set_option maxHeartbeats 1000000 in
theorem size_any (a i n : Int) (w : World) :
    Calls Tryz.prog 37 #[.agg #[.int .i64 a, .int .i64 i, .int .i64 n]] w fun e w' => e = .returned (.int .i64 (if okG a i n then 2 + n * a else 0)) ∧ Below w.heap.size w w' := by
  have hb : Below w.heap.size w (w.alloc (.cells #[.int .i64 a, .int .i64 i, .int .i64 n] 23)) := (Below.refl _ _).alloc (Nat.le_refl _) _
  have L0 : Lies w w.heap.size a i n (w.alloc (.cells #[.int .i64 a, .int .i64 i, .int .i64 n] 23)) := ⟨by go_simp, by go_simp, by go_simp, hb⟩
  by_cases hok : okG a i n
  · have RT := right_ok hok
    rw [if_pos hok]
    have hp := hok.prod
    have hp2 := hok.prod2
    rw [okG_iff] at hok
    have HD := fun W => head_any a i n n W (by omega) (by omega)
    go_enter Tryz.func37, Tryz.ntmps37
    go_wp2_with (first | (go_at_call 51; refine (keep3 w.heap.size a i n w L0 (RT _)).mono ?_; rintro e w1 ⟨rfl, k0, k1, k2, kb⟩) | (go_at_call 53; refine (keep3 w.heap.size a i n w ⟨k0, k1, k2, kb⟩ (HD _)).mono ?_; clear k0 k1 k2 kb; rintro e w2 ⟨rfl, k0, k1, k2, kb⟩))
    go_ret
    exact ⟨rfl, kb⟩
  · have RT := right_no hok
    rw [if_neg hok]
    go_enter Tryz.func37, Tryz.ntmps37
    go_wp2_with (first | (go_at_call 51; refine (keep3 w.heap.size a i n w L0 (RT _)).mono ?_; rintro e w1 ⟨rfl, k0, k1, k2, kb⟩))
    go_ret
    exact ⟨rfl, kb⟩
set_option maxHeartbeats 1000000 in
theorem slots_any (a i n : Int) (w : World) :
    Calls Tryz.prog 48 #[.agg #[.int .i64 a, .int .i64 i, .int .i64 n]] w fun e w' => e = .returned (.int .i64 (if okG a i n then n * i else 0)) ∧ Below w.heap.size w w' := by
  have hb : Below w.heap.size w (w.alloc (.cells #[.int .i64 a, .int .i64 i, .int .i64 n] 23)) := (Below.refl _ _).alloc (Nat.le_refl _) _
  have L0 : Lies w w.heap.size a i n (w.alloc (.cells #[.int .i64 a, .int .i64 i, .int .i64 n] 23)) := ⟨by go_simp, by go_simp, by go_simp, hb⟩
  by_cases hok : okG a i n
  · have RT := right_ok hok
    rw [if_pos hok]
    have hp := hok.prod
    have hp2 := hok.prod2
    rw [okG_iff] at hok
    go_enter Tryz.func48, Tryz.ntmps48
    go_wp2_with (first | (go_at_call 51; refine (keep3 w.heap.size a i n w L0 (RT _)).mono ?_; rintro e w1 ⟨rfl, k0, k1, k2, kb⟩))
    go_ret
    exact ⟨rfl, kb⟩
  · have RT := right_no hok
    rw [if_neg hok]
    go_enter Tryz.func48, Tryz.ntmps48
    go_wp2_with (first | (go_at_call 51; refine (keep3 w.heap.size a i n w L0 (RT _)).mono ?_; rintro e w1 ⟨rfl, k0, k1, k2, kb⟩))
    go_ret
    exact ⟨rfl, kb⟩
set_option maxHeartbeats 1000000 in
theorem tables_any (a i n : Int) (w : World) :
    Calls Tryz.prog 70 #[.agg #[.int .i64 a, .int .i64 i, .int .i64 n]] w fun e w' => e = .returned (.int .i64 (if okG a i n then i / 4 else 0)) ∧ Below w.heap.size w w' := by
  have hb : Below w.heap.size w (w.alloc (.cells #[.int .i64 a, .int .i64 i, .int .i64 n] 23)) := (Below.refl _ _).alloc (Nat.le_refl _) _
  have L0 : Lies w w.heap.size a i n (w.alloc (.cells #[.int .i64 a, .int .i64 i, .int .i64 n] 23)) := ⟨by go_simp, by go_simp, by go_simp, hb⟩
  by_cases hok : okG a i n
  · have RT := right_ok hok
    rw [if_pos hok]
    have hp := hok.prod
    have hp2 := hok.prod2
    rw [okG_iff] at hok
    go_enter Tryz.func70, Tryz.ntmps70
    go_wp2_with (first | (go_at_call 51; refine (keep3 w.heap.size a i n w L0 (RT _)).mono ?_; rintro e w1 ⟨rfl, k0, k1, k2, kb⟩))
    go_ret
    exact ⟨rfl, kb⟩
  · have RT := right_no hok
    rw [if_neg hok]
    go_enter Tryz.func70, Tryz.ntmps70
    go_wp2_with (first | (go_at_call 51; refine (keep3 w.heap.size a i n w L0 (RT _)).mono ?_; rintro e w1 ⟨rfl, k0, k1, k2, kb⟩))
    go_ret
    exact ⟨rfl, kb⟩
end Go.Proofs.YtkiifmnmeikdlaaGreatDoor
/- Package geo and the document's answer: groups, slots, blocks. -/
namespace Go.Proofs.YtkiifmnmeikdlaaGreatDoor
open Go.RowKit
set_option maxRecDepth 100000
theorem ret1 {x x' : Int} (hx : x' = x) : Ending.returned (.int .i64 x') = .returned (.int .i64 x) := by rw [hx]
theorem ret2 {x x' y y' : Int} (hx : x' = x) (hy : y' = y) : Ending.returned (.tuple #[.int .i64 x', .int .i64 y']) = .returned (.tuple #[.int .i64 x, .int .i64 y]) := by rw [hx, hy]
theorem ret3 {x x' y y' z z' : Int} (hx : x' = x) (hy : y' = y) (hz : z' = z) : Ending.returned (.tuple #[.int .i64 x', .int .i64 y', .int .i64 z']) = .returned (.tuple #[.int .i64 x, .int .i64 y, .int .i64 z]) := by rw [hx, hy, hz]
/-- What Head answers. -/
def headV (a i n k : Int) : Int := if okG a i n ∧ 0 ≤ k ∧ k < n then 2 + k * a else 0
def headE (a i n k : Int) : Int := if ¬ okG a i n then 1 else if 0 ≤ k ∧ k < n then 0 else 3
theorem headV_in {a i n k : Int} (h : okG a i n) (h0 : 0 ≤ k) (h1 : k < n) : 2 + k * a = headV a i n k := (if_pos ⟨h, h0, h1⟩).symm
theorem headE_in {a i n k : Int} (h : okG a i n) (h0 : 0 ≤ k) (h1 : k < n) : 0 = headE a i n k := by rw [headE, if_neg (fun c => c h), if_pos ⟨h0, h1⟩]
theorem headV_out {a i n k : Int} (h : ¬ (0 ≤ k ∧ k < n)) : 0 = headV a i n k := (if_neg (fun c => h c.2)).symm
theorem headE_out {a i n k : Int} (h0 : okG a i n) (h : ¬ (0 ≤ k ∧ k < n)) : 3 = headE a i n k := by rw [headE, if_neg (fun c => c h0), if_neg h]
theorem headV_no {a i n k : Int} (h : ¬ okG a i n) : 0 = headV a i n k := (if_neg (fun c => h c.1)).symm
theorem headE_no {a i n k : Int} (h : ¬ okG a i n) : 1 = headE a i n k := (if_pos h).symm
theorem grp_le {a i n k : Int} (h : okG a i n) (h0 : 0 ≤ k) (h1 : k < n) : 0 ≤ k * a ∧ k * a ≤ 2048 := by
  obtain ⟨g1, g2, _, _, _, g3, g4, _⟩ := okG_iff.1 h; exact prod_le h0 (by omega) (by omega) g2
set_option maxHeartbeats 1000000 in
theorem Head_any (a i n k : Int) (w : World) :
    Calls Tryz.prog 32 #[.agg #[.int .i64 a, .int .i64 i, .int .i64 n], .int .i64 k] w fun e w' => e = .returned (.tuple #[.int .i64 (headV a i n k), .int .i64 (headE a i n k)]) ∧ Below w.heap.size w w' := by
  have hb : Below w.heap.size w (w.alloc (.cells #[.int .i64 a, .int .i64 i, .int .i64 n] 23)) := (Below.refl _ _).alloc (Nat.le_refl _) _
  have L0 : Lies w w.heap.size a i n (w.alloc (.cells #[.int .i64 a, .int .i64 i, .int .i64 n] 23)) := ⟨by go_simp, by go_simp, by go_simp, hb⟩
  by_cases hok : okG a i n
  · by_cases hk : k < 0
    · have RT := right_ok hok
      go_enter Tryz.func32, Tryz.ntmps32
      go_wp2_with (first | (go_at_call 51; refine (keep3 w.heap.size a i n w ?_ (RT _)).mono ?_; (first | exact L0 | exact ⟨k0, k1, k2, kb⟩); (try clear k0 k1 k2 kb); rintro e w1 ⟨rfl, k0, k1, k2, kb⟩))
      go_ret2
      exact ⟨ret2 (headV_out (by omega)) (headE_out hok (by omega)), kb⟩
    by_cases hk2 : n ≤ k
    · have RT := right_ok hok
      go_enter Tryz.func32, Tryz.ntmps32
      go_wp2_with (first | (go_at_call 51; refine (keep3 w.heap.size a i n w ?_ (RT _)).mono ?_; (first | exact L0 | exact ⟨k0, k1, k2, kb⟩); (try clear k0 k1 k2 kb); rintro e w1 ⟨rfl, k0, k1, k2, kb⟩))
      go_ret2
      exact ⟨ret2 (headV_out (by omega)) (headE_out hok (by omega)), kb⟩
    have RT := right_ok hok
    have hp := grp_le hok (by omega) (show k < n by omega)
    have HD := fun W => head_any a i n k W (by omega) (by omega)
    go_enter Tryz.func32, Tryz.ntmps32
    go_wp2_with (first | (go_at_call 51; refine (keep3 w.heap.size a i n w ?_ (RT _)).mono ?_; (first | exact L0 | exact ⟨k0, k1, k2, kb⟩); (try clear k0 k1 k2 kb); rintro e w1 ⟨rfl, k0, k1, k2, kb⟩) | (go_at_call 53; refine (keep3 w.heap.size a i n w ?_ (HD _)).mono ?_; (first | exact L0 | exact ⟨k0, k1, k2, kb⟩); (try clear k0 k1 k2 kb); rintro e w1 ⟨rfl, k0, k1, k2, kb⟩))
    go_ret2
    exact ⟨ret2 (headV_in hok (by omega) (by omega)) (headE_in hok (by omega) (by omega)), kb⟩
  · have RT := right_no hok
    go_enter Tryz.func32, Tryz.ntmps32
    go_wp2_with (first | (go_at_call 51; refine (keep3 w.heap.size a i n w ?_ (RT _)).mono ?_; (first | exact L0 | exact ⟨k0, k1, k2, kb⟩); (try clear k0 k1 k2 kb); rintro e w1 ⟨rfl, k0, k1, k2, kb⟩))
    go_ret2
    exact ⟨ret2 (headV_no hok) (headE_no hok), kb⟩
/-- The group of a slot. -/
def ofV (a i n s : Int) : Int := if okG a i n ∧ 0 ≤ s ∧ s < n * i then s / i else -1
theorem ofV_in {a i n s : Int} (h : okG a i n) (h0 : 0 ≤ s) (h1 : s < n * i) : s / i = ofV a i n s := (if_pos ⟨h, h0, h1⟩).symm
theorem ofV_out {a i n s : Int} (h : ¬ (0 ≤ s ∧ s < n * i)) : -1 = ofV a i n s := (if_neg (fun c => h c.2)).symm
theorem ofV_no {a i n s : Int} (h : ¬ okG a i n) : -1 = ofV a i n s := (if_neg (fun c => h c.1)).symm
theorem slots_ok {a i n : Int} (h : okG a i n) (w : World) : Calls Tryz.prog 48 #[.agg #[.int .i64 a, .int .i64 i, .int .i64 n]] w fun e w' => e = .returned (.int .i64 (n * i)) ∧ Below w.heap.size w w' := by
  have := slots_any a i n w; rw [if_pos h] at this; exact this
theorem slots_no {a i n : Int} (h : ¬ okG a i n) (w : World) : Calls Tryz.prog 48 #[.agg #[.int .i64 a, .int .i64 i, .int .i64 n]] w fun e w' => e = .returned (.int .i64 0) ∧ Below w.heap.size w w' := by
  have := slots_any a i n w; rw [if_neg h] at this; exact this
set_option maxHeartbeats 1000000 in
theorem of_any (a i n s : Int) (w : World) :
    Calls Tryz.prog 52 #[.agg #[.int .i64 a, .int .i64 i, .int .i64 n], .int .i64 s] w fun e w' => e = .returned (.int .i64 (ofV a i n s)) ∧ Below w.heap.size w w' := by
  have hb : Below w.heap.size w (w.alloc (.cells #[.int .i64 a, .int .i64 i, .int .i64 n] 23)) := (Below.refl _ _).alloc (Nat.le_refl _) _
  have L0 : Lies w w.heap.size a i n (w.alloc (.cells #[.int .i64 a, .int .i64 i, .int .i64 n] 23)) := ⟨by go_simp, by go_simp, by go_simp, hb⟩
  by_cases hs : s < 0
  · go_enter Tryz.func52, Tryz.ntmps52
    go_wp2_with (first | fail)
    go_ret
    exact ⟨ret1 (ofV_out (by omega)), hb⟩
  by_cases hok : okG a i n
  · have hp2 := hok.prod2
    have SL := slots_ok hok
    by_cases hs2 : n * i ≤ s
    · go_enter Tryz.func52, Tryz.ntmps52
      go_wp2_with (first | (go_at_call 48; refine (keep3 w.heap.size a i n w ?_ (SL _)).mono ?_; (first | exact L0 | exact ⟨k0, k1, k2, kb⟩); (try clear k0 k1 k2 kb); rintro e w1 ⟨rfl, k0, k1, k2, kb⟩))
      go_ret
      exact ⟨ret1 (ofV_out (by omega)), kb⟩
    have hi : 4 ≤ i ∧ i ≤ 64 := hok.box.2.2
    go_enter Tryz.func52, Tryz.ntmps52
    go_wp2_with (first | (go_at_call 48; refine (keep3 w.heap.size a i n w ?_ (SL _)).mono ?_; (first | exact L0 | exact ⟨k0, k1, k2, kb⟩); (try clear k0 k1 k2 kb); rintro e w1 ⟨rfl, k0, k1, k2, kb⟩))
    go_ret
    exact ⟨ret1 (ofV_in hok (by omega) (by omega)), kb⟩
  · have SL := slots_no hok
    go_enter Tryz.func52, Tryz.ntmps52
    go_wp2_with (first | (go_at_call 48; refine (keep3 w.heap.size a i n w ?_ (SL _)).mono ?_; (first | exact L0 | exact ⟨k0, k1, k2, kb⟩); (try clear k0 k1 k2 kb); rintro e w1 ⟨rfl, k0, k1, k2, kb⟩))
    go_ret
    exact ⟨ret1 (ofV_no hok), kb⟩
end Go.Proofs.YtkiifmnmeikdlaaGreatDoor
/- Package geo and the document's answer: data blocks, the group of a slot. -/
namespace Go.Proofs.YtkiifmnmeikdlaaGreatDoor
open Go.RowKit
set_option maxRecDepth 100000
abbrev Pos0 (x : Int) : Prop := Nonempty (0 ≤ x)
theorem tdiv4 (x : Int) [h : Pos0 x] : x.tdiv 4 = x / 4 := h.elim Int.tdiv_eq_ediv_of_nonneg
attribute [local go_sem] wrapI decF decT tdiv4
end Go.Proofs.YtkiifmnmeikdlaaGreatDoor
/- Package geo and the document's answer: what a block is. -/
namespace Go.Proofs.YtkiifmnmeikdlaaGreatDoor
open Go.RowKit
set_option maxRecDepth 100000
/-- A block of the groups: its group and its place there. -/
theorem parts {a n x : Int} (ha : 16 ≤ a) (h0 : 0 ≤ x) (h1 : x < n * a) : ∃ q r, x / a = q ∧ x % a = r ∧ q * a + r = x ∧ 0 ≤ r ∧ r < a ∧ 0 ≤ q ∧ q < n := by
  refine ⟨x / a, x % a, rfl, rfl, ?_, Int.emod_nonneg _ (by omega), Int.emod_lt_of_pos _ (by omega), Int.ediv_nonneg h0 (by omega), Int.ediv_lt_of_lt_mul (by omega) h1⟩
  have := Int.mul_ediv_add_emod x a
  rw [Int.mul_comm] at this; exact this
end Go.Proofs.YtkiifmnmeikdlaaGreatDoor
/- Package geo and the document's answer: where a slot stands, and which slot stands there. -/
namespace Go.Proofs.YtkiifmnmeikdlaaGreatDoor
open Go.RowKit
set_option maxRecDepth 100000
/-- Where a slot stands. -/
def placeB (a i n s : Int) : Int := if okG a i n ∧ 0 ≤ s ∧ s < n * i then 2 + s / i * a + 1 + s % i / 4 else 0
def placeP (a i n s : Int) : Int := if okG a i n ∧ 0 ≤ s ∧ s < n * i then s % i % 4 else 0
def placeE (a i n s : Int) : Int := if ¬ okG a i n then 1 else if 0 ≤ s ∧ s < n * i then 0 else 3
theorem placeB_in {a i n s : Int} (h : okG a i n ∧ 0 ≤ s ∧ s < n * i) : 2 + s / i * a + 1 + s % i / 4 = placeB a i n s := (if_pos h).symm
theorem placeP_in {a i n s : Int} (h : okG a i n ∧ 0 ≤ s ∧ s < n * i) : s % i % 4 = placeP a i n s := (if_pos h).symm
theorem placeE_in {a i n s : Int} (h : okG a i n ∧ 0 ≤ s ∧ s < n * i) : 0 = placeE a i n s := by rw [placeE, if_neg (fun c => c h.1), if_pos h.2]
theorem placeB_out {a i n s : Int} (h : ¬ (okG a i n ∧ 0 ≤ s ∧ s < n * i)) : 0 = placeB a i n s := (if_neg h).symm
theorem placeP_out {a i n s : Int} (h : ¬ (okG a i n ∧ 0 ≤ s ∧ s < n * i)) : 0 = placeP a i n s := (if_neg h).symm
theorem placeE_out {a i n s : Int} (h0 : okG a i n) (h : ¬ (0 ≤ s ∧ s < n * i)) : 3 = placeE a i n s := by rw [placeE, if_neg (fun c => c h0), if_neg h]
theorem placeE_no {a i n s : Int} (h : ¬ okG a i n) : 1 = placeE a i n s := (if_pos h).symm
theorem of_ok {a i n s : Int} (h : okG a i n ∧ 0 ≤ s ∧ s < n * i) (w : World) : Calls Tryz.prog 52 #[.agg #[.int .i64 a, .int .i64 i, .int .i64 n], .int .i64 s] w fun e w' => e = .returned (.int .i64 (s / i)) ∧ Below w.heap.size w w' := by
  have := of_any a i n s w; rw [← ofV_in h.1 h.2.1 h.2.2] at this; exact this
theorem of_out {a i n s : Int} (h : ¬ (0 ≤ s ∧ s < n * i)) (w : World) : Calls Tryz.prog 52 #[.agg #[.int .i64 a, .int .i64 i, .int .i64 n], .int .i64 s] w fun e w' => e = .returned (.int .i64 (-1)) ∧ Below w.heap.size w w' := by
  have := of_any a i n s w; rw [← ofV_out h] at this; exact this
theorem slot_in {a i n s : Int} (h : okG a i n ∧ 0 ≤ s ∧ s < n * i) : 0 ≤ s / i ∧ s / i < n ∧ 0 ≤ s % i ∧ s % i < i := by
  have h4 : 4 ≤ i := h.1.box.2.2.1
  exact ⟨Int.ediv_nonneg h.2.1 (by omega), Int.ediv_lt_of_lt_mul (by omega) h.2.2, Int.emod_nonneg _ (by omega), Int.emod_lt_of_pos _ (by omega)⟩
set_option maxHeartbeats 1000000 in
theorem place_any (a i n s : Int) (w : World) :
    Calls Tryz.prog 28 #[.agg #[.int .i64 a, .int .i64 i, .int .i64 n], .int .i64 s] w fun e w' => e = .returned (.tuple #[.int .i64 (placeB a i n s), .int .i64 (placeP a i n s), .int .i64 (placeE a i n s)]) ∧ Below w.heap.size w w' := by
  have hb : Below w.heap.size w (w.alloc (.cells #[.int .i64 a, .int .i64 i, .int .i64 n] 23)) := (Below.refl _ _).alloc (Nat.le_refl _) _
  have L0 : Lies w w.heap.size a i n (w.alloc (.cells #[.int .i64 a, .int .i64 i, .int .i64 n] 23)) := ⟨by go_simp, by go_simp, by go_simp, hb⟩
  by_cases hok : okG a i n
  · have RT := right_ok hok
    have hq0 : 16 ≤ a ∧ a ≤ 128 ∧ 4 ≤ i ∧ i ≤ 64 := hok.box
    by_cases hs : 0 ≤ s ∧ s < n * i
    · have hin : okG a i n ∧ 0 ≤ s ∧ s < n * i := ⟨hok, hs⟩
      have OF := of_ok hin
      obtain ⟨g0, g1, g2, g3⟩ := slot_in hin
      have hgl := grp_le hok g0 g1
      have HD := fun W => head_any a i n (s / i) W (by omega) (by omega)
      obtain ⟨hs0, hs1⟩ := hs
      rw [← placeB_in hin, ← placeP_in hin, ← placeE_in hin]
      clear hin
      go_enter Tryz.func28, Tryz.ntmps28
      go_wp2_with (first | (go_at_call 51; refine (keep3 w.heap.size a i n w ?_ (RT _)).mono ?_; (first | exact L0 | exact ⟨k0, k1, k2, kb⟩); (try clear k0 k1 k2 kb); rintro e w1 ⟨rfl, k0, k1, k2, kb⟩) | (go_at_call 52; refine (keep3 w.heap.size a i n w ?_ (OF _)).mono ?_; (first | exact L0 | exact ⟨k0, k1, k2, kb⟩); (try clear k0 k1 k2 kb); rintro e w1 ⟨rfl, k0, k1, k2, kb⟩) | (go_at_call 53; refine (keep3 w.heap.size a i n w ?_ (HD _)).mono ?_; (first | exact L0 | exact ⟨k0, k1, k2, kb⟩); (try clear k0 k1 k2 kb); rintro e w1 ⟨rfl, k0, k1, k2, kb⟩))
      go_ret3
      exact ⟨rfl, kb⟩
    · have OF := of_out (a := a) hs
      go_enter Tryz.func28, Tryz.ntmps28
      go_wp2_with (first | (go_at_call 51; refine (keep3 w.heap.size a i n w ?_ (RT _)).mono ?_; (first | exact L0 | exact ⟨k0, k1, k2, kb⟩); (try clear k0 k1 k2 kb); rintro e w1 ⟨rfl, k0, k1, k2, kb⟩) | (go_at_call 52; refine (keep3 w.heap.size a i n w ?_ (OF _)).mono ?_; (first | exact L0 | exact ⟨k0, k1, k2, kb⟩); (try clear k0 k1 k2 kb); rintro e w1 ⟨rfl, k0, k1, k2, kb⟩))
      go_ret3
      exact ⟨ret3 (placeB_out (fun c => hs c.2)) (placeP_out (fun c => hs c.2)) (placeE_out hok hs), kb⟩
  · have RT := right_no hok
    go_enter Tryz.func28, Tryz.ntmps28
    go_wp2_with (first | (go_at_call 51; refine (keep3 w.heap.size a i n w ?_ (RT _)).mono ?_; (first | exact L0 | exact ⟨k0, k1, k2, kb⟩); (try clear k0 k1 k2 kb); rintro e w1 ⟨rfl, k0, k1, k2, kb⟩))
    go_ret3
    exact ⟨ret3 (placeB_out (fun c => hok c.1)) (placeP_out (fun c => hok c.1)) (placeE_no hok), kb⟩
attribute [local go_sem] wrapI decF decT tdiv4
end Go.Proofs.YtkiifmnmeikdlaaGreatDoor
/- Package super: right, place; the law's given and taken. -/
namespace Go.Proofs.YtkiifmnmeikdlaaGreatDoor
open Go.RowKit
set_option maxRecDepth 100000
/-- A superblock that can be. -/
def okS (g a i n : Int) : Bool := decide (1 ≤ g) && decide (g ≤ 4611686018427387904) && okB a i n
theorem okS_iff {g a i n : Int} : okS g a i n = true ↔ (1 ≤ g ∧ g ≤ 4611686018427387904 ∧ okG a i n) := by
  simp [okS, and_assoc]
theorem retb {x y : Bool} (h : x = y) : Ending.returned (.bool x) = .returned (.bool y) := by rw [h]
/-- A row of four numbers. -/
def Row4 (w : World) (p : Nat) (t : TypeId) (g a i n : Int) : Prop := w.heap[p]? = some (.cells #[.int .i64 g, .int .i64 a, .int .i64 i, .int .i64 n] t)
theorem Row4.below {w w' : World} {p B : Nat} {t : TypeId} {g a i n : Int} (h : Row4 w p t g a i n) (hb : Below B w w') (hp : p < B) : Row4 w' p t g a i n := (hb.block p hp).trans h
theorem Row4.lt {w : World} {p : Nat} {t : TypeId} {g a i n : Int} (h : Row4 w p t g a i n) : p < w.heap.size := (Array.getElem?_eq_some_iff.1 h).1
theorem Row4.up {w w' : World} {p : Nat} {t : TypeId} {g a i n : Int} (h : Row4 w p t g a i n) (hb : Below w.heap.size w w') : Row4 w' p t g a i n := h.below hb h.lt
theorem Row4.c0 {w : World} {p : Nat} {t : TypeId} {g a i n : Int} (h : Row4 w p t g a i n) : w.cell? ⟨p, 0, none⟩ = some (.int .i64 g) := by rw [cell_of_row w p 0 _ _ _ h]; rfl
theorem Row4.c1 {w : World} {p : Nat} {t : TypeId} {g a i n : Int} (h : Row4 w p t g a i n) : w.cell? ⟨p, 1, none⟩ = some (.int .i64 a) := by rw [cell_of_row w p 1 _ _ _ h]; rfl
theorem Row4.c2 {w : World} {p : Nat} {t : TypeId} {g a i n : Int} (h : Row4 w p t g a i n) : w.cell? ⟨p, 2, none⟩ = some (.int .i64 i) := by rw [cell_of_row w p 2 _ _ _ h]; rfl
theorem Row4.c3 {w : World} {p : Nat} {t : TypeId} {g a i n : Int} (h : Row4 w p t g a i n) : w.cell? ⟨p, 3, none⟩ = some (.int .i64 n) := by rw [cell_of_row w p 3 _ _ _ h]; rfl
theorem Row4.fr {w : World} {p : Nat} {t : TypeId} {g a i n : Int} (h : Row4 w p t g a i n) (j : Nat) : w.frozen? ⟨p, j, none⟩ = false := frozen_of_row w p j _ _ h
set_option maxHeartbeats 1000000 in
theorem sright_any (g a i n : Int) (w : World) :
    Calls Tryz.prog 74 #[.agg #[.int .i64 g, .int .i64 a, .int .i64 i, .int .i64 n]] w fun e w' => e = .returned (.bool (okS g a i n)) ∧ Below w.heap.size w w' := by
  have hb : Below w.heap.size w (w.alloc (.cells #[.int .i64 g, .int .i64 a, .int .i64 i, .int .i64 n] 58)) := (Below.refl _ _).alloc (Nat.le_refl _) _
  have RT := right_any a i n
  by_cases h1 : g < 1
  · go_enter Tryz.func74, Tryz.ntmps74
    go_wp2
    go_ret
    exact ⟨retb (by rw [okS, decide_eq_false (show ¬ 1 ≤ g by omega)]; rfl), hb⟩
  by_cases h2 : 4611686018427387904 < g
  · go_enter Tryz.func74, Tryz.ntmps74
    go_wp2
    go_ret
    exact ⟨retb (by rw [okS, decide_eq_false (show ¬ g ≤ 4611686018427387904 by omega), Bool.and_false]; rfl), hb⟩
  · have HE : Hid (okS g a i n = okB a i n) := by show _ = _; rw [okS, decide_eq_true (show 1 ≤ g by omega), decide_eq_true (show g ≤ 4611686018427387904 by omega)]; rfl
    generalize okB a i n = o at RT HE
    go_enter Tryz.func74, Tryz.ntmps74
    go_wp2_with fail
    refine (RT _).mono ?_
    rintro e w1 ⟨rfl, hb1⟩
    go_wp2
    go_ret
    exact ⟨retb HE.out.symm, hb.trans (hb1.mono hb.size)⟩
set_option maxHeartbeats 1000000 in
theorem splace_any (g a i n : Int) (w : World) (h0 : 0 ≤ g) :
    Calls Tryz.prog 75 #[.agg #[.int .i64 g, .int .i64 a, .int .i64 i, .int .i64 n]] w fun e w' => e = .returned (.int .i64 (g % 2)) ∧ Below w.heap.size w w' := by
  have hb : Below w.heap.size w (w.alloc (.cells #[.int .i64 g, .int .i64 a, .int .i64 i, .int .i64 n] 58)) := (Below.refl _ _).alloc (Nat.le_refl _) _
  go_enter Tryz.func75, Tryz.ntmps75
  go_wp2
  go_ret
  exact ⟨rfl, hb⟩
theorem Tryz.sz58 : (Tryz.prog.info? 58).map (·.size) = some 4 := by kernel_rfl
theorem two_allocs (w : World) (A B : Obj) : Below w.heap.size w ((w.alloc A).alloc B) :=
  ((Below.refl _ _).alloc (Nat.le_refl _) _).alloc (by show _ ≤ (w.heap.push A).size; simp) _
end Go.Proofs.YtkiifmnmeikdlaaGreatDoor
/- num.Sum, for every slice of bytes, the table of four bits laid as the program lays it. -/
namespace Go.Proofs.YtkiifmnmeikdlaaGreatDoor
open Go.RowKit
set_option maxRecDepth 100000
def tab : List Nat := [0, 498536548, 997073096, 651767980, 1994146192, 1802195444, 1303535960, 1342533948, 3988292384, 4027552580, 3604390888, 3412177804, 2607071920, 2262029012, 2685067896, 3183342108]
def tabAt (i : Nat) : Nat := tab.getD i 0
theorem tabAt_lt (i : Nat) : tabAt i < 4294967296 := by
  unfold tabAt
  rw [List.getD_eq_getElem?_getD]
  rcases Nat.lt_or_ge i tab.length with h | h
  · rw [List.getElem?_eq_getElem h]
    have : ∀ x ∈ tab, x < 4294967296 := by decide
    exact this _ (List.getElem_mem h)
  · rw [List.getElem?_eq_none h]; simp
/-- The package's table lies as its text lays it. -/
def Tab (w : World) : Prop := ∀ i, i < 16 → w.cell? ⟨0, i, none⟩ = some (.int .u32 (tabAt i : Int))
theorem Tab.below {w w' : World} (h : Tab w) {B : Nat} (hb : Below B w w') (hB : 0 < B) : Tab w' := fun i hi => (hb.cell (p := ⟨0, i, none⟩) hB).trans (h i hi)
/-- Four bits. -/
def nib (s : Nat) : Nat := (s / 16) ^^^ tabAt (s % 16)
theorem nib_lt (s : Nat) (h : s < 4294967296) : nib s < 4294967296 := by
  unfold nib; exact Nat.xor_lt_two_pow (n := 32) (by omega) (tabAt_lt _)
def crcB (s b : Nat) : Nat := nib (nib (s ^^^ b))
theorem crcB_lt (s b : Nat) (h : s < 4294967296) (hb : b < 256) : crcB s b < 4294967296 :=
  nib_lt _ (nib_lt _ (Nat.xor_lt_two_pow (n := 32) h (by omega)))
def crcF (l : List UInt8) (s : Nat) : Nat := l.foldl (fun s b => crcB s b.toNat) s
theorem crcF_lt : ∀ (l : List UInt8) (s : Nat), s < 4294967296 → crcF l s < 4294967296
  | [], _, h => h
  | b :: r, s, h => crcF_lt r _ (crcB_lt s b.toNat h b.toNat_lt)
theorem crcF_step (l : List UInt8) (s k : Nat) (h : k < l.length) : crcF (l.take (k + 1)) s = crcB (crcF (l.take k) s) (l.getD k 0).toNat := by
  rw [List.take_succ_eq_append_getElem h]; simp only [crcF, List.foldl_append, List.foldl_cons, List.foldl_nil]; simp [h]
/-- The sum of l. -/
def sumN (l : List UInt8) : Nat := 4294967295 ^^^ crcF l 4294967295
/-- Four bits, as the walk writes them. -/
theorem nib_walk (w : World) (ht : Tab w) (s : Nat) (h : s < 4294967296) : ∃ i t : Nat, i < 16 ∧ bits .and .u32 (s : Int) 15 = (i : Int) ∧ w.cell? ⟨0, i, none⟩ = some (.int .u32 (t : Int)) ∧ bits .xor .u32 ((s : Int) / 16) (t : Int) = (nib s : Int) := by
  have e := u32_and_nat s 15 h (by omega)
  rw [Nat.and_two_pow_sub_one_eq_mod s 4] at e
  have e2 := u32_xor_nat (s / 16) (tabAt (s % 16)) (by omega) (tabAt_lt _)
  refine ⟨s % 16, tabAt (s % 16), by omega, e, ht _ (by omega), ?_⟩
  rw [← show nib s = s / 16 ^^^ tabAt (s % 16) from rfl] at e2
  exact_mod_cast e2
theorem not_u32 (s : Nat) (h : s < 4294967296) : bits .xor .u32 IntKind.u32.max (s : Int) = ((4294967295 ^^^ s : Nat) : Int) := u32_xor_nat 4294967295 s (by omega) h
theorem ret_u32 {a b : Int} (h : a = b) : Ending.returned (.int .u32 a) = .returned (.int .u32 b) := by rw [h]
set_option maxHeartbeats 1000000 in
theorem sum_any (sp : Option Addr) (l : List UInt8) (cap : Nat) (w : World) (hs : Src w sp l) (ht : Tab w) (hl : (l.length : Int) ≤ 140737488355328) :
    Calls Tryz.prog 77 #[.slice sp l.length cap] w fun e w' => e = .returned (.int .u32 (sumN l : Int)) ∧ w' = w := by
  go_enter Tryz.func77, Tryz.ntmps77
  go_wp2
  go_loop [3, 7] (fun n i => ∃ k : Nat, k ≤ l.length ∧ i = .int .i64 k ∧ n = .int .u32 (crcF (l.take k) 4294967295 : Nat)) (fun _ i => l.length - (Go.RowKit.intOf i).toNat)
  case atStart => exact ⟨0, by omega, rfl, by simp [crcF]⟩
  case round =>
    obtain ⟨k, hk, rfl, rfl⟩ := hrel
    have hlt0 := crcF_lt (l.take k) 4294967295 (by omega)
    obtain ⟨s, HS⟩ : ∃ s, Hid (s = crcF (l.take k) 4294967295) := ⟨_, rfl⟩
    rw [← HS.out] at hlt0 ⊢
    by_cases hlt : (k : Int) < l.length
    · obtain ⟨b, off, rfl, hb, cs⟩ := hs.at' (by omega)
      have c1 : w.cell? ⟨b, off + k, none⟩ = some (.int .u8 (nth l k)) := (cs k (by omega)).trans (by rw [bv_nth])
      have hn := (l.getD k 0).toNat_lt
      have hx0 := u32_xor_nat s (l.getD k 0).toNat hlt0 (by omega)
      have hs1 : s ^^^ (l.getD k 0).toNat < 4294967296 := Nat.xor_lt_two_pow (n := 32) hlt0 (by omega)
      obtain ⟨i1, t1, hi1, ha1, hc1, hx1⟩ := nib_walk w ht _ hs1
      obtain ⟨i2, t2, hi2, ha2, hc2, hx2⟩ := nib_walk w ht _ (nib_lt _ hs1)
      have HE : Hid (nib (nib (s ^^^ (l.getD k 0).toNat)) = crcF (l.take (k + 1)) 4294967295) := by
        show _ = _; rw [crcF_step l _ k (by omega), ← HS.out]; rfl
      have hx : bits .xor .u32 (s : Int) (nth l k % 4294967296) = ((s ^^^ (l.getD k 0).toNat : Nat) : Int) := by
        rw [← hx0, Int.emod_eq_of_lt (nth_lo _ _) (by have := nth_hi l k; omega)]; rfl
      generalize s ^^^ (l.getD k 0).toNat = s1 at *
      generalize nib s1 = s2 at *
      generalize nib s2 = s3 at *
      clear cs hs ht hx0 hn
      go_wp2
      go_round
      case rel => exact ⟨k + 1, by omega, by go_num, by rw [← HE.out]⟩
      case measure => simp [Go.RowKit.intOf]; omega
    · go_wp2
      go_ret
      refine ⟨ret_u32 ?_, rfl⟩
      rw [not_u32 s hlt0, HS.out, List.take_of_length_le (by omega)]; rfl
end Go.Proofs.YtkiifmnmeikdlaaGreatDoor
/- super.Put. -/
namespace Go.Proofs.YtkiifmnmeikdlaaGreatDoor
open Go.RowKit
set_option maxRecDepth 100000
def zeros : List UInt8 := List.replicate 256 0
theorem zeros_length : zeros.length = 256 := List.length_replicate
def markL : List UInt8 := [76, 86, 69, 69]
/-- The bytes of a superblock, but for the sum. -/
def bodyL (g a i n : Nat) : List UInt8 := layAt (layAt (layAt (layAt (layAt zeros 0 markL) 4 (leB 8 g)) 12 (leB 2 a)) 14 (leB 2 i)) 16 (leB 2 n)
/-- The bytes of a superblock. -/
def putL (g a i n : Nat) : List UInt8 := layAt (bodyL g a i n) 252 (leB 4 (sumN ((bodyL g a i n).take 252)))
theorem lay_len {cur : List UInt8} {o k n : Nat} (hc : cur.length = 256) (h : o + k ≤ 256) : (layAt cur o (leB k n)).length = 256 := by
  rw [layAt_length _ _ _ (by rw [leB_length, hc]; exact h)]; exact hc
theorem mark_len : (layAt zeros 0 markL).length = 256 := by
  rw [layAt_length _ _ _ (by rw [zeros_length]; decide)]; exact zeros_length
theorem bodyL_length (g a i n : Nat) : (bodyL g a i n).length = 256 := lay_len (lay_len (lay_len (lay_len mark_len (by omega)) (by omega)) (by omega)) (by omega)
theorem putL_length (g a i n : Nat) : (putL g a i n).length = 256 := lay_len (bodyL_length g a i n) (by omega)
theorem Tryz.zero126 : ∃ Z : Array Value, (∀ w, (zeroValue 126).run Tryz.prog w = .ok (.agg Z) w) ∧ Hid (Z = (bvs zeros).toArray) := by
  have h : (Tryz.prog.info? 126).map (fun i => i.zero) = some (some (.agg (bvs zeros).toArray)) := by kernel_rfl
  cases hi : Tryz.prog.info? 126 with
  | none => rw [hi] at h; cases h
  | some i =>
    rw [hi] at h
    have hz : i.zero = some (.agg (bvs zeros).toArray) := Option.some.inj h
    have key : ∀ (v : Value) (w : World), i.zero = some v → (zeroValue 126).run Tryz.prog w = .ok v w := by
      intro v w hv
      simp [zeroValue, typeInfo, hi, hv]
    exact ⟨_, fun w => key _ w hz, rfl⟩
theorem mark_copy (w : World) (G : Nat) (hg : Blk w G 126 zeros) :
    ∃ w1, Sem.run Tryz.prog (Builtin.copy_ #[42, 9] 3 #[.slice (some ⟨G, 0, none⟩) 256 256, .string ⟨#[76, 86, 69, 69]⟩]) w = .ok (.int .i64 4) w1 ∧ Blk w1 G 126 (layAt zeros 0 markL) ∧ Below G w w1 := by
  have h := Lib.run_copy_row_string (P := Tryz.prog) w 42 9 3 5 G 0 256 256 ⟨#[76, 86, 69, 69]⟩ _ 126 Tryz.underlying42 Tryz.elem1 hg (by decide) (by rw [List.size_toArray, bvs_length, zeros_length]; decide)
  refine ⟨_, h, ?_, below_setRow (Below.refl _ _) (Nat.le_refl _) _⟩
  have h2 := setRow_heap w G _ ((bvs zeros).toArray.toList.take 0 ++ Lib.byteCells markL ++ (bvs zeros).toArray.toList.drop (0 + 4)).toArray 126 _ hg
  rw [Blk]
  refine h2.trans ?_
  congr 3
attribute [local go_sem] wrapU
set_option maxRecDepth 100000 in
set_option maxHeartbeats 4000000 in
theorem sput_ok (g a i n : Nat) (w : World) (ht : Tab w) (hok : okS g a i n = true) :
    Calls Tryz.prog 41 #[.agg #[.int .i64 (g : Int), .int .i64 (a : Int), .int .i64 (i : Int), .int .i64 (n : Int)]] w fun e w' => ∃ G, e = .returned (.tuple #[.slice (some ⟨G, 0, none⟩) 256 256, .int .i64 0]) ∧ Blk w' G 126 (putL g a i n) ∧ w.heap.size ≤ G ∧ Below w.heap.size w w' := by
  have RT := sright_any g a i n
  rw [hok] at RT
  obtain ⟨hg1, hg2, hgeo⟩ := okS_iff.1 hok
  have hbx := hgeo.box
  have hn16 := hgeo.le16
  have hw0 : 0 < w.heap.size := block_lt_of_cell (ht 0 (by omega))
  obtain ⟨Z, hz, HZ⟩ := Tryz.zero126
  have hb : Below w.heap.size w (w.alloc (.cells #[.int .i64 (g : Int), .int .i64 (a : Int), .int .i64 (i : Int), .int .i64 (n : Int)] 58)) := (Below.refl _ _).alloc (Nat.le_refl _) _
  have HR0 : Hid (Row4 (w.alloc (.cells #[.int .i64 (g : Int), .int .i64 (a : Int), .int .i64 (i : Int), .int .i64 (n : Int)] 58)) w.heap.size 58 g a i n) := heap_alloc_new _ _
  have u1 : InU (g : Int) := ⟨by omega⟩
  have u2 : InU (a : Int) := ⟨by omega⟩
  have u3 : InU (i : Int) := ⟨by omega⟩
  have u4 : InU (n : Int) := ⟨by omega⟩
  go_enter Tryz.func41, Tryz.ntmps41
  go_wp2_with fail
  refine (RT _).mono ?_
  rintro e w1 ⟨rfl, hb1⟩
  have HR1 : Hid (Row4 w1 w.heap.size 58 g a i n) := HR0.out.up hb1
  have hl1 : w.heap.size < w1.heap.size := HR1.out.lt
  have hB1 : Below w.heap.size w w1 := hb.trans (hb1.mono hb.size)
  have HG0 : Hid (Blk (w1.alloc (.cells Z 126)) w1.heap.size 126 zeros) := by have := heap_alloc_new w1 (.cells Z 126); rw [HZ.out] at this ⊢; exact this
  have hal : Below w1.heap.size w1 (w1.alloc (.cells Z 126)) := (Below.refl _ _).alloc (Nat.le_refl _) _
  obtain ⟨w2, hcp, hG2, hb2⟩ := mark_copy _ _ HG0.out
  have HG2 : Hid (Blk w2 w1.heap.size 126 (layAt zeros 0 markL)) := hG2
  have HR2 : Hid (Row4 w2 w.heap.size 58 g a i n) := HR1.out.below (hal.trans hb2) hl1
  have hB2 : Below w.heap.size w w2 := hB1.trans ((hal.trans hb2).mono (by omega))
  clear hG2 RT HR0 HG0 hb hb1 HZ
  go_wp2_with fail
  have hd2 : Row4 w2.drew w.heap.size 58 g a i n := HR2.out.up (Below.refl _ _).drew
  have hdG2 : Blk w2.drew w1.heap.size 126 (layAt zeros 0 markL) := HG2.out.below (B := w2.heap.size) (Below.refl _ _).drew HG2.out.lt
  refine wp_region_held_drew (S := (fun w' => Row4 w' w.heap.size 58 g a i n)) (by kernel_rfl) hd2 (fun hH => ?_)
  refine takeH (i := 0) (dst := some 10) (v := ?v1) rfl rfl (by kernel_rfl) (by kernel_rfl) (by kernel_rfl) (fun _ _ _ h => h) rfl ?hy1 hH rfl ?rest1
  case hy1 => (intro W hW; have q0 := hW.c0; have q1 := hW.c1; have q2 := hW.c2; have q3 := hW.c3; clear hW; go_simp; try with_reducible rfl)
  (try simp only [Act.put, List.setIfInBounds_toArray, List.set_cons_zero, List.set_cons_succ])
  refine takeH (i := 1) (dst := some 11) (v := ?v2) rfl rfl (by kernel_rfl) (by kernel_rfl) (by kernel_rfl) (fun _ _ _ h => h) rfl ?hy2 hH rfl ?rest2
  case hy2 => (intro W hW; have q0 := hW.c0; have q1 := hW.c1; have q2 := hW.c2; have q3 := hW.c3; clear hW; go_simp; try with_reducible rfl)
  (try simp only [Act.put, List.setIfInBounds_toArray, List.set_cons_zero, List.set_cons_succ])
  refine takeH (i := 2) (dst := some 12) (v := ?v3) rfl rfl (by kernel_rfl) (by kernel_rfl) (by kernel_rfl) (fun _ _ _ h => h) rfl ?hy3 hH rfl ?rest3
  case hy3 => (intro W hW; have q0 := hW.c0; have q1 := hW.c1; have q2 := hW.c2; have q3 := hW.c3; clear hW; go_simp; try with_reducible rfl)
  (try simp only [Act.put, List.setIfInBounds_toArray, List.set_cons_zero, List.set_cons_succ])
  refine takeH (i := 3) (dst := some 13) (v := ?v4) rfl rfl (by kernel_rfl) (by kernel_rfl) (by kernel_rfl) (fun _ _ _ h => h) rfl ?hy4 hH rfl ?rest4
  case hy4 => (intro W hW; have q0 := hW.c0; have q1 := hW.c1; have q2 := hW.c2; have q3 := hW.c3; clear hW; go_simp; try with_reducible rfl)
  (try simp only [Act.put, List.setIfInBounds_toArray, List.set_cons_zero, List.set_cons_succ])
  refine callH (i := 4) { dst := some 14, op := Go.Op.call { callee := Go.Callee.value (Go.Operand.func 76), args := #[Go.Operand.tmp 10, Go.Operand.tmp 13], argTypes := #[42, 138] }, type := 0, pos := "super.go:51", after := #[{ on := 0, ground := Go.Ground.data }, { on := 3, ground := Go.Ground.data }], guard := none } (by kernel_rfl) rfl rfl (fun K hK => ?_)
  go_simp
  refine (putAt_any w1.heap.size 126 (layAt zeros 0 markL) 4 8 252 g (by omega) (by omega) (by omega) (by rw [mark_len]; omega) _ hdG2 (by omega) (by omega)).mono ?_
  rintro e w3 ⟨rfl, hG3, hb3⟩
  have hR3 : Row4 w3 w.heap.size 58 g a i n := hd2.below hb3 hl1
  clear hH
  refine hK.out _ _ hR3 (fun hH => ?_)
  clear hK K
  (try simp only [Act.put, List.setIfInBounds_toArray, List.set_cons_zero, List.set_cons_succ])
  refine wpAnyH_done (by kernel_rfl) ?_ _
  clear hH
  have HG3 : Hid (Blk w3 w1.heap.size 126 (layAt (layAt zeros 0 markL) 4 (leB 8 g))) := hG3
  have HR3 : Hid (Row4 w3 w.heap.size 58 g a i n) := hR3
  have hB3 : Below w.heap.size w w3 := hB2.drew.trans (hb3.mono (by omega))
  clear hG3 hR3 hd2 hdG2 hb3 hB2
  go_wp2_with fail
  have hd3 : Row4 w3.drew w.heap.size 58 g a i n := HR3.out.up (Below.refl _ _).drew
  have hdG3 : Blk w3.drew w1.heap.size 126 (layAt (layAt zeros 0 markL) 4 (leB 8 g)) := HG3.out.below (B := w3.heap.size) (Below.refl _ _).drew HG3.out.lt
  refine wp_region_held_drew (S := (fun w' => Row4 w' w.heap.size 58 g a i n)) (by kernel_rfl) hd3 (fun hH => ?_)
  refine takeH (i := 0) (dst := some 15) (v := ?v5) rfl rfl (by kernel_rfl) (by kernel_rfl) (by kernel_rfl) (fun _ _ _ h => h) rfl ?hy5 hH rfl ?rest5
  case hy5 => (intro W hW; have q0 := hW.c0; have q1 := hW.c1; have q2 := hW.c2; have q3 := hW.c3; clear hW; go_simp; try with_reducible rfl)
  (try simp only [Act.put, List.setIfInBounds_toArray, List.set_cons_zero, List.set_cons_succ])
  refine takeH (i := 1) (dst := some 16) (v := ?v6) rfl rfl (by kernel_rfl) (by kernel_rfl) (by kernel_rfl) (fun _ _ _ h => h) rfl ?hy6 hH rfl ?rest6
  case hy6 => (intro W hW; have q0 := hW.c0; have q1 := hW.c1; have q2 := hW.c2; have q3 := hW.c3; clear hW; go_simp; try with_reducible rfl)
  (try simp only [Act.put, List.setIfInBounds_toArray, List.set_cons_zero, List.set_cons_succ])
  refine takeH (i := 2) (dst := some 17) (v := ?v7) rfl rfl (by kernel_rfl) (by kernel_rfl) (by kernel_rfl) (fun _ _ _ h => h) rfl ?hy7 hH rfl ?rest7
  case hy7 => (intro W hW; have q0 := hW.c0; have q1 := hW.c1; have q2 := hW.c2; have q3 := hW.c3; clear hW; go_simp; try with_reducible rfl)
  (try simp only [Act.put, List.setIfInBounds_toArray, List.set_cons_zero, List.set_cons_succ])
  refine takeH (i := 3) (dst := some 18) (v := ?v8) rfl rfl (by kernel_rfl) (by kernel_rfl) (by kernel_rfl) (fun _ _ _ h => h) rfl ?hy8 hH rfl ?rest8
  case hy8 => (intro W hW; have q0 := hW.c0; have q1 := hW.c1; have q2 := hW.c2; have q3 := hW.c3; clear hW; go_simp; try with_reducible rfl)
  (try simp only [Act.put, List.setIfInBounds_toArray, List.set_cons_zero, List.set_cons_succ])
  refine takeH (i := 4) (dst := some 19) (v := ?v9) rfl rfl (by kernel_rfl) (by kernel_rfl) (by kernel_rfl) (fun _ _ _ h => h) rfl ?hy9 hH rfl ?rest9
  case hy9 => (intro W hW; have q0 := hW.c0; have q1 := hW.c1; have q2 := hW.c2; have q3 := hW.c3; clear hW; go_simp; try with_reducible rfl)
  (try simp only [Act.put, List.setIfInBounds_toArray, List.set_cons_zero, List.set_cons_succ])
  refine callH (i := 5) { dst := some 20, op := Go.Op.call { callee := Go.Callee.value (Go.Operand.func 76), args := #[Go.Operand.tmp 15, Go.Operand.tmp 19], argTypes := #[42, 138] }, type := 0, pos := "super.go:52", after := #[{ on := 0, ground := Go.Ground.data }, { on := 4, ground := Go.Ground.data }], guard := none } (by kernel_rfl) rfl rfl (fun K hK => ?_)
  go_simp
  refine (putAt_any w1.heap.size 126 (layAt (layAt zeros 0 markL) 4 (leB 8 g)) 12 2 244 a (by omega) (by omega) (by omega) (by rw [lay_len (mark_len) (by omega)]; omega) _ hdG3 (by omega) (by omega)).mono ?_
  rintro e w4 ⟨rfl, hG4, hb4⟩
  have hR4 : Row4 w4 w.heap.size 58 g a i n := hd3.below hb4 hl1
  clear hH
  refine hK.out _ _ hR4 (fun hH => ?_)
  clear hK K
  (try simp only [Act.put, List.setIfInBounds_toArray, List.set_cons_zero, List.set_cons_succ])
  refine wpAnyH_done (by kernel_rfl) ?_ _
  clear hH
  have HG4 : Hid (Blk w4 w1.heap.size 126 (layAt (layAt (layAt zeros 0 markL) 4 (leB 8 g)) 12 (leB 2 a))) := hG4
  have HR4 : Hid (Row4 w4 w.heap.size 58 g a i n) := hR4
  have hB4 : Below w.heap.size w w4 := hB3.drew.trans (hb4.mono (by omega))
  clear hG4 hR4 hd3 hdG3 hb4 hB3
  go_wp2_with fail
  have hd4 : Row4 w4.drew w.heap.size 58 g a i n := HR4.out.up (Below.refl _ _).drew
  have hdG4 : Blk w4.drew w1.heap.size 126 (layAt (layAt (layAt zeros 0 markL) 4 (leB 8 g)) 12 (leB 2 a)) := HG4.out.below (B := w4.heap.size) (Below.refl _ _).drew HG4.out.lt
  refine wp_region_held_drew (S := (fun w' => Row4 w' w.heap.size 58 g a i n)) (by kernel_rfl) hd4 (fun hH => ?_)
  refine takeH (i := 0) (dst := some 21) (v := ?v10) rfl rfl (by kernel_rfl) (by kernel_rfl) (by kernel_rfl) (fun _ _ _ h => h) rfl ?hy10 hH rfl ?rest10
  case hy10 => (intro W hW; have q0 := hW.c0; have q1 := hW.c1; have q2 := hW.c2; have q3 := hW.c3; clear hW; go_simp; try with_reducible rfl)
  (try simp only [Act.put, List.setIfInBounds_toArray, List.set_cons_zero, List.set_cons_succ])
  refine takeH (i := 1) (dst := some 22) (v := ?v11) rfl rfl (by kernel_rfl) (by kernel_rfl) (by kernel_rfl) (fun _ _ _ h => h) rfl ?hy11 hH rfl ?rest11
  case hy11 => (intro W hW; have q0 := hW.c0; have q1 := hW.c1; have q2 := hW.c2; have q3 := hW.c3; clear hW; go_simp; try with_reducible rfl)
  (try simp only [Act.put, List.setIfInBounds_toArray, List.set_cons_zero, List.set_cons_succ])
  refine takeH (i := 2) (dst := some 23) (v := ?v12) rfl rfl (by kernel_rfl) (by kernel_rfl) (by kernel_rfl) (fun _ _ _ h => h) rfl ?hy12 hH rfl ?rest12
  case hy12 => (intro W hW; have q0 := hW.c0; have q1 := hW.c1; have q2 := hW.c2; have q3 := hW.c3; clear hW; go_simp; try with_reducible rfl)
  (try simp only [Act.put, List.setIfInBounds_toArray, List.set_cons_zero, List.set_cons_succ])
  refine takeH (i := 3) (dst := some 24) (v := ?v13) rfl rfl (by kernel_rfl) (by kernel_rfl) (by kernel_rfl) (fun _ _ _ h => h) rfl ?hy13 hH rfl ?rest13
  case hy13 => (intro W hW; have q0 := hW.c0; have q1 := hW.c1; have q2 := hW.c2; have q3 := hW.c3; clear hW; go_simp; try with_reducible rfl)
  (try simp only [Act.put, List.setIfInBounds_toArray, List.set_cons_zero, List.set_cons_succ])
  refine takeH (i := 4) (dst := some 25) (v := ?v14) rfl rfl (by kernel_rfl) (by kernel_rfl) (by kernel_rfl) (fun _ _ _ h => h) rfl ?hy14 hH rfl ?rest14
  case hy14 => (intro W hW; have q0 := hW.c0; have q1 := hW.c1; have q2 := hW.c2; have q3 := hW.c3; clear hW; go_simp; try with_reducible rfl)
  (try simp only [Act.put, List.setIfInBounds_toArray, List.set_cons_zero, List.set_cons_succ])
  refine callH (i := 5) { dst := some 26, op := Go.Op.call { callee := Go.Callee.value (Go.Operand.func 76), args := #[Go.Operand.tmp 21, Go.Operand.tmp 25], argTypes := #[42, 138] }, type := 0, pos := "super.go:53", after := #[{ on := 0, ground := Go.Ground.data }, { on := 4, ground := Go.Ground.data }], guard := none } (by kernel_rfl) rfl rfl (fun K hK => ?_)
  go_simp
  refine (putAt_any w1.heap.size 126 (layAt (layAt (layAt zeros 0 markL) 4 (leB 8 g)) 12 (leB 2 a)) 14 2 242 i (by omega) (by omega) (by omega) (by rw [lay_len (lay_len (mark_len) (by omega)) (by omega)]; omega) _ hdG4 (by omega) (by omega)).mono ?_
  rintro e w5 ⟨rfl, hG5, hb5⟩
  have hR5 : Row4 w5 w.heap.size 58 g a i n := hd4.below hb5 hl1
  clear hH
  refine hK.out _ _ hR5 (fun hH => ?_)
  clear hK K
  (try simp only [Act.put, List.setIfInBounds_toArray, List.set_cons_zero, List.set_cons_succ])
  refine wpAnyH_done (by kernel_rfl) ?_ _
  clear hH
  have HG5 : Hid (Blk w5 w1.heap.size 126 (layAt (layAt (layAt (layAt zeros 0 markL) 4 (leB 8 g)) 12 (leB 2 a)) 14 (leB 2 i))) := hG5
  have HR5 : Hid (Row4 w5 w.heap.size 58 g a i n) := hR5
  have hB5 : Below w.heap.size w w5 := hB4.drew.trans (hb5.mono (by omega))
  clear hG5 hR5 hd4 hdG4 hb5 hB4
  go_wp2_with fail
  have hd5 : Row4 w5.drew w.heap.size 58 g a i n := HR5.out.up (Below.refl _ _).drew
  have hdG5 : Blk w5.drew w1.heap.size 126 (layAt (layAt (layAt (layAt zeros 0 markL) 4 (leB 8 g)) 12 (leB 2 a)) 14 (leB 2 i)) := HG5.out.below (B := w5.heap.size) (Below.refl _ _).drew HG5.out.lt
  refine wp_region_held_drew (S := (fun w' => Row4 w' w.heap.size 58 g a i n)) (by kernel_rfl) hd5 (fun hH => ?_)
  refine takeH (i := 0) (dst := some 27) (v := ?v15) rfl rfl (by kernel_rfl) (by kernel_rfl) (by kernel_rfl) (fun _ _ _ h => h) rfl ?hy15 hH rfl ?rest15
  case hy15 => (intro W hW; have q0 := hW.c0; have q1 := hW.c1; have q2 := hW.c2; have q3 := hW.c3; clear hW; go_simp; try with_reducible rfl)
  (try simp only [Act.put, List.setIfInBounds_toArray, List.set_cons_zero, List.set_cons_succ])
  refine takeH (i := 1) (dst := some 28) (v := ?v16) rfl rfl (by kernel_rfl) (by kernel_rfl) (by kernel_rfl) (fun _ _ _ h => h) rfl ?hy16 hH rfl ?rest16
  case hy16 => (intro W hW; have q0 := hW.c0; have q1 := hW.c1; have q2 := hW.c2; have q3 := hW.c3; clear hW; go_simp; try with_reducible rfl)
  (try simp only [Act.put, List.setIfInBounds_toArray, List.set_cons_zero, List.set_cons_succ])
  refine takeH (i := 2) (dst := some 29) (v := ?v17) rfl rfl (by kernel_rfl) (by kernel_rfl) (by kernel_rfl) (fun _ _ _ h => h) rfl ?hy17 hH rfl ?rest17
  case hy17 => (intro W hW; have q0 := hW.c0; have q1 := hW.c1; have q2 := hW.c2; have q3 := hW.c3; clear hW; go_simp; try with_reducible rfl)
  (try simp only [Act.put, List.setIfInBounds_toArray, List.set_cons_zero, List.set_cons_succ])
  refine takeH (i := 3) (dst := some 30) (v := ?v18) rfl rfl (by kernel_rfl) (by kernel_rfl) (by kernel_rfl) (fun _ _ _ h => h) rfl ?hy18 hH rfl ?rest18
  case hy18 => (intro W hW; have q0 := hW.c0; have q1 := hW.c1; have q2 := hW.c2; have q3 := hW.c3; clear hW; go_simp; try with_reducible rfl)
  (try simp only [Act.put, List.setIfInBounds_toArray, List.set_cons_zero, List.set_cons_succ])
  refine takeH (i := 4) (dst := some 31) (v := ?v19) rfl rfl (by kernel_rfl) (by kernel_rfl) (by kernel_rfl) (fun _ _ _ h => h) rfl ?hy19 hH rfl ?rest19
  case hy19 => (intro W hW; have q0 := hW.c0; have q1 := hW.c1; have q2 := hW.c2; have q3 := hW.c3; clear hW; go_simp; try with_reducible rfl)
  (try simp only [Act.put, List.setIfInBounds_toArray, List.set_cons_zero, List.set_cons_succ])
  refine callH (i := 5) { dst := some 32, op := Go.Op.call { callee := Go.Callee.value (Go.Operand.func 76), args := #[Go.Operand.tmp 27, Go.Operand.tmp 31], argTypes := #[42, 138] }, type := 0, pos := "super.go:54", after := #[{ on := 0, ground := Go.Ground.data }, { on := 4, ground := Go.Ground.data }], guard := none } (by kernel_rfl) rfl rfl (fun K hK => ?_)
  go_simp
  refine (putAt_any w1.heap.size 126 (layAt (layAt (layAt (layAt zeros 0 markL) 4 (leB 8 g)) 12 (leB 2 a)) 14 (leB 2 i)) 16 2 240 n (by omega) (by omega) (by omega) (by rw [lay_len (lay_len (lay_len (mark_len) (by omega)) (by omega)) (by omega)]; omega) _ hdG5 (by omega) (by omega)).mono ?_
  rintro e w6 ⟨rfl, hG6, hb6⟩
  have hR6 : Row4 w6 w.heap.size 58 g a i n := hd5.below hb6 hl1
  clear hH
  refine hK.out _ _ hR6 (fun hH => ?_)
  clear hK K
  (try simp only [Act.put, List.setIfInBounds_toArray, List.set_cons_zero, List.set_cons_succ])
  refine wpAnyH_done (by kernel_rfl) ?_ _
  clear hH
  have HG6 : Hid (Blk w6 w1.heap.size 126 (layAt (layAt (layAt (layAt (layAt zeros 0 markL) 4 (leB 8 g)) 12 (leB 2 a)) 14 (leB 2 i)) 16 (leB 2 n))) := hG6
  have HR6 : Hid (Row4 w6 w.heap.size 58 g a i n) := hR6
  have hB6 : Below w.heap.size w w6 := hB5.drew.trans (hb6.mono (by omega))
  clear hG6 hR6 hd5 hdG5 hb6 hB5
  go_wp2_with fail
  have hd6 : Row4 w6.drew w.heap.size 58 g a i n := HR6.out.up (Below.refl _ _).drew
  have hdG6 : Blk w6.drew w1.heap.size 126 (bodyL g a i n) := HG6.out.below (B := w6.heap.size) (Below.refl _ _).drew HG6.out.lt
  have hT6 : Tab w6.drew := ht.below hB6.drew hw0
  have hsl : ((bodyL g a i n).take 252).length = 252 := by rw [List.length_take, bodyL_length]; rfl
  have SUM := sum_any (some ⟨w1.heap.size, 0, none⟩) ((bodyL g a i n).take 252) 256 w6.drew (by have := hdG6.srcOff 0 252; rw [List.drop_zero] at this; exact this) hT6 (by rw [hsl]; omega)
  rw [hsl] at SUM
  have hslt : sumN ((bodyL g a i n).take 252) < 4294967296 := Nat.xor_lt_two_pow (n := 32) (by omega) (crcF_lt _ _ (by omega))
  have u5 : InU (sumN ((bodyL g a i n).take 252) : Int) := ⟨by omega⟩
  refine wp_region_held_drew (S := (fun w' => Row4 w' w.heap.size 58 g a i n)) (by kernel_rfl) hd6 (fun hH => ?_)
  refine takeH (i := 0) (dst := some 33) (v := ?v20) rfl rfl (by kernel_rfl) (by kernel_rfl) (by kernel_rfl) (fun _ _ _ h => h) rfl ?hy20 hH rfl ?rest20
  case hy20 => (intro W hW; have q0 := hW.c0; have q1 := hW.c1; have q2 := hW.c2; have q3 := hW.c3; clear hW; go_simp; try with_reducible rfl)
  (try simp only [Act.put, List.setIfInBounds_toArray, List.set_cons_zero, List.set_cons_succ])
  refine takeH (i := 1) (dst := some 34) (v := ?v21) rfl rfl (by kernel_rfl) (by kernel_rfl) (by kernel_rfl) (fun _ _ _ h => h) rfl ?hy21 hH rfl ?rest21
  case hy21 => (intro W hW; have q0 := hW.c0; have q1 := hW.c1; have q2 := hW.c2; have q3 := hW.c3; clear hW; go_simp; try with_reducible rfl)
  (try simp only [Act.put, List.setIfInBounds_toArray, List.set_cons_zero, List.set_cons_succ])
  refine callH (i := 2) { dst := some 35, op := Go.Op.call { callee := Go.Callee.value (Go.Operand.func 77), args := #[Go.Operand.tmp 34], argTypes := #[42] }, type := 139, pos := "super.go:55", after := #[{ on := 1, ground := Go.Ground.data }], guard := none } (by kernel_rfl) rfl rfl (fun K hK => ?_)
  go_simp
  refine SUM.mono ?_
  rintro e w7 ⟨rfl, rfl⟩
  clear hH
  refine hK.out _ _ hd6 (fun hH => ?_)
  clear hK K
  (try simp only [Act.put, List.setIfInBounds_toArray, List.set_cons_zero, List.set_cons_succ])
  refine takeH (i := 3) (dst := some 36) (v := ?v22) rfl rfl (by kernel_rfl) (by kernel_rfl) (by kernel_rfl) (fun _ _ _ h => h) rfl ?hy22 hH rfl ?rest22
  case hy22 => (intro W hW; have q0 := hW.c0; have q1 := hW.c1; have q2 := hW.c2; have q3 := hW.c3; clear hW; go_simp; try with_reducible rfl)
  (try simp only [Act.put, List.setIfInBounds_toArray, List.set_cons_zero, List.set_cons_succ])
  refine callH (i := 4) { dst := some 37, op := Go.Op.call { callee := Go.Callee.value (Go.Operand.func 76), args := #[Go.Operand.tmp 33, Go.Operand.tmp 36], argTypes := #[42, 138] }, type := 0, pos := "super.go:55", after := #[{ on := 0, ground := Go.Ground.data }, { on := 3, ground := Go.Ground.data }, { on := 2, ground := Go.Ground.chain }], guard := none } (by kernel_rfl) rfl rfl (fun K hK => ?_)
  go_simp
  refine (putAt_any w1.heap.size 126 (bodyL g a i n) 252 4 4 (sumN ((bodyL g a i n).take 252)) (by omega) (by omega) (by omega) (by rw [bodyL_length]; omega) _ hdG6 (by omega) (by omega)).mono ?_
  rintro e w8 ⟨rfl, hG8, hb8⟩
  have hR8 : Row4 w8 w.heap.size 58 g a i n := hd6.below hb8 hl1
  clear hH
  refine hK.out _ _ hR8 (fun hH => ?_)
  clear hK K
  (try simp only [Act.put, List.setIfInBounds_toArray, List.set_cons_zero, List.set_cons_succ])
  refine wpAnyH_done (by kernel_rfl) ?_ _
  clear hH
  clear SUM
  go_wp2
  go_ret2
  exact ⟨_, rfl, hG8, by omega, hB6.drew.trans (hb8.mono (by omega))⟩
end Go.Proofs.YtkiifmnmeikdlaaGreatDoor
/- super.Put of one that can not be; super.read. -/
namespace Go.Proofs.YtkiifmnmeikdlaaGreatDoor
open Go.RowKit
set_option maxRecDepth 100000
set_option maxHeartbeats 1000000 in
theorem sput_no (g a i n : Int) (w : World) (hok : okS g a i n = false) :
    Calls Tryz.prog 41 #[.agg #[.int .i64 g, .int .i64 a, .int .i64 i, .int .i64 n]] w fun e w' => e = .returned (.tuple #[.slice none 0 0, .int .i64 1]) ∧ Below w.heap.size w w' := by
  have RT := sright_any g a i n
  rw [hok] at RT
  have hb : Below w.heap.size w (w.alloc (.cells #[.int .i64 g, .int .i64 a, .int .i64 i, .int .i64 n] 58)) := (Below.refl _ _).alloc (Nat.le_refl _) _
  go_enter Tryz.func41, Tryz.ntmps41
  go_wp2_with fail
  refine (RT _).mono ?_
  rintro e w1 ⟨rfl, hb1⟩
  go_wp2
  go_ret2
  exact ⟨rfl, hb.trans (hb1.mono hb.size)⟩
/-- What the bytes say. -/
def rdG (l : List UInt8) : Int := IntKind.i64.wrap (getNum ((l.drop 4).take 8) : Int)
def rdA (l : List UInt8) : Nat := getNum ((l.drop 12).take 2)
def rdI (l : List UInt8) : Nat := getNum ((l.drop 14).take 2)
def rdN (l : List UInt8) : Nat := getNum ((l.drop 16).take 2)
theorem getNum_two (x y : UInt8) : getNum [x, y] = x.toNat + 256 * y.toNat := by
  simp [getNum, pad8, leNum]
theorem two_of {l : List UInt8} (h : l.length = 2) : ∃ x y, l = [x, y] := by
  match l, h with
  | [x, y], _ => exact ⟨x, y, rfl⟩
theorem getNum_2lt {l : List UInt8} (h : l.length = 2) : getNum l < 65536 := by
  obtain ⟨x, y, rfl⟩ := two_of h
  have := x.toNat_lt; have := y.toNat_lt
  rw [getNum_two]; omega
theorem Row4.set {w : World} {p : Nat} {t : TypeId} {g a i n : Int} (h : Row4 w p t g a i n) (g' a' i' n' : Int) : Row4 ((((w.setCell ⟨p, 0, none⟩ (.int .i64 g')).setCell ⟨p, 1, none⟩ (.int .i64 a')).setCell ⟨p, 2, none⟩ (.int .i64 i')).setCell ⟨p, 3, none⟩ (.int .i64 n')) p t g' a' i' n' := by
  have h0 := heap_setCell_same w p 0 _ _ (.int .i64 g') h
  have h1 := heap_setCell_same _ p 1 _ _ (.int .i64 a') h0
  have h2 := heap_setCell_same _ p 2 _ _ (.int .i64 i') h1
  have h3 := heap_setCell_same _ p 3 _ _ (.int .i64 n') h2
  rw [Row4, h3]; rfl
theorem below_set4 {w0 w : World} {B p : Nat} (h : Below B w0 w) (hp : B ≤ p) (u v x y : Value) : Below B w0 ((((w.setCell ⟨p, 0, none⟩ u).setCell ⟨p, 1, none⟩ v).setCell ⟨p, 2, none⟩ x).setCell ⟨p, 3, none⟩ y) :=
  (((h.setCell (p := ⟨p, 0, none⟩) hp _).setCell (p := ⟨p, 1, none⟩) hp _).setCell (p := ⟨p, 2, none⟩) hp _).setCell (p := ⟨p, 3, none⟩) hp _
structure Reads (w0 : World) (w : World) : Prop where
  b : Below w0.heap.size w0 w
  r : ∃ x0 x1 x2 x3, Row4 w w0.heap.size 58 x0 x1 x2 x3
theorem Reads.up {w0 w w' : World} (h : Reads w0 w) (hb : Below w.heap.size w w') : Reads w0 w' := by
  obtain ⟨x0, x1, x2, x3, hr⟩ := h.r
  exact ⟨h.b.trans (hb.mono h.b.size), x0, x1, x2, x3, hr.up hb⟩
attribute [local go_sem] wrapI
set_option maxRecDepth 100000 in
set_option maxHeartbeats 4000000 in
theorem read_any (bb off cap : Nat) (l : List UInt8) (hl : l.length = 256) (w : World) (hs : Src w (some ⟨bb, off, none⟩) l) (hc : (256 : Int) ≤ cap) (hm : (cap : Int) ≤ 9223372036854775807) :
    Calls Tryz.prog 124 #[.slice (some ⟨bb, off, none⟩) 256 cap] w fun e w' => e = .returned (.agg #[.int .i64 (rdG l), .int .i64 (rdA l), .int .i64 (rdI l), .int .i64 (rdN l)]) ∧ Below w.heap.size w w' := by
  have sub : ∀ (o k : Nat), o + k ≤ 256 → Src w (some ⟨bb, off + o, none⟩) ((l.drop o).take k) := by
    intro o k hok
    rcases hs with h | ⟨b', off', h1, h2, h3⟩
    · rw [h] at hl; simp at hl
    · obtain ⟨rfl, rfl⟩ : bb = b' ∧ off = off' := by simpa using h1
      exact .inr ⟨bb, off + o, rfl, h2, fun j hj => by
        simp only [List.length_take, List.length_drop] at hj
        rw [Nat.add_assoc, h3 (o + j) (by omega)]; simp⟩
  have GT : ∀ (o k c : Nat) (W : World), o + k ≤ 256 → Reads w W → Calls Tryz.prog 123 #[.slice (some ⟨bb, off + o, none⟩) k c] W fun e w' => e = .returned (.int .u64 (getNum ((l.drop o).take k) : Int)) ∧ Reads w w' := by
    intro o k c W hok hR
    have h := nget_any (some ⟨bb, off + o, none⟩) ((l.drop o).take k) c W ((sub o k hok).below hR.b (Nat.le_refl _))
    rw [show ((l.drop o).take k).length = k by simp [hl]; omega] at h
    exact h.mono fun _ _ ⟨h1, h2⟩ => ⟨h1, hR.up h2⟩
  have l2 : ∀ o, o + 2 ≤ 256 → ((l.drop o).take 2).length = 2 := fun o h => by simp [hl]; omega
  have i1 : In64 (getNum ((l.drop 12).take 2) : Int) := ⟨by have := getNum_2lt (l2 12 (by omega)); omega⟩
  have i2 : In64 (getNum ((l.drop 14).take 2) : Int) := ⟨by have := getNum_2lt (l2 14 (by omega)); omega⟩
  have i3 : In64 (getNum ((l.drop 16).take 2) : Int) := ⟨by have := getNum_2lt (l2 16 (by omega)); omega⟩
  have G1 := fun W h => GT 4 8 (cap - 4) W (by omega) h
  have G2 := fun W h => GT 12 2 (cap - 12) W (by omega) h
  have G3 := fun W h => GT 14 2 (cap - 14) W (by omega) h
  have G4 := fun W h => GT 16 2 (cap - 16) W (by omega) h
  have hS : Reads w (w.alloc (.cells #[.int .i64 0, .int .i64 0, .int .i64 0, .int .i64 0] 58)).drew :=
    ⟨((Below.refl _ _).alloc (Nat.le_refl _) _).drew, 0, 0, 0, 0, heap_alloc_new _ _⟩
  clear hs sub GT l2
  unfold rdG rdA rdI rdN
  generalize getNum ((l.drop 4).take 8) = N1 at *
  generalize getNum ((l.drop 12).take 2) = N2 at *
  generalize getNum ((l.drop 14).take 2) = N3 at *
  generalize getNum ((l.drop 16).take 2) = N4 at *
  clear hl
  have b1 : (12 : Int) ≤ cap := by omega
  have b2 : (14 : Int) ≤ cap := by omega
  have b3 : (16 : Int) ≤ cap := by omega
  have b4 : (18 : Int) ≤ cap := by omega
  have n1 : ¬ cap = 4 := by omega
  have n2 : ¬ cap = 12 := by omega
  have n3 : ¬ cap = 14 := by omega
  have n4 : ¬ cap = 16 := by omega
  go_enter Tryz.func124, Tryz.ntmps124
  go_wp2_with fail
  refine wp_region_held_drew (S := (fun w' => Reads w w')) (by kernel_rfl) hS (fun hH => ?_)
  refine takeH (i := 0) (dst := some 3) (v := ?v1) rfl rfl (by kernel_rfl) (by kernel_rfl) (by kernel_rfl) (fun _ _ _ h => h) rfl ?hy1 hH rfl ?rest1
  case hy1 => (intro W hW; clear hW; go_simp; try with_reducible rfl)
  (try simp only [Act.put, List.setIfInBounds_toArray, List.set_cons_zero, List.set_cons_succ])
  refine takeH (i := 1) (dst := some 4) (v := ?v2) rfl rfl (by kernel_rfl) (by kernel_rfl) (by kernel_rfl) (fun _ _ _ h => h) rfl ?hy2 hH rfl ?rest2
  case hy2 => (intro W hW; clear hW; go_simp; try with_reducible rfl)
  (try simp only [Act.put, List.setIfInBounds_toArray, List.set_cons_zero, List.set_cons_succ])
  refine takeH (i := 4) (dst := some 7) (v := ?v3) rfl rfl (by kernel_rfl) (by kernel_rfl) (by kernel_rfl) (fun _ _ _ h => h) rfl ?hy3 hH rfl ?rest3
  case hy3 => (intro W hW; clear hW; go_simp; try with_reducible rfl)
  (try simp only [Act.put, List.setIfInBounds_toArray, List.set_cons_zero, List.set_cons_succ])
  refine takeH (i := 5) (dst := some 8) (v := ?v4) rfl rfl (by kernel_rfl) (by kernel_rfl) (by kernel_rfl) (fun _ _ _ h => h) rfl ?hy4 hH rfl ?rest4
  case hy4 => (intro W hW; clear hW; go_simp; try with_reducible rfl)
  (try simp only [Act.put, List.setIfInBounds_toArray, List.set_cons_zero, List.set_cons_succ])
  refine takeH (i := 8) (dst := some 11) (v := ?v5) rfl rfl (by kernel_rfl) (by kernel_rfl) (by kernel_rfl) (fun _ _ _ h => h) rfl ?hy5 hH rfl ?rest5
  case hy5 => (intro W hW; clear hW; go_simp; try with_reducible rfl)
  (try simp only [Act.put, List.setIfInBounds_toArray, List.set_cons_zero, List.set_cons_succ])
  refine takeH (i := 9) (dst := some 12) (v := ?v6) rfl rfl (by kernel_rfl) (by kernel_rfl) (by kernel_rfl) (fun _ _ _ h => h) rfl ?hy6 hH rfl ?rest6
  case hy6 => (intro W hW; clear hW; go_simp; try with_reducible rfl)
  (try simp only [Act.put, List.setIfInBounds_toArray, List.set_cons_zero, List.set_cons_succ])
  refine takeH (i := 12) (dst := some 15) (v := ?v7) rfl rfl (by kernel_rfl) (by kernel_rfl) (by kernel_rfl) (fun _ _ _ h => h) rfl ?hy7 hH rfl ?rest7
  case hy7 => (intro W hW; clear hW; go_simp; try with_reducible rfl)
  (try simp only [Act.put, List.setIfInBounds_toArray, List.set_cons_zero, List.set_cons_succ])
  refine takeH (i := 13) (dst := some 16) (v := ?v8) rfl rfl (by kernel_rfl) (by kernel_rfl) (by kernel_rfl) (fun _ _ _ h => h) rfl ?hy8 hH rfl ?rest8
  case hy8 => (intro W hW; clear hW; go_simp; try with_reducible rfl)
  (try simp only [Act.put, List.setIfInBounds_toArray, List.set_cons_zero, List.set_cons_succ])
  refine callH (i := 2) { dst := some 5, op := Go.Op.call { callee := Go.Callee.value (Go.Operand.func 123), args := #[Go.Operand.tmp 4], argTypes := #[42] }, type := 138, pos := "super.go:84", after := #[{ on := 1, ground := Go.Ground.data }], guard := none } (by kernel_rfl) rfl rfl (fun K hK => ?_)
  go_simp
  refine (G1 _ hH).mono ?_
  rintro e v1 ⟨rfl, m1⟩
  clear hH
  refine hK.out _ _ m1 (fun hH => ?_)
  clear hK K
  (try simp only [Act.put, List.setIfInBounds_toArray, List.set_cons_zero, List.set_cons_succ])
  refine takeH (i := 3) (dst := some 6) (v := ?v9) rfl rfl (by kernel_rfl) (by kernel_rfl) (by kernel_rfl) (fun _ _ _ h => h) rfl ?hy9 hH rfl ?rest9
  case hy9 => (intro W hW; clear hW; go_simp; try with_reducible rfl)
  (try simp only [Act.put, List.setIfInBounds_toArray, List.set_cons_zero, List.set_cons_succ])
  refine callH (i := 6) { dst := some 9, op := Go.Op.call { callee := Go.Callee.value (Go.Operand.func 123), args := #[Go.Operand.tmp 8], argTypes := #[42] }, type := 138, pos := "super.go:86", after := #[{ on := 5, ground := Go.Ground.data }, { on := 2, ground := Go.Ground.chain }], guard := none } (by kernel_rfl) rfl rfl (fun K hK => ?_)
  go_simp
  refine (G2 _ hH).mono ?_
  rintro e v2 ⟨rfl, m2⟩
  clear hH
  refine hK.out _ _ m2 (fun hH => ?_)
  clear hK K
  (try simp only [Act.put, List.setIfInBounds_toArray, List.set_cons_zero, List.set_cons_succ])
  refine takeH (i := 7) (dst := some 10) (v := ?v10) rfl rfl (by kernel_rfl) (by kernel_rfl) (by kernel_rfl) (fun _ _ _ h => h) rfl ?hy10 hH rfl ?rest10
  case hy10 => (intro W hW; clear hW; go_simp; try with_reducible rfl)
  (try simp only [Act.put, List.setIfInBounds_toArray, List.set_cons_zero, List.set_cons_succ])
  refine callH (i := 10) { dst := some 13, op := Go.Op.call { callee := Go.Callee.value (Go.Operand.func 123), args := #[Go.Operand.tmp 12], argTypes := #[42] }, type := 138, pos := "super.go:87", after := #[{ on := 9, ground := Go.Ground.data }, { on := 6, ground := Go.Ground.chain }], guard := none } (by kernel_rfl) rfl rfl (fun K hK => ?_)
  go_simp
  refine (G3 _ hH).mono ?_
  rintro e v3 ⟨rfl, m3⟩
  clear hH
  refine hK.out _ _ m3 (fun hH => ?_)
  clear hK K
  (try simp only [Act.put, List.setIfInBounds_toArray, List.set_cons_zero, List.set_cons_succ])
  refine takeH (i := 11) (dst := some 14) (v := ?v11) rfl rfl (by kernel_rfl) (by kernel_rfl) (by kernel_rfl) (fun _ _ _ h => h) rfl ?hy11 hH rfl ?rest11
  case hy11 => (intro W hW; clear hW; go_simp; try with_reducible rfl)
  (try simp only [Act.put, List.setIfInBounds_toArray, List.set_cons_zero, List.set_cons_succ])
  refine callH (i := 14) { dst := some 17, op := Go.Op.call { callee := Go.Callee.value (Go.Operand.func 123), args := #[Go.Operand.tmp 16], argTypes := #[42] }, type := 138, pos := "super.go:88", after := #[{ on := 13, ground := Go.Ground.data }, { on := 10, ground := Go.Ground.chain }], guard := none } (by kernel_rfl) rfl rfl (fun K hK => ?_)
  go_simp
  refine (G4 _ hH).mono ?_
  rintro e v4 ⟨rfl, m4⟩
  clear hH
  refine hK.out _ _ m4 (fun hH => ?_)
  clear hK K
  (try simp only [Act.put, List.setIfInBounds_toArray, List.set_cons_zero, List.set_cons_succ])
  refine takeH (i := 15) (dst := some 18) (v := ?v12) rfl rfl (by kernel_rfl) (by kernel_rfl) (by kernel_rfl) (fun _ _ _ h => h) rfl ?hy12 hH rfl ?rest12
  case hy12 => (intro W hW; clear hW; go_simp; try with_reducible rfl)
  (try simp only [Act.put, List.setIfInBounds_toArray, List.set_cons_zero, List.set_cons_succ])
  refine takeH (i := 16) (dst := some 19) (v := ?v13) rfl rfl (by kernel_rfl) (by kernel_rfl) (by kernel_rfl) (fun _ _ _ h => h) rfl ?hy13 hH rfl ?rest13
  case hy13 => (intro W hW; clear hW; go_simp; try with_reducible rfl)
  (try simp only [Act.put, List.setIfInBounds_toArray, List.set_cons_zero, List.set_cons_succ])
  refine takeH (i := 17) (dst := some 20) (v := ?v14) rfl rfl (by kernel_rfl) (by kernel_rfl) (by kernel_rfl) (fun _ _ _ h => h) rfl ?hy14 hH rfl ?rest14
  case hy14 => (intro W hW; clear hW; go_simp; try with_reducible rfl)
  (try simp only [Act.put, List.setIfInBounds_toArray, List.set_cons_zero, List.set_cons_succ])
  obtain ⟨hB0, x0, x1, x2, x3, hr⟩ := m4
  have c0 := hr.c0
  have c1 := hr.c1
  have c2 := hr.c2
  have c3 := hr.c3
  have f0 := hr.fr 0
  have f1 := hr.fr 1
  have f2 := hr.fr 2
  have f3 := hr.fr 3
  have hR := hr.set (IntKind.i64.wrap (N1 : Int)) N2 N3 N4
  have hB := below_set4 hB0 (Nat.le_refl _) (.int .i64 (IntKind.i64.wrap (N1 : Int))) (.int .i64 (N2 : Int)) (.int .i64 (N3 : Int)) (.int .i64 (N4 : Int))
  have HRR : Hid _ := hR
  clear hr
  refine callH (i := 18) { dst := none, op := Go.Op.store 58 (Go.Operand.tmp 2) (Go.Operand.tmp 20), type := 0, pos := "super.go:83", after := #[{ on := 17, ground := Go.Ground.data }, { on := 14, ground := Go.Ground.chain }, { on := 0, ground := Go.Ground.phase }, { on := 1, ground := Go.Ground.phase }, { on := 2, ground := Go.Ground.phase }, { on := 3, ground := Go.Ground.phase }, { on := 4, ground := Go.Ground.phase }, { on := 5, ground := Go.Ground.phase }, { on := 6, ground := Go.Ground.phase }, { on := 7, ground := Go.Ground.phase }, { on := 8, ground := Go.Ground.phase }, { on := 9, ground := Go.Ground.phase }, { on := 10, ground := Go.Ground.phase }, { on := 11, ground := Go.Ground.phase }, { on := 12, ground := Go.Ground.phase }, { on := 13, ground := Go.Ground.phase }, { on := 14, ground := Go.Ground.phase }, { on := 15, ground := Go.Ground.phase }, { on := 16, ground := Go.Ground.phase }, { on := 17, ground := Go.Ground.phase }], guard := none } (by kernel_rfl) rfl rfl (fun K hK => ?_)
  go_simp
  clear hH
  refine hK.out _ _ ⟨hB, _, _, _, _, hR⟩ (fun hH => ?_)
  clear hK K
  (try simp only [Act.put, List.setIfInBounds_toArray, List.set_cons_zero, List.set_cons_succ])
  refine wpAnyH_done (by kernel_rfl) ?_ _
  clear hH
  go_wp2
  refine bodyPost_ret (results_cell_row rfl _ _ w.heap.size 58 _ (0, 0) _ rfl hR Tryz.underlying58 rfl Tryz.sz58) rfl ?_
  exact ⟨rfl, hB⟩
end Go.Proofs.YtkiifmnmeikdlaaGreatDoor
/- super.Get, for a block of 256 bytes. -/
namespace Go.Proofs.YtkiifmnmeikdlaaGreatDoor
open Go.RowKit
set_option maxRecDepth 100000
/-- What Get answers: its error, and a number of the superblock. -/
def getE (l : List UInt8) : Int :=
  if l.length ≠ 256 then 4 else if l.take 4 ≠ markL then 8 else if getNum (l.drop 252) ≠ sumN (l.take 252) then 7
  else if okS (rdG l) (rdA l) (rdI l) (rdN l) = false then 1 else if putL (rdG l).toNat (rdA l) (rdI l) (rdN l) ≠ l then 8 else 0
def getX (v : Int) (l : List UInt8) : Int := if getE l = 0 then v else 0
theorem getX_err {v : Int} {l : List UInt8} (h : getE l ≠ 0) : getX v l = 0 := if_neg h
theorem getX_ok {v : Int} {l : List UInt8} (h : getE l = 0) : getX v l = v := if_pos h
theorem results_sup {fn : Func} {p u : Tmp} (h : fn.results = #[.cell p 58, .tmp u]) (tmps : Array Value) (w : World) (G : Nat) (g a i n : Int) (hp : tmps.getD p undef = .pointer (some ⟨G, 0, none⟩)) (hg : Row4 w G 58 g a i n) :
    (results fn tmps).run Tryz.prog w = .ok (.tuple #[.agg #[.int .i64 g, .int .i64 a, .int .i64 i, .int .i64 n], tmps.getD u undef]) w := by
  rw [results_cell_tmp h, hp]
  simp [asAddr, run_loadVar_row w G 58 58 _ _ _ hg Tryz.underlying58 rfl Tryz.sz58, Result.andThen]
theorem err_form {l : List UInt8} {E : Int} (h : getE l = E) (hE : E ≠ 0) : Ending.returned (.tuple #[.agg #[.int .i64 0, .int .i64 0, .int .i64 0, .int .i64 0], .int .i64 E]) = .returned (.tuple #[.agg #[.int .i64 (getX (rdG l) l), .int .i64 (getX (rdA l) l), .int .i64 (getX (rdI l) l), .int .i64 (getX (rdN l) l)], .int .i64 (getE l)]) := by
  rw [getX_err (by rw [h]; exact hE), getX_err (by rw [h]; exact hE), getX_err (by rw [h]; exact hE), getX_err (by rw [h]; exact hE), h]
theorem ok_form {l : List UInt8} (h : getE l = 0) : Ending.returned (.tuple #[.agg #[.int .i64 (rdG l), .int .i64 (rdA l), .int .i64 (rdI l), .int .i64 (rdN l)], .int .i64 0]) = .returned (.tuple #[.agg #[.int .i64 (getX (rdG l) l), .int .i64 (getX (rdA l) l), .int .i64 (getX (rdI l) l), .int .i64 (getX (rdN l) l)], .int .i64 (getE l)]) := by
  rw [getX_ok h, getX_ok h, getX_ok h, getX_ok h, h]
theorem Src.part256 {w : World} {bb off : Nat} {l : List UInt8} (hs : Src w (some ⟨bb, off, none⟩) l) (hl : l.length = 256) (o k : Nat) (h : o + k ≤ 256) : Src w (some ⟨bb, off + o, none⟩) ((l.drop o).take k) := by
  rcases hs with h | ⟨b', off', h1, h2, h3⟩
  · rw [h] at hl; simp at hl
  · obtain ⟨rfl, rfl⟩ : bb = b' ∧ off = off' := by simpa using h1
    exact .inr ⟨bb, off + o, rfl, h2, fun j hj => by
      simp only [List.length_take, List.length_drop] at hj
      rw [Nat.add_assoc, h3 (o + j) (by omega)]; simp⟩
theorem str_beq (a b : List UInt8) : ((str a).toList == (str b).toList) = true ↔ a = b := by
  constructor
  · intro h
    have h2 := beq_iff_eq.1 h
    apply str_inj
    rw [ByteArray.toList_eq, ByteArray.toList_eq] at h2
    exact WideShapes.bytes_inj h2
  · rintro rfl; simp
/-- bytes.Equal of two slices of the same length. -/
theorem equal_any (sa sb : Option Addr) (x y : List UInt8) (ca cb : Nat) (w : World) (ha : Src w sa x) (hb : Src w sb y) :
    Calls Tryz.prog 125 #[.slice sa x.length ca, .slice sb y.length cb] w fun e w' => e = .returned (.bool ((str x).toList == (str y).toList)) ∧ w' = w := by
  have h1 := conv_str ha x.length ca rfl
  have h2 := conv_str hb y.length cb rfl
  go_enter Tryz.func125, Tryz.ntmps125
  go_wp2
  go_ret
  exact ⟨rfl, rfl⟩
structure Gets (w0 w : World) : Prop where
  b : Below w0.heap.size w0 w
  r : Row4 w w0.heap.size 58 0 0 0 0
theorem Gets.up {w0 w w' : World} (h : Gets w0 w) (hb : Below w.heap.size w w') : Gets w0 w' := ⟨h.b.trans (hb.mono h.b.size), h.r.up hb⟩
attribute [local go_sem] wrapU
set_option maxRecDepth 100000 in
set_option maxHeartbeats 4000000 in
theorem sget_mark (bb off cap : Nat) (l : List UInt8) (hl : l.length = 256) (w : World) (hs : Src w (some ⟨bb, off, none⟩) l) (_ht : Tab w) (hc : (256 : Int) ≤ cap) (hm : (cap : Int) ≤ 9223372036854775807) (h1 : l.take 4 ≠ markL) :
    Calls Tryz.prog 83 #[.slice (some ⟨bb, off, none⟩) 256 cap] w fun e w' => e = .returned (.tuple #[.agg #[.int .i64 (getX (rdG l) l), .int .i64 (getX (rdA l) l), .int .i64 (getX (rdI l) l), .int .i64 (getX (rdN l) l)], .int .i64 (getE l)]) ∧ Below w.heap.size w w' := by
  have hal : Below w.heap.size w (w.alloc (.cells #[.int .i64 0, .int .i64 0, .int .i64 0, .int .i64 0] 58)) := (Below.refl _ _).alloc (Nat.le_refl _) _
  have HG0 : Hid (Gets w (w.alloc (.cells #[.int .i64 0, .int .i64 0, .int .i64 0, .int .i64 0] 58))) := ⟨hal, heap_alloc_new _ _⟩
  have hst := conv_str (w := w.alloc (.cells #[.int .i64 0, .int .i64 0, .int .i64 0, .int .i64 0] 58)) (sp := some ⟨bb, off, none⟩) (l := l.take 4) (by have := (hs.below hal (Nat.le_refl _)).part256 hl 0 4 (by omega); rw [List.drop_zero] at this; exact this) 4 cap (by rw [List.length_take, hl]; rfl)
  have hE : getE l = 8 := by rw [getE, if_neg (by omega), if_pos h1]
  have hne1 : ((str (l.take 4)).toList == [76, 86, 69, 69]) = false := by
    have := (not_congr (str_beq (l.take 4) markL)).2 h1
    simpa [str, markL] using this
  have HE : Hid (getE l = 8) := hE
  generalize str (l.take 4) = s at hst hne1
  clear hE h1 hs hl _ht
  go_enter Tryz.func83, Tryz.ntmps83
  go_wp2
  refine bodyPost_ret (results_sup rfl _ _ w.heap.size 0 0 0 0 rfl HG0.out.r) rfl ?_
  exact ⟨err_form HE.out (by omega), HG0.out.b⟩
set_option maxRecDepth 100000 in
set_option maxHeartbeats 4000000 in
theorem sget_sum (bb off cap : Nat) (l : List UInt8) (hl : l.length = 256) (w : World) (hs : Src w (some ⟨bb, off, none⟩) l) (ht : Tab w) (hc : (256 : Int) ≤ cap) (hm : (cap : Int) ≤ 9223372036854775807) (h1 : l.take 4 = markL) (h2 : getNum (l.drop 252) ≠ sumN (l.take 252)) :
    Calls Tryz.prog 83 #[.slice (some ⟨bb, off, none⟩) 256 cap] w fun e w' => e = .returned (.tuple #[.agg #[.int .i64 (getX (rdG l) l), .int .i64 (getX (rdA l) l), .int .i64 (getX (rdI l) l), .int .i64 (getX (rdN l) l)], .int .i64 (getE l)]) ∧ Below w.heap.size w w' := by
  have hal : Below w.heap.size w (w.alloc (.cells #[.int .i64 0, .int .i64 0, .int .i64 0, .int .i64 0] 58)) := (Below.refl _ _).alloc (Nat.le_refl _) _
  have HG0 : Hid (Gets w (w.alloc (.cells #[.int .i64 0, .int .i64 0, .int .i64 0, .int .i64 0] 58))) := ⟨hal, heap_alloc_new _ _⟩
  have hst := conv_str (w := w.alloc (.cells #[.int .i64 0, .int .i64 0, .int .i64 0, .int .i64 0] 58)) (sp := some ⟨bb, off, none⟩) (l := l.take 4) (by have := (hs.below hal (Nat.le_refl _)).part256 hl 0 4 (by omega); rw [List.drop_zero] at this; exact this) 4 cap (by rw [List.length_take, hl]; rfl)
  rw [h1] at hst
  have hst' : (convert 42 9 (.slice (some ⟨bb, off, none⟩) 4 cap)).run Tryz.prog (w.alloc (.cells #[.int .i64 0, .int .i64 0, .int .i64 0, .int .i64 0] 58)) = .ok (.string ⟨#[76, 86, 69, 69]⟩) (w.alloc (.cells #[.int .i64 0, .int .i64 0, .int .i64 0, .int .i64 0] 58)) := hst
  clear hst
  have n1 : ¬ cap = 252 := by omega
  have b1 : (252 : Int) ≤ cap := by omega
  have hd0 : Gets w (w.alloc (.cells #[.int .i64 0, .int .i64 0, .int .i64 0, .int .i64 0] 58)).drew := HG0.out.up (Below.refl _ _).drew
  have GT : ∀ W, Gets w W → Calls Tryz.prog 123 #[.slice (some ⟨bb, off + 252, none⟩) 4 (cap - 252)] W fun e w' => e = .returned (.int .u64 (getNum (l.drop 252) : Int)) ∧ Gets w w' := by
    intro W hR
    have h := nget_any (some ⟨bb, off + 252, none⟩) ((l.drop 252).take 4) (cap - 252) W ((hs.part256 hl 252 4 (by omega)).below hR.b (Nat.le_refl _))
    rw [show ((l.drop 252).take 4).length = 4 by rw [List.length_take, List.length_drop, hl]; rfl, show (l.drop 252).take 4 = l.drop 252 from List.take_of_length_le (by rw [List.length_drop, hl]; omega)] at h
    exact h.mono fun _ _ ⟨q1, q2⟩ => ⟨q1, hR.up q2⟩
  have hw0 : 0 < w.heap.size := block_lt_of_cell (ht 0 (by omega))
  have SM : ∀ W, Gets w W → Calls Tryz.prog 77 #[.slice (some ⟨bb, off, none⟩) 252 cap] W fun e w' => e = .returned (.int .u32 (sumN (l.take 252) : Int)) ∧ w' = W := by
    intro W hR
    have h := sum_any (some ⟨bb, off, none⟩) (l.take 252) cap W (by have := (hs.part256 hl 0 252 (by omega)).below hR.b (Nat.le_refl _); rw [List.drop_zero] at this; exact this) (ht.below hR.b hw0) (by rw [List.length_take, hl]; decide)
    rw [show (l.take 252).length = 252 by rw [List.length_take, hl]; rfl] at h
    exact h
  have hslt : sumN (l.take 252) < 4294967296 := Nat.xor_lt_two_pow (n := 32) (by omega) (crcF_lt _ _ (by omega))
  have hE : getE l = 7 := by rw [getE, if_neg (by omega), if_neg (by rw [h1]; exact fun c => c rfl), if_pos h2]
  have HE : Hid (getE l = 7) := hE
  have u1 : InU (sumN (l.take 252) : Int) := ⟨by omega⟩
  have h2' : ((getNum (l.drop 252) : Int) == (sumN (l.take 252) : Int)) = false := beq_eq_false_iff_ne.2 (by omega)
  clear hE h1 hs hl ht
  generalize getNum (l.drop 252) = N at *
  generalize sumN (l.take 252) = M at *
  go_enter Tryz.func83, Tryz.ntmps83
  go_wp2_with fail
  refine wp_region_held_drew (S := (fun w' => Gets w w')) (by kernel_rfl) hd0 (fun hH => ?_)
  refine takeH (i := 0) (dst := some 16) (v := ?v1) rfl rfl (by kernel_rfl) (by kernel_rfl) (by kernel_rfl) (fun _ _ _ h => h) rfl ?hy1 hH rfl ?rest1
  case hy1 => (intro W hW; clear hW; go_simp; try with_reducible rfl)
  (try simp only [Act.put, List.setIfInBounds_toArray, List.set_cons_zero, List.set_cons_succ])
  refine takeH (i := 1) (dst := some 17) (v := ?v2) rfl rfl (by kernel_rfl) (by kernel_rfl) (by kernel_rfl) (fun _ _ _ h => h) rfl ?hy2 hH rfl ?rest2
  case hy2 => (intro W hW; clear hW; go_simp; try with_reducible rfl)
  (try simp only [Act.put, List.setIfInBounds_toArray, List.set_cons_zero, List.set_cons_succ])
  refine takeH (i := 3) (dst := some 19) (v := ?v3) rfl rfl (by kernel_rfl) (by kernel_rfl) (by kernel_rfl) (fun _ _ _ h => h) rfl ?hy3 hH rfl ?rest3
  case hy3 => (intro W hW; clear hW; go_simp; try with_reducible rfl)
  (try simp only [Act.put, List.setIfInBounds_toArray, List.set_cons_zero, List.set_cons_succ])
  refine takeH (i := 4) (dst := some 20) (v := ?v4) rfl rfl (by kernel_rfl) (by kernel_rfl) (by kernel_rfl) (fun _ _ _ h => h) rfl ?hy4 hH rfl ?rest4
  case hy4 => (intro W hW; clear hW; go_simp; try with_reducible rfl)
  (try simp only [Act.put, List.setIfInBounds_toArray, List.set_cons_zero, List.set_cons_succ])
  refine callH (i := 2) { dst := some 18, op := Go.Op.call { callee := Go.Callee.value (Go.Operand.func 123), args := #[Go.Operand.tmp 17], argTypes := #[42] }, type := 138, pos := "super.go:67", after := #[{ on := 1, ground := Go.Ground.data }], guard := none } (by kernel_rfl) rfl rfl (fun K hK => ?_)
  go_simp
  refine (GT _ hH).mono ?_
  rintro e v1 ⟨rfl, m1⟩
  clear hH
  refine hK.out _ _ m1 (fun hH => ?_)
  clear hK K
  (try simp only [Act.put, List.setIfInBounds_toArray, List.set_cons_zero, List.set_cons_succ])
  refine callH (i := 5) { dst := some 21, op := Go.Op.call { callee := Go.Callee.value (Go.Operand.func 77), args := #[Go.Operand.tmp 20], argTypes := #[42] }, type := 139, pos := "super.go:67", after := #[{ on := 4, ground := Go.Ground.data }, { on := 2, ground := Go.Ground.chain }], guard := none } (by kernel_rfl) rfl rfl (fun K hK => ?_)
  go_simp
  refine (SM _ hH).mono ?_
  rintro e v2 ⟨rfl, rfl⟩
  have m2 := hH
  clear hH
  refine hK.out _ _ m2 (fun hH => ?_)
  clear hK K
  (try simp only [Act.put, List.setIfInBounds_toArray, List.set_cons_zero, List.set_cons_succ])
  refine takeH (i := 6) (dst := some 22) (v := ?v5) rfl rfl (by kernel_rfl) (by kernel_rfl) (by kernel_rfl) (fun _ _ _ h => h) rfl ?hy5 hH rfl ?rest5
  case hy5 => (intro W hW; clear hW; go_simp; try with_reducible rfl)
  (try simp only [Act.put, List.setIfInBounds_toArray, List.set_cons_zero, List.set_cons_succ])
  refine takeH (i := 7) (dst := some 23) (v := ?v6) rfl rfl (by kernel_rfl) (by kernel_rfl) (by kernel_rfl) (fun _ _ _ h => h) rfl ?hy6 hH rfl ?rest6
  case hy6 => (intro W hW; clear hW; go_simp; try with_reducible rfl)
  (try simp only [Act.put, List.setIfInBounds_toArray, List.set_cons_zero, List.set_cons_succ])
  refine wpAnyH_done (by kernel_rfl) ?_ _
  clear hH
  have r0 := m2.r.c0
  have r1 := m2.r.c1
  have r2 := m2.r.c2
  have r3 := m2.r.c3
  have f0 := m2.r.fr 0
  have f1 := m2.r.fr 1
  have f2 := m2.r.fr 2
  have f3 := m2.r.fr 3
  have HM : Hid (Gets w v2) := m2
  clear m1 m2 GT SM
  go_wp2
  refine bodyPost_ret (results_sup rfl _ _ w.heap.size 0 0 0 0 rfl (HM.out.r.set 0 0 0 0)) rfl ?_
  exact ⟨err_form HE.out (by omega), below_set4 HM.out.b (Nat.le_refl _) _ _ _ _⟩
end Go.Proofs.YtkiifmnmeikdlaaGreatDoor
