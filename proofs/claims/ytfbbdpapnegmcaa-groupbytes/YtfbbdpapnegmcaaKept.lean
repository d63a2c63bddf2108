/- group.keptBlocks, keptSlots, numbered, covers. -/
import Derived.Test.YtfbbdpapnegmcaaTabs
import Derived.Test.YtfbbdpapnegmcaaAsks
namespace Go.Proofs.Ytfbbdpapnegmcaa
open Go.RowKit
/-- A shape that can be, and a group of it. -/
def numB (a i n no : Int) : Bool := okB a i n && (decide (0 ≤ no) && decide (no < n))
set_option maxHeartbeats 1000000 in
theorem keptBlocks_any (a i n : Int) (w : World) (hok : okG a i n) :
    Calls Try.prog 38 #[.agg #[.int .i64 a, .int .i64 i, .int .i64 n]] w fun e w' => e = .returned (.int .i64 (1 + i / 4)) ∧ Below w.heap.size w w' := by
  have hb : Below w.heap.size w (w.alloc (.cells #[.int .i64 a, .int .i64 i, .int .i64 n] 23)) := (Below.refl _ _).alloc (Nat.le_refl _) _
  have TB := tables_any a i n
  rw [if_pos hok] at TB
  have hbx := hok.box
  go_enter Try.func38, Try.ntmps38
  go_wp2_with fail
  refine (TB _).mono ?_
  rintro e w1 ⟨rfl, hb1⟩
  have hB := hb.trans (hb1.mono hb.size)
  clear TB hb1
  go_wp2
  go_ret
  exact ⟨rfl, hB⟩
/-- How many slots of group no are kept. -/
def ksl (no : Int) : Nat := if no = 0 then 2 else 0
set_option maxHeartbeats 1000000 in
theorem keptSlots_any (no : Int) (w : World) :
    Calls Try.prog 39 #[.int .i64 no] w fun e w' => e = .returned (.int .i64 (ksl no : Nat)) ∧ w' = w := by
  unfold ksl
  by_cases h : no = 0
  · rw [if_pos h]
    go_enter Try.func39, Try.ntmps39
    go_wp2
    go_ret
    exact ⟨rfl, rfl⟩
  · rw [if_neg h]
    go_enter Try.func39, Try.ntmps39
    go_wp2
    go_ret
    exact ⟨rfl, rfl⟩
set_option maxHeartbeats 1000000 in
theorem numbered_any (a i n no : Int) (w : World) :
    Calls Try.prog 36 #[.agg #[.int .i64 a, .int .i64 i, .int .i64 n], .int .i64 no] w fun e w' => e = .returned (.bool (numB a i n no)) ∧ Below w.heap.size w w' := by
  have L0 : Lies w w.heap.size a i n (w.alloc (.cells #[.int .i64 a, .int .i64 i, .int .i64 n] 23)) := ⟨by simp, by simp, by simp, (Below.refl _ _).alloc (Nat.le_refl _) _⟩
  have RT := right_any a i n
  unfold numB
  generalize okB a i n = ok at RT ⊢
  cases ok
  · go_enter Try.func36, Try.ntmps36
    go_wp2_with fail
    refine (keep3 w.heap.size a i n w L0 (RT _)).mono ?_
    rintro e w1 ⟨rfl, k0, k1, k2, kb⟩
    go_wp2
    go_ret
    exact ⟨rfl, kb⟩
  · by_cases h0 : 0 ≤ no
    · by_cases h1 : no < n
      · go_enter Try.func36, Try.ntmps36
        go_wp2_with fail
        refine (keep3 w.heap.size a i n w L0 (RT _)).mono ?_
        rintro e w1 ⟨rfl, k0, k1, k2, kb⟩
        go_wp2
        go_ret
        exact ⟨by simp [h0, h1], kb⟩
      · have hd : decide (no < n) = false := by simpa using h1
        go_enter Try.func36, Try.ntmps36
        go_wp2_with fail
        refine (keep3 w.heap.size a i n w L0 (RT _)).mono ?_
        rintro e w1 ⟨rfl, k0, k1, k2, kb⟩
        go_wp2
        go_ret
        exact ⟨by simp [h1], kb⟩
    · have hd : decide (0 ≤ no) = false := by simpa using h0
      go_enter Try.func36, Try.ntmps36
      go_wp2_with fail
      refine (keep3 w.heap.size a i n w L0 (RT _)).mono ?_
      rintro e w1 ⟨rfl, k0, k1, k2, kb⟩
      go_wp2
      go_ret
      exact ⟨by simp; omega, kb⟩
/-- The first bits are set, and none from n on. -/
def covB (l : List UInt8) (first n : Nat) : Bool := cnt (gb l) first == first && cnt (gb l) n == cnt (gb l) (8 * l.length)
theorem bnd_nat {len k : Nat} (h : k ≤ 8 * len) : bnd len (k : Int) = k := by have := bnd_of len (k : Int); omega
set_option maxHeartbeats 1000000 in
theorem covers_any (sp : Option Addr) (l : List UInt8) (cap first n : Nat) (w : World) (hs : Src w sp l) (hn : l.length ≤ 140737488355328) (h1 : first ≤ 8 * l.length) (h2 : n ≤ 8 * l.length) :
    Calls Try.prog 42 #[.slice sp l.length cap, .int .i64 first, .int .i64 n] w fun e w' => e = .returned (.bool (covB l first n)) ∧ ∃ d, w' = w.drewN d := by
  have C1 := count_any sp l cap first w hs hn
  have C2 := fun d => count_any sp l cap n (w.drewN d) (hs.drew d) hn
  have C3 := fun d => count_any sp l cap ((8 * l.length : Nat) : Int) (w.drewN d) (hs.drew d) hn
  rw [bnd_nat h1] at C1
  rw [bnd_nat h2] at C2
  rw [bnd_nat (Nat.le_refl _)] at C3
  rw [show ((8 * l.length : Nat) : Int) = 8 * (l.length : Int) by omega] at C3
  unfold covB
  generalize cnt (gb l) first = c1 at C1 ⊢
  generalize cnt (gb l) n = c2 at C2 ⊢
  generalize cnt (gb l) (8 * l.length) = c3 at C3 ⊢
  by_cases e1 : (c1 : Int) = first
  · by_cases e2 : (c2 : Int) = c3
    · go_enter Try.func42, Try.ntmps42
      go_wp2_with fail
      refine C1.mono ?_
      rintro e w1 ⟨rfl, d1, rfl⟩
      go_wp2_with fail
      refine (C2 _).mono ?_
      rintro e w2 ⟨rfl, d2, rfl⟩
      go_wp2_with fail
      refine (C3 _).mono ?_
      rintro e w3 ⟨rfl, d3, rfl⟩
      go_wp2
      go_ret
      exact ⟨by rw [show c1 = first by omega, show c2 = c3 by omega]; simp, d1 + d2 + d3, rfl⟩
    · have hd : ((c2 : Int) == (c3 : Int)) = false := by simpa using e2
      go_enter Try.func42, Try.ntmps42
      go_wp2_with fail
      refine C1.mono ?_
      rintro e w1 ⟨rfl, d1, rfl⟩
      go_wp2_with fail
      refine (C2 _).mono ?_
      rintro e w2 ⟨rfl, d2, rfl⟩
      go_wp2_with fail
      refine (C3 _).mono ?_
      rintro e w3 ⟨rfl, d3, rfl⟩
      go_wp2
      go_ret
      exact ⟨by simp; omega, d1 + d2 + d3, rfl⟩
  · have hd : ((c1 : Int) == (first : Int)) = false := by simpa using e1
    go_enter Try.func42, Try.ntmps42
    go_wp2_with fail
    refine C1.mono ?_
    rintro e w1 ⟨rfl, d1, rfl⟩
    go_wp2
    go_ret
    exact ⟨by simp; omega, d1, rfl⟩
end Go.Proofs.Ytfbbdpapnegmcaa
