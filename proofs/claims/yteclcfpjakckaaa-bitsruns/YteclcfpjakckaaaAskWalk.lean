/- leveelaw05.known and the walk of leveelaw05.BitsAsks. -/
import Derived.Test.YteclcfpjakckaaaRfirst
import Derived.Test.YteclcfpjakckaaaRuns
import Derived.Test.YteclcfpjakckaaaSet
namespace Go.Proofs.Yteclcfpjakckaaa
open Go.RowKit
/-- The bit i, whatever number i is. -/
def gbi (l : List UInt8) (i : Int) : Bool := if 0 ≤ i ∧ i < 8 * (l.length : Int) then gb l i.toNat else false
theorem gbi_nat (l : List UInt8) (k : Nat) : gbi l (k : Int) = gb l k := by
  unfold gbi
  by_cases h : k < 8 * l.length
  · rw [if_pos (by omega)]; simp
  · rw [if_neg (by omega), gb_out l k (by omega)]
theorem get_i (sp : Option Addr) (l : List UInt8) (cap : Nat) (i : Int) (w : World) (hs : Src w sp l) (hn : l.length ≤ 140737488355328) (hi : i ≤ 9223372036854775807) :
    Calls Try.prog 10 #[.slice sp l.length cap, .int .i64 i] w fun e w' => e = .returned (.bool (gbi l i)) ∧ ∃ n, w' = w.drewN n := by
  by_cases h : 0 ≤ i ∧ i < 8 * (l.length : Int)
  · obtain ⟨k, rfl⟩ := Int.eq_ofNat_of_zero_le h.1
    rw [gbi_nat]; exact get_yes sp l cap k w hs (by omega) hn
  · have e : gbi l i = false := if_neg h
    rw [e]; exact get_no sp l.length cap i w (by omega) hi
theorem rget_i (sp : Option Addr) (l : List UInt8) (cap : Nat) (i : Int) (w : World) (hs : Src w sp l) (hn : l.length ≤ 140737488355328) (hi : i ≤ 9223372036854775807) :
    Calls Try.prog 11 #[.slice sp l.length cap, .int .i64 i] w fun e w' => e = .returned (.bool (gbi l i)) ∧ w' = w := by
  by_cases h : 0 ≤ i ∧ i < 8 * (l.length : Int)
  · obtain ⟨k, rfl⟩ := Int.eq_ofNat_of_zero_le h.1
    rw [gbi_nat]; exact rget_yes sp l cap k w hs (by omega) hn
  · have e : gbi l i = false := if_neg h
    rw [e]; exact rget_no sp l.length cap i w (by omega) hi
theorem clear_dec (f : Nat → Bool) (a n : Nat) : Clear f a n ↔ ∀ j, j < n → f (a + j) = false :=
  ⟨fun h j hj => h (a + j) (by omega) (by omega), fun h j h1 h2 => by have := h (j - a) (by omega); rw [show a + (j - a) = j by omega] at this; exact this⟩
def k13 : List UInt8 := [19]
theorem k13_bits : gb k13 0 = true ∧ gb k13 1 = true ∧ gb k13 2 = false ∧ gb k13 3 = false ∧ gb k13 4 = true ∧ gb k13 5 = false ∧ gb k13 6 = false ∧ gb k13 7 = false := by decide
theorem k13_bnd : bnd k13.length 8 = 8 := by decide
theorem k13_first : IsFirst (gb k13) 8 0 2 := by
  obtain ⟨b0, b1, b2, b3, b4, b5, b6, b7⟩ := k13_bits
  refine .inr ⟨2, rfl, by omega, b2, .inl ⟨by omega, fun j _ hj => ?_⟩⟩
  rcases (show j = 0 ∨ j = 1 by omega) with rfl | rfl <;> assumption
theorem k13_clear (a n : Nat) (h : a + n ≤ 8) (c : Clear (gb k13) a n) : n ≤ 3 ∧ (a < 5 → n < 3) := by
  obtain ⟨b0, b1, b2, b3, b4, b5, b6, b7⟩ := k13_bits
  have n0 : ¬ (a ≤ 0 ∧ 0 < a + n) := fun x => by have := c 0 x.1 x.2; rw [b0] at this; cases this
  have n1 : ¬ (a ≤ 1 ∧ 1 < a + n) := fun x => by have := c 1 x.1 x.2; rw [b1] at this; cases this
  have n4 : ¬ (a ≤ 4 ∧ 4 < a + n) := fun x => by have := c 4 x.1 x.2; rw [b4] at this; cases this
  omega
theorem k13_53 : Clear (gb k13) 5 3 := by
  obtain ⟨b0, b1, b2, b3, b4, b5, b6, b7⟩ := k13_bits
  intro j h1 h2
  rcases (show j = 5 ∨ j = 6 ∨ j = 7 by omega) with rfl | rfl | rfl <;> assumption
theorem k13_long : IsLong (gb k13) 8 5 3 := ⟨by omega, k13_53, fun a n h c => k13_clear a n h c⟩
theorem k13_run : IsRun (gb k13) 8 3 5 := .inr ⟨5, 3, rfl, rfl, by omega, by omega, k13_53, fun a ha c => by
  by_cases h : a + 3 ≤ 8
  · have := k13_clear a 3 h c; omega
  · omega⟩
theorem k13_cnt : cnt (gb k13) 8 = 3 := by decide
theorem k13_set : setb k13 2 true = [23] := by decide
/-- The map of known() lies at g. -/
structure Kn (w0 : World) (w : World) : Prop where
  blk : Blk w w0.heap.size 5 k13
  bel : Below w0.heap.size w0 w
theorem Kn.up {w0 w w' : World} (h : Kn w0 w) (hb : Below w.heap.size w w') : Kn w0 w' := ⟨h.blk.below hb h.blk.lt, h.bel.trans (hb.mono h.bel.size)⟩
theorem Kn.drewN {w0 w : World} (h : Kn w0 w) (d : Nat) : Kn w0 (w.drewN d) := h.up (below_drewN (Below.refl _ _) d)
set_option maxHeartbeats 4000000 in
theorem known_any (w : World) : Calls Try.prog 6 #[] w fun e w' => e = .returned (.bool true) ∧ Below w.heap.size w w' := by
  have K0 : Kn w (w.alloc (.cells #[.int .u8 19] 5)) := ⟨heap_alloc_new _ _, (Below.refl _ _).alloc (Nat.le_refl _) _⟩
  have LO : ∀ W, Kn w W → Calls Try.prog 8 #[.slice (some ⟨w.heap.size, 0, none⟩) 1 1, .int .i64 8] W fun e w' => e = .returned (.tuple #[.int .i64 5, .int .i64 3]) ∧ Kn w w' := by
    intro W hK
    refine (longest_any (some ⟨w.heap.size, 0, none⟩) k13 1 8 W hK.blk.src (by decide)).mono ?_
    rintro e w' ⟨⟨a, k, rfl, hl⟩, d, rfl⟩
    rw [k13_bnd] at hl
    obtain ⟨rfl, rfl⟩ := hl.same k13_long
    exact ⟨rfl, hK.drewN d⟩
  have SE : ∀ W, Kn w W → Calls Try.prog 19 #[.slice (some ⟨w.heap.size, 0, none⟩) 1 1, .int .i64 2, .bool true] W fun e w' => ∃ g, e = .returned (.tuple #[.slice (some ⟨g, 0, none⟩) 1 1, .int .i64 0]) ∧ Blk w' g 5 [23] ∧ Kn w w' := by
    intro W hK
    refine (set_yes (some ⟨w.heap.size, 0, none⟩) k13 1 2 true W hK.blk.src (by decide) (by decide)).mono ?_
    rintro e w' ⟨g, rfl, hg, _, hb⟩
    rw [k13_set] at hg
    exact ⟨g, rfl, hg, hK.up hb⟩
  have FI : ∀ W, Kn w W → Calls Try.prog 14 #[.slice (some ⟨w.heap.size, 0, none⟩) 1 1, .int .i64 8, .int .i64 0] W fun e w' => e = .returned (.int .i64 2) ∧ ∃ d, w' = W.drewN d := by
    intro W hK
    refine (first_any (some ⟨w.heap.size, 0, none⟩) k13 1 8 0 W hK.blk.src (by decide)).mono ?_
    rintro e w' ⟨⟨r, rfl, hl⟩, hd⟩
    rw [k13_bnd, show frz 8 0 = 0 from rfl] at hl
    rw [hl.same k13_first]
    exact ⟨rfl, hd⟩
  have RU : ∀ W, Kn w W → Calls Try.prog 16 #[.slice (some ⟨w.heap.size, 0, none⟩) 1 1, .int .i64 8, .int .i64 3] W fun e w' => e = .returned (.int .i64 5) ∧ ∃ d, w' = W.drewN d := by
    intro W hK
    refine (run_any (some ⟨w.heap.size, 0, none⟩) k13 1 8 3 W hK.blk.src (by decide)).mono ?_
    rintro e w' ⟨⟨r, rfl, hl⟩, hd⟩
    rw [k13_bnd] at hl
    rw [hl.same k13_run]
    exact ⟨rfl, hd⟩
  have CO : ∀ W, Kn w W → Calls Try.prog 12 #[.slice (some ⟨w.heap.size, 0, none⟩) 1 1, .int .i64 8] W fun e w' => e = .returned (.int .i64 3) ∧ ∃ d, w' = W.drewN d := by
    intro W hK
    refine (count_any (some ⟨w.heap.size, 0, none⟩) k13 1 8 W hK.blk.src (by decide)).mono ?_
    rintro e w' ⟨rfl, hd⟩
    rw [k13_bnd, k13_cnt]
    exact ⟨rfl, hd⟩
  go_enter Try.func6, Try.ntmps6
  go_wp2_with fail
  refine (LO _ K0).mono ?_
  rintro e w1 ⟨rfl, K1⟩
  clear LO K0
  go_wp2_with fail
  refine (SE _ K1).mono ?_
  rintro e w2 ⟨g, rfl, hg, K2⟩
  clear SE K1
  have hc : w2.cell? ⟨g, 0, none⟩ = some (.int .u8 23) := hg.cell 0 (by decide)
  go_wp2_with fail
  refine (FI _ K2).mono ?_
  rintro e w3 ⟨rfl, d3, rfl⟩
  clear FI
  go_wp2_with fail
  refine (RU _ (K2.drewN d3)).mono ?_
  rintro e w4 ⟨rfl, d4, rfl⟩
  clear RU
  go_wp2_with fail
  refine (CO _ (K2.drewN (d3 + d4))).mono ?_
  rintro e w5 ⟨rfl, d5, rfl⟩
  clear CO
  have KF := (K2.drewN (d3 + d4 + d5)).bel
  go_wp2
  go_ret
  exact ⟨rfl, KF⟩
/-- The map that came in, and a copy of it that the law made, lie as they were. -/
structure At (w0 : World) (g : Nat) (sp : Option Addr) (cap : Nat) (l : List UInt8) (w : World) : Prop where
  own : Blk w g 5 (l ++ a5)
  arg : Arg w sp cap l
  bel : Below w0.heap.size w0 w
section
variable {w0 w w' : World} {g : Nat} {sp : Option Addr} {cap : Nat} {l : List UInt8}
theorem At.up (h : At w0 g sp cap l w) (hb : Below w.heap.size w w') : At w0 g sp cap l w' := ⟨h.own.below hb h.own.lt, h.arg.below hb (Nat.le_refl _), h.bel.trans (hb.mono h.bel.size)⟩
theorem At.drewN (h : At w0 g sp cap l w) (d : Nat) : At w0 g sp cap l (w.drewN d) := h.up (below_drewN (Below.refl _ _) d)
theorem At.src (h : At w0 g sp cap l w) : Src w (some ⟨g, 0, none⟩) l := by
  have := h.own.src.pre l.length
  rw [List.take_left' rfl] at this
  exact this
end
set_option maxHeartbeats 4000000 in
theorem bitsAsks_any (sp : Option Addr) (cap : Nat) (l : List UInt8) (i n want : Int) (w : World) (ha : Arg w sp cap l) (hi : i ≤ 9223372036854775807) :
    Calls Try.prog 3 #[.slice sp l.length cap, .int .i64 i, .int .i64 n, .int .i64 want] w fun e w' => e = .returned (.bool true) ∧ Below w.heap.size w w' := by
  have hl := ha.len.2.2
  by_cases h60 : (60 : Int) < l.length
  · go_enter Try.func3, Try.ntmps3
    go_wp2_with fail
    refine (known_any _).mono ?_
    rintro e w1 ⟨rfl, hb⟩
    go_wp2
    go_ret
    exact ⟨rfl, hb⟩
  go_enter Try.func3, Try.ntmps3
  go_wp2_with fail
  refine (lent_any sp cap l w ha).mono ?_
  rintro e w1 ⟨g, rfl, hg, _, hb⟩
  have A1 : At w g sp cap l w1 := ⟨hg, ha.below hb (Nat.le_refl _), hb⟩
  clear hg hb
  go_wp2_with fail
  refine (longest_any _ l _ n _ A1.src hl).mono ?_
  rintro e w2 ⟨⟨x, k, rfl, hxk⟩, d2, rfl⟩
  have A2 := A1.drewN d2
  have HX : Hid _ := hxk
  clear A1 hxk
  go_wp2_with fail
  refine (rlongest_any _ l _ n _ A2.arg.src hl).mono ?_
  rintro e w3 ⟨⟨y, m, rfl, hym⟩, rfl⟩
  obtain ⟨rfl, rfl⟩ := IsLong.same HX.out hym
  clear HX hym
  go_wp2_with fail
  refine (get_i _ l _ i _ A2.src hl hi).mono ?_
  rintro e w4 ⟨rfl, d4, rfl⟩
  replace A2 := A2.drewN d4
  simp only [World.drewN_drewN] at A2
  go_wp2_with fail
  refine (rget_i _ l _ i _ A2.arg.src hl hi).mono ?_
  rintro e w5 ⟨rfl, rfl⟩
  generalize gbi l i = b0
  go_wp2_with fail
  refine (count_any _ l _ n _ A2.src hl).mono ?_
  rintro e w6 ⟨rfl, d6, rfl⟩
  replace A2 := A2.drewN d6
  simp only [World.drewN_drewN] at A2
  go_wp2_with fail
  refine (rcount_any _ l _ n _ A2.arg.src hl).mono ?_
  rintro e w7 ⟨rfl, rfl⟩
  generalize cnt (gb l) (bnd l.length n) = c0
  go_wp2_with fail
  refine (first_any _ l _ n i _ A2.src hl).mono ?_
  rintro e w8 ⟨⟨r, rfl, hr⟩, d8, rfl⟩
  have HR : Hid _ := hr
  clear hr
  replace A2 := A2.drewN d8
  simp only [World.drewN_drewN] at A2
  go_wp2_with fail
  refine (rfirst_any _ l _ n i _ A2.arg.src hl hi).mono ?_
  rintro e w9 ⟨⟨s, rfl, hs⟩, rfl⟩
  obtain rfl := IsFirst.same HR.out hs
  clear HR hs
  go_wp2_with fail
  refine (run_any _ l _ n want _ A2.src hl).mono ?_
  rintro e w10 ⟨⟨t, rfl, ht⟩, d10, rfl⟩
  have HT : Hid _ := ht
  clear ht
  replace A2 := A2.drewN d10
  simp only [World.drewN_drewN] at A2
  go_wp2_with fail
  refine (rrun_any _ l _ n want _ A2.arg.src hl).mono ?_
  rintro e w11 ⟨⟨u, rfl, hu⟩, rfl⟩
  obtain rfl := IsRun.same HT.out hu
  clear HT hu
  go_wp2_with fail
  refine (kept_any g sp cap l _ A2.own A2.arg).mono ?_
  rintro e w12 ⟨rfl, hb12⟩
  have A3 := A2.up hb12
  clear A2 hb12
  go_wp2_with fail
  refine (known_any _).mono ?_
  rintro e w13 ⟨rfl, hb13⟩
  have A4 := (A3.up hb13).bel
  clear A3 hb13
  go_wp2
  go_ret
  exact ⟨rfl, A4⟩
end Go.Proofs.Yteclcfpjakckaaa
