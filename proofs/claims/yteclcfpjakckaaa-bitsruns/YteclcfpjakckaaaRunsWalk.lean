/- The walk of leveelaw05.BitsRuns. -/
import Derived.Test.YteclcfpjakckaaaAskWalk
namespace Go.Proofs.Yteclcfpjakckaaa
open Go.RowKit
/-- What the law asks of Run and Longest. -/
theorem run_iff {f : Nat → Bool} {m a k : Nat} {want r : Int} (h : IsRun f m want r) (g : IsLong f m a k) : (0 ≤ r ↔ (1 ≤ want ∧ want ≤ k)) := by
  rcases h with ⟨rfl, h⟩ | ⟨p, n, rfl, rfl, h1, h2, h3, h4⟩
  · constructor
    · intro x; omega
    · intro ⟨x, y⟩
      have := h a want.toNat (by have := g.1; omega) (g.2.1.less (by omega))
      omega
  · have := g.2.2 p n h2 h3
    constructor
    · intro _; omega
    · intro _; omega
theorem run_row {f : Nat → Bool} {m : Nat} {want r : Int} (h : IsRun f m want r) (hr : 0 ≤ r) (t : Nat) (ht : (t : Int) < want) : ∃ p : Nat, r = p ∧ p + t < m ∧ f (p + t) = false := by
  rcases h with ⟨rfl, h⟩ | ⟨p, n, rfl, rfl, h1, h2, h3, h4⟩
  · omega
  · exact ⟨p, rfl, by omega, h3 (p + t) (by omega) (by omega)⟩
theorem first_iff {f : Nat → Bool} {m : Nat} {r : Int} (h : IsFirst f m 0 r) : (0 ≤ r ↔ cnt f m < m) := by
  have hc := cnt_le f m
  have hf := cnt_full f m
  rcases h with ⟨rfl, h⟩ | ⟨k, rfl, hk, fk, _⟩
  · have := hf.2 h; omega
  · have : ¬ cnt f m = m := fun e => by have := hf.1 e k hk; rw [fk] at this; cases this
    omega
theorem first_at {f : Nat → Bool} {m : Nat} {r : Int} (h : IsFirst f m 0 r) (hr : 0 ≤ r) : ∃ p : Nat, r = p ∧ p < m ∧ f p = false := by
  rcases h with ⟨rfl, h⟩ | ⟨k, rfl, hk, fk, _⟩
  · omega
  · exact ⟨k, rfl, hk, fk⟩
/-- The map that came in lies as it was. -/
structure In (w0 : World) (sp : Option Addr) (cap : Nat) (l : List UInt8) (w : World) : Prop where
  arg : Arg w sp cap l
  bel : Below w0.heap.size w0 w
theorem In.drewN {w0 w : World} {sp : Option Addr} {cap : Nat} {l : List UInt8} (h : In w0 sp cap l w) (d : Nat) : In w0 sp cap l (w.drewN d) :=
  ⟨h.arg.below (below_drewN (Below.refl _ _) d) (Nat.le_refl _), below_drewN h.bel d⟩
set_option maxHeartbeats 4000000 in
/-- Behind the loop. -/
theorem bitsRuns_any (sp : Option Addr) (cap : Nat) (l : List UInt8) (n want : Int) (w : World) (ha : Arg w sp cap l) (hw : want ≤ 9223372036854775807) :
    Calls Try.prog 5 #[.slice sp l.length cap, .int .i64 n, .int .i64 want] w fun e w' => e = .returned (.bool true) ∧ Below w.heap.size w w' := by
  have hl := ha.len.2.2
  by_cases h60 : (60 : Int) < l.length
  · go_enter Try.func5, Try.ntmps5
    go_wp2_with fail
    refine (known_any _).mono ?_
    rintro e w1 ⟨rfl, hb⟩
    go_wp2
    go_ret
    exact ⟨rfl, hb⟩
  by_cases hn0 : n < 0
  · go_enter Try.func5, Try.ntmps5
    go_wp2_with fail
    refine (known_any _).mono ?_
    rintro e w1 ⟨rfl, hb⟩
    go_wp2
    go_ret
    exact ⟨rfl, hb⟩
  by_cases hn8 : 8 * (l.length : Int) < n
  · go_enter Try.func5, Try.ntmps5
    go_wp2_with fail
    refine (known_any _).mono ?_
    rintro e w1 ⟨rfl, hb⟩
    go_wp2
    go_ret
    exact ⟨rfl, hb⟩
  obtain ⟨m, rfl⟩ := Int.eq_ofNat_of_zero_le (show 0 ≤ n by omega)
  have hbn : bnd l.length (m : Int) = m := by have := bnd_of l.length (m : Int); omega
  have hf0 : frz m 0 = 0 := by have := frz_in (m := m) (fr := 0) (by omega); omega
  have I0 : In w sp cap l w := ⟨ha, Below.refl _ _⟩
  have LO := longest_any sp l cap m w ha.src hl
  have RU := fun W (h : In w sp cap l W) => run_any sp l cap m want W h.arg.src hl
  have FI := fun W (h : In w sp cap l W) => first_any sp l cap m 0 W h.arg.src hl
  have CO := fun W (h : In w sp cap l W) => count_any sp l cap m W h.arg.src hl
  simp only [hbn, hf0] at LO RU FI CO
  have GE := fun (p : Nat) W (h : In w sp cap l W) (hp : p < m) => get_yes sp l cap p W h.arg.src (by omega) hl
  clear hbn hf0
  have hcl := cnt_le (gb l) m
  go_enter Try.func5, Try.ntmps5
  go_wp2_with fail
  refine LO.mono ?_
  rintro e w1 ⟨⟨a, k, rfl, hlong⟩, d1, rfl⟩
  have HL : Hid (IsLong (gb l) m a k) := hlong
  clear hlong LO
  have I1 := I0.drewN d1
  go_wp2_with fail
  refine (RU _ I1).mono ?_
  rintro e w2 ⟨⟨r, rfl, hrun⟩, d2, rfl⟩
  have HR : Hid (IsRun (gb l) m want r) := hrun
  have HI := run_iff HR.out HL.out
  clear hrun RU
  replace I1 := I1.drewN d2
  simp only [World.drewN_drewN] at I1
  have hrb : r ≤ m := by
    rcases HR.out with ⟨rfl, _⟩ | ⟨p, n, rfl, rfl, h1, h2, _, _⟩ <;> omega
  have hr1 : -1 ≤ r := by
    rcases HR.out with ⟨rfl, _⟩ | ⟨p, n, rfl, rfl, h1, h2, _, _⟩ <;> omega
  clear I1
  by_cases hr : 0 ≤ r
  · obtain ⟨hw1, hwk⟩ := HI.1 hr
    clear HI
    go_wp2_with fail
    go_loopw [10] (fun i wr => ∃ t : Nat, (t : Int) ≤ want ∧ i = .int .i64 t ∧ ∃ d, wr = w.drewN d) (fun i _ => (want - intOf i).toNat)
    case atStart => exact ⟨0, by omega, rfl, d1 + d2, rfl⟩
    case round =>
      obtain ⟨t, ht, rfl, d, rfl⟩ := hrel
      by_cases hlt : (t : Int) < want
      · obtain ⟨p, rfl, hp, hgp⟩ := run_row HR.out hr t hlt
        have G := GE (p + t) (w.drewN d) (I0.drewN d) hp
        rw [hgp, show ((p + t : Nat) : Int) = (p : Int) + t by omega] at G
        have hpt : ¬ (m : Int) ≤ (p : Int) + t := by omega
        go_wp2_with fail
        refine G.mono ?_
        rintro e w5 ⟨rfl, d5, rfl⟩
        clear G
        go_wp2
        go_roundw
        case rel => exact ⟨t + 1, by omega, by go_num, d + d5, rfl⟩
        case measure => simp [intOf]; omega
      · obtain rfl : (t : Int) = want := by omega
        go_wp2_with fail
        refine (FI _ (I0.drewN d)).mono ?_
        rintro e w3 ⟨⟨f, rfl, hf⟩, d3, rfl⟩
        have HF : Hid (IsFirst (gb l) m 0 f) := hf
        clear hf FI
        go_wp2_with fail
        refine (CO _ (I0.drewN (d + d3))).mono ?_
        rintro e w4 ⟨rfl, d4, rfl⟩
        have hfi := first_iff HF.out
        clear CO
        by_cases hf0 : 0 ≤ f
        · have hc1 := hfi.1 hf0
          obtain ⟨p, rfl, hp, hgp⟩ := first_at HF.out hf0
          have G := GE p (w.drewN (d + d3 + d4)) (I0.drewN _) hp
          rw [hgp] at G
          clear hfi HF hgp GE
          generalize cnt (gb l) m = c at *
          have hc2 : (c : Int) < m := by omega
          go_wp2_with fail
          refine G.mono ?_
          rintro e w5 ⟨rfl, d5, rfl⟩
          clear G
          go_wp2_with fail
          refine (known_any _).mono ?_
          rintro e w6 ⟨rfl, hb6⟩
          have hbf := (I0.drewN (d + d3 + d4 + d5)).bel.trans (hb6.mono (I0.drewN (d + d3 + d4 + d5)).bel.size)
          go_wp2
          go_ret
          exact ⟨rfl, hbf⟩
        · have hc1 : ¬ cnt (gb l) m < m := fun h => hf0 (hfi.2 h)
          have hdf : decide (0 ≤ f) = false := by simpa using hf0
          have hcm : m ≤ cnt (gb l) m := by omega
          clear hfi HF GE
          generalize cnt (gb l) m = c at *
          have hc2 : ¬ (c : Int) < m := by omega
          go_wp2_with fail
          refine (known_any _).mono ?_
          rintro e w6 ⟨rfl, hb6⟩
          have hbf := (I0.drewN (d + d3 + d4)).bel.trans (hb6.mono (I0.drewN (d + d3 + d4)).bel.size)
          go_wp2
          go_ret
          exact ⟨rfl, hbf⟩
  · have hno : ¬ (1 ≤ want ∧ want ≤ k) := fun h => hr (HI.2 h)
    clear HI
    have hdr : decide (0 ≤ r) = false := by simpa using hr
    by_cases hw1 : 1 ≤ want
    · have hwk : ¬ want ≤ k := fun h => hno ⟨hw1, h⟩
      have hdk : decide (want ≤ (k : Int)) = false := by simpa using hwk
      clear hno
      go_wp2_with fail
      refine wp_loop_rounds 1 ?_
      rw [rounds_succ]
      go_wp2_with fail
      refine (FI _ (I0.drewN (d1 + d2))).mono ?_
      rintro e w3 ⟨⟨f, rfl, hf⟩, d3, rfl⟩
      have HF : Hid (IsFirst (gb l) m 0 f) := hf
      clear hf FI
      go_wp2_with fail
      refine (CO _ (I0.drewN ((d1 + d2) + d3))).mono ?_
      rintro e w4 ⟨rfl, d4, rfl⟩
      have hfi := first_iff HF.out
      clear CO
      by_cases hf0 : 0 ≤ f
      · have hc1 := hfi.1 hf0
        obtain ⟨p, rfl, hp, hgp⟩ := first_at HF.out hf0
        have G := GE p (w.drewN ((d1 + d2) + d3 + d4)) (I0.drewN _) hp
        rw [hgp] at G
        clear hfi HF hgp GE
        generalize cnt (gb l) m = c at *
        have hc2 : (c : Int) < m := by omega
        go_wp2_with fail
        refine G.mono ?_
        rintro e w5 ⟨rfl, d5, rfl⟩
        clear G
        go_wp2_with fail
        refine (known_any _).mono ?_
        rintro e w6 ⟨rfl, hb6⟩
        have hbf := (I0.drewN ((d1 + d2) + d3 + d4 + d5)).bel.trans (hb6.mono (I0.drewN ((d1 + d2) + d3 + d4 + d5)).bel.size)
        go_wp2
        go_ret
        exact ⟨rfl, hbf⟩
      · have hc1 : ¬ cnt (gb l) m < m := fun h => hf0 (hfi.2 h)
        have hdf : decide (0 ≤ f) = false := by simpa using hf0
        have hcm : m ≤ cnt (gb l) m := by omega
        clear hfi HF GE
        generalize cnt (gb l) m = c at *
        have hc2 : ¬ (c : Int) < m := by omega
        go_wp2_with fail
        refine (known_any _).mono ?_
        rintro e w6 ⟨rfl, hb6⟩
        have hbf := (I0.drewN ((d1 + d2) + d3 + d4)).bel.trans (hb6.mono (I0.drewN ((d1 + d2) + d3 + d4)).bel.size)
        go_wp2
        go_ret
        exact ⟨rfl, hbf⟩
    · clear hno
      go_wp2_with fail
      refine wp_loop_rounds 1 ?_
      rw [rounds_succ]
      go_wp2_with fail
      refine (FI _ (I0.drewN (d1 + d2))).mono ?_
      rintro e w3 ⟨⟨f, rfl, hf⟩, d3, rfl⟩
      have HF : Hid (IsFirst (gb l) m 0 f) := hf
      clear hf FI
      go_wp2_with fail
      refine (CO _ (I0.drewN ((d1 + d2) + d3))).mono ?_
      rintro e w4 ⟨rfl, d4, rfl⟩
      have hfi := first_iff HF.out
      clear CO
      by_cases hf0 : 0 ≤ f
      · have hc1 := hfi.1 hf0
        obtain ⟨p, rfl, hp, hgp⟩ := first_at HF.out hf0
        have G := GE p (w.drewN ((d1 + d2) + d3 + d4)) (I0.drewN _) hp
        rw [hgp] at G
        clear hfi HF hgp GE
        generalize cnt (gb l) m = c at *
        have hc2 : (c : Int) < m := by omega
        go_wp2_with fail
        refine G.mono ?_
        rintro e w5 ⟨rfl, d5, rfl⟩
        clear G
        go_wp2_with fail
        refine (known_any _).mono ?_
        rintro e w6 ⟨rfl, hb6⟩
        have hbf := (I0.drewN ((d1 + d2) + d3 + d4 + d5)).bel.trans (hb6.mono (I0.drewN ((d1 + d2) + d3 + d4 + d5)).bel.size)
        go_wp2
        go_ret
        exact ⟨rfl, hbf⟩
      · have hc1 : ¬ cnt (gb l) m < m := fun h => hf0 (hfi.2 h)
        have hdf : decide (0 ≤ f) = false := by simpa using hf0
        have hcm : m ≤ cnt (gb l) m := by omega
        clear hfi HF GE
        generalize cnt (gb l) m = c at *
        have hc2 : ¬ (c : Int) < m := by omega
        go_wp2_with fail
        refine (known_any _).mono ?_
        rintro e w6 ⟨rfl, hb6⟩
        have hbf := (I0.drewN ((d1 + d2) + d3 + d4)).bel.trans (hb6.mono (I0.drewN ((d1 + d2) + d3 + d4)).bel.size)
        go_wp2
        go_ret
        exact ⟨rfl, hbf⟩
end Go.Proofs.Yteclcfpjakckaaa
