/- bits.Count, First, Run, Longest, and the document's: each tells what the mathematics says. -/
import Derived.Test.YtfbbdpapnegmcaaBits
import Derived.LoopTactic
namespace Go.Proofs.Ytfbbdpapnegmcaa
open Go.RowKit
theorem Src.drew {w : World} {sp : Option Addr} {l : List UInt8} (h : Src w sp l) (d : Nat) : Src (w.drewN d) sp l := h.below (below_drewN (Below.refl _ _) d) (Nat.le_refl _)
theorem ret_i {a b : Int} (h : a = b) : Ending.returned (.int .i64 a) = .returned (.int .i64 b) := by rw [h]
set_option maxHeartbeats 1000000 in
theorem count_any (sp : Option Addr) (l : List UInt8) (cap : Nat) (n : Int) (w : World) (hs : Src w sp l) (hn : l.length ≤ 140737488355328) :
    Calls Try.prog 46 #[.slice sp l.length cap, .int .i64 n] w fun e w' => e = .returned (.int .i64 (cnt (gb l) (bnd l.length n) : Nat)) ∧ ∃ d, w' = w.drewN d := by
  have hm := bnd_le l.length n
  have BD := bound_any sp l.length cap n w hn
  generalize bnd l.length n = m at hm BD ⊢
  go_enter Try.func46, Try.ntmps46
  go_wp2_with fail
  refine BD.mono ?_
  rintro e w' ⟨rfl, rfl⟩
  clear BD
  go_wp2_with fail
  go_loopw [5, 10] (fun s i wr => ∃ k : Nat, k ≤ m ∧ i = .int .i64 k ∧ s = .int .i64 (cnt (gb l) k : Nat) ∧ ∃ d, wr = w'.drewN d) (fun _ i _ => m - (intOf i).toNat)
  case atStart => exact ⟨0, Nat.zero_le _, rfl, rfl, 0, rfl⟩
  case round =>
    obtain ⟨k, hk, rfl, rfl, d, rfl⟩ := hrel
    by_cases hlt : (k : Int) < m
    · have GT := get_yes sp l cap k (w'.drewN d) (hs.drew d) (by omega) hn
      have hc := cnt_le (gb l) k
      have HS : Hid (cnt (gb l) (k + 1) = cnt (gb l) k + (if gb l k then 1 else 0)) := rfl
      generalize gb l k = b at GT HS
      cases b
      all_goals
        go_wp2_with fail
        refine GT.mono ?_
        rintro e w2 ⟨rfl, d2, rfl⟩
        clear GT
        go_wp2
        go_roundw
        case rel => exact ⟨k + 1, by omega, by go_num, by rw [HS.out]; simp, d + d2, rfl⟩
        case measure => simp [intOf]; omega
    · obtain rfl : k = m := by omega
      go_wp2
      go_ret
      exact ⟨rfl, d, rfl⟩
set_option maxHeartbeats 1000000 in
theorem rcount_any (sp : Option Addr) (l : List UInt8) (cap : Nat) (n : Int) (w : World) (hs : Src w sp l) (hn : l.length ≤ 140737488355328) :
    Calls Try.prog 47 #[.slice sp l.length cap, .int .i64 n] w fun e w' => e = .returned (.int .i64 (cnt (gb l) (bnd l.length n) : Nat)) ∧ w' = w := by
  have hm := bnd_le l.length n
  have BD := most_any sp l.length cap n w hn
  generalize bnd l.length n = m at hm BD ⊢
  go_enter Try.func47, Try.ntmps47
  go_wp2_with fail
  go_loop [5, 6] (fun s i => ∃ k : Nat, k ≤ m ∧ i = .int .i64 k ∧ s = .int .i64 (cnt (gb l) k : Nat)) (fun _ i => m - (intOf i).toNat)
  case atStart => exact ⟨0, Nat.zero_le _, rfl, rfl⟩
  case round =>
    obtain ⟨k, hk, rfl, rfl⟩ := hrel
    by_cases hlt : (k : Int) < m
    · have GT := rget_yes sp l cap k w hs (by omega) hn
      have hc := cnt_le (gb l) k
      have HS : Hid (cnt (gb l) (k + 1) = cnt (gb l) k + (if gb l k then 1 else 0)) := rfl
      generalize gb l k = b at GT HS
      cases b
      all_goals
        go_wp2_with fail
        refine BD.mono ?_
        rintro e w1 ⟨rfl, rfl⟩
        go_wp2_with fail
        refine GT.mono ?_
        rintro e w2 ⟨rfl, rfl⟩
        clear GT
        go_wp2
        go_round
        case rel => exact ⟨k + 1, by omega, by go_num, by rw [HS.out]; simp⟩
        case measure => simp [intOf]; omega
    · obtain rfl : k = m := by omega
      go_wp2_with fail
      refine BD.mono ?_
      rintro e w1 ⟨rfl, rfl⟩
      go_wp2
      go_ret
      exact ⟨rfl, rfl⟩
/-- What First has seen: k of them, from fr on and round. -/
structure Seen (f : Nat → Bool) (m fr k : Nat) : Prop where
  lo : ∀ j, fr ≤ j → j < m → j < fr + k → f j = true
  hi : ∀ j, j + m < fr + k → f j = true
/-- The place behind k of them. -/
def place (m fr k : Nat) : Nat := (fr + k) % m
theorem place_of {m fr k : Nat} (hf : fr ≤ m) (hk : k < m) : place m fr k < m ∧ ((fr + k < m ∧ place m fr k = fr + k) ∨ (m ≤ fr + k ∧ place m fr k + m = fr + k)) := by
  unfold place
  by_cases h : fr + k < m
  · rw [Nat.mod_eq_of_lt h]; omega
  · have e : (fr + k) % m = fr + k - m := by rw [Nat.mod_eq_sub_mod (by omega), Nat.mod_eq_of_lt (by omega)]
    rw [e]; omega
theorem Seen.zero (f : Nat → Bool) {m fr : Nat} (hf : fr ≤ m) : Seen f m fr 0 := ⟨fun j a b c => by omega, fun j a => by omega⟩
theorem Seen.next {f : Nat → Bool} {m fr k : Nat} (h : Seen f m fr k) (hf : fr ≤ m) (hk : k < m) (e : f (place m fr k) = true) : Seen f m fr (k + 1) := by
  obtain ⟨p1, p2⟩ := place_of hf hk
  constructor
  · intro j a b c
    by_cases hj : j < fr + k
    · exact h.lo j a b hj
    · have : j = place m fr k := by omega
      rw [this]; exact e
  · intro j a
    by_cases hj : j + m < fr + k
    · exact h.hi j hj
    · have : j = place m fr k := by omega
      rw [this]; exact e
theorem Seen.found {f : Nat → Bool} {m fr k : Nat} (h : Seen f m fr k) (hf : fr ≤ m) (hk : k < m) (e : f (place m fr k) = false) : IsFirst f m fr (place m fr k : Nat) := by
  obtain ⟨p1, p2⟩ := place_of hf hk
  refine .inr ⟨_, rfl, p1, e, ?_⟩
  rcases p2 with ⟨a, b⟩ | ⟨a, b⟩
  · exact .inl ⟨by omega, fun j x y => h.lo j x (by omega) (by omega)⟩
  · exact .inr ⟨by omega, fun j x y => h.lo j x y (by omega), fun j x => h.hi j (by omega)⟩
theorem Seen.all {f : Nat → Bool} {m fr : Nat} (h : Seen f m fr m) : IsFirst f m fr (-1) := by
  refine .inl ⟨rfl, fun j hj => ?_⟩
  by_cases a : fr ≤ j
  · exact h.lo j a hj (by omega)
  · exact h.hi j (by omega)
theorem IsFirst.over {f : Nat → Bool} {m fr : Nat} {r : Int} (h : IsFirst f m fr r) (hf : m ≤ fr) : IsFirst f m 0 r := by
  rcases h with h | ⟨k, e, hk, fk, h | h⟩
  · exact .inl h
  · omega
  · exact .inr ⟨k, e, hk, fk, .inl ⟨by omega, fun j _ x => h.2.2 j x⟩⟩
/-- from, as First takes it. -/
def frz (m : Nat) (fr : Int) : Nat := if 0 ≤ fr ∧ fr ≤ m then fr.toNat else 0
theorem frz_in {m : Nat} {fr : Int} (h : 0 ≤ fr ∧ fr ≤ m) : (frz m fr : Int) = fr := by unfold frz; rw [if_pos h]; omega
theorem frz_out {m : Nat} {fr : Int} (h : fr < 0 ∨ (m : Int) < fr) : frz m fr = 0 := by unfold frz; rw [if_neg (by omega)]
theorem frz_le (m : Nat) (fr : Int) : frz m fr ≤ m := by unfold frz; split <;> omega
set_option maxHeartbeats 2000000 in
theorem first_any (sp : Option Addr) (l : List UInt8) (cap : Nat) (n fr : Int) (w : World) (hs : Src w sp l) (hn : l.length ≤ 140737488355328) :
    Calls Try.prog 48 #[.slice sp l.length cap, .int .i64 n, .int .i64 fr] w fun e w' => (∃ r, e = .returned (.int .i64 r) ∧ IsFirst (gb l) (bnd l.length n) (frz (bnd l.length n) fr) r) ∧ ∃ d, w' = w.drewN d := by
  have hm := bnd_le l.length n
  have BD := bound_any sp l.length cap n w hn
  generalize bnd l.length n = m at hm BD ⊢
  have core : ∀ x : Int, x = (frz m fr : Nat) → (x = fr ∨ x = 0) := by
    intro x hx
    by_cases h : 0 ≤ fr ∧ fr ≤ m
    · exact .inl (hx.trans (frz_in h))
    · right; rw [hx, frz_out (by omega)]; rfl
  clear core
  have hfl := frz_le m fr
  have HF : Hid (0 ≤ fr ∧ fr ≤ m → (frz m fr : Int) = fr) := frz_in
  have HO : Hid (fr < 0 ∨ (m : Int) < fr → frz m fr = 0) := frz_out
  generalize frz m fr = q at HF HO hfl ⊢
  rcases (show (fr < 0) ∨ ((m : Int) < fr) ∨ (0 ≤ fr ∧ fr ≤ m) by omega) with h | h | ⟨h, h'⟩
  · obtain rfl : q = 0 := HO.out (.inl h)
    clear HF HO
    go_enter Try.func48, Try.ntmps48
    go_wp2_with fail
    refine BD.mono ?_
    rintro e w' ⟨rfl, rfl⟩
    clear BD
    go_wp2_with fail
    go_loopw [20] (fun i wr => ∃ k : Nat, k ≤ m ∧ i = .int .i64 k ∧ Seen (gb l) m 0 k ∧ ∃ d, wr = w'.drewN d) (fun i _ => m - (intOf i).toNat)
    case atStart => exact ⟨0, Nat.zero_le _, rfl, Seen.zero _ (by omega), 0, rfl⟩
    case round =>
      obtain ⟨k, hk, rfl, hseen, d, rfl⟩ := hrel
      have HSN : Hid _ := hseen
      clear hseen
      by_cases hlt : (k : Int) < m
      · have hp := place_of (m := m) (fr := 0) (k := k) (by omega) (by omega)
        have GT := get_yes sp l cap (place m 0 k) (w'.drewN d) (hs.drew d) (by omega) hn
        have hpe : (((0 : Nat) : Int) + (k : Int)) % (m : Int) = (place m 0 k : Nat) := by unfold place; simp
        have hpe2 : (k : Int) % (m : Int) = (place m 0 k : Nat) := by unfold place; simp
        have hmz : ¬ (m : Int) = 0 := by omega
        obtain ⟨b, HB⟩ : ∃ b, Hid (gb l (place m 0 k) = b) := ⟨_, rfl⟩
        rw [HB.out] at GT
        cases b
        · go_wp2_with fail
          refine GT.mono ?_
          rintro e w2 ⟨rfl, d2, rfl⟩
          clear GT
          go_wp2
          go_ret
          exact ⟨⟨(place m 0 k : Nat), ret_i (by first | exact hpe | exact hpe2 | rfl), HSN.out.found (by omega) (by omega) HB.out⟩, d + d2, rfl⟩
        · go_wp2_with fail
          refine GT.mono ?_
          rintro e w2 ⟨rfl, d2, rfl⟩
          clear GT
          go_wp2
          go_roundw
          case rel => exact ⟨k + 1, by omega, by go_num, HSN.out.next (by omega) (by omega) HB.out, d + d2, rfl⟩
          case measure => simp [intOf]; omega
      · obtain rfl : k = m := by omega
        go_wp2
        go_ret
        exact ⟨⟨_, rfl, HSN.out.all⟩, d, rfl⟩
  · obtain rfl : q = 0 := HO.out (.inr h)
    have h0 : 0 ≤ fr := by omega
    clear HF HO
    go_enter Try.func48, Try.ntmps48
    go_wp2_with fail
    refine BD.mono ?_
    rintro e w' ⟨rfl, rfl⟩
    clear BD
    go_wp2_with fail
    go_loopw [20] (fun i wr => ∃ k : Nat, k ≤ m ∧ i = .int .i64 k ∧ Seen (gb l) m 0 k ∧ ∃ d, wr = w'.drewN d) (fun i _ => m - (intOf i).toNat)
    case atStart => exact ⟨0, Nat.zero_le _, rfl, Seen.zero _ (by omega), 0, rfl⟩
    case round =>
      obtain ⟨k, hk, rfl, hseen, d, rfl⟩ := hrel
      have HSN : Hid _ := hseen
      clear hseen
      by_cases hlt : (k : Int) < m
      · have hp := place_of (m := m) (fr := 0) (k := k) (by omega) (by omega)
        have GT := get_yes sp l cap (place m 0 k) (w'.drewN d) (hs.drew d) (by omega) hn
        have hpe : (((0 : Nat) : Int) + (k : Int)) % (m : Int) = (place m 0 k : Nat) := by unfold place; simp
        have hpe2 : (k : Int) % (m : Int) = (place m 0 k : Nat) := by unfold place; simp
        have hmz : ¬ (m : Int) = 0 := by omega
        obtain ⟨b, HB⟩ : ∃ b, Hid (gb l (place m 0 k) = b) := ⟨_, rfl⟩
        rw [HB.out] at GT
        cases b
        · go_wp2_with fail
          refine GT.mono ?_
          rintro e w2 ⟨rfl, d2, rfl⟩
          clear GT
          go_wp2
          go_ret
          exact ⟨⟨(place m 0 k : Nat), ret_i (by first | exact hpe | exact hpe2 | rfl), HSN.out.found (by omega) (by omega) HB.out⟩, d + d2, rfl⟩
        · go_wp2_with fail
          refine GT.mono ?_
          rintro e w2 ⟨rfl, d2, rfl⟩
          clear GT
          go_wp2
          go_roundw
          case rel => exact ⟨k + 1, by omega, by go_num, HSN.out.next (by omega) (by omega) HB.out, d + d2, rfl⟩
          case measure => simp [intOf]; omega
      · obtain rfl : k = m := by omega
        go_wp2
        go_ret
        exact ⟨⟨_, rfl, HSN.out.all⟩, d, rfl⟩
  · have hq := HF.out ⟨h, h'⟩
    clear HF HO
    subst hq
    have hnq : ¬ m < q := by omega
    have hdq : decide (m < q) = false := by simpa using hnq
    clear h h'
    go_enter Try.func48, Try.ntmps48
    go_wp2_with fail
    refine BD.mono ?_
    rintro e w' ⟨rfl, rfl⟩
    clear BD
    go_wp2_with fail
    go_loopw [20] (fun i wr => ∃ k : Nat, k ≤ m ∧ i = .int .i64 k ∧ Seen (gb l) m q k ∧ ∃ d, wr = w'.drewN d) (fun i _ => m - (intOf i).toNat)
    case atStart => exact ⟨0, Nat.zero_le _, rfl, Seen.zero _ (by omega), 0, rfl⟩
    case round =>
      obtain ⟨k, hk, rfl, hseen, d, rfl⟩ := hrel
      have HSN : Hid _ := hseen
      clear hseen
      by_cases hlt : (k : Int) < m
      · have hp := place_of (m := m) (fr := q) (k := k) (by omega) (by omega)
        have GT := get_yes sp l cap (place m q k) (w'.drewN d) (hs.drew d) (by omega) hn
        have hpe : (((q : Nat) : Int) + (k : Int)) % (m : Int) = (place m q k : Nat) := by unfold place; simp
        have hpe2 : (k : Int) % (m : Int) = (place m 0 k : Nat) := by unfold place; simp
        have hmz : ¬ (m : Int) = 0 := by omega
        obtain ⟨b, HB⟩ : ∃ b, Hid (gb l (place m q k) = b) := ⟨_, rfl⟩
        rw [HB.out] at GT
        cases b
        · go_wp2_with fail
          refine GT.mono ?_
          rintro e w2 ⟨rfl, d2, rfl⟩
          clear GT
          go_wp2
          go_ret
          exact ⟨⟨(place m q k : Nat), ret_i (by first | exact hpe | exact hpe2 | rfl), HSN.out.found (by omega) (by omega) HB.out⟩, d + d2, rfl⟩
        · go_wp2_with fail
          refine GT.mono ?_
          rintro e w2 ⟨rfl, d2, rfl⟩
          clear GT
          go_wp2
          go_roundw
          case rel => exact ⟨k + 1, by omega, by go_num, HSN.out.next (by omega) (by omega) HB.out, d + d2, rfl⟩
          case measure => simp [intOf]; omega
      · obtain rfl : k = m := by omega
        go_wp2
        go_ret
        exact ⟨⟨_, rfl, HSN.out.all⟩, d, rfl⟩
end Go.Proofs.Ytfbbdpapnegmcaa
