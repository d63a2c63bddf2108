/- The walk of leveelaw01.NumSums. -/
import Derived.Test.YtmedfjodkeplfaaDoorSumMath
import Derived.Test.YtmedfjodkeplfaaDoorOps
import Derived.Test.YtmedfjodkeplfaaDoorKnown
namespace Go.Proofs.YtmedfjodkeplfaaDoor
open Go.RowKit
set_option maxHeartbeats 1000000 in
theorem count_any (k n : Int) (w : World) (hk : -9223372036854775808 ≤ k ∧ k ≤ 9223372036854775807) (h1 : 1 ≤ n) (h2 : n ≤ 8000) :
    Calls Tryd.prog 26 #[.int .i64 k, .int .i64 n] w fun e w' => ∃ m : Nat, e = .returned (.int .i64 m) ∧ (m : Int) < n ∧ w' = w := by
  have e1 : k.tmod n = if 0 ≤ k then k % n else -((-k) % n) := by
    split
    · rw [Int.tmod_eq_emod_of_nonneg (by assumption)]
    · rw [← Int.tmod_eq_emod_of_nonneg (by omega), Int.neg_tmod, Int.neg_neg]
  have hb1 := Int.emod_nonneg k (show n ≠ 0 by omega)
  have hb2 := Int.emod_lt_of_pos k (show 0 < n by omega)
  have hb3 := Int.emod_nonneg (-k) (show n ≠ 0 by omega)
  have hb4 := Int.emod_lt_of_pos (-k) (show 0 < n by omega)
  have hr1 : -n < k.tmod n := by rw [e1]; split <;> omega
  have hr2 : k.tmod n < n := by rw [e1]; split <;> omega
  clear e1 hb1 hb2 hb3 hb4
  by_cases hneg : k.tmod n < 0
  · go_enter Tryd.func26, Tryd.ntmps26
    go_wp2
    go_ret
    exact ⟨(k.tmod n + n).toNat, by rw [Int.toNat_of_nonneg (by omega)]; rfl, by omega, rfl⟩
  · go_enter Tryd.func26, Tryd.ntmps26
    go_wp2
    go_ret
    exact ⟨(k.tmod n).toNat, by rw [Int.toNat_of_nonneg (by omega)]; rfl, by omega, rfl⟩
/-- A store into a slice of the call's own. -/
theorem Own.stored {w : World} {base g cap : Nat} {l : List UInt8} (h : Own w base (.slice (some ⟨g, 0, none⟩) l.length cap) l) (j : Nat) (x : UInt8) :
    Own (w.setCell ⟨g, j, none⟩ (bv x)) base (.slice (some ⟨g, 0, none⟩) l.length cap) (l.set j x) := by
  have := (World.ownsRow.stored h j (bv x)).1
  unfold Own
  rw [List.length_set]
  have e : bvs (l.set j x) = (bvs l).set j (bv x) := by simp [bvs]
  rw [e]; exact this
theorem Own.at' {w : World} {base : Nat} {v : Value} {l : List UInt8} (h : Own w base v l) (hl : 0 < l.length) : ∃ g cap, v = .slice (some ⟨g, 0, none⟩) l.length cap ∧ base ≤ g ∧ g < w.heap.size ∧ l.length ≤ cap ∧ (cap : Int) ≤ 9223372036854775807 ∧ (∀ j, (h : j < l.length) → w.cell? ⟨g, j, none⟩ = some (bv l[j])) ∧ ∀ j, w.frozen? ⟨g, j, none⟩ = false := by
  have h0 := h
  obtain ⟨h1, h2⟩ := h
  rcases h2 with ⟨rfl, h3⟩ | ⟨g, cap, cur, rfl, hg, hh, hn, hm, hs, hx⟩
  · omega
  · refine ⟨g, cap, rfl, hg, (Array.getElem?_eq_some_iff.1 hh).1, hn, by unfold maxLen at hm; omega, fun j hj => ?_, fun j => World.ownsRow.frozenAt h0 j⟩
    rw [World.ownsRow.cellAt h0 j (by omega)]; simp [bvs, hj]
theorem turn_walk (l : List UInt8) (m : Nat) : bits .xor .u8 (nth l (m / 8)) (2 ^ (m % 8) % 256) = ((UInt8.ofNat ((l.getD (m / 8) 0).toNat ^^^ 2 ^ (m % 8))).toNat : Int) := by
  have h1 : 2 ^ (m % 8) < 2 ^ 8 := Nat.pow_lt_pow_right (by omega) (by omega)
  replace h1 : 2 ^ (m % 8) < 256 := h1
  have h2 := (l.getD (m / 8) 0).toNat_lt
  have e := u8_xor_nat (l.getD (m / 8) 0).toNat (2 ^ (m % 8)) h2 h1
  have h3 : (l.getD (m / 8) 0).toNat ^^^ 2 ^ (m % 8) < 256 := Nat.xor_lt_two_pow (n := 8) h2 h1
  have e2 : ((2 : Int) ^ (m % 8) % 256) = ((2 ^ (m % 8) : Nat) : Int) := by
    have e3 : ((2 ^ (m % 8) : Nat) : Int) = (2 : Int) ^ (m % 8) := by simp
    rw [← e3]
    clear e e3 h3
    generalize 2 ^ (m % 8) = q at h1 ⊢
    omega
  rw [e2, UInt8.toNat_ofNat', Nat.mod_eq_of_lt h3, ← e]; rfl
set_option maxHeartbeats 1000000 in
theorem sums_walk (sp : Option Addr) (cap : Nat) (l : List UInt8) (k : Int) (w : World) (ha : Arg w sp cap l) (hk : -9223372036854775808 ≤ k ∧ k ≤ 9223372036854775807) (ht : Tab w) :
    Calls Tryd.prog 7 #[.slice sp l.length cap, .int .i64 k] w fun e w' => e = .returned (.bool true) ∧ Below w.heap.size w w' := by
  have hw0 : 0 < w.heap.size := block_lt_of_cell (ht 0 (by omega))
  have la := ha.len
  have KN := known_any w ht
  by_cases hr : l.length = 0
  · have hr' : ((l.length : Int) == 0) = true := by simp [hr]
    obtain rfl : l = [] := List.eq_nil_of_length_eq_zero hr
    go_enter Tryd.func7, Tryd.ntmps7
    go_wp2_with fail
    refine KN.mono ?_
    rintro e w1 ⟨rfl, hb⟩
    go_wp2
    go_ret
    exact ⟨rfl, hb⟩
  by_cases hr2 : 1000 < l.length
  · have hr3 : ((l.length : Int) == 0) = false := beq_eq_false_iff_ne.2 (by omega)
    have hr4 : (1000 : Int) < l.length := by omega
    go_enter Tryd.func7, Tryd.ntmps7
    go_wp2_with fail
    refine KN.mono ?_
    rintro e w1 ⟨rfl, hb⟩
    go_wp2
    go_ret
    exact ⟨rfl, hb⟩
  have hr3 : ((l.length : Int) == 0) = false := beq_eq_false_iff_ne.2 (by omega)
  have hr4 : (l.length : Int) ≤ 1000 := by omega
  have hr5 : (1 : Int) ≤ l.length := by omega
  clear KN hr
  go_enter Tryd.func7, Tryd.ntmps7
  go_wp2_with (first | (at_builtin; refine wpList_append_bytes rfl (.tmp 16) (.tmp 17) rfl w.heap.size [] l _ rfl _ _ _ rfl rfl (Own.nil _ _) ha.src (Nat.le_refl _) (by simp; omega) ha.nilcap ?_; intro v w1 hown hb1) | fail)
  simp only [List.nil_append] at hown
  obtain ⟨g, cp, rfl, hg, hgl, hcp, hcp2, hcell, hfro⟩ := hown.at' (by omega)
  go_wp2_with fail
  refine (count_any k _ _ hk (by omega) (by omega)).mono ?_
  rintro e w2 ⟨m, rfl, hm, rfl⟩
  have hi : m / 8 < l.length := by omega
  have hc1 : w2.cell? ⟨g, m / 8, none⟩ = some (.int .u8 (nth l (m / 8))) := (hcell _ hi).trans (by rw [bv_nth])
  have hf1 := hfro (m / 8)
  have hx := turn_walk l m
  have hst := hown.stored (m / 8) (UInt8.ofNat ((l.getD (m / 8) 0).toNat ^^^ 2 ^ (m % 8)))
  have hne : UInt8.ofNat ((l.getD (m / 8) 0).toNat ^^^ 2 ^ (m % 8)) ≠ l[m / 8] := by
    have := bit_turn l[m / 8] (m % 8) (by omega)
    simpa [hi] using this
  have hsum := sumN_set l (m / 8) _ hi hne
  clear hne hcell hfro
  generalize UInt8.ofNat ((l.getD (m / 8) 0).toNat ^^^ 2 ^ (m % 8)) = y at *
  have hb2 : Below w.heap.size w (w2.setCell ⟨g, m / 8, none⟩ (bv y)) := hb1.setCell hg _
  have hz2 : w.heap.size ≤ (w2.setCell ⟨g, m / 8, none⟩ (bv y)).heap.size := hb2.size
  obtain ⟨w3, HW⟩ : ∃ w3, Hid (w3 = w2.setCell ⟨g, m / 8, none⟩ (bv y)) := ⟨_, rfl⟩
  rw [← HW.out] at hb2 hst hz2
  have ht3 := ht.below hb2 hw0
  have S1 := sum_any sp l cap w3 (ha.src.below hb2 (Nat.le_refl _)) ht3 (by omega)
  obtain ⟨ao, ac, hform, hsrc, _⟩ := hst.form
  have S2 := sum_any ao _ ac w3 hsrc ht3 (by rw [List.length_set]; omega)
  rw [← hform] at S2
  have KN := known_any w3 ht3
  clear hform hsrc hst hown
  go_wp2_with fail
  rw [show w2.setCell ⟨g, m / 8, none⟩ (.int .u8 (y.toNat : Int)) = w3 from HW.out.symm]
  refine S1.mono ?_
  rintro e wa ⟨rfl, rfl⟩
  go_wp2_with fail
  refine S2.mono ?_
  rintro e wb ⟨rfl, rfl⟩
  have hne : ((sumN l : Int) != (sumN (l.set (m / 8) y) : Int)) = true := by rw [bne_iff_ne]; omega
  go_wp2_with fail
  refine KN.mono ?_
  rintro e wc ⟨rfl, hb5⟩
  go_wp2
  go_ret
  exact ⟨rfl, hb2.trans (hb5.mono hz2)⟩
end Go.Proofs.YtmedfjodkeplfaaDoor
