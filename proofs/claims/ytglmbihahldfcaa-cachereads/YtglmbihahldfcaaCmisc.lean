/- leveeref01.Count, leveelaw10.among. -/
import Derived.Test.YtglmbihahldfcaaCknown
namespace Go.Proofs.Ytglmbihahldfcaa
open Go.RowKit
set_option maxRecDepth 100000
set_option maxHeartbeats 1000000 in
theorem count_any (k n : Int) (w : World) (hk : -9223372036854775808 ≤ k ∧ k ≤ 9223372036854775807) (h1 : 1 ≤ n) (h2 : n ≤ 8000) :
    Calls Try.prog 7 #[.int .i64 k, .int .i64 n] w fun e w' => ∃ m : Nat, e = .returned (.int .i64 m) ∧ (m : Int) < n ∧ w' = w := by
  have e1 : k.tmod n = if 0 ≤ k then k % n else -((-k) % n) := by
    split
    · rw [Int.tmod_eq_emod_of_nonneg (by assumption)]
    · rw [← Int.tmod_eq_emod_of_nonneg (by omega), Int.neg_tmod, Int.neg_neg]
  have hb1 := Int.emod_nonneg k (show n ≠ 0 by omega)
  have hb2 := Int.emod_lt_of_pos k (show 0 < n by omega)
  have hb3 := Int.emod_nonneg (-k) (show n ≠ 0 by omega)
  have hb4 := Int.emod_lt_of_pos (-k) (show 0 < n by omega)
  have hr1 : -n < k.tmod n := by rw [e1]; split <;> omega
  have hr2 : k.tmod n < n := by rw [e1]; split <;> omega
  clear e1 hb1 hb2 hb3 hb4
  by_cases hneg : k.tmod n < 0
  · go_enter Try.func7, Try.ntmps7
    go_wp2
    go_ret
    exact ⟨(k.tmod n + n).toNat, by rw [Int.toNat_of_nonneg (by omega)]; rfl, by omega, rfl⟩
  · go_enter Try.func7, Try.ntmps7
    go_wp2
    go_ret
    exact ⟨(k.tmod n).toNat, by rw [Int.toNat_of_nonneg (by omega)]; rfl, by omega, rfl⟩
theorem mem_getD {l : List Int} {k : Nat} (h : k < l.length) : l.getD k 0 ∈ l := by
  have e : l.getD k 0 = l[k] := by simp [h]
  rw [e]; exact List.getElem_mem h
set_option maxHeartbeats 2000000 in
theorem among_any (sp : Option Addr) (l : List Int) (c : Nat) (n : Int) (w : World) (h1 : SrcI w sp l) (hl : (l.length : Int) ≤ 1000000) :
    Calls Try.prog 30 #[.slice sp l.length c, .int .i64 n] w fun e w' => e = .returned (.bool (decide (n ∈ l))) ∧ w' = w := by
  by_cases h0 : l.length = 0
  · obtain rfl : l = [] := List.eq_nil_of_length_eq_zero h0
    have HF : Hid (decide (n ∈ ([] : List Int)) = false) := by show _ = _; simp
    rw [HF.out]
    clear h0 hl h1 HF
    go_enter Try.func30, Try.ntmps30
    go_wp2
    refine wp_loop_rounds 1 ?_
    rw [rounds_succ]
    go_wp2
    go_ret
    exact ⟨rfl, rfl⟩
  rcases h1 with h1 | ⟨b1, o1, rfl, hb1, hc1⟩
  · subst h1; simp at h0
  have HC1 : Hid _ := hc1
  clear hc1 h0
  go_enter Try.func30, Try.ntmps30
  go_wp2
  go_loopw [5] (fun t wr => ∃ k : Nat, k ≤ l.length ∧ t = .int .i64 k ∧ wr = w ∧ Hid (∀ j, j < k → ¬ l.getD j 0 = n)) (fun t _ => l.length - (intOf t).toNat)
  case atStart => exact ⟨0, by omega, rfl, rfl, fun j hj => by omega⟩
  case round =>
    obtain ⟨k, hk, rfl, rfl, HE⟩ := hrel
    by_cases hlt : (k : Int) < l.length
    · have k1 := HC1.out k (by omega)
      have HP : Hid (¬ l.getD k 0 = n → ∀ j, j < k + 1 → ¬ l.getD j 0 = n) := fun h j hj => by
        by_cases e : j = k
        · subst e; exact h
        · exact HE.out j (by omega)
      have HQ : Hid (l.getD k 0 = n → decide (n ∈ l) = true) := fun h => decide_eq_true (h ▸ mem_getD (by omega))
      generalize l.getD k 0 = x at *
      by_cases hxy : x = n
      · clear HP
        go_wp2
        go_ret
        exact ⟨ret_bool (HQ.out hxy).symm, rfl⟩
      · have hb : (x == n) = false := by simpa using hxy
        go_wp2
        go_roundw
        case rel => exact ⟨k + 1, by omega, by go_num, trivial, HP.out hxy⟩
        case measure => simp [intOf]; omega
    · have hk' : k = l.length := by omega
      have HF : Hid (decide (n ∈ l) = false) := decide_eq_false (fun hm => by
        obtain ⟨j, hj, e⟩ := List.getElem_of_mem hm
        exact HE.out j (by omega) (by simp [hj, e]))
      clear HE hk'
      go_wp2
      go_ret
      exact ⟨ret_bool HF.out.symm, rfl⟩
end Go.Proofs.Ytglmbihahldfcaa
