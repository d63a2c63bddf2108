/- Package ptr: Span and Need, and the document's. -/
import Derived.Test.YtohidgfeainlfaaWay
namespace Go.Proofs.Ytohidgfeainlfaa
open Go.RowKit
/-- Bytes that are within a file. -/
def spB (o k : Int) : Bool := decide (1 ≤ k ∧ 0 ≤ o ∧ o + k ≤ 1066496)
abbrev spOk (o k : Int) : Prop := spB o k = true
theorem spOk_iff {o k : Int} : spOk o k ↔ (1 ≤ k ∧ 0 ≤ o ∧ o + k ≤ 1066496) := decide_eq_true_iff
def sp1 (o k : Int) : Int := if spOk o k then o / 256 else 0
def sp2 (o k : Int) : Int := if spOk o k then (o + k - 1) / 256 else -1
def ndV (o k : Int) : Int := if spOk o k then ((o + k - 1) / 256 - o / 256 + 1) + 3 + ((o + k - 1) / 256 - o / 256 + 1) / 64 else 0
set_option maxHeartbeats 1000000 in
theorem span_any (o k : Int) (w : World) :
    Calls Try.prog 11 #[.int .i64 o, .int .i64 k] w fun e w' => e = .returned (.tuple #[.int .i64 (sp1 o k), .int .i64 (sp2 o k)]) ∧ w' = w := by
  by_cases h1 : 1 ≤ k ∧ k ≤ 1066496
  · have W1 := within_ok h1
    by_cases h2 : 0 ≤ o ∧ o ≤ 1066496 - k
    · have W2 := within64_ok h2
      have hok : spOk o k := by rw [spOk_iff]; omega
      have e1 : sp1 o k = o / 256 := if_pos hok
      have e2 : sp2 o k = (o + k - 1) / 256 := if_pos hok
      rw [e1, e2]
      obtain ⟨h3, h4⟩ := h1
      obtain ⟨h5, h6⟩ := h2
      clear e1 e2 hok
      go_enter Try.func11, Try.ntmps11
      go_wp2_with (first | (go_at_call 25; refine (W1 _).mono ?_; rintro e w1 ⟨rfl, rfl⟩) | (go_at_call 26; refine (W2 _).mono ?_; rintro e w1 ⟨rfl, rfl⟩))
      go_ret2
      exact ⟨ret2' rfl rfl, rfl⟩
    · have W2 := within64_no h2
      have hok : ¬ spOk o k := by rw [spOk_iff]; omega
      have e1 : sp1 o k = 0 := if_neg hok
      have e2 : sp2 o k = -1 := if_neg hok
      rw [e1, e2]
      obtain ⟨h3, h4⟩ := h1
      clear e1 e2 hok
      go_enter Try.func11, Try.ntmps11
      go_wp2_with (first | (go_at_call 25; refine (W1 _).mono ?_; rintro e w1 ⟨rfl, rfl⟩) | (go_at_call 26; refine (W2 _).mono ?_; rintro e w1 ⟨rfl, rfl⟩))
      go_ret2
      exact ⟨ret2' rfl rfl, rfl⟩
  · have W1 := within_no h1
    have hok : ¬ spOk o k := by rw [spOk_iff]; omega
    have e1 : sp1 o k = 0 := if_neg hok
    have e2 : sp2 o k = -1 := if_neg hok
    rw [e1, e2]
    clear e1 e2 hok
    go_enter Try.func11, Try.ntmps11
    go_wp2_with (first | (go_at_call 25; refine (W1 _).mono ?_; rintro e w1 ⟨rfl, rfl⟩))
    go_ret2
    exact ⟨ret2' rfl rfl, rfl⟩
set_option maxHeartbeats 1000000 in
theorem rspan_any (o k : Int) (w : World) :
    Calls Try.prog 12 #[.int .i64 o, .int .i64 k] w fun e w' => e = .returned (.tuple #[.int .i64 (sp1 o k), .int .i64 (sp2 o k)]) ∧ w' = w := by
  by_cases hok : spOk o k
  · have e1 : sp1 o k = o / 256 := if_pos hok
    have e2 : sp2 o k = (o + k - 1) / 256 := if_pos hok
    rw [e1, e2]
    rw [spOk_iff] at hok
    obtain ⟨h1, h2, h3⟩ := hok
    clear e1 e2
    have h4 : o ≤ 1066496 := by omega
    have h5 : k ≤ 1066496 - o := by omega
    go_enter Try.func12, Try.ntmps12
    go_wp2
    go_ret2
    exact ⟨ret2' rfl rfl, rfl⟩
  · have e1 : sp1 o k = 0 := if_neg hok
    have e2 : sp2 o k = -1 := if_neg hok
    rw [e1, e2]
    rw [spOk_iff] at hok
    clear e1 e2
    by_cases h1 : k < 1
    · go_enter Try.func12, Try.ntmps12
      go_wp2
      go_ret2
      exact ⟨ret2' rfl rfl, rfl⟩
    by_cases h2 : o < 0
    · go_enter Try.func12, Try.ntmps12
      go_wp2
      go_ret2
      exact ⟨ret2' rfl rfl, rfl⟩
    by_cases h3 : 1066496 < o
    · go_enter Try.func12, Try.ntmps12
      go_wp2
      go_ret2
      exact ⟨ret2' rfl rfl, rfl⟩
    have h4 : 1066496 - o < k := by omega
    go_enter Try.func12, Try.ntmps12
    go_wp2
    go_ret2
    exact ⟨ret2' rfl rfl, rfl⟩
theorem ret1' {x x' : Int} (hx : x' = x) : Ending.returned (.int .i64 x') = .returned (.int .i64 x) := by rw [hx]
set_option maxHeartbeats 1000000 in
theorem need_any (o k : Int) (w : World) :
    Calls Try.prog 14 #[.int .i64 o, .int .i64 k] w fun e w' => e = .returned (.int .i64 (ndV o k)) ∧ w' = w := by
  have SP := span_any o k
  by_cases hok : spOk o k
  · rw [sp1, sp2, if_pos hok, if_pos hok] at SP
    have e1 : ndV o k = _ := if_pos hok
    rw [e1]
    clear e1
    rw [spOk_iff] at hok
    have hx : 0 ≤ o / 256 := by omega
    have hy : o / 256 ≤ (o + k - 1) / 256 := by omega
    have hz : (o + k - 1) / 256 ≤ 4165 := by omega
    generalize o / 256 = x at *
    generalize (o + k - 1) / 256 = y at *
    have hq : (y - x + 1 == 0) = false := beq_eq_false_iff_ne.2 (by omega)
    clear hok
    go_enter Try.func14, Try.ntmps14
    go_wp2_with (first | (go_at_call 11; refine (SP _).mono ?_; rintro e w1 ⟨rfl, rfl⟩))
    go_ret
    exact ⟨ret1' rfl, rfl⟩
  · rw [sp1, sp2, if_neg hok, if_neg hok] at SP
    have e1 : ndV o k = 0 := if_neg hok
    rw [e1]
    clear e1
    go_enter Try.func14, Try.ntmps14
    go_wp2_with (first | (go_at_call 11; refine (SP _).mono ?_; rintro e w1 ⟨rfl, rfl⟩))
    go_ret
    exact ⟨ret1' rfl, rfl⟩
set_option maxHeartbeats 1000000 in
theorem rneed_any (o k : Int) (w : World) :
    Calls Try.prog 15 #[.int .i64 o, .int .i64 k] w fun e w' => e = .returned (.int .i64 (ndV o k)) ∧ w' = w := by
  have SP := rspan_any o k
  by_cases hok : spOk o k
  · rw [sp1, sp2, if_pos hok, if_pos hok] at SP
    have e1 : ndV o k = _ := if_pos hok
    rw [e1]
    clear e1
    rw [spOk_iff] at hok
    have hx : 0 ≤ o / 256 := by omega
    have hy : o / 256 ≤ (o + k - 1) / 256 := by omega
    have hz : (o + k - 1) / 256 ≤ 4165 := by omega
    generalize o / 256 = x at *
    generalize (o + k - 1) / 256 = y at *
    clear hok
    go_enter Try.func15, Try.ntmps15
    go_wp2_with (first | (go_at_call 12; refine (SP _).mono ?_; rintro e w1 ⟨rfl, rfl⟩))
    go_ret
    exact ⟨ret1' rfl, rfl⟩
  · rw [sp1, sp2, if_neg hok, if_neg hok] at SP
    have e1 : ndV o k = 0 := if_neg hok
    rw [e1]
    clear e1
    go_enter Try.func15, Try.ntmps15
    go_wp2_with (first | (go_at_call 12; refine (SP _).mono ?_; rintro e w1 ⟨rfl, rfl⟩))
    go_ret
    exact ⟨ret1' rfl, rfl⟩
end Go.Proofs.Ytohidgfeainlfaa
