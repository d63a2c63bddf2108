/- leveeref01.Ints. -/
import Derived.Test.YtikpnfnbmbaljaaKRay
import Derived.Test.YtikpnfnbmbaljaaKLentG
import Derived.Deep.QuietTactic
import Derived.BigQuiet
namespace Go.Proofs.Ytikpnfnbmbaljaa
open Go.RowKit
set_option maxRecDepth 100000
theorem pre_step {a b : List Int} {k : Nat} (ha : k < a.length) (hb : k < b.length) (h : a.take k = b.take k) (hx : a.getD k 0 = b.getD k 0) : a.take (k + 1) = b.take (k + 1) := by
  have e1 : a.getD k 0 = a[k] := by simp [ha]
  have e2 : b.getD k 0 = b[k] := by simp [hb]
  rw [List.take_succ_eq_append_getElem ha, List.take_succ_eq_append_getElem hb, h, ← e1, ← e2, hx]
theorem ne_at {a b : List Int} {k : Nat} (hx : ¬ a.getD k 0 = b.getD k 0) : (a == b) = false := by
  rw [beq_eq_false_iff_ne]; rintro rfl; exact hx rfl
set_option maxHeartbeats 2000000 in
theorem ints_any (sp1 sp2 : Option Addr) (l m : List Int) (c1 c2 : Nat) (w : World) (h1 : SrcI w sp1 l) (h2 : SrcI w sp2 m) (hl : (l.length : Int) ≤ 1000000) (hm : (m.length : Int) ≤ 1000000) :
    Calls Try.prog 11 #[.slice sp1 l.length c1, .slice sp2 m.length c2] w fun e w' => e = .returned (.bool (l == m)) ∧ Below w.heap.size w w' := by
  by_cases hlm : (l.length : Int) = m.length
  · have hlm' : l.length = m.length := by omega
    rw [← hlm']
    have HM : Hid (l.length = m.length) := hlm'
    clear hlm hlm' hm
    by_cases h0 : l.length = 0
    · have e1 : l = [] := List.eq_nil_of_length_eq_zero h0
      have e2 : m = [] := List.eq_nil_of_length_eq_zero (by rw [← HM.out]; exact h0)
      subst e1; subst e2
      clear HM h0 hl
      go_enter Try.func11, Try.ntmps11
      go_wp2
      refine wp_loop_rounds 1 ?_
      rw [rounds_succ]
      go_wp2
      go_ret
      exact ⟨rfl, Below.refl _ _⟩
    rcases h1 with h1 | ⟨b1, o1, rfl, hb1, hc1⟩
    · subst h1; simp at h0
    rcases h2 with h2 | ⟨b2, o2, rfl, hb2, hc2⟩
    · rw [h2] at HM; exact absurd HM.out h0
    have HC1 : Hid _ := hc1
    have HC2 : Hid _ := hc2
    clear hc1 hc2
    go_enter Try.func11, Try.ntmps11
    go_wp2
    go_loopw [5] (fun t wr => ∃ k d : Nat, k ≤ l.length ∧ t = .int .i64 k ∧ wr = w.drewN d ∧ Hid (l.take k = m.take k)) (fun t _ => l.length - (intOf t).toNat)
    case atStart => exact ⟨0, 0, by omega, rfl, rfl, by show _ = _; simp⟩
    case round =>
      obtain ⟨k, d, hk, rfl, rfl, HE⟩ := hrel
      by_cases hlt : (k : Int) < l.length
      · have hd : ∀ n, Below w.heap.size w (w.drewN n) := fun n => below_drewN (Below.refl _ _) n
        have k1 : ∀ n, (w.drewN n).cell? ⟨b1, o1 + k, none⟩ = some (.int .i64 (l.getD k 0)) := fun n => ((hd n).cell (p := ⟨b1, o1 + k, none⟩) hb1).trans (HC1.out k (by omega))
        have k2 : ∀ n, (w.drewN n).cell? ⟨b2, o2 + k, none⟩ = some (.int .i64 (m.getD k 0)) := fun n => ((hd n).cell (p := ⟨b2, o2 + k, none⟩) hb2).trans (HC2.out k (by have := HM.out; omega))
        have HP : Hid (l.getD k 0 = m.getD k 0 → l.take (k + 1) = m.take (k + 1)) := fun h => pre_step (by omega) (by have := HM.out; omega) HE.out h
        have HQ : Hid (¬ l.getD k 0 = m.getD k 0 → (l == m) = false) := fun h => ne_at h
        generalize l.getD k 0 = x at *
        generalize m.getD k 0 = y at *
        by_cases hxy : x = y
        · clear HQ
          go_wp2
          go_quiet (fail)
          go_wp2
          go_roundw
          case rel => exact ⟨k + 1, _, by omega, by go_num, rfl, HP.out hxy⟩
          case measure => simp [intOf]; omega
        · have hb : (x == y) = false := by simpa using hxy
          go_wp2
          go_quiet (fail)
          go_wp2
          go_ret
          exact ⟨ret_bool (by rw [HQ.out hxy]), below_drewN (below_drewN (Below.refl _ _) _) _⟩
      · have hk' : k = l.length := by omega
        subst hk'
        have HEQ : Hid ((l == m) = true) := by
          have := HE.out
          rw [List.take_of_length_le (Nat.le_refl _), HM.out, List.take_of_length_le (Nat.le_refl _)] at this
          show _ = _
          rw [this]; simp
        clear HE
        go_wp2
        go_ret
        exact ⟨ret_bool HEQ.out.symm, below_drewN (Below.refl _ _) _⟩
  · have hne : (l == m) = false := by
      rw [beq_eq_false_iff_ne]; rintro rfl; exact hlm rfl
    rw [hne]
    go_enter Try.func11, Try.ntmps11
    go_wp2
    go_ret
    exact ⟨rfl, Below.refl _ _⟩
end Go.Proofs.Ytikpnfnbmbaljaa
