/- leveeref01.Diff. -/
import Derived.Test.YtmedfjodkeplfaaDoorDiff
namespace Go.Proofs.YtmedfjodkeplfaaDoor
open Go.RowKit
set_option maxHeartbeats 2000000 in
theorem rdiff_any (sa sb : Option Addr) (a b : List UInt8) (ca cb : Nat) (w : World) (ha : Src w sa a) (hb : Src w sb b) (la : (a.length : Int) ≤ 140737488355328) (lb : (b.length : Int) ≤ 140737488355328) :
    Calls Tryd.prog 24 #[.slice sa a.length ca, .slice sb b.length cb] w fun e w' => e = .returned (.tuple #[.int .i64 (difFirst a b (max a.length b.length)), .int .i64 (difLast a b (max a.length b.length))]) ∧ Below w.heap.size w w' := by
  obtain ⟨M, hM⟩ : ∃ M, M = max a.length b.length := ⟨_, rfl⟩
  have hM1 : a.length ≤ M := by omega
  have hM2 : b.length ≤ M := by omega
  have hM3 : M ≤ a.length ∨ M ≤ b.length := by omega
  rw [← hM]
  clear hM
  go_enter Tryd.func24, Tryd.ntmps24
  go_wp2
  go_loopw [6, 7, 8] (fun f l i wr => ∃ k : Nat, k ≤ M ∧ i = .int .i64 k ∧ f = .int .i64 (difFirst a b k) ∧ l = .int .i64 (difLast a b k) ∧ Below w.heap.size w wr) (fun _ _ i _ => M - (intOf i).toNat)
  case atStart => exact ⟨0, by omega, rfl, rfl, rfl, Below.refl _ _⟩
  case round =>
    obtain ⟨k, hk, rfl, rfl, rfl, hbw⟩ := hrel
    have hf := difFirst_lo a b k
    by_cases hi1 : (k : Int) < a.length
    · have hd1 : decide ((a.length : Int) ≤ (k : Int)) = false := by simp; omega
      have hd1' : decide (a.length ≤ k) = false := by simp; omega
      by_cases hi2 : (k : Int) < b.length
      · have hd2 : decide ((b.length : Int) ≤ (k : Int)) = false := by simp; omega
        have hd2' : decide (b.length ≤ k) = false := by simp; omega
        obtain ⟨ba, oa, rfl, hba, ca'⟩ := ha.at' (by omega)
        obtain ⟨bb, ob, rfl, hbb, cb'⟩ := hb.at' (by omega)
        have c1 : wr.cell? ⟨ba, oa + k, none⟩ = some (.int .u8 (nth a k)) := ((hbw.cell (p := ⟨ba, oa + k, none⟩) hba).trans (ca' k (by omega))).trans (by rw [bv_nth])
        have c2 : wr.cell? ⟨bb, ob + k, none⟩ = some (.int .u8 (nth b k)) := ((hbw.cell (p := ⟨bb, ob + k, none⟩) hbb).trans (cb' k (by omega))).trans (by rw [bv_nth])
        clear ca' cb' ha hb
        cases heq : (nth a k == nth b k) with
        | true =>
          have HD : Hid (dif a b k = false) := dif_in (by omega) (by omega) true heq
          have hne : (nth a k != nth b k) = false := by simp [bne, heq]
          go_wp2
          go_quiet (fail)
          go_wp2
          go_roundw
          case rel => exact ⟨k + 1, by omega, by go_num, by rw [difFirst_same HD.out], by rw [difLast_same HD.out], below_drewN hbw _⟩
          case measure => simp [intOf]; omega
        | false =>
          have HD : Hid (dif a b k = true) := dif_in (by omega) (by omega) false heq
          have hne : (nth a k != nth b k) = true := by simp [bne, heq]
          by_cases hneg : difFirst a b k < 0
          all_goals
            go_wp2
            go_quiet (fail)
            go_wp2
            go_roundw
            case rel => exact ⟨k + 1, by omega, by go_num, by first | rw [difFirst_hit HD.out (by omega)] | rw [difFirst_old (by omega)], by rw [difLast_hit HD.out], below_drewN hbw _⟩
            case measure => simp [intOf]; omega
      · have hd2 : (b.length : Int) ≤ k := by omega
        have HD : Hid (dif a b k = true) := dif_out (by omega)
        by_cases hneg : difFirst a b k < 0
        all_goals
          go_wp2
          go_quiet (fail)
          go_wp2
          go_roundw
          case rel => exact ⟨k + 1, by omega, by go_num, by first | rw [difFirst_hit HD.out (by omega)] | rw [difFirst_old (by omega)], by rw [difLast_hit HD.out], below_drewN hbw _⟩
          case measure => simp [intOf]; omega
    · have hd1 : (a.length : Int) ≤ k := by omega
      have hd1' : decide ((k : Int) < (a.length : Int)) = false := by simp; omega
      have hd1'' : decide (k < a.length) = false := by simp; omega
      have HD : Hid (dif a b k = true) := dif_out (by omega)
      by_cases hi2 : (k : Int) < b.length
      · by_cases hneg : difFirst a b k < 0
        all_goals
          go_wp2
          go_quiet (fail)
          go_wp2
          go_roundw
          case rel => exact ⟨k + 1, by omega, by go_num, by first | rw [difFirst_hit HD.out (by omega)] | rw [difFirst_old (by omega)], by rw [difLast_hit HD.out], below_drewN hbw _⟩
          case measure => simp [intOf]; omega
      · obtain rfl : k = M := by omega
        go_wp2
        go_ret2
        exact ⟨rfl, hbw⟩
end Go.Proofs.YtmedfjodkeplfaaDoor
