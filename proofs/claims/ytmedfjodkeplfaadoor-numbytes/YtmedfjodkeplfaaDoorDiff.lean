/- num.Diff, for every two slices of bytes. -/
import Derived.Test.YtmedfjodkeplfaaDoorBase
import Derived.Deep.QuietTactic
import Derived.BigQuiet
import Derived.WalkSmall
namespace Go.Proofs.YtmedfjodkeplfaaDoor
open Go.RowKit
/-- Do the lists differ at place i (a byte that only one has differs)? -/
def dif (a b : List UInt8) (i : Nat) : Bool := !(decide (i < a.length ∧ i < b.length) && (nth a i == nth b i))
/-- The first place below k at which they differ, -1 without. -/
def difFirst (a b : List UInt8) : Nat → Int
  | 0 => -1
  | k + 1 => if difFirst a b k < 0 then (if dif a b k then (k : Int) else -1) else difFirst a b k
/-- One behind the last such place. -/
def difLast (a b : List UInt8) : Nat → Int
  | 0 => -1
  | k + 1 => if dif a b k then (k : Int) + 1 else difLast a b k
theorem difFirst_lo (a b : List UInt8) (k : Nat) : -1 ≤ difFirst a b k ∧ difFirst a b k < k + 1 := by
  induction k with
  | zero => simp [difFirst]
  | succ k ih => unfold difFirst; split <;> (try split) <;> omega
theorem dif_in {a b : List UInt8} {k : Nat} (h1 : k < a.length) (h2 : k < b.length) (b0 : Bool) (h : (nth a k == nth b k) = b0) : dif a b k = !b0 := by
  unfold dif; rw [h]; simp [h1, h2]
theorem dif_out {a b : List UInt8} {k : Nat} (h : ¬ (k < a.length ∧ k < b.length)) : dif a b k = true := by
  unfold dif; simp; omega
theorem difFirst_same {a b : List UInt8} {k : Nat} (h : dif a b k = false) : difFirst a b (k + 1) = difFirst a b k := by
  have := difFirst_lo a b k
  rw [difFirst, h]; split
  · simp; omega
  · rfl
theorem difFirst_hit {a b : List UInt8} {k : Nat} (h : dif a b k = true) (h1 : difFirst a b k < 0) : difFirst a b (k + 1) = k := by
  rw [difFirst, if_pos h1, h]; rfl
theorem difFirst_old {a b : List UInt8} {k : Nat} (h1 : ¬ difFirst a b k < 0) : difFirst a b (k + 1) = difFirst a b k := by
  rw [difFirst, if_neg h1]
theorem difLast_same {a b : List UInt8} {k : Nat} (h : dif a b k = false) : difLast a b (k + 1) = difLast a b k := by
  rw [difLast, h]; rfl
theorem difLast_hit {a b : List UInt8} {k : Nat} (h : dif a b k = true) : difLast a b (k + 1) = k + 1 := by
  rw [difLast, h]; rfl
set_option maxHeartbeats 2000000 in
theorem diff_any (sa sb : Option Addr) (a b : List UInt8) (ca cb : Nat) (w : World) (ha : Src w sa a) (hb : Src w sb b) (la : (a.length : Int) ≤ 140737488355328) (lb : (b.length : Int) ≤ 140737488355328) :
    Calls Tryd.prog 23 #[.slice sa a.length ca, .slice sb b.length cb] w fun e w' => e = .returned (.tuple #[.int .i64 (difFirst a b (max a.length b.length)), .int .i64 (difLast a b (max a.length b.length))]) ∧ Below w.heap.size w w' := by
  rcases (show (a.length : Int) < b.length ∨ ((a.length : Int) ≤ b.length ∧ (b.length : Int) ≤ a.length) ∨ (b.length : Int) < a.length by omega) with hab | ⟨hab, hba⟩ | hab
  · rw [Nat.max_eq_right (by omega)]
    go_enter Tryd.func23, Tryd.ntmps23
    go_wp2
    go_loopw [7, 8, 20] (fun f l i wr => ∃ k : Nat, k ≤ b.length ∧ i = .int .i64 k ∧ f = .int .i64 (difFirst a b k) ∧ l = .int .i64 (difLast a b k) ∧ Below w.heap.size w wr) (fun _ _ i _ => b.length - (intOf i).toNat)
    case atStart => exact ⟨0, by omega, rfl, rfl, rfl, Below.refl _ _⟩
    case round =>
      obtain ⟨k, hk, rfl, rfl, rfl, hbw⟩ := hrel
      have hf := difFirst_lo a b k
      by_cases hlt : (k : Int) < b.length
      · by_cases hin : (k : Int) < a.length ∧ (k : Int) < b.length
        · obtain ⟨hi1, hi2⟩ := hin
          obtain ⟨ba, oa, rfl, hba, ca'⟩ := ha.at' (by omega)
          obtain ⟨bb, ob, rfl, hbb, cb'⟩ := hb.at' (by omega)
          have c1 : wr.cell? ⟨ba, oa + k, none⟩ = some (.int .u8 (nth a k)) := ((hbw.cell (p := ⟨ba, oa + k, none⟩) hba).trans (ca' k (by omega))).trans (by rw [bv_nth])
          have c2 : wr.cell? ⟨bb, ob + k, none⟩ = some (.int .u8 (nth b k)) := ((hbw.cell (p := ⟨bb, ob + k, none⟩) hbb).trans (cb' k (by omega))).trans (by rw [bv_nth])
          clear ca' cb' ha hb
          cases heq : (nth a k == nth b k) with
          | true =>
            have HD : Hid (dif a b k = false) := dif_in (by omega) (by omega) true heq
            go_wp2
            go_quiet (fail)
            go_wp2
            go_roundw
            case rel => exact ⟨k + 1, by omega, by go_num, by rw [difFirst_same HD.out], by rw [difLast_same HD.out], below_drewN hbw _⟩
            case measure => simp [intOf]; omega
          | false =>
            have HD : Hid (dif a b k = true) := dif_in (by omega) (by omega) false heq
            by_cases hneg : difFirst a b k < 0
            all_goals
              go_wp2
              go_quiet (fail)
              go_wp2
              go_roundw
              case rel => exact ⟨k + 1, by omega, by go_num, by first | rw [difFirst_hit HD.out (by omega)] | rw [difFirst_old (by omega)], by rw [difLast_hit HD.out], below_drewN hbw _⟩
              case measure => simp [intOf]; omega
        · have HD : Hid (dif a b k = true) := dif_out (by omega)
          have hgd : decide ((k : Int) < (a.length : Int)) = false := by simp; omega
          have hgd2 : decide (k < a.length) = false := by simp; omega
          have hle : (a.length : Int) ≤ k := by omega
          clear hin
          by_cases hneg : difFirst a b k < 0
          all_goals
            go_wp2
            go_quiet (fail)
            go_wp2
            go_roundw
            case rel => exact ⟨k + 1, by omega, by go_num, by first | rw [difFirst_hit HD.out (by omega)] | rw [difFirst_old (by omega)], by rw [difLast_hit HD.out], below_drewN hbw _⟩
            case measure => simp [intOf]; omega
      · obtain rfl : k = b.length := by omega
        go_wp2
        go_ret2
        exact ⟨rfl, hbw⟩
  · rw [Nat.max_eq_left (by omega)]
    go_enter Tryd.func23, Tryd.ntmps23
    go_wp2
    go_loopw [7, 8, 20] (fun f l i wr => ∃ k : Nat, k ≤ a.length ∧ i = .int .i64 k ∧ f = .int .i64 (difFirst a b k) ∧ l = .int .i64 (difLast a b k) ∧ Below w.heap.size w wr) (fun _ _ i _ => a.length - (intOf i).toNat)
    case atStart => exact ⟨0, by omega, rfl, rfl, rfl, Below.refl _ _⟩
    case round =>
      obtain ⟨k, hk, rfl, rfl, rfl, hbw⟩ := hrel
      have hf := difFirst_lo a b k
      by_cases hlt : (k : Int) < a.length
      · by_cases hin : (k : Int) < a.length ∧ (k : Int) < b.length
        · obtain ⟨hi1, hi2⟩ := hin
          obtain ⟨ba, oa, rfl, hba, ca'⟩ := ha.at' (by omega)
          obtain ⟨bb, ob, rfl, hbb, cb'⟩ := hb.at' (by omega)
          have c1 : wr.cell? ⟨ba, oa + k, none⟩ = some (.int .u8 (nth a k)) := ((hbw.cell (p := ⟨ba, oa + k, none⟩) hba).trans (ca' k (by omega))).trans (by rw [bv_nth])
          have c2 : wr.cell? ⟨bb, ob + k, none⟩ = some (.int .u8 (nth b k)) := ((hbw.cell (p := ⟨bb, ob + k, none⟩) hbb).trans (cb' k (by omega))).trans (by rw [bv_nth])
          clear ca' cb' ha hb
          cases heq : (nth a k == nth b k) with
          | true =>
            have HD : Hid (dif a b k = false) := dif_in (by omega) (by omega) true heq
            go_wp2
            go_quiet (fail)
            go_wp2
            go_roundw
            case rel => exact ⟨k + 1, by omega, by go_num, by rw [difFirst_same HD.out], by rw [difLast_same HD.out], below_drewN hbw _⟩
            case measure => simp [intOf]; omega
          | false =>
            have HD : Hid (dif a b k = true) := dif_in (by omega) (by omega) false heq
            by_cases hneg : difFirst a b k < 0
            all_goals
              go_wp2
              go_quiet (fail)
              go_wp2
              go_roundw
              case rel => exact ⟨k + 1, by omega, by go_num, by first | rw [difFirst_hit HD.out (by omega)] | rw [difFirst_old (by omega)], by rw [difLast_hit HD.out], below_drewN hbw _⟩
              case measure => simp [intOf]; omega
        · exact absurd ⟨by omega, by omega⟩ hin
      · obtain rfl : k = a.length := by omega
        go_wp2
        go_ret2
        exact ⟨rfl, hbw⟩
  · rw [Nat.max_eq_left (by omega)]
    go_enter Tryd.func23, Tryd.ntmps23
    go_wp2
    go_loopw [7, 8, 20] (fun f l i wr => ∃ k : Nat, k ≤ a.length ∧ i = .int .i64 k ∧ f = .int .i64 (difFirst a b k) ∧ l = .int .i64 (difLast a b k) ∧ Below w.heap.size w wr) (fun _ _ i _ => a.length - (intOf i).toNat)
    case atStart => exact ⟨0, by omega, rfl, rfl, rfl, Below.refl _ _⟩
    case round =>
      obtain ⟨k, hk, rfl, rfl, rfl, hbw⟩ := hrel
      have hf := difFirst_lo a b k
      by_cases hlt : (k : Int) < a.length
      · by_cases hin : (k : Int) < a.length ∧ (k : Int) < b.length
        · obtain ⟨hi1, hi2⟩ := hin
          obtain ⟨ba, oa, rfl, hba, ca'⟩ := ha.at' (by omega)
          obtain ⟨bb, ob, rfl, hbb, cb'⟩ := hb.at' (by omega)
          have c1 : wr.cell? ⟨ba, oa + k, none⟩ = some (.int .u8 (nth a k)) := ((hbw.cell (p := ⟨ba, oa + k, none⟩) hba).trans (ca' k (by omega))).trans (by rw [bv_nth])
          have c2 : wr.cell? ⟨bb, ob + k, none⟩ = some (.int .u8 (nth b k)) := ((hbw.cell (p := ⟨bb, ob + k, none⟩) hbb).trans (cb' k (by omega))).trans (by rw [bv_nth])
          clear ca' cb' ha hb
          cases heq : (nth a k == nth b k) with
          | true =>
            have HD : Hid (dif a b k = false) := dif_in (by omega) (by omega) true heq
            go_wp2
            go_quiet (fail)
            go_wp2
            go_roundw
            case rel => exact ⟨k + 1, by omega, by go_num, by rw [difFirst_same HD.out], by rw [difLast_same HD.out], below_drewN hbw _⟩
            case measure => simp [intOf]; omega
          | false =>
            have HD : Hid (dif a b k = true) := dif_in (by omega) (by omega) false heq
            by_cases hneg : difFirst a b k < 0
            all_goals
              go_wp2
              go_quiet (fail)
              go_wp2
              go_roundw
              case rel => exact ⟨k + 1, by omega, by go_num, by first | rw [difFirst_hit HD.out (by omega)] | rw [difFirst_old (by omega)], by rw [difLast_hit HD.out], below_drewN hbw _⟩
              case measure => simp [intOf]; omega
        · have HD : Hid (dif a b k = true) := dif_out (by omega)
          have hgd : decide ((k : Int) < (b.length : Int)) = false := by simp; omega
          have hgd2 : decide (k < b.length) = false := by simp; omega
          have hle : (b.length : Int) ≤ k := by omega
          clear hin
          by_cases hneg : difFirst a b k < 0
          all_goals
            go_wp2
            go_quiet (fail)
            go_wp2
            go_roundw
            case rel => exact ⟨k + 1, by omega, by go_num, by first | rw [difFirst_hit HD.out (by omega)] | rw [difFirst_old (by omega)], by rw [difLast_hit HD.out], below_drewN hbw _⟩
            case measure => simp [intOf]; omega
      · obtain rfl : k = a.length := by omega
        go_wp2
        go_ret2
        exact ⟨rfl, hbw⟩
end Go.Proofs.YtmedfjodkeplfaaDoor
