/- bits.Run, bits.Longest, the document's row, Run and Longest. -/
import Derived.Test.YteclcfpjakckaaaAsks
namespace Go.Proofs.Yteclcfpjakckaaa
open Go.RowKit
set_option maxHeartbeats 2000000 in
theorem run_core (sp : Option Addr) (l : List UInt8) (cap : Nat) (n : Int) (want : Nat) (w : World) (hs : Src w sp l) (hn : l.length ≤ 140737488355328) (hw : 1 ≤ want) :
    Calls Try.prog 16 #[.slice sp l.length cap, .int .i64 n, .int .i64 want] w fun e w' => (∃ r, e = .returned (.int .i64 r) ∧ IsRun (gb l) (bnd l.length n) want r) ∧ ∃ d, w' = w.drewN d := by
  have hm := bnd_le l.length n
  have BD := bound_any sp l.length cap n w hn
  generalize bnd l.length n = m at hm BD ⊢
  have hw1 : ¬ (want : Int) < 1 := by omega
  go_enter Try.func16, Try.ntmps16
  go_wp2_with fail
  refine BD.mono ?_
  rintro e w' ⟨rfl, rfl⟩
  clear BD
  go_wp2_with fail
  go_loopw [7, 14] (fun r i wr => ∃ k row : Nat, k ≤ m ∧ row < want ∧ i = .int .i64 k ∧ r = .int .i64 row ∧ Hid (Tail (gb l) k row) ∧ Hid (NoRun (gb l) k want) ∧ ∃ d, wr = w'.drewN d) (fun _ i _ => m - (intOf i).toNat)
  case atStart => exact ⟨0, 0, Nat.zero_le _, hw, rfl, rfl, Tail.zero _, fun a n h _ => by omega, 0, rfl⟩
  case round =>
    obtain ⟨k, row, hk, hrow, rfl, rfl, HT, HN, d, rfl⟩ := hrel
    by_cases hlt : (k : Int) < m
    · have GT := get_yes sp l cap k (w'.drewN d) (hs.drew d) (by omega) hn
      have hrk : row ≤ k := HT.out.1
      obtain ⟨b, HB⟩ : ∃ b, Hid (gb l k = b) := ⟨_, rfl⟩
      rw [HB.out] at GT
      cases b
      · have HT2 : Hid (Tail (gb l) (k + 1) (row + 1)) := HT.out.next HB.out
        by_cases heq : row + 1 = want
        · have heq2 : (row : Int) + 1 = want := by omega
          go_wp2_with fail
          refine GT.mono ?_
          rintro e w2 ⟨rfl, d2, rfl⟩
          clear GT
          go_wp2
          go_ret
          refine ⟨⟨(k : Int) + 1 - want, ret_i (by omega), IsRun.found HN.out (by rw [← heq]; exact HT2.out) hw (by omega)⟩, d + d2, rfl⟩
        · have heq2 : ¬ (row : Int) + 1 = want := by omega
          go_wp2_with fail
          refine GT.mono ?_
          rintro e w2 ⟨rfl, d2, rfl⟩
          clear GT
          go_wp2
          go_roundw
          case rel => exact ⟨k + 1, row + 1, by omega, by omega, by go_num, by go_num, HT2, HN.out.step HT2.out (by omega), d + d2, rfl⟩
          case measure => simp [intOf]; omega
      · have HT2 : Hid (Tail (gb l) (k + 1) 0) := Tail.set HB.out
        go_wp2_with fail
        refine GT.mono ?_
        rintro e w2 ⟨rfl, d2, rfl⟩
        clear GT
        go_wp2
        go_roundw
        case rel => exact ⟨k + 1, 0, by omega, by omega, by go_num, rfl, HT2, HN.out.step HT2.out (by omega), d + d2, rfl⟩
        case measure => simp [intOf]; omega
    · obtain rfl : k = m := by omega
      go_wp2
      go_ret
      exact ⟨⟨_, rfl, IsRun.none HN.out⟩, d, rfl⟩
set_option maxHeartbeats 2000000 in
theorem run_bad (sp : Option Addr) (l : List UInt8) (cap : Nat) (n : Int) (want : Int) (w : World) (hw : want < 1) :
    Calls Try.prog 16 #[.slice sp l.length cap, .int .i64 n, .int .i64 want] w fun e w' => (∃ r, e = .returned (.int .i64 r) ∧ IsRun (gb l) (bnd l.length n) want r) ∧ ∃ d, w' = w.drewN d := by
  go_enter Try.func16, Try.ntmps16
  go_wp2
  go_ret
  exact ⟨⟨_, rfl, IsRun.bad hw⟩, 0, rfl⟩
theorem run_any (sp : Option Addr) (l : List UInt8) (cap : Nat) (n want : Int) (w : World) (hs : Src w sp l) (hn : l.length ≤ 140737488355328) :
    Calls Try.prog 16 #[.slice sp l.length cap, .int .i64 n, .int .i64 want] w fun e w' => (∃ r, e = .returned (.int .i64 r) ∧ IsRun (gb l) (bnd l.length n) want r) ∧ ∃ d, w' = w.drewN d := by
  by_cases h : want < 1
  · exact run_bad sp l cap n want w h
  · obtain ⟨k, rfl⟩ := Int.eq_ofNat_of_zero_le (show 0 ≤ want by omega)
    exact run_core sp l cap n k w hs hn (by omega)
set_option maxHeartbeats 2000000 in
theorem longest_any (sp : Option Addr) (l : List UInt8) (cap : Nat) (n : Int) (w : World) (hs : Src w sp l) (hn : l.length ≤ 140737488355328) :
    Calls Try.prog 8 #[.slice sp l.length cap, .int .i64 n] w fun e w' => (∃ a k : Nat, e = .returned (.tuple #[.int .i64 a, .int .i64 k]) ∧ IsLong (gb l) (bnd l.length n) a k) ∧ ∃ d, w' = w.drewN d := by
  have hm := bnd_le l.length n
  have BD := bound_any sp l.length cap n w hn
  generalize bnd l.length n = m at hm BD ⊢
  go_enter Try.func8, Try.ntmps8
  go_wp2_with fail
  refine BD.mono ?_
  rintro e w' ⟨rfl, rfl⟩
  clear BD
  go_wp2_with fail
  go_loopw [6, 7, 8, 13] (fun x y r i wr => ∃ k row a c : Nat, k ≤ m ∧ x = .int .i64 a ∧ y = .int .i64 c ∧ r = .int .i64 row ∧ i = .int .i64 k ∧ Hid (Tail (gb l) k row) ∧ Hid (IsLong (gb l) k a c) ∧ ∃ d, wr = w'.drewN d) (fun _ _ _ i _ => m - (intOf i).toNat)
  case atStart => exact ⟨0, 0, 0, 0, Nat.zero_le _, rfl, rfl, rfl, rfl, Tail.zero _, IsLong.zero _, 0, rfl⟩
  case round =>
    obtain ⟨k, row, a, c, hk, rfl, rfl, rfl, rfl, HT, HL, d, rfl⟩ := hrel
    by_cases hlt : (k : Int) < m
    · have GT := get_yes sp l cap k (w'.drewN d) (hs.drew d) (by omega) hn
      have hrk : row ≤ k := HT.out.1
      have hac : a + c ≤ k := HL.out.1
      obtain ⟨b, HB⟩ : ∃ b, Hid (gb l k = b) := ⟨_, rfl⟩
      rw [HB.out] at GT
      cases b
      · have HT2 : Hid (Tail (gb l) (k + 1) (row + 1)) := HT.out.next HB.out
        by_cases hgt : c < row + 1
        · have hgt2 : (c : Int) < (row : Int) + 1 := by omega
          go_wp2_with fail
          refine GT.mono ?_
          rintro e w2 ⟨rfl, d2, rfl⟩
          clear GT
          go_wp2
          go_roundw
          case rel => exact ⟨k + 1, row + 1, k + 1 - (row + 1), row + 1, by omega, by congr 1; omega, by go_num, by go_num, by go_num, HT2, HL.out.more HT2.out (by omega), d + d2, rfl⟩
          case measure => simp [intOf]; omega
        · have hgt2 : ¬ (c : Int) < (row : Int) + 1 := by omega
          go_wp2_with fail
          refine GT.mono ?_
          rintro e w2 ⟨rfl, d2, rfl⟩
          clear GT
          go_wp2
          go_roundw
          case rel => exact ⟨k + 1, row + 1, a, c, by omega, rfl, rfl, by go_num, by go_num, HT2, HL.out.stay HT2.out (by omega), d + d2, rfl⟩
          case measure => simp [intOf]; omega
      · have HT2 : Hid (Tail (gb l) (k + 1) 0) := Tail.set HB.out
        go_wp2_with fail
        refine GT.mono ?_
        rintro e w2 ⟨rfl, d2, rfl⟩
        clear GT
        go_wp2
        go_roundw
        case rel => exact ⟨k + 1, 0, a, c, by omega, rfl, rfl, rfl, by go_num, HT2, HL.out.set HB.out, d + d2, rfl⟩
        case measure => simp [intOf]; omega
    · obtain rfl : k = m := by omega
      go_wp2
      go_ret2
      exact ⟨⟨a, c, rfl, HL.out⟩, d, rfl⟩
set_option maxHeartbeats 2000000 in
theorem row_any (sp : Option Addr) (l : List UInt8) (cap : Nat) (n : Int) (a : Nat) (w : World) (hs : Src w sp l) (hn : l.length ≤ 140737488355328) (m : Nat) (hm : m ≤ 8 * l.length) (ha : a ≤ m)
    (BD : Calls Try.prog 23 #[.slice sp l.length cap, .int .i64 n] w fun e w' => e = .returned (.int .i64 (m : Int)) ∧ w' = w) :
    Calls Try.prog 24 #[.slice sp l.length cap, .int .i64 n, .int .i64 a] w fun e w' => (∃ k : Nat, e = .returned (.int .i64 k) ∧ Row (gb l) m a k) ∧ w' = w := by
  go_enter Try.func24, Try.ntmps24
  go_wp2_with fail
  go_loop [7] (fun i => ∃ k : Nat, a + k ≤ m ∧ i = .int .i64 k ∧ Hid (Clear (gb l) a k)) (fun i => m - (intOf i).toNat)
  case atStart => exact ⟨0, by omega, rfl, fun j x y => by omega⟩
  case round =>
    obtain ⟨k, hk, rfl, HC⟩ := hrel
    by_cases hlt : (a : Int) + (k : Int) < m
    · have GT := rget_yes sp l cap (a + k) w hs (by omega) hn
      rw [show (((a + k : Nat) : Int)) = (a : Int) + k by omega] at GT
      obtain ⟨b, HB⟩ : ∃ b, Hid (gb l (a + k) = b) := ⟨_, rfl⟩
      rw [HB.out] at GT
      cases b
      · go_wp2_with fail
        refine BD.mono ?_
        rintro e w1 ⟨rfl, rfl⟩
        go_wp2_with fail
        refine GT.mono ?_
        rintro e w2 ⟨rfl, rfl⟩
        clear GT
        go_wp2
        go_round
        case rel => exact ⟨k + 1, by omega, by go_num, fun j x y => by
          by_cases e : j = a + k
          · rw [e]; exact HB.out
          · exact HC.out j x (by omega)⟩
        case measure => simp [intOf]; omega
      · go_wp2_with fail
        refine BD.mono ?_
        rintro e w1 ⟨rfl, rfl⟩
        go_wp2_with fail
        refine GT.mono ?_
        rintro e w2 ⟨rfl, rfl⟩
        clear GT
        go_wp2
        go_ret
        exact ⟨⟨k, rfl, hk, HC.out, fun _ => HB.out⟩, rfl⟩
    · go_wp2_with fail
      refine BD.mono ?_
      rintro e w1 ⟨rfl, rfl⟩
      go_wp2
      go_ret
      exact ⟨⟨k, rfl, hk, HC.out, fun x => by omega⟩, rfl⟩
set_option maxHeartbeats 2000000 in
theorem rrun_core (sp : Option Addr) (l : List UInt8) (cap : Nat) (n : Int) (want : Nat) (w : World) (hs : Src w sp l) (hn : l.length ≤ 140737488355328) (hw : 1 ≤ want) :
    Calls Try.prog 17 #[.slice sp l.length cap, .int .i64 n, .int .i64 want] w fun e w' => (∃ r, e = .returned (.int .i64 r) ∧ IsRun (gb l) (bnd l.length n) want r) ∧ w' = w := by
  have hm := bnd_le l.length n
  have BD := most_any sp l.length cap n w hn
  generalize bnd l.length n = m at hm BD ⊢
  have hw1 : (1 : Int) ≤ want := by omega
  go_enter Try.func17, Try.ntmps17
  go_wp2_with fail
  go_loop [7] (fun i => ∃ k : Nat, k ≤ m ∧ i = .int .i64 k ∧ Hid (RunTo (gb l) m k want)) (fun i => m - (intOf i).toNat)
  case atStart => exact ⟨0, by omega, rfl, fun a n x => by omega⟩
  case round =>
    obtain ⟨k, hk, rfl, HR⟩ := hrel
    by_cases hlt : (k : Int) < m
    · have RW := row_any sp l cap n k w hs hn m hm hk BD
      go_wp2_with fail
      refine BD.mono ?_
      rintro e w1 ⟨rfl, rfl⟩
      go_wp2_with fail
      refine RW.mono ?_
      rintro e w2 ⟨⟨j, rfl, hrow⟩, rfl⟩
      have HW : Hid _ := hrow
      have hj : k + j ≤ m := hrow.1
      clear RW hrow
      by_cases hjw : (want : Int) ≤ j
      · go_wp2
        go_ret
        exact ⟨⟨_, rfl, RunTo.found HR.out HW.out (by omega) hw⟩, rfl⟩
      · go_wp2
        go_round
        case rel => exact ⟨k + 1, by omega, by go_num, RunTo.step HR.out HW.out (by omega)⟩
        case measure => simp [intOf]; omega
    · obtain rfl : k = m := by omega
      go_wp2_with fail
      refine BD.mono ?_
      rintro e w1 ⟨rfl, rfl⟩
      go_wp2
      go_ret
      exact ⟨⟨_, rfl, RunTo.none HR.out hw⟩, rfl⟩
set_option maxHeartbeats 2000000 in
theorem rrun_bad (sp : Option Addr) (l : List UInt8) (cap : Nat) (n : Int) (want : Int) (w : World) (hn : l.length ≤ 140737488355328) (hw : want < 1) :
    Calls Try.prog 17 #[.slice sp l.length cap, .int .i64 n, .int .i64 want] w fun e w' => (∃ r, e = .returned (.int .i64 r) ∧ IsRun (gb l) (bnd l.length n) want r) ∧ w' = w := by
  have BD := most_any sp l.length cap n w hn
  generalize bnd l.length n = m at BD ⊢
  have hw1 : ¬ (1 : Int) ≤ want := by omega
  by_cases hm : (0 : Int) < m
  all_goals
    go_enter Try.func17, Try.ntmps17
    go_wp2_with fail
    refine wp_loop_rounds 1 ?_
    rw [rounds_succ]
    go_wp2_with fail
    refine BD.mono ?_
    rintro e w1 ⟨rfl, rfl⟩
    go_wp2
    go_ret
    exact ⟨⟨_, rfl, IsRun.bad hw⟩, rfl⟩
theorem rrun_any (sp : Option Addr) (l : List UInt8) (cap : Nat) (n want : Int) (w : World) (hs : Src w sp l) (hn : l.length ≤ 140737488355328) :
    Calls Try.prog 17 #[.slice sp l.length cap, .int .i64 n, .int .i64 want] w fun e w' => (∃ r, e = .returned (.int .i64 r) ∧ IsRun (gb l) (bnd l.length n) want r) ∧ w' = w := by
  by_cases h : want < 1
  · exact rrun_bad sp l cap n want w hn h
  · obtain ⟨k, rfl⟩ := Int.eq_ofNat_of_zero_le (show 0 ≤ want by omega)
    exact rrun_core sp l cap n k w hs hn (by omega)
set_option maxHeartbeats 2000000 in
theorem rlongest_any (sp : Option Addr) (l : List UInt8) (cap : Nat) (n : Int) (w : World) (hs : Src w sp l) (hn : l.length ≤ 140737488355328) :
    Calls Try.prog 9 #[.slice sp l.length cap, .int .i64 n] w fun e w' => (∃ a k : Nat, e = .returned (.tuple #[.int .i64 a, .int .i64 k]) ∧ IsLong (gb l) (bnd l.length n) a k) ∧ w' = w := by
  have hm := bnd_le l.length n
  have BD := most_any sp l.length cap n w hn
  generalize bnd l.length n = m at hm BD ⊢
  go_enter Try.func9, Try.ntmps9
  go_wp2_with fail
  go_loop [6, 7, 8] (fun x y i => ∃ k a c : Nat, k ≤ m ∧ x = .int .i64 a ∧ y = .int .i64 c ∧ i = .int .i64 k ∧ Hid (LongTo (gb l) m k a c)) (fun _ _ i => m - (intOf i).toNat)
  case atStart => exact ⟨0, 0, 0, by omega, rfl, rfl, rfl, LongTo.zero _ _⟩
  case round =>
    obtain ⟨k, a, c, hk, rfl, rfl, rfl, HR⟩ := hrel
    by_cases hlt : (k : Int) < m
    · have RW := row_any sp l cap n k w hs hn m hm hk BD
      go_wp2_with fail
      refine BD.mono ?_
      rintro e w1 ⟨rfl, rfl⟩
      go_wp2_with fail
      refine RW.mono ?_
      rintro e w2 ⟨⟨j, rfl, hrow⟩, rfl⟩
      have HW : Hid _ := hrow
      have hj : k + j ≤ m := hrow.1
      clear RW hrow
      by_cases hjw : (c : Int) < j
      · go_wp2
        go_round
        case rel => exact ⟨k + 1, k, j, by omega, rfl, rfl, by go_num, LongTo.more HR.out HW.out (by omega)⟩
        case measure => simp [intOf]; omega
      · go_wp2
        go_round
        case rel => exact ⟨k + 1, a, c, by omega, rfl, rfl, by go_num, LongTo.stay HR.out HW.out (by omega)⟩
        case measure => simp [intOf]; omega
    · obtain rfl : k = m := by omega
      go_wp2_with fail
      refine BD.mono ?_
      rintro e w1 ⟨rfl, rfl⟩
      go_wp2
      go_ret2
      exact ⟨⟨a, c, rfl, LongTo.all HR.out⟩, rfl⟩
end Go.Proofs.Yteclcfpjakckaaa
