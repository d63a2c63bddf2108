/- num.Zero and the document's. -/
import Derived.Test.YtabmogeicpphoaaKEtab
namespace Go.Proofs.Ytabmogeicpphoaa
open Go.RowKit
def zB (x : UInt8) : Bool := x == 0
def zeroL (l : List UInt8) : Bool := l.all zB
theorem zero_at {l : List UInt8} {k : Nat} (h : k < l.length) (hz : ¬ l[k].toNat = 0) : zeroL l = false := by
  cases hh : zeroL l
  · rfl
  · have := List.all_eq_true.1 hh l[k] (List.getElem_mem h)
    simp [zB] at this
    rw [this] at hz
    exact absurd rfl hz
theorem take_zero {l : List UInt8} {k : Nat} (h : k < l.length) (ht : (l.take k).all zB = true) (hz : l[k].toNat = 0) : (l.take (k + 1)).all zB = true := by
  rw [List.take_add_one, List.getElem?_eq_getElem h]
  simp only [Option.toList_some, List.all_append, ht, List.all_cons, List.all_nil, Bool.and_true, Bool.true_and]
  unfold zB
  simpa using UInt8.toNat_inj.1 hz
set_option maxHeartbeats 1000000 in
theorem zero_any (sp : Option Addr) (l : List UInt8) (cap : Nat) (w : World) (hs : Src w sp l) (hm : (l.length : Int) ≤ 140737488355328) :
    Calls Try.prog 68 #[.slice sp l.length cap] w fun e w' => e = .returned (.bool (zeroL l)) ∧ w' = w := by
  go_enter Try.func68, Try.ntmps68
  go_wp2
  go_loop [6] (fun i => ∃ k : Nat, k ≤ l.length ∧ i = .int .i64 k ∧ Hid ((l.take k).all zB = true)) (fun i => l.length - (intOf i).toNat)
  case atStart => exact ⟨0, by omega, rfl, by simp [Hid]⟩
  case round =>
    obtain ⟨k, hk, rfl, HT⟩ := hrel
    by_cases hlt : k < l.length
    · obtain ⟨b, off, rfl, _, hc⟩ := hs.at' (by omega)
      have hcx : w.cell? ⟨b, off + k, none⟩ = some (.int .u8 (l[k].toNat : Int)) := hc k hlt
      by_cases hz : l[k].toNat = 0
      · rw [hz] at hcx
        have HT2 : Hid ((l.take (k + 1)).all zB = true) := take_zero hlt HT.out hz
        clear hc hz
        go_wp2
        go_round
        case rel => exact ⟨k + 1, by omega, by go_num, HT2⟩
        case measure => simp [intOf]; omega
      · have HZ : Hid (zeroL l = false) := zero_at hlt hz
        generalize l[k].toNat = x at *
        have hz' : ((x : Int) == 0) = false := by simp; omega
        clear hc
        go_wp2
        go_ret
        exact ⟨by rw [HZ.out]; rfl, rfl⟩
    · obtain rfl : k = l.length := by omega
      have HZ : Hid (zeroL l = true) := by have := HT.out; rw [List.take_length] at this; exact this
      clear hs
      go_wp2
      go_ret
      exact ⟨by rw [HZ.out]; rfl, rfl⟩
set_option maxHeartbeats 1000000 in
theorem rzero_any (sp : Option Addr) (l : List UInt8) (cap : Nat) (w : World) (hs : Src w sp l) (hm : (l.length : Int) ≤ 140737488355328) :
    Calls Try.prog 69 #[.slice sp l.length cap] w fun e w' => e = .returned (.bool (zeroL l)) ∧ w' = w := by
  go_enter Try.func69, Try.ntmps69
  go_wp2
  go_loop [3] (fun i => ∃ k : Nat, k ≤ l.length ∧ i = .int .i64 k ∧ Hid ((l.take k).all zB = true)) (fun i => l.length - (intOf i).toNat)
  case atStart => exact ⟨0, by omega, rfl, by simp [Hid]⟩
  case round =>
    obtain ⟨k, hk, rfl, HT⟩ := hrel
    by_cases hlt : k < l.length
    · obtain ⟨b, off, rfl, _, hc⟩ := hs.at' (by omega)
      have hcx : w.cell? ⟨b, off + k, none⟩ = some (.int .u8 (l[k].toNat : Int)) := hc k hlt
      by_cases hz : l[k].toNat = 0
      · rw [hz] at hcx
        have HT2 : Hid ((l.take (k + 1)).all zB = true) := take_zero hlt HT.out hz
        clear hc hz
        go_wp2
        go_round
        case rel => exact ⟨k + 1, by omega, by go_num, HT2⟩
        case measure => simp [intOf]; omega
      · have HZ : Hid (zeroL l = false) := zero_at hlt hz
        generalize l[k].toNat = x at *
        have hz' : ((x : Int) == 0) = false := by simp; omega
        clear hc
        go_wp2
        go_ret
        exact ⟨by rw [HZ.out]; rfl, rfl⟩
    · obtain rfl : k = l.length := by omega
      have HZ : Hid (zeroL l = true) := by have := HT.out; rw [List.take_length] at this; exact this
      clear hs
      go_wp2
      go_ret
      exact ⟨by rw [HZ.out]; rfl, rfl⟩
end Go.Proofs.Ytabmogeicpphoaa
