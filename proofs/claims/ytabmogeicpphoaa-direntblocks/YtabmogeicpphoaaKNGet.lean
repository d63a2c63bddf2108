/- num.Get, for every slice of bytes. -/
import Derived.Test.YtabmogeicpphoaaKBase
namespace Go.Proofs.Ytabmogeicpphoaa
open Go.RowKit
set_option maxHeartbeats 1000000 in
theorem nget_any (sp : Option Addr) (l : List UInt8) (cap : Nat) (w : World) (hs : Src w sp l) :
    Calls Try.prog 71 #[.slice sp l.length cap] w fun e w' => e = .returned (.int .u64 (getNum l : Int)) ∧ Below w.heap.size w w' := by
  go_enter Try.func71, Try.ntmps71
  go_wp2_with ((with_reducible show wpList _ _ _ ({ dst := _, op := Op.call { callee := Callee.builtin Builtin.copy, args := _, argTypes := _ }, type := _, pos := _, after := _, guard := _ } :: _) _ _); refine wpList_copy_splice rfl (.tmp 6) (.tmp 7) 25 25 rfl 5 Try.underlying25 Try.elem1 _ _ _ _ _ _ rfl rfl w.heap.size 0 (List.replicate 8 (Value.int .u8 0)) 97 (by exact heap_alloc_new _ _) (bvs (l.take 8)) (by simp [bvs_length, Nat.min_comm]) (fun hp => ⟨rfl, Src.pos (hs.below ((Below.refl _ _).alloc (Nat.le_refl _) _) (Nat.le_refl _)) 8 hp⟩) (by simp [bvs_length]; omega) (bvs_one _) w.heap.size w (by exact (Below.refl _ _).alloc (Nat.le_refl _) _) (Nat.le_refl _) ?_; intro w1 HG hb1)
  have hG : Blk w1 w.heap.size 97 (pad8 l) := by have := HG.out; rw [splice_pad8] at this; exact this
  clear HG
  have hlen := pad8_length l
  obtain ⟨xs, HX⟩ : ∃ xs, Hid (xs = pad8 l) := ⟨_, rfl⟩
  rw [← HX.out] at hG hlen
  have hlt := hG.lt
  go_loop [4, 9] (fun n i => ∃ k : Nat, k ≤ 8 ∧ i = .int .i64 k ∧ n = .int .u64 (leNum (xs.take k))) (fun _ i => 8 - (intOf i).toNat)
  case atStart => exact ⟨0, by omega, rfl, by simp [leNum]⟩
  case round =>
    obtain ⟨k, hk, rfl, rfl⟩ := hrel
    by_cases hlt : k < 8
    · have hc : w1.cell? ⟨w.heap.size, k, none⟩ = some (.int .u8 (nth xs k)) := (hG.cell k (by omega)).trans (by rw [bv_nth])
      have HS : Hid (bits .or .u64 (leNum (xs.take k) : Int) (IntKind.u64.wrap (IntKind.u64.wrap (nth xs k) * 2 ^ (8 * k))) = (leNum (xs.take (k + 1)) : Int)) := get_step xs k hlt (by omega)
      clear hlen
      go_wp2
      go_round
      case rel => exact ⟨k + 1, by omega, by go_num, by rw [HS.out]⟩
      case measure => simp [intOf]; omega
    · have hk8 : k = 8 := by omega
      subst hk8
      go_wp2
      go_ret
      refine ⟨?_, hb1⟩
      have e : getNum l = leNum (xs.take 8) := by unfold getNum; rw [← HX.out, List.take_of_length_le (by omega)]
      rw [e]; rfl
end Go.Proofs.Ytabmogeicpphoaa
