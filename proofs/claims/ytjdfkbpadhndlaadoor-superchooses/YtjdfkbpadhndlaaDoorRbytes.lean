/- The walk of leveelaw01.NumBytes. -/
import Derived.Test.YtjdfkbpadhndlaaDoorRefSum
namespace Go.Proofs.YtjdfkbpadhndlaaDoor
open Go.RowKit
theorem leB_snoc : ∀ k n, leB (k + 1) n = leB k n ++ [UInt8.ofNat (n / 2 ^ (8 * k) % 256)]
  | 0, n => by simp [leB]
  | k + 1, n => by
    have e : 2 ^ (8 * (k + 1)) = 256 * 2 ^ (8 * k) := by rw [Nat.mul_add, Nat.pow_add]; omega
    rw [leB, leB_snoc k (n / 256), e, ← Nat.div_div_eq_div_mul]; rfl
theorem leB_zero_at (n k : Nat) (hn : n < 18446744073709551616) (hk : 8 ≤ k) : UInt8.ofNat (n / 2 ^ (8 * k) % 256) = 0 := by
  have h : n / 2 ^ (8 * k) = 0 := Nat.div_eq_of_lt (Nat.lt_of_lt_of_le (show n < 2 ^ 64 from hn) (Nat.pow_le_pow_right (by omega) (by omega)))
  rw [h]; rfl
theorem byte_shr (n k : Nat) : ((n : Int) / 2 ^ (8 * k) % 256) = (((UInt8.ofNat (n / 2 ^ (8 * k) % 256)).toNat : Nat) : Int) := by
  simp
set_option maxHeartbeats 1000000 in
theorem rbytes_any (n size : Nat) (w : World) (hn : (n : Int) < 18446744073709551616) (hs : (size : Int) ≤ 100) :
    Calls Tryd.prog 26 #[.int .u64 (n : Int), .int .i64 (size : Int)] w fun e w' => ∃ v, e = .returned v ∧ Own w' w.heap.size v (leB size n) ∧ Below w.heap.size w w' := by
  go_enter Tryd.func26, Tryd.ntmps26
  go_wp2
  go_loopw [5, 6] (fun v i wr => ∃ k : Nat, k ≤ size ∧ i = .int .i64 k ∧ Own wr w.heap.size v (leB k n) ∧ Below w.heap.size w wr) (fun _ i _ => size - (intOf i).toNat)
  case atStart => exact ⟨0, by omega, rfl, Own.nil _ _, Below.refl _ _⟩
  case round =>
    obtain ⟨k, hk, rfl, hown, hbw⟩ := hrel
    have hz := hbw.size
    have hll := leB_length k n
    by_cases hlt : (k : Int) < size
    · have hsn := leB_snoc k n
      by_cases h8 : (k : Int) < 8
      · have hx := byte_shr n k
        generalize UInt8.ofNat (n / 2 ^ (8 * k) % 256) = x at *
        have HSN : Hid _ := hsn
        clear hsn
        go_wp2_with (at_builtin; refine wpList_append_bytes rfl (.tmp 14) (.tmp 21) rfl w.heap.size (leB k n) [x] _ rfl _ _ _ rfl rfl (hown.below ((Below.refl _ _).alloc (Nat.le_refl _) _) (Nat.le_refl _)) (Blk.src (t := 5) (heap_alloc_new _ _)) (by simp; omega) (by rw [hll]; simp; omega) (fun h => by cases h) ?_; intro v' w1 hown1 hb1)
        have hb2 : Below w.heap.size w w1 := (hbw.alloc hz _).trans hb1
        rw [← HSN.out] at hown1
        clear hown
        go_roundw
        case rel => exact ⟨k + 1, by omega, by go_num, hown1, hb2⟩
        case measure => simp [intOf]; omega
      · have hx := leB_zero_at n k (by omega) (by omega)
        rw [hx] at hsn
        have HSN : Hid _ := hsn
        clear hsn hx
        go_wp2_with (at_builtin; refine wpList_append_bytes rfl (.tmp 23) (.tmp 24) rfl w.heap.size (leB k n) [0] _ rfl _ _ _ rfl rfl (hown.below ((Below.refl _ _).alloc (Nat.le_refl _) _) (Nat.le_refl _)) (Blk.src (t := 5) (heap_alloc_new _ _)) (by simp; omega) (by rw [hll]; simp; omega) (fun h => by cases h) ?_; intro v' w1 hown1 hb1)
        have hb2 : Below w.heap.size w w1 := (hbw.alloc hz _).trans hb1
        rw [← HSN.out] at hown1
        clear hown
        go_roundw
        case rel => exact ⟨k + 1, by omega, by go_num, hown1, hb2⟩
        case measure => simp [intOf]; omega
    · obtain rfl : k = size := by omega
      clear hll
      go_wp2
      go_ret
      exact ⟨_, rfl, hown, hbw⟩
end Go.Proofs.YtjdfkbpadhndlaaDoor
