/- leveeref01.Sum, Get, Zero, Bytes and num.Zero. -/
import Derived.Test.YtjdfkbpadhndlaaDoorSum
import Derived.Test.YtjdfkbpadhndlaaDoorOps
import Derived.Test.YtjdfkbpadhndlaaDoorPut
import Derived.Test.YtjdfkbpadhndlaaDoorRead
namespace Go.Proofs.YtjdfkbpadhndlaaDoor
open Go.RowKit
/-- One bit. -/
def bit1 (s : Nat) : Nat := (s / 2) ^^^ (if s % 2 = 1 then 3988292384 else 0)
theorem bit1_lt (s : Nat) (h : s < 4294967296) : bit1 s < 4294967296 := by
  unfold bit1; exact Nat.xor_lt_two_pow (n := 32) (by omega) (by split <;> omega)
theorem bit1_xor (a b : Nat) : bit1 (a ^^^ b) = bit1 a ^^^ bit1 b := by
  unfold bit1
  have h1 : (a ^^^ b) / 2 = a / 2 ^^^ b / 2 := by
    have e : ∀ x : Nat, x / 2 = x >>> 1 := fun x => by rw [Nat.shiftRight_eq_div_pow]
    rw [e, e, e, Nat.shiftRight_xor_distrib]
  have h2 : (a ^^^ b) % 2 = (a + b) % 2 := by
    have h := Nat.xor_mod_two_pow (a := a) (b := b) (n := 1)
    rw [Nat.pow_one] at h
    rw [h]
    rcases Nat.mod_two_eq_zero_or_one a with ha | ha <;> rcases Nat.mod_two_eq_zero_or_one b with hb | hb <;> rw [ha, hb, Nat.add_mod, ha, hb] <;> rfl
  rw [h1, h2]
  have hsw : ∀ x y u v : Nat, (x ^^^ y) ^^^ (u ^^^ v) = (x ^^^ u) ^^^ (y ^^^ v) := fun x y u v => by
    rw [Nat.xor_assoc, ← Nat.xor_assoc y u v, Nat.xor_comm y u, Nat.xor_assoc u y v, ← Nat.xor_assoc]
  rcases Nat.mod_two_eq_zero_or_one a with ha | ha <;> rcases Nat.mod_two_eq_zero_or_one b with hb | hb
  · rw [if_neg (by omega), if_neg (by omega), if_neg (by omega)]; simp
  · rw [if_pos (by omega), if_neg (by omega), if_pos (by omega), ← hsw, Nat.zero_xor]
  · rw [if_pos (by omega), if_pos (by omega), if_neg (by omega), ← hsw, Nat.xor_zero]
  · rw [if_neg (by omega), if_pos (by omega), if_pos (by omega), ← hsw, Nat.xor_self]
theorem bit1_even (q : Nat) : bit1 (2 * q) = q := by
  unfold bit1; rw [if_neg (by omega)]; simp
def bits4 (s : Nat) : Nat := bit1 (bit1 (bit1 (bit1 s)))
theorem nib_bits (s : Nat) : nib s = bits4 s := by
  have e : s = (2 * (2 * (2 * (2 * (s / 16))))) ^^^ (s % 16) := by
    have h := Nat.two_pow_add_eq_or_of_lt (i := 4) (b := s % 16) (by omega) (s / 16)
    have h2 : (2 ^ 4 * (s / 16)) ^^^ (s % 16) = 2 ^ 4 * (s / 16) + s % 16 := by
      rw [h]
      apply Nat.eq_of_testBit_eq
      intro i
      rw [Nat.testBit_xor, Nat.testBit_or, Nat.testBit_two_pow_mul]
      by_cases hi : 4 ≤ i
      · have : (s % 16).testBit i = false := Nat.testBit_lt_two_pow (Nat.lt_of_lt_of_le (by omega : s % 16 < 2 ^ 4) (Nat.pow_le_pow_right (by omega) hi))
        simp [this]
      · simp [hi]
    rw [show 2 * (2 * (2 * (2 * (s / 16)))) = 2 ^ 4 * (s / 16) by omega, h2]; omega
  have key : ∀ r : Fin 16, bits4 r.1 = tabAt r.1 := by decide +kernel
  have k2 := key ⟨s % 16, by omega⟩
  unfold nib
  have e3 : bits4 s = bits4 ((2 * (2 * (2 * (2 * (s / 16))))) ^^^ (s % 16)) := by rw [← e]
  rw [e3]
  unfold bits4 at *
  rw [bit1_xor, bit1_even, bit1_xor, bit1_even, bit1_xor, bit1_even, bit1_xor, bit1_even]
  rw [← k2]
theorem bit_walk (s : Nat) (h : s < 4294967296) : bits .and .u32 (s : Int) 1 = ((s % 2 : Nat) : Int) ∧ (s % 2 = 1 → bits .xor .u32 ((s : Int) / 2) 3988292384 = (bit1 s : Int)) ∧ (¬ s % 2 = 1 → (s : Int) / 2 = (bit1 s : Int)) := by
  have e := u32_and_nat s 1 h (by omega)
  rw [Nat.and_one_is_mod] at e
  refine ⟨by exact_mod_cast e, fun hp => ?_, fun hp => ?_⟩
  · have e2 := u32_xor_nat (s / 2) 3988292384 (by omega) (by omega)
    unfold bit1; rw [if_pos hp]
    have e3 : ((s / 2 : Nat) : Int) = (s : Int) / 2 := by omega
    rw [e3] at e2; exact e2
  · unfold bit1; rw [if_neg hp, Nat.xor_zero]; omega
def bitN : Nat → Nat → Nat
  | 0, s => s
  | k + 1, s => bit1 (bitN k s)
theorem bitN_lt (k s : Nat) (h : s < 4294967296) : bitN k s < 4294967296 := by
  induction k with
  | zero => exact h
  | succ k ih => exact bit1_lt _ ih
theorem bitN_8 (s b : Nat) : bitN 8 (s ^^^ b) = crcB s b := by
  unfold crcB; rw [nib_bits, nib_bits]; rfl
set_option maxHeartbeats 2000000 in
theorem rsum_any (sp : Option Addr) (l : List UInt8) (cap : Nat) (w : World) (hs : Src w sp l) (hl : (l.length : Int) ≤ 140737488355328) :
    Calls Tryd.prog 27 #[.slice sp l.length cap] w fun e w' => e = .returned (.int .u32 (sumN l : Int)) ∧ w' = w := by
  go_enter Tryd.func27, Tryd.ntmps27
  go_wp2
  go_loop [3, 4] (fun n i => ∃ k : Nat, k ≤ l.length ∧ i = .int .i64 k ∧ n = .int .u32 (crcF (l.take k) 4294967295 : Nat)) (fun _ i => l.length - (intOf i).toNat)
  case atStart => exact ⟨0, by omega, rfl, by simp [crcF]⟩
  case round =>
    obtain ⟨k, hk, rfl, rfl⟩ := hrel
    have hlt0 := crcF_lt (l.take k) 4294967295 (by omega)
    obtain ⟨s, HS⟩ : ∃ s, Hid (s = crcF (l.take k) 4294967295) := ⟨_, rfl⟩
    rw [← HS.out] at hlt0 ⊢
    by_cases hlt : (k : Int) < l.length
    · obtain ⟨b, off, rfl, hb, cs⟩ := hs.at' (by omega)
      have c1 : w.cell? ⟨b, off + k, none⟩ = some (.int .u8 (nth l k)) := (cs k (by omega)).trans (by rw [bv_nth])
      have hn := (l.getD k 0).toNat_lt
      have hx0 := u32_xor_nat s (l.getD k 0).toNat hlt0 (by omega)
      have hs1 : s ^^^ (l.getD k 0).toNat < 4294967296 := Nat.xor_lt_two_pow (n := 32) hlt0 (by omega)
      have HE : Hid (bitN 8 (s ^^^ (l.getD k 0).toNat) = crcF (l.take (k + 1)) 4294967295) := by
        show _ = _; rw [crcF_step l _ k (by omega), ← HS.out, bitN_8]
      have hx : bits .xor .u32 (s : Int) (nth l k % 4294967296) = ((s ^^^ (l.getD k 0).toNat : Nat) : Int) := by
        rw [← hx0, Int.emod_eq_of_lt (nth_lo _ _) (by have := nth_hi l k; omega)]; rfl
      generalize s ^^^ (l.getD k 0).toNat = s1 at *
      clear cs hs hx0 hn
      go_wp2
      go_loop [3, 5] (fun n j => ∃ m : Nat, m ≤ 8 ∧ j = .int .i64 m ∧ n = .int .u32 (bitN m s1 : Nat)) (fun _ j => 8 - (intOf j).toNat)
      case atStart => exact ⟨0, by omega, rfl, rfl⟩
      case round =>
        obtain ⟨m, hm, rfl, rfl⟩ := hrel
        have hlt1 := bitN_lt m s1 hs1
        have HB : Hid (bit1 (bitN m s1) = bitN (m + 1) s1) := rfl
        obtain ⟨t, HT⟩ : ∃ t, Hid (t = bitN m s1) := ⟨_, rfl⟩
        rw [← HT.out] at hlt1 ⊢
        obtain ⟨b1, b2, b3⟩ := bit_walk t hlt1
        by_cases hlt8 : (m : Int) < 8
        · by_cases hodd : t % 2 = 1
          · have hb2 := b2 hodd
            rw [hodd] at b1
            clear b2 b3
            go_wp2
            go_round
            case rel => exact ⟨m + 1, by omega, by go_num, by rw [← HB.out, ← HT.out]⟩
            case measure => simp [intOf]; omega
          · have hb3 := b3 hodd
            have hodd2 : t % 2 = 0 := by omega
            rw [hodd2] at b1
            clear b2 b3
            go_wp2
            go_round
            case rel => exact ⟨m + 1, by omega, by go_num, by rw [← HB.out, ← HT.out]⟩
            case measure => simp [intOf]; omega
        · obtain rfl : m = 8 := by omega
          clear b1 b2 b3
          go_wp2
          go_round
          case rel => exact ⟨k + 1, by omega, by go_num, by rw [HT.out, HE.out]⟩
          case measure => simp [intOf]; omega
    · go_wp2
      go_ret
      refine ⟨ret_u32 ?_, rfl⟩
      have e := u32_xor_nat s 4294967295 hlt0 (by omega)
      rw [Nat.xor_comm, HS.out, List.take_of_length_le (by omega)] at e
      rw [HS.out, List.take_of_length_le (by omega)]
      exact e
theorem leNum_app : ∀ (l r : List UInt8), leNum (l ++ r) = leNum l + 2 ^ (8 * l.length) * leNum r
  | [], r => by simp [leNum]
  | b :: l, r => by
    have e : 2 ^ (8 * (l.length + 1)) = 256 * 2 ^ (8 * l.length) := by rw [Nat.mul_add, Nat.pow_add]; omega
    simp only [List.cons_append, leNum, leNum_app l r, List.length_cons, e]
    rw [Nat.mul_add, Nat.mul_assoc, Nat.add_assoc]
theorem getNum_take (l : List UInt8) : getNum l = leNum (l.take 8) := by
  unfold getNum pad8; rw [leNum_app, leNum_zeros]; simp
set_option maxHeartbeats 1000000 in
theorem rget_any (sp : Option Addr) (l : List UInt8) (cap : Nat) (w : World) (hs : Src w sp l) (hl : (l.length : Int) ≤ 140737488355328) :
    Calls Tryd.prog 31 #[.slice sp l.length cap] w fun e w' => e = .returned (.int .u64 (getNum l : Int)) ∧ w' = w := by
  go_enter Tryd.func31, Tryd.ntmps31
  go_wp2
  go_loop [3, 4] (fun n i => ∃ k : Nat, k ≤ l.length ∧ k ≤ 8 ∧ i = .int .i64 k ∧ n = .int .u64 (leNum (l.take k))) (fun _ i => 8 - (intOf i).toNat)
  case atStart => exact ⟨0, by omega, by omega, rfl, by simp [leNum]⟩
  case round =>
    obtain ⟨k, hk, hk8, rfl, rfl⟩ := hrel
    by_cases hlt : (k : Int) < l.length
    · by_cases hlt8 : (k : Int) < 8
      · obtain ⟨b, off, rfl, hb, cs⟩ := hs.at' (by omega)
        have c1 : w.cell? ⟨b, off + k, none⟩ = some (.int .u8 (nth l k)) := (cs k (by omega)).trans (by rw [bv_nth])
        have HS : Hid (bits .or .u64 (leNum (l.take k) : Int) (IntKind.u64.wrap (IntKind.u64.wrap (nth l k) * 2 ^ (8 * k))) = (leNum (l.take (k + 1)) : Int)) := get_step l k (by omega) (by omega)
        clear cs hs
        go_wp2
        go_round
        case rel => exact ⟨k + 1, by omega, by omega, by go_num, by rw [← HS.out]⟩
        case measure => simp [intOf]; omega
      · go_wp2
        go_ret
        refine ⟨?_, rfl⟩
        rw [getNum_take, show 8 = k by omega]; rfl
    · have hgd : decide ((k : Int) < (l.length : Int)) = false := by simp; omega
      go_wp2
      go_ret
      refine ⟨?_, rfl⟩
      rw [getNum_take, List.take_of_length_le (by omega : l.length ≤ 8), List.take_of_length_le (by omega : l.length ≤ k)]; rfl
end Go.Proofs.YtjdfkbpadhndlaaDoor
