/- One bit that is turned turns the sum: the mathematics. -/
import Derived.Test.YtjdfkbpadhndlaaDoorSum
namespace Go.Proofs.YtjdfkbpadhndlaaDoor
theorem tab_high (i j : Nat) (hi : i < 16) (hj : j < 16) (h : tabAt i / 268435456 = tabAt j / 268435456) : i = j := by
  have key : ∀ a : Fin 16, ∀ b : Fin 16, tabAt a.1 / 268435456 = tabAt b.1 / 268435456 → a = b := by decide +kernel
  exact congrArg Fin.val (key ⟨i, hi⟩ ⟨j, hj⟩ h)
theorem xor_high (a b : Nat) : (a ^^^ b) / 268435456 = (a / 268435456) ^^^ (b / 268435456) := by
  have e : ∀ x : Nat, x / 268435456 = x >>> 28 := fun x => by rw [Nat.shiftRight_eq_div_pow]
  rw [e, e, e, Nat.shiftRight_xor_distrib]
theorem xor_left_inj {a b c : Nat} (h : a ^^^ b = a ^^^ c) : b = c := by
  have := congrArg (a ^^^ ·) h
  simpa [← Nat.xor_assoc] using this
theorem xor_right_inj {a b c : Nat} (h : b ^^^ a = c ^^^ a) : b = c := by
  rw [Nat.xor_comm b, Nat.xor_comm c] at h; exact xor_left_inj h
theorem nib_inj (s t : Nat) (hs : s < 4294967296) (ht : t < 4294967296) (h : nib s = nib t) : s = t := by
  unfold nib at h
  have h1 := congrArg (· / 268435456) h
  simp only [xor_high] at h1
  rw [show s / 16 / 268435456 = 0 by omega, show t / 16 / 268435456 = 0 by omega, Nat.zero_xor, Nat.zero_xor] at h1
  have h2 := tab_high _ _ (by omega) (by omega) h1
  rw [h2] at h
  have h3 := xor_right_inj h
  omega
theorem crcB_inj (s t b : Nat) (hs : s < 4294967296) (ht : t < 4294967296) (hb : b < 256) (h : crcB s b = crcB t b) : s = t := by
  have h1 : s ^^^ b < 4294967296 := Nat.xor_lt_two_pow (n := 32) hs (by omega)
  have h2 : t ^^^ b < 4294967296 := Nat.xor_lt_two_pow (n := 32) ht (by omega)
  exact xor_right_inj (nib_inj _ _ h1 h2 (nib_inj _ _ (nib_lt _ h1) (nib_lt _ h2) h))
theorem crcB_inj2 (s b c : Nat) (hs : s < 4294967296) (hb : b < 256) (hc : c < 256) (h : crcB s b = crcB s c) : b = c := by
  have h1 : s ^^^ b < 4294967296 := Nat.xor_lt_two_pow (n := 32) hs (by omega)
  have h2 : s ^^^ c < 4294967296 := Nat.xor_lt_two_pow (n := 32) hs (by omega)
  exact xor_left_inj (nib_inj _ _ h1 h2 (nib_inj _ _ (nib_lt _ h1) (nib_lt _ h2) h))
theorem crcF_inj : ∀ (l : List UInt8) (s t : Nat), s < 4294967296 → t < 4294967296 → crcF l s = crcF l t → s = t
  | [], _, _, _, _, h => h
  | b :: r, s, t, hs, ht, h => crcB_inj s t b.toNat hs ht b.toNat_lt (crcF_inj r _ _ (crcB_lt s _ hs b.toNat_lt) (crcB_lt t _ ht b.toNat_lt) h)
theorem crcF_set : ∀ (l : List UInt8) (i : Nat) (x : UInt8) (s : Nat), s < 4294967296 → (h : i < l.length) → x ≠ l[i] → crcF (l.set i x) s ≠ crcF l s
  | [], _, _, _, _, h, _ => by simp at h
  | b :: r, 0, x, s, hs, _, hx => by
    intro h
    have h1 : crcB s x.toNat = crcB s b.toNat := crcF_inj r _ _ (crcB_lt s _ hs x.toNat_lt) (crcB_lt s _ hs b.toNat_lt) h
    have h2 := crcB_inj2 s _ _ hs x.toNat_lt b.toNat_lt h1
    exact hx (UInt8.toNat_inj.1 h2)
  | b :: r, i + 1, x, s, hs, h, hx => by
    exact crcF_set r i x _ (crcB_lt s _ hs b.toNat_lt) (by simpa using h) (by simpa using hx)
theorem sumN_set (l : List UInt8) (i : Nat) (x : UInt8) (h : i < l.length) (hx : x ≠ l[i]) : sumN l ≠ sumN (l.set i x) := by
  intro e
  exact crcF_set l i x 4294967295 (by omega) h hx (xor_left_inj e).symm
theorem bit_turn (b : UInt8) (j : Nat) (hj : j < 8) : UInt8.ofNat (b.toNat ^^^ 2 ^ j) ≠ b := by
  intro e
  have h1 := congrArg UInt8.toNat e
  have h2 : b.toNat ^^^ 2 ^ j < 256 := Nat.xor_lt_two_pow (n := 8) b.toNat_lt (Nat.pow_lt_pow_right (by omega) hj)
  rw [UInt8.toNat_ofNat', Nat.mod_eq_of_lt h2] at h1
  have h3 : b.toNat ^^^ 2 ^ j = b.toNat ^^^ 0 := by rw [h1]; simp
  have := xor_left_inj h3
  have := Nat.two_pow_pos j
  omega
end Go.Proofs.YtjdfkbpadhndlaaDoor
