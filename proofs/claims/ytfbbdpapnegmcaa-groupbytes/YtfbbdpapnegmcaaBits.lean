/- bits.there, bits.bit, bits.bound, bits.Get; the document's Get and most. -/
import Derived.Test.YtfbbdpapnegmcaaMath
import Derived.Test.YtfbbdpapnegmcaaOps
import Derived.Deep.QuietTactic
import Derived.BigQuiet
import Derived.WalkSmall
namespace Go.Proofs.Ytfbbdpapnegmcaa
open Go.RowKit
set_option maxHeartbeats 1000000 in
theorem there_yes (sp : Option Addr) (n cap : Nat) (i : Nat) (w : World) (h : i < 8 * n) (hn : n ≤ 140737488355328) :
    Calls Try.prog 59 #[.slice sp n cap, .int .i64 i] w fun e w' => e = .returned (.bool true) ∧ w' = w := by
  have h8 : (i : Int) / 8 < n := by omega
  have hi : (i : Int) ≤ 9223372036854775807 := by omega
  go_enter Try.func59, Try.ntmps59
  go_wp2
  go_ret
  exact ⟨rfl, rfl⟩
set_option maxHeartbeats 1000000 in
theorem there_no (sp : Option Addr) (n cap : Nat) (i : Int) (w : World) (h : i < 0 ∨ 8 * (n : Int) ≤ i) (hi : i ≤ 9223372036854775807) :
    Calls Try.prog 59 #[.slice sp n cap, .int .i64 i] w fun e w' => e = .returned (.bool false) ∧ w' = w := by
  rcases h with h | h
  · go_enter Try.func59, Try.ntmps59
    go_wp2
    go_ret
    exact ⟨rfl, rfl⟩
  · have h0 : 0 ≤ i := by omega
    have h8 : ¬ i / 8 < n := by omega
    go_enter Try.func59, Try.ntmps59
    go_wp2
    go_ret
    exact ⟨rfl, rfl⟩
set_option maxHeartbeats 1000000 in
theorem bit_any (i : Nat) (w : World) (hi : (i : Int) ≤ 9223372036854775807) :
    Calls Try.prog 60 #[.int .i64 i] w fun e w' => e = .returned (.int .u8 ((2 ^ (i % 8) : Nat) : Int)) ∧ w' = w := by
  go_enter Try.func60, Try.ntmps60
  go_wp2
  go_ret
  refine ⟨?_, rfl⟩
  have e : (2 ^ (i % 8) % 256 : Int) = ((2 ^ (i % 8) : Nat) : Int) := by
    have h8 : i % 8 < 8 := Nat.mod_lt _ (by omega)
    generalize i % 8 = k at *
    match k, h8 with
    | 0, _ => rfl
    | 1, _ => rfl
    | 2, _ => rfl
    | 3, _ => rfl
    | 4, _ => rfl
    | 5, _ => rfl
    | 6, _ => rfl
    | 7, _ => rfl
  exact congrArg (fun n => Ending.returned (.int .u8 n)) e
theorem bits_and_u8_nat (a b : Nat) (ha : a < 256) (hb : b < 256) : bits .and .u8 (a : Int) (b : Int) = ((a &&& b : Nat) : Int) := by
  have hx : a &&& b < 2 ^ 8 := Nat.and_lt_two_pow _ (by omega)
  have h1 : (BitVec.ofInt 8 (a : Int)).toNat = a := by
    rw [BitVec.ofInt_natCast, BitVec.toNat_ofNat]; exact Nat.mod_eq_of_lt (by omega)
  have h2 : (BitVec.ofInt 8 (b : Int)).toNat = b := by
    rw [BitVec.ofInt_natCast, BitVec.toNat_ofNat]; exact Nat.mod_eq_of_lt (by omega)
  show IntKind.u8.wrap ((BitVec.ofInt 8 (a : Int) &&& BitVec.ofInt 8 (b : Int)).toNat : Int) = _
  rw [BitVec.toNat_and, h1, h2, IntKind.wrap_u8]
  omega
theorem bits_or_u8_nat (a b : Nat) (ha : a < 256) (hb : b < 256) : bits .or .u8 (a : Int) (b : Int) = ((a ||| b : Nat) : Int) := by
  have hx : a ||| b < 2 ^ 8 := Nat.or_lt_two_pow (by omega) (by omega)
  have h1 : (BitVec.ofInt 8 (a : Int)).toNat = a := by
    rw [BitVec.ofInt_natCast, BitVec.toNat_ofNat]; exact Nat.mod_eq_of_lt (by omega)
  have h2 : (BitVec.ofInt 8 (b : Int)).toNat = b := by
    rw [BitVec.ofInt_natCast, BitVec.toNat_ofNat]; exact Nat.mod_eq_of_lt (by omega)
  show IntKind.u8.wrap ((BitVec.ofInt 8 (a : Int) ||| BitVec.ofInt 8 (b : Int)).toNat : Int) = _
  rw [BitVec.toNat_or, h1, h2, IntKind.wrap_u8]
  omega
theorem bits_xor_u8_nat (a b : Nat) (ha : a < 256) (hb : b < 256) : bits .xor .u8 (a : Int) (b : Int) = ((a ^^^ b : Nat) : Int) := by
  have hx : a ^^^ b < 2 ^ 8 := Nat.xor_lt_two_pow (by omega) (by omega)
  have h1 : (BitVec.ofInt 8 (a : Int)).toNat = a := by
    rw [BitVec.ofInt_natCast, BitVec.toNat_ofNat]; exact Nat.mod_eq_of_lt (by omega)
  have h2 : (BitVec.ofInt 8 (b : Int)).toNat = b := by
    rw [BitVec.ofInt_natCast, BitVec.toNat_ofNat]; exact Nat.mod_eq_of_lt (by omega)
  show IntKind.u8.wrap ((BitVec.ofInt 8 (a : Int) ^^^ BitVec.ofInt 8 (b : Int)).toNat : Int) = _
  rw [BitVec.toNat_xor, h1, h2, IntKind.wrap_u8]
  omega
theorem pow8 (k : Nat) : 2 ^ (k % 8) < 256 := by
  have h8 : k % 8 < 8 := Nat.mod_lt _ (by omega)
  have : 2 ^ (k % 8) ≤ 2 ^ 7 := Nat.pow_le_pow_right (by omega) (by omega)
  omega
theorem and_fin : ∀ x : Fin 256, ∀ k : Fin 8, (((x.1 &&& 2 ^ k.1 : Nat) != 0) = x.1.testBit k.1) := by decide +kernel
theorem gb_and (x i : Nat) (hx : x < 256) : (bits .and .u8 (x : Int) (2 ^ (i % 8)) != 0) = x.testBit (i % 8) := by
  have e : (2 ^ (i % 8) : Int) = ((2 ^ (i % 8) : Nat) : Int) := by simp
  rw [e, bits_and_u8_nat x _ hx (pow8 i)]
  have := and_fin ⟨x, hx⟩ ⟨i % 8, Nat.mod_lt _ (by omega)⟩
  rw [← this]
  show (((x &&& 2 ^ (i % 8) : Nat) : Int) != 0) = ((x &&& 2 ^ (i % 8) : Nat) != 0)
  generalize (x &&& 2 ^ (i % 8)) = y
  rw [Bool.eq_iff_iff]; simp
theorem shr_fin : ∀ x : Fin 256, ∀ k : Fin 8, (((x.1 / 2 ^ k.1 &&& 1 : Nat) == 1) = x.1.testBit k.1) := by decide +kernel
theorem gb_shr (x i : Nat) (hx : x < 256) : (bits .and .u8 ((x : Int) / 2 ^ (i % 8)) 1 == 1) = x.testBit (i % 8) := by
  have e : ((x : Int) / 2 ^ (i % 8)) = ((x / 2 ^ (i % 8) : Nat) : Int) := by simp
  have hd : x / 2 ^ (i % 8) < 256 := Nat.lt_of_le_of_lt (Nat.div_le_self _ _) hx
  have e1 : (1 : Int) = ((1 : Nat) : Int) := rfl
  rw [e, e1, bits_and_u8_nat _ 1 hd (by omega)]
  have := shr_fin ⟨x, hx⟩ ⟨i % 8, Nat.mod_lt _ (by omega)⟩
  rw [← this]
  show (((x / 2 ^ (i % 8) &&& 1 : Nat) : Int) == ((1 : Nat) : Int)) = ((x / 2 ^ (i % 8) &&& 1 : Nat) == 1)
  generalize (x / 2 ^ (i % 8) &&& 1) = y
  rw [Bool.eq_iff_iff]; simp; omega
theorem gb_at (l : List UInt8) (i : Nat) (h : i < 8 * l.length) : ∃ x : Nat, x < 256 ∧ gb l i = x.testBit (i % 8) ∧ ∃ hi : i / 8 < l.length, bv l[i / 8] = .int .u8 (x : Int) := by
  have hi : i / 8 < l.length := by omega
  refine ⟨l[i / 8].toNat, UInt8.toNat_lt _, ?_, hi, rfl⟩
  simp [gb, hi]
set_option maxHeartbeats 1000000 in
theorem get_yes (sp : Option Addr) (l : List UInt8) (cap : Nat) (i : Nat) (w : World) (hs : Src w sp l) (h : i < 8 * l.length) (hn : l.length ≤ 140737488355328) :
    Calls Try.prog 57 #[.slice sp l.length cap, .int .i64 i] w fun e w' => e = .returned (.bool (gb l i)) ∧ ∃ n, w' = w.drewN n := by
  obtain ⟨b, off, rfl, hb, hc⟩ := hs.at' (by omega)
  obtain ⟨x, hx, hg, hi, hv⟩ := gb_at l i h
  have hcell := hc (i / 8) hi
  rw [hv] at hcell
  clear hv hc hs
  have h8 : (i : Int) / 8 < l.length := by omega
  have hi2 : (i : Int) ≤ 9223372036854775807 := by omega
  have HG : Hid _ := hg
  clear hg hi
  go_enter Try.func57, Try.ntmps57
  go_wp2_with fail
  go_quiet (first | (go_at_call 59; exact Calls.quiet_of_same (there_yes _ _ _ _ _ h hn)) | (go_at_call 60; exact Calls.quiet_of_same (bit_any _ _ hi2)))
  go_wp2
  go_ret
  refine ⟨?_, _, rfl⟩
  exact congrArg (fun b => Ending.returned (.bool b)) ((gb_and x i hx).trans HG.out.symm)
set_option maxHeartbeats 1000000 in
theorem get_no (sp : Option Addr) (n cap : Nat) (i : Int) (w : World) (h : i < 0 ∨ 8 * (n : Int) ≤ i) (hi : i ≤ 9223372036854775807) :
    Calls Try.prog 57 #[.slice sp n cap, .int .i64 i] w fun e w' => e = .returned (.bool false) ∧ ∃ n, w' = w.drewN n := by
  go_enter Try.func57, Try.ntmps57
  go_wp2_with fail
  go_quiet ((go_at_call 59; exact Calls.quiet_of_same (there_no _ _ _ _ _ h hi)))
  go_wp2
  go_ret
  exact ⟨rfl, _, rfl⟩
set_option maxHeartbeats 1000000 in
theorem rget_yes (sp : Option Addr) (l : List UInt8) (cap : Nat) (i : Nat) (w : World) (hs : Src w sp l) (h : i < 8 * l.length) (hn : l.length ≤ 140737488355328) :
    Calls Try.prog 43 #[.slice sp l.length cap, .int .i64 i] w fun e w' => e = .returned (.bool (gb l i)) ∧ w' = w := by
  obtain ⟨b, off, rfl, hb, hc⟩ := hs.at' (by omega)
  obtain ⟨x, hx, hg, hi, hv⟩ := gb_at l i h
  have hcell := hc (i / 8) hi
  rw [hv] at hcell
  clear hv hc hs
  have h8 : (i : Int) / 8 < l.length := by omega
  have hi2 : (i : Int) ≤ 9223372036854775807 := by omega
  have HG : Hid _ := hg
  clear hg hi
  go_enter Try.func43, Try.ntmps43
  go_wp2
  go_ret
  refine ⟨?_, rfl⟩
  exact congrArg (fun b => Ending.returned (.bool b)) ((gb_shr x i hx).trans HG.out.symm)
set_option maxHeartbeats 1000000 in
theorem rget_no (sp : Option Addr) (n cap : Nat) (i : Int) (w : World) (h : i < 0 ∨ 8 * (n : Int) ≤ i) (hi : i ≤ 9223372036854775807) :
    Calls Try.prog 43 #[.slice sp n cap, .int .i64 i] w fun e w' => e = .returned (.bool false) ∧ w' = w := by
  rcases h with h | h
  · go_enter Try.func43, Try.ntmps43
    go_wp2
    go_ret
    exact ⟨rfl, rfl⟩
  · have h0 : 0 ≤ i := by omega
    have h8 : ¬ i / 8 < n := by omega
    go_enter Try.func43, Try.ntmps43
    go_wp2
    go_ret
    exact ⟨rfl, rfl⟩
/-- How many the first n are. -/
def bnd (len : Nat) (n : Int) : Nat := (min (max n 0) (8 * (len : Int))).toNat
theorem bnd_le (len : Nat) (n : Int) : bnd len n ≤ 8 * len := by unfold bnd; omega
theorem bnd_of (len : Nat) (n : Int) : (n < 0 ∧ bnd len n = 0) ∨ (0 ≤ n ∧ n ≤ 8 * (len : Int) ∧ (bnd len n : Int) = n) ∨ (8 * (len : Int) < n ∧ bnd len n = 8 * len) := by unfold bnd; omega
set_option maxHeartbeats 1000000 in
theorem bound_any (sp : Option Addr) (len cap : Nat) (n : Int) (w : World) (hn : len ≤ 140737488355328) :
    Calls Try.prog 56 #[.slice sp len cap, .int .i64 n] w fun e w' => e = .returned (.int .i64 (bnd len n : Int)) ∧ w' = w := by
  rcases bnd_of len n with ⟨h1, h2⟩ | ⟨h1, h2, h3⟩ | ⟨h1, h2⟩
  · have HB : Hid _ := h2
    clear h2
    have h4 : (0 : Int) ≤ 8 * (len : Int) := by omega
    go_enter Try.func56, Try.ntmps56
    go_wp2
    all_goals first | (exfalso; omega) | skip
    all_goals
      go_ret
      refine ⟨?_, rfl⟩
      rw [HB.out]; rfl
  · have HB : Hid _ := h3
    clear h3
    go_enter Try.func56, Try.ntmps56
    go_wp2
    all_goals first | (exfalso; omega) | skip
    all_goals
      go_ret
      refine ⟨?_, rfl⟩
      rw [HB.out]; rfl
  · have HB : Hid _ := h2
    clear h2
    have h0 : 0 ≤ n := by omega
    go_enter Try.func56, Try.ntmps56
    go_wp2
    all_goals first | (exfalso; omega) | skip
    all_goals
      go_ret
      refine ⟨?_, rfl⟩
      rw [HB.out]; rfl
set_option maxHeartbeats 1000000 in
theorem most_any (sp : Option Addr) (len cap : Nat) (n : Int) (w : World) (hn : len ≤ 140737488355328) :
    Calls Try.prog 58 #[.slice sp len cap, .int .i64 n] w fun e w' => e = .returned (.int .i64 (bnd len n : Int)) ∧ w' = w := by
  have HB : Hid _ := bnd_of len n
  go_enter Try.func58, Try.ntmps58
  go_wp2
  all_goals
    go_ret
    refine ⟨?_, rfl⟩
    have := HB.out
    refine congrArg (fun b => Ending.returned (.int .i64 b)) ?_
    show _ = _
    omega
end Go.Proofs.Ytfbbdpapnegmcaa
