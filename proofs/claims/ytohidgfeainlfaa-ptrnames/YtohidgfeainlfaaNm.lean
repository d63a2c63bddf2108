/- Package ptr: place, Names. -/
import Derived.Test.YtohidgfeainlfaaWay
import Derived.Test.YtohidgfeainlfaaSl
import Derived.Test.YtohidgfeainlfaaNGet
namespace Go.Proofs.Ytohidgfeainlfaa
open Go.RowKit
set_option maxHeartbeats 1000000 in
theorem place_any (b off cap k : Nat) (w : World) (hk : (k : Int) < 64) (hc : (256 : Int) ≤ cap) :
    Calls Try.prog 28 #[.slice (some ⟨b, off, none⟩) 256 cap, .int .i64 (k : Int)] w fun e w' => e = .returned (.slice (some ⟨b, off + 4 * k, none⟩) 4 (cap - 4 * k)) ∧ w' = w := by
  have hsl := slice_sl b off 256 cap (4 * k) 4 ((k : Int) * 4) (((k : Int) + 1) * 4) (by omega) (by omega) (by omega) (by omega)
  go_enter Try.func28, Try.ntmps28
  go_wp2
  go_ret
  exact ⟨rfl, rfl⟩
/-- The k-th name of a block. -/
def nmP (l : List UInt8) (k : Nat) : List UInt8 := (l.drop (4 * k)).take 4
def nmv (l : List UInt8) (k : Nat) : Int := ((getNum (nmP l k) % 2147483648 : Nat) : Int)
def nms (l : List UInt8) : List Int := (List.range 64).map (nmv l)
def nmS (l : List UInt8) (k : Nat) : List Int := (List.range k).map (nmv l) ++ List.replicate (64 - k) 0
theorem nmS_length (l : List UInt8) {k : Nat} (hk : k ≤ 64) : (nmS l k).length = 64 := by simp [nmS]; omega
theorem nmS_last (l : List UInt8) : nmS l 64 = nms l := by simp [nmS, nms]
theorem nms_length (l : List UInt8) : (nms l).length = 64 := by simp [nms]
theorem nmS_set (l : List UInt8) {k : Nat} (hk : k < 64) : (nmS l k).set k (nmv l k) = nmS l (k + 1) := by
  unfold nmS
  rw [List.set_append_right _ _ (by simp), show 64 - k = (64 - (k + 1)) + 1 by omega, List.replicate_succ, List.range_succ]
  simp
theorem nmS_getD (l : List UInt8) {k : Nat} (hk : k < 64) : (nmS l k).getD k 0 = 0 := by
  unfold nmS
  rw [List.getD_eq_getElem?_getD, List.getElem?_append_right (by simp)]
  simp [show 0 < 64 - k by omega]
theorem nmv_lo (l : List UInt8) (k : Nat) : 0 ≤ nmv l k := by unfold nmv; omega
theorem nmv_hi (l : List UInt8) (k : Nat) : nmv l k < 2147483648 := by unfold nmv; omega
theorem nm_and (l : List UInt8) (k : Nat) : bits .and .u64 (getNum (nmP l k) : Int) 2147483647 = nmv l k := by
  have h : getNum (nmP l k) < 2 ^ (8 * 8) := by
    have := leNum_lt (pad8 (nmP l k)); rw [pad8_length] at this; exact this
  have := bits_and_u64_nat (getNum (nmP l k)) 2147483647 (by omega) (by omega)
  rw [show ((2147483647 : Nat) : Int) = 2147483647 from rfl] at this
  rw [this, nmv]
  congr 1
  exact Nat.and_two_pow_sub_one_eq_mod _ 31
/-- 'make' of n numbers. -/
theorem make_ints (w : World) (n : Nat) (hn : n ≤ 1000000) :
    (Instr.makeSlice 42 (.int .i64 (n : Int)) (.int .i64 (n : Int))).run Try.prog w = .ok (.slice (some ⟨w.heap.size, 0, none⟩) n n) (w.alloc (.cells (ivs (List.replicate n 0)).toArray 3)) := by
  obtain ⟨i0, hi, hz0, hz1, hz2⟩ := info_parts Try.infoI
  have h := run_make (P := Try.prog) w 42 3 i0 _ Try.underlying42 hi hz0 .i64 .i64 (n : Int) (n : Int) (by omega) (by omega) (by rw [hz2]; omega) (by omega)
  rw [h]
  congr 3
  have e : madeCells (Value.int IntKind.i64 0).cells ((n : Int).toNat * i0.size) = (ivs (List.replicate n 0)).toArray := by
    apply Array.toList_inj.1
    rw [hz1, Int.toNat_natCast, Nat.mul_one]
    rw [show ivs (List.replicate n 0) = List.replicate n (Value.int .i64 0) by simp [ivs]]
    exact toList_madeCells_one _ _
  rw [e]
theorem RowI.own {w : World} {g base : Nat} {l : List Int} (h : RowI w g 3 l) (hb : base ≤ g) (hl : l.length ≤ 1000000) : OwnI w base (.slice (some ⟨g, 0, none⟩) l.length l.length) l :=
  ⟨by simp [ivs_length], .inr ⟨g, l.length, _, rfl, hb, h, Nat.le_refl _, by unfold maxLen; omega, by simp [ivs_length], by rw [Nat.mul_one, List.take_of_length_le (by simp [ivs_length])]⟩⟩
def szE (n : Nat) : Int := if n = 256 then 0 else 4
theorem names_no (sp : Option Addr) (n cap : Nat) (hn : ¬ (n : Int) = 256) (w : World) :
    Calls Try.prog 18 #[.slice sp n cap] w fun e w' => e = .returned (.tuple #[.slice none 0 0, .int .i64 4]) ∧ w' = w := by
  have hn' : ((n : Int) == 256) = false := beq_eq_false_iff_ne.2 hn
  go_enter Try.func18, Try.ntmps18
  go_wp2
  go_ret2
  exact ⟨rfl, rfl⟩
def zerI (n : Nat) : List Int := List.replicate n 0
set_option maxRecDepth 100000 in
set_option maxHeartbeats 2000000 in
theorem names_ok (b off cap : Nat) (l : List UInt8) (hl : l.length = 256) (hc : (256 : Int) ≤ cap) (w : World) (hs : Src w (some ⟨b, off, none⟩) l) :
    Calls Try.prog 18 #[.slice (some ⟨b, off, none⟩) 256 cap] w fun e w' => ∃ g, e = .returned (.tuple #[.slice (some ⟨g, 0, none⟩) 64 64, .int .i64 0]) ∧ RowI w' g 3 (nms l) ∧ w.heap.size ≤ g ∧ Below w.heap.size w w' := by
  have hmk : (Instr.makeSlice 42 (.int .i64 64) (.int .i64 64)).run Try.prog w = .ok (.slice (some ⟨w.heap.size, 0, none⟩) 64 64) (w.alloc (.cells (ivs (zerI 64)).toArray 3)) := make_ints w 64 (by omega)
  have hr0 : RowI (w.alloc (.cells (ivs (zerI 64)).toArray 3)) w.heap.size 3 (zerI 64) := heap_alloc_new _ _
  have HR0 : Hid (RowI (w.alloc (.cells (ivs (zerI 64)).toArray 3)) w.heap.size 3 (nmS l 0)) := hr0
  have HB0 : Hid (Below w.heap.size w (w.alloc (.cells (ivs (zerI 64)).toArray 3))) := (Below.refl _ _).alloc (Nat.le_refl _) _
  have HS : Hid (Src w (some ⟨b, off, none⟩) l) := hs
  have HL : Hid (l.length = 256) := hl
  clear hr0 hs hl
  go_enter Try.func18, Try.ntmps18
  go_wp2
  generalize w.alloc (.cells (ivs (zerI 64)).toArray 3) = w0 at *
  clear hmk
  go_loopw [12] (fun t wr => ∃ k : Nat, k ≤ 64 ∧ t = .int .i64 k ∧ Hid (RowI wr w.heap.size 3 (nmS l k)) ∧ Hid (Below w.heap.size w wr)) (fun t _ => 64 - (intOf t).toNat)
  case atStart => exact ⟨0, by omega, rfl, HR0, HB0⟩
  case round =>
    obtain ⟨k, hk, rfl, HR, HB⟩ := hrel
    clear HR0 HB0
    by_cases hlt : (k : Int) < 64
    · have PL := fun W => place_any b off cap k W hlt hc
      have GT := fun W h => nget_any (some ⟨b, off + 4 * k, none⟩) (nmP l k) (cap - 4 * k) W h
      rw [show (nmP l k).length = 4 by unfold nmP; rw [List.length_take, List.length_drop, HL.out]; omega] at GT
      have hand := nm_and l k
      have h1 := nmv_lo l k
      have h2 := nmv_hi l k
      have HP : Hid (Src wr (some ⟨b, off + 4 * k, none⟩) (nmP l k)) := (HS.out.below HB.out (Nat.le_refl _)).part (4 * k) 4 (by rw [HL.out]; omega) (by rw [HL.out]; omega)
      have HST : Hid ((nmS l k).set k (nmv l k) = nmS l (k + 1)) := nmS_set l (by omega)
      have HZ : Hid ((nmS l k).getD k 0 = 0) := nmS_getD l (by omega)
      have HLN : Hid ((nmS l k).length = 64) := nmS_length l (by omega)
      generalize nmv l k = x at *
      generalize getNum (nmP l k) = y at *
      go_wp2_with (first | (go_at_call 28; refine (PL _).mono ?_; rintro e w1 ⟨rfl, rfl⟩) | (go_at_call 27; refine (GT _ HP.out).mono ?_; rintro e w2 ⟨rfl, hb2⟩; have HR2 : Hid (RowI w2 w.heap.size 3 (nmS l k)) := HR.out.up hb2; have HB2 : Hid (Below w.heap.size w w2) := HB.out.trans (hb2.mono HB.out.size); have hc2 : w2.cell? ⟨w.heap.size, k, none⟩ = some (.int .i64 0) := (HR2.out.cell k (by rw [HLN.out]; omega)).trans (by rw [HZ.out]); have hf2 := HR2.out.frozen k; clear hb2))
      go_roundw
      case rel => exact ⟨k + 1, by omega, by go_num, by have := HR2.out.set k x; rw [HST.out] at this; exact this, HB2.out.setCell (Nat.le_refl _) _⟩
      case measure => simp [intOf]; omega
    · obtain rfl : k = 64 := by omega
      go_wp2
      go_ret2
      refine ⟨w.heap.size, rfl, ?_, Nat.le_refl _, HB.out⟩
      have := HR.out; rw [nmS_last] at this; exact this
end Go.Proofs.Ytohidgfeainlfaa
