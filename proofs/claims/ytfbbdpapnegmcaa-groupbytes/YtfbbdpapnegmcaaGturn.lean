/- turn and fill on the maps of a header. -/
import Derived.Test.YtfbbdpapnegmcaaGfree
namespace Go.Proofs.Ytfbbdpapnegmcaa
open Go.RowKit
theorem gb_setb' (l : List UInt8) (i j : Nat) (on : Bool) (hi : i < 8 * l.length) : gb (setb l i on) j = if j = i then on else gb l j := by
  have tb_same : ∀ (x k : Nat) (on : Bool), (tb x k on).testBit k = on := by
    intro x k on
    unfold tb
    split
    · assumption
    · rename_i h
      rw [Nat.testBit_xor, Nat.testBit_two_pow]
      cases hx : x.testBit k <;> cases on <;> simp_all
  have tb_other : ∀ (x k j : Nat) (on : Bool), j ≠ k → (tb x k on).testBit j = x.testBit j := by
    intro x k j on h
    unfold tb
    split
    · rfl
    · rw [Nat.testBit_xor, Nat.testBit_two_pow]
      have : decide (k = j) = false := by simp; omega
      rw [this]; simp
  have hi8 : i / 8 < l.length := by omega
  have key : ((setb l i on).getD (j / 8) 0).toNat = if j / 8 = i / 8 then tb (l.getD (i / 8) 0).toNat (i % 8) on else (l.getD (j / 8) 0).toNat := by
    unfold setb
    by_cases h : j / 8 = i / 8
    · rw [if_pos h, h]
      have hlt : tb (l.getD (i / 8) 0).toNat (i % 8) on < 256 := tb_lt _ _ _ (UInt8.toNat_lt _) (Nat.mod_lt _ (by omega))
      rw [show (l.set (i / 8) (UInt8.ofNat (tb (l.getD (i / 8) 0).toNat (i % 8) on))).getD (i / 8) 0 = UInt8.ofNat (tb (l.getD (i / 8) 0).toNat (i % 8) on) by simp [hi8]]
      exact UInt8.toNat_ofNat_of_lt' (by simpa using hlt)
    · rw [if_neg h]
      simp [Ne.symm h]
  unfold gb
  rw [key]
  by_cases h : j / 8 = i / 8
  · rw [if_pos h]
    by_cases e : j = i
    · subst e; rw [if_pos rfl, tb_same]
    · rw [if_neg e, tb_other _ _ _ _ (by omega), h]
  · rw [if_neg h, if_neg (by intro e; exact h (by rw [e]))]
section
variable {w : World} {p : Nat} {no : Int} {bl sl : List UInt8}
theorem HeadAt.rowAt (h : HeadAt w p no bl sl) : RowAt w p 28 (hL no bl sl) := h.row
theorem hL_midB (hb : bl.length = 16) : ((hL no bl sl).drop 1).take 16 = bvs bl := by
  show (bvs bl ++ bvs sl).take 16 = bvs bl
  rw [List.take_append_of_le_length (by rw [bvs_length]; omega), List.take_of_length_le (by rw [bvs_length]; omega)]
theorem hL_midS (hb : bl.length = 16) (hs : sl.length = 8) : ((hL no bl sl).drop 17).take 8 = bvs sl := by
  show ((bvs bl ++ bvs sl).drop 16).take 8 = bvs sl
  rw [List.drop_append_of_le_length (by rw [bvs_length]; omega), List.drop_of_length_le (by rw [bvs_length]; omega), List.nil_append, List.take_of_length_le (by rw [bvs_length]; omega)]
theorem hL_putB (hb : bl.length = 16) (x : List UInt8) : (hL no bl sl).take 1 ++ bvs x ++ (hL no bl sl).drop 17 = hL no x sl := by
  show ([Value.int .i64 no] ++ bvs x) ++ (bvs bl ++ bvs sl).drop 16 = Value.int .i64 no :: (bvs x ++ bvs sl)
  rw [List.drop_append_of_le_length (by rw [bvs_length]; omega), List.drop_of_length_le (by rw [bvs_length]; omega)]
  simp
theorem hL_putS (hb : bl.length = 16) (hs : sl.length = 8) (x : List UInt8) : (hL no bl sl).take 17 ++ bvs x ++ (hL no bl sl).drop 25 = hL no bl x := by
  show (Value.int .i64 no :: (bvs bl ++ bvs sl).take 16 ++ bvs x) ++ (bvs bl ++ bvs sl).drop 24 = Value.int .i64 no :: (bvs bl ++ bvs x)
  rw [List.take_append_of_le_length (by rw [bvs_length]; omega), List.take_of_length_le (by rw [bvs_length]; omega), List.drop_of_length_le (by simp [bvs_length]; omega)]
  simp
theorem turnB_any (h : HeadAt w p no bl sl) (k : Nat) (on : Bool) (hk : k < 128) :
    Calls Try.prog 44 #[.slice (some ⟨p, 1, none⟩) 16 16, .int .i64 k, .bool on] w fun e w' => e = .returned (.tuple #[]) ∧ HeadAt w' p no (setb bl k on) sl ∧ Below p w w' := by
  have hb := h.lb
  have t := turn_any p 1 16 k 28 (hL no bl sl) bl on w h.rowAt (by rw [hb]; exact hL_midB hb) (by rw [hL_length hb h.ls, hb]; omega) (by omega) (by omega)
  rw [hb, hL_putB hb] at t
  exact t.mono fun _ _ ⟨h1, h2, h3⟩ => ⟨h1, ⟨h2, by rw [setb_length]; exact hb, h.ls⟩, h3⟩
theorem turnS_any (h : HeadAt w p no bl sl) (k : Nat) (on : Bool) (hk : k < 64) :
    Calls Try.prog 44 #[.slice (some ⟨p, 17, none⟩) 8 8, .int .i64 k, .bool on] w fun e w' => e = .returned (.tuple #[]) ∧ HeadAt w' p no bl (setb sl k on) ∧ Below p w w' := by
  have hb := h.lb
  have hs := h.ls
  have t := turn_any p 17 8 k 28 (hL no bl sl) sl on w h.rowAt (by rw [hs]; exact hL_midS hb hs) (by rw [hL_length hb hs, hs]; omega) (by omega) (by omega)
  rw [hs, hL_putS hb hs] at t
  exact t.mono fun _ _ ⟨h1, h2, h3⟩ => ⟨h1, ⟨h2, hb, by rw [setb_length]; exact hs⟩, h3⟩
theorem fillB_any (h : HeadAt w p no bl sl) (k : Nat) (hk : k ≤ 128) :
    Calls Try.prog 37 #[.slice (some ⟨p, 1, none⟩) 16 16, .int .i64 k] w fun e w' => e = .returned (.tuple #[]) ∧ HeadAt w' p no (fillb bl k) sl ∧ Below p w w' := by
  have hb := h.lb
  have t := fill_any p 1 16 k 28 (hL no bl sl) bl w h.rowAt (by rw [hb]; exact hL_midB hb) (by rw [hL_length hb h.ls, hb]; omega) (by omega) (by omega)
  rw [hb, hL_putB hb] at t
  exact t.mono fun _ _ ⟨h1, h2, h3⟩ => ⟨h1, ⟨h2, by rw [fillb_length]; exact hb, h.ls⟩, h3⟩
theorem fillS_any (h : HeadAt w p no bl sl) (k : Nat) (hk : k ≤ 64) :
    Calls Try.prog 37 #[.slice (some ⟨p, 17, none⟩) 8 8, .int .i64 k] w fun e w' => e = .returned (.tuple #[]) ∧ HeadAt w' p no bl (fillb sl k) ∧ Below p w w' := by
  have hb := h.lb
  have hs := h.ls
  have t := fill_any p 17 8 k 28 (hL no bl sl) sl w h.rowAt (by rw [hs]; exact hL_midS hb hs) (by rw [hL_length hb hs, hs]; omega) (by omega) (by omega)
  rw [hs, hL_putS hb hs] at t
  exact t.mono fun _ _ ⟨h1, h2, h3⟩ => ⟨h1, ⟨h2, hb, by rw [fillb_length]; exact hs⟩, h3⟩
end
end Go.Proofs.Ytfbbdpapnegmcaa
