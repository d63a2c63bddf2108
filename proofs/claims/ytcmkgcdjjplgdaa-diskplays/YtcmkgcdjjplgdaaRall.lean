/- The document's Bytes. -/
import Derived.Test.YtcmkgcdjjplgdaaRmore
namespace Go.Proofs.Ytcmkgcdjjplgdaa
open Go.RowKit
section
variable {w : World} {base r n : Nat} {held : Bool} {left : Int} {gb cb : Nat} {va vc : Nat → Nat} {sf : Nat → List UInt8} {ws : Nat → List (List UInt8)}
set_option maxHeartbeats 4000000 in
theorem rbytesd_any (h : RefW w base r n held left (fun i => sf i :: ws i) gb cb va vc) (y : Nat → List UInt8) (hy : ∀ i, i < n → y i = lastOf (sf i) (ws i)) (hyl : ∀ i, (y i).length = 256) :
    Calls Try.prog 17 #[.pointer (some ⟨r, 0, none⟩)] w fun e w' => ∃ v, e = .returned v ∧ Own w' w.heap.size v ((List.range n).flatMap y) ∧ Below w.heap.size w w' := by
  have hnn : (n : Int) ≤ 4096 := by have := h.at'.nn; omega
  have H : Hid _ := h
  have HY : Hid _ := hy
  clear h hy
  go_enter Try.func17, Try.ntmps17
  go_wp2_with fail
  go_loopw [3, 4] (fun v s wr => ∃ k : Nat, k ≤ n ∧ s = .int .i64 k ∧ Hid (Own wr w.heap.size v ((List.range k).flatMap y)) ∧ Hid (Below w.heap.size w wr)) (fun _ s _ => n - (intOf s).toNat)
  case atStart => exact ⟨0, by omega, rfl, Own.nil _ _, Below.refl _ _⟩
  case round =>
    obtain ⟨k, hk, rfl, HO, HB⟩ := hrel
    have R : RefW wr base r n held left (fun i => sf i :: ws i) gb cb va vc := H.out.below HB.out
    have c0 := R.at'.c0
    by_cases hlt : (k : Int) < n
    · have RD := rread_in R.at' k (by omega) (ws k).length (lastOf (sf k) (ws k)) (by simp) (lastOf_at (sf k) (ws k))
      rw [← HY.out k (by omega), hyl k] at RD
      have hlk := flat_length y hyl k
      have hz := HB.out.size
      clear R
      go_wp2_with fail
      refine RD.mono ?_
      rintro e w2 ⟨g, c, rfl, sg, hb2⟩
      have HO2 : Hid (Own w2 w.heap.size _ ((List.range k).flatMap y)) := HO.out.below hb2 (Nat.le_refl _)
      have HB2 : Hid (Below w.heap.size w w2) := HB.out.trans (hb2.mono hz)
      have hz2 := hb2.size
      clear RD c0 hb2 HO HB
      go_wp2_with (at_builtin; refine wpList_append_bytes rfl (.tmp 22) (.tmp 23) rfl w.heap.size ((List.range k).flatMap y) (y k) _ rfl _ _ _ rfl (hyl k).symm HO2.out sg (by omega) (by rw [hlk, hyl k]; omega) (fun h => by cases h) ?_; intro v3 w3 hO3 hb3)
      have HO3 : Hid (Own w3 w.heap.size v3 ((List.range (k + 1)).flatMap y)) := by
        show Own _ _ _ _
        rw [List.range_succ, List.flatMap_append]
        simpa using hO3
      have HB3 : Hid (Below w.heap.size w w3) := HB2.out.trans hb3
      clear hO3 hb3 HO2 HB2 sg
      go_roundw
      case rel => exact ⟨k + 1, by omega, by go_num, HO3, HB3⟩
      case measure => simp [intOf]; omega
    · obtain rfl : k = n := by omega
      clear R
      go_wp2_with fail
      go_ret
      exact ⟨_, rfl, HO.out, HB.out⟩
end
end Go.Proofs.Ytcmkgcdjjplgdaa
