/- num.Lay. -/
import Derived.Test.YtmedfjodkeplfaaDoorCut
namespace Go.Proofs.YtmedfjodkeplfaaDoor
open Go.RowKit
/-- What Lay answers. -/
def layL (l : List UInt8) (f : Int) (c : List UInt8) : List UInt8 := if inB l.length f c.length then l.take f.toNat ++ c ++ l.drop (f.toNat + c.length) else []
set_option maxHeartbeats 1000000 in
theorem lay_any (sp sc : Option Addr) (l c : List UInt8) (cap cc : Nat) (f : Int) (w : World) (hs : Src w sp l) (hsc : Src w sc c) (hl : l.length ≤ 140737488355328) (hcl : c.length ≤ 140737488355328) (hf : -9223372036854775808 ≤ f ∧ f ≤ 9223372036854775807) :
    Calls Tryd.prog 21 #[.slice sp l.length cap, .int .i64 f, .slice sc c.length cc] w fun e w' => ∃ v, e = .returned (.tuple #[v, .int .i64 (errR (inB l.length f c.length))]) ∧ Own w' w.heap.size v (layL l f c) ∧ Below w.heap.size w w' := by
  cases hin : inB l.length f c.length with
  | false =>
    go_enter Tryd.func21, Tryd.ntmps21
    go_wp2_with fail
    refine (within_any _ _ _ _ _ _ (by omega) hf).mono ?_
    rintro e w1 ⟨rfl, rfl⟩
    rw [hin]
    go_wp2
    go_ret2
    refine ⟨_, rfl, ?_, Below.refl _ _⟩
    rw [layL, hin]; exact Own.nil _ _
  | true =>
    have hin' := hin
    simp [inB] at hin'
    obtain ⟨F, rfl⟩ := Int.eq_ofNat_of_zero_le hin'.1.1
    have hL : layL l F c = l.take F ++ c ++ l.drop (F + c.length) := by rw [layL, hin]; simp
    have hLl : (layL l F c).length = l.length := by rw [hL]; simp; omega
    have hmk := make_any w l.length l.length (Nat.le_refl _) (by omega)
    have hg0 : Blk (w.alloc (.cells (bvs (List.replicate l.length 0)).toArray 5)) w.heap.size 5 (List.replicate l.length 0) := heap_alloc_new _ _
    have hb0 : Below w.heap.size w (w.alloc (.cells (bvs (List.replicate l.length 0)).toArray 5)) := (Below.refl _ _).alloc (Nat.le_refl _) _
    obtain ⟨w1, hrun, hg1, hb1, hz1⟩ := copy_any (off := 0) (dLen := l.length) l.length l.length cap hg0 (hs.below hb0 (Nat.le_refl _)) rfl (by simp)
    have e1 : List.take 0 (List.replicate l.length (0 : UInt8)) ++ l.take l.length ++ List.drop (0 + min l.length l.length) (List.replicate l.length 0) = l := by simp
    rw [e1] at hg1
    rw [Nat.min_self] at hrun
    have hb2 := hb0.trans hb1
    have hsc1 := hsc.below hb2 (Nat.le_refl _)
    have hlt := hg1.lt
    rcases (show (F : Int) = l.length ∨ (F : Int) < l.length by omega) with hc | hc
    · have hc0 : c = [] := List.eq_nil_of_length_eq_zero (by omega)
      have hF : F = l.length := by omega
      have hown : Own w1 w.heap.size (.slice (some ⟨w.heap.size, 0, none⟩) l.length l.length) (layL l F c) := by
        have := hg1.own (Nat.le_refl _) hl
        rw [hL, hc0, hF]; simpa using this
      have hcn := run_copy_none (P := Tryd.prog) w1 23 23 3 5 (some ⟨w.heap.size, 0, none⟩) sc 0 0 c.length cc Tryd.underlying23 Tryd.elem1 (by simp)
      subst hF
      clear hc hc0 hL hLl e1 hg1 hg0
      go_enter Tryd.func21, Tryd.ntmps21
      go_wp2_with fail
      refine (within_any _ _ _ _ _ _ (by omega) hf).mono ?_
      rintro e w2 ⟨rfl, rfl⟩
      rw [hin]
      go_wp2
      go_ret2
      exact ⟨_, rfl, hown, hb2⟩
    · obtain ⟨w2, hrun2, hg2, hb3, hz2⟩ := copy_any (off := F) (dLen := l.length - F) (l.length - F) c.length cc hg1 hsc1 rfl (by omega)
      have hown : Own w2 w.heap.size (.slice (some ⟨w.heap.size, 0, none⟩) l.length l.length) (layL l F c) := by
        have e2 : l.take F ++ c.take (l.length - F) ++ l.drop (F + min c.length (l.length - F)) = layL l F c := by
          rw [hL, List.take_of_length_le (l := c) (by omega), Nat.min_eq_left (by omega)]
        rw [e2] at hg2
        have := hg2.own (Nat.le_refl _) (by omega)
        rw [hLl] at this; exact this
      clear hL hLl e1 hg1 hg0 hg2
      go_enter Tryd.func21, Tryd.ntmps21
      go_wp2_with fail
      refine (within_any _ _ _ _ _ _ (by omega) hf).mono ?_
      rintro e w3 ⟨rfl, rfl⟩
      rw [hin]
      go_wp2
      go_ret2
      exact ⟨_, rfl, hown, hb2.trans hb3⟩
end Go.Proofs.YtmedfjodkeplfaaDoor
