/- What DFlush of the disk leaves as it was. -/
import Derived.Test.YtaljaledeljllaaGreatJDOpen3
namespace Go.Proofs.YtaljaledeljllaaGreat
open Go.RowKit
set_option maxRecDepth 100000
/-- The disk's own two blocks. -/
def PQ (p q : Nat) : Nat → Prop := fun k => k = p ∨ k = q
/-- Each list of writes is as it was, or nil. -/
def VN (vs vs' : Nat → Value) : Prop := ∀ i, vs' i = vs i ∨ vs' i = .slice none 0 0
theorem VN.upd {vs vs' : Nat → Value} (h : VN vs vs') (i : Nat) : VN vs (upd vs' i (.slice none 0 0)) := by
  intro j
  unfold Go.Proofs.YtaljaledeljllaaGreat.upd
  split
  · exact .inr rfl
  · exact h j
section
variable {w : World} {base p n : Nat} {en : Bool} {lf : Int} {sf : Nat → List UInt8} {ws : Nat → List (List UInt8)} {q : Nat} {vs : Nat → Value}
set_option maxHeartbeats 2000000 in
theorem flush_fr (h : DiskAt w base p n en lf sf ws q vs) (hl : 0 ≤ lf ∧ lf ≤ 9223372036854775807) (hg : goesB en lf = true) (L : List Nat) (hL : L = openL ws n) :
    Calls Tryz.prog 113 #[.pointer (some ⟨p, 0, none⟩)] w fun e w' => e = .returned (.int .i64 0) ∧ (∃ vs', DiskAt w' base p n en (goesL en lf) (setS L (fun _ l => l.length) sf ws L.length).1 (setS L (fun _ l => l.length) sf ws L.length).2 q vs' ∧ VN vs vs') ∧ Below base w w' ∧ Fr (PQ p q) w w' := by
  have GOES := goes_any h hl
  rw [hg] at GOES
  have hLl := openL_lt ws n
  have hLn : L.length ≤ n := by rw [hL]; exact openL_len ws n
  rw [← hL] at hLl
  have HL : Hid _ := hL
  clear hL
  clear h
  go_enter Tryz.func113, Tryz.ntmps113
  go_wp2_with fail
  refine GOES.mono ?_
  rintro e w2 ⟨rfl, h2, hb2, hz2, hk2⟩
  have HF2 : Hid (Fr (PQ p q) w w2) := ⟨by omega, fun k _ hS => hk2 k fun e => hS (.inl e)⟩
  clear hz2 hk2
  clear GOES
  have OPEN := open_any h2
  rw [← HL.out] at OPEN
  go_wp2_with fail
  refine OPEN.mono ?_
  rintro e w3 ⟨v, rfl, hown, hb3⟩
  clear OPEN
  have h3 := h2.below hb3 (Nat.le_refl _)
  have hq2 := h2.ql
  have hqb := h2.qb
  have hb03 : Below base w w3 := hb2.trans (hb3.mono (by omega))
  have hnn := h2.nn
  have HF3 : Hid (Fr (PQ p q) w w3) := HF2.out.trans (Fr.of_below hb3)
  obtain ⟨ao, ac, rfl, hac, hao, _⟩ := hown.form
  clear h2 hb2
  have H3 : Hid _ := h3
  clear h3
  go_wp2
  go_loopw [12] (fun i wr => ∃ k : Nat, k ≤ L.length ∧ i = .int .i64 k ∧ (∃ vs', DiskAt wr base p n en (goesL en lf) (setS L (fun _ l => l.length) sf ws k).1 (setS L (fun _ l => l.length) sf ws k).2 q vs' ∧ VN vs vs') ∧ OwnNt wr w2.heap.size (.slice ao L.length ac) L ∧ Below base w wr ∧ Hid (Fr (PQ p q) w wr)) (fun i _ => L.length - (intOf i).toNat)
  case atStart => exact ⟨0, by omega, rfl, ⟨_, H3.out, fun _ => .inl rfl⟩, hown, hb03, HF3⟩
  case round =>
    obtain ⟨k, hk, rfl, ⟨vs', hD, hV⟩, hO, hbw, HFW⟩ := hrel
    have HV : Hid (VN vs vs') := hV
    clear hV
    by_cases hlt : (k : Int) < L.length
    · obtain ⟨g, rfl⟩ := hao (by omega)
      obtain ⟨ao', ac', e, _, _, hcell⟩ := hO.form
      cases e
      have cL := hcell k (by omega) g rfl
      clear hcell
      have hb : L.getD k 0 < n := by
        have hk' : k < L.length := by omega
        have hm : L.getD k 0 ∈ L := by rw [List.getD_eq_getElem?_getD, List.getElem?_eq_getElem hk']; exact List.getElem_mem hk'
        exact (hLl _ hm).1
      have WR := writes_any hD.drew (L.getD k 0) hb
      have ST := settle_any hD.drew (L.getD k 0) hb _ (Nat.le_refl _)
      obtain ⟨cq, hcq1, hcq2, c0⟩ := hD.c0
      have hsucc : Hid (setS L (fun _ l => l.length) sf ws (k + 1) = (upd (setS L (fun _ l => l.length) sf ws k).1 (L.getD k 0) (lastOf ((setS L (fun _ l => l.length) sf ws k).1 (L.getD k 0)) (((setS L (fun _ l => l.length) sf ws k).2 (L.getD k 0)).take ((setS L (fun _ l => l.length) sf ws k).2 (L.getD k 0)).length)), upd (setS L (fun _ l => l.length) sf ws k).2 (L.getD k 0) [])) := rfl
      generalize L.getD k 0 = b at *
      have hqs := hD.ql
      have hqB : q < w2.heap.size := by omega
      have HO : Hid _ := hO
      have HD : Hid _ := hD
      clear hO hD
      go_wp2_with fail
      go_region_with (first | (go_at_call 87; refine WR.mono ?_; rintro e w4 ⟨rfl, rfl⟩) | (go_at_call 88; refine ST.mono ?_; rintro e w4 ⟨rfl, h4, he4⟩))
      all_goals
        have hD4 : ∃ vs', DiskAt w4 base p n en (goesL en lf) (setS L (fun _ l => l.length) sf ws (k + 1)).1 (setS L (fun _ l => l.length) sf ws (k + 1)).2 q vs' ∧ VN vs vs' := ⟨_, by rw [hsucc.out]; exact h4, HV.out.upd b⟩
        have HF4 : Hid (Fr (PQ p q) w w4) := HFW.out.drew.trans (Fr.of_edit he4 (.inr rfl))
        have hO4 : OwnNt w4 w2.heap.size (.slice (some ⟨g, 0, none⟩) L.length ac) L := own_edit he4 (show OwnNt wr.drew w2.heap.size (.slice (some ⟨g, 0, none⟩) L.length ac) L from HO.out) hqB
        have hb4 : Below base w w4 := (hbw.drew).trans (he4.below hqb (by have := HD.out.ql; show base ≤ wr.heap.size; omega))
        clear h4 he4 WR ST HO HD hsucc hbw
        go_wp2
        go_roundw
        case rel => exact ⟨k + 1, by omega, by go_num, hD4, hO4, hb4, HF4⟩
        case measure => simp [intOf]; omega
    · obtain rfl : k = L.length := by omega
      go_wp2
      go_ret
      exact ⟨rfl, ⟨_, hD, HV.out⟩, hbw, HFW.out⟩
end
end Go.Proofs.YtaljaledeljllaaGreat
