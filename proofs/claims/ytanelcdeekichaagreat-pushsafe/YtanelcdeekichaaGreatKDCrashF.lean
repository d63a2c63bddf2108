/- What DCrashF of the disk leaves as it was. -/
import Derived.Test.YtanelcdeekichaaGreatJDOpen4
namespace Go.Proofs.YtanelcdeekichaaGreat
open Go.RowKit
set_option maxRecDepth 100000
section
variable {w : World} {base p n : Nat} {en : Bool} {lf : Int} {sf : Nat → List UInt8} {ws : Nat → List (List UInt8)} {q : Nat} {vs : Nat → Value}
set_option maxHeartbeats 2000000 in
theorem crash_fr (h : DiskAt w base p n en lf sf ws q vs) (sp : Option Addr) (m cap : Nat) (pk : Nat → Int) (hpk : PickAt w q sp m pk) (hm : m ≤ cap ∧ (cap : Int) ≤ 9223372036854775807) (L : List Nat) (hL : L = openL ws n) :
    Calls Tryz.prog 30 #[.pointer (some ⟨p, 0, none⟩), .slice sp m cap] w fun e w' => e = .returned (.tuple #[]) ∧ (∃ vs', DiskAt w' base p n false 0 (setS L (keepN m pk) sf ws L.length).1 (setS L (keepN m pk) sf ws L.length).2 q vs' ∧ VN vs vs') ∧ Below base w w' ∧ Fr (PQ p q) w w' := by
  have hLl := openL_lt ws n
  have hLn : L.length ≤ n := by rw [hL]; exact openL_len ws n
  rw [← hL] at hLl
  have OPEN := open_any h
  rw [← hL] at OPEN
  have H : Hid _ := h
  clear hL h
  go_enter Tryz.func30, Tryz.ntmps30
  go_wp2_with fail
  refine OPEN.mono ?_
  rintro e w3 ⟨v, rfl, hown, hb3⟩
  clear OPEN
  have h3 := H.out.below hb3 (Nat.le_refl _)
  have hq2 := H.out.ql
  have hqb := H.out.qb
  have hb03 : Below base w w3 := hb3.mono (by omega)
  have hpk3 := hpk.below hb3
  have hnn := H.out.nn
  have HF3 : Hid (Fr (PQ p q) w w3) := Fr.of_below hb3
  obtain ⟨ao, ac, rfl, hac, hao, _⟩ := hown.form
  clear H hpk
  have H3 : Hid _ := h3
  have HP : Hid _ := hpk3
  clear h3 hpk3
  go_wp2
  go_loopw [12] (fun i wr => ∃ k : Nat, k ≤ L.length ∧ i = .int .i64 k ∧ (∃ vs', DiskAt wr base p n en lf (setS L (keepN m pk) sf ws k).1 (setS L (keepN m pk) sf ws k).2 q vs' ∧ VN vs vs') ∧ OwnNt wr w.heap.size (.slice ao L.length ac) L ∧ PickAt wr q sp m pk ∧ Below base w wr ∧ Hid (Fr (PQ p q) w wr)) (fun i _ => L.length - (intOf i).toNat)
  case atStart => exact ⟨0, by omega, rfl, ⟨_, H3.out, fun _ => .inl rfl⟩, hown, HP.out, hb03, HF3⟩
  case round =>
    clear H3 HP hown
    obtain ⟨k, hk, rfl, ⟨vs', hD, hV⟩, hO, hP, hbw, HFW⟩ := hrel
    have HV : Hid (VN vs vs') := hV
    clear hV
    by_cases hlt : (k : Int) < L.length
    · obtain ⟨g, rfl⟩ := hao (by omega)
      obtain ⟨ao', ac', e, _, _, hcell⟩ := hO.form
      cases e
      have cL := hcell k (by omega) g rfl
      clear hcell
      have hb : L.getD k 0 < n := by
        have hk' : k < L.length := by omega
        have hm : L.getD k 0 ∈ L := by rw [List.getD_eq_getElem?_getD, List.getElem?_eq_getElem hk']; exact List.getElem_mem hk'
        exact (hLl _ hm).1
      have hsucc : Hid (setS L (keepN m pk) sf ws (k + 1) = (upd (setS L (keepN m pk) sf ws k).1 (L.getD k 0) (lastOf ((setS L (keepN m pk) sf ws k).1 (L.getD k 0)) (((setS L (keepN m pk) sf ws k).2 (L.getD k 0)).take (keepN m pk k ((setS L (keepN m pk) sf ws k).2 (L.getD k 0))))), upd (setS L (keepN m pk) sf ws k).2 (L.getD k 0) [])) := rfl
      obtain ⟨cq, hcq1, hcq2, c0⟩ := hD.c0
      have hqs := hD.ql
      have HO : Hid _ := hO
      have HP : Hid _ := hP
      have HD : Hid _ := hD
      by_cases hkm : k < m
      · have hkm' : (k : Int) < m := by omega
        obtain ⟨gp, op, rfl, _, _, hpc⟩ := hP (by omega)
        have cP := hpc k hkm
        clear hpc
        have WR := writes_any hD.drew (L.getD k 0) hb
        have ST := settle_any hD.drew (L.getD k 0) hb _ (keepN_le m pk k _)
        have hcase : (pk k < 0 ∧ ((keepN m pk k ((setS L (keepN m pk) sf ws k).2 (L.getD k 0)) : Nat) : Int) = 0) ∨ (¬ pk k < 0 ∧ ¬ ((((setS L (keepN m pk) sf ws k).2 (L.getD k 0)).length : Nat) : Int) < pk k ∧ ((keepN m pk k ((setS L (keepN m pk) sf ws k).2 (L.getD k 0)) : Nat) : Int) = pk k) ∨ (¬ pk k < 0 ∧ ((((setS L (keepN m pk) sf ws k).2 (L.getD k 0)).length : Nat) : Int) < pk k ∧ ((keepN m pk k ((setS L (keepN m pk) sf ws k).2 (L.getD k 0)) : Nat) : Int) = ((((setS L (keepN m pk) sf ws k).2 (L.getD k 0)).length : Nat) : Int)) := by
          unfold keepN; rw [if_pos hkm]; omega
        have hl0 : ¬ ((((setS L (keepN m pk) sf ws k).2 (L.getD k 0)).length : Nat) : Int) < 0 := by omega
        clear hO hP hD
        rcases hcase with ⟨hc1, hc3⟩ | ⟨hc1, hc2, hc3⟩ | ⟨hc1, hc2, hc3⟩
        all_goals
          rw [hc3] at ST
          generalize L.getD k 0 = b at *
          clear hc3
          go_wp2_with fail
          go_region_with (first | (go_at_call 87; refine WR.mono ?_; rintro e w4 ⟨rfl, rfl⟩))
        all_goals
          clear WR
          go_wp2_with fail
          refine ST.mono ?_
          rintro e w4 ⟨rfl, h4, he4⟩
        all_goals
          have hD4 : ∃ vs', DiskAt w4 base p n en lf (setS L (keepN m pk) sf ws (k + 1)).1 (setS L (keepN m pk) sf ws (k + 1)).2 q vs' ∧ VN vs vs' := ⟨_, by rw [hsucc.out]; exact h4, HV.out.upd b⟩
          have HF4 : Hid (Fr (PQ p q) w w4) := HFW.out.drew.trans (Fr.of_edit he4 (.inr rfl))
          have hO4 : OwnNt w4 w.heap.size (.slice (some ⟨g, 0, none⟩) L.length ac) L := own_edit he4 (show OwnNt wr.drew w.heap.size (.slice (some ⟨g, 0, none⟩) L.length ac) L from HO.out) hq2
          have hb4 : Below base w w4 := hbw.drew.trans (he4.below hqb (by have := HD.out.ql; show base ≤ wr.heap.size; omega))
          have HP4 : Hid (PickAt w4 q (some ⟨gp, op, none⟩) m pk) := PickAt.edit (show PickAt wr.drew q (some ⟨gp, op, none⟩) m pk from HP.out) he4
          clear h4 he4 ST HO HD HP hsucc hbw
          go_wp2
          go_roundw
          case rel => exact ⟨k + 1, by omega, by go_num, hD4, hO4, HP4.out, hb4, HF4⟩
          case measure => simp [intOf]; omega
      · have hkm' : ¬ (k : Int) < m := by omega
        have ST := settle_any hD (L.getD k 0) hb _ (keepN_le m pk k _)
        have hkeep : Hid (keepN m pk k ((setS L (keepN m pk) sf ws k).2 (L.getD k 0)) = 0) := by
          unfold keepN; rw [if_neg hkm]; rfl
        rw [hkeep.out] at ST
        clear hO hP hD
        generalize L.getD k 0 = b at *
        go_wp2_with fail
        refine ST.mono ?_
        rintro e w4 ⟨rfl, h4, he4⟩
        have hD4 : ∃ vs', DiskAt w4 base p n en lf (setS L (keepN m pk) sf ws (k + 1)).1 (setS L (keepN m pk) sf ws (k + 1)).2 q vs' ∧ VN vs vs' := ⟨_, by rw [hsucc.out, hkeep.out]; exact h4, HV.out.upd b⟩
        have HF4 : Hid (Fr (PQ p q) w w4) := HFW.out.trans (Fr.of_edit he4 (.inr rfl))
        have hO4 : OwnNt w4 w.heap.size (.slice (some ⟨g, 0, none⟩) L.length ac) L := own_edit he4 HO.out hq2
        have hb4 : Below base w w4 := hbw.trans (he4.below hqb (by have := HD.out.ql; omega))
        have hP4 := PickAt.edit HP.out he4
        have HP4 : Hid _ := hP4
        clear h4 he4 ST HO HD HP hP4 hsucc hbw hkeep
        go_wp2
        go_roundw
        case rel => exact ⟨k + 1, by omega, by go_num, hD4, hO4, HP4.out, hb4, HF4⟩
        case measure => simp [intOf]; omega
    · obtain rfl : k = L.length := by omega
      have f1 := hD.fp 1
      have f2 := hD.fp 2
      have c1 := hD.c1
      have c2 := hD.c2
      have hF := (hD.setEnd false).setLeft 0
      have hbF := (hbw.setCell hD.pb (p := ⟨p, 1, none⟩) (.bool false)).setCell hD.pb (p := ⟨p, 2, none⟩) (.int .i64 0)
      have HF : Hid _ := hF
      have HFE : Hid (Fr (PQ p q) w ((wr.setCell ⟨p, 1, none⟩ (.bool false)).setCell ⟨p, 2, none⟩ (.int .i64 0))) := (HFW.out.setCell p 1 _ (.inl rfl)).setCell p 2 _ (.inl rfl)
      clear hF hO hP hD
      go_wp2
      go_end0
      exact ⟨rfl, ⟨_, HF.out, HV.out⟩, hbF, HFE.out⟩
end
end Go.Proofs.YtanelcdeekichaaGreat
