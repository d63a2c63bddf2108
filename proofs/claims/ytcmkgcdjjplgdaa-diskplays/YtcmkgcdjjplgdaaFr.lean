/- What Flush, Crash and Write of the disk leave as it was. -/
import Derived.Test.YtcmkgcdjjplgdaaSameWalk
import Derived.Test.YtcmkgcdjjplgdaaCalls
namespace Go.Proofs.Ytcmkgcdjjplgdaa
open Go.RowKit
/-- Of what was there nothing but the blocks S has changed. -/
structure Fr (S : Nat → Prop) (w w' : World) : Prop where
  size : w.heap.size ≤ w'.heap.size
  blk : ∀ k, k < w.heap.size → ¬ S k → w'.heap[k]? = w.heap[k]?
  os : w'.os = w.os
  tape : w'.tape = w.tape
  output : w'.output = w.output
theorem Fr.refl (S : Nat → Prop) (w : World) : Fr S w w := ⟨Nat.le_refl _, fun _ _ _ => rfl, rfl, rfl, rfl⟩
theorem Fr.trans {S : Nat → Prop} {a b c : World} (h : Fr S a b) (k : Fr S b c) : Fr S a c := ⟨by have := h.size; have := k.size; omega, fun j hj hS => (k.blk j (by have := h.size; omega) hS).trans (h.blk j hj hS), k.os.trans h.os, k.tape.trans h.tape, k.output.trans h.output⟩
theorem Fr.mono {S T : Nat → Prop} {a b : World} (h : Fr S a b) (hS : ∀ k, k < a.heap.size → S k → T k) : Fr T a b := ⟨h.size, fun k hk hT => h.blk k hk fun hs => hT (hS k hk hs), h.os, h.tape, h.output⟩
theorem Fr.of_below {S : Nat → Prop} {a b : World} (h : Below a.heap.size a b) : Fr S a b := ⟨h.size, fun k hk _ => h.block k hk, h.os, h.tape, h.output⟩
theorem Fr.drew {S : Nat → Prop} {a b : World} (h : Fr S a b) : Fr S a b.drew := ⟨h.size, h.blk, h.os, h.tape, h.output⟩
theorem Fr.of_edit {S : Nat → Prop} {a b : World} {q o len : Nat} (h : Edit a b q o len) (hq : S q) : Fr S a b := ⟨h.size, fun k hk hS => h.block k hk fun e => hS (by rw [e]; exact hq), h.os, h.tape, h.output⟩
theorem Fr.setCell {S : Nat → Prop} {a b : World} (h : Fr S a b) (p o : Nat) (v : Value) (hp : S p) : Fr S a (b.setCell ⟨p, o, none⟩ v) := ⟨by have := h.size; simp [World.setCell]; omega, fun k hk hS => (heap_setCell_other b ⟨p, o, none⟩ k v (fun e => hS (by rw [e]; exact hp))).trans (h.blk k hk hS), h.os, h.tape, h.output⟩
theorem Fr.below {S : Nat → Prop} {a b : World} {B : Nat} (h : Fr S a b) (hB : B ≤ a.heap.size) (hS : ∀ k, S k → B ≤ k) : Below B a b := ⟨h.os, h.tape, h.output, h.size, fun k hk => h.blk k (by omega) fun c => by have := hS k c; omega⟩
/-- The disk's own two blocks. -/
def PQ (p q : Nat) : Nat → Prop := fun k => k = p ∨ k = q
/-- Each list of writes is as it was, or nil; nil are those of the first k of L. -/
def VN (L : List Nat) (k : Nat) (vs vs' : Nat → Value) : Prop := (∀ i, vs' i = vs i ∨ vs' i = .slice none 0 0) ∧ ∀ i ∈ L.take k, vs' i = .slice none 0 0
theorem VN.upd {L : List Nat} {k b : Nat} {vs vs' : Nat → Value} (h : VN L k vs vs') (hb : L[k]? = some b) : VN L (k + 1) vs (upd vs' b (.slice none 0 0)) := by
  refine ⟨fun i => ?_, fun i hi => ?_⟩
  · by_cases hi : i = b
    · subst hi; exact .inr (upd_same _ _ _)
    · rw [upd_other _ _ _ hi]; exact h.1 i
  · by_cases hib : i = b
    · subst hib; exact upd_same _ _ _
    · rw [upd_other _ _ _ hib]
      rw [List.take_add_one, hb] at hi
      rcases List.mem_append.1 hi with hi | hi
      · exact h.2 i hi
      · simp at hi; exact absurd hi hib
section
variable {w : World} {base p n : Nat} {en : Bool} {lf : Int} {sf : Nat → List UInt8} {ws : Nat → List (List UInt8)} {q : Nat} {vs : Nat → Value}
set_option maxHeartbeats 2000000 in
theorem flush_fr (h : DiskAt w base p n en lf sf ws q vs) (hl : 0 ≤ lf ∧ lf ≤ 9223372036854775807) (hg : goesB en lf = true) (L : List Nat) (hL : L = openL ws n) :
    Calls Try.prog 24 #[.pointer (some ⟨p, 0, none⟩)] w fun e w' => e = .returned (.int .i64 0) ∧ (∃ vs', DiskAt w' base p n en (goesL en lf) (setS L (fun _ l => l.length) sf ws L.length).1 (setS L (fun _ l => l.length) sf ws L.length).2 q vs' ∧ VN L L.length vs vs') ∧ Below base w w' ∧ Fr (PQ p q) w w' := by
  have GOES := goes_any h hl
  rw [hg] at GOES
  have hLl := openL_lt ws n
  have hLn : L.length ≤ n := by rw [hL]; exact openL_len ws n
  rw [← hL] at hLl
  have HL : Hid _ := hL
  clear hL
  clear h
  go_enter Try.func24, Try.ntmps24
  go_wp2_with fail
  refine GOES.mono ?_
  rintro e w2 ⟨rfl, h2, hb2, hz2, hk2⟩
  have HF2 : Hid (Fr (PQ p q) w w2) := ⟨by omega, fun k _ hS => hk2 k fun e => hS (.inl e), hb2.os, hb2.tape, hb2.output⟩
  clear hz2 hk2
  clear GOES
  have OPEN := open_any h2
  rw [← HL.out] at OPEN
  go_wp2_with fail
  refine OPEN.mono ?_
  rintro e w3 ⟨v, rfl, hown, hb3⟩
  clear OPEN
  have h3 := h2.below hb3 (Nat.le_refl _)
  have hq2 := h2.ql
  have hqb := h2.qb
  have hb03 : Below base w w3 := hb2.trans (hb3.mono (by omega))
  have hnn := h2.nn
  have HF3 : Hid (Fr (PQ p q) w w3) := HF2.out.trans (Fr.of_below hb3)
  obtain ⟨ao, ac, rfl, hac, hao, _⟩ := hown.form
  clear h2 hb2
  have H3 : Hid _ := h3
  clear h3
  go_wp2
  go_loopw [12] (fun i wr => ∃ k : Nat, k ≤ L.length ∧ i = .int .i64 k ∧ (∃ vs', DiskAt wr base p n en (goesL en lf) (setS L (fun _ l => l.length) sf ws k).1 (setS L (fun _ l => l.length) sf ws k).2 q vs' ∧ VN L k vs vs') ∧ OwnI wr w2.heap.size (.slice ao L.length ac) L ∧ Below base w wr ∧ Hid (Fr (PQ p q) w wr)) (fun i _ => L.length - (intOf i).toNat)
  case atStart => exact ⟨0, by omega, rfl, ⟨_, H3.out, fun _ => .inl rfl, fun i hi => by simp at hi⟩, hown, hb03, HF3⟩
  case round =>
    obtain ⟨k, hk, rfl, ⟨vs', hD, hV⟩, hO, hbw, HFW⟩ := hrel
    have HV : Hid (VN L k vs vs') := hV
    clear hV
    by_cases hlt : (k : Int) < L.length
    · obtain ⟨g, rfl⟩ := hao (by omega)
      obtain ⟨ao', ac', e, _, _, hcell⟩ := hO.form
      cases e
      have cL := hcell k (by omega) g rfl
      clear hcell
      have HLK : Hid (L[k]? = some (L.getD k 0)) := by show _ = _; rw [List.getD_eq_getElem?_getD, List.getElem?_eq_getElem (show k < L.length by omega)]; rfl
      have hb : L.getD k 0 < n := by
        have hk' : k < L.length := by omega
        have hm : L.getD k 0 ∈ L := by rw [List.getD_eq_getElem?_getD, List.getElem?_eq_getElem hk']; exact List.getElem_mem hk'
        exact (hLl _ hm).1
      have WR := writes_any hD.drew (L.getD k 0) hb
      have ST := settle_any hD.drew (L.getD k 0) hb _ (Nat.le_refl _)
      obtain ⟨cq, hcq1, hcq2, c0⟩ := hD.c0
      have hsucc : Hid (setS L (fun _ l => l.length) sf ws (k + 1) = (upd (setS L (fun _ l => l.length) sf ws k).1 (L.getD k 0) (lastOf ((setS L (fun _ l => l.length) sf ws k).1 (L.getD k 0)) (((setS L (fun _ l => l.length) sf ws k).2 (L.getD k 0)).take ((setS L (fun _ l => l.length) sf ws k).2 (L.getD k 0)).length)), upd (setS L (fun _ l => l.length) sf ws k).2 (L.getD k 0) [])) := rfl
      generalize L.getD k 0 = b at *
      have hqs := hD.ql
      have hqB : q < w2.heap.size := by omega
      have HO : Hid _ := hO
      have HD : Hid _ := hD
      clear hO hD
      go_wp2_with fail
      go_region_with (first | (go_at_call 30; refine WR.mono ?_; rintro e w4 ⟨rfl, rfl⟩) | (go_at_call 36; refine ST.mono ?_; rintro e w4 ⟨rfl, h4, he4⟩))
      all_goals
        have hD4 : ∃ vs', DiskAt w4 base p n en (goesL en lf) (setS L (fun _ l => l.length) sf ws (k + 1)).1 (setS L (fun _ l => l.length) sf ws (k + 1)).2 q vs' ∧ VN L (k + 1) vs vs' := ⟨_, by rw [hsucc.out]; exact h4, HV.out.upd HLK.out⟩
        have HF4 : Hid (Fr (PQ p q) w w4) := HFW.out.drew.trans (Fr.of_edit he4 (.inr rfl))
        have hO4 : OwnI w4 w2.heap.size (.slice (some ⟨g, 0, none⟩) L.length ac) L := own_edit he4 (show OwnI wr.drew w2.heap.size (.slice (some ⟨g, 0, none⟩) L.length ac) L from HO.out) hqB
        have hb4 : Below base w w4 := (hbw.drew).trans (he4.below hqb (by have := HD.out.ql; show base ≤ wr.heap.size; omega))
        clear h4 he4 WR ST HO HD hsucc hbw
        go_wp2
        go_roundw
        case rel => exact ⟨k + 1, by omega, by go_num, hD4, hO4, hb4, HF4⟩
        case measure => simp [intOf]; omega
    · obtain rfl : k = L.length := by omega
      go_wp2
      go_ret
      exact ⟨rfl, ⟨_, hD, HV.out⟩, hbw, HFW.out⟩
set_option maxHeartbeats 2000000 in
theorem crash_fr (h : DiskAt w base p n en lf sf ws q vs) (sp : Option Addr) (m cap : Nat) (pk : Nat → Int) (hpk : PickAt w q sp m pk) (hm : m ≤ cap ∧ (cap : Int) ≤ 9223372036854775807) (L : List Nat) (hL : L = openL ws n) :
    Calls Try.prog 13 #[.pointer (some ⟨p, 0, none⟩), .slice sp m cap] w fun e w' => e = .returned (.tuple #[]) ∧ (∃ vs', DiskAt w' base p n false 0 (setS L (keepN m pk) sf ws L.length).1 (setS L (keepN m pk) sf ws L.length).2 q vs' ∧ VN L L.length vs vs') ∧ Below base w w' ∧ Fr (PQ p q) w w' := by
  have hLl := openL_lt ws n
  have hLn : L.length ≤ n := by rw [hL]; exact openL_len ws n
  rw [← hL] at hLl
  have OPEN := open_any h
  rw [← hL] at OPEN
  have H : Hid _ := h
  clear hL h
  go_enter Try.func13, Try.ntmps13
  go_wp2_with fail
  refine OPEN.mono ?_
  rintro e w3 ⟨v, rfl, hown, hb3⟩
  clear OPEN
  have h3 := H.out.below hb3 (Nat.le_refl _)
  have hq2 := H.out.ql
  have hqb := H.out.qb
  have hb03 : Below base w w3 := hb3.mono (by omega)
  have hpk3 := hpk.below hb3
  have hnn := H.out.nn
  have HF3 : Hid (Fr (PQ p q) w w3) := Fr.of_below hb3
  obtain ⟨ao, ac, rfl, hac, hao, _⟩ := hown.form
  clear H hpk
  have H3 : Hid _ := h3
  have HP : Hid _ := hpk3
  clear h3 hpk3
  go_wp2
  go_loopw [12] (fun i wr => ∃ k : Nat, k ≤ L.length ∧ i = .int .i64 k ∧ (∃ vs', DiskAt wr base p n en lf (setS L (keepN m pk) sf ws k).1 (setS L (keepN m pk) sf ws k).2 q vs' ∧ VN L k vs vs') ∧ OwnI wr w.heap.size (.slice ao L.length ac) L ∧ PickAt wr q sp m pk ∧ Below base w wr ∧ Hid (Fr (PQ p q) w wr)) (fun i _ => L.length - (intOf i).toNat)
  case atStart => exact ⟨0, by omega, rfl, ⟨_, H3.out, fun _ => .inl rfl, fun i hi => by simp at hi⟩, hown, HP.out, hb03, HF3⟩
  case round =>
    clear H3 HP hown
    obtain ⟨k, hk, rfl, ⟨vs', hD, hV⟩, hO, hP, hbw, HFW⟩ := hrel
    have HV : Hid (VN L k vs vs') := hV
    clear hV
    by_cases hlt : (k : Int) < L.length
    · obtain ⟨g, rfl⟩ := hao (by omega)
      obtain ⟨ao', ac', e, _, _, hcell⟩ := hO.form
      cases e
      have cL := hcell k (by omega) g rfl
      clear hcell
      have HLK : Hid (L[k]? = some (L.getD k 0)) := by show _ = _; rw [List.getD_eq_getElem?_getD, List.getElem?_eq_getElem (show k < L.length by omega)]; rfl
      have hb : L.getD k 0 < n := by
        have hk' : k < L.length := by omega
        have hm : L.getD k 0 ∈ L := by rw [List.getD_eq_getElem?_getD, List.getElem?_eq_getElem hk']; exact List.getElem_mem hk'
        exact (hLl _ hm).1
      have hsucc : Hid (setS L (keepN m pk) sf ws (k + 1) = (upd (setS L (keepN m pk) sf ws k).1 (L.getD k 0) (lastOf ((setS L (keepN m pk) sf ws k).1 (L.getD k 0)) (((setS L (keepN m pk) sf ws k).2 (L.getD k 0)).take (keepN m pk k ((setS L (keepN m pk) sf ws k).2 (L.getD k 0))))), upd (setS L (keepN m pk) sf ws k).2 (L.getD k 0) [])) := rfl
      obtain ⟨cq, hcq1, hcq2, c0⟩ := hD.c0
      have hqs := hD.ql
      have HO : Hid _ := hO
      have HP : Hid _ := hP
      have HD : Hid _ := hD
      by_cases hkm : k < m
      · have hkm' : (k : Int) < m := by omega
        obtain ⟨gp, op, rfl, _, _, hpc⟩ := hP (by omega)
        have cP := hpc k hkm
        clear hpc
        have WR := writes_any hD.drew (L.getD k 0) hb
        have ST := settle_any hD.drew (L.getD k 0) hb _ (keepN_le m pk k _)
        have hcase : (pk k < 0 ∧ ((keepN m pk k ((setS L (keepN m pk) sf ws k).2 (L.getD k 0)) : Nat) : Int) = 0) ∨ (¬ pk k < 0 ∧ ¬ ((((setS L (keepN m pk) sf ws k).2 (L.getD k 0)).length : Nat) : Int) < pk k ∧ ((keepN m pk k ((setS L (keepN m pk) sf ws k).2 (L.getD k 0)) : Nat) : Int) = pk k) ∨ (¬ pk k < 0 ∧ ((((setS L (keepN m pk) sf ws k).2 (L.getD k 0)).length : Nat) : Int) < pk k ∧ ((keepN m pk k ((setS L (keepN m pk) sf ws k).2 (L.getD k 0)) : Nat) : Int) = ((((setS L (keepN m pk) sf ws k).2 (L.getD k 0)).length : Nat) : Int)) := by
          unfold keepN; rw [if_pos hkm]; omega
        have hl0 : ¬ ((((setS L (keepN m pk) sf ws k).2 (L.getD k 0)).length : Nat) : Int) < 0 := by omega
        clear hO hP hD
        rcases hcase with ⟨hc1, hc3⟩ | ⟨hc1, hc2, hc3⟩ | ⟨hc1, hc2, hc3⟩
        all_goals
          rw [hc3] at ST
          generalize L.getD k 0 = b at *
          clear hc3
          go_wp2_with fail
          go_region_with (first | (go_at_call 30; refine WR.mono ?_; rintro e w4 ⟨rfl, rfl⟩))
        all_goals
          clear WR
          go_wp2_with fail
          refine ST.mono ?_
          rintro e w4 ⟨rfl, h4, he4⟩
        all_goals
          have hD4 : ∃ vs', DiskAt w4 base p n en lf (setS L (keepN m pk) sf ws (k + 1)).1 (setS L (keepN m pk) sf ws (k + 1)).2 q vs' ∧ VN L (k + 1) vs vs' := ⟨_, by rw [hsucc.out]; exact h4, HV.out.upd HLK.out⟩
          have HF4 : Hid (Fr (PQ p q) w w4) := HFW.out.drew.trans (Fr.of_edit he4 (.inr rfl))
          have hO4 : OwnI w4 w.heap.size (.slice (some ⟨g, 0, none⟩) L.length ac) L := own_edit he4 (show OwnI wr.drew w.heap.size (.slice (some ⟨g, 0, none⟩) L.length ac) L from HO.out) hq2
          have hb4 : Below base w w4 := hbw.drew.trans (he4.below hqb (by have := HD.out.ql; show base ≤ wr.heap.size; omega))
          have HP4 : Hid (PickAt w4 q (some ⟨gp, op, none⟩) m pk) := PickAt.edit (show PickAt wr.drew q (some ⟨gp, op, none⟩) m pk from HP.out) he4
          clear h4 he4 ST HO HD HP hsucc hbw
          go_wp2
          go_roundw
          case rel => exact ⟨k + 1, by omega, by go_num, hD4, hO4, HP4.out, hb4, HF4⟩
          case measure => simp [intOf]; omega
      · have hkm' : ¬ (k : Int) < m := by omega
        have ST := settle_any hD (L.getD k 0) hb _ (keepN_le m pk k _)
        have hkeep : Hid (keepN m pk k ((setS L (keepN m pk) sf ws k).2 (L.getD k 0)) = 0) := by
          unfold keepN; rw [if_neg hkm]; rfl
        rw [hkeep.out] at ST
        clear hO hP hD
        generalize L.getD k 0 = b at *
        go_wp2_with fail
        refine ST.mono ?_
        rintro e w4 ⟨rfl, h4, he4⟩
        have hD4 : ∃ vs', DiskAt w4 base p n en lf (setS L (keepN m pk) sf ws (k + 1)).1 (setS L (keepN m pk) sf ws (k + 1)).2 q vs' ∧ VN L (k + 1) vs vs' := ⟨_, by rw [hsucc.out, hkeep.out]; exact h4, HV.out.upd HLK.out⟩
        have HF4 : Hid (Fr (PQ p q) w w4) := HFW.out.trans (Fr.of_edit he4 (.inr rfl))
        have hO4 : OwnI w4 w.heap.size (.slice (some ⟨g, 0, none⟩) L.length ac) L := own_edit he4 HO.out hq2
        have hb4 : Below base w w4 := hbw.trans (he4.below hqb (by have := HD.out.ql; omega))
        have hP4 := PickAt.edit HP.out he4
        have HP4 : Hid _ := hP4
        clear h4 he4 ST HO HD HP hP4 hsucc hbw hkeep
        go_wp2
        go_roundw
        case rel => exact ⟨k + 1, by omega, by go_num, hD4, hO4, HP4.out, hb4, HF4⟩
        case measure => simp [intOf]; omega
    · obtain rfl : k = L.length := by omega
      have f1 := hD.fp 1
      have f2 := hD.fp 2
      have c1 := hD.c1
      have c2 := hD.c2
      have hF := (hD.setEnd false).setLeft 0
      have hbF := (hbw.setCell hD.pb (p := ⟨p, 1, none⟩) (.bool false)).setCell hD.pb (p := ⟨p, 2, none⟩) (.int .i64 0)
      have HF : Hid _ := hF
      have HFE : Hid (Fr (PQ p q) w ((wr.setCell ⟨p, 1, none⟩ (.bool false)).setCell ⟨p, 2, none⟩ (.int .i64 0))) := (HFW.out.setCell p 1 _ (.inl rfl)).setCell p 2 _ (.inl rfl)
      clear hF hO hP hD
      go_wp2
      go_end0
      exact ⟨rfl, ⟨_, HF.out, HV.out⟩, hbF, HFE.out⟩
end
end Go.Proofs.Ytcmkgcdjjplgdaa
