/- Disk.Open, Disk.Flush. -/
import Derived.Test.YtikpnfnbmbaljaaJWrite3
import Derived.WalkSmall
namespace Go.Proofs.Ytikpnfnbmbaljaa
open Go.RowKit
set_option maxRecDepth 100000
def ints (l : List Nat) : List Value := l.map fun (k : Nat) => Value.int .i64 (k : Int)
def OwnNt (w : World) (base : Nat) (v : Value) (l : List Nat) : Prop := w.ownsRow base 3 1 v l.length (ints l)
theorem Try.infoNt : (Try.prog.info? 3).map (fun i => (i.zero, i.size, i.bytes)) = some (some (.int .i64 0), 1, 8) := by kernel_rfl
/-- The blocks below n that have writes, rising. -/
def openL (ws : Nat → List (List UInt8)) (n : Nat) : List Nat := (List.range n).filter fun i => decide (0 < (ws i).length)
theorem openL_succ (ws : Nat → List (List UInt8)) (k : Nat) : openL ws (k + 1) = openL ws k ++ (if 0 < (ws k).length then [k] else []) := by
  unfold openL; rw [List.range_succ, List.filter_append]
  congr 1
  by_cases h : 0 < (ws k).length <;> simp [h]
theorem openL_lt (ws : Nat → List (List UInt8)) (n : Nat) : ∀ x ∈ openL ws n, x < n ∧ 0 < (ws x).length := by
  intro x hx; simp only [openL, List.mem_filter, List.mem_range, decide_eq_true_eq] at hx; exact hx
theorem openL_len (ws : Nat → List (List UInt8)) (n : Nat) : (openL ws n).length ≤ n := by
  unfold openL; have := List.length_filter_le (fun i => decide (0 < (ws i).length)) (List.range n); simpa using this
section
variable {w : World} {base p n : Nat} {en : Bool} {lf : Int} {sf : Nat → List UInt8} {ws : Nat → List (List UInt8)} {q : Nat} {vs : Nat → Value}
theorem DiskAt.drew (h : DiskAt w base p n en lf sf ws q vs) : DiskAt w.drew base p n en lf sf ws q vs := h.below (B := w.heap.size) ((Below.refl _ _).drew) (Nat.le_refl _)
set_option maxHeartbeats 1000000 in
theorem open_any (h : DiskAt w base p n en lf sf ws q vs) :
    Calls Try.prog 43 #[.pointer (some ⟨p, 0, none⟩)] w fun e w' => ∃ v, e = .returned v ∧ OwnNt w' w.heap.size v (openL ws n) ∧ Below w.heap.size w w' := by
  have LEN := len_any h
  have hn := h.nn
  have hp := h.pl
  have hq := h.ql
  have H : Hid _ := h
  obtain ⟨i0, hi, hz0, hz1, hz2⟩ := info_parts Try.infoNt
  clear h
  go_enter Try.func43, Try.ntmps43
  go_wp2_with fail
  refine LEN.mono ?_
  rintro e w1 ⟨rfl, rfl⟩
  clear LEN
  go_wp2
  go_loopw [3, 7] (fun v i wr => ∃ k : Nat, k ≤ n ∧ i = .int .i64 k ∧ OwnNt wr w1.heap.size v (openL ws k) ∧ Below w1.heap.size w1 wr) (fun _ i _ => n - (intOf i).toNat)
  case atStart => exact ⟨0, by omega, rfl, World.ownsRow_nil _ _ _ _, Below.refl _ _⟩
  case round =>
    obtain ⟨k, hk, rfl, hown, hbw⟩ := hrel
    have hs := hbw.size
    have hll := openL_len ws k
    by_cases hlt : (k : Int) < n
    · have hD := H.out.below hbw (Nat.le_refl _)
      obtain ⟨cq, hcq1, hcq2, c0⟩ := hD.c0
      obtain ⟨ao, ac, hv⟩ := hD.len k (by omega)
      have cw := (hD.row k (by omega)).2.2
      rw [hv] at cw
      have HSN : Hid _ := openL_succ ws k
      clear hD hv
      by_cases hpos : 0 < (ws k).length
      · have hpos' : (0 : Int) < (ws k).length := by omega
        go_wp2_with (first | (at_builtin; refine wpList_append_own _ rfl (.tmp 20) (.tmp 22) 43 rfl w1.heap.size 3 i0 (.int .i64 0) 1 8 Try.underlying43 hi hz0 hz1 hz2 rfl (by decide) u3 _ _ rfl (World.ownsRow.alloc hown _) ⟨wr.heap.size, 0, none⟩ 1 1 [.int .i64 (k : Int)] rfl rfl (cell_one_new _ _ _) (by intro u hu; simp at hu; subst hu; rfl) (by unfold maxLen; omega) (by omega) (by simp; omega) ?_; intro v' w2 hown2 hgrow2 hnil2; clear hnil2))
        have hb2 : Below w1.heap.size w1 w2 := (hbw.alloc hs _).grown hgrow2 (by simp; omega) (fun j hj => (World.ownsRow.lt hown j hj).1)
        have hO2 : OwnNt w2 w1.heap.size v' (openL ws (k + 1)) := by
          rw [HSN.out, if_pos hpos]
          unfold OwnNt
          rw [List.length_append, show ints (openL ws k ++ [k]) = ints (openL ws k) ++ [Value.int .i64 (k : Int)] from by simp [ints]]
          exact hown2
        clear hown hown2 hgrow2
        go_roundw
        case rel => exact ⟨k + 1, by omega, by go_num, hO2, hb2⟩
        case measure => simp [intOf]; omega
      · have hz : (ws k).length = 0 := by omega
        rw [hz] at cw
        go_wp2
        go_roundw
        case rel => exact ⟨k + 1, by omega, by go_num, by rw [HSN.out, if_neg hpos, List.append_nil]; exact hown, hbw⟩
        case measure => simp [intOf]; omega
    · obtain rfl : k = n := by omega
      go_wp2
      go_ret
      exact ⟨_, rfl, hown, hbw⟩
/-- The state behind the first k blocks of L are settled, mk b of the writes of each kept. -/
def setS (L : List Nat) (mk : Nat → List (List UInt8) → Nat) (sf : Nat → List UInt8) (ws : Nat → List (List UInt8)) : Nat → (Nat → List UInt8) × (Nat → List (List UInt8))
  | 0 => (sf, ws)
  | k + 1 => (upd (setS L mk sf ws k).1 (L.getD k 0) (lastOf ((setS L mk sf ws k).1 (L.getD k 0)) (((setS L mk sf ws k).2 (L.getD k 0)).take (mk k ((setS L mk sf ws k).2 (L.getD k 0))))), upd (setS L mk sf ws k).2 (L.getD k 0) [])
theorem own_edit {w w' : World} {q o len B e size : Nat} {v : Value} {m : Nat} {xs : List Value} (he : Edit w w' q o len) (h : w.ownsRow B e size v m xs) (hB : q < B) : w'.ownsRow B e size v m xs := by
  obtain ⟨h1, h2⟩ := h
  refine ⟨h1, ?_⟩
  rcases h2 with h2 | ⟨g, cap, cur, hv, hg, hh, r⟩
  · exact .inl h2
  · exact .inr ⟨g, cap, cur, hv, hg, by rw [he.block g (Array.getElem?_eq_some_iff.1 hh).1 (by omega)]; exact hh, r⟩
theorem OwnNt.form {w : World} {B : Nat} {v : Value} {l : List Nat} (h : OwnNt w B v l) : ∃ ao cap, v = .slice ao l.length cap ∧ (cap : Int) ≤ 9223372036854775807 ∧ (0 < l.length → ∃ g, ao = some ⟨g, 0, none⟩) ∧ ∀ k, k < l.length → ∀ g, ao = some ⟨g, 0, none⟩ → w.cell? ⟨g, k, none⟩ = some (.int .i64 ((l.getD k 0 : Nat) : Int)) := by
  have h' := h
  obtain ⟨h1, h2⟩ := h
  rcases h2 with ⟨rfl, h3⟩ | ⟨g, cap, cur, rfl, hg, hh, hn, hm, hs, hx⟩
  · obtain rfl : l = [] := List.eq_nil_of_length_eq_zero h3
    exact ⟨none, 0, rfl, by omega, by simp, by simp⟩
  · refine ⟨_, cap, rfl, by unfold maxLen at hm; omega, fun _ => ⟨g, rfl⟩, fun k hk g' e => ?_⟩
    cases e
    rw [World.ownsRow.cellAt h' k (by omega)]
    simp [ints, hk]
end
end Go.Proofs.Ytikpnfnbmbaljaa
/- What Flush and Crash leave, block by block. -/
namespace Go.Proofs.Ytikpnfnbmbaljaa
open Go.RowKit
set_option maxRecDepth 100000
theorem openL_nodup (ws : Nat → List (List UInt8)) (n : Nat) : (openL ws n).Nodup := by
  unfold openL; exact List.Pairwise.filter _ List.nodup_range
theorem nodup_ne {L : List Nat} (h : L.Nodup) (i j : Nat) (hi : i < L.length) (hj : j < L.length) (hne : i ≠ j) : L[i] ≠ L[j] := by
  have h' := List.pairwise_iff_getElem.1 h
  rcases Nat.lt_or_gt_of_ne hne with hlt | hlt
  · exact h' i j hi hj hlt
  · exact fun e => h' j i hj hi hlt e.symm
theorem getD_take_ne {L : List Nat} (h : L.Nodup) (k : Nat) (hk : k < L.length) : L.getD k 0 ∉ L.take k := by
  intro hm
  rw [List.mem_take_iff_getElem] at hm
  obtain ⟨j, hj, e⟩ := hm
  have e2 : L.getD k 0 = L[k] := by simp [hk]
  rw [e2] at e
  exact nodup_ne h j k (by omega) hk (by omega) e
/-- Block by block, behind the first k of L. -/
theorem setS_spec (L : List Nat) (hL : L.Nodup) (mk : Nat → List (List UInt8) → Nat) (sf : Nat → List UInt8) (ws : Nat → List (List UInt8)) : ∀ k, k ≤ L.length →
    (∀ j, j < k → (setS L mk sf ws k).1 (L.getD j 0) = lastOf (sf (L.getD j 0)) ((ws (L.getD j 0)).take (mk j (ws (L.getD j 0)))) ∧ (setS L mk sf ws k).2 (L.getD j 0) = []) ∧
    (∀ i, i ∉ L.take k → (setS L mk sf ws k).1 i = sf i ∧ (setS L mk sf ws k).2 i = ws i)
  | 0, _ => ⟨by intro j hj; omega, fun i _ => ⟨rfl, rfl⟩⟩
  | k + 1, hk => by
    obtain ⟨h1, h2⟩ := setS_spec L hL mk sf ws k (by omega)
    have hnew := h2 _ (getD_take_ne hL k (by omega))
    have htk : L.take (k + 1) = L.take k ++ [L.getD k 0] := by
      have hk' : k < L.length := by omega
      rw [List.take_add_one, List.getElem?_eq_getElem hk']; simp [hk']
    refine ⟨fun j hj => ?_, fun i hi => ?_⟩
    · by_cases hjk : j = k
      · subst hjk
        constructor
        · show upd _ _ _ _ = _
          rw [upd_same, hnew.1, hnew.2]
        · show upd _ _ _ _ = _
          rw [upd_same]
      · have hne : L.getD j 0 ≠ L.getD k 0 := by
          have hj' : j < L.length := by omega
          have hk' : k < L.length := by omega
          intro e
          have e1 : L[j] = L[k] := by simpa [hj', hk'] using e
          exact nodup_ne hL j k hj' hk' hjk e1
        obtain ⟨a, b⟩ := h1 j (by omega)
        constructor
        · show upd _ _ _ _ = _
          rw [upd_other _ _ _ hne]; exact a
        · show upd _ _ _ _ = _
          rw [upd_other _ _ _ hne]; exact b
    · rw [htk, List.mem_append, not_or] at hi
      have hne : i ≠ L.getD k 0 := fun e => hi.2 (by rw [e]; exact List.mem_singleton.2 rfl)
      obtain ⟨a, b⟩ := h2 i hi.1
      constructor
      · show upd _ _ _ _ = _
        rw [upd_other _ _ _ hne]; exact a
      · show upd _ _ _ _ = _
        rw [upd_other _ _ _ hne]; exact b
theorem openL_at (ws : Nat → List (List UInt8)) (i : Nat) (hw : 0 < (ws i).length) : ∀ n, i < n → (openL ws n).getD (openL ws i).length 0 = i ∧ (openL ws i).length < (openL ws n).length
  | 0, h => by omega
  | n + 1, h => by
    rw [openL_succ]
    by_cases hin : i = n
    · subst hin
      rw [if_pos hw]; simp
    · obtain ⟨a, b⟩ := openL_at ws i hw n (by omega)
      refine ⟨?_, by rw [List.length_append]; omega⟩
      rw [List.getD_eq_getElem?_getD, List.getElem?_append_left b, ← List.getD_eq_getElem?_getD]; exact a
/-- Every block below n behind all of the open ones. -/
theorem setS_all (ws : Nat → List (List UInt8)) (sf : Nat → List UInt8) (mk : Nat → List (List UInt8) → Nat) (n i : Nat) (hi : i < n) :
    (setS (openL ws n) mk sf ws (openL ws n).length).1 i = lastOf (sf i) ((ws i).take (mk (openL ws i).length (ws i))) ∧ (setS (openL ws n) mk sf ws (openL ws n).length).2 i = [] := by
  obtain ⟨h1, h2⟩ := setS_spec (openL ws n) (openL_nodup ws n) mk sf ws _ (Nat.le_refl _)
  by_cases hw : 0 < (ws i).length
  · obtain ⟨a, b⟩ := openL_at ws i hw n hi
    have h := h1 _ b
    rw [a] at h; exact h
  · have hn : ws i = [] := List.eq_nil_of_length_eq_zero (by omega)
    have hm : i ∉ (openL ws n).take (openL ws n).length := by
      rw [List.take_length]; intro hm; exact hw (openL_lt ws n i hm).2
    obtain ⟨a, b⟩ := h2 i hm
    rw [a, b, hn, List.take_nil]; exact ⟨rfl, rfl⟩
section
variable {w : World} {base p n : Nat} {en : Bool} {lf : Int} {sf : Nat → List UInt8} {ws : Nat → List (List UInt8)} {q : Nat} {vs : Nat → Value}
theorem DiskAt.congr (h : DiskAt w base p n en lf sf ws q vs) {sf' : Nat → List UInt8} {ws' : Nat → List (List UInt8)} (h1 : ∀ i, i < n → sf i = sf' i) (h2 : ∀ i, i < n → ws i = ws' i) : DiskAt w base p n en lf sf' ws' q vs :=
  { pb := h.pb, qb := h.qb, pq := h.pq, nn := h.nn, c0 := h.c0, c1 := h.c1, c2 := h.c2, fp := h.fp, fq := h.fq, ql := h.ql,
    row := fun i hi => by rw [← h1 i hi]; exact h.row i hi,
    wr := fun i hi => by rw [← h2 i hi]; exact h.wr i hi,
    ap := h.ap }
end
end Go.Proofs.Ytikpnfnbmbaljaa
/- What DFlush of the disk leaves as it was. -/
namespace Go.Proofs.Ytikpnfnbmbaljaa
open Go.RowKit
set_option maxRecDepth 100000
/-- The disk's own two blocks. -/
def PQ (p q : Nat) : Nat → Prop := fun k => k = p ∨ k = q
/-- Each list of writes is as it was, or nil. -/
def VN (vs vs' : Nat → Value) : Prop := ∀ i, vs' i = vs i ∨ vs' i = .slice none 0 0
theorem VN.upd {vs vs' : Nat → Value} (h : VN vs vs') (i : Nat) : VN vs (upd vs' i (.slice none 0 0)) := by
  intro j
  unfold Go.Proofs.Ytikpnfnbmbaljaa.upd
  split
  · exact .inr rfl
  · exact h j
section
variable {w : World} {base p n : Nat} {en : Bool} {lf : Int} {sf : Nat → List UInt8} {ws : Nat → List (List UInt8)} {q : Nat} {vs : Nat → Value}
set_option maxHeartbeats 2000000 in
theorem flush_fr (h : DiskAt w base p n en lf sf ws q vs) (hl : 0 ≤ lf ∧ lf ≤ 9223372036854775807) (hg : goesB en lf = true) (L : List Nat) (hL : L = openL ws n) :
    Calls Try.prog 62 #[.pointer (some ⟨p, 0, none⟩)] w fun e w' => e = .returned (.int .i64 0) ∧ (∃ vs', DiskAt w' base p n en (goesL en lf) (setS L (fun _ l => l.length) sf ws L.length).1 (setS L (fun _ l => l.length) sf ws L.length).2 q vs' ∧ VN vs vs') ∧ Below base w w' ∧ Fr (PQ p q) w w' := by
  have GOES := goes_any h hl
  rw [hg] at GOES
  have hLl := openL_lt ws n
  have hLn : L.length ≤ n := by rw [hL]; exact openL_len ws n
  rw [← hL] at hLl
  have HL : Hid _ := hL
  clear hL
  clear h
  go_enter Try.func62, Try.ntmps62
  go_wp2_with fail
  refine GOES.mono ?_
  rintro e w2 ⟨rfl, h2, hb2, hz2, hk2⟩
  have HF2 : Hid (Fr (PQ p q) w w2) := ⟨by omega, fun k _ hS => hk2 k fun e => hS (.inl e), hb2.os, hb2.tape, hb2.output⟩
  clear hz2 hk2
  clear GOES
  have OPEN := open_any h2
  rw [← HL.out] at OPEN
  go_wp2_with fail
  refine OPEN.mono ?_
  rintro e w3 ⟨v, rfl, hown, hb3⟩
  clear OPEN
  have h3 := h2.below hb3 (Nat.le_refl _)
  have hq2 := h2.ql
  have hqb := h2.qb
  have hb03 : Below base w w3 := hb2.trans (hb3.mono (by omega))
  have hnn := h2.nn
  have HF3 : Hid (Fr (PQ p q) w w3) := HF2.out.trans (Fr.of_below hb3)
  obtain ⟨ao, ac, rfl, hac, hao, _⟩ := hown.form
  clear h2 hb2
  have H3 : Hid _ := h3
  clear h3
  go_wp2
  go_loopw [12] (fun i wr => ∃ k : Nat, k ≤ L.length ∧ i = .int .i64 k ∧ (∃ vs', DiskAt wr base p n en (goesL en lf) (setS L (fun _ l => l.length) sf ws k).1 (setS L (fun _ l => l.length) sf ws k).2 q vs' ∧ VN vs vs') ∧ OwnNt wr w2.heap.size (.slice ao L.length ac) L ∧ Below base w wr ∧ Hid (Fr (PQ p q) w wr)) (fun i _ => L.length - (intOf i).toNat)
  case atStart => exact ⟨0, by omega, rfl, ⟨_, H3.out, fun _ => .inl rfl⟩, hown, hb03, HF3⟩
  case round =>
    obtain ⟨k, hk, rfl, ⟨vs', hD, hV⟩, hO, hbw, HFW⟩ := hrel
    have HV : Hid (VN vs vs') := hV
    clear hV
    by_cases hlt : (k : Int) < L.length
    · obtain ⟨g, rfl⟩ := hao (by omega)
      obtain ⟨ao', ac', e, _, _, hcell⟩ := hO.form
      cases e
      have cL := hcell k (by omega) g rfl
      clear hcell
      have hb : L.getD k 0 < n := by
        have hk' : k < L.length := by omega
        have hm : L.getD k 0 ∈ L := by rw [List.getD_eq_getElem?_getD, List.getElem?_eq_getElem hk']; exact List.getElem_mem hk'
        exact (hLl _ hm).1
      have WR := writes_any hD.drew (L.getD k 0) hb
      have ST := settle_any hD.drew (L.getD k 0) hb _ (Nat.le_refl _)
      obtain ⟨cq, hcq1, hcq2, c0⟩ := hD.c0
      have hsucc : Hid (setS L (fun _ l => l.length) sf ws (k + 1) = (upd (setS L (fun _ l => l.length) sf ws k).1 (L.getD k 0) (lastOf ((setS L (fun _ l => l.length) sf ws k).1 (L.getD k 0)) (((setS L (fun _ l => l.length) sf ws k).2 (L.getD k 0)).take ((setS L (fun _ l => l.length) sf ws k).2 (L.getD k 0)).length)), upd (setS L (fun _ l => l.length) sf ws k).2 (L.getD k 0) [])) := rfl
      generalize L.getD k 0 = b at *
      have hqs := hD.ql
      have hqB : q < w2.heap.size := by omega
      have HO : Hid _ := hO
      have HD : Hid _ := hD
      clear hO hD
      go_wp2_with fail
      go_region_with (first | (go_at_call 47; refine WR.mono ?_; rintro e w4 ⟨rfl, rfl⟩) | (go_at_call 73; refine ST.mono ?_; rintro e w4 ⟨rfl, h4, he4⟩))
      all_goals
        have hD4 : ∃ vs', DiskAt w4 base p n en (goesL en lf) (setS L (fun _ l => l.length) sf ws (k + 1)).1 (setS L (fun _ l => l.length) sf ws (k + 1)).2 q vs' ∧ VN vs vs' := ⟨_, by rw [hsucc.out]; exact h4, HV.out.upd b⟩
        have HF4 : Hid (Fr (PQ p q) w w4) := HFW.out.drew.trans (Fr.of_edit he4 (.inr rfl))
        have hO4 : OwnNt w4 w2.heap.size (.slice (some ⟨g, 0, none⟩) L.length ac) L := own_edit he4 (show OwnNt wr.drew w2.heap.size (.slice (some ⟨g, 0, none⟩) L.length ac) L from HO.out) hqB
        have hb4 : Below base w w4 := (hbw.drew).trans (he4.below hqb (by have := HD.out.ql; show base ≤ wr.heap.size; omega))
        clear h4 he4 WR ST HO HD hsucc hbw
        go_wp2
        go_roundw
        case rel => exact ⟨k + 1, by omega, by go_num, hD4, hO4, hb4, HF4⟩
        case measure => simp [intOf]; omega
    · obtain rfl : k = L.length := by omega
      go_wp2
      go_ret
      exact ⟨rfl, ⟨_, hD, HV.out⟩, hbw, HFW.out⟩
end
end Go.Proofs.Ytikpnfnbmbaljaa
