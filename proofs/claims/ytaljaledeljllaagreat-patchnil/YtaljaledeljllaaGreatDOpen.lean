/- Disk.Open, Disk.Flush. -/
import Derived.Test.YtaljaledeljllaaGreatNew
import Derived.Test.YtaljaledeljllaaGreatFr
import Derived.WalkSmall
namespace Go.Proofs.YtaljaledeljllaaGreat
open Go.RowKit
set_option maxRecDepth 100000
def ints (l : List Nat) : List Value := l.map fun (k : Nat) => Value.int .i64 (k : Int)
theorem ints_length (l : List Nat) : (ints l).length = l.length := by simp [ints]
def OwnNt (w : World) (base : Nat) (v : Value) (l : List Nat) : Prop := w.ownsRow base 3 1 v l.length (ints l)
theorem Tryz.infoNt : (Tryz.prog.info? 3).map (fun i => (i.zero, i.size, i.bytes)) = some (some (.int .i64 0), 1, 8) := by kernel_rfl
/-- The blocks below n that have writes, rising. -/
def openL (ws : Nat → List (List UInt8)) (n : Nat) : List Nat := (List.range n).filter fun i => decide (0 < (ws i).length)
theorem openL_succ (ws : Nat → List (List UInt8)) (k : Nat) : openL ws (k + 1) = openL ws k ++ (if 0 < (ws k).length then [k] else []) := by
  unfold openL; rw [List.range_succ, List.filter_append]
  congr 1
  by_cases h : 0 < (ws k).length <;> simp [h]
theorem openL_lt (ws : Nat → List (List UInt8)) (n : Nat) : ∀ x ∈ openL ws n, x < n ∧ 0 < (ws x).length := by
  intro x hx; simp only [openL, List.mem_filter, List.mem_range, decide_eq_true_eq] at hx; exact hx
theorem openL_len (ws : Nat → List (List UInt8)) (n : Nat) : (openL ws n).length ≤ n := by
  unfold openL; have := List.length_filter_le (fun i => decide (0 < (ws i).length)) (List.range n); simpa using this
section
variable {w : World} {base p n : Nat} {en : Bool} {lf : Int} {sf : Nat → List UInt8} {ws : Nat → List (List UInt8)} {q : Nat} {vs : Nat → Value}
theorem DiskAt.drew (h : DiskAt w base p n en lf sf ws q vs) : DiskAt w.drew base p n en lf sf ws q vs := h.below (B := w.heap.size) ((Below.refl _ _).drew) (Nat.le_refl _)
set_option maxHeartbeats 1000000 in
theorem open_any (h : DiskAt w base p n en lf sf ws q vs) :
    Calls Tryz.prog 20 #[.pointer (some ⟨p, 0, none⟩)] w fun e w' => ∃ v, e = .returned v ∧ OwnNt w' w.heap.size v (openL ws n) ∧ Below w.heap.size w w' := by
  have LEN := len_any h
  have hn := h.nn
  have hp := h.pl
  have hq := h.ql
  have H : Hid _ := h
  obtain ⟨i0, hi, hz0, hz1, hz2⟩ := info_parts Tryz.infoNt
  clear h
  go_enter Tryz.func20, Tryz.ntmps20
  go_wp2_with fail
  refine LEN.mono ?_
  rintro e w1 ⟨rfl, rfl⟩
  clear LEN
  go_wp2
  go_loopw [3, 7] (fun v i wr => ∃ k : Nat, k ≤ n ∧ i = .int .i64 k ∧ OwnNt wr w1.heap.size v (openL ws k) ∧ Below w1.heap.size w1 wr) (fun _ i _ => n - (intOf i).toNat)
  case atStart => exact ⟨0, by omega, rfl, World.ownsRow_nil _ _ _ _, Below.refl _ _⟩
  case round =>
    obtain ⟨k, hk, rfl, hown, hbw⟩ := hrel
    have hs := hbw.size
    have hll := openL_len ws k
    by_cases hlt : (k : Int) < n
    · have hD := H.out.below hbw (Nat.le_refl _)
      obtain ⟨cq, hcq1, hcq2, c0⟩ := hD.c0
      obtain ⟨ao, ac, hv⟩ := hD.len k (by omega)
      have cw := (hD.row k (by omega)).2.2
      rw [hv] at cw
      have HSN : Hid _ := openL_succ ws k
      clear hD hv
      by_cases hpos : 0 < (ws k).length
      · have hpos' : (0 : Int) < (ws k).length := by omega
        go_wp2_with (first | (at_builtin; refine wpList_append_own _ rfl (.tmp 20) (.tmp 22) 49 rfl w1.heap.size 3 i0 (.int .i64 0) 1 8 Tryz.underlying49 hi hz0 hz1 hz2 rfl (by decide) u3 _ _ rfl (World.ownsRow.alloc hown _) ⟨wr.heap.size, 0, none⟩ 1 1 [.int .i64 (k : Int)] rfl rfl (cell_one_new _ _ _) (by intro u hu; simp at hu; subst hu; rfl) (by unfold maxLen; omega) (by omega) (by simp; omega) ?_; intro v' w2 hown2 hgrow2 hnil2; clear hnil2))
        have hb2 : Below w1.heap.size w1 w2 := (hbw.alloc hs _).grown hgrow2 (by simp; omega) (fun j hj => (World.ownsRow.lt hown j hj).1)
        have hO2 : OwnNt w2 w1.heap.size v' (openL ws (k + 1)) := by
          rw [HSN.out, if_pos hpos]
          unfold OwnNt
          rw [List.length_append, show ints (openL ws k ++ [k]) = ints (openL ws k) ++ [Value.int .i64 (k : Int)] from by simp [ints]]
          exact hown2
        clear hown hown2 hgrow2
        go_roundw
        case rel => exact ⟨k + 1, by omega, by go_num, hO2, hb2⟩
        case measure => simp [intOf]; omega
      · have hz : (ws k).length = 0 := by omega
        rw [hz] at cw
        go_wp2
        go_roundw
        case rel => exact ⟨k + 1, by omega, by go_num, by rw [HSN.out, if_neg hpos, List.append_nil]; exact hown, hbw⟩
        case measure => simp [intOf]; omega
    · obtain rfl : k = n := by omega
      go_wp2
      go_ret
      exact ⟨_, rfl, hown, hbw⟩
/-- The state behind the first k blocks of L are settled, mk b of the writes of each kept. -/
def setS (L : List Nat) (mk : Nat → List (List UInt8) → Nat) (sf : Nat → List UInt8) (ws : Nat → List (List UInt8)) : Nat → (Nat → List UInt8) × (Nat → List (List UInt8))
  | 0 => (sf, ws)
  | k + 1 => (upd (setS L mk sf ws k).1 (L.getD k 0) (lastOf ((setS L mk sf ws k).1 (L.getD k 0)) (((setS L mk sf ws k).2 (L.getD k 0)).take (mk k ((setS L mk sf ws k).2 (L.getD k 0))))), upd (setS L mk sf ws k).2 (L.getD k 0) [])
theorem own_edit {w w' : World} {q o len B e size : Nat} {v : Value} {m : Nat} {xs : List Value} (he : Edit w w' q o len) (h : w.ownsRow B e size v m xs) (hB : q < B) : w'.ownsRow B e size v m xs := by
  obtain ⟨h1, h2⟩ := h
  refine ⟨h1, ?_⟩
  rcases h2 with h2 | ⟨g, cap, cur, hv, hg, hh, r⟩
  · exact .inl h2
  · exact .inr ⟨g, cap, cur, hv, hg, by rw [he.block g (Array.getElem?_eq_some_iff.1 hh).1 (by omega)]; exact hh, r⟩
theorem OwnNt.form {w : World} {B : Nat} {v : Value} {l : List Nat} (h : OwnNt w B v l) : ∃ ao cap, v = .slice ao l.length cap ∧ (cap : Int) ≤ 9223372036854775807 ∧ (0 < l.length → ∃ g, ao = some ⟨g, 0, none⟩) ∧ ∀ k, k < l.length → ∀ g, ao = some ⟨g, 0, none⟩ → w.cell? ⟨g, k, none⟩ = some (.int .i64 ((l.getD k 0 : Nat) : Int)) := by
  have h' := h
  obtain ⟨h1, h2⟩ := h
  rcases h2 with ⟨rfl, h3⟩ | ⟨g, cap, cur, rfl, hg, hh, hn, hm, hs, hx⟩
  · obtain rfl : l = [] := List.eq_nil_of_length_eq_zero h3
    exact ⟨none, 0, rfl, by omega, by simp, by simp⟩
  · refine ⟨_, cap, rfl, by unfold maxLen at hm; omega, fun _ => ⟨g, rfl⟩, fun k hk g' e => ?_⟩
    cases e
    rw [World.ownsRow.cellAt h' k (by omega)]
    simp [ints, hk]
set_option maxHeartbeats 2000000 in
theorem flush_go (h : DiskAt w base p n en lf sf ws q vs) (hl : 0 ≤ lf ∧ lf ≤ 9223372036854775807) (hg : goesB en lf = true) (L : List Nat) (hL : L = openL ws n) :
    Calls Tryz.prog 113 #[.pointer (some ⟨p, 0, none⟩)] w fun e w' => e = .returned (.int .i64 0) ∧ (∃ vs', DiskAt w' base p n en (goesL en lf) (setS L (fun _ l => l.length) sf ws L.length).1 (setS L (fun _ l => l.length) sf ws L.length).2 q vs') ∧ Below base w w' := by
  have GOES := goes_any h hl
  rw [hg] at GOES
  have hLl := openL_lt ws n
  have hLn : L.length ≤ n := by rw [hL]; exact openL_len ws n
  rw [← hL] at hLl
  have HL : Hid _ := hL
  clear hL
  clear h
  go_enter Tryz.func113, Tryz.ntmps113
  go_wp2_with fail
  refine GOES.mono ?_
  rintro e w2 ⟨rfl, h2, hb2, _, _⟩
  clear GOES
  have OPEN := open_any h2
  rw [← HL.out] at OPEN
  go_wp2_with fail
  refine OPEN.mono ?_
  rintro e w3 ⟨v, rfl, hown, hb3⟩
  clear OPEN
  have h3 := h2.below hb3 (Nat.le_refl _)
  have hq2 := h2.ql
  have hqb := h2.qb
  have hb03 : Below base w w3 := hb2.trans (hb3.mono (by omega))
  have hnn := h2.nn
  obtain ⟨ao, ac, rfl, hac, hao, _⟩ := hown.form
  clear h2 hb2
  have H3 : Hid _ := h3
  clear h3
  go_wp2
  go_loopw [12] (fun i wr => ∃ k : Nat, k ≤ L.length ∧ i = .int .i64 k ∧ (∃ vs', DiskAt wr base p n en (goesL en lf) (setS L (fun _ l => l.length) sf ws k).1 (setS L (fun _ l => l.length) sf ws k).2 q vs') ∧ OwnNt wr w2.heap.size (.slice ao L.length ac) L ∧ Below base w wr) (fun i _ => L.length - (intOf i).toNat)
  case atStart => exact ⟨0, by omega, rfl, ⟨_, H3.out⟩, hown, hb03⟩
  case round =>
    obtain ⟨k, hk, rfl, ⟨vs', hD⟩, hO, hbw⟩ := hrel
    by_cases hlt : (k : Int) < L.length
    · obtain ⟨g, rfl⟩ := hao (by omega)
      obtain ⟨ao', ac', e, _, _, hcell⟩ := hO.form
      cases e
      have cL := hcell k (by omega) g rfl
      clear hcell
      have hb : L.getD k 0 < n := by
        have hk' : k < L.length := by omega
        have hm : L.getD k 0 ∈ L := by rw [List.getD_eq_getElem?_getD, List.getElem?_eq_getElem hk']; exact List.getElem_mem hk'
        exact (hLl _ hm).1
      have WR := writes_any hD.drew (L.getD k 0) hb
      have ST := settle_any hD.drew (L.getD k 0) hb _ (Nat.le_refl _)
      obtain ⟨cq, hcq1, hcq2, c0⟩ := hD.c0
      have hsucc : Hid (setS L (fun _ l => l.length) sf ws (k + 1) = (upd (setS L (fun _ l => l.length) sf ws k).1 (L.getD k 0) (lastOf ((setS L (fun _ l => l.length) sf ws k).1 (L.getD k 0)) (((setS L (fun _ l => l.length) sf ws k).2 (L.getD k 0)).take ((setS L (fun _ l => l.length) sf ws k).2 (L.getD k 0)).length)), upd (setS L (fun _ l => l.length) sf ws k).2 (L.getD k 0) [])) := rfl
      generalize L.getD k 0 = b at *
      have hqs := hD.ql
      have hqB : q < w2.heap.size := by omega
      have HO : Hid _ := hO
      have HD : Hid _ := hD
      clear hO hD
      go_wp2_with fail
      go_region_with (first | (go_at_call 87; refine WR.mono ?_; rintro e w4 ⟨rfl, rfl⟩) | (go_at_call 88; refine ST.mono ?_; rintro e w4 ⟨rfl, h4, he4⟩))
      all_goals
        have hD4 : ∃ vs', DiskAt w4 base p n en (goesL en lf) (setS L (fun _ l => l.length) sf ws (k + 1)).1 (setS L (fun _ l => l.length) sf ws (k + 1)).2 q vs' := ⟨_, by rw [hsucc.out]; exact h4⟩
        have hO4 : OwnNt w4 w2.heap.size (.slice (some ⟨g, 0, none⟩) L.length ac) L := own_edit he4 (show OwnNt wr.drew w2.heap.size (.slice (some ⟨g, 0, none⟩) L.length ac) L from HO.out) hqB
        have hb4 : Below base w w4 := (hbw.drew).trans (he4.below hqb (by have := HD.out.ql; show base ≤ wr.heap.size; omega))
        clear h4 he4 WR ST HO HD hsucc hbw
        go_wp2
        go_roundw
        case rel => exact ⟨k + 1, by omega, by go_num, hD4, hO4, hb4⟩
        case measure => simp [intOf]; omega
    · obtain rfl : k = L.length := by omega
      go_wp2
      go_ret
      exact ⟨rfl, ⟨_, hD⟩, hbw⟩
end
end Go.Proofs.YtaljaledeljllaaGreat
