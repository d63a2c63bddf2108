/- Disk.goes, block.settle. -/
import Derived.Test.YtaljaledeljllaaGreatLast
namespace Go.Proofs.YtaljaledeljllaaGreat
open Go.RowKit
set_option maxRecDepth 100000
section
variable {w : World} {base p n : Nat} {en : Bool} {lf : Int} {sf : Nat → List UInt8} {ws : Nat → List (List UInt8)} {q : Nat} {vs : Nat → Value}
/-- A store into the disk's own struct. -/
theorem DiskAt.setP (h : DiskAt w base p n en lf sf ws q vs) {w' : World} {en' : Bool} {lf' : Int} (hsz : w'.heap.size = w.heap.size) (hgr : ∀ k, k ≠ p → w'.heap[k]? = w.heap[k]?)
    (h0 : w'.cell? ⟨p, 0, none⟩ = w.cell? ⟨p, 0, none⟩) (h1 : w'.cell? ⟨p, 1, none⟩ = some (.bool en')) (h2 : w'.cell? ⟨p, 2, none⟩ = some (.int .i64 lf')) (hf : ∀ o, w'.frozen? ⟨p, o, none⟩ = false) :
    DiskAt w' base p n en' lf' sf ws q vs := by
  have hbq : w'.heap[q]? = w.heap[q]? := hgr q (fun e => h.pq e.symm)
  exact {
    pb := h.pb, qb := h.qb, pq := h.pq, nn := h.nn, c0 := h.c0.imp fun _ hc => ⟨hc.1, hc.2.1, h0.trans hc.2.2⟩, c1 := h1, c2 := h2, fp := hf,
    fq := fun o => (World.frozen?_of_block (a := ⟨q, o, none⟩) hbq).trans (h.fq o),
    ql := by rw [hsz]; exact h.ql,
    row := fun i hi => ⟨fun j v hv => (World.cell?_of_block (a := ⟨q, i * 257 + j, none⟩) hbq).trans ((h.row i hi).1 j v hv), (h.row i hi).2.1, (World.cell?_of_block (a := ⟨q, i * 257 + 256, none⟩) hbq).trans (h.row i hi).2.2⟩,
    wr := fun j hj => by
      obtain ⟨⟨o1, o2⟩, o3, o4, o5⟩ := h.wr j hj
      refine ⟨⟨o1, ?_⟩, o3, o4, o5⟩
      rcases o2 with o2 | ⟨g, cap, cur, hv, hg, hh, r⟩
      · exact .inl o2
      · exact .inr ⟨g, cap, cur, hv, hg, by rw [hgr g (fun e => o4 (by rw [hv, ← e]; rfl))]; exact hh, r⟩,
    ap := h.ap }
theorem DiskAt.setLeft (h : DiskAt w base p n en lf sf ws q vs) (x : Int) : DiskAt (w.setCell ⟨p, 2, none⟩ (.int .i64 x)) base p n en x sf ws q vs :=
  h.setP (by simp [World.setCell]) (fun k hk => heap_setCell_other w ⟨p, 2, none⟩ k _ hk) (World.cell?_setCell_other _ _ _ _ (by simp)) ((World.cell?_setCell_other _ _ _ _ (by simp)).trans h.c1) (World.cell?_setCell_same _ _ _ h.c2) (fun o => by simpa using h.fp o)
theorem DiskAt.setEnd (h : DiskAt w base p n en lf sf ws q vs) (x : Bool) : DiskAt (w.setCell ⟨p, 1, none⟩ (.bool x)) base p n x lf sf ws q vs :=
  h.setP (by simp [World.setCell]) (fun k hk => heap_setCell_other w ⟨p, 1, none⟩ k _ hk) (World.cell?_setCell_other _ _ _ _ (by simp)) (World.cell?_setCell_same _ _ _ h.c1) ((World.cell?_setCell_other _ _ _ _ (by simp)).trans h.c2) (fun o => by simpa using h.fp o)
/-- Does a call take place? -/
def goesB (en : Bool) (lf : Int) : Bool := !(en && (lf == 0))
def goesL (en : Bool) (lf : Int) : Int := if en && !(lf == 0) then lf - 1 else lf
set_option maxHeartbeats 1000000 in
theorem goes_any (h : DiskAt w base p n en lf sf ws q vs) (hl : 0 ≤ lf ∧ lf ≤ 9223372036854775807) :
    Calls Tryz.prog 135 #[.pointer (some ⟨p, 0, none⟩)] w fun e w' => e = .returned (.bool (goesB en lf)) ∧ DiskAt w' base p n en (goesL en lf) sf ws q vs ∧ Below base w w' ∧ w'.heap.size = w.heap.size ∧ ∀ k, k ≠ p → w'.heap[k]? = w.heap[k]? := by
  have ST := stopped_any h
  cases hen : en with
  | false =>
    subst hen
    go_enter Tryz.func135, Tryz.ntmps135
    go_wp2_with fail
    refine ST.mono ?_
    rintro e w1 ⟨rfl, rfl⟩
    have c1 := h.c1
    clear ST
    go_wp2
    go_ret
    exact ⟨rfl, h, Below.refl _ _, rfl, fun _ _ => rfl⟩
  | true =>
    subst hen
    cases hz : (lf == 0) with
    | true =>
      rw [hz] at ST
      go_enter Tryz.func135, Tryz.ntmps135
      go_wp2_with fail
      refine ST.mono ?_
      rintro e w1 ⟨rfl, rfl⟩
      clear ST
      go_wp2
      go_ret
      refine ⟨by simp [goesB, hz], ?_, Below.refl _ _, rfl, fun _ _ => rfl⟩
      rw [show goesL true lf = lf from by simp [goesL, hz]]; exact h
    | false =>
      rw [hz] at ST
      have hl1 : 1 ≤ lf := by have := beq_eq_false_iff_ne.1 hz; omega
      have hS := h.setLeft (lf - 1)
      have hB : Below base w (w.setCell ⟨p, 2, none⟩ (.int .i64 (lf - 1))) := (Below.refl _ _).setCell h.pb _
      have hZ : (w.setCell ⟨p, 2, none⟩ (.int .i64 (lf - 1))).heap.size = w.heap.size := by simp [World.setCell]
      have hK : ∀ k, k ≠ p → (w.setCell ⟨p, 2, none⟩ (.int .i64 (lf - 1))).heap[k]? = w.heap[k]? := fun k hk => heap_setCell_other w ⟨p, 2, none⟩ k _ hk
      have c1 := h.c1
      have c2 := h.c2
      have f2 := h.fp 2
      go_enter Tryz.func135, Tryz.ntmps135
      go_wp2_with fail
      refine ST.mono ?_
      rintro e w1 ⟨rfl, rfl⟩
      clear ST
      go_wp2
      go_ret
      refine ⟨by simp [goesB, hz], ?_, hB, hZ, hK⟩
      rw [show goesL true lf = lf - 1 from by simp [goesL, hz]]; exact hS
theorem range_edit {w w' : World} {q o len b o2 : Nat} {cs : List Value} (he : Edit w w' q o len) (h : w.rangeAt b o2 cs) (hb : b < w.heap.size) (hap : b ≠ q ∨ o2 + cs.length ≤ o ∨ o + len ≤ o2) : w'.rangeAt b o2 cs := fun j v hv => by
  have hj : j < cs.length := (List.getElem?_eq_some_iff.1 hv).1
  by_cases hq : b = q
  · subst hq
    rw [he.cell (o2 + j) (by omega)]; exact h j v hv
  · rw [World.cell?_of_block (a := ⟨b, o2 + j, none⟩) (he.block b hb hq)]; exact h j v hv
theorem DiskAt.settled (h : DiskAt w base p n en lf sf ws q vs) (i : Nat) (hi : i < n) {w' : World} {s' : List UInt8} (he : Edit w w' q (i * 257) 257) (h1 : w'.rangeAt q (i * 257) (bvs s')) (h2 : s'.length = 256) (h3 : w'.cell? ⟨q, i * 257 + 256, none⟩ = some (.slice none 0 0)) :
    DiskAt w' base p n en lf (upd sf i s') (upd ws i []) q (upd vs i (.slice none 0 0)) :=
  h.setQ i hi he.size (fun k hk hkq _ => he.block k hk hkq) he.cell (fun o => (he.frozen o).trans (h.fq o)) h1 h2 h3 (World.ownsRow_nil _ _ _ _) (by simp) (by simp [Value.ownBlock]) (by simp [Value.ownBlock]) (fun j _ _ => .inl rfl)
set_option maxHeartbeats 1000000 in
set_option maxRecDepth 100000 in
theorem settle_0 (h : DiskAt w base p n en lf sf ws q vs) (i : Nat) (hi : i < n) :
    Calls Tryz.prog 88 #[.pointer (some ⟨q, i * 257, none⟩), .int .i64 0] w fun e w' => e = .returned (.tuple #[]) ∧ DiskAt w' base p n en lf (upd sf i (sf i)) (upd ws i []) q (upd vs i (.slice none 0 0)) ∧ Edit w w' q (i * 257) 257 := by
  obtain ⟨hr, hlen, cw⟩ := h.row i hi
  obtain ⟨ao, cap, hv⟩ := h.len i hi
  rw [hv] at cw
  have hq := h.ql
  have fq := h.fq (i * 257 + 256)
  have E1 := edit_setCell w q (i * 257) 257 (i * 257 + 256) (.slice ao 0 0) (by omega) (by omega)
  have C1 : (w.setCell ⟨q, i * 257 + 256, none⟩ (.slice ao 0 0)).cell? ⟨q, i * 257 + 256, none⟩ = some (.slice ao 0 0) := World.cell?_setCell_same _ _ _ cw
  obtain ⟨w1, HW⟩ : ∃ w1, Hid (w1 = w.setCell ⟨q, i * 257 + 256, none⟩ (.slice ao 0 0)) := ⟨_, rfl⟩
  rw [← HW.out] at E1 C1
  have R1 : w1.rangeAt q (i * 257) (bvs (sf i)) := by
    rw [HW.out]; exact range_edit (edit_setCell w q (i * 257 + 256) 1 (i * 257 + 256) _ (by omega) (by omega)) hr hq (by rw [bvs_length, hlen]; omega)
  have hs1 := E1.size
  have LAST := last_raw0 w1 q (i * 257) 0 ao (sf i) R1 hlen C1 (by omega)
  go_enter Tryz.func88, Tryz.ntmps88
  go_wp2_with fail
  rw [show w.setCell ⟨q, i * 257 + 256, none⟩ (.slice ao 0 0) = w1 from HW.out.symm]
  refine LAST.mono ?_
  rintro e w2 ⟨rfl, hb2⟩
  have E2 : Edit w w2 q (i * 257) 257 := E1.trans (edit_below _ _ hb2 (by omega))
  have R2 : w2.rangeAt q (i * 257) (bvs (sf i)) := range_below R1 hb2 (by omega)
  have C2 : w2.cell? ⟨q, i * 257 + 256, none⟩ = some (.slice ao 0 0) := (hb2.cell (p := ⟨q, i * 257 + 256, none⟩) (show q < w1.heap.size by omega)).trans C1
  have F2 : ∀ k, w2.frozen? ⟨q, k, none⟩ = false := fun k => (E2.frozen k).trans (h.fq k)
  clear LAST C1 R1 cw fq
  go_wp2_with (first | ((with_reducible show wpList _ _ _ ({ dst := _, op := Op.store 111 _ _, type := _, pos := _, after := _, guard := _ } :: _) _ _); refine wpList_store_img rfl (.tmp 18) (.tmp 16) rfl q (i * 257) (sf i) (sf i) rfl rfl R2 hlen F2 hlen ?_; intro w3 R3 E3; have C3 := (E3.cell (i * 257 + 256) (by omega)).trans C2; have F3 := (E3.frozen (i * 257 + 256)).trans (F2 _)))
  have E4 := edit_setCell w3 q (i * 257) 257 (i * 257 + 256) (.slice none 0 0) (by omega) (by omega)
  have E := (E2.trans (E3.wide (o2 := i * 257) (len2 := 257) (Nat.le_refl _) (by omega))).trans E4
  have hs3 := E3.size
  have hs2 := E2.size
  have R4 : (w3.setCell ⟨q, i * 257 + 256, none⟩ (.slice none 0 0)).rangeAt q (i * 257) (bvs (sf i)) := range_edit (edit_setCell w3 q (i * 257 + 256) 1 (i * 257 + 256) _ (by omega) (by omega)) R3 (by omega) (by rw [bvs_length, hlen]; omega)
  have C4 : (w3.setCell ⟨q, i * 257 + 256, none⟩ (.slice none 0 0)).cell? ⟨q, i * 257 + 256, none⟩ = some (.slice none 0 0) := World.cell?_setCell_same _ _ _ C3
  go_end0
  exact ⟨rfl, h.settled i hi E R4 hlen C4, E⟩
set_option maxHeartbeats 1000000 in
set_option maxRecDepth 100000 in
theorem settle_S (h : DiskAt w base p n en lf sf ws q vs) (i : Nat) (hi : i < n) (m : Nat) (hm : m < (ws i).length) :
    Calls Tryz.prog 88 #[.pointer (some ⟨q, i * 257, none⟩), .int .i64 ((m : Int) + 1)] w fun e w' => e = .returned (.tuple #[]) ∧ DiskAt w' base p n en lf (upd sf i (ws i)[m]) (upd ws i []) q (upd vs i (.slice none 0 0)) ∧ Edit w w' q (i * 257) 257 := by
  obtain ⟨hr, hlen, cw⟩ := h.row i hi
  obtain ⟨hwo, hwl, _, hnq⟩ := h.wr i hi
  obtain ⟨g, cap, hv, hg, hgl, hnc, hcm, hat⟩ := write_at hwo hwl (by omega)
  rw [hv] at cw
  have hgq : g ≠ q := fun e => hnq (by rw [hv, e]; rfl)
  have hy := hwl _ (List.getElem_mem hm)
  have hRy := hat m hm
  have hmc : (m : Int) + 1 ≤ cap := by omega
  have hcm' : (cap : Int) ≤ 9223372036854775807 := by unfold maxLen at hcm; omega
  generalize (ws i)[m] = y at *
  have hq := h.ql
  have fq := h.fq (i * 257 + 256)
  have E1 := edit_setCell w q (i * 257) 257 (i * 257 + 256) (.slice (some ⟨g, 0, none⟩) (m + 1) (m + 1)) (by omega) (by omega)
  have C1 : (w.setCell ⟨q, i * 257 + 256, none⟩ (.slice (some ⟨g, 0, none⟩) (m + 1) (m + 1))).cell? ⟨q, i * 257 + 256, none⟩ = some (.slice (some ⟨g, 0, none⟩) (m + 1) (m + 1)) := World.cell?_setCell_same _ _ _ cw
  obtain ⟨w1, HW⟩ : ∃ w1, Hid (w1 = w.setCell ⟨q, i * 257 + 256, none⟩ (.slice (some ⟨g, 0, none⟩) (m + 1) (m + 1))) := ⟨_, rfl⟩
  rw [← HW.out] at E1 C1
  have R1 : w1.rangeAt q (i * 257) (bvs (sf i)) := by
    rw [HW.out]; exact range_edit (edit_setCell w q (i * 257 + 256) 1 (i * 257 + 256) _ (by omega) (by omega)) hr hq (by rw [bvs_length, hlen]; omega)
  have hs1 := E1.size
  have RY : w1.rangeAt g (m * 256) (bvs y) := range_edit E1 hRy hgl (.inl hgq)
  have LAST := last_rawS w1 q (i * 257) g m (m + 1) y RY hy C1 (by omega) (by omega)
  clear hat hRy
  go_enter Tryz.func88, Tryz.ntmps88
  go_wp2_with fail
  rw [show w.setCell ⟨q, i * 257 + 256, none⟩ (.slice (some ⟨g, 0, none⟩) (m + 1) (m + 1)) = w1 from HW.out.symm]
  refine LAST.mono ?_
  rintro e w2 ⟨rfl, hb2⟩
  have E2 : Edit w w2 q (i * 257) 257 := E1.trans (edit_below _ _ hb2 (by omega))
  have R2 : w2.rangeAt q (i * 257) (bvs (sf i)) := range_below R1 hb2 (by omega)
  have C2 : w2.cell? ⟨q, i * 257 + 256, none⟩ = some (.slice (some ⟨g, 0, none⟩) (m + 1) (m + 1)) := (hb2.cell (p := ⟨q, i * 257 + 256, none⟩) (show q < w1.heap.size by omega)).trans C1
  have F2 : ∀ k, w2.frozen? ⟨q, k, none⟩ = false := fun k => (E2.frozen k).trans (h.fq k)
  clear LAST C1 R1 cw fq
  go_wp2_with (first | ((with_reducible show wpList _ _ _ ({ dst := _, op := Op.store 111 _ _, type := _, pos := _, after := _, guard := _ } :: _) _ _); refine wpList_store_img rfl (.tmp 18) (.tmp 16) rfl q (i * 257) y (sf i) rfl rfl R2 hlen F2 hy ?_; intro w3 R3 E3; have C3 := (E3.cell (i * 257 + 256) (by omega)).trans C2; have F3 := (E3.frozen (i * 257 + 256)).trans (F2 _)))
  have E4 := edit_setCell w3 q (i * 257) 257 (i * 257 + 256) (.slice none 0 0) (by omega) (by omega)
  have E := (E2.trans (E3.wide (o2 := i * 257) (len2 := 257) (Nat.le_refl _) (by omega))).trans E4
  have hs3 := E3.size
  have hs2 := E2.size
  have R4 : (w3.setCell ⟨q, i * 257 + 256, none⟩ (.slice none 0 0)).rangeAt q (i * 257) (bvs y) := range_edit (edit_setCell w3 q (i * 257 + 256) 1 (i * 257 + 256) _ (by omega) (by omega)) R3 (by omega) (by rw [bvs_length, hy]; omega)
  have C4 : (w3.setCell ⟨q, i * 257 + 256, none⟩ (.slice none 0 0)).cell? ⟨q, i * 257 + 256, none⟩ = some (.slice none 0 0) := World.cell?_setCell_same _ _ _ C3
  go_end0
  exact ⟨rfl, h.settled i hi E R4 hy C4, E⟩
theorem settle_any (h : DiskAt w base p n en lf sf ws q vs) (i : Nat) (hi : i < n) (m : Nat) (hm : m ≤ (ws i).length) :
    Calls Tryz.prog 88 #[.pointer (some ⟨q, i * 257, none⟩), .int .i64 (m : Int)] w fun e w' => e = .returned (.tuple #[]) ∧ DiskAt w' base p n en lf (upd sf i (lastOf (sf i) ((ws i).take m))) (upd ws i []) q (upd vs i (.slice none 0 0)) ∧ Edit w w' q (i * 257) 257 := by
  cases m with
  | zero => exact settle_0 h i hi
  | succ m =>
    rw [lastOf_snoc (sf i) (ws i) m (by omega)]
    exact settle_S h i hi m (by omega)
end
end Go.Proofs.YtaljaledeljllaaGreat
