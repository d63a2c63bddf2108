/- Disk.Copy. -/
import Derived.Test.YtcmkgcdjjplgdaaCopyM
namespace Go.Proofs.Ytcmkgcdjjplgdaa
open Go.RowKit
theorem CopyAt.start {w2 : World} {H p' g' c' n B : Nat} {x : Value} {en : Bool} {lf : Int} {sf : Nat → List UInt8} {ws : Nat → List (List UInt8)} {L : List Nat} {vs : Nat → Value} (hH : H ≤ p') (hHg : H ≤ g') (hpg : p' ≠ g') (hn : 0 < n) (hs : ∀ i, i < n → (sf i).length = 256) (hp : w2.heap[p']? = some (.cells #[x, .bool en, .int .i64 lf] 60 (0, 0))) (ho : w2.ownsRow B 73 257 (.slice (some ⟨g', 0, none⟩) n c') n (allC sf vs n)) :
    CopyAt (w2.setCell ⟨p', 0, none⟩ (.slice (some ⟨g', 0, none⟩) n c')) H p' g' c' n en lf sf ws L 0 vs vs := by
  obtain ⟨g, c, e, hgl, hnc, hcb, hcell, hfz⟩ := owns_cells ho hn
  cases e
  have hr : (w2.setCell ⟨p', 0, none⟩ (.slice (some ⟨g', 0, none⟩) n c')).heap[p']? = some (.cells #[.slice (some ⟨g', 0, none⟩) n c', .bool en, .int .i64 lf] 60 (0, 0)) := heap_setCell_same w2 p' 0 _ 60 _ hp
  have hpl : p' < w2.heap.size := (Array.getElem?_eq_some_iff.1 hp).1
  have hz : (w2.setCell ⟨p', 0, none⟩ (.slice (some ⟨g', 0, none⟩) n c')).heap.size = w2.heap.size := by simp [World.setCell]
  have hf : Fr (fun k => k = p') w2 (w2.setCell ⟨p', 0, none⟩ (.slice (some ⟨g', 0, none⟩) n c')) := (Fr.refl _ _).setCell p' 0 _ rfl
  have cq : ∀ o, (w2.setCell ⟨p', 0, none⟩ (.slice (some ⟨g', 0, none⟩) n c')).cell? ⟨g', o, none⟩ = w2.cell? ⟨g', o, none⟩ := fun o => fr_cell hf (a := ⟨g', o, none⟩) hgl (fun e => hpg e.symm)
  exact {
    pb := hH, qb := hHg, pq := hpg, cb := ⟨hnc, hcb⟩
    c0 := by rw [cell_of_row _ p' 0 _ _ _ hr]; rfl
    c1 := by rw [cell_of_row _ p' 1 _ _ _ hr]; rfl
    c2 := by rw [cell_of_row _ p' 2 _ _ _ hr]; rfl
    fp := fun o => frozen_of_row _ p' o _ _ hr
    fq := fun o => (fr_frozen hf (a := ⟨g', o, none⟩) hgl (fun e => hpg e.symm)).trans (hfz o)
    pl := by omega
    ql := by omega
    row := fun i hi => by
      have hl := hs i hi
      refine ⟨fun j v hv => ?_, ?_⟩
      · have hj : j < (bvs (sf i)).length := (List.getElem?_eq_some_iff.1 hv).1
        rw [bvs_length, hl] at hj
        rw [cq]
        refine hcell _ _ ?_
        rw [allC_get sf vs n hs i j hi (by omega), blkC, List.getElem?_append_left (by rw [bvs_length, hl]; exact hj)]
        exact hv
      · rw [cq]
        refine hcell _ _ ?_
        rw [allC_get sf vs n hs i 256 hi (by omega), blkC, List.getElem?_append_right (by rw [bvs_length, hl]; omega), bvs_length, hl]
        rfl
    don := fun i _ hm => by simp at hm
    rest := fun i _ _ => rfl
    ap := fun i j _ _ hm => by simp at hm }
section
variable {w : World} {base p n : Nat} {en : Bool} {lf : Int} {sf : Nat → List UInt8} {ws : Nat → List (List UInt8)} {q : Nat} {vs : Nat → Value}
theorem DiskAt.news (h : DiskAt w base p n en lf sf ws q vs) : ∀ j v, (allC sf vs n)[j]? = some v → w.cell? ⟨q, j, none⟩ = some v := by
  intro j v hv
  have hs : ∀ i, i < n → (sf i).length = 256 := fun i hi => (h.row i hi).2.1
  have hj : j < (allC sf vs n).length := (List.getElem?_eq_some_iff.1 hv).1
  rw [allC_len sf vs n hs] at hj
  have hi : j / 257 < n := by omega
  have e : j = (j / 257) * 257 + j % 257 := by omega
  have hm : j % 257 < 257 := by omega
  generalize j / 257 = i at *
  generalize j % 257 = r at *
  subst e
  rw [allC_get sf vs n hs i r hi hm, blkC] at hv
  by_cases hr : r < 256
  · rw [List.getElem?_append_left (by rw [bvs_length, hs i hi]; exact hr)] at hv
    exact (h.row i hi).1 r v hv
  · obtain rfl : r = 256 := by omega
    rw [List.getElem?_append_right (by rw [bvs_length, hs i hi]; omega), bvs_length, hs i hi] at hv
    have : vs i = v := by simpa using hv
    rw [← this]
    exact (h.row i hi).2.2
theorem flat_len {l : List (List UInt8)} (h : ∀ x ∈ l, x.length = 256) : (l.flatMap bvs).length = l.length * 256 := by
  induction l with
  | nil => rfl
  | cons a r ih => rw [List.flatMap_cons, List.length_append, ih (fun x hx => h x (by simp [hx])), bvs_length, h a (by simp), List.length_cons]; omega
set_option maxRecDepth 100000 in
set_option maxHeartbeats 8000000 in
theorem dcopy_any (h : DiskAt w base p n en lf sf ws q vs) (h1 : 1 ≤ n) (hwl : ∀ i, i < n → (ws i).length ≤ 1000000) (hnil : ∀ i, i < n → ws i = [] → vs i = .slice none 0 0) (L : List Nat) (hL : L = openL ws n) :
    Calls Try.prog 10 #[.pointer (some ⟨p, 0, none⟩)] w fun e w' => ∃ p' q' v2, e = .returned (.pointer (some ⟨p', 0, none⟩)) ∧ DiskAt w' w.heap.size p' n en lf sf ws q' v2 ∧ (∀ i, i < n → ws i = [] → v2 i = .slice none 0 0) ∧ Below w.heap.size w w' := by
  have hn := h.nn
  have HSF : Hid (∀ i, i < n → (sf i).length = 256) := fun i hi => (h.row i hi).2.1
  have HWS : Hid (∀ i, i < n → ∀ x ∈ ws i, x.length = 256) := fun i hi => (h.wr i hi).2.1
  have HWL : Hid (∀ i, i < n → (ws i).length ≤ 1000000) := hwl
  have HNIL : Hid (∀ i, i < n → ws i = [] → vs i = .slice none 0 0) := hnil
  have HLL : Hid (∀ x ∈ L, x < n ∧ 0 < (ws x).length) := by rw [hL]; exact openL_lt ws n
  have HND : Hid L.Nodup := by rw [hL]; exact openL_nodup ws n
  have hLn : L.length ≤ n := by rw [hL]; exact openL_len ws n
  have HL : Hid (L = openL ws n) := hL
  clear hwl hnil hL
  obtain ⟨cq, hcq1, hcq2, c0⟩ := h.c0
  have c1 := h.c1
  have c2 := h.c2
  have hq := h.ql
  have hbA : Below w.heap.size w (w.alloc (.cells #[.slice (some ⟨q, 0, none⟩) n cq, .bool en, .int .i64 lf] 60)) := (Below.refl _ _).alloc (Nat.le_refl _) _
  have hzA : (w.alloc (.cells #[.slice (some ⟨q, 0, none⟩) n cq, .bool en, .int .i64 lf] 60)).heap.size = w.heap.size + 1 := by show (w.heap.push _).size = _; simp
  have hrA : (w.alloc (.cells #[.slice (some ⟨q, 0, none⟩) n cq, .bool en, .int .i64 lf] 60)).heap[w.heap.size]? = some (.cells #[.slice (some ⟨q, 0, none⟩) n cq, .bool en, .int .i64 lf] 60 (0, 0)) := heap_alloc_new _ _
  have CL := clone_blks q n cq (allC sf vs n) (allC_len sf vs n HSF.out) h1 (by omega) (w.alloc (.cells #[.slice (some ⟨q, 0, none⟩) n cq, .bool en, .int .i64 lf] 60)) (by omega) (h.below hbA (Nat.le_refl _)).news
  have H0 : Hid (DiskAt w base p n en lf sf ws q vs) := h
  have c0A := (hbA.cell (p := ⟨p, 0, none⟩) h.pl).trans c0
  clear h
  go_enter Try.func10, Try.ntmps10
  go_upto_region 4 with fail
  generalize w.alloc (.cells #[.slice (some ⟨q, 0, none⟩) n cq, .bool en, .int .i64 lf] 60) = wA at hbA hzA hrA CL c0A ⊢
  obtain ⟨pp, hpp⟩ : ∃ pp, Hid (pp = w.heap.size) := ⟨_, rfl⟩
  have hrA' : wA.heap[pp]? = some (.cells #[.slice (some ⟨q, 0, none⟩) n cq, .bool en, .int .i64 lf] 60 (0, 0)) := by rw [hpp.out]; exact hrA
  have HBA : Hid (Below w.heap.size w wA ∧ wA.heap.size = w.heap.size + 1) := ⟨hbA, hzA⟩
  simp only [← hpp.out]
  clear hrA hbA hzA c0 c1 c2
  go_wp2_with fail
  refine CL.mono ?_
  clear CL c0A
  rintro e w2 ⟨g', c', rfl, ho, hg', hb2⟩
  have hr2 : w2.heap[pp]? = some (.cells #[.slice (some ⟨q, 0, none⟩) n cq, .bool en, .int .i64 lf] 60 (0, 0)) := by
    rw [hb2.block pp (by have := HBA.out.2; have := hpp.out; omega)]; exact hrA'
  have HC : Hid (CopyAt (w2.setCell ⟨pp, 0, none⟩ (.slice (some ⟨g', 0, none⟩) n c')) w.heap.size pp g' c' n en lf sf ws L 0 vs vs) := CopyAt.start (by have := hpp.out; omega) (by have := HBA.out.2; omega) (by have := hpp.out; have := HBA.out.2; omega) (by omega) HSF.out hr2 ho
  have HB3 : Hid (Below w.heap.size w (w2.setCell ⟨pp, 0, none⟩ (.slice (some ⟨g', 0, none⟩) n c'))) := (HBA.out.1.trans (hb2.mono HBA.out.1.size)).setCell (p := ⟨pp, 0, none⟩) (by show w.heap.size ≤ pp; have := hpp.out; omega) _
  have cc : w2.cell? ⟨pp, 0, none⟩ = some (.slice (some ⟨q, 0, none⟩) n cq) := by rw [cell_of_row w2 pp 0 _ _ _ hr2]; rfl
  have ff : w2.frozen? ⟨pp, 0, none⟩ = false := frozen_of_row w2 pp 0 _ _ hr2
  clear ho hg' hb2 hr2 hrA'
  go_upto_region 5 with fail
  generalize w2.setCell ⟨pp, 0, none⟩ (.slice (some ⟨g', 0, none⟩) n c') = w3 at HC HB3 ⊢
  clear cc ff HBA
  have OPEN := open_any (H0.out.below HB3.out (Nat.le_refl _))
  rw [← HL.out] at OPEN
  go_wp2_with fail
  refine OPEN.mono ?_
  clear OPEN
  rintro e w4 ⟨v, rfl, hown, hb4⟩
  obtain ⟨ao, ac, rfl, hac, hao, _⟩ := hown.form
  have HC4 : Hid _ := HC.out.up hb4
  have HB4 : Hid (Below w.heap.size w w4) := HB3.out.trans (hb4.mono HB3.out.size)
  have HO4 : Hid (OwnI w4 w3.heap.size (.slice ao L.length ac) L) := hown
  have HQ3 : Hid (g' < w3.heap.size) := HC.out.ql
  clear hown hb4 HC HB3
  have hL4 : (L.length : Int) ≤ 4096 := by omega
  go_wp2
  go_loopw [20] (fun t wr => ∃ (k : Nat) (v2 : Nat → Value), k ≤ L.length ∧ t = .int .i64 k ∧ Hid (CopyAt wr w.heap.size pp g' c' n en lf sf ws L k vs v2) ∧ Hid (OwnI wr w3.heap.size (.slice ao L.length ac) L) ∧ Hid (Below w.heap.size w wr)) (fun t _ => L.length - (intOf t).toNat)
  case atStart => exact ⟨0, _, by omega, rfl, HC4, HO4, HB4⟩
  case round =>
    obtain ⟨k, v2, hk, rfl, HCW, HOW, HBW⟩ := hrel
    clear HC4 HO4 HB4
    by_cases hlt : (k : Int) < L.length
    · obtain ⟨g, rfl⟩ := hao (by omega)
      obtain ⟨ao', ac', e, _, _, hcell⟩ := HOW.out.form
      cases e
      have cL := hcell k (by omega) g rfl
      clear hcell
      have hk' : k < L.length := by omega
      have hLb : L[k]? = some (L.getD k 0) := by rw [List.getD_eq_getElem?_getD, List.getElem?_eq_getElem hk']; rfl
      have hbm : L.getD k 0 ∈ L := List.mem_of_getElem? hLb
      obtain ⟨hb, hwb⟩ := HLL.out _ hbm
      have hnew : ¬ L.getD k 0 ∈ L.take k := fun hm => by
        obtain ⟨j, hj, e⟩ := List.getElem_of_mem hm
        rw [List.getElem_take] at e
        rw [List.length_take] at hj
        have hne := nodup_ne HND.out j k (by omega) hk' (by omega)
        apply hne
        rw [e, List.getD_eq_getElem?_getD, List.getElem?_eq_getElem hk']; rfl
      have HBF : Hid (L[k]? = some (L.getD k 0) ∧ ¬ L.getD k 0 ∈ L.take k) := ⟨hLb, hnew⟩
      clear hLb hnew hbm
      generalize L.getD k 0 = b at *
      have hbI : (b : Int) < n := by omega
      have hnI : (n : Int) ≤ 4096 := by omega
      obtain ⟨gv, cv, hvs, hgl, hmc, hcv, hcells, _⟩ := owns_cells (H0.out.wr b hb).1 hwb
      obtain ⟨cq2, hd1, hd2, d0⟩ := H0.out.c0
      obtain ⟨rfl⟩ : cq2 = cq2 := rfl
      have KP : ∀ W, (Fr (fun j => j = g') wr W ∧ Below w.heap.size wr W) → W.cell? ⟨p, 0, none⟩ = some (.slice (some ⟨q, 0, none⟩) n cq2) ∧ W.cell? ⟨pp, 0, none⟩ = some (.slice (some ⟨g', 0, none⟩) n c') ∧ W.cell? ⟨q, b * 257 + 256, none⟩ = some (.slice (some ⟨gv, 0, none⟩) (ws b).length cv) := fun W hW => by
        have hbl := HBW.out.trans hW.2
        refine ⟨(hbl.cell (p := ⟨p, 0, none⟩) H0.out.pl).trans d0, (fr_cell hW.1 (a := ⟨pp, 0, none⟩) HCW.out.pl HCW.out.pq).trans HCW.out.c0, ?_⟩
        rw [hbl.cell (p := ⟨q, b * 257 + 256, none⟩) hq, (H0.out.row b hb).2.2, hvs]
      have CI := clone_imgs gv (ws b).length cv ((ws b).flatMap bvs) (flat_len (HWS.out b hb)) hwb (HWL.out b hb) wr.drew (by have := HBW.out.size; show gv < wr.heap.size; omega) (fun j v hv => (HBW.out.drew.cell (p := ⟨gv, j, none⟩) hgl).trans (hcells j v hv))
      have hcc := HCW.out.cb
      have hS0 : Fr (fun j => j = g') wr wr.drew ∧ Below w.heap.size wr wr.drew := ⟨(Fr.refl _ _).drew, (Below.refl _ _).drew⟩
      have KQ : wr.drew.cell? ⟨g', b * 257 + 256, none⟩ = some (v2 b) ∧ wr.drew.frozen? ⟨g', b * 257 + 256, none⟩ = false := ⟨(HCW.out.row b hb).2, HCW.out.fq _⟩
      clear hvs hgl hcells d0
      obtain ⟨mb, HMB⟩ : ∃ mb, Hid ((ws b).length = mb) := ⟨_, rfl⟩
      rw [HMB.out] at KP CI hwb hmc
      go_upto_region 8 with fail
      refine wp_region_held_drew (S := (fun W => Fr (fun j => j = g') wr W ∧ Below w.heap.size wr W)) (by kernel_rfl) hS0 (fun hH => ?_)
      refine takeH (i := 0) (dst := some 24) (v := ?v1) rfl rfl (by kernel_rfl) (by kernel_rfl) (by kernel_rfl) (fun _ _ _ h => h) rfl ?hy1 hH rfl ?rest1
      case hy1 => (intro W hW; have k1 := (KP W hW).1; have k2 := (KP W hW).2.1; have k3 := (KP W hW).2.2; clear hW; go_simp; try with_reducible rfl)
      (try simp only [Act.put, List.setIfInBounds_toArray, List.set_cons_zero, List.set_cons_succ])
      refine takeH (i := 1) (dst := some 25) (v := ?v2) rfl rfl (by kernel_rfl) (by kernel_rfl) (by kernel_rfl) (fun _ _ _ h => h) rfl ?hy2 hH rfl ?rest2
      case hy2 => (intro W hW; have k1 := (KP W hW).1; have k2 := (KP W hW).2.1; have k3 := (KP W hW).2.2; clear hW; go_simp; try with_reducible rfl)
      (try simp only [Act.put, List.setIfInBounds_toArray, List.set_cons_zero, List.set_cons_succ])
      refine takeH (i := 2) (dst := some 26) (v := ?v3) rfl rfl (by kernel_rfl) (by kernel_rfl) (by kernel_rfl) (fun _ _ _ h => h) rfl ?hy3 hH rfl ?rest3
      case hy3 => (intro W hW; have k1 := (KP W hW).1; have k2 := (KP W hW).2.1; have k3 := (KP W hW).2.2; clear hW; go_simp; try with_reducible rfl)
      (try simp only [Act.put, List.setIfInBounds_toArray, List.set_cons_zero, List.set_cons_succ])
      refine takeH (i := 3) (dst := some 27) (v := ?v4) rfl rfl (by kernel_rfl) (by kernel_rfl) (by kernel_rfl) (fun _ _ _ h => h) rfl ?hy4 hH rfl ?rest4
      case hy4 => (intro W hW; have k1 := (KP W hW).1; have k2 := (KP W hW).2.1; have k3 := (KP W hW).2.2; clear hW; go_simp; try with_reducible rfl)
      (try simp only [Act.put, List.setIfInBounds_toArray, List.set_cons_zero, List.set_cons_succ])
      refine takeH (i := 4) (dst := some 28) (v := ?v5) rfl rfl (by kernel_rfl) (by kernel_rfl) (by kernel_rfl) (fun _ _ _ h => h) rfl ?hy5 hH rfl ?rest5
      case hy5 => (intro W hW; have k1 := (KP W hW).1; have k2 := (KP W hW).2.1; have k3 := (KP W hW).2.2; clear hW; go_simp; try with_reducible rfl)
      (try simp only [Act.put, List.setIfInBounds_toArray, List.set_cons_zero, List.set_cons_succ])
      refine takeH (i := 5) (dst := some 29) (v := ?v6) rfl rfl (by kernel_rfl) (by kernel_rfl) (by kernel_rfl) (fun _ _ _ h => h) rfl ?hy6 hH rfl ?rest6
      case hy6 => (intro W hW; have k1 := (KP W hW).1; have k2 := (KP W hW).2.1; have k3 := (KP W hW).2.2; clear hW; go_simp; try with_reducible rfl)
      (try simp only [Act.put, List.setIfInBounds_toArray, List.set_cons_zero, List.set_cons_succ])
      refine takeH (i := 6) (dst := some 30) (v := ?v7) rfl rfl (by kernel_rfl) (by kernel_rfl) (by kernel_rfl) (fun _ _ _ h => h) rfl ?hy7 hH rfl ?rest7
      case hy7 => (intro W hW; have k1 := (KP W hW).1; have k2 := (KP W hW).2.1; have k3 := (KP W hW).2.2; clear hW; go_simp; try with_reducible rfl)
      (try simp only [Act.put, List.setIfInBounds_toArray, List.set_cons_zero, List.set_cons_succ])
      refine takeH (i := 7) (dst := some 31) (v := ?v8) rfl rfl (by kernel_rfl) (by kernel_rfl) (by kernel_rfl) (fun _ _ _ h => h) rfl ?hy8 hH rfl ?rest8
      case hy8 => (intro W hW; have k1 := (KP W hW).1; have k2 := (KP W hW).2.1; have k3 := (KP W hW).2.2; clear hW; go_simp; try with_reducible rfl)
      (try simp only [Act.put, List.setIfInBounds_toArray, List.set_cons_zero, List.set_cons_succ])
      refine takeH (i := 8) (dst := some 32) (v := ?v9) rfl rfl (by kernel_rfl) (by kernel_rfl) (by kernel_rfl) (fun _ _ _ h => h) rfl ?hy9 hH rfl ?rest9
      case hy9 => (intro W hW; have k1 := (KP W hW).1; have k2 := (KP W hW).2.1; have k3 := (KP W hW).2.2; clear hW; go_simp; try with_reducible rfl)
      (try simp only [Act.put, List.setIfInBounds_toArray, List.set_cons_zero, List.set_cons_succ])
      refine takeH (i := 9) (dst := some 33) (v := ?v10) rfl rfl (by kernel_rfl) (by kernel_rfl) (by kernel_rfl) (fun _ _ _ h => h) rfl ?hy10 hH rfl ?rest10
      case hy10 => (intro W hW; have k1 := (KP W hW).1; have k2 := (KP W hW).2.1; have k3 := (KP W hW).2.2; clear hW; go_simp; try with_reducible rfl)
      (try simp only [Act.put, List.setIfInBounds_toArray, List.set_cons_zero, List.set_cons_succ])
      refine takeH (i := 10) (dst := some 34) (v := ?v11) rfl rfl (by kernel_rfl) (by kernel_rfl) (by kernel_rfl) (fun _ _ _ h => h) rfl ?hy11 hH rfl ?rest11
      case hy11 => (intro W hW; have k1 := (KP W hW).1; have k2 := (KP W hW).2.1; have k3 := (KP W hW).2.2; clear hW; go_simp; try with_reducible rfl)
      (try simp only [Act.put, List.setIfInBounds_toArray, List.set_cons_zero, List.set_cons_succ])
      refine callH (i := 11) { dst := some 35, op := Go.Op.call { callee := Go.Callee.value (Go.Operand.func 33), args := #[Go.Operand.tmp 34], argTypes := #[71] }, type := 71, pos := "disk.go:199", after := #[{ on := 10, ground := Go.Ground.data }], guard := none } (by kernel_rfl) rfl rfl (fun K hK => ?_)
      go_simp
      refine CI.mono ?_
      rintro e v1 ⟨g2, c2, rfl, ho, hg2, hb2⟩
      have hS1 : Fr (fun j => j = g') wr v1 ∧ Below w.heap.size wr v1 := ⟨(Fr.refl _ _).drew.trans (Fr.of_below hb2), (Below.refl _ _).drew.trans (hb2.mono HBW.out.size)⟩
      have k1 := (hb2.cell (p := ⟨g', b * 257 + 256, none⟩) HCW.out.ql).trans KQ.1
      have k2 := (hb2.frozen (p := ⟨g', b * 257 + 256, none⟩) HCW.out.ql).trans KQ.2
      have HO2 : Hid _ := And.intro ho (And.intro hg2 hb2)
      clear ho hg2 hb2 CI
      clear hH
      refine hK.out _ _ hS1 (fun hH => ?_)
      clear hK K
      (try simp only [Act.put, List.setIfInBounds_toArray, List.set_cons_zero, List.set_cons_succ])
      refine takeH (i := 12) (dst := some 36) (v := ?v12) rfl rfl (by kernel_rfl) (by kernel_rfl) (by kernel_rfl) (fun _ _ _ h => h) rfl ?hy12 hH rfl ?rest12
      case hy12 => (intro W hW; have k1 := (KP W hW).1; have k2 := (KP W hW).2.1; have k3 := (KP W hW).2.2; clear hW; go_simp; try with_reducible rfl)
      (try simp only [Act.put, List.setIfInBounds_toArray, List.set_cons_zero, List.set_cons_succ])
      refine takeH (i := 13) (dst := some 37) (v := ?v13) rfl rfl (by kernel_rfl) (by kernel_rfl) (by kernel_rfl) (fun _ _ _ h => h) rfl ?hy13 hH rfl ?rest13
      case hy13 => (intro W hW; have k1 := (KP W hW).1; have k2 := (KP W hW).2.1; have k3 := (KP W hW).2.2; clear hW; go_simp; try with_reducible rfl)
      (try simp only [Act.put, List.setIfInBounds_toArray, List.set_cons_zero, List.set_cons_succ])
      refine callH (i := 14) { dst := none, op := Go.Op.store 71 (Go.Operand.tmp 37) (Go.Operand.tmp 35), type := 0, pos := "disk.go:199", after := #[{ on := 13, ground := Go.Ground.data }, { on := 11, ground := Go.Ground.data }, { on := 11, ground := Go.Ground.chain }, { on := 0, ground := Go.Ground.phase }, { on := 1, ground := Go.Ground.phase }, { on := 2, ground := Go.Ground.phase }, { on := 3, ground := Go.Ground.phase }, { on := 4, ground := Go.Ground.phase }, { on := 5, ground := Go.Ground.phase }, { on := 6, ground := Go.Ground.phase }, { on := 7, ground := Go.Ground.phase }, { on := 8, ground := Go.Ground.phase }, { on := 9, ground := Go.Ground.phase }, { on := 10, ground := Go.Ground.phase }, { on := 11, ground := Go.Ground.phase }], guard := none } (by kernel_rfl) rfl rfl (fun K hK => ?_)
      go_simp
      have hS2 : Fr (fun j => j = g') wr (v1.setCell ⟨g', b * 257 + 256, none⟩ (.slice (some ⟨g2, 0, none⟩) mb c2)) ∧ Below w.heap.size wr (v1.setCell ⟨g', b * 257 + 256, none⟩ (.slice (some ⟨g2, 0, none⟩) mb c2)) := ⟨hS1.1.setCell g' _ _ rfl, hS1.2.setCell (p := ⟨g', b * 257 + 256, none⟩) HCW.out.qb _⟩
      have HST : CopyAt (v1.setCell ⟨g', b * 257 + 256, none⟩ (.slice (some ⟨g2, 0, none⟩) mb c2)) w.heap.size pp g' c' n en lf sf ws L (k + 1) vs (upd v2 b (.slice (some ⟨g2, 0, none⟩) mb c2)) ∧ OwnI (v1.setCell ⟨g', b * 257 + 256, none⟩ (.slice (some ⟨g2, 0, none⟩) mb c2)) w3.heap.size (.slice (some ⟨g, 0, none⟩) L.length ac) L ∧ Below w.heap.size w (v1.setCell ⟨g', b * 257 + 256, none⟩ (.slice (some ⟨g2, 0, none⟩) mb c2)) := ⟨(HCW.out.up (W' := wr.drew) (Below.refl _ _).drew).step HSF.out HBW.out.size (by rw [HMB.out]; exact HO2.out.1) HO2.out.2.1 HO2.out.2.2 hb HBF.out.1 HBF.out.2, owns_fr HOW.out hS2.1 (fun j hj e => by have := (World.ownsRow.lt HOW.out j hj).1; have := HQ3.out; omega), HBW.out.trans hS2.2⟩
      clear hH
      refine hK.out _ _ hS2 (fun hH => ?_)
      clear hK K
      (try simp only [Act.put])
      refine wpAnyH_done (by kernel_rfl) ?_ _
      clear hH
      have HM : Hid _ := HST
      clear HST
      go_wp2
      go_roundw
      case rel => exact ⟨k + 1, _, by omega, by go_num, HM.out.1, HM.out.2.1, HM.out.2.2⟩
      case measure => simp [intOf]; omega
    · obtain rfl : k = L.length := by omega
      have HF := HCW.out.disk HL.out hn HSF.out HWS.out HNIL.out
      go_wp2
      go_ret
      exact ⟨pp, rfl, g', v2, HF.1, HF.2, HBW.out⟩
end
end Go.Proofs.Ytcmkgcdjjplgdaa
