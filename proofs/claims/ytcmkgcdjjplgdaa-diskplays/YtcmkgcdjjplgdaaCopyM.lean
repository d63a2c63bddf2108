/- Disk.Copy: what a copy that is under way holds. -/
import Derived.Test.YtcmkgcdjjplgdaaClone
namespace Go.Proofs.Ytcmkgcdjjplgdaa
open Go.RowKit
def blkC (sf : Nat → List UInt8) (vs : Nat → Value) (i : Nat) : List Value := bvs (sf i) ++ [vs i]
def allC (sf : Nat → List UInt8) (vs : Nat → Value) (n : Nat) : List Value := (List.range n).flatMap (blkC sf vs)
theorem blkC_len {sf : Nat → List UInt8} {vs : Nat → Value} {i : Nat} (h : (sf i).length = 256) : (blkC sf vs i).length = 257 := by simp [blkC, bvs_length, h]
theorem allC_succ (sf : Nat → List UInt8) (vs : Nat → Value) (n : Nat) : allC sf vs (n + 1) = allC sf vs n ++ blkC sf vs n := by simp [allC, List.range_succ, List.flatMap_append]
theorem allC_len (sf : Nat → List UInt8) (vs : Nat → Value) : ∀ n, (∀ i, i < n → (sf i).length = 256) → (allC sf vs n).length = n * 257
  | 0, _ => by simp [allC]
  | n + 1, h => by rw [allC_succ, List.length_append, allC_len sf vs n (fun i hi => h i (by omega)), blkC_len (h n (by omega))]; omega
theorem allC_get (sf : Nat → List UInt8) (vs : Nat → Value) : ∀ n, (∀ i, i < n → (sf i).length = 256) → ∀ i j, i < n → j < 257 → (allC sf vs n)[i * 257 + j]? = (blkC sf vs i)[j]?
  | 0, _, i, _, hi, _ => by omega
  | n + 1, h, i, j, hi, hj => by
    have hl := allC_len sf vs n (fun i hi => h i (by omega))
    rw [allC_succ]
    by_cases hin : i = n
    · subst hin
      rw [List.getElem?_append_right (by omega), hl]
      congr 1
      omega
    · have : i * 257 + 257 ≤ n * 257 := by omega
      rw [List.getElem?_append_left (by omega)]
      exact allC_get sf vs n (fun i hi => h i (by omega)) i j (by omega) hj
theorem owns_fr {w w' : World} {S : Nat → Prop} {base e size : Nat} {v : Value} {n : Nat} {xs : List Value} (h : w.ownsRow base e size v n xs) (hf : Fr S w w') (hS : ∀ k, v.ownBlock = some k → ¬ S k) : w'.ownsRow base e size v n xs := by
  obtain ⟨h1, h2⟩ := h
  refine ⟨h1, ?_⟩
  rcases h2 with h2 | ⟨g, cap, cur, hv, hg, hh, r⟩
  · exact .inl h2
  · have hlt : g < w.heap.size := (Array.getElem?_eq_some_iff.1 hh).1
    exact .inr ⟨g, cap, cur, hv, hg, by rw [hf.blk g hlt (hS g (by rw [hv]; rfl))]; exact hh, r⟩
/-- The cells of a row of one's own. -/
theorem owns_cells {w : World} {base e size : Nat} {v : Value} {n : Nat} {xs : List Value} (h : w.ownsRow base e size v n xs) (hn : 0 < n) : ∃ g c, v = .slice (some ⟨g, 0, none⟩) n c ∧ g < w.heap.size ∧ n ≤ c ∧ (c : Int) ≤ 9223372036854775807 ∧ (∀ j x, xs[j]? = some x → w.cell? ⟨g, j, none⟩ = some x) ∧ ∀ j, w.frozen? ⟨g, j, none⟩ = false := by
  obtain ⟨h1, h2⟩ := h
  rcases h2 with ⟨h2, h3⟩ | ⟨g, cap, cur, hv, hg, hh, hnc, hm, hs, hx⟩
  · omega
  · have hlt : g < w.heap.size := (Array.getElem?_eq_some_iff.1 hh).1
    refine ⟨g, cap, hv, hlt, hnc, by unfold maxLen at hm; omega, fun j x hj => ?_, fun j => frozen_of_row w g j _ _ hh⟩
    rw [cell_of_row w g j _ _ _ hh]
    rw [← hx, List.getElem?_take] at hj
    split at hj
    · simpa using hj
    · cases hj
/-- A copy under way: the first t of the open blocks L have lists of their own. -/
structure CopyAt (W : World) (H p' q' c' n : Nat) (en : Bool) (lf : Int) (sf : Nat → List UInt8) (ws : Nat → List (List UInt8)) (L : List Nat) (t : Nat) (vs v2 : Nat → Value) : Prop where
  pb : H ≤ p'
  qb : H ≤ q'
  pq : p' ≠ q'
  cb : n ≤ c' ∧ (c' : Int) ≤ 9223372036854775807
  c0 : W.cell? ⟨p', 0, none⟩ = some (.slice (some ⟨q', 0, none⟩) n c')
  c1 : W.cell? ⟨p', 1, none⟩ = some (.bool en)
  c2 : W.cell? ⟨p', 2, none⟩ = some (.int .i64 lf)
  fp : ∀ o, W.frozen? ⟨p', o, none⟩ = false
  fq : ∀ o, W.frozen? ⟨q', o, none⟩ = false
  pl : p' < W.heap.size
  ql : q' < W.heap.size
  row : ∀ i, i < n → W.rangeAt q' (i * 257) (bvs (sf i)) ∧ W.cell? ⟨q', i * 257 + 256, none⟩ = some (v2 i)
  don : ∀ i, i < n → i ∈ L.take t → W.ownsRow H 70 256 (v2 i) (ws i).length ((ws i).flatMap bvs) ∧ (v2 i).ownBlock ≠ some p' ∧ (v2 i).ownBlock ≠ some q'
  rest : ∀ i, i < n → ¬ i ∈ L.take t → v2 i = vs i
  ap : ∀ i j, i < n → j < n → i ∈ L.take t → j ∈ L.take t → i ≠ j → (v2 i).ownBlock = none ∨ (v2 i).ownBlock ≠ (v2 j).ownBlock
section
variable {W W' : World} {H p' q' c' n : Nat} {en : Bool} {lf : Int} {sf : Nat → List UInt8} {ws : Nat → List (List UInt8)} {L : List Nat} {t : Nat} {vs v2 : Nat → Value}
theorem CopyAt.up (h : CopyAt W H p' q' c' n en lf sf ws L t vs v2) (hb : Below W.heap.size W W') : CopyAt W' H p' q' c' n en lf sf ws L t vs v2 := by
  have cp : ∀ o, W'.cell? ⟨p', o, none⟩ = W.cell? ⟨p', o, none⟩ := fun o => hb.cell (p := ⟨p', o, none⟩) h.pl
  have cq : ∀ o, W'.cell? ⟨q', o, none⟩ = W.cell? ⟨q', o, none⟩ := fun o => hb.cell (p := ⟨q', o, none⟩) h.ql
  exact { h with
    c0 := (cp 0).trans h.c0, c1 := (cp 1).trans h.c1, c2 := (cp 2).trans h.c2
    fp := fun o => (hb.frozen (p := ⟨p', o, none⟩) h.pl).trans (h.fp o)
    fq := fun o => (hb.frozen (p := ⟨q', o, none⟩) h.ql).trans (h.fq o)
    pl := by have := hb.size; have := h.pl; omega
    ql := by have := hb.size; have := h.ql; omega
    row := fun i hi => ⟨range_below (h.row i hi).1 hb h.ql, (cq _).trans (h.row i hi).2⟩
    don := fun i hi hm => ⟨owns_below (h.don i hi hm).1 hb (Nat.le_refl _), (h.don i hi hm).2⟩ }
/-- One list more. -/
theorem CopyAt.step (h : CopyAt W H p' q' c' n en lf sf ws L t vs v2) (hs : ∀ i, i < n → (sf i).length = 256) {b g m c : Nat} (hHW : H ≤ W.heap.size) (ho : W'.ownsRow W.heap.size 70 256 (.slice (some ⟨g, 0, none⟩) m c) (ws b).length ((ws b).flatMap bvs)) (hg : W.heap.size ≤ g) (hb : Below W.heap.size W W') (hbn : b < n) (ht : L[t]? = some b) (hnew : ¬ b ∈ L.take t) :
    CopyAt (W'.setCell ⟨q', b * 257 + 256, none⟩ (.slice (some ⟨g, 0, none⟩) m c)) H p' q' c' n en lf sf ws L (t + 1) vs (upd v2 b (.slice (some ⟨g, 0, none⟩) m c)) := by
  have h' := h.up hb
  have he := edit_setCell W' q' (b * 257 + 256) 1 (b * 257 + 256) (.slice (some ⟨g, 0, none⟩) m c) (Nat.le_refl _) (by omega)
  have hpl := h.pl
  have hql := h.ql
  have hf : Fr (fun k => k = q') W' (W'.setCell ⟨q', b * 257 + 256, none⟩ (.slice (some ⟨g, 0, none⟩) m c)) := Fr.of_edit he rfl
  have cp : ∀ o, (W'.setCell ⟨q', b * 257 + 256, none⟩ (.slice (some ⟨g, 0, none⟩) m c)).cell? ⟨p', o, none⟩ = W'.cell? ⟨p', o, none⟩ := fun o => fr_cell hf (a := ⟨p', o, none⟩) h'.pl h.pq
  have htk : L.take (t + 1) = L.take t ++ [b] := by rw [List.take_add_one, ht]; rfl
  have hmem : ∀ i, i ∈ L.take (t + 1) → i ∈ L.take t ∨ i = b := fun i hi => by rw [htk] at hi; simpa using hi
  have old : ∀ i, i < n → i ∈ L.take t → ∀ k, (v2 i).ownBlock = some k → k < W.heap.size := fun i hi hm k hk => (World.ownsRow.lt (h.don i hi hm).1 k hk).2
  have ne : ∀ i, i ∈ L.take t → i ≠ b := fun i hi e => hnew (e ▸ hi)
  refine { pb := h.pb, qb := h.qb, pq := h.pq, cb := h.cb, c0 := (cp 0).trans h'.c0, c1 := (cp 1).trans h'.c1, c2 := (cp 2).trans h'.c2, fp := fun o => (fr_frozen hf (a := ⟨p', o, none⟩) h'.pl h.pq).trans (h'.fp o), fq := fun o => (he.frozen o).trans (h'.fq o), pl := by have := h'.pl; have := he.size; omega, ql := by have := h'.ql; have := he.size; omega, row := fun i hi => ⟨fun j v hv => ?_, ?_⟩, don := fun i hi hm => ?_, rest := fun i hi hm => ?_, ap := fun i j hi hj hmi hmj hij => ?_ }
  · have hj : j < (bvs (sf i)).length := (List.getElem?_eq_some_iff.1 hv).1
    rw [bvs_length, hs i hi] at hj
    rw [he.cell _ (by omega)]
    exact (h'.row i hi).1 j v hv
  · by_cases hib : i = b
    · subst hib
      rw [upd_same]
      exact World.cell?_setCell_same _ _ _ (h'.row i hi).2
    · rw [upd_other _ _ _ hib, he.cell _ (by omega)]
      exact (h'.row i hi).2
  · rcases hmem i hm with hm | rfl
    · rw [upd_other _ _ _ (ne i hm)]
      refine ⟨owns_fr (h'.don i hi hm).1 hf (fun k hk e => (h.don i hi hm).2.2 (e ▸ hk)), (h.don i hi hm).2⟩
    · rw [upd_same]
      refine ⟨owns_fr (S := fun k => k = q') ?_ hf (fun k hk e => ?_), fun e => ?_, fun e => ?_⟩
      · obtain ⟨h1, h2⟩ := ho
        refine ⟨h1, ?_⟩
        rcases h2 with h2 | ⟨g', cap, cur, hv, hg', r⟩
        · exact .inl h2
        · exact .inr ⟨g', cap, cur, hv, by omega, r⟩
      · have : g = k := Option.some.inj hk
        omega
      · have : g = p' := Option.some.inj e
        omega
      · have : g = q' := Option.some.inj e
        omega
  · have hib : ¬ i = b := fun e => hm (by rw [htk]; simp [e])
    rw [upd_other _ _ _ hib]
    exact h.rest i hi fun c => hm (by rw [htk]; simp [c])
  · rcases hmem i hmi with hmi' | rfl
    · rcases hmem j hmj with hmj' | rfl
      · rw [upd_other _ _ _ (ne i hmi'), upd_other _ _ _ (ne j hmj')]
        exact h.ap i j hi hj hmi' hmj' hij
      · rw [upd_other _ _ _ (ne i hmi'), upd_same]
        cases hv : (v2 i).ownBlock with
        | none => exact .inl rfl
        | some k =>
          right
          intro e
          have := old i hi hmi' k hv
          have : k = g := Option.some.inj e
          omega
    · rcases hmem j hmj with hmj' | rfl
      · rw [upd_same, upd_other _ _ _ (ne j hmj')]
        right
        intro e
        have e' : (v2 j).ownBlock = some g := e.symm
        have := old j hj hmj' g e'
        omega
      · exact absurd rfl hij
/-- All of them: a disk. -/
theorem CopyAt.disk (h : CopyAt W H p' q' c' n en lf sf ws L L.length vs v2) (hL : L = openL ws n) (hn : n ≤ 4096) (hs : ∀ i, i < n → (sf i).length = 256) (hw : ∀ i, i < n → ∀ x ∈ ws i, x.length = 256) (hnil : ∀ i, i < n → ws i = [] → vs i = .slice none 0 0) :
    DiskAt W H p' n en lf sf ws q' v2 ∧ ∀ i, i < n → ws i = [] → v2 i = .slice none 0 0 := by
  have hin : ∀ i, i < n → ¬ ws i = [] → i ∈ L.take L.length := fun i hi hw => by
    rw [List.take_length, hL]
    have := openL_at ws i (by cases h : ws i; exact absurd h hw; simp) n hi
    rw [← this.1]
    have e : (openL ws n).getD (openL ws i).length 0 = (openL ws n)[(openL ws i).length] := by simp [this.2]
    rw [e]; exact List.getElem_mem this.2
  have hout : ∀ i, i < n → ws i = [] → ¬ i ∈ L.take L.length := fun i hi hw hm => by
    rw [List.take_length, hL] at hm
    have := (openL_lt ws n i hm).2
    rw [hw] at this
    cases this
  have hv : ∀ i, i < n → ws i = [] → v2 i = .slice none 0 0 := fun i hi hw => (h.rest i hi (hout i hi hw)).trans (hnil i hi hw)
  refine ⟨{ pb := h.pb, qb := h.qb, pq := h.pq, nn := hn, c0 := ⟨c', h.cb.1, h.cb.2, h.c0⟩, c1 := h.c1, c2 := h.c2, fp := h.fp, fq := h.fq, ql := h.ql, row := fun i hi => ⟨(h.row i hi).1, hs i hi, (h.row i hi).2⟩, wr := fun i hi => ?_, ap := fun i j hi hj hij => ?_ }, hv⟩
  · by_cases hwi : ws i = []
    · rw [hv i hi hwi, hwi]
      exact ⟨World.ownsRow_nil _ _ _ _, fun x hx => (by cases hx), fun e => (by cases e), fun e => (by cases e)⟩
    · obtain ⟨h1, h2, h3⟩ := h.don i hi (hin i hi hwi)
      exact ⟨h1, hw i hi, h2, h3⟩
  · by_cases hwi : ws i = []
    · rw [hv i hi hwi]; exact .inl rfl
    · by_cases hwj : ws j = []
      · rw [hv j hj hwj]
        cases hvi : (v2 i).ownBlock with
        | none => exact .inl rfl
        | some k => right; intro e; cases e
      · exact h.ap i j hi hj (hin i hi hwi) (hin j hj hwj) hij
end
end Go.Proofs.Ytcmkgcdjjplgdaa
