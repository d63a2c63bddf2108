/- What Flush and Crash leave, block by block. -/
import Derived.Test.YtaljaledeljllaaGreatDCrash
namespace Go.Proofs.YtaljaledeljllaaGreat
open Go.RowKit
set_option maxRecDepth 100000
theorem openL_nodup (ws : Nat → List (List UInt8)) (n : Nat) : (openL ws n).Nodup := by
  unfold openL; exact List.Pairwise.filter _ List.nodup_range
theorem nodup_ne {L : List Nat} (h : L.Nodup) (i j : Nat) (hi : i < L.length) (hj : j < L.length) (hne : i ≠ j) : L[i] ≠ L[j] := by
  have h' := List.pairwise_iff_getElem.1 h
  rcases Nat.lt_or_gt_of_ne hne with hlt | hlt
  · exact h' i j hi hj hlt
  · exact fun e => h' j i hj hi hlt e.symm
theorem getD_take_ne {L : List Nat} (h : L.Nodup) (k : Nat) (hk : k < L.length) : L.getD k 0 ∉ L.take k := by
  intro hm
  rw [List.mem_take_iff_getElem] at hm
  obtain ⟨j, hj, e⟩ := hm
  have e2 : L.getD k 0 = L[k] := by simp [hk]
  rw [e2] at e
  exact nodup_ne h j k (by omega) hk (by omega) e
/-- Block by block, behind the first k of L. -/
theorem setS_spec (L : List Nat) (hL : L.Nodup) (mk : Nat → List (List UInt8) → Nat) (sf : Nat → List UInt8) (ws : Nat → List (List UInt8)) : ∀ k, k ≤ L.length →
    (∀ j, j < k → (setS L mk sf ws k).1 (L.getD j 0) = lastOf (sf (L.getD j 0)) ((ws (L.getD j 0)).take (mk j (ws (L.getD j 0)))) ∧ (setS L mk sf ws k).2 (L.getD j 0) = []) ∧
    (∀ i, i ∉ L.take k → (setS L mk sf ws k).1 i = sf i ∧ (setS L mk sf ws k).2 i = ws i)
  | 0, _ => ⟨by intro j hj; omega, fun i _ => ⟨rfl, rfl⟩⟩
  | k + 1, hk => by
    obtain ⟨h1, h2⟩ := setS_spec L hL mk sf ws k (by omega)
    have hnew := h2 _ (getD_take_ne hL k (by omega))
    have htk : L.take (k + 1) = L.take k ++ [L.getD k 0] := by
      have hk' : k < L.length := by omega
      rw [List.take_add_one, List.getElem?_eq_getElem hk']; simp [hk']
    refine ⟨fun j hj => ?_, fun i hi => ?_⟩
    · by_cases hjk : j = k
      · subst hjk
        constructor
        · show upd _ _ _ _ = _
          rw [upd_same, hnew.1, hnew.2]
        · show upd _ _ _ _ = _
          rw [upd_same]
      · have hne : L.getD j 0 ≠ L.getD k 0 := by
          have hj' : j < L.length := by omega
          have hk' : k < L.length := by omega
          intro e
          have e1 : L[j] = L[k] := by simpa [hj', hk'] using e
          exact nodup_ne hL j k hj' hk' hjk e1
        obtain ⟨a, b⟩ := h1 j (by omega)
        constructor
        · show upd _ _ _ _ = _
          rw [upd_other _ _ _ hne]; exact a
        · show upd _ _ _ _ = _
          rw [upd_other _ _ _ hne]; exact b
    · rw [htk, List.mem_append, not_or] at hi
      have hne : i ≠ L.getD k 0 := fun e => hi.2 (by rw [e]; exact List.mem_singleton.2 rfl)
      obtain ⟨a, b⟩ := h2 i hi.1
      constructor
      · show upd _ _ _ _ = _
        rw [upd_other _ _ _ hne]; exact a
      · show upd _ _ _ _ = _
        rw [upd_other _ _ _ hne]; exact b
theorem openL_at (ws : Nat → List (List UInt8)) (i : Nat) (hw : 0 < (ws i).length) : ∀ n, i < n → (openL ws n).getD (openL ws i).length 0 = i ∧ (openL ws i).length < (openL ws n).length
  | 0, h => by omega
  | n + 1, h => by
    rw [openL_succ]
    by_cases hin : i = n
    · subst hin
      rw [if_pos hw]; simp
    · obtain ⟨a, b⟩ := openL_at ws i hw n (by omega)
      refine ⟨?_, by rw [List.length_append]; omega⟩
      rw [List.getD_eq_getElem?_getD, List.getElem?_append_left b, ← List.getD_eq_getElem?_getD]; exact a
/-- Every block below n behind all of the open ones. -/
theorem setS_all (ws : Nat → List (List UInt8)) (sf : Nat → List UInt8) (mk : Nat → List (List UInt8) → Nat) (n i : Nat) (hi : i < n) :
    (setS (openL ws n) mk sf ws (openL ws n).length).1 i = lastOf (sf i) ((ws i).take (mk (openL ws i).length (ws i))) ∧ (setS (openL ws n) mk sf ws (openL ws n).length).2 i = [] := by
  obtain ⟨h1, h2⟩ := setS_spec (openL ws n) (openL_nodup ws n) mk sf ws _ (Nat.le_refl _)
  by_cases hw : 0 < (ws i).length
  · obtain ⟨a, b⟩ := openL_at ws i hw n hi
    have h := h1 _ b
    rw [a] at h; exact h
  · have hn : ws i = [] := List.eq_nil_of_length_eq_zero (by omega)
    have hm : i ∉ (openL ws n).take (openL ws n).length := by
      rw [List.take_length]; intro hm; exact hw (openL_lt ws n i hm).2
    obtain ⟨a, b⟩ := h2 i hm
    rw [a, b, hn, List.take_nil]; exact ⟨rfl, rfl⟩
section
variable {w : World} {base p n : Nat} {en : Bool} {lf : Int} {sf : Nat → List UInt8} {ws : Nat → List (List UInt8)} {q : Nat} {vs : Nat → Value}
theorem DiskAt.congr (h : DiskAt w base p n en lf sf ws q vs) {sf' : Nat → List UInt8} {ws' : Nat → List (List UInt8)} (h1 : ∀ i, i < n → sf i = sf' i) (h2 : ∀ i, i < n → ws i = ws' i) : DiskAt w base p n en lf sf' ws' q vs :=
  { pb := h.pb, qb := h.qb, pq := h.pq, nn := h.nn, c0 := h.c0, c1 := h.c1, c2 := h.c2, fp := h.fp, fq := h.fq, ql := h.ql,
    row := fun i hi => by rw [← h1 i hi]; exact h.row i hi,
    wr := fun i hi => by rw [← h2 i hi]; exact h.wr i hi,
    ap := h.ap }
theorem flush_at (h : DiskAt w base p n en lf sf ws q vs) (hl : 0 ≤ lf ∧ lf ≤ 9223372036854775807) (hg : goesB en lf = true) :
    Calls Tryz.prog 113 #[.pointer (some ⟨p, 0, none⟩)] w fun e w' => e = .returned (.int .i64 0) ∧ (∃ vs', DiskAt w' base p n en (goesL en lf) (fun i => lastOf (sf i) (ws i)) (fun _ => []) q vs') ∧ Below base w w' :=
  (flush_go h hl hg (openL ws n) rfl).mono fun _ _ ⟨h1, ⟨vs', h2⟩, h3⟩ => ⟨h1, ⟨vs', h2.congr (fun i hi => by rw [(setS_all ws sf _ n i hi).1, List.take_length]) (fun i hi => (setS_all ws sf _ n i hi).2)⟩, h3⟩
theorem crash_at (h : DiskAt w base p n en lf sf ws q vs) (sp : Option Addr) (m cap : Nat) (pk : Nat → Int) (hpk : PickAt w q sp m pk) (hm : m ≤ cap ∧ (cap : Int) ≤ 9223372036854775807) :
    Calls Tryz.prog 30 #[.pointer (some ⟨p, 0, none⟩), .slice sp m cap] w fun e w' => e = .returned (.tuple #[]) ∧ (∃ vs', DiskAt w' base p n false 0 (fun i => lastOf (sf i) ((ws i).take (keepN m pk (openL ws i).length (ws i)))) (fun _ => []) q vs') ∧ Below base w w' :=
  (crash_any h sp m cap pk hpk hm (openL ws n) rfl).mono fun _ _ ⟨h1, ⟨vs', h2⟩, h3⟩ => ⟨h1, ⟨vs', h2.congr (fun i hi => (setS_all ws sf _ n i hi).1) (fun i hi => (setS_all ws sf _ n i hi).2)⟩, h3⟩
end
end Go.Proofs.YtaljaledeljllaaGreat
