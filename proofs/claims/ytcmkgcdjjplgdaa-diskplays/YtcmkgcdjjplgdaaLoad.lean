/- disk.Load. -/
import Derived.Test.YtcmkgcdjjplgdaaMore
namespace Go.Proofs.Ytcmkgcdjjplgdaa
open Go.RowKit
/-- Block i of the bytes l. -/
def blkOf (l : List UInt8) (i : Nat) : List UInt8 := (l.drop (i * 256)).take 256
theorem blkOf_length (l : List UInt8) (n i : Nat) (hl : l.length = n * 256) (hi : i < n) : (blkOf l i).length = 256 := by
  unfold blkOf; rw [List.length_take, List.length_drop]; omega
set_option maxHeartbeats 1000000 in
theorem new_zero (w : World) : Calls Try.prog 8 #[.int .i64 0] w fun e w' => e = .returned (.tuple #[.pointer none, .int .i64 1]) ∧ w' = w := by
  go_enter Try.func8, Try.ntmps8
  go_wp2
  go_ret2
  exact ⟨rfl, rfl⟩
set_option maxHeartbeats 1000000 in
theorem load_bad (w : World) (sp : Option Addr) (m cap : Nat) (hm : (m : Int) ≤ 10000) (h : m % 256 ≠ 0 ∨ m = 0) :
    Calls Try.prog 20 #[.slice sp m cap] w fun e w' => e = .returned (.tuple #[.pointer none, .int .i64 1]) ∧ w' = w := by
  rcases h with h | rfl
  · have hrem : Int.tmod (m : Int) 256 = ((m % 256 : Nat) : Int) := by
      have := Int.ofNat_tmod m 256
      simpa using this.symm
    have hne : ¬ ((m % 256 : Nat) : Int) = 0 := by omega
    generalize m % 256 = r at *
    go_enter Try.func20, Try.ntmps20
    go_wp2
    go_ret2
    exact ⟨rfl, rfl⟩
  · have NZ := new_zero w
    go_enter Try.func20, Try.ntmps20
    go_wp2_with fail
    refine NZ.mono ?_
    rintro e w1 ⟨rfl, rfl⟩
    clear NZ
    go_wp2
    go_ret2
    exact ⟨rfl, rfl⟩
theorem storeH {ops : Array Oper} {md : Region.Mode} {Q : Exit → Act → World → Prop} {S : World → Prop} {i : Nat} {o : Oper} {fuel : Nat} {listed l2 : Array Bool} {a : Act} {w : World} (x y : Operand) (hr : Region.ready md ops listed = [i]) (ho : ops[i]? = some o) (hd : o.dst = none) (hw : Region.wanted o (yielded ops a.tmps) = true) (hop : o.op = .store 70 x y)
    (b off : Nat) (s s0 : List UInt8) (hx : a.eval x = .pointer (some ⟨b, off, none⟩)) (hy : a.eval y = .agg (bvs s).toArray) (hrg : w.rangeAt b off (bvs s0)) (hs0 : s0.length = 256) (hf : ∀ k, w.frozen? ⟨b, k, none⟩ = false) (hs : s.length = 256) (hl : listed.setIfInBounds i true = l2)
    (h : ∀ w', w'.rangeAt b off (bvs s) → Edit w w' b off 256 → S w' ∧ wpAnyH Try.prog md ops Q S fuel l2 (a.put none undef) w') : wpAnyH Try.prog md ops Q S (fuel + 1) listed a w :=
  wpAnyH_ready hr (by simp) (AllReadyH.cons ho (fun K hK => by
    rw [if_pos hw]
    obtain ⟨Z, _, _, hinfo, _⟩ := Try.zero70
    have ht : w.there b off (bvs s).length := fun j hj => by
      rw [bvs_length, hs] at hj
      exact ⟨hrg.isSome j (by rw [bvs_length, hs0]; exact hj), hf _⟩
    have hed := edit_setCells w b off (bvs s)
    rw [bvs_length, hs] at hed
    refine wp_store_mid 70 x y hop b off (bvs s).toArray hx hy (by rw [List.size_toArray]; exact ht) (by rw [hinfo, List.size_toArray, bvs_length, hs]) (all_oneCell_toArray (bvs_one _)) ?_
    obtain ⟨h1, h2⟩ := h _ (World.rangeAt_setCells_same w b off (bvs s) ht) hed
    exact hK.out _ _ h1 (fun _ => by rw [hl, hd]; exact h2)) AllReadyH.nil)
/-- A store into the safe bytes of block i. -/
theorem DiskAt.safed {w : World} {base p n : Nat} {en : Bool} {lf : Int} {sf : Nat → List UInt8} {ws : Nat → List (List UInt8)} {q : Nat} {vs : Nat → Value} (h : DiskAt w base p n en lf sf ws q vs) (i : Nat) (hi : i < n) {w' : World} {s' : List UInt8} (he : Edit w w' q (i * 257) 256) (h1 : w'.rangeAt q (i * 257) (bvs s')) (h2 : s'.length = 256) (hv : vs i = .slice none 0 0) :
    DiskAt w' base p n en lf (upd sf i s') (upd ws i []) q (upd vs i (.slice none 0 0)) :=
  h.settled i hi (he.wide (Nat.le_refl _) (by omega)) h1 h2 (((he.cell _ (by omega)).trans (h.row i hi).2.2).trans (by rw [hv]))
set_option maxHeartbeats 4000000 in
set_option maxRecDepth 100000 in
theorem load_any (w : World) (g cap : Nat) (l : List UInt8) (n : Nat) (hl : l.length = n * 256) (h1 : 1 ≤ n) (hn : n ≤ 4096) (hs : Src w (some ⟨g, 0, none⟩) l) (hcap : n * 256 ≤ cap ∧ (cap : Int) ≤ 9223372036854775807) :
    Calls Try.prog 20 #[.slice (some ⟨g, 0, none⟩) (n * 256) cap] w fun e w' => ∃ p q, e = .returned (.tuple #[.pointer (some ⟨p, 0, none⟩), .int .i64 0]) ∧ (∃ vs, DiskAt w' w.heap.size p n false 0 (blkOf l) (fun _ => []) q vs) ∧ Below w.heap.size w w' := by
  have NEW := new_any w n h1 hn
  have hn' : (n : Int) ≤ 4096 := by omega
  have hn1 : (1 : Int) ≤ n := by omega
  have hrem : Int.tmod ((n : Int) * 256) 256 = 0 := by
    simp
  have hquo : Int.tdiv ((n : Int) * 256) 256 = (n : Int) := by
    have := Int.mul_tdiv_cancel (n : Int) (b := 256) (by omega)
    exact this
  have HS : Hid (Src w (some ⟨g, 0, none⟩) l) := hs
  have HL : Hid (l.length = n * 256) := hl
  clear hs hl
  go_enter Try.func20, Try.ntmps20
  go_wp2_with fail
  refine NEW.mono ?_
  rintro e w1 ⟨p, q, rfl, hD1, hb1⟩
  clear NEW hrem hquo
  obtain ⟨cq, hcq1, hcq2, c0⟩ := hD1.c0
  have hqb := hD1.qb
  have H1 : Hid (∃ vs, DiskAt w1 w.heap.size p n false 0 (fun i => if i < 0 then blkOf l i else zer) (fun _ => []) q vs ∧ ∀ i, vs i = .slice none 0 0) := ⟨_, hD1.congr (fun i _ => by simp) (fun _ _ => rfl), fun _ => rfl⟩
  clear hD1
  go_wp2_with fail
  go_loopw [28] (fun i wr => ∃ k : Nat, k ≤ n ∧ i = .int .i64 k ∧ Hid (∃ vs, DiskAt wr w.heap.size p n false 0 (fun i => if i < k then blkOf l i else zer) (fun _ => []) q vs ∧ ∀ i, vs i = .slice none 0 0) ∧ Below w.heap.size w wr) (fun i _ => n - (intOf i).toNat)
  case atStart => exact ⟨0, by omega, rfl, H1, hb1⟩
  case round =>
    clear H1 c0
    obtain ⟨k, hk, rfl, HD, hbw⟩ := hrel
    by_cases hlt : (k : Int) < n
    · obtain ⟨vs, hD, hvs⟩ := HD.out
      have hkn : k < n := by omega
      obtain ⟨cq, hcq1, hcq2, c0⟩ := hD.c0
      have hlk := blkOf_length l n k HL.out hkn
      have hsk : wr.drew.rangeAt g (k * 256) (bvs (blkOf l k)) := fun j v hv => by
        have hj : j < (bvs (blkOf l k)).length := (List.getElem?_eq_some_iff.1 hv).1
        rw [bvs_length, hlk] at hj
        have hj2 : k * 256 + j < l.length := by rw [HL.out]; omega
        have := (HS.out.below hbw (Nat.le_refl _)).cell (k * 256 + j) hj2
        rw [Nat.zero_add] at this
        rw [show wr.drew.cell? ⟨g, k * 256 + j, none⟩ = wr.cell? ⟨g, k * 256 + j, none⟩ from rfl, this]
        have hb : (blkOf l k)[j]? = some l[k * 256 + j] := by
          unfold blkOf
          rw [List.getElem?_take, if_pos hj, List.getElem?_drop, List.getElem?_eq_getElem hj2]
        rw [bvs, List.getElem?_map, hb] at hv
        exact hv
      have L56 := exec_load wr.drew g (k * 256) (blkOf l k) hlk hsk
      have harr := arr_at g (k * 256) 256
      obtain ⟨hrq, hql2, _⟩ := hD.row k hkn
      have hfq := hD.fq
      have HDk : Hid _ := hD
      have hdone : Hid (∀ w', w'.rangeAt q (k * 257) (bvs (blkOf l k)) → Edit wr.drew w' q (k * 257) 256 → (∃ vs, DiskAt w' w.heap.size p n false 0 (fun i => if i < k + 1 then blkOf l i else zer) (fun _ => []) q vs ∧ ∀ i, vs i = .slice none 0 0) ∧ Below w.heap.size w w') := fun w' hr he => by
        have hD' : DiskAt wr.drew w.heap.size p n false 0 (fun i => if i < k then blkOf l i else zer) (fun _ => []) q vs := HDk.out.drew
        refine ⟨⟨_, (hD'.safed k hkn he hr hlk (hvs k)).congr (fun i _ => ?_) (fun i _ => ?_), fun i => ?_⟩, hbw.drew.trans (he.below hqb (by have := HDk.out.ql; show w.heap.size ≤ wr.heap.size; omega))⟩
        · show upd _ _ _ _ = (if i < k + 1 then blkOf l i else zer)
          unfold upd
          show (if i = k then _ else (if i < k then blkOf l i else zer)) = _
          by_cases hik : i = k
          · subst hik; rw [if_pos rfl, if_pos (by omega)]
          · rw [if_neg hik]
            by_cases h3 : i < k
            · rw [if_pos h3, if_pos (by omega)]
            · rw [if_neg h3, if_neg (by omega)]
        · unfold upd; split <;> rfl
        · unfold upd; split
          · rfl
          · exact hvs i
      have HSS : Hid (∀ w', Edit wr.drew w' q (k * 257) 256 → w'.cell? ⟨p, 0, none⟩ = some (.slice (some ⟨q, 0, none⟩) n cq) ∧ (Instr.loadAt 70 (.pointer (some ⟨g, k * 256, none⟩))).run Try.prog w' = .ok (.agg (bvs (blkOf l k)).toArray) w') := fun w' he => by
        have hgw : g < w.heap.size := by
          rcases HS.out with h | ⟨b, o, e, h, _⟩
          · have := HL.out; rw [h] at this; simp at this; omega
          · cases e; exact h
        have hws := hbw.size
        refine ⟨(World.cell?_of_block (a := ⟨p, 0, none⟩) (he.block p (show p < wr.heap.size from HDk.out.pl) HDk.out.pq)).trans c0, exec_load w' g (k * 256) _ hlk (range_edit he hsk (show g < wr.heap.size by omega) (.inl (by omega)))⟩
      clear hD HD hsk
      generalize blkOf l k = y at *
      have hk1 : (0 : Int) ≤ (k : Int) * 256 := by omega
      have hk2 : ((k : Int) + 1) * 256 ≤ (n : Int) * 256 := by omega
      go_wp2_with fail
      refine wp_region_held_drew (S := fun W => W.cell? ⟨p, 0, none⟩ = some (.slice (some ⟨q, 0, none⟩) n cq) ∧ (Instr.loadAt 70 (.pointer (some ⟨g, k * 256, none⟩))).run Try.prog W = .ok (.agg (bvs y).toArray) W) (by kernel_rfl) ⟨c0, L56⟩ (fun hH => ?_)
      clear hH
      refine takeH (i := 0) (dst := some 36) (v := .pointer (some ⟨p, 0, none⟩)) rfl rfl (by kernel_rfl) (by kernel_rfl) (by kernel_rfl) (fun _ _ _ h => h) rfl (fun W hW => by obtain ⟨hW1, hW2⟩ := hW; go_simp) ⟨c0, L56⟩ rfl ?_
      simp only [Act.put, List.setIfInBounds_toArray, List.set_cons_succ, List.set_cons_zero]
      refine takeH (i := 1) (dst := some 37) (v := .pointer (some ⟨p, 0, none⟩)) rfl rfl (by kernel_rfl) (by kernel_rfl) (by kernel_rfl) (fun _ _ _ h => h) rfl (fun W hW => by obtain ⟨hW1, hW2⟩ := hW; go_simp) ⟨c0, L56⟩ rfl ?_
      simp only [Act.put, List.setIfInBounds_toArray, List.set_cons_succ, List.set_cons_zero]
      refine takeH (i := 2) (dst := some 38) (v := .pointer (some ⟨p, 0, none⟩)) rfl rfl (by kernel_rfl) (by kernel_rfl) (by kernel_rfl) (fun _ _ _ h => h) rfl (fun W hW => by obtain ⟨hW1, hW2⟩ := hW; go_simp) ⟨c0, L56⟩ rfl ?_
      simp only [Act.put, List.setIfInBounds_toArray, List.set_cons_succ, List.set_cons_zero]
      refine takeH (i := 3) (dst := some 39) (v := .slice (some ⟨q, 0, none⟩) n cq) rfl rfl (by kernel_rfl) (by kernel_rfl) (by kernel_rfl) (fun _ _ _ h => h) rfl (fun W hW => by obtain ⟨hW1, hW2⟩ := hW; go_simp) ⟨c0, L56⟩ rfl ?_
      simp only [Act.put, List.setIfInBounds_toArray, List.set_cons_succ, List.set_cons_zero]
      refine takeH (i := 4) (dst := some 40) (v := .int .i64 (k : Int)) rfl rfl (by kernel_rfl) (by kernel_rfl) (by kernel_rfl) (fun _ _ _ h => h) rfl (fun W hW => by obtain ⟨hW1, hW2⟩ := hW; go_simp) ⟨c0, L56⟩ rfl ?_
      simp only [Act.put, List.setIfInBounds_toArray, List.set_cons_succ, List.set_cons_zero]
      refine takeH (i := 5) (dst := some 41) (v := .slice (some ⟨g, 0, none⟩) (n * 256) cap) rfl rfl (by kernel_rfl) (by kernel_rfl) (by kernel_rfl) (fun _ _ _ h => h) rfl (fun W hW => by obtain ⟨hW1, hW2⟩ := hW; go_simp) ⟨c0, L56⟩ rfl ?_
      simp only [Act.put, List.setIfInBounds_toArray, List.set_cons_succ, List.set_cons_zero]
      refine takeH (i := 6) (dst := some 42) (v := .int .i64 ((k : Int) * 256)) rfl rfl (by kernel_rfl) (by kernel_rfl) (by kernel_rfl) (fun _ _ _ h => h) rfl (fun W hW => by obtain ⟨hW1, hW2⟩ := hW; go_simp) ⟨c0, L56⟩ rfl ?_
      simp only [Act.put, List.setIfInBounds_toArray, List.set_cons_succ, List.set_cons_zero]
      refine takeH (i := 7) (dst := some 43) (v := .int .i64 (((k : Int) + 1) * 256)) rfl rfl (by kernel_rfl) (by kernel_rfl) (by kernel_rfl) (fun _ _ _ h => h) rfl (fun W hW => by obtain ⟨hW1, hW2⟩ := hW; go_simp) ⟨c0, L56⟩ rfl ?_
      simp only [Act.put, List.setIfInBounds_toArray, List.set_cons_succ, List.set_cons_zero]
      refine takeH (i := 8) (dst := some 44) (v := .int .i64 (((k : Int) + 1) * 256)) rfl rfl (by kernel_rfl) (by kernel_rfl) (by kernel_rfl) (fun _ _ _ h => h) rfl (fun W hW => by obtain ⟨hW1, hW2⟩ := hW; go_simp) ⟨c0, L56⟩ rfl ?_
      simp only [Act.put, List.setIfInBounds_toArray, List.set_cons_succ, List.set_cons_zero]
      refine takeH (i := 9) (dst := some 45) (v := .slice (some ⟨g, k * 256, none⟩) 256 256) rfl rfl (by kernel_rfl) (by kernel_rfl) (by kernel_rfl) (fun _ _ _ h => h) rfl (fun W hW => by obtain ⟨hW1, hW2⟩ := hW; go_simp; rw [if_pos ⟨by omega, by omega⟩, if_pos ⟨by omega, by omega⟩, if_pos (by omega), if_neg (by omega), show ((k : Int) * 256).toNat = k * 256 by omega, show (((k : Int) + 1) * 256).toNat - k * 256 = 256 by omega]) ⟨c0, L56⟩ rfl ?_
      simp only [Act.put, List.setIfInBounds_toArray, List.set_cons_succ, List.set_cons_zero]
      refine takeH (i := 10) (dst := some 46) (v := .pointer (some ⟨g, k * 256, none⟩)) rfl rfl (by kernel_rfl) (by kernel_rfl) (by kernel_rfl) (fun _ _ _ h => h) rfl (fun W hW => by obtain ⟨hW1, hW2⟩ := hW; go_simp) ⟨c0, L56⟩ rfl ?_
      simp only [Act.put, List.setIfInBounds_toArray, List.set_cons_succ, List.set_cons_zero]
      refine takeH (i := 11) (dst := some 47) (v := .agg (bvs y).toArray) rfl rfl (by kernel_rfl) (by kernel_rfl) (by kernel_rfl) (fun _ _ _ h => h) rfl (fun W hW => by obtain ⟨hW1, hW2⟩ := hW; exact run_load rfl rfl hW2) ⟨c0, L56⟩ rfl ?_
      simp only [Act.put, List.setIfInBounds_toArray, List.set_cons_succ, List.set_cons_zero]
      refine takeH (i := 12) (dst := some 48) (v := .pointer (some ⟨q, k * 257, none⟩)) rfl rfl (by kernel_rfl) (by kernel_rfl) (by kernel_rfl) (fun _ _ _ h => h) rfl (fun W hW => by obtain ⟨hW1, hW2⟩ := hW; go_simp) ⟨c0, L56⟩ rfl ?_
      simp only [Act.put, List.setIfInBounds_toArray, List.set_cons_succ, List.set_cons_zero]
      refine takeH (i := 13) (dst := some 49) (v := .pointer (some ⟨q, k * 257, none⟩)) rfl rfl (by kernel_rfl) (by kernel_rfl) (by kernel_rfl) (fun _ _ _ h => h) rfl (fun W hW => by obtain ⟨hW1, hW2⟩ := hW; go_simp) ⟨c0, L56⟩ rfl ?_
      simp only [Act.put, List.setIfInBounds_toArray, List.set_cons_succ, List.set_cons_zero]
      refine storeH (i := 14) (.tmp 49) (.tmp 47) (by kernel_rfl) rfl rfl rfl rfl q (k * 257) y _ rfl rfl (show wr.drew.rangeAt q (k * 257) _ from hrq) hql2 hfq hlk rfl (fun w4 hr4 he4 => ⟨HSS.out w4 he4, ?_⟩)
      refine wpAnyH_done (by kernel_rfl) ?_ _
      have h5 := hdone.out w4 hr4 he4
      have H5 : Hid _ := h5.1
      have hb5 := h5.2
      clear h5 hr4 he4 HSS hdone hrq L56
      dsimp only [Act.put]
      go_wp2
      go_roundw
      case rel => exact ⟨k + 1, by omega, by go_num, H5, hb5⟩
      case measure => simp [intOf]; omega
    · obtain rfl : k = n := by omega
      obtain ⟨vs, hD, _⟩ := HD.out
      go_wp2
      go_ret2
      exact ⟨_, rfl, ⟨_, vs, hD.congr (fun i hi => by rw [if_pos hi]) (fun _ _ => rfl)⟩, hbw⟩
end Go.Proofs.Ytcmkgcdjjplgdaa
