/- The document's New. -/
import Derived.Test.YtcmkgcdjjplgdaaRall
import Derived.Test.YtcmkgcdjjplgdaaLoadsBase
namespace Go.Proofs.Ytcmkgcdjjplgdaa
open Go.RowKit
theorem callH2 {P : Program} {ops : Array Oper} {md : Region.Mode} {Q : Exit → Act → World → Prop} {S : World → Prop} {i j : Nat} (oi oj : Oper) {fuel : Nat} {listed l2 l3 : Array Bool} {a : Act} {w : World} (hr : Region.ready md ops listed = [i, j]) (hi : ops[i]? = some oi) (hj : ops[j]? = some oj) (hl2 : listed.setIfInBounds i true = l2) (hl3 : listed.setIfInBounds j true = l3)
    (h1 : ∀ K : Act → World → Prop, Shut (∀ a w, S w → (S w → wpAnyH P md ops Q S fuel l2 a w) → K a w) → if Region.wanted oi (yielded ops a.tmps) = true then Oper.wp P oi a w K Q else K (a.put oi.dst undef) w)
    (h2 : ∀ K : Act → World → Prop, Shut (∀ a w, S w → (S w → wpAnyH P md ops Q S fuel l3 a w) → K a w) → if Region.wanted oj (yielded ops a.tmps) = true then Oper.wp P oj a w K Q else K (a.put oj.dst undef) w) : wpAnyH P md ops Q S (fuel + 1) listed a w :=
  wpAnyH_ready hr (by simp) (AllReadyH.cons hi (fun K hK => h1 K (by rw [← hl2]; exact hK)) (AllReadyH.cons hj (fun K hK => h2 K (by rw [← hl3]; exact hK)) AllReadyH.nil))
theorem LoadL.low {w w' : World} {base r k : Nat} {l : List UInt8} {v : Value} {va : Nat → Nat} (h : LoadL w base r k l v va) (hb : Below w.heap.size w w') : LoadL w' base r k l v va := by
  have hr : r < w.heap.size := block_lt_of_cell h.c0
  have hs := hb.size
  have ha : ∀ i, i < k → w'.cell? ⟨va i, 0, none⟩ = some (.string (str (blkOf l i))) ∧ va i ≠ r ∧ v.ownBlock ≠ some (va i) ∧ va i < w'.heap.size ∧ base ≤ va i := fun i hi => by
    obtain ⟨a1, a2, a3, a4, a5⟩ := h.at' i hi
    exact ⟨(hb.cell (p := ⟨va i, 0, none⟩) a4).trans a1, a2, a3, by omega, a5⟩
  exact ⟨(hb.cell (p := ⟨r, 0, none⟩) hr).trans h.c0, (hb.cell (p := ⟨r, 1, none⟩) hr).trans h.c1, (hb.cell (p := ⟨r, 2, none⟩) hr).trans h.c2, (hb.frozen (p := ⟨r, 0, none⟩) hr).trans h.f0, owns_below h.own hb (Nat.le_refl _), h.rb, h.ob, ha⟩
theorem LoadL.stepF {w : World} {base r k : Nat} {l : List UInt8} {v : Value} {va : Nat → Nat} (h : LoadL w base r k l v va) (hk : k ≤ 4096) (hbase : base ≤ w.heap.size) :
    ∃ ao ac g cp w4, v = .slice ao k ac ∧
      (Builtin.append_ #[61, 61] 61 #[.slice ao k ac, .slice (some ⟨w.heap.size + 1, 0, none⟩) 1 1]).run Try.prog ((w.alloc (.cells #[.string (str (blkOf l k))] 9)).alloc (.cells #[.slice (some ⟨w.heap.size, 0, none⟩) 1 1] 67)) = .ok (.slice (some ⟨g, 0, none⟩) (k + 1) cp) w4 ∧
      w4.cell? ⟨r, 0, none⟩ = some (.slice ao k ac) ∧ w4.frozen? ⟨r, 0, none⟩ = false ∧
      LoadL (w4.setCell ⟨r, 0, none⟩ (.slice (some ⟨g, 0, none⟩) (k + 1) cp)) base r (k + 1) l (.slice (some ⟨g, 0, none⟩) (k + 1) cp) (upd va k w.heap.size) ∧ Below base w (w4.setCell ⟨r, 0, none⟩ (.slice (some ⟨g, 0, none⟩) (k + 1) cp)) ∧
      (∀ o, w.frozen? ⟨r, o, none⟩ = false → (w4.setCell ⟨r, 0, none⟩ (.slice (some ⟨g, 0, none⟩) (k + 1) cp)).frozen? ⟨r, o, none⟩ = false) := by
  obtain ⟨i0, hi, hz0, hz1, hz2⟩ := info_parts Try.info67
  obtain ⟨ao, ac, hv⟩ : ∃ ao ac, v = .slice ao k ac := by
    obtain ⟨_, h2⟩ := h.own
    rcases h2 with ⟨h2, h3⟩ | ⟨g, cap, _, hv, _⟩
    · exact ⟨none, 0, by rw [h2, h3]⟩
    · exact ⟨_, cap, hv⟩
  have hrl : r < w.heap.size := block_lt_of_cell h.c0
  have s1 := alloc_size w (.cells #[.string (str (blkOf l k))] 9)
  have s2 := alloc_size (w.alloc (.cells #[.string (str (blkOf l k))] 9)) (.cells #[.slice (some ⟨w.heap.size, 0, none⟩) 1 1] 67)
  have hb2 : Below w.heap.size w ((w.alloc (.cells #[.string (str (blkOf l k))] 9)).alloc (.cells #[.slice (some ⟨w.heap.size, 0, none⟩) 1 1] 67)) := ((Below.refl _ _).alloc (Nat.le_refl _) _).alloc (by omega) _
  have hcs : ((w.alloc (.cells #[.string (str (blkOf l k))] 9)).alloc (.cells #[.slice (some ⟨w.heap.size, 0, none⟩) 1 1] 67)).cell? ⟨w.heap.size + 1, 0, none⟩ = some (.slice (some ⟨w.heap.size, 0, none⟩) 1 1) := by
    have := cell_one (w.alloc (.cells #[.string (str (blkOf l k))] 9)) (.slice (some ⟨w.heap.size, 0, none⟩) 1 1) 67 (0, 0)
    rw [s1] at this; exact this
  have hst : ((w.alloc (.cells #[.string (str (blkOf l k))] 9)).alloc (.cells #[.slice (some ⟨w.heap.size, 0, none⟩) 1 1] 67)).cell? ⟨w.heap.size, 0, none⟩ = some (.string (str (blkOf l k))) := by
    rw [World.cell?_alloc_lt _ _ _ (show w.heap.size < _ by rw [s1]; omega)]
    exact cell_one w _ 9 (0, 0)
  obtain ⟨W2, HW2⟩ : ∃ W2, W2 = ((w.alloc (.cells #[.string (str (blkOf l k))] 9)).alloc (.cells #[.slice (some ⟨w.heap.size, 0, none⟩) 1 1] 67)) := ⟨_, rfl⟩
  rw [← HW2] at hb2 hcs hst s2 ⊢
  obtain ⟨g, cp, w4, hrun, hown, hgrow, hat, hlt⟩ := run_append_lies (P := Try.prog) W2 61 61 base 67 i0 (.agg #[.slice none 0 0]) 1 24 Try.underlying61 hi hz0 hz1 hz2 rfl (by omega) v k _ (owns_below h.own hb2 (Nat.le_refl _)) ⟨w.heap.size + 1, 0, none⟩ 1 1 [.slice (some ⟨w.heap.size, 0, none⟩) 1 1] rfl (fun j u hj => by
    have hj0 : j = 0 := by have := (List.getElem?_eq_some_iff.1 hj).1; simp at this; omega
    subst hj0
    have hu : u = .slice (some ⟨w.heap.size, 0, none⟩) 1 1 := by simpa using hj.symm
    rw [addr_add, hu]; exact hcs) (by intro u hu; simp at hu; subst hu; rfl) (by omega) (by unfold maxLen; omega) (by omega) (by omega) (w.heap.size + 2) (by omega)
  have hblk : ∀ j, j < w.heap.size + 2 → some j ≠ v.ownBlock → w4.heap[j]? = W2.heap[j]? := fun j hj hne => hgrow.block j (by omega) hne
  have hrb : w4.heap[r]? = w.heap[r]? := (hblk r (by omega) (fun e => h.ob e.symm)).trans (hb2.block r hrl)
  have hs4 := hgrow.size
  have hgr : g ≠ r := by
    rcases hat with e | e
    · intro e2; exact h.ob (by rw [e, e2])
    · omega
  have hb4 : Below base w w4 := (hb2.mono hbase).grown hgrow (by omega) (fun j hj => (World.ownsRow.lt h.own j hj).1)
  rw [hv] at hrun
  refine ⟨ao, ac, g, cp, w4, hv, hrun, by rw [← hv]; exact (World.cell?_of_block (a := ⟨r, 0, none⟩) hrb).trans h.c0, (World.frozen?_of_block (a := ⟨r, 0, none⟩) hrb).trans h.f0, ?_, hb4.setCell h.rb _, fun o ho => by rw [World.frozen?_setCell]; exact (World.frozen?_of_block (a := ⟨r, o, none⟩) hrb).trans ho⟩
  have hc0 : w4.cell? ⟨r, 0, none⟩ = some v := (World.cell?_of_block (a := ⟨r, 0, none⟩) hrb).trans h.c0
  have hoth : ∀ j, j ≠ r → (w4.setCell ⟨r, 0, none⟩ (.slice (some ⟨g, 0, none⟩) (k + 1) cp)).heap[j]? = w4.heap[j]? := fun j hj => heap_setCell_other w4 ⟨r, 0, none⟩ j _ hj
  exact {
    c0 := World.cell?_setCell_same _ _ _ hc0
    c1 := (World.cell?_setCell_other _ _ _ _ (by simp)).trans ((World.cell?_of_block (a := ⟨r, 1, none⟩) hrb).trans h.c1)
    c2 := (World.cell?_setCell_other _ _ _ _ (by simp)).trans ((World.cell?_of_block (a := ⟨r, 2, none⟩) hrb).trans h.c2)
    f0 := by rw [World.frozen?_setCell]; exact (World.frozen?_of_block (a := ⟨r, 0, none⟩) hrb).trans h.f0
    own := by
      have e : rowL (upd va k w.heap.size) (k + 1) = rowL va k ++ [.slice (some ⟨w.heap.size, 0, none⟩) 1 1] := by
        unfold rowL
        rw [List.range_succ, List.map_append]
        congr 1
        · exact List.map_congr_left fun i hi => by rw [upd_other _ _ _ (by have := List.mem_range.1 hi; omega)]
        · simp [upd_same]
      rw [e]
      exact World.ownsRow.kept hown ⟨rfl, rfl, rfl, by simp [World.setCell], fun j _ hj => hoth j (fun e => hj (by rw [e]))⟩ (.inr (by intro e; exact hgr (by simpa [Value.ownBlock] using e)))
    rb := h.rb
    ob := by intro e; exact hgr (by simpa [Value.ownBlock] using e)
    at' := fun i hik => by
      have hsz : (w4.setCell ⟨r, 0, none⟩ (.slice (some ⟨g, 0, none⟩) (k + 1) cp)).heap.size = w4.heap.size := by simp [World.setCell]
      by_cases hi2 : i = k
      · subst hi2
        rw [upd_same]
        have hne : some w.heap.size ≠ v.ownBlock := fun e => by have := (World.ownsRow.lt h.own _ e.symm).2; omega
        refine ⟨?_, by omega, ?_, by omega, hbase⟩
        · rw [World.cell?_of_block (a := ⟨w.heap.size, 0, none⟩) (hoth w.heap.size (by omega)), World.cell?_of_block (a := ⟨w.heap.size, 0, none⟩) (hblk w.heap.size (by omega) hne)]
          exact hst
        · intro e
          have e2 : g = w.heap.size := by simpa [Value.ownBlock] using e
          rcases hat with e3 | e3
          · exact hne (by rw [e3, e2])
          · omega
      · rw [upd_other _ _ _ hi2]
        obtain ⟨a1, a2, a3, a4, a5⟩ := h.at' i (by omega)
        refine ⟨?_, a2, ?_, by omega, a5⟩
        · rw [World.cell?_of_block (a := ⟨va i, 0, none⟩) (hoth _ a2), World.cell?_of_block (a := ⟨va i, 0, none⟩) (hblk (va i) (by omega) (fun e => a3 e.symm)), World.cell?_of_block (a := ⟨va i, 0, none⟩) (hb2.block (va i) a4)]
          exact a1
        · intro e
          have e2 : g = va i := by simpa [Value.ownBlock] using e
          rcases hat with e3 | e3
          · exact a3 (by rw [e3, e2])
          · omega }
theorem LoadL.refW {w : World} {base r n : Nat} {l : List UInt8} {v : Value} {va : Nat → Nat} (h : LoadL w base r n l v va) (hf : ∀ o, w.frozen? ⟨r, o, none⟩ = false) (h1 : 1 ≤ n) (hn : n ≤ 4096) : ∃ gb cb, RefW w base r n false 0 (fun i => blkOf l i :: []) gb cb va (fun _ => 1) ∧ base ≤ gb ∧ ∀ i, i < n → base ≤ va i := by
  have ho := h.own
  obtain ⟨o1, o2⟩ := h.own
  rcases o2 with ⟨_, o3⟩ | ⟨g, cap, cur, hv, hg, hh, hn2, hm, hs, hx⟩
  · omega
  · subst hv
    have RA : RefAt w base r n false 0 (fun i => blkOf l i :: []) g cap va (fun _ => 1) := by
      refine { nn := by omega, c0 := h.c0, c1 := h.c1, c2 := h.c2, rb := h.rb, gl := (Array.getElem?_eq_some_iff.1 hh).1, cl := ⟨hn2, by unfold maxLen at hm; omega⟩, row := fun i hi => ⟨?_, (h.at' i hi).2.2.2.1, by simp, by simp, by simp, by omega⟩, vers := fun i hi j hj => ?_ }
      · rw [World.ownsRow.cellAt ho i (by omega)]
        simp [rowL, hi]
      · have hj0 : j = 0 := by simp at hj; omega
        subst hj0
        exact (h.at' i hi).1
    refine ⟨g, cap, ⟨RA, hf, fun o => World.ownsRow.frozenAt ho o, fun e => h.ob (by rw [e]; rfl), fun i hi => ⟨(h.at' i hi).2.1, fun e => (h.at' i hi).2.2.1 (by rw [e]; rfl)⟩⟩, hg, fun i hi => (h.at' i hi).2.2.2.2⟩
theorem blk_zer (n k : Nat) (hk : k < n) : blkOf (List.replicate (n * 256) 0) k = zer := by
  unfold blkOf zer
  rw [List.drop_replicate, List.take_replicate]
  congr 1
  omega
set_option maxRecDepth 100000 in
set_option maxHeartbeats 8000000 in
theorem rnew_go (n : Nat) (h1 : 1 ≤ n) (hn : n ≤ 40) (w : World) :
    Calls Try.prog 9 #[.int .i64 (n : Int)] w fun e w' => e = .returned (.tuple #[.pointer (some ⟨w.heap.size, 0, none⟩), .int .i64 0]) ∧ (∃ v va, LoadL w' w.heap.size w.heap.size n (List.replicate (n * 256) 0) v va) ∧ (∀ o, w'.frozen? ⟨w.heap.size, o, none⟩ = false) ∧ Below w.heap.size w w' := by
  have hn1 : ¬ (n : Int) < 1 := by omega
  have hn2 : ¬ (4096 : Int) < n := by omega
  have hzb : ∀ k, k < n → blkOf (List.replicate (n * 256) 0) k = zer := blk_zer n
  have h0 : Hid (LoadL (w.alloc (.cells #[.slice none 0 0, .bool false, .int .i64 0] 63)) w.heap.size w.heap.size 0 (List.replicate (n * 256) 0) (.slice none 0 0) (fun _ => 0)) := by
    have e : (w.alloc (.cells #[.slice none 0 0, .bool false, .int .i64 0] 63)).heap[w.heap.size]? = some (.cells #[.slice none 0 0, .bool false, .int .i64 0] 63 (0, 0)) := heap_alloc_new _ _
    exact { c0 := by rw [cell_of_row _ _ 0 _ _ _ e]; rfl, c1 := by rw [cell_of_row _ _ 1 _ _ _ e]; rfl, c2 := by rw [cell_of_row _ _ 2 _ _ _ e]; rfl, f0 := frozen_of_row _ _ 0 _ _ e, own := World.ownsRow_nil _ _ _ _, rb := Nat.le_refl _, ob := by simp [Value.ownBlock], at' := fun i hi => by omega }
  have hf0 : Hid (∀ o, (w.alloc (.cells #[.slice none 0 0, .bool false, .int .i64 0] 63)).frozen? ⟨w.heap.size, o, none⟩ = false) := fun o => frozen_of_row _ _ o _ _ (heap_alloc_new w _)
  have hb0 : Hid (Below w.heap.size w (w.alloc (.cells #[.slice none 0 0, .bool false, .int .i64 0] 63))) := (Below.refl _ _).alloc (Nat.le_refl _) _
  go_enter Try.func9, Try.ntmps9
  go_wp2_with fail
  go_loopw [5] (fun s wr => ∃ (k : Nat) (v : Value) (va : Nat → Nat), k ≤ n ∧ s = .int .i64 k ∧ Hid (LoadL wr w.heap.size w.heap.size k (List.replicate (n * 256) 0) v va) ∧ Hid (∀ o, wr.frozen? ⟨w.heap.size, o, none⟩ = false) ∧ Hid (Below w.heap.size w wr)) (fun s _ => n - (intOf s).toNat)
  case atStart => exact ⟨0, _, _, by omega, rfl, h0, hf0, hb0⟩
  case round =>
    obtain ⟨k, v, va, hk, rfl, HL, HFZ, HB⟩ := hrel
    clear h0 hb0 hf0
    by_cases hlt : (k : Int) < n
    · obtain ⟨ao, ac, rfl⟩ : ∃ ao ac, v = .slice ao k ac := by
        obtain ⟨_, h2⟩ := HL.out.own
        rcases h2 with ⟨h2, h3⟩ | ⟨g, cap, _, hv, _⟩
        · exact ⟨none, 0, by rw [h2, h3]⟩
        · exact ⟨_, cap, hv⟩
      have L1 := HL.out.drew
      have HBd : Hid (Below w.heap.size w wr.drew) := HB.out.drew
      have hlw : w.heap.size < wr.drew.heap.size := block_lt_of_cell L1.c0
      have HFd : Hid (∀ o, wr.drew.frozen? ⟨w.heap.size, o, none⟩ = false) := HFZ.out
      clear HL HB HFZ
      go_wp2_with fail
      refine wp_region_held_drew (S := (fun _ => True)) (by kernel_rfl) trivial (fun hH => ?_)
      generalize wr.drew = wd at *
      refine takeH (i := 0) (dst := some 19) (v := ?vn1) rfl rfl (by kernel_rfl) (by kernel_rfl) (by kernel_rfl) (fun _ _ _ h => h) rfl ?hyn1 hH rfl ?restn1
      case hyn1 => (intro W hW; clear hW; go_simp; try with_reducible rfl)
      (try simp only [Act.put, List.setIfInBounds_toArray, List.set_cons_zero, List.set_cons_succ])
      refine takeH (i := 1) (dst := some 20) (v := ?vn2) rfl rfl (by kernel_rfl) (by kernel_rfl) (by kernel_rfl) (fun _ _ _ h => h) rfl ?hyn2 hH rfl ?restn2
      case hyn2 => (intro W hW; clear hW; go_simp; try with_reducible rfl)
      (try simp only [Act.put, List.setIfInBounds_toArray, List.set_cons_zero, List.set_cons_succ])
      refine takeH (i := 2) (dst := some 21) (v := ?vn3) rfl rfl (by kernel_rfl) (by kernel_rfl) (by kernel_rfl) (fun _ _ _ h => h) rfl ?hyn3 hH rfl ?restn3
      case hyn3 => (intro W hW; clear hW; go_simp; try with_reducible rfl)
      (try simp only [Act.put, List.setIfInBounds_toArray, List.set_cons_zero, List.set_cons_succ])
      refine takeH (i := 3) (dst := some 22) (v := ?vn4) rfl rfl (by kernel_rfl) (by kernel_rfl) (by kernel_rfl) (fun _ _ _ h => h) rfl ?hyn4 hH rfl ?restn4
      case hyn4 => (intro W hW; clear hW; go_simp; try with_reducible rfl)
      (try simp only [Act.put, List.setIfInBounds_toArray, List.set_cons_zero, List.set_cons_succ])
      refine callH2 (i := 4) (j := 5) { dst := some 23, op := Go.Op.load 61 (Go.Operand.tmp 22), type := 61, pos := "ref.go:49", after := #[{ on := 3, ground := Go.Ground.data }], guard := none } { dst := some 24, op := Go.Op.call { callee := Go.Callee.value (Go.Operand.func 31), args := #[], argTypes := #[] }, type := 9, pos := "ref.go:49", after := #[], guard := none } (by kernel_rfl) rfl rfl rfl rfl (fun K hK => ?_) (fun K hK => ?_)
      · have cl := L1.c0
        go_simp
        clear hH cl
        refine hK.out _ _ trivial (fun hH => ?_)
        clear hK K
        (try simp only [Act.put, List.setIfInBounds_toArray, List.set_cons_zero, List.set_cons_succ])
        refine callH (i := 5) { dst := some 24, op := Go.Op.call { callee := Go.Callee.value (Go.Operand.func 31), args := #[], argTypes := #[] }, type := 9, pos := "ref.go:49", after := #[], guard := none } (by kernel_rfl) rfl rfl (fun K hK => ?_)
        go_simp
        refine (rnone_any _).mono ?_
        rintro e w5 ⟨rfl, b5⟩
        have L5 := L1.low b5
        have hz5 := b5.size
        clear hH
        refine hK.out _ _ trivial (fun hH => ?_)
        clear hK K
        (try simp only [Act.put, List.setIfInBounds_toArray, List.set_cons_zero, List.set_cons_succ])
        refine callH (i := 6) { dst := some 25, op := Go.Op.buildSlice 65 1 #[(0, Go.Operand.tmp 24)], type := 65, pos := "ref.go:49", after := #[{ on := 5, ground := Go.Ground.data }], guard := none } (by kernel_rfl) rfl rfl (fun K hK => ?_)
        go_simp
        clear hH
        refine hK.out _ _ trivial (fun hH => ?_)
        clear hK K
        (try simp only [Act.put, List.setIfInBounds_toArray, List.set_cons_zero, List.set_cons_succ])
        refine takeH (i := 7) (dst := some 26) (v := ?vn5) rfl rfl (by kernel_rfl) (by kernel_rfl) (by kernel_rfl) (fun _ _ _ h => h) rfl ?hyn5 hH rfl ?restn5
        case hyn5 => (intro W hW; clear hW; go_simp; try with_reducible rfl)
        (try simp only [Act.put, List.setIfInBounds_toArray, List.set_cons_zero, List.set_cons_succ])
        refine callH (i := 8) { dst := some 27, op := Go.Op.buildSlice 61 1 #[(0, Go.Operand.tmp 26)], type := 61, pos := "ref.go:49", after := #[{ on := 7, ground := Go.Ground.data }], guard := none } (by kernel_rfl) rfl rfl (fun K hK => ?_)
        go_simp
        clear hH
        refine hK.out _ _ trivial (fun hH => ?_)
        clear hK K
        (try simp only [Act.put, List.setIfInBounds_toArray, List.set_cons_zero, List.set_cons_succ])
        obtain ⟨ao', ac', g, cp, w4, ev, hrun, cA, fA, LN, BN, FN⟩ := L5.stepF (by omega) (by omega)
        obtain ⟨rfl, rfl⟩ : ao = ao' ∧ ac = ac' := by simpa using ev
        rw [hzb k (by omega)] at hrun
        refine readyH (i := 9) (v := .slice (some ⟨g, 0, none⟩) (k + 1) cp) (w' := w4) (by kernel_rfl) rfl rfl rfl (run_app60 rfl rfl rfl rfl hrun) rfl trivial ?_
        (try simp only [Act.put, List.setIfInBounds_toArray])
        refine takeH (i := 10) (dst := some 29) (v := ?vn6) rfl rfl (by kernel_rfl) (by kernel_rfl) (by kernel_rfl) (fun _ _ _ h => h) rfl ?hyn6 hH rfl ?restn6
        case hyn6 => (intro W hW; clear hW; go_simp; try with_reducible rfl)
        (try simp only [Act.put])
        refine takeH (i := 11) (dst := some 30) (v := ?vn7) rfl rfl (by kernel_rfl) (by kernel_rfl) (by kernel_rfl) (fun _ _ _ h => h) rfl ?hyn7 hH rfl ?restn7
        case hyn7 => (intro W hW; clear hW; go_simp; try with_reducible rfl)
        (try simp only [Act.put])
        refine callH (i := 12) { dst := none, op := Go.Op.store 61 (Go.Operand.tmp 30) (Go.Operand.tmp 28), type := 0, pos := "ref.go:49", after := #[{ on := 11, ground := Go.Ground.data }, { on := 9, ground := Go.Ground.data }, { on := 9, ground := Go.Ground.chain }, { on := 0, ground := Go.Ground.phase }, { on := 1, ground := Go.Ground.phase }, { on := 2, ground := Go.Ground.phase }, { on := 3, ground := Go.Ground.phase }, { on := 4, ground := Go.Ground.phase }, { on := 5, ground := Go.Ground.phase }, { on := 6, ground := Go.Ground.phase }, { on := 7, ground := Go.Ground.phase }, { on := 8, ground := Go.Ground.phase }, { on := 9, ground := Go.Ground.phase }], guard := none } (by kernel_rfl) rfl rfl (fun K hK => ?_)
        go_simp
        clear hH
        refine hK.out _ _ trivial (fun hH => ?_)
        clear hK K
        (try simp only [Act.put, List.setIfInBounds_toArray, List.set_cons_zero, List.set_cons_succ])
        refine wpAnyH_done (by kernel_rfl) ?_ _
        have HL2 : Hid _ := LN
        have HB2 : Hid (Below w.heap.size w (w4.setCell ⟨w.heap.size, 0, none⟩ (.slice (some ⟨g, 0, none⟩) (k + 1) cp))) := (HBd.out.trans (b5.mono (by omega))).trans BN
        have HF2 : Hid (∀ o, (w4.setCell ⟨w.heap.size, 0, none⟩ (.slice (some ⟨g, 0, none⟩) (k + 1) cp)).frozen? ⟨w.heap.size, o, none⟩ = false) := fun o => FN o ((b5.frozen (p := ⟨w.heap.size, o, none⟩) (show w.heap.size < wd.heap.size by omega)).trans (HFd.out o))
        clear FN
        clear hH cA fA LN BN hrun L5 b5 L1 ev
        go_wp2_with fail
        go_round
        case rel => exact ⟨k + 1, _, _, by omega, by go_num, HL2, HF2, HB2⟩
        case measure => simp [intOf]; omega
      · go_simp
        refine (rnone_any _).mono ?_
        rintro e w5 ⟨rfl, b5⟩
        have L5 := L1.low b5
        have hz5 := b5.size
        clear hH
        refine hK.out _ _ trivial (fun hH => ?_)
        clear hK K
        (try simp only [Act.put, List.setIfInBounds_toArray, List.set_cons_zero, List.set_cons_succ])
        refine callH2 (i := 4) (j := 6) { dst := some 23, op := Go.Op.load 61 (Go.Operand.tmp 22), type := 61, pos := "ref.go:49", after := #[{ on := 3, ground := Go.Ground.data }], guard := none } { dst := some 25, op := Go.Op.buildSlice 65 1 #[(0, Go.Operand.tmp 24)], type := 65, pos := "ref.go:49", after := #[{ on := 5, ground := Go.Ground.data }], guard := none } (by kernel_rfl) rfl rfl rfl rfl (fun K hK => ?_) (fun K hK => ?_)
        · have cl := L5.c0
          go_simp
          clear hH cl
          refine hK.out _ _ trivial (fun hH => ?_)
          clear hK K
          (try simp only [Act.put, List.setIfInBounds_toArray, List.set_cons_zero, List.set_cons_succ])
          refine callH (i := 6) { dst := some 25, op := Go.Op.buildSlice 65 1 #[(0, Go.Operand.tmp 24)], type := 65, pos := "ref.go:49", after := #[{ on := 5, ground := Go.Ground.data }], guard := none } (by kernel_rfl) rfl rfl (fun K hK => ?_)
          go_simp
          clear hH
          refine hK.out _ _ trivial (fun hH => ?_)
          clear hK K
          (try simp only [Act.put, List.setIfInBounds_toArray, List.set_cons_zero, List.set_cons_succ])
          refine takeH (i := 7) (dst := some 26) (v := ?vn8) rfl rfl (by kernel_rfl) (by kernel_rfl) (by kernel_rfl) (fun _ _ _ h => h) rfl ?hyn8 hH rfl ?restn8
          case hyn8 => (intro W hW; clear hW; go_simp; try with_reducible rfl)
          (try simp only [Act.put, List.setIfInBounds_toArray, List.set_cons_zero, List.set_cons_succ])
          refine callH (i := 8) { dst := some 27, op := Go.Op.buildSlice 61 1 #[(0, Go.Operand.tmp 26)], type := 61, pos := "ref.go:49", after := #[{ on := 7, ground := Go.Ground.data }], guard := none } (by kernel_rfl) rfl rfl (fun K hK => ?_)
          go_simp
          clear hH
          refine hK.out _ _ trivial (fun hH => ?_)
          clear hK K
          (try simp only [Act.put, List.setIfInBounds_toArray, List.set_cons_zero, List.set_cons_succ])
          obtain ⟨ao', ac', g, cp, w4, ev, hrun, cA, fA, LN, BN, FN⟩ := L5.stepF (by omega) (by omega)
          obtain ⟨rfl, rfl⟩ : ao = ao' ∧ ac = ac' := by simpa using ev
          rw [hzb k (by omega)] at hrun
          refine readyH (i := 9) (v := .slice (some ⟨g, 0, none⟩) (k + 1) cp) (w' := w4) (by kernel_rfl) rfl rfl rfl (run_app60 rfl rfl rfl rfl hrun) rfl trivial ?_
          (try simp only [Act.put, List.setIfInBounds_toArray])
          refine takeH (i := 10) (dst := some 29) (v := ?vn9) rfl rfl (by kernel_rfl) (by kernel_rfl) (by kernel_rfl) (fun _ _ _ h => h) rfl ?hyn9 hH rfl ?restn9
          case hyn9 => (intro W hW; clear hW; go_simp; try with_reducible rfl)
          (try simp only [Act.put])
          refine takeH (i := 11) (dst := some 30) (v := ?vn10) rfl rfl (by kernel_rfl) (by kernel_rfl) (by kernel_rfl) (fun _ _ _ h => h) rfl ?hyn10 hH rfl ?restn10
          case hyn10 => (intro W hW; clear hW; go_simp; try with_reducible rfl)
          (try simp only [Act.put])
          refine callH (i := 12) { dst := none, op := Go.Op.store 61 (Go.Operand.tmp 30) (Go.Operand.tmp 28), type := 0, pos := "ref.go:49", after := #[{ on := 11, ground := Go.Ground.data }, { on := 9, ground := Go.Ground.data }, { on := 9, ground := Go.Ground.chain }, { on := 0, ground := Go.Ground.phase }, { on := 1, ground := Go.Ground.phase }, { on := 2, ground := Go.Ground.phase }, { on := 3, ground := Go.Ground.phase }, { on := 4, ground := Go.Ground.phase }, { on := 5, ground := Go.Ground.phase }, { on := 6, ground := Go.Ground.phase }, { on := 7, ground := Go.Ground.phase }, { on := 8, ground := Go.Ground.phase }, { on := 9, ground := Go.Ground.phase }], guard := none } (by kernel_rfl) rfl rfl (fun K hK => ?_)
          go_simp
          clear hH
          refine hK.out _ _ trivial (fun hH => ?_)
          clear hK K
          (try simp only [Act.put, List.setIfInBounds_toArray, List.set_cons_zero, List.set_cons_succ])
          refine wpAnyH_done (by kernel_rfl) ?_ _
          have HL2 : Hid _ := LN
          have HB2 : Hid (Below w.heap.size w (w4.setCell ⟨w.heap.size, 0, none⟩ (.slice (some ⟨g, 0, none⟩) (k + 1) cp))) := (HBd.out.trans (b5.mono (by omega))).trans BN
          have HF2 : Hid (∀ o, (w4.setCell ⟨w.heap.size, 0, none⟩ (.slice (some ⟨g, 0, none⟩) (k + 1) cp)).frozen? ⟨w.heap.size, o, none⟩ = false) := fun o => FN o ((b5.frozen (p := ⟨w.heap.size, o, none⟩) (show w.heap.size < wd.heap.size by omega)).trans (HFd.out o))
          clear FN
          clear hH cA fA LN BN hrun L5 b5 L1 ev
          go_wp2_with fail
          go_round
          case rel => exact ⟨k + 1, _, _, by omega, by go_num, HL2, HF2, HB2⟩
          case measure => simp [intOf]; omega
        · go_simp
          clear hH
          refine hK.out _ _ trivial (fun hH => ?_)
          clear hK K
          (try simp only [Act.put, List.setIfInBounds_toArray, List.set_cons_zero, List.set_cons_succ])
          refine takeH (i := 7) (dst := some 26) (v := ?vn11) rfl rfl (by kernel_rfl) (by kernel_rfl) (by kernel_rfl) (fun _ _ _ h => h) rfl ?hyn11 hH rfl ?restn11
          case hyn11 => (intro W hW; clear hW; go_simp; try with_reducible rfl)
          (try simp only [Act.put, List.setIfInBounds_toArray, List.set_cons_zero, List.set_cons_succ])
          refine callH2 (i := 4) (j := 8) { dst := some 23, op := Go.Op.load 61 (Go.Operand.tmp 22), type := 61, pos := "ref.go:49", after := #[{ on := 3, ground := Go.Ground.data }], guard := none } { dst := some 27, op := Go.Op.buildSlice 61 1 #[(0, Go.Operand.tmp 26)], type := 61, pos := "ref.go:49", after := #[{ on := 7, ground := Go.Ground.data }], guard := none } (by kernel_rfl) rfl rfl rfl rfl (fun K hK => ?_) (fun K hK => ?_)
          · have cl := (World.cell?_alloc_lt w5 (.cells #[.string (str zer)] 9) ⟨w.heap.size, 0, none⟩ (show w.heap.size < w5.heap.size by omega)).trans L5.c0
            go_simp
            clear hH cl
            refine hK.out _ _ trivial (fun hH => ?_)
            clear hK K
            (try simp only [Act.put, List.setIfInBounds_toArray, List.set_cons_zero, List.set_cons_succ])
            refine callH (i := 8) { dst := some 27, op := Go.Op.buildSlice 61 1 #[(0, Go.Operand.tmp 26)], type := 61, pos := "ref.go:49", after := #[{ on := 7, ground := Go.Ground.data }], guard := none } (by kernel_rfl) rfl rfl (fun K hK => ?_)
            go_simp
            clear hH
            refine hK.out _ _ trivial (fun hH => ?_)
            clear hK K
            (try simp only [Act.put, List.setIfInBounds_toArray, List.set_cons_zero, List.set_cons_succ])
            obtain ⟨ao', ac', g, cp, w4, ev, hrun, cA, fA, LN, BN, FN⟩ := L5.stepF (by omega) (by omega)
            obtain ⟨rfl, rfl⟩ : ao = ao' ∧ ac = ac' := by simpa using ev
            rw [hzb k (by omega)] at hrun
            refine readyH (i := 9) (v := .slice (some ⟨g, 0, none⟩) (k + 1) cp) (w' := w4) (by kernel_rfl) rfl rfl rfl (run_app60 rfl rfl rfl rfl hrun) rfl trivial ?_
            (try simp only [Act.put, List.setIfInBounds_toArray])
            refine takeH (i := 10) (dst := some 29) (v := ?vn12) rfl rfl (by kernel_rfl) (by kernel_rfl) (by kernel_rfl) (fun _ _ _ h => h) rfl ?hyn12 hH rfl ?restn12
            case hyn12 => (intro W hW; clear hW; go_simp; try with_reducible rfl)
            (try simp only [Act.put])
            refine takeH (i := 11) (dst := some 30) (v := ?vn13) rfl rfl (by kernel_rfl) (by kernel_rfl) (by kernel_rfl) (fun _ _ _ h => h) rfl ?hyn13 hH rfl ?restn13
            case hyn13 => (intro W hW; clear hW; go_simp; try with_reducible rfl)
            (try simp only [Act.put])
            refine callH (i := 12) { dst := none, op := Go.Op.store 61 (Go.Operand.tmp 30) (Go.Operand.tmp 28), type := 0, pos := "ref.go:49", after := #[{ on := 11, ground := Go.Ground.data }, { on := 9, ground := Go.Ground.data }, { on := 9, ground := Go.Ground.chain }, { on := 0, ground := Go.Ground.phase }, { on := 1, ground := Go.Ground.phase }, { on := 2, ground := Go.Ground.phase }, { on := 3, ground := Go.Ground.phase }, { on := 4, ground := Go.Ground.phase }, { on := 5, ground := Go.Ground.phase }, { on := 6, ground := Go.Ground.phase }, { on := 7, ground := Go.Ground.phase }, { on := 8, ground := Go.Ground.phase }, { on := 9, ground := Go.Ground.phase }], guard := none } (by kernel_rfl) rfl rfl (fun K hK => ?_)
            go_simp
            clear hH
            refine hK.out _ _ trivial (fun hH => ?_)
            clear hK K
            (try simp only [Act.put, List.setIfInBounds_toArray, List.set_cons_zero, List.set_cons_succ])
            refine wpAnyH_done (by kernel_rfl) ?_ _
            have HL2 : Hid _ := LN
            have HB2 : Hid (Below w.heap.size w (w4.setCell ⟨w.heap.size, 0, none⟩ (.slice (some ⟨g, 0, none⟩) (k + 1) cp))) := (HBd.out.trans (b5.mono (by omega))).trans BN
            have HF2 : Hid (∀ o, (w4.setCell ⟨w.heap.size, 0, none⟩ (.slice (some ⟨g, 0, none⟩) (k + 1) cp)).frozen? ⟨w.heap.size, o, none⟩ = false) := fun o => FN o ((b5.frozen (p := ⟨w.heap.size, o, none⟩) (show w.heap.size < wd.heap.size by omega)).trans (HFd.out o))
            clear FN
            clear hH cA fA LN BN hrun L5 b5 L1 ev
            go_wp2_with fail
            go_round
            case rel => exact ⟨k + 1, _, _, by omega, by go_num, HL2, HF2, HB2⟩
            case measure => simp [intOf]; omega
          · go_simp
            clear hH
            refine hK.out _ _ trivial (fun hH => ?_)
            clear hK K
            (try simp only [Act.put, List.setIfInBounds_toArray, List.set_cons_zero, List.set_cons_succ])
            refine callH (i := 4) { dst := some 23, op := Go.Op.load 61 (Go.Operand.tmp 22), type := 61, pos := "ref.go:49", after := #[{ on := 3, ground := Go.Ground.data }], guard := none } (by kernel_rfl) rfl rfl (fun K hK => ?_)
            have cl := (World.cell?_alloc_lt (w5.alloc (.cells #[.string (str zer)] 9)) (.cells #[.slice (some ⟨w5.heap.size, 0, none⟩) 1 1] 67) ⟨w.heap.size, 0, none⟩ (show w.heap.size < (w5.alloc (.cells #[.string (str zer)] 9)).heap.size by rw [alloc_size]; omega)).trans ((World.cell?_alloc_lt w5 (.cells #[.string (str zer)] 9) ⟨w.heap.size, 0, none⟩ (show w.heap.size < w5.heap.size by omega)).trans L5.c0)
            go_simp
            clear hH cl
            refine hK.out _ _ trivial (fun hH => ?_)
            clear hK K
            (try simp only [Act.put, List.setIfInBounds_toArray, List.set_cons_zero, List.set_cons_succ])
            obtain ⟨ao', ac', g, cp, w4, ev, hrun, cA, fA, LN, BN, FN⟩ := L5.stepF (by omega) (by omega)
            obtain ⟨rfl, rfl⟩ : ao = ao' ∧ ac = ac' := by simpa using ev
            rw [hzb k (by omega)] at hrun
            refine readyH (i := 9) (v := .slice (some ⟨g, 0, none⟩) (k + 1) cp) (w' := w4) (by kernel_rfl) rfl rfl rfl (run_app60 rfl rfl rfl rfl hrun) rfl trivial ?_
            (try simp only [Act.put, List.setIfInBounds_toArray])
            refine takeH (i := 10) (dst := some 29) (v := ?vn14) rfl rfl (by kernel_rfl) (by kernel_rfl) (by kernel_rfl) (fun _ _ _ h => h) rfl ?hyn14 hH rfl ?restn14
            case hyn14 => (intro W hW; clear hW; go_simp; try with_reducible rfl)
            (try simp only [Act.put])
            refine takeH (i := 11) (dst := some 30) (v := ?vn15) rfl rfl (by kernel_rfl) (by kernel_rfl) (by kernel_rfl) (fun _ _ _ h => h) rfl ?hyn15 hH rfl ?restn15
            case hyn15 => (intro W hW; clear hW; go_simp; try with_reducible rfl)
            (try simp only [Act.put])
            refine callH (i := 12) { dst := none, op := Go.Op.store 61 (Go.Operand.tmp 30) (Go.Operand.tmp 28), type := 0, pos := "ref.go:49", after := #[{ on := 11, ground := Go.Ground.data }, { on := 9, ground := Go.Ground.data }, { on := 9, ground := Go.Ground.chain }, { on := 0, ground := Go.Ground.phase }, { on := 1, ground := Go.Ground.phase }, { on := 2, ground := Go.Ground.phase }, { on := 3, ground := Go.Ground.phase }, { on := 4, ground := Go.Ground.phase }, { on := 5, ground := Go.Ground.phase }, { on := 6, ground := Go.Ground.phase }, { on := 7, ground := Go.Ground.phase }, { on := 8, ground := Go.Ground.phase }, { on := 9, ground := Go.Ground.phase }], guard := none } (by kernel_rfl) rfl rfl (fun K hK => ?_)
            go_simp
            clear hH
            refine hK.out _ _ trivial (fun hH => ?_)
            clear hK K
            (try simp only [Act.put, List.setIfInBounds_toArray, List.set_cons_zero, List.set_cons_succ])
            refine wpAnyH_done (by kernel_rfl) ?_ _
            have HL2 : Hid _ := LN
            have HB2 : Hid (Below w.heap.size w (w4.setCell ⟨w.heap.size, 0, none⟩ (.slice (some ⟨g, 0, none⟩) (k + 1) cp))) := (HBd.out.trans (b5.mono (by omega))).trans BN
            have HF2 : Hid (∀ o, (w4.setCell ⟨w.heap.size, 0, none⟩ (.slice (some ⟨g, 0, none⟩) (k + 1) cp)).frozen? ⟨w.heap.size, o, none⟩ = false) := fun o => FN o ((b5.frozen (p := ⟨w.heap.size, o, none⟩) (show w.heap.size < wd.heap.size by omega)).trans (HFd.out o))
            clear FN
            clear hH cA fA LN BN hrun L5 b5 L1 ev
            go_wp2_with fail
            go_round
            case rel => exact ⟨k + 1, _, _, by omega, by go_num, HL2, HF2, HB2⟩
            case measure => simp [intOf]; omega
    · obtain rfl : k = n := by omega
      go_wp2_with fail
      go_ret2
      exact ⟨rfl, ⟨v, va, HL.out⟩, HFZ.out, HB.out⟩
theorem rnew_any (n : Nat) (h1 : 1 ≤ n) (hn : n ≤ 40) (w : World) :
    Calls Try.prog 9 #[.int .i64 (n : Int)] w fun e w' => e = .returned (.tuple #[.pointer (some ⟨w.heap.size, 0, none⟩), .int .i64 0]) ∧ (∃ gb cb va vc, RefW w' w.heap.size w.heap.size n false 0 (fun _ => zer :: []) gb cb va vc ∧ w.heap.size ≤ gb ∧ ∀ i, i < n → w.heap.size ≤ va i) ∧ Below w.heap.size w w' :=
  (rnew_go n h1 hn w).mono fun e w' ⟨h1', ⟨v, va, hL⟩, hf, hb⟩ => by
    obtain ⟨gb, cb, hR, hg, hv⟩ := hL.refW hf h1 (by omega)
    refine ⟨h1', ⟨gb, cb, va, fun _ => 1, ⟨?_, hR.fr, hR.fg, hR.rg, hR.ar⟩, hg, hv⟩, hb⟩
    have k := hR.at'
    refine { nn := k.nn, c0 := k.c0, c1 := k.c1, c2 := k.c2, rb := k.rb, gl := k.gl, cl := k.cl, row := fun i hi => k.row i hi, vers := fun i hi j hj => ?_ }
    have h := k.vers i hi j hj
    have hj0 : j = 0 := by simp at hj; omega
    subst hj0
    rw [h]
    simp [blk_zer n i hi]
end Go.Proofs.Ytcmkgcdjjplgdaa
