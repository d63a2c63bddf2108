/- leveeref02.Load. -/
import Derived.Test.YtcmkgcdjjplgdaaSameWalk
namespace Go.Proofs.Ytcmkgcdjjplgdaa
open Go.RowKit
theorem Try.info67 : (Try.prog.info? 67).map (fun i => (i.zero, i.size, i.bytes)) = some (some (.agg #[.slice none 0 0]), 1, 24) := by kernel_rfl
def rowL (va : Nat → Nat) (k : Nat) : List Value := (List.range k).map fun i => Value.slice (some ⟨va i, 0, none⟩) 1 1
theorem rowL_length (va : Nat → Nat) (k : Nat) : (rowL va k).length = k := by simp [rowL]
/-- The document's disk behind k rounds of Load. -/
structure LoadL (w : World) (base r k : Nat) (l : List UInt8) (v : Value) (va : Nat → Nat) : Prop where
  c0 : w.cell? ⟨r, 0, none⟩ = some v
  c1 : w.cell? ⟨r, 1, none⟩ = some (.bool false)
  c2 : w.cell? ⟨r, 2, none⟩ = some (.int .i64 0)
  f0 : w.frozen? ⟨r, 0, none⟩ = false
  own : w.ownsRow base 67 1 v k (rowL va k)
  rb : base ≤ r
  ob : v.ownBlock ≠ some r
  at' : ∀ i, i < k → w.cell? ⟨va i, 0, none⟩ = some (.string (str (blkOf l i))) ∧ va i ≠ r ∧ v.ownBlock ≠ some (va i) ∧ va i < w.heap.size ∧ base ≤ va i
theorem LoadL.step {w : World} {base r k : Nat} {l : List UInt8} {v : Value} {va : Nat → Nat} (h : LoadL w base r k l v va) (hk : k ≤ 4096) (hbase : base ≤ w.heap.size) :
    ∃ ao ac g cp w4, v = .slice ao k ac ∧
      (Builtin.append_ #[61, 61] 61 #[.slice ao k ac, .slice (some ⟨w.heap.size + 1, 0, none⟩) 1 1]).run Try.prog ((w.alloc (.cells #[.string (str (blkOf l k))] 9)).alloc (.cells #[.slice (some ⟨w.heap.size, 0, none⟩) 1 1] 67)) = .ok (.slice (some ⟨g, 0, none⟩) (k + 1) cp) w4 ∧
      w4.cell? ⟨r, 0, none⟩ = some (.slice ao k ac) ∧ w4.frozen? ⟨r, 0, none⟩ = false ∧
      LoadL (w4.setCell ⟨r, 0, none⟩ (.slice (some ⟨g, 0, none⟩) (k + 1) cp)) base r (k + 1) l (.slice (some ⟨g, 0, none⟩) (k + 1) cp) (upd va k w.heap.size) ∧ Below base w (w4.setCell ⟨r, 0, none⟩ (.slice (some ⟨g, 0, none⟩) (k + 1) cp)) := by
  obtain ⟨i0, hi, hz0, hz1, hz2⟩ := info_parts Try.info67
  obtain ⟨ao, ac, hv⟩ : ∃ ao ac, v = .slice ao k ac := by
    obtain ⟨_, h2⟩ := h.own
    rcases h2 with ⟨h2, h3⟩ | ⟨g, cap, _, hv, _⟩
    · exact ⟨none, 0, by rw [h2, h3]⟩
    · exact ⟨_, cap, hv⟩
  have hrl : r < w.heap.size := block_lt_of_cell h.c0
  have s1 := alloc_size w (.cells #[.string (str (blkOf l k))] 9)
  have s2 := alloc_size (w.alloc (.cells #[.string (str (blkOf l k))] 9)) (.cells #[.slice (some ⟨w.heap.size, 0, none⟩) 1 1] 67)
  have hb2 : Below w.heap.size w ((w.alloc (.cells #[.string (str (blkOf l k))] 9)).alloc (.cells #[.slice (some ⟨w.heap.size, 0, none⟩) 1 1] 67)) := ((Below.refl _ _).alloc (Nat.le_refl _) _).alloc (by omega) _
  have hcs : ((w.alloc (.cells #[.string (str (blkOf l k))] 9)).alloc (.cells #[.slice (some ⟨w.heap.size, 0, none⟩) 1 1] 67)).cell? ⟨w.heap.size + 1, 0, none⟩ = some (.slice (some ⟨w.heap.size, 0, none⟩) 1 1) := by
    have := cell_one (w.alloc (.cells #[.string (str (blkOf l k))] 9)) (.slice (some ⟨w.heap.size, 0, none⟩) 1 1) 67 (0, 0)
    rw [s1] at this; exact this
  have hst : ((w.alloc (.cells #[.string (str (blkOf l k))] 9)).alloc (.cells #[.slice (some ⟨w.heap.size, 0, none⟩) 1 1] 67)).cell? ⟨w.heap.size, 0, none⟩ = some (.string (str (blkOf l k))) := by
    rw [World.cell?_alloc_lt _ _ _ (show w.heap.size < _ by rw [s1]; omega)]
    exact cell_one w _ 9 (0, 0)
  obtain ⟨W2, HW2⟩ : ∃ W2, W2 = ((w.alloc (.cells #[.string (str (blkOf l k))] 9)).alloc (.cells #[.slice (some ⟨w.heap.size, 0, none⟩) 1 1] 67)) := ⟨_, rfl⟩
  rw [← HW2] at hb2 hcs hst s2 ⊢
  obtain ⟨g, cp, w4, hrun, hown, hgrow, hat, hlt⟩ := run_append_lies (P := Try.prog) W2 61 61 base 67 i0 (.agg #[.slice none 0 0]) 1 24 Try.underlying61 hi hz0 hz1 hz2 rfl (by omega) v k _ (owns_below h.own hb2 (Nat.le_refl _)) ⟨w.heap.size + 1, 0, none⟩ 1 1 [.slice (some ⟨w.heap.size, 0, none⟩) 1 1] rfl (fun j u hj => by
    have hj0 : j = 0 := by have := (List.getElem?_eq_some_iff.1 hj).1; simp at this; omega
    subst hj0
    have hu : u = .slice (some ⟨w.heap.size, 0, none⟩) 1 1 := by simpa using hj.symm
    rw [addr_add, hu]; exact hcs) (by intro u hu; simp at hu; subst hu; rfl) (by omega) (by unfold maxLen; omega) (by omega) (by omega) (w.heap.size + 2) (by omega)
  have hblk : ∀ j, j < w.heap.size + 2 → some j ≠ v.ownBlock → w4.heap[j]? = W2.heap[j]? := fun j hj hne => hgrow.block j (by omega) hne
  have hrb : w4.heap[r]? = w.heap[r]? := (hblk r (by omega) (fun e => h.ob e.symm)).trans (hb2.block r hrl)
  have hs4 := hgrow.size
  have hgr : g ≠ r := by
    rcases hat with e | e
    · intro e2; exact h.ob (by rw [e, e2])
    · omega
  have hb4 : Below base w w4 := (hb2.mono hbase).grown hgrow (by omega) (fun j hj => (World.ownsRow.lt h.own j hj).1)
  rw [hv] at hrun
  refine ⟨ao, ac, g, cp, w4, hv, hrun, by rw [← hv]; exact (World.cell?_of_block (a := ⟨r, 0, none⟩) hrb).trans h.c0, (World.frozen?_of_block (a := ⟨r, 0, none⟩) hrb).trans h.f0, ?_, hb4.setCell h.rb _⟩
  have hc0 : w4.cell? ⟨r, 0, none⟩ = some v := (World.cell?_of_block (a := ⟨r, 0, none⟩) hrb).trans h.c0
  have hoth : ∀ j, j ≠ r → (w4.setCell ⟨r, 0, none⟩ (.slice (some ⟨g, 0, none⟩) (k + 1) cp)).heap[j]? = w4.heap[j]? := fun j hj => heap_setCell_other w4 ⟨r, 0, none⟩ j _ hj
  exact {
    c0 := World.cell?_setCell_same _ _ _ hc0
    c1 := (World.cell?_setCell_other _ _ _ _ (by simp)).trans ((World.cell?_of_block (a := ⟨r, 1, none⟩) hrb).trans h.c1)
    c2 := (World.cell?_setCell_other _ _ _ _ (by simp)).trans ((World.cell?_of_block (a := ⟨r, 2, none⟩) hrb).trans h.c2)
    f0 := by rw [World.frozen?_setCell]; exact (World.frozen?_of_block (a := ⟨r, 0, none⟩) hrb).trans h.f0
    own := by
      have e : rowL (upd va k w.heap.size) (k + 1) = rowL va k ++ [.slice (some ⟨w.heap.size, 0, none⟩) 1 1] := by
        unfold rowL
        rw [List.range_succ, List.map_append]
        congr 1
        · exact List.map_congr_left fun i hi => by rw [upd_other _ _ _ (by have := List.mem_range.1 hi; omega)]
        · simp [upd_same]
      rw [e]
      exact World.ownsRow.kept hown ⟨rfl, rfl, rfl, by simp [World.setCell], fun j _ hj => hoth j (fun e => hj (by rw [e]))⟩ (.inr (by intro e; exact hgr (by simpa [Value.ownBlock] using e)))
    rb := h.rb
    ob := by intro e; exact hgr (by simpa [Value.ownBlock] using e)
    at' := fun i hik => by
      have hsz : (w4.setCell ⟨r, 0, none⟩ (.slice (some ⟨g, 0, none⟩) (k + 1) cp)).heap.size = w4.heap.size := by simp [World.setCell]
      by_cases hi2 : i = k
      · subst hi2
        rw [upd_same]
        have hne : some w.heap.size ≠ v.ownBlock := fun e => by have := (World.ownsRow.lt h.own _ e.symm).2; omega
        refine ⟨?_, by omega, ?_, by omega, hbase⟩
        · rw [World.cell?_of_block (a := ⟨w.heap.size, 0, none⟩) (hoth w.heap.size (by omega)), World.cell?_of_block (a := ⟨w.heap.size, 0, none⟩) (hblk w.heap.size (by omega) hne)]
          exact hst
        · intro e
          have e2 : g = w.heap.size := by simpa [Value.ownBlock] using e
          rcases hat with e3 | e3
          · exact hne (by rw [e3, e2])
          · omega
      · rw [upd_other _ _ _ hi2]
        obtain ⟨a1, a2, a3, a4, a5⟩ := h.at' i (by omega)
        refine ⟨?_, a2, ?_, by omega, a5⟩
        · rw [World.cell?_of_block (a := ⟨va i, 0, none⟩) (hoth _ a2), World.cell?_of_block (a := ⟨va i, 0, none⟩) (hblk (va i) (by omega) (fun e => a3 e.symm)), World.cell?_of_block (a := ⟨va i, 0, none⟩) (hb2.block (va i) a4)]
          exact a1
        · intro e
          have e2 : g = va i := by simpa [Value.ownBlock] using e
          rcases hat with e3 | e3
          · exact a3 (by rw [e3, e2])
          · omega }
theorem run_conv {P : Program} {o : Oper} {a : Act} {w w' : World} {s d : TypeId} {x : Operand} {pv v : Value} (hop : o.op = .convert s d x) (hx : a.eval x = pv) (hL : (convert s d pv).run P w = .ok v w') : (execOp a.eval o).run P w = .ok (.value v) w' := by
  unfold execOp; simp only [hop, hx, Sem.run_bind, hL, Result.andThen_ok, Sem.run_pure]
theorem run_app60 {P : Program} {o : Oper} {a : Act} {w w' : World} {s x : Operand} {sv xv v : Value} (hop : o.op = .call { callee := .builtin .append, args := #[s, x], argTypes := #[61, 61] }) (hty : o.type = 61) (hs : a.eval s = sv) (hx : a.eval x = xv) (hL : (Builtin.append_ #[61, 61] 61 #[sv, xv]).run P w = .ok v w') : (execOp a.eval o).run P w = .ok (.value v) w' := by
  unfold execOp
  simp only [hop, hty, resolve, invoke, builtin, Sem.run_bind, Sem.run_pure, Result.andThen_ok, List.map_toArray, List.map_cons, List.map_nil, hs, hx, hL]
theorem load60 (w : World) (q o : Nat) (v : Value) (h : w.cell? ⟨q, o, none⟩ = some v) : (Instr.loadAt 61 (.pointer (some ⟨q, o, none⟩))).run Try.prog w = .ok v w := by go_simp
theorem build63 (w : World) (s : ByteArray) : (Instr.buildSlice 65 1 #[(0, .string s)]).run Try.prog w = .ok (.slice (some ⟨w.heap.size, 0, none⟩) 1 1) (w.alloc (.cells #[.string s] 9)) := by go_simp
theorem build60 (w : World) (v : Nat) : (Instr.buildSlice 61 1 #[(0, .agg #[.slice (some ⟨v, 0, none⟩) 1 1])]).run Try.prog w = .ok (.slice (some ⟨w.heap.size, 0, none⟩) 1 1) (w.alloc (.cells #[.slice (some ⟨v, 0, none⟩) 1 1] 67)) := by go_simp
theorem LoadL.drew {w : World} {base r k : Nat} {l : List UInt8} {v : Value} {va : Nat → Nat} (h : LoadL w base r k l v va) : LoadL w.drew base r k l v va := ⟨h.c0, h.c1, h.c2, h.f0, h.own, h.rb, h.ob, h.at'⟩
set_option maxHeartbeats 4000000 in
set_option maxRecDepth 100000 in
theorem rload_any (w : World) (b off cap : Nat) (l : List UInt8) (n : Nat) (hl : l.length = n * 256) (h1 : 1 ≤ n) (hn : n ≤ 39) (hs : Src w (some ⟨b, off, none⟩) l) (hcap : n * 256 ≤ cap ∧ (cap : Int) ≤ 9223372036854775807) :
    Calls Try.prog 21 #[.slice (some ⟨b, off, none⟩) (n * 256) cap] w fun e w' => ∃ r, e = .returned (.tuple #[.pointer (some ⟨r, 0, none⟩), .int .i64 0]) ∧ (∃ v va, LoadL w' w.heap.size r n l v va) ∧ Below w.heap.size w w' := by
  have hn' : (n : Int) ≤ 39 := by omega
  have hn1 : (1 : Int) ≤ n := by omega
  have hrem : Int.tmod ((n : Int) * 256) 256 = 0 := by simp
  have hquo : Int.tdiv ((n : Int) * 256) 256 = (n : Int) := Int.mul_tdiv_cancel (n : Int) (b := 256) (by omega)
  have hnz : (((n : Int) * 256) == 0) = false := beq_eq_false_iff_ne.2 (by omega)
  have hnb : decide ((4096 : Int) < n) = false := decide_eq_false (by omega)
  have HS : Hid (Src w (some ⟨b, off, none⟩) l) := hs
  have HL : Hid (l.length = n * 256) := hl
  have hb0 : Below w.heap.size w (w.alloc (.cells #[.slice none 0 0, .bool false, .int .i64 0] 63)) := (Below.refl _ _).alloc (Nat.le_refl _) _
  have h0 : Hid (LoadL (w.alloc (.cells #[.slice none 0 0, .bool false, .int .i64 0] 63)) w.heap.size w.heap.size 0 l (.slice none 0 0) (fun _ => 0)) := by
    have e : (w.alloc (.cells #[.slice none 0 0, .bool false, .int .i64 0] 63)).heap[w.heap.size]? = some (.cells #[.slice none 0 0, .bool false, .int .i64 0] 63 (0, 0)) := heap_alloc_new _ _
    exact { c0 := by rw [cell_of_row _ _ _ _ _ _ e]; rfl, c1 := by rw [cell_of_row _ _ _ _ _ _ e]; rfl, c2 := by rw [cell_of_row _ _ _ _ _ _ e]; rfl, f0 := frozen_of_row _ _ _ _ _ e, own := World.ownsRow_nil _ _ _ _, rb := Nat.le_refl _, ob := by simp [Value.ownBlock], at' := fun i hi => by omega }
  clear hs hl
  go_enter Try.func21, Try.ntmps21
  go_wp2_with fail
  go_loopw [5] (fun i wr => ∃ k : Nat, k ≤ n ∧ i = .int .i64 ((k : Int) * 256) ∧ Hid (∃ v va, LoadL wr w.heap.size w.heap.size k l v va) ∧ Below w.heap.size w wr) (fun i _ => n * 256 - (intOf i).toNat)
  case atStart => exact ⟨0, by omega, rfl, ⟨_, _, h0⟩, hb0⟩
  case round =>
    clear h0 hb0 hrem hquo hnz hnb
    obtain ⟨k, hk, rfl, HD, hbw⟩ := hrel
    by_cases hlt : (k : Int) < n
    · have hlt' : (k : Int) * 256 < (n : Int) * 256 := by omega
      obtain ⟨v, va, hD⟩ := HD.out
      have hkn : k < n := by omega
      have hlk := blkOf_length l n k HL.out hkn
      have hws := hbw.size
      obtain ⟨ao, ac, g, cp, w4, rfl, hrun, cA, fA, hD4, hB4⟩ := hD.drew.step (by omega) (show w.heap.size ≤ wr.heap.size by omega)
      have hsz1 : (wr.drew.alloc (.cells #[.string (str (blkOf l k))] 9)).heap.size = wr.heap.size + 1 := alloc_size wr.drew _
      have hr0 : w.heap.size < wr.heap.size := block_lt_of_cell hD.c0
      have c0 : wr.drew.cell? ⟨w.heap.size, 0, none⟩ = some (.slice ao k ac) := hD.c0
      have L0 := load60 wr.drew _ _ _ c0
      have L1 := load60 (wr.drew.alloc (.cells #[.string (str (blkOf l k))] 9)) _ _ _ ((World.cell?_alloc_lt _ _ _ (show w.heap.size < wr.heap.size from hr0)).trans c0)
      have L2 := load60 ((wr.drew.alloc (.cells #[.string (str (blkOf l k))] 9)).alloc (.cells #[.slice (some ⟨wr.heap.size, 0, none⟩) 1 1] 67)) _ _ _ ((World.cell?_alloc_lt _ _ _ (show w.heap.size < _ by rw [hsz1]; omega)).trans ((World.cell?_alloc_lt _ _ _ (show w.heap.size < wr.heap.size from hr0)).trans c0))
      have hsk : Src wr.drew (some ⟨b, off + k * 256, none⟩) (blkOf l k) := by
        have hsr : Src wr.drew (some ⟨b, off, none⟩) l := HS.out.below hbw.drew (Nat.le_refl _)
        exact (hsr.off (k * 256)).pre 256
      have CV := conv_str hsk 256 (cap - k * 256) hlk.symm
      have B1 := build63 wr.drew (str (blkOf l k))
      have B2 := build60 (wr.drew.alloc (.cells #[.string (str (blkOf l k))] 9)) wr.heap.size
      rw [hsz1] at B2
      have H4 : Hid (∃ v va, LoadL (w4.setCell ⟨w.heap.size, 0, none⟩ (.slice (some ⟨g, 0, none⟩) (k + 1) cp)) w.heap.size w.heap.size (k + 1) l v va) := ⟨_, _, hD4⟩
      have hb5 := hbw.trans (show Below w.heap.size wr _ from ⟨hB4.os, hB4.tape, hB4.output, hB4.size, hB4.block⟩)
      clear hD4 hB4 hD HD hsk
      generalize str (blkOf l k) = s at *
      go_wp2_with fail
      refine wp_region_any (by kernel_rfl) ?_
      change wpAny _ _ _ _ _ _ _ (World.drew _)
      refine take_op (i := 0) (dst := some 29) (v := .pointer (some ⟨w.heap.size, 0, none⟩)) rfl rfl (by kernel_rfl) (by kernel_rfl) (by kernel_rfl) (fun _ _ _ h => h) rfl (fun _ => by go_simp) rfl ?_
      simp only [Act.put, List.setIfInBounds_toArray, List.set_cons_succ, List.set_cons_zero]
      refine take_op (i := 1) (dst := some 30) (v := .pointer (some ⟨w.heap.size, 0, none⟩)) rfl rfl (by kernel_rfl) (by kernel_rfl) (by kernel_rfl) (fun _ _ _ h => h) rfl (fun _ => by go_simp) rfl ?_
      simp only [Act.put, List.setIfInBounds_toArray, List.set_cons_succ, List.set_cons_zero]
      refine take_op (i := 2) (dst := some 31) (v := .pointer (some ⟨w.heap.size, 0, none⟩)) rfl rfl (by kernel_rfl) (by kernel_rfl) (by kernel_rfl) (fun _ _ _ h => h) rfl (fun _ => by go_simp) rfl ?_
      simp only [Act.put, List.setIfInBounds_toArray, List.set_cons_succ, List.set_cons_zero]
      refine take_op (i := 3) (dst := some 32) (v := .pointer (some ⟨w.heap.size, 0, none⟩)) rfl rfl (by kernel_rfl) (by kernel_rfl) (by kernel_rfl) (fun _ _ _ h => h) rfl (fun _ => by go_simp) rfl ?_
      simp only [Act.put, List.setIfInBounds_toArray, List.set_cons_succ, List.set_cons_zero]
      refine take_op (i := 5) (dst := some 34) (v := .slice (some ⟨b, off, none⟩) (n * 256) cap) rfl rfl (by kernel_rfl) (by kernel_rfl) (by kernel_rfl) (fun _ _ _ h => h) rfl (fun _ => by go_simp) rfl ?_
      simp only [Act.put, List.setIfInBounds_toArray, List.set_cons_succ, List.set_cons_zero]
      refine take_op (i := 6) (dst := some 35) (v := .int .i64 ((k : Int) * 256)) rfl rfl (by kernel_rfl) (by kernel_rfl) (by kernel_rfl) (fun _ _ _ h => h) rfl (fun _ => by go_simp) rfl ?_
      simp only [Act.put, List.setIfInBounds_toArray, List.set_cons_succ, List.set_cons_zero]
      refine take_op (i := 7) (dst := some 36) (v := .int .i64 ((k : Int) * 256)) rfl rfl (by kernel_rfl) (by kernel_rfl) (by kernel_rfl) (fun _ _ _ h => h) rfl (fun _ => by go_simp) rfl ?_
      simp only [Act.put, List.setIfInBounds_toArray, List.set_cons_succ, List.set_cons_zero]
      refine take_op (i := 8) (dst := some 37) (v := .int .i64 ((k : Int) * 256 + 256)) rfl rfl (by kernel_rfl) (by kernel_rfl) (by kernel_rfl) (fun _ _ _ h => h) rfl (fun _ => by go_simp; rw [IntKind.wrap_i64]; omega) rfl ?_
      simp only [Act.put, List.setIfInBounds_toArray, List.set_cons_succ, List.set_cons_zero]
      refine take_op (i := 9) (dst := some 38) (v := .slice (some ⟨b, off + k * 256, none⟩) 256 (cap - k * 256)) rfl rfl (by kernel_rfl) (by kernel_rfl) (by kernel_rfl) (fun _ _ _ h => h) rfl (fun _ => by go_simp; rw [if_pos ⟨by omega, by omega⟩, if_pos (by omega), if_neg (by omega), show ((k : Int) * 256).toNat = k * 256 by omega, show ((k : Int) * 256 + 256).toNat - k * 256 = 256 by omega]) rfl ?_
      simp only [Act.put, List.setIfInBounds_toArray, List.set_cons_succ, List.set_cons_zero]
      refine wpAny_ready (rs := [4, 10]) (by kernel_rfl) (by simp) ?_
      refine ready_run (v := .slice ao k ac) (w' := wr.drew) (dst := some 33) rfl rfl rfl (run_load rfl rfl L0) rfl ?_ (ready_run (v := .string s) (w' := wr.drew) (dst := some 39) rfl rfl rfl (run_conv rfl rfl CV) rfl ?_ AllReady.nil)
      · simp only [Act.put, List.setIfInBounds_toArray, List.set_cons_succ, List.set_cons_zero]
        refine wpAny_ready (rs := [10]) (by kernel_rfl) (by simp) ?_
        refine ready_run (v := .string s) (w' := wr.drew) (dst := some 39) rfl rfl rfl (run_conv rfl rfl CV) rfl ?_ AllReady.nil
        simp only [Act.put, List.setIfInBounds_toArray, List.set_cons_succ, List.set_cons_zero]
        refine wpAny_ready (rs := [11]) (by kernel_rfl) (by simp) ?_
        refine ready_run (v := .slice (some ⟨wr.heap.size, 0, none⟩) 1 1) (w' := wr.drew.alloc (.cells #[.string s] 9)) (dst := some 40) rfl rfl rfl (run_build rfl rfl B1) rfl ?_ AllReady.nil
        simp only [Act.put, List.setIfInBounds_toArray, List.set_cons_succ, List.set_cons_zero]
        refine take_op (i := 12) (dst := some 41) (v := .agg #[.slice (some ⟨wr.heap.size, 0, none⟩) 1 1]) rfl rfl (by kernel_rfl) (by kernel_rfl) (by kernel_rfl) (fun _ _ _ h => h) rfl (fun _ => by go_simp) rfl ?_
        simp only [Act.put, List.setIfInBounds_toArray, List.set_cons_succ, List.set_cons_zero]
        refine wpAny_ready (rs := [13]) (by kernel_rfl) (by simp) ?_
        refine ready_run (v := .slice (some ⟨wr.heap.size + 1, 0, none⟩) 1 1) (w' := (wr.drew.alloc (.cells #[.string s] 9)).alloc (.cells #[.slice (some ⟨wr.heap.size, 0, none⟩) 1 1] 67)) (dst := some 42) rfl rfl rfl (run_build rfl rfl B2) rfl ?_ AllReady.nil
        simp only [Act.put, List.setIfInBounds_toArray, List.set_cons_succ, List.set_cons_zero]
        refine wpAny_ready (rs := [14]) (by kernel_rfl) (by simp) ?_
        refine ready_run (v := .slice (some ⟨g, 0, none⟩) (k + 1) cp) (w' := w4) (dst := some 43) rfl rfl rfl (run_app60 rfl rfl rfl rfl hrun) rfl ?_ AllReady.nil
        simp only [Act.put, List.setIfInBounds_toArray, List.set_cons_succ, List.set_cons_zero]
        refine take_op (i := 15) (dst := some 44) (v := .pointer (some ⟨w.heap.size, 0, none⟩)) rfl rfl (by kernel_rfl) (by kernel_rfl) (by kernel_rfl) (fun _ _ _ h => h) rfl (fun _ => by go_simp) rfl ?_
        simp only [Act.put, List.setIfInBounds_toArray, List.set_cons_succ, List.set_cons_zero]
        refine take_op (i := 16) (dst := some 45) (v := .pointer (some ⟨w.heap.size, 0, none⟩)) rfl rfl (by kernel_rfl) (by kernel_rfl) (by kernel_rfl) (fun _ _ _ h => h) rfl (fun _ => by go_simp) rfl ?_
        simp only [Act.put, List.setIfInBounds_toArray, List.set_cons_succ, List.set_cons_zero]
        refine wpAny_ready (rs := [17]) (by kernel_rfl) (by simp) ?_
        refine AllReady.cons (o := { dst := none, op := Go.Op.store 61 (Go.Operand.tmp 45) (Go.Operand.tmp 43), type := 0, pos := "ref.go:61", after := #[{ on := 16, ground := Go.Ground.data }, { on := 14, ground := Go.Ground.data }, { on := 14, ground := Go.Ground.chain }, { on := 0, ground := Go.Ground.phase }, { on := 1, ground := Go.Ground.phase }, { on := 2, ground := Go.Ground.phase }, { on := 3, ground := Go.Ground.phase }, { on := 4, ground := Go.Ground.phase }, { on := 5, ground := Go.Ground.phase }, { on := 6, ground := Go.Ground.phase }, { on := 7, ground := Go.Ground.phase }, { on := 8, ground := Go.Ground.phase }, { on := 9, ground := Go.Ground.phase }, { on := 10, ground := Go.Ground.phase }, { on := 11, ground := Go.Ground.phase }, { on := 12, ground := Go.Ground.phase }, { on := 13, ground := Go.Ground.phase }, { on := 14, ground := Go.Ground.phase }], guard := none }) rfl (fun K hK => ?_) AllReady.nil
        go_simp
        refine hK _ _ ?_
        clear hK K
        refine wpAny_done (by kernel_rfl) ?_ _
        go_wp2
        go_roundw
        case rel => exact ⟨k + 1, by omega, by go_num, H4, hb5⟩
        case measure => simp [intOf]; omega
      · simp only [Act.put, List.setIfInBounds_toArray, List.set_cons_succ, List.set_cons_zero]
        refine wpAny_ready (rs := [4, 11]) (by kernel_rfl) (by simp) ?_
        refine ready_run (v := .slice ao k ac) (w' := wr.drew) (dst := some 33) rfl rfl rfl (run_load rfl rfl L0) rfl ?_ (ready_run (v := .slice (some ⟨wr.heap.size, 0, none⟩) 1 1) (w' := wr.drew.alloc (.cells #[.string s] 9)) (dst := some 40) rfl rfl rfl (run_build rfl rfl B1) rfl ?_ AllReady.nil)
        · simp only [Act.put, List.setIfInBounds_toArray, List.set_cons_succ, List.set_cons_zero]
          refine wpAny_ready (rs := [11]) (by kernel_rfl) (by simp) ?_
          refine ready_run (v := .slice (some ⟨wr.heap.size, 0, none⟩) 1 1) (w' := wr.drew.alloc (.cells #[.string s] 9)) (dst := some 40) rfl rfl rfl (run_build rfl rfl B1) rfl ?_ AllReady.nil
          simp only [Act.put, List.setIfInBounds_toArray, List.set_cons_succ, List.set_cons_zero]
          refine take_op (i := 12) (dst := some 41) (v := .agg #[.slice (some ⟨wr.heap.size, 0, none⟩) 1 1]) rfl rfl (by kernel_rfl) (by kernel_rfl) (by kernel_rfl) (fun _ _ _ h => h) rfl (fun _ => by go_simp) rfl ?_
          simp only [Act.put, List.setIfInBounds_toArray, List.set_cons_succ, List.set_cons_zero]
          refine wpAny_ready (rs := [13]) (by kernel_rfl) (by simp) ?_
          refine ready_run (v := .slice (some ⟨wr.heap.size + 1, 0, none⟩) 1 1) (w' := (wr.drew.alloc (.cells #[.string s] 9)).alloc (.cells #[.slice (some ⟨wr.heap.size, 0, none⟩) 1 1] 67)) (dst := some 42) rfl rfl rfl (run_build rfl rfl B2) rfl ?_ AllReady.nil
          simp only [Act.put, List.setIfInBounds_toArray, List.set_cons_succ, List.set_cons_zero]
          refine wpAny_ready (rs := [14]) (by kernel_rfl) (by simp) ?_
          refine ready_run (v := .slice (some ⟨g, 0, none⟩) (k + 1) cp) (w' := w4) (dst := some 43) rfl rfl rfl (run_app60 rfl rfl rfl rfl hrun) rfl ?_ AllReady.nil
          simp only [Act.put, List.setIfInBounds_toArray, List.set_cons_succ, List.set_cons_zero]
          refine take_op (i := 15) (dst := some 44) (v := .pointer (some ⟨w.heap.size, 0, none⟩)) rfl rfl (by kernel_rfl) (by kernel_rfl) (by kernel_rfl) (fun _ _ _ h => h) rfl (fun _ => by go_simp) rfl ?_
          simp only [Act.put, List.setIfInBounds_toArray, List.set_cons_succ, List.set_cons_zero]
          refine take_op (i := 16) (dst := some 45) (v := .pointer (some ⟨w.heap.size, 0, none⟩)) rfl rfl (by kernel_rfl) (by kernel_rfl) (by kernel_rfl) (fun _ _ _ h => h) rfl (fun _ => by go_simp) rfl ?_
          simp only [Act.put, List.setIfInBounds_toArray, List.set_cons_succ, List.set_cons_zero]
          refine wpAny_ready (rs := [17]) (by kernel_rfl) (by simp) ?_
          refine AllReady.cons (o := { dst := none, op := Go.Op.store 61 (Go.Operand.tmp 45) (Go.Operand.tmp 43), type := 0, pos := "ref.go:61", after := #[{ on := 16, ground := Go.Ground.data }, { on := 14, ground := Go.Ground.data }, { on := 14, ground := Go.Ground.chain }, { on := 0, ground := Go.Ground.phase }, { on := 1, ground := Go.Ground.phase }, { on := 2, ground := Go.Ground.phase }, { on := 3, ground := Go.Ground.phase }, { on := 4, ground := Go.Ground.phase }, { on := 5, ground := Go.Ground.phase }, { on := 6, ground := Go.Ground.phase }, { on := 7, ground := Go.Ground.phase }, { on := 8, ground := Go.Ground.phase }, { on := 9, ground := Go.Ground.phase }, { on := 10, ground := Go.Ground.phase }, { on := 11, ground := Go.Ground.phase }, { on := 12, ground := Go.Ground.phase }, { on := 13, ground := Go.Ground.phase }, { on := 14, ground := Go.Ground.phase }], guard := none }) rfl (fun K hK => ?_) AllReady.nil
          go_simp
          refine hK _ _ ?_
          clear hK K
          refine wpAny_done (by kernel_rfl) ?_ _
          go_wp2
          go_roundw
          case rel => exact ⟨k + 1, by omega, by go_num, H4, hb5⟩
          case measure => simp [intOf]; omega
        · simp only [Act.put, List.setIfInBounds_toArray, List.set_cons_succ, List.set_cons_zero]
          refine take_op (i := 12) (dst := some 41) (v := .agg #[.slice (some ⟨wr.heap.size, 0, none⟩) 1 1]) rfl rfl (by kernel_rfl) (by kernel_rfl) (by kernel_rfl) (fun _ _ _ h => h) rfl (fun _ => by go_simp) rfl ?_
          simp only [Act.put, List.setIfInBounds_toArray, List.set_cons_succ, List.set_cons_zero]
          refine wpAny_ready (rs := [4, 13]) (by kernel_rfl) (by simp) ?_
          refine ready_run (v := .slice ao k ac) (w' := wr.drew.alloc (.cells #[.string s] 9)) (dst := some 33) rfl rfl rfl (run_load rfl rfl L1) rfl ?_ (ready_run (v := .slice (some ⟨wr.heap.size + 1, 0, none⟩) 1 1) (w' := (wr.drew.alloc (.cells #[.string s] 9)).alloc (.cells #[.slice (some ⟨wr.heap.size, 0, none⟩) 1 1] 67)) (dst := some 42) rfl rfl rfl (run_build rfl rfl B2) rfl ?_ AllReady.nil)
          · simp only [Act.put, List.setIfInBounds_toArray, List.set_cons_succ, List.set_cons_zero]
            refine wpAny_ready (rs := [13]) (by kernel_rfl) (by simp) ?_
            refine ready_run (v := .slice (some ⟨wr.heap.size + 1, 0, none⟩) 1 1) (w' := (wr.drew.alloc (.cells #[.string s] 9)).alloc (.cells #[.slice (some ⟨wr.heap.size, 0, none⟩) 1 1] 67)) (dst := some 42) rfl rfl rfl (run_build rfl rfl B2) rfl ?_ AllReady.nil
            simp only [Act.put, List.setIfInBounds_toArray, List.set_cons_succ, List.set_cons_zero]
            refine wpAny_ready (rs := [14]) (by kernel_rfl) (by simp) ?_
            refine ready_run (v := .slice (some ⟨g, 0, none⟩) (k + 1) cp) (w' := w4) (dst := some 43) rfl rfl rfl (run_app60 rfl rfl rfl rfl hrun) rfl ?_ AllReady.nil
            simp only [Act.put, List.setIfInBounds_toArray, List.set_cons_succ, List.set_cons_zero]
            refine take_op (i := 15) (dst := some 44) (v := .pointer (some ⟨w.heap.size, 0, none⟩)) rfl rfl (by kernel_rfl) (by kernel_rfl) (by kernel_rfl) (fun _ _ _ h => h) rfl (fun _ => by go_simp) rfl ?_
            simp only [Act.put, List.setIfInBounds_toArray, List.set_cons_succ, List.set_cons_zero]
            refine take_op (i := 16) (dst := some 45) (v := .pointer (some ⟨w.heap.size, 0, none⟩)) rfl rfl (by kernel_rfl) (by kernel_rfl) (by kernel_rfl) (fun _ _ _ h => h) rfl (fun _ => by go_simp) rfl ?_
            simp only [Act.put, List.setIfInBounds_toArray, List.set_cons_succ, List.set_cons_zero]
            refine wpAny_ready (rs := [17]) (by kernel_rfl) (by simp) ?_
            refine AllReady.cons (o := { dst := none, op := Go.Op.store 61 (Go.Operand.tmp 45) (Go.Operand.tmp 43), type := 0, pos := "ref.go:61", after := #[{ on := 16, ground := Go.Ground.data }, { on := 14, ground := Go.Ground.data }, { on := 14, ground := Go.Ground.chain }, { on := 0, ground := Go.Ground.phase }, { on := 1, ground := Go.Ground.phase }, { on := 2, ground := Go.Ground.phase }, { on := 3, ground := Go.Ground.phase }, { on := 4, ground := Go.Ground.phase }, { on := 5, ground := Go.Ground.phase }, { on := 6, ground := Go.Ground.phase }, { on := 7, ground := Go.Ground.phase }, { on := 8, ground := Go.Ground.phase }, { on := 9, ground := Go.Ground.phase }, { on := 10, ground := Go.Ground.phase }, { on := 11, ground := Go.Ground.phase }, { on := 12, ground := Go.Ground.phase }, { on := 13, ground := Go.Ground.phase }, { on := 14, ground := Go.Ground.phase }], guard := none }) rfl (fun K hK => ?_) AllReady.nil
            go_simp
            refine hK _ _ ?_
            clear hK K
            refine wpAny_done (by kernel_rfl) ?_ _
            go_wp2
            go_roundw
            case rel => exact ⟨k + 1, by omega, by go_num, H4, hb5⟩
            case measure => simp [intOf]; omega
          · simp only [Act.put, List.setIfInBounds_toArray, List.set_cons_succ, List.set_cons_zero]
            refine wpAny_ready (rs := [4]) (by kernel_rfl) (by simp) ?_
            refine ready_run (v := .slice ao k ac) (w' := (wr.drew.alloc (.cells #[.string s] 9)).alloc (.cells #[.slice (some ⟨wr.heap.size, 0, none⟩) 1 1] 67)) (dst := some 33) rfl rfl rfl (run_load rfl rfl L2) rfl ?_ AllReady.nil
            simp only [Act.put, List.setIfInBounds_toArray, List.set_cons_succ, List.set_cons_zero]
            refine wpAny_ready (rs := [14]) (by kernel_rfl) (by simp) ?_
            refine ready_run (v := .slice (some ⟨g, 0, none⟩) (k + 1) cp) (w' := w4) (dst := some 43) rfl rfl rfl (run_app60 rfl rfl rfl rfl hrun) rfl ?_ AllReady.nil
            simp only [Act.put, List.setIfInBounds_toArray, List.set_cons_succ, List.set_cons_zero]
            refine take_op (i := 15) (dst := some 44) (v := .pointer (some ⟨w.heap.size, 0, none⟩)) rfl rfl (by kernel_rfl) (by kernel_rfl) (by kernel_rfl) (fun _ _ _ h => h) rfl (fun _ => by go_simp) rfl ?_
            simp only [Act.put, List.setIfInBounds_toArray, List.set_cons_succ, List.set_cons_zero]
            refine take_op (i := 16) (dst := some 45) (v := .pointer (some ⟨w.heap.size, 0, none⟩)) rfl rfl (by kernel_rfl) (by kernel_rfl) (by kernel_rfl) (fun _ _ _ h => h) rfl (fun _ => by go_simp) rfl ?_
            simp only [Act.put, List.setIfInBounds_toArray, List.set_cons_succ, List.set_cons_zero]
            refine wpAny_ready (rs := [17]) (by kernel_rfl) (by simp) ?_
            refine AllReady.cons (o := { dst := none, op := Go.Op.store 61 (Go.Operand.tmp 45) (Go.Operand.tmp 43), type := 0, pos := "ref.go:61", after := #[{ on := 16, ground := Go.Ground.data }, { on := 14, ground := Go.Ground.data }, { on := 14, ground := Go.Ground.chain }, { on := 0, ground := Go.Ground.phase }, { on := 1, ground := Go.Ground.phase }, { on := 2, ground := Go.Ground.phase }, { on := 3, ground := Go.Ground.phase }, { on := 4, ground := Go.Ground.phase }, { on := 5, ground := Go.Ground.phase }, { on := 6, ground := Go.Ground.phase }, { on := 7, ground := Go.Ground.phase }, { on := 8, ground := Go.Ground.phase }, { on := 9, ground := Go.Ground.phase }, { on := 10, ground := Go.Ground.phase }, { on := 11, ground := Go.Ground.phase }, { on := 12, ground := Go.Ground.phase }, { on := 13, ground := Go.Ground.phase }, { on := 14, ground := Go.Ground.phase }], guard := none }) rfl (fun K hK => ?_) AllReady.nil
            go_simp
            refine hK _ _ ?_
            clear hK K
            refine wpAny_done (by kernel_rfl) ?_ _
            go_wp2
            go_roundw
            case rel => exact ⟨k + 1, by omega, by go_num, H4, hb5⟩
            case measure => simp [intOf]; omega
    · obtain rfl : k = n := by omega
      go_wp2
      go_ret2
      exact ⟨_, rfl, HD.out, hbw⟩
end Go.Proofs.Ytcmkgcdjjplgdaa
