/- Disk.Write. -/
import Derived.Test.YtkiifmnmeikdlaaGreatDoorJCIget14
import Derived.Deep.RegionLaw
import Derived.Deep.AppendLies
import Derived.WalkSmall
namespace Go.Proofs.YtkiifmnmeikdlaaGreatDoor
open Go.RowKit
set_option maxRecDepth 100000
theorem Tryz.info147 : ∃ i0 Z, Tryz.prog.info? 147 = some i0 ∧ i0.zero = some (.agg Z) ∧ i0.size = 256 ∧ i0.bytes = 256 ∧ Z.size = 256 := by
  have h : (Tryz.prog.info? 147).map (fun i => (i.zero, i.size, i.bytes)) = some (some (.agg (bvs (List.replicate 256 0)).toArray), 256, 256) := by kernel_rfl
  obtain ⟨i0, h1, h2, h3, h4⟩ := info_parts h
  exact ⟨i0, _, h1, h2, h3, h4, by rw [List.size_toArray, bvs_length, List.length_replicate]⟩
theorem step_run {P : Program} {ops : Array Oper} {o : Oper} {a : Act} {w w' : World} {v : Value} {K : Act → World → Prop} {Q : Exit → Act → World → Prop} {E : Prop} (hg : o.guard = none) (hrun : (execOp a.eval o).run P w = .ok (.value v) w') (hK : K (a.put o.dst v) w') :
    if Region.wanted o (yielded ops a.tmps) = true then Oper.wp P o a w K Q else E := by
  rw [if_pos (by simp [Region.wanted, hg])]
  unfold Oper.wp
  rw [hrun]
  exact hK
theorem take_op {P : Program} {ops : Array Oper} {md : Region.Mode} {Q : Exit → Act → World → Prop} {i : Nat} {oi : Oper} {v : Value} {dst : Option Tmp} {fuel : Nat} {listed l2 : Array Bool} {a : Act} {w : World} (hi : ops[i]? = some oi) (hd : oi.dst = dst)
    (hs : Region.noSelect ops = true) (hf : Region.free md ops listed i = true) (hr : (Region.ready md ops listed).contains i = true) (hQ : ∀ c a w, Q (.panic c) (a.put oi.dst v) w → Q (.panic c) a w) (hg : oi.guard = none) (hy : ∀ w, (execOp a.eval oi).run P w = .ok (.value v) w) (hl : listed.setIfInBounds i true = l2)
    (h : wpAny P md ops Q fuel l2 (a.put dst v) w) : wpAny P md ops Q (fuel + 1) listed a w :=
  wpAny_take hi hs hf hr hQ (Or.inl ⟨by simp [Region.wanted, hg], hy⟩) (by rw [hd, hl]; exact h)
theorem ready_run {P : Program} {ops : Array Oper} {md : Region.Mode} {Q : Exit → Act → World → Prop} {i : Nat} {o : Oper} {v : Value} {dst : Option Tmp} {fuel : Nat} {listed l2 : Array Bool} {a : Act} {w w' : World} {rs : List Nat} (ho : ops[i]? = some o) (hd : o.dst = dst) (hg : o.guard = none)
    (hrun : (execOp a.eval o).run P w = .ok (.value v) w') (hl : listed.setIfInBounds i true = l2) (h : wpAny P md ops Q fuel l2 (a.put dst v) w') (hs : AllReady P md ops Q fuel listed a w rs) : AllReady P md ops Q fuel listed a w (i :: rs) :=
  AllReady.cons ho (fun K hK => step_run hg hrun (hK _ _ (by rw [hd, hl]; exact h))) hs
theorem run_load {P : Program} {o : Oper} {a : Act} {w : World} {ty : TypeId} {x : Operand} {pv v : Value} (hop : o.op = .load ty x) (hx : a.eval x = pv) (hL : (Instr.loadAt ty pv).run P w = .ok v w) : (execOp a.eval o).run P w = .ok (.value v) w := by
  unfold execOp; simp only [hop, hx, Sem.run_bind, hL, Result.andThen_ok, Sem.run_pure]
theorem run_build {P : Program} {o : Oper} {a : Act} {w w' : World} {t : TypeId} {n : Nat} {x : Operand} {pv v : Value} (hop : o.op = .buildSlice t n #[(0, x)]) (hx : a.eval x = pv) (hL : (Instr.buildSlice t n #[(0, pv)]).run P w = .ok v w') : (execOp a.eval o).run P w = .ok (.value v) w' := by
  unfold execOp
  simp only [hop, List.map_toArray, List.map_cons, List.map_nil, hx, Sem.run_bind, hL, Result.andThen_ok, Sem.run_pure]
theorem run_app {P : Program} {o : Oper} {a : Act} {w w' : World} {s x : Operand} {sv xv v : Value} (hop : o.op = .call { callee := .builtin .append, args := #[s, x], argTypes := #[193, 193] }) (hty : o.type = 193) (hs : a.eval s = sv) (hx : a.eval x = xv) (hL : (Builtin.append_ #[193, 193] 193 #[sv, xv]).run P w = .ok v w') : (execOp a.eval o).run P w = .ok (.value v) w' := by
  unfold execOp
  simp only [hop, hty, resolve, invoke, builtin, Sem.run_bind, Sem.run_pure, Result.andThen_ok, List.map_toArray, List.map_cons, List.map_nil, hs, hx, hL]
section
variable {w : World} {base p n : Nat} {en : Bool} {lf : Int} {sf : Nat → List UInt8} {ws : Nat → List (List UInt8)} {q : Nat} {vs : Nat → Value}
theorem DiskAt.appended (h : DiskAt w base p n en lf sf ws q vs) (i : Nat) (hi : i < n) (d : List UInt8) (hd : d.length = 256) {w3 w4 : World} {g cap : Nat} (hb3 : Below w.heap.size w w3) (hz3 : w3.heap.size = w.heap.size + 1)
    (hown : w4.ownsRow base 147 256 (.slice (some ⟨g, 0, none⟩) ((ws i).length + 1) cap) ((ws i).length + 1) ((ws i).flatMap bvs ++ bvs d)) (hgrow : w3.grownBy w4 (vs i).ownBlock) (hat : (vs i).ownBlock = some g ∨ g = w.heap.size + 1) :
    w4.cell? ⟨q, i * 257 + 256, none⟩ = some (vs i) ∧ w4.frozen? ⟨q, i * 257 + 256, none⟩ = false ∧
    DiskAt (w4.setCell ⟨q, i * 257 + 256, none⟩ (.slice (some ⟨g, 0, none⟩) ((ws i).length + 1) cap)) base p n en lf sf (upd ws i (ws i ++ [d])) q (upd vs i (.slice (some ⟨g, 0, none⟩) ((ws i).length + 1) cap)) ∧
    Below base w (w4.setCell ⟨q, i * 257 + 256, none⟩ (.slice (some ⟨g, 0, none⟩) ((ws i).length + 1) cap)) := by
  have hp := h.pl
  have hq := h.ql
  obtain ⟨hwo, hwl, hnp, hnq⟩ := h.wr i hi
  obtain ⟨hr, hlen, hc⟩ := h.row i hi
  have hblk : ∀ k, k < w.heap.size → some k ≠ (vs i).ownBlock → w4.heap[k]? = w.heap[k]? := fun k hk hne => (hgrow.block k (by omega) hne).trans (hb3.block k hk)
  have hqb : w4.heap[q]? = w.heap[q]? := hblk q hq (fun e => hnq e.symm)
  have hsz := hgrow.size
  have hgq : g ≠ q := by
    rcases hat with e | e
    · intro e2; exact hnq (by rw [e, e2])
    · omega
  have hgp : g ≠ p := by
    rcases hat with e | e
    · intro e2; exact hnp (by rw [e, e2])
    · omega
  have hcq : ∀ o, w4.cell? ⟨q, o, none⟩ = w.cell? ⟨q, o, none⟩ := fun o => World.cell?_of_block (a := ⟨q, o, none⟩) hqb
  have hfq : ∀ o, w4.frozen? ⟨q, o, none⟩ = w.frozen? ⟨q, o, none⟩ := fun o => World.frozen?_of_block (a := ⟨q, o, none⟩) hqb
  refine ⟨(hcq _).trans hc, (hfq _).trans (h.fq _), ?_, ?_⟩
  · have hD := h.setQ i hi (w' := w4.setCell ⟨q, i * 257 + 256, none⟩ (.slice (some ⟨g, 0, none⟩) ((ws i).length + 1) cap)) (s' := sf i) (v' := .slice (some ⟨g, 0, none⟩) ((ws i).length + 1) cap) (ws' := ws i ++ [d])
      (by simp [World.setCell]; omega)
      (fun k hk hkq hne => (heap_setCell_other w4 ⟨q, i * 257 + 256, none⟩ k _ hkq).trans (hblk k hk hne))
      (fun o' ho => (World.cell?_setCell_other _ _ _ _ (by intro e; have := congrArg Addr.off e; simp only at this; omega)).trans (hcq o'))
      (fun o => by rw [World.frozen?_setCell]; exact (hfq o).trans (h.fq o))
      (fun j v hv => by
        have hj : j < (bvs (sf i)).length := (List.getElem?_eq_some_iff.1 hv).1
        rw [bvs_length, hlen] at hj
        rw [World.cell?_setCell_other _ _ _ _ (by intro e; have := congrArg Addr.off e; simp only at this; omega), hcq]
        exact hr j v hv)
      hlen (World.cell?_setCell_same _ _ _ ((hcq _).trans hc))
      (by
        have h1 : (ws i ++ [d]).length = (ws i).length + 1 := by simp
        have h2 : (ws i ++ [d]).flatMap bvs = (ws i).flatMap bvs ++ bvs d := by simp
        rw [h1, h2]
        exact World.ownsRow.kept hown ⟨rfl, rfl, rfl, by simp [World.setCell], fun k _ hk => heap_setCell_other w4 ⟨q, i * 257 + 256, none⟩ k _ (fun e => hk (by rw [e]))⟩ (.inr (by intro e; exact hgq (by simpa [Value.ownBlock] using e))))
      (by intro x hx; rcases List.mem_append.1 hx with hx | hx; exact hwl x hx; simp at hx; rw [hx]; exact hd)
      (by intro e; exact hgp (by simpa [Value.ownBlock] using e)) (by intro e; exact hgq (by simpa [Value.ownBlock] using e))
      (fun j hj hji => by
        right
        intro e
        have e2 : (vs j).ownBlock = some g := e.symm
        rcases hat with e3 | e3
        · rcases h.ap j i hj hi hji with e4 | e4
          · rw [e2] at e4; cases e4
          · exact e4 (e2.trans e3.symm)
        · have := (World.ownsRow.lt (h.wr j hj).1 g e2).2
          omega)
    have hupd : upd sf i (sf i) = sf := by
      funext j; unfold upd; split
      · rename_i e; rw [e]
      · rfl
    rw [hupd] at hD; exact hD
  · refine ((hb3.mono (by have := h.qb; omega)).trans ⟨hgrow.os, hgrow.tape, hgrow.output, hgrow.size, fun k hk => hgrow.block k (by have := h.qb; omega) (fun e => ?_)⟩).setCell h.qb _
    have := (World.ownsRow.lt hwo k e.symm).1
    omega
theorem load57 (w : World) (q o : Nat) (v : Value) (h : w.cell? ⟨q, o, none⟩ = some v) : (Instr.loadAt 193 (.pointer (some ⟨q, o, none⟩))).run Tryz.prog w = .ok v w := by go_simp
theorem exec_load (w : World) (b o : Nat) (d : List UInt8) (hd : d.length = 256) (hr : w.rangeAt b o (bvs d)) : (Instr.loadAt 147 (.pointer (some ⟨b, o, none⟩))).run Tryz.prog w = .ok (.agg (bvs d).toArray) w := by
  obtain ⟨Z, _, _, hinfo, _⟩ := Tryz.zero147
  exact run_loadAt_mid w b o 147 (bvs d) _ hr Tryz.underlying147 rfl (by rw [hinfo, bvs_length, hd])
end
end Go.Proofs.YtkiifmnmeikdlaaGreatDoor
/- disk.New, Disk.Read, Disk.Open. -/
namespace Go.Proofs.YtkiifmnmeikdlaaGreatDoor
open Go.RowKit
set_option maxRecDepth 100000
def zer : List UInt8 := List.replicate 256 0
theorem zer_length : zer.length = 256 := by unfold zer; rw [List.length_replicate]
theorem Tryz.info195 : ∃ i0 Z, Tryz.prog.info? 195 = some i0 ∧ i0.zero = some (.agg Z) ∧ i0.size = 257 ∧ i0.bytes = 280 ∧ Z.toList = bvs zer ++ [.slice none 0 0] := by
  have h : (Tryz.prog.info? 195).map (fun i => (i.zero, i.size, i.bytes)) = some (some (Value.agg (bvs zer ++ [Value.slice none 0 0]).toArray), 257, 280) := by kernel_rfl
  obtain ⟨i0, h1, h2, h3, h4⟩ := info_parts h
  exact ⟨i0, (bvs zer ++ [Value.slice none 0 0]).toArray, h1, h2, h3, h4, List.toList_toArray⟩
theorem made_at (Z : Array Value) (n k : Nat) (hZ : Z.size = 257) (hk : k < n * 257) : (madeCells Z (n * 257))[k]? = Z[k % 257]? := by
  unfold madeCells
  rw [Array.getElem?_map, Array.getElem?_range, if_pos hk]
  have hlt : k % 257 < Z.size := by rw [hZ]; omega
  rw [Option.map_some, hZ, getElem!_pos Z (k % 257) hlt, Array.getElem?_eq_getElem hlt]
/-- 'make' of n blocks. -/
theorem make_blocks (w : World) (n : Nat) (hn : n ≤ 4096) : ∃ C : Array Value, (Instr.makeSlice 101 (.int .i64 (n : Int)) (.int .i64 (n : Int))).run Tryz.prog w = .ok (.slice (some ⟨w.heap.size, 0, none⟩) n n) (w.alloc (.cells C 195)) ∧
    ∀ i, i < n → (∀ j v, (bvs zer)[j]? = some v → C[i * 257 + j]? = some v) ∧ C[i * 257 + 256]? = some (.slice none 0 0) := by
  obtain ⟨i0, Z, hi, hz, hs, hb, hZ⟩ := Tryz.info195
  have hZs : Z.size = 257 := by rw [← Array.length_toList, hZ, List.length_append, bvs_length, zer_length]; rfl
  have h := run_make (P := Tryz.prog) w 101 195 i0 _ Tryz.underlying101 hi hz .i64 .i64 (n : Int) (n : Int) (by omega) (by omega) (by rw [hb]; omega) (by omega)
  refine ⟨_, h, fun i hin => ⟨fun j v hv => ?_, ?_⟩⟩
  · have hj : j < (bvs zer).length := (List.getElem?_eq_some_iff.1 hv).1
    rw [bvs_length, zer_length] at hj
    have e : (madeCells (Value.agg Z).cells ((n : Int).toNat * i0.size)) = madeCells Z (n * 257) := by rw [Int.toNat_natCast, hs]; rfl
    rw [e, made_at Z n _ hZs (by omega), show (i * 257 + j) % 257 = j by omega, ← Array.getElem?_toList, hZ, List.getElem?_append_left (by rw [bvs_length, zer_length]; exact hj)]
    exact hv
  · have e : (madeCells (Value.agg Z).cells ((n : Int).toNat * i0.size)) = madeCells Z (n * 257) := by rw [Int.toNat_natCast, hs]; rfl
    rw [e, made_at Z n _ hZs (by omega), show (i * 257 + 256) % 257 = 256 by omega, ← Array.getElem?_toList, hZ, List.getElem?_append_right (by rw [bvs_length, zer_length]; omega), bvs_length, zer_length]
    rfl
set_option maxHeartbeats 1000000 in
theorem new_any (w : World) (n : Nat) (h1 : 1 ≤ n) (hn : n ≤ 4096) :
    Calls Tryz.prog 43 #[.int .i64 (n : Int)] w fun e w' => ∃ p q, e = .returned (.tuple #[.pointer (some ⟨p, 0, none⟩), .int .i64 0]) ∧ DiskAt w' w.heap.size p n false 0 (fun _ => zer) (fun _ => []) q (fun _ => .slice none 0 0) ∧ Below w.heap.size w w' := by
  obtain ⟨C, hmk, hC⟩ := make_blocks w n hn
  have h1' : (1 : Int) ≤ n := by omega
  have hn' : (n : Int) ≤ 4096 := by omega
  have hzw : (w.alloc (.cells C 195)).heap.size = w.heap.size + 1 := by show (w.heap.push _).size = _; simp
  have HC : Hid (∀ i, i < n → (∀ j v, (bvs zer)[j]? = some v → C[i * 257 + j]? = some v) ∧ C[i * 257 + 256]? = some (.slice none 0 0)) := hC
  have HZ : Hid _ := hzw
  clear hC hzw
  go_enter Tryz.func43, Tryz.ntmps43
  go_wp2
  go_ret2
  have e0 : ((w.alloc (.cells C 195)).alloc (.cells #[Value.slice (some ⟨w.heap.size, 0, none⟩) n n, Value.bool false, Value.int .i64 0] 103)).heap[w.heap.size]? = some (.cells C 195 (0, 0)) := heap_alloc2_old _ _ _
  have e1 : ((w.alloc (.cells C 195)).alloc (.cells #[Value.slice (some ⟨w.heap.size, 0, none⟩) n n, Value.bool false, Value.int .i64 0] 103)).heap[w.heap.size + 1]? = some (.cells #[Value.slice (some ⟨w.heap.size, 0, none⟩) n n, Value.bool false, Value.int .i64 0] 103 (0, 0)) := heap_alloc2_new _ _ _
  have hC := HC.out
  refine ⟨w.heap.size + 1, w.heap.size, rfl, ?_, ((Below.refl _ _).alloc (Nat.le_refl _) _).alloc (by rw [HZ.out]; omega) _⟩
  exact {
    pb := by omega, qb := Nat.le_refl _, pq := by omega, nn := hn,
    c0 := ⟨n, Nat.le_refl _, by omega, by rw [cell_of_row _ _ _ _ _ _ e1]; rfl⟩,
    c1 := by rw [cell_of_row _ _ _ _ _ _ e1]; rfl,
    c2 := by rw [cell_of_row _ _ _ _ _ _ e1]; rfl,
    fp := fun o => frozen_of_row _ _ o _ _ e1,
    fq := fun o => frozen_of_row _ _ o _ _ e0,
    ql := (Array.getElem?_eq_some_iff.1 e0).1,
    row := fun i hi => ⟨fun j v hv => by rw [cell_of_row _ _ _ _ _ _ e0]; exact (hC i hi).1 j v hv, zer_length, by rw [cell_of_row _ _ _ _ _ _ e0]; exact (hC i hi).2⟩,
    wr := fun i hi => ⟨World.ownsRow_nil _ _ _ _, by simp, by simp [Value.ownBlock], by simp [Value.ownBlock]⟩,
    ap := fun i j hi hj hij => .inl rfl }
section
variable {w : World} {base p n : Nat} {en : Bool} {lf : Int} {sf : Nat → List UInt8} {ws : Nat → List (List UInt8)} {q : Nat} {vs : Nat → Value}
theorem DiskAt.lastLen (h : DiskAt w base p n en lf sf ws q vs) (i : Nat) (hi : i < n) : (lastOf (sf i) (ws i)).length = 256 := lastOf_length (h.row i hi).2.1 (h.wr i hi).2.1
set_option maxHeartbeats 1000000 in
set_option maxRecDepth 100000 in
theorem read_anyP (h : DiskAt w base p n en lf sf ws q vs) (i : Nat) (hi : i < n) :
    Calls Tryz.prog 45 #[.pointer (some ⟨p, 0, none⟩), .int .i64 (i : Int)] w fun e w' => ∃ g, e = .returned (.tuple #[.slice (some ⟨g, 0, none⟩) 256 256, .int .i64 0]) ∧ Blk w' g 147 (lastOf (sf i) (ws i)) ∧ w.heap.size ≤ g ∧ Below w.heap.size w w' := by
  have FIND := find_any h i hi
  have LAST := last_any h i hi
  have hll := h.lastLen i hi
  obtain ⟨Z, hz, hzs, hinfo, HZ⟩ := Tryz.zero147
  clear HZ hinfo
  generalize lastOf (sf i) (ws i) = y at *
  clear h
  go_enter Tryz.func45, Tryz.ntmps45
  go_wp2_with fail
  refine FIND.mono ?_
  rintro e w1 ⟨rfl, rfl⟩
  clear FIND
  go_wp2_with fail
  refine LAST.mono ?_
  rintro e w2 ⟨rfl, hb2⟩
  clear LAST
  have hs2 := hb2.size
  have hb3 : Below w1.heap.size w1 (w2.alloc (.cells Z 147)) := hb2.alloc hs2 _
  go_wp2_with ((with_reducible show wpList _ _ _ ({ dst := _, op := Op.store 147 _ _, type := _, pos := _, after := _, guard := _ } :: _) _ _); refine wpList_store_blk rfl (.tmp 8) (.tmp 19) rfl w2.heap.size Z y rfl rfl (heap_alloc_new _ _) hzs hll w1.heap.size w1 hb3 hs2 ?_; intro w3 hg3 hb4 hx1 hy1; clear hx1 hy1)
  go_ret2
  exact ⟨_, rfl, hg3, hs2, hb4⟩
end
end Go.Proofs.YtkiifmnmeikdlaaGreatDoor
/- What Write of the disk leaves as it was; a disk under changes of other blocks. -/
namespace Go.Proofs.YtkiifmnmeikdlaaGreatDoor
open Go.RowKit
set_option maxRecDepth 100000
/-- Of what was there nothing but the blocks S has changed. -/
structure Fr (S : Nat → Prop) (w w' : World) : Prop where
  size : w.heap.size ≤ w'.heap.size
  blk : ∀ k, k < w.heap.size → ¬ S k → w'.heap[k]? = w.heap[k]?
  os : w'.os = w.os
  tape : w'.tape = w.tape
  output : w'.output = w.output
theorem Fr.refl (S : Nat → Prop) (w : World) : Fr S w w := ⟨Nat.le_refl _, fun _ _ _ => rfl, rfl, rfl, rfl⟩
theorem Fr.trans {S : Nat → Prop} {a b c : World} (h : Fr S a b) (k : Fr S b c) : Fr S a c := ⟨by have := h.size; have := k.size; omega, fun j hj hS => (k.blk j (by have := h.size; omega) hS).trans (h.blk j hj hS), k.os.trans h.os, k.tape.trans h.tape, k.output.trans h.output⟩
theorem Fr.mono {S T : Nat → Prop} {a b : World} (h : Fr S a b) (hS : ∀ k, k < a.heap.size → S k → T k) : Fr T a b := ⟨h.size, fun k hk hT => h.blk k hk fun hs => hT (hS k hk hs), h.os, h.tape, h.output⟩
theorem Fr.of_below {S : Nat → Prop} {a b : World} (h : Below a.heap.size a b) : Fr S a b := ⟨h.size, fun k hk _ => h.block k hk, h.os, h.tape, h.output⟩
theorem Fr.drew {S : Nat → Prop} {a b : World} (h : Fr S a b) : Fr S a b.drew := ⟨h.size, h.blk, h.os, h.tape, h.output⟩
theorem Fr.below {S : Nat → Prop} {a b : World} {B : Nat} (h : Fr S a b) (hB : B ≤ a.heap.size) (hS : ∀ k, S k → B ≤ k) : Below B a b := ⟨h.os, h.tape, h.output, h.size, fun k hk => h.blk k (by omega) fun c => by have := hS k c; omega⟩
theorem Fr.of_edit {S : Nat → Prop} {a b : World} {q o len : Nat} (h : Edit a b q o len) (hq : S q) : Fr S a b := ⟨h.size, fun k hk hS => h.block k hk fun e => hS (by rw [e]; exact hq), h.os, h.tape, h.output⟩
theorem Fr.setCell {S : Nat → Prop} {a b : World} (h : Fr S a b) (p o : Nat) (v : Value) (hp : S p) : Fr S a (b.setCell ⟨p, o, none⟩ v) := ⟨by have := h.size; simp [World.setCell]; omega, fun k hk hS => (heap_setCell_other b ⟨p, o, none⟩ k v (fun e => hS (by rw [e]; exact hp))).trans (h.blk k hk hS), h.os, h.tape, h.output⟩
section
variable {w : World} {base p n : Nat} {en : Bool} {lf : Int} {sf : Nat → List UInt8} {ws : Nat → List (List UInt8)} {q : Nat} {vs : Nat → Value}
theorem write_app_fr (h2 : DiskAt w base p n en lf sf ws q vs) (i : Nat) (hi : i < n) (hwn : (ws i).length ≤ 1000000) (d : List UInt8) (hd : d.length = 256) :
    ∃ ao ac g cp w4, w.cell? ⟨q, i * 257 + 256, none⟩ = some (.slice ao (ws i).length ac) ∧ (Builtin.append_ #[193, 193] 193 #[.slice ao (ws i).length ac, .slice (some ⟨w.heap.size, 0, none⟩) 1 1]).run Tryz.prog (w.drew.alloc (.cells (bvs d).toArray 147)) = .ok (.slice (some ⟨g, 0, none⟩) ((ws i).length + 1) cp) w4 ∧
      w4.cell? ⟨q, i * 257 + 256, none⟩ = some (.slice ao (ws i).length ac) ∧ w4.frozen? ⟨q, i * 257 + 256, none⟩ = false ∧
      DiskAt (w4.setCell ⟨q, i * 257 + 256, none⟩ (.slice (some ⟨g, 0, none⟩) ((ws i).length + 1) cp)) base p n en lf sf (upd ws i (ws i ++ [d])) q (upd vs i (.slice (some ⟨g, 0, none⟩) ((ws i).length + 1) cp)) ∧
      Below base w (w4.setCell ⟨q, i * 257 + 256, none⟩ (.slice (some ⟨g, 0, none⟩) ((ws i).length + 1) cp)) ∧
      Fr (fun k => k = q ∨ (vs i).ownBlock = some k) w (w4.setCell ⟨q, i * 257 + 256, none⟩ (.slice (some ⟨g, 0, none⟩) ((ws i).length + 1) cp)) ∧ ((vs i).ownBlock = some g ∨ g = w.heap.size + 1) := by
  obtain ⟨i0, Z, hi0, hz0, hz1, hz2, hz3⟩ := Tryz.info147
  have hwo := (h2.wr i hi).1
  have c2 := (h2.row i hi).2.2
  obtain ⟨ao, ac, hvf⟩ := h2.len i hi
  have hb3 : Below w.heap.size w (w.drew.alloc (.cells (bvs d).toArray 147)) := (Below.refl _ _).drew.alloc (Nat.le_refl _) _
  have hz3' : (w.drew.alloc (.cells (bvs d).toArray 147)).heap.size = w.heap.size + 1 := by show (w.heap.push _).size = _; simp
  have hblk : (w.drew.alloc (.cells (bvs d).toArray 147)).heap[w.heap.size]? = some (.cells (bvs d).toArray 147 (0, 0)) := heap_alloc_new w.drew _
  obtain ⟨g, cp, w4, hrun, hown, hgrow, hat, hlt⟩ := run_append_lies (P := Tryz.prog) (w.drew.alloc (.cells (bvs d).toArray 147)) 193 193 base 147 i0 (.agg Z) 256 256 Tryz.underlying193 hi0 hz0 hz1 hz2 hz3 (by omega) (vs i) (ws i).length _ (owns_below hwo hb3 (Nat.le_refl _)) ⟨w.heap.size, 0, none⟩ 1 1 (bvs d) (by rw [bvs_length, hd]) (fun j u hj => by rw [addr_add, Nat.zero_add, cell_of_row _ _ j _ _ _ hblk]; simpa using hj) (bvs_one _) (by omega) (by unfold maxLen; omega) (by omega) (by have := h2.qb; have := h2.ql; omega) (w.heap.size + 1) hz3'
  obtain ⟨cA, fA, hD, hB⟩ := h2.appended i hi d hd hb3 hz3' hown hgrow hat
  have hFr : Fr (fun k => k = q ∨ (vs i).ownBlock = some k) w (w4.setCell ⟨q, i * 257 + 256, none⟩ (.slice (some ⟨g, 0, none⟩) ((ws i).length + 1) cp)) := by
    have hsz := hgrow.size
    refine ⟨by simp [World.setCell]; omega, fun k hk hS => ?_, hB.os, hB.tape, hB.output⟩
    rw [heap_setCell_other w4 ⟨q, i * 257 + 256, none⟩ k _ (fun e => hS (.inl e))]
    exact (hgrow.block k (by omega) (fun e => hS (.inr e.symm))).trans (hb3.block k hk)
  rw [hvf] at c2 cA hrun
  exact ⟨ao, ac, g, cp, w4, c2, hrun, cA, fA, hD, hB, hFr, hat⟩
set_option maxHeartbeats 2000000 in
set_option maxRecDepth 100000 in
theorem write_fr (h : DiskAt w base p n en lf sf ws q vs) (hl : 0 ≤ lf ∧ lf ≤ 9223372036854775807) (i : Nat) (hi : i < n) (hwn : (ws i).length ≤ 1000000) (d : List UInt8) (hd : d.length = 256) (bd od dc : Nat) (hs : Src w (some ⟨bd, od, none⟩) d) (hbp : bd ≠ p) (hg : goesB en lf = true) :
    Calls Tryz.prog 79 #[.pointer (some ⟨p, 0, none⟩), .int .i64 (i : Int), .slice (some ⟨bd, od, none⟩) 256 dc] w fun e w' => e = .returned (.int .i64 0) ∧ (∃ g c, DiskAt w' base p n en (goesL en lf) sf (upd ws i (ws i ++ [d])) q (upd vs i (.slice (some ⟨g, 0, none⟩) ((ws i).length + 1) c)) ∧ ((vs i).ownBlock = some g ∨ w.heap.size ≤ g)) ∧ Below base w w' ∧ Fr (fun k => k = p ∨ k = q ∨ (vs i).ownBlock = some k) w w' := by
  have FIND := find_any h i hi
  have GOES := goes_any h hl
  rw [hg] at GOES
  have harr := arr_at bd od dc
  have hrg : w.rangeAt bd od (bvs d) := fun j v hv => by
    have hj : j < (bvs d).length := (List.getElem?_eq_some_iff.1 hv).1
    rw [bvs_length] at hj
    rw [hs.cell j hj]
    rw [List.getElem?_eq_getElem (by rw [bvs_length]; exact hj)] at hv
    simpa [bvs] using hv
  go_enter Tryz.func79, Tryz.ntmps79
  go_wp2_with fail
  refine FIND.mono ?_
  rintro e w1 ⟨rfl, rfl⟩
  clear FIND
  go_wp2_with fail
  refine GOES.mono ?_
  rintro e w2 ⟨rfl, h2, hb2, hz2', hk2⟩
  clear GOES
  have hrg2 : w2.drew.rangeAt bd od (bvs d) := fun j v hv => (World.cell?_of_block (w := w1) (a := ⟨bd, od + j, none⟩) (hk2 bd hbp)).trans (hrg j v hv)
  have L56 := exec_load w2.drew bd od d hd hrg2
  have L56b := exec_load (w2.drew.alloc (.cells (bvs d).toArray 147)) bd od d hd (World.rangeAt_alloc hrg2 _)
  have B57 := build_img d hd w2.drew
  obtain ⟨ao, ac, g, cp, w4, c2, hrun, cA, fA, hD, hB, hFA, hat⟩ := write_app_fr h2 i hi hwn d hd
  have hB' := hb2.trans hB
  have hql := h2.ql
  have HFR : Hid (Fr (fun k => k = p ∨ k = q ∨ (vs i).ownBlock = some k) w1 (w4.setCell ⟨q, i * 257 + 256, none⟩ (.slice (some ⟨g, 0, none⟩) ((ws i).length + 1) cp))) := Fr.trans ⟨by omega, fun k _ hS => hk2 k fun e => hS (.inl e), hb2.os, hb2.tape, hb2.output⟩ (hFA.mono fun k _ h => .inr h)
  have HVO : Hid ((vs i).ownBlock = some g ∨ w1.heap.size ≤ g) := by
    rcases hat with h | h
    · exact .inl h
    · exact .inr (by omega)
  clear hFA hat
  have cB : (w2.drew.alloc (.cells (bvs d).toArray 147)).cell? ⟨q, i * 257 + 256, none⟩ = some (.slice ao (ws i).length ac) := (World.cell?_alloc_lt _ _ _ hql).trans c2
  have L57 := load57 w2.drew q (i * 257 + 256) _ c2
  have L57b := load57 (w2.drew.alloc (.cells (bvs d).toArray 147)) q (i * 257 + 256) _ cB
  clear hrg hrg2 h h2 hk2 hb2 hB hs
  generalize (bvs d).toArray = A at *
  go_wp2_with fail
  refine wp_region_any (by kernel_rfl) ?_
  change wpAny _ _ _ _ _ _ _ (World.drew _)
  refine take_op (i := 0) (dst := some 23) (v := .pointer (some ⟨q, i * 257, none⟩)) rfl rfl (by kernel_rfl) (by kernel_rfl) (by kernel_rfl) (fun _ _ _ h => h) rfl (fun _ => by go_simp) rfl ?_
  refine take_op (i := 1) (dst := some 24) (v := .pointer (some ⟨q, i * 257, none⟩)) rfl rfl (by kernel_rfl) (by kernel_rfl) (by kernel_rfl) (fun _ _ _ h => h) rfl (fun _ => by go_simp) rfl ?_
  refine take_op (i := 2) (dst := some 25) (v := .pointer (some ⟨q, i * 257, none⟩)) rfl rfl (by kernel_rfl) (by kernel_rfl) (by kernel_rfl) (fun _ _ _ h => h) rfl (fun _ => by go_simp) rfl ?_
  refine take_op (i := 3) (dst := some 26) (v := .pointer (some ⟨q, i * 257 + 256, none⟩)) rfl rfl (by kernel_rfl) (by kernel_rfl) (by kernel_rfl) (fun _ _ _ h => h) rfl (fun _ => by go_simp) rfl ?_
  refine take_op (i := 5) (dst := some 28) (v := .slice (some ⟨bd, od, none⟩) 256 dc) rfl rfl (by kernel_rfl) (by kernel_rfl) (by kernel_rfl) (fun _ _ _ h => h) rfl (fun _ => by go_simp) rfl ?_
  refine take_op (i := 6) (dst := some 29) (v := .pointer (some ⟨bd, od, none⟩)) rfl rfl (by kernel_rfl) (by kernel_rfl) (by kernel_rfl) (fun _ _ _ h => h) rfl (fun _ => by go_simp) rfl ?_
  simp only [Act.put, List.setIfInBounds_toArray, List.set_cons_succ, List.set_cons_zero]
  refine wpAny_ready (rs := [4, 7]) (by kernel_rfl) (by simp) ?_
  refine ready_run (v := .slice ao (ws i).length ac) (w' := w2.drew) (dst := some 27) rfl rfl rfl (run_load rfl rfl L57) rfl ?_ (ready_run (v := .agg A) (w' := w2.drew) (dst := some 30) rfl rfl rfl (run_load rfl rfl L56) rfl ?_ AllReady.nil)
  · simp only [Act.put, List.setIfInBounds_toArray, List.set_cons_succ, List.set_cons_zero]
    refine wpAny_ready (rs := [7]) (by kernel_rfl) (by simp) ?_
    refine ready_run (v := .agg A) (w' := w2.drew) (dst := some 30) rfl rfl rfl (run_load rfl rfl L56) rfl ?_ AllReady.nil
    simp only [Act.put, List.setIfInBounds_toArray, List.set_cons_succ, List.set_cons_zero]
    refine wpAny_ready (rs := [8]) (by kernel_rfl) (by simp) ?_
    refine ready_run (v := .slice (some ⟨w2.heap.size, 0, none⟩) 1 1) (w' := w2.drew.alloc (.cells A 147)) (dst := some 31) rfl rfl rfl (run_build rfl rfl B57) rfl ?_ AllReady.nil
    simp only [Act.put, List.setIfInBounds_toArray, List.set_cons_succ, List.set_cons_zero]
    refine wpAny_ready (rs := [9]) (by kernel_rfl) (by simp) ?_
    refine ready_run (v := .slice (some ⟨g, 0, none⟩) ((ws i).length + 1) cp) (w' := w4) (dst := some 32) rfl rfl rfl (run_app rfl rfl rfl rfl hrun) rfl ?_ AllReady.nil
    simp only [Act.put, List.setIfInBounds_toArray, List.set_cons_succ, List.set_cons_zero]
    refine take_op (i := 10) (dst := some 33) (v := .pointer (some ⟨q, i * 257, none⟩)) rfl rfl (by kernel_rfl) (by kernel_rfl) (by kernel_rfl) (fun _ _ _ h => h) rfl (fun _ => by go_simp) rfl ?_
    refine take_op (i := 11) (dst := some 34) (v := .pointer (some ⟨q, i * 257 + 256, none⟩)) rfl rfl (by kernel_rfl) (by kernel_rfl) (by kernel_rfl) (fun _ _ _ h => h) rfl (fun _ => by go_simp) rfl ?_
    simp only [Act.put, List.setIfInBounds_toArray, List.set_cons_succ, List.set_cons_zero]
    refine wpAny_ready (rs := [12]) (by kernel_rfl) (by simp) ?_
    refine AllReady.cons (o := { dst := none, op := Op.store 193 (Operand.tmp 34) (Operand.tmp 32), type := 0, pos := "disk.go:114", after := #[{ on := 11, ground := Ground.data }, { on := 9, ground := Ground.data }, { on := 9, ground := Ground.chain }, { on := 0, ground := Ground.phase }, { on := 1, ground := Ground.phase }, { on := 2, ground := Ground.phase }, { on := 3, ground := Ground.phase }, { on := 4, ground := Ground.phase }, { on := 5, ground := Ground.phase }, { on := 6, ground := Ground.phase }, { on := 7, ground := Ground.phase }, { on := 8, ground := Ground.phase }, { on := 9, ground := Ground.phase }], guard := none }) rfl (fun K hK => ?_) AllReady.nil
    go_simp
    refine hK _ _ ?_
    clear hK K
    refine wpAny_done (by kernel_rfl) ?_ _
    go_wp2
    go_ret
    exact ⟨rfl, ⟨g, cp, hD, HVO.out⟩, hB', HFR.out⟩
  · simp only [Act.put, List.setIfInBounds_toArray, List.set_cons_succ, List.set_cons_zero]
    refine wpAny_ready (rs := [4, 8]) (by kernel_rfl) (by simp) ?_
    refine ready_run (v := .slice ao (ws i).length ac) (w' := w2.drew) (dst := some 27) rfl rfl rfl (run_load rfl rfl L57) rfl ?_ (ready_run (v := .slice (some ⟨w2.heap.size, 0, none⟩) 1 1) (w' := w2.drew.alloc (.cells A 147)) (dst := some 31) rfl rfl rfl (run_build rfl rfl B57) rfl ?_ AllReady.nil)
    · simp only [Act.put, List.setIfInBounds_toArray, List.set_cons_succ, List.set_cons_zero]
      refine wpAny_ready (rs := [8]) (by kernel_rfl) (by simp) ?_
      refine ready_run (v := .slice (some ⟨w2.heap.size, 0, none⟩) 1 1) (w' := w2.drew.alloc (.cells A 147)) (dst := some 31) rfl rfl rfl (run_build rfl rfl B57) rfl ?_ AllReady.nil
      simp only [Act.put, List.setIfInBounds_toArray, List.set_cons_succ, List.set_cons_zero]
      refine wpAny_ready (rs := [9]) (by kernel_rfl) (by simp) ?_
      refine ready_run (v := .slice (some ⟨g, 0, none⟩) ((ws i).length + 1) cp) (w' := w4) (dst := some 32) rfl rfl rfl (run_app rfl rfl rfl rfl hrun) rfl ?_ AllReady.nil
      simp only [Act.put, List.setIfInBounds_toArray, List.set_cons_succ, List.set_cons_zero]
      refine take_op (i := 10) (dst := some 33) (v := .pointer (some ⟨q, i * 257, none⟩)) rfl rfl (by kernel_rfl) (by kernel_rfl) (by kernel_rfl) (fun _ _ _ h => h) rfl (fun _ => by go_simp) rfl ?_
      refine take_op (i := 11) (dst := some 34) (v := .pointer (some ⟨q, i * 257 + 256, none⟩)) rfl rfl (by kernel_rfl) (by kernel_rfl) (by kernel_rfl) (fun _ _ _ h => h) rfl (fun _ => by go_simp) rfl ?_
      simp only [Act.put, List.setIfInBounds_toArray, List.set_cons_succ, List.set_cons_zero]
      refine wpAny_ready (rs := [12]) (by kernel_rfl) (by simp) ?_
      refine AllReady.cons (o := { dst := none, op := Op.store 193 (Operand.tmp 34) (Operand.tmp 32), type := 0, pos := "disk.go:114", after := #[{ on := 11, ground := Ground.data }, { on := 9, ground := Ground.data }, { on := 9, ground := Ground.chain }, { on := 0, ground := Ground.phase }, { on := 1, ground := Ground.phase }, { on := 2, ground := Ground.phase }, { on := 3, ground := Ground.phase }, { on := 4, ground := Ground.phase }, { on := 5, ground := Ground.phase }, { on := 6, ground := Ground.phase }, { on := 7, ground := Ground.phase }, { on := 8, ground := Ground.phase }, { on := 9, ground := Ground.phase }], guard := none }) rfl (fun K hK => ?_) AllReady.nil
      go_simp
      refine hK _ _ ?_
      clear hK K
      refine wpAny_done (by kernel_rfl) ?_ _
      go_wp2
      go_ret
      exact ⟨rfl, ⟨g, cp, hD, HVO.out⟩, hB', HFR.out⟩
    · simp only [Act.put, List.setIfInBounds_toArray, List.set_cons_succ, List.set_cons_zero]
      refine wpAny_ready (rs := [4]) (by kernel_rfl) (by simp) ?_
      refine ready_run (v := .slice ao (ws i).length ac) (w' := w2.drew.alloc (.cells A 147)) (dst := some 27) rfl rfl rfl (run_load rfl rfl L57b) rfl ?_ AllReady.nil
      simp only [Act.put, List.setIfInBounds_toArray, List.set_cons_succ, List.set_cons_zero]
      refine wpAny_ready (rs := [9]) (by kernel_rfl) (by simp) ?_
      refine ready_run (v := .slice (some ⟨g, 0, none⟩) ((ws i).length + 1) cp) (w' := w4) (dst := some 32) rfl rfl rfl (run_app rfl rfl rfl rfl hrun) rfl ?_ AllReady.nil
      simp only [Act.put, List.setIfInBounds_toArray, List.set_cons_succ, List.set_cons_zero]
      refine take_op (i := 10) (dst := some 33) (v := .pointer (some ⟨q, i * 257, none⟩)) rfl rfl (by kernel_rfl) (by kernel_rfl) (by kernel_rfl) (fun _ _ _ h => h) rfl (fun _ => by go_simp) rfl ?_
      refine take_op (i := 11) (dst := some 34) (v := .pointer (some ⟨q, i * 257 + 256, none⟩)) rfl rfl (by kernel_rfl) (by kernel_rfl) (by kernel_rfl) (fun _ _ _ h => h) rfl (fun _ => by go_simp) rfl ?_
      simp only [Act.put, List.setIfInBounds_toArray, List.set_cons_succ, List.set_cons_zero]
      refine wpAny_ready (rs := [12]) (by kernel_rfl) (by simp) ?_
      refine AllReady.cons (o := { dst := none, op := Op.store 193 (Operand.tmp 34) (Operand.tmp 32), type := 0, pos := "disk.go:114", after := #[{ on := 11, ground := Ground.data }, { on := 9, ground := Ground.data }, { on := 9, ground := Ground.chain }, { on := 0, ground := Ground.phase }, { on := 1, ground := Ground.phase }, { on := 2, ground := Ground.phase }, { on := 3, ground := Ground.phase }, { on := 4, ground := Ground.phase }, { on := 5, ground := Ground.phase }, { on := 6, ground := Ground.phase }, { on := 7, ground := Ground.phase }, { on := 8, ground := Ground.phase }, { on := 9, ground := Ground.phase }], guard := none }) rfl (fun K hK => ?_) AllReady.nil
      go_simp
      refine hK _ _ ?_
      clear hK K
      refine wpAny_done (by kernel_rfl) ?_ _
      go_wp2
      go_ret
      exact ⟨rfl, ⟨g, cp, hD, HVO.out⟩, hB', HFR.out⟩
theorem fr_cell {S : Nat → Prop} {w' : World} (h : Fr S w w') {a : Addr} (ha : a.block < w.heap.size) (hS : ¬ S a.block) : w'.cell? a = w.cell? a := World.cell?_of_block (w := w) (h.blk _ ha hS)
theorem fr_frozen {S : Nat → Prop} {w' : World} (h : Fr S w w') {a : Addr} (ha : a.block < w.heap.size) (hS : ¬ S a.block) : w'.frozen? a = w.frozen? a := World.frozen?_of_block (w := w) (h.blk _ ha hS)
/-- The blocks of a disk. -/
def Dk (p q n : Nat) (vs : Nat → Value) : Nat → Prop := fun k => k = p ∨ k = q ∨ ∃ i, i < n ∧ (vs i).ownBlock = some k
/-- A disk is as it was where none of its blocks changes. -/
theorem DiskAt.fr (h : DiskAt w base p n en lf sf ws q vs) {S : Nat → Prop} {w' : World} (hf : Fr S w w') (hS : ∀ k, Dk p q n vs k → ¬ S k) : DiskAt w' base p n en lf sf ws q vs := by
  have hp := h.pl
  have hq := h.ql
  have sp := hS p (.inl rfl)
  have sq := hS q (.inr (.inl rfl))
  have hs := hf.size
  exact {
    pb := h.pb, qb := h.qb, pq := h.pq, nn := h.nn,
    c0 := h.c0.imp fun _ hc => ⟨hc.1, hc.2.1, (fr_cell hf (a := ⟨p, 0, none⟩) hp sp).trans hc.2.2⟩,
    c1 := (fr_cell hf (a := ⟨p, 1, none⟩) hp sp).trans h.c1,
    c2 := (fr_cell hf (a := ⟨p, 2, none⟩) hp sp).trans h.c2,
    fp := fun o => (fr_frozen hf (a := ⟨p, o, none⟩) hp sp).trans (h.fp o),
    fq := fun o => (fr_frozen hf (a := ⟨q, o, none⟩) hq sq).trans (h.fq o),
    ql := by omega,
    row := fun i hi => by
      obtain ⟨h1, h2, h3⟩ := h.row i hi
      exact ⟨fun j v hv => (fr_cell hf (a := ⟨q, i * 257 + j, none⟩) hq sq).trans (h1 j v hv), h2, (fr_cell hf (a := ⟨q, i * 257 + 256, none⟩) hq sq).trans h3⟩,
    wr := fun i hi => by
      obtain ⟨h1, h2, h3, h4⟩ := h.wr i hi
      refine ⟨?_, h2, h3, h4⟩
      obtain ⟨g1, g2⟩ := h1
      refine ⟨g1, ?_⟩
      rcases g2 with g2 | ⟨g, cap, cur, hv, hg, hh, rest⟩
      · exact .inl g2
      · have hlt : g < w.heap.size := (Array.getElem?_eq_some_iff.1 hh).1
        exact .inr ⟨g, cap, cur, hv, hg, by rw [hf.blk g hlt (hS g (.inr (.inr ⟨i, hi, by rw [hv]; rfl⟩)))]; exact hh, rest⟩,
    ap := h.ap }
end
end Go.Proofs.YtkiifmnmeikdlaaGreatDoor
/- Disk.Open, Disk.Flush. -/
namespace Go.Proofs.YtkiifmnmeikdlaaGreatDoor
open Go.RowKit
set_option maxRecDepth 100000
def ints (l : List Nat) : List Value := l.map fun (k : Nat) => Value.int .i64 (k : Int)
def OwnNt (w : World) (base : Nat) (v : Value) (l : List Nat) : Prop := w.ownsRow base 3 1 v l.length (ints l)
theorem Tryz.infoNt : (Tryz.prog.info? 3).map (fun i => (i.zero, i.size, i.bytes)) = some (some (.int .i64 0), 1, 8) := by kernel_rfl
/-- The blocks below n that have writes, rising. -/
def openL (ws : Nat → List (List UInt8)) (n : Nat) : List Nat := (List.range n).filter fun i => decide (0 < (ws i).length)
theorem openL_succ (ws : Nat → List (List UInt8)) (k : Nat) : openL ws (k + 1) = openL ws k ++ (if 0 < (ws k).length then [k] else []) := by
  unfold openL; rw [List.range_succ, List.filter_append]
  congr 1
  by_cases h : 0 < (ws k).length <;> simp [h]
theorem openL_lt (ws : Nat → List (List UInt8)) (n : Nat) : ∀ x ∈ openL ws n, x < n ∧ 0 < (ws x).length := by
  intro x hx; simp only [openL, List.mem_filter, List.mem_range, decide_eq_true_eq] at hx; exact hx
theorem openL_len (ws : Nat → List (List UInt8)) (n : Nat) : (openL ws n).length ≤ n := by
  unfold openL; have := List.length_filter_le (fun i => decide (0 < (ws i).length)) (List.range n); simpa using this
section
variable {w : World} {base p n : Nat} {en : Bool} {lf : Int} {sf : Nat → List UInt8} {ws : Nat → List (List UInt8)} {q : Nat} {vs : Nat → Value}
theorem DiskAt.drew (h : DiskAt w base p n en lf sf ws q vs) : DiskAt w.drew base p n en lf sf ws q vs := h.below (B := w.heap.size) ((Below.refl _ _).drew) (Nat.le_refl _)
set_option maxHeartbeats 1000000 in
theorem open_any (h : DiskAt w base p n en lf sf ws q vs) :
    Calls Tryz.prog 120 #[.pointer (some ⟨p, 0, none⟩)] w fun e w' => ∃ v, e = .returned v ∧ OwnNt w' w.heap.size v (openL ws n) ∧ Below w.heap.size w w' := by
  have LEN := len_any h
  have hn := h.nn
  have hp := h.pl
  have hq := h.ql
  have H : Hid _ := h
  obtain ⟨i0, hi, hz0, hz1, hz2⟩ := info_parts Tryz.infoNt
  clear h
  go_enter Tryz.func120, Tryz.ntmps120
  go_wp2_with fail
  refine LEN.mono ?_
  rintro e w1 ⟨rfl, rfl⟩
  clear LEN
  go_wp2
  go_loopw [3, 7] (fun v i wr => ∃ k : Nat, k ≤ n ∧ i = .int .i64 k ∧ OwnNt wr w1.heap.size v (openL ws k) ∧ Below w1.heap.size w1 wr) (fun _ i _ => n - (Go.RowKit.intOf i).toNat)
  case atStart => exact ⟨0, by omega, rfl, World.ownsRow_nil _ _ _ _, Below.refl _ _⟩
  case round =>
    obtain ⟨k, hk, rfl, hown, hbw⟩ := hrel
    have hs := hbw.size
    have hll := openL_len ws k
    by_cases hlt : (k : Int) < n
    · have hD := H.out.below hbw (Nat.le_refl _)
      obtain ⟨cq, hcq1, hcq2, c0⟩ := hD.c0
      obtain ⟨ao, ac, hv⟩ := hD.len k (by omega)
      have cw := (hD.row k (by omega)).2.2
      rw [hv] at cw
      have HSN : Hid _ := openL_succ ws k
      clear hD hv
      by_cases hpos : 0 < (ws k).length
      · have hpos' : (0 : Int) < (ws k).length := by omega
        go_wp2_with (first | (at_builtin; refine wpList_append_own _ rfl (.tmp 20) (.tmp 22) 182 rfl w1.heap.size 3 i0 (.int .i64 0) 1 8 Tryz.underlying182 hi hz0 hz1 hz2 rfl (by decide) u3 _ _ rfl (World.ownsRow.alloc hown _) ⟨wr.heap.size, 0, none⟩ 1 1 [.int .i64 (k : Int)] rfl rfl (cell_one_new _ _ _) (by intro u hu; simp at hu; subst hu; rfl) (by unfold maxLen; omega) (by omega) (by simp; omega) ?_; intro v' w2 hown2 hgrow2 hnil2; clear hnil2))
        have hb2 : Below w1.heap.size w1 w2 := (hbw.alloc hs _).grown hgrow2 (by simp; omega) (fun j hj => (World.ownsRow.lt hown j hj).1)
        have hO2 : OwnNt w2 w1.heap.size v' (openL ws (k + 1)) := by
          rw [HSN.out, if_pos hpos]
          unfold OwnNt
          rw [List.length_append, show ints (openL ws k ++ [k]) = ints (openL ws k) ++ [Value.int .i64 (k : Int)] from by simp [ints]]
          exact hown2
        clear hown hown2 hgrow2
        go_roundw
        case rel => exact ⟨k + 1, by omega, by go_num, hO2, hb2⟩
        case measure => simp [Go.RowKit.intOf]; omega
      · have hz : (ws k).length = 0 := by omega
        rw [hz] at cw
        go_wp2
        go_roundw
        case rel => exact ⟨k + 1, by omega, by go_num, by rw [HSN.out, if_neg hpos, List.append_nil]; exact hown, hbw⟩
        case measure => simp [Go.RowKit.intOf]; omega
    · obtain rfl : k = n := by omega
      go_wp2
      go_ret
      exact ⟨_, rfl, hown, hbw⟩
/-- The state behind the first k blocks of L are settled, mk b of the writes of each kept. -/
def setS (L : List Nat) (mk : Nat → List (List UInt8) → Nat) (sf : Nat → List UInt8) (ws : Nat → List (List UInt8)) : Nat → (Nat → List UInt8) × (Nat → List (List UInt8))
  | 0 => (sf, ws)
  | k + 1 => (upd (setS L mk sf ws k).1 (L.getD k 0) (lastOf ((setS L mk sf ws k).1 (L.getD k 0)) (((setS L mk sf ws k).2 (L.getD k 0)).take (mk k ((setS L mk sf ws k).2 (L.getD k 0))))), upd (setS L mk sf ws k).2 (L.getD k 0) [])
theorem own_edit {w w' : World} {q o len B e size : Nat} {v : Value} {m : Nat} {xs : List Value} (he : Edit w w' q o len) (h : w.ownsRow B e size v m xs) (hB : q < B) : w'.ownsRow B e size v m xs := by
  obtain ⟨h1, h2⟩ := h
  refine ⟨h1, ?_⟩
  rcases h2 with h2 | ⟨g, cap, cur, hv, hg, hh, r⟩
  · exact .inl h2
  · exact .inr ⟨g, cap, cur, hv, hg, by rw [he.block g (Array.getElem?_eq_some_iff.1 hh).1 (by omega)]; exact hh, r⟩
theorem OwnNt.form {w : World} {B : Nat} {v : Value} {l : List Nat} (h : OwnNt w B v l) : ∃ ao cap, v = .slice ao l.length cap ∧ (cap : Int) ≤ 9223372036854775807 ∧ (0 < l.length → ∃ g, ao = some ⟨g, 0, none⟩) ∧ ∀ k, k < l.length → ∀ g, ao = some ⟨g, 0, none⟩ → w.cell? ⟨g, k, none⟩ = some (.int .i64 ((l.getD k 0 : Nat) : Int)) := by
  have h' := h
  obtain ⟨h1, h2⟩ := h
  rcases h2 with ⟨rfl, h3⟩ | ⟨g, cap, cur, rfl, hg, hh, hn, hm, hs, hx⟩
  · obtain rfl : l = [] := List.eq_nil_of_length_eq_zero h3
    exact ⟨none, 0, rfl, by omega, by simp, by simp⟩
  · refine ⟨_, cap, rfl, by unfold maxLen at hm; omega, fun _ => ⟨g, rfl⟩, fun k hk g' e => ?_⟩
    cases e
    rw [World.ownsRow.cellAt h' k (by omega)]
    simp [ints, hk]
end
end Go.Proofs.YtkiifmnmeikdlaaGreatDoor
/- What Flush and Crash leave, block by block. -/
namespace Go.Proofs.YtkiifmnmeikdlaaGreatDoor
open Go.RowKit
set_option maxRecDepth 100000
theorem openL_nodup (ws : Nat → List (List UInt8)) (n : Nat) : (openL ws n).Nodup := by
  unfold openL; exact List.Pairwise.filter _ List.nodup_range
theorem nodup_ne {L : List Nat} (h : L.Nodup) (i j : Nat) (hi : i < L.length) (hj : j < L.length) (hne : i ≠ j) : L[i] ≠ L[j] := by
  have h' := List.pairwise_iff_getElem.1 h
  rcases Nat.lt_or_gt_of_ne hne with hlt | hlt
  · exact h' i j hi hj hlt
  · exact fun e => h' j i hj hi hlt e.symm
theorem getD_take_ne {L : List Nat} (h : L.Nodup) (k : Nat) (hk : k < L.length) : L.getD k 0 ∉ L.take k := by
  intro hm
  rw [List.mem_take_iff_getElem] at hm
  obtain ⟨j, hj, e⟩ := hm
  have e2 : L.getD k 0 = L[k] := by simp [hk]
  rw [e2] at e
  exact nodup_ne h j k (by omega) hk (by omega) e
/-- Block by block, behind the first k of L. -/
theorem setS_spec (L : List Nat) (hL : L.Nodup) (mk : Nat → List (List UInt8) → Nat) (sf : Nat → List UInt8) (ws : Nat → List (List UInt8)) : ∀ k, k ≤ L.length →
    (∀ j, j < k → (setS L mk sf ws k).1 (L.getD j 0) = lastOf (sf (L.getD j 0)) ((ws (L.getD j 0)).take (mk j (ws (L.getD j 0)))) ∧ (setS L mk sf ws k).2 (L.getD j 0) = []) ∧
    (∀ i, i ∉ L.take k → (setS L mk sf ws k).1 i = sf i ∧ (setS L mk sf ws k).2 i = ws i)
  | 0, _ => ⟨by intro j hj; omega, fun i _ => ⟨rfl, rfl⟩⟩
  | k + 1, hk => by
    obtain ⟨h1, h2⟩ := setS_spec L hL mk sf ws k (by omega)
    have hnew := h2 _ (getD_take_ne hL k (by omega))
    have htk : L.take (k + 1) = L.take k ++ [L.getD k 0] := by
      have hk' : k < L.length := by omega
      rw [List.take_add_one, List.getElem?_eq_getElem hk']; simp [hk']
    refine ⟨fun j hj => ?_, fun i hi => ?_⟩
    · by_cases hjk : j = k
      · subst hjk
        constructor
        · show upd _ _ _ _ = _
          rw [upd_same, hnew.1, hnew.2]
        · show upd _ _ _ _ = _
          rw [upd_same]
      · have hne : L.getD j 0 ≠ L.getD k 0 := by
          have hj' : j < L.length := by omega
          have hk' : k < L.length := by omega
          intro e
          have e1 : L[j] = L[k] := by simpa [hj', hk'] using e
          exact nodup_ne hL j k hj' hk' hjk e1
        obtain ⟨a, b⟩ := h1 j (by omega)
        constructor
        · show upd _ _ _ _ = _
          rw [upd_other _ _ _ hne]; exact a
        · show upd _ _ _ _ = _
          rw [upd_other _ _ _ hne]; exact b
    · rw [htk, List.mem_append, not_or] at hi
      have hne : i ≠ L.getD k 0 := fun e => hi.2 (by rw [e]; exact List.mem_singleton.2 rfl)
      obtain ⟨a, b⟩ := h2 i hi.1
      constructor
      · show upd _ _ _ _ = _
        rw [upd_other _ _ _ hne]; exact a
      · show upd _ _ _ _ = _
        rw [upd_other _ _ _ hne]; exact b
theorem openL_at (ws : Nat → List (List UInt8)) (i : Nat) (hw : 0 < (ws i).length) : ∀ n, i < n → (openL ws n).getD (openL ws i).length 0 = i ∧ (openL ws i).length < (openL ws n).length
  | 0, h => by omega
  | n + 1, h => by
    rw [openL_succ]
    by_cases hin : i = n
    · subst hin
      rw [if_pos hw]; simp
    · obtain ⟨a, b⟩ := openL_at ws i hw n (by omega)
      refine ⟨?_, by rw [List.length_append]; omega⟩
      rw [List.getD_eq_getElem?_getD, List.getElem?_append_left b, ← List.getD_eq_getElem?_getD]; exact a
/-- Every block below n behind all of the open ones. -/
theorem setS_all (ws : Nat → List (List UInt8)) (sf : Nat → List UInt8) (mk : Nat → List (List UInt8) → Nat) (n i : Nat) (hi : i < n) :
    (setS (openL ws n) mk sf ws (openL ws n).length).1 i = lastOf (sf i) ((ws i).take (mk (openL ws i).length (ws i))) ∧ (setS (openL ws n) mk sf ws (openL ws n).length).2 i = [] := by
  obtain ⟨h1, h2⟩ := setS_spec (openL ws n) (openL_nodup ws n) mk sf ws _ (Nat.le_refl _)
  by_cases hw : 0 < (ws i).length
  · obtain ⟨a, b⟩ := openL_at ws i hw n hi
    have h := h1 _ b
    rw [a] at h; exact h
  · have hn : ws i = [] := List.eq_nil_of_length_eq_zero (by omega)
    have hm : i ∉ (openL ws n).take (openL ws n).length := by
      rw [List.take_length]; intro hm; exact hw (openL_lt ws n i hm).2
    obtain ⟨a, b⟩ := h2 i hm
    rw [a, b, hn, List.take_nil]; exact ⟨rfl, rfl⟩
section
variable {w : World} {base p n : Nat} {en : Bool} {lf : Int} {sf : Nat → List UInt8} {ws : Nat → List (List UInt8)} {q : Nat} {vs : Nat → Value}
theorem DiskAt.congr (h : DiskAt w base p n en lf sf ws q vs) {sf' : Nat → List UInt8} {ws' : Nat → List (List UInt8)} (h1 : ∀ i, i < n → sf i = sf' i) (h2 : ∀ i, i < n → ws i = ws' i) : DiskAt w base p n en lf sf' ws' q vs :=
  { pb := h.pb, qb := h.qb, pq := h.pq, nn := h.nn, c0 := h.c0, c1 := h.c1, c2 := h.c2, fp := h.fp, fq := h.fq, ql := h.ql,
    row := fun i hi => by rw [← h1 i hi]; exact h.row i hi,
    wr := fun i hi => by rw [← h2 i hi]; exact h.wr i hi,
    ap := h.ap }
end
end Go.Proofs.YtkiifmnmeikdlaaGreatDoor
