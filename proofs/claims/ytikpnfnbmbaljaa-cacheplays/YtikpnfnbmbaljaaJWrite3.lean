/- Disk.Write. -/
import Derived.Test.YtikpnfnbmbaljaaJDisk4
import Derived.Deep.RegionLaw
import Derived.Deep.AppendLies
namespace Go.Proofs.Ytikpnfnbmbaljaa
open Go.RowKit
set_option maxRecDepth 100000
theorem Try.info90 : ∃ i0 Z, Try.prog.info? 90 = some i0 ∧ i0.zero = some (.agg Z) ∧ i0.size = 256 ∧ i0.bytes = 256 ∧ Z.size = 256 := by
  have h : (Try.prog.info? 90).map (fun i => (i.zero, i.size, i.bytes)) = some (some (.agg (bvs (List.replicate 256 0)).toArray), 256, 256) := by kernel_rfl
  obtain ⟨i0, h1, h2, h3, h4⟩ := info_parts h
  exact ⟨i0, _, h1, h2, h3, h4, by rw [List.size_toArray, bvs_length, List.length_replicate]⟩
theorem step_run {P : Program} {ops : Array Oper} {o : Oper} {a : Act} {w w' : World} {v : Value} {K : Act → World → Prop} {Q : Exit → Act → World → Prop} {E : Prop} (hg : o.guard = none) (hrun : (execOp a.eval o).run P w = .ok (.value v) w') (hK : K (a.put o.dst v) w') :
    if Region.wanted o (yielded ops a.tmps) = true then Oper.wp P o a w K Q else E := by
  rw [if_pos (by simp [Region.wanted, hg])]
  unfold Oper.wp
  rw [hrun]
  exact hK
theorem take_op {P : Program} {ops : Array Oper} {md : Region.Mode} {Q : Exit → Act → World → Prop} {i : Nat} {oi : Oper} {v : Value} {dst : Option Tmp} {fuel : Nat} {listed l2 : Array Bool} {a : Act} {w : World} (hi : ops[i]? = some oi) (hd : oi.dst = dst)
    (hs : Region.noSelect ops = true) (hf : Region.free md ops listed i = true) (hr : (Region.ready md ops listed).contains i = true) (hQ : ∀ c a w, Q (.panic c) (a.put oi.dst v) w → Q (.panic c) a w) (hg : oi.guard = none) (hy : ∀ w, (execOp a.eval oi).run P w = .ok (.value v) w) (hl : listed.setIfInBounds i true = l2)
    (h : wpAny P md ops Q fuel l2 (a.put dst v) w) : wpAny P md ops Q (fuel + 1) listed a w :=
  wpAny_take hi hs hf hr hQ (Or.inl ⟨by simp [Region.wanted, hg], hy⟩) (by rw [hd, hl]; exact h)
theorem ready_run {P : Program} {ops : Array Oper} {md : Region.Mode} {Q : Exit → Act → World → Prop} {i : Nat} {o : Oper} {v : Value} {dst : Option Tmp} {fuel : Nat} {listed l2 : Array Bool} {a : Act} {w w' : World} {rs : List Nat} (ho : ops[i]? = some o) (hd : o.dst = dst) (hg : o.guard = none)
    (hrun : (execOp a.eval o).run P w = .ok (.value v) w') (hl : listed.setIfInBounds i true = l2) (h : wpAny P md ops Q fuel l2 (a.put dst v) w') (hs : AllReady P md ops Q fuel listed a w rs) : AllReady P md ops Q fuel listed a w (i :: rs) :=
  AllReady.cons ho (fun K hK => step_run hg hrun (hK _ _ (by rw [hd, hl]; exact h))) hs
theorem run_load {P : Program} {o : Oper} {a : Act} {w : World} {ty : TypeId} {x : Operand} {pv v : Value} (hop : o.op = .load ty x) (hx : a.eval x = pv) (hL : (Instr.loadAt ty pv).run P w = .ok v w) : (execOp a.eval o).run P w = .ok (.value v) w := by
  unfold execOp; simp only [hop, hx, Sem.run_bind, hL, Result.andThen_ok, Sem.run_pure]
theorem run_build {P : Program} {o : Oper} {a : Act} {w w' : World} {t : TypeId} {n : Nat} {x : Operand} {pv v : Value} (hop : o.op = .buildSlice t n #[(0, x)]) (hx : a.eval x = pv) (hL : (Instr.buildSlice t n #[(0, pv)]).run P w = .ok v w') : (execOp a.eval o).run P w = .ok (.value v) w' := by
  unfold execOp
  simp only [hop, List.map_toArray, List.map_cons, List.map_nil, hx, Sem.run_bind, hL, Result.andThen_ok, Sem.run_pure]
theorem run_app {P : Program} {o : Oper} {a : Act} {w w' : World} {s x : Operand} {sv xv v : Value} (hop : o.op = .call { callee := .builtin .append, args := #[s, x], argTypes := #[101, 101] }) (hty : o.type = 101) (hs : a.eval s = sv) (hx : a.eval x = xv) (hL : (Builtin.append_ #[101, 101] 101 #[sv, xv]).run P w = .ok v w') : (execOp a.eval o).run P w = .ok (.value v) w' := by
  unfold execOp
  simp only [hop, hty, resolve, invoke, builtin, Sem.run_bind, Sem.run_pure, Result.andThen_ok, List.map_toArray, List.map_cons, List.map_nil, hs, hx, hL]
section
variable {w : World} {base p n : Nat} {en : Bool} {lf : Int} {sf : Nat → List UInt8} {ws : Nat → List (List UInt8)} {q : Nat} {vs : Nat → Value}
theorem DiskAt.appended (h : DiskAt w base p n en lf sf ws q vs) (i : Nat) (hi : i < n) (d : List UInt8) (hd : d.length = 256) {w3 w4 : World} {g cap : Nat} (hb3 : Below w.heap.size w w3) (hz3 : w3.heap.size = w.heap.size + 1)
    (hown : w4.ownsRow base 90 256 (.slice (some ⟨g, 0, none⟩) ((ws i).length + 1) cap) ((ws i).length + 1) ((ws i).flatMap bvs ++ bvs d)) (hgrow : w3.grownBy w4 (vs i).ownBlock) (hat : (vs i).ownBlock = some g ∨ g = w.heap.size + 1) :
    w4.cell? ⟨q, i * 257 + 256, none⟩ = some (vs i) ∧ w4.frozen? ⟨q, i * 257 + 256, none⟩ = false ∧
    DiskAt (w4.setCell ⟨q, i * 257 + 256, none⟩ (.slice (some ⟨g, 0, none⟩) ((ws i).length + 1) cap)) base p n en lf sf (upd ws i (ws i ++ [d])) q (upd vs i (.slice (some ⟨g, 0, none⟩) ((ws i).length + 1) cap)) ∧
    Below base w (w4.setCell ⟨q, i * 257 + 256, none⟩ (.slice (some ⟨g, 0, none⟩) ((ws i).length + 1) cap)) := by
  have hp := h.pl
  have hq := h.ql
  obtain ⟨hwo, hwl, hnp, hnq⟩ := h.wr i hi
  obtain ⟨hr, hlen, hc⟩ := h.row i hi
  have hblk : ∀ k, k < w.heap.size → some k ≠ (vs i).ownBlock → w4.heap[k]? = w.heap[k]? := fun k hk hne => (hgrow.block k (by omega) hne).trans (hb3.block k hk)
  have hqb : w4.heap[q]? = w.heap[q]? := hblk q hq (fun e => hnq e.symm)
  have hsz := hgrow.size
  have hgq : g ≠ q := by
    rcases hat with e | e
    · intro e2; exact hnq (by rw [e, e2])
    · omega
  have hgp : g ≠ p := by
    rcases hat with e | e
    · intro e2; exact hnp (by rw [e, e2])
    · omega
  have hcq : ∀ o, w4.cell? ⟨q, o, none⟩ = w.cell? ⟨q, o, none⟩ := fun o => World.cell?_of_block (a := ⟨q, o, none⟩) hqb
  have hfq : ∀ o, w4.frozen? ⟨q, o, none⟩ = w.frozen? ⟨q, o, none⟩ := fun o => World.frozen?_of_block (a := ⟨q, o, none⟩) hqb
  refine ⟨(hcq _).trans hc, (hfq _).trans (h.fq _), ?_, ?_⟩
  · have hD := h.setQ i hi (w' := w4.setCell ⟨q, i * 257 + 256, none⟩ (.slice (some ⟨g, 0, none⟩) ((ws i).length + 1) cap)) (s' := sf i) (v' := .slice (some ⟨g, 0, none⟩) ((ws i).length + 1) cap) (ws' := ws i ++ [d])
      (by simp [World.setCell]; omega)
      (fun k hk hkq hne => (heap_setCell_other w4 ⟨q, i * 257 + 256, none⟩ k _ hkq).trans (hblk k hk hne))
      (fun o' ho => (World.cell?_setCell_other _ _ _ _ (by intro e; have := congrArg Addr.off e; simp only at this; omega)).trans (hcq o'))
      (fun o => by rw [World.frozen?_setCell]; exact (hfq o).trans (h.fq o))
      (fun j v hv => by
        have hj : j < (bvs (sf i)).length := (List.getElem?_eq_some_iff.1 hv).1
        rw [bvs_length, hlen] at hj
        rw [World.cell?_setCell_other _ _ _ _ (by intro e; have := congrArg Addr.off e; simp only at this; omega), hcq]
        exact hr j v hv)
      hlen (World.cell?_setCell_same _ _ _ ((hcq _).trans hc))
      (by
        have h1 : (ws i ++ [d]).length = (ws i).length + 1 := by simp
        have h2 : (ws i ++ [d]).flatMap bvs = (ws i).flatMap bvs ++ bvs d := by simp
        rw [h1, h2]
        exact World.ownsRow.kept hown ⟨rfl, rfl, rfl, by simp [World.setCell], fun k _ hk => heap_setCell_other w4 ⟨q, i * 257 + 256, none⟩ k _ (fun e => hk (by rw [e]))⟩ (.inr (by intro e; exact hgq (by simpa [Value.ownBlock] using e))))
      (by intro x hx; rcases List.mem_append.1 hx with hx | hx; exact hwl x hx; simp at hx; rw [hx]; exact hd)
      (by intro e; exact hgp (by simpa [Value.ownBlock] using e)) (by intro e; exact hgq (by simpa [Value.ownBlock] using e))
      (fun j hj hji => by
        right
        intro e
        have e2 : (vs j).ownBlock = some g := e.symm
        rcases hat with e3 | e3
        · rcases h.ap j i hj hi hji with e4 | e4
          · rw [e2] at e4; cases e4
          · exact e4 (e2.trans e3.symm)
        · have := (World.ownsRow.lt (h.wr j hj).1 g e2).2
          omega)
    have hupd : upd sf i (sf i) = sf := by
      funext j; unfold upd; split
      · rename_i e; rw [e]
      · rfl
    rw [hupd] at hD; exact hD
  · refine ((hb3.mono (by have := h.qb; omega)).trans ⟨hgrow.os, hgrow.tape, hgrow.output, hgrow.size, fun k hk => hgrow.block k (by have := h.qb; omega) (fun e => ?_)⟩).setCell h.qb _
    have := (World.ownsRow.lt hwo k e.symm).1
    omega
theorem load57 (w : World) (q o : Nat) (v : Value) (h : w.cell? ⟨q, o, none⟩ = some v) : (Instr.loadAt 101 (.pointer (some ⟨q, o, none⟩))).run Try.prog w = .ok v w := by go_simp
theorem exec_load (w : World) (b o : Nat) (d : List UInt8) (hd : d.length = 256) (hr : w.rangeAt b o (bvs d)) : (Instr.loadAt 90 (.pointer (some ⟨b, o, none⟩))).run Try.prog w = .ok (.agg (bvs d).toArray) w := by
  obtain ⟨Z, _, _, hinfo, _⟩ := Try.zero90
  exact run_loadAt_mid w b o 90 (bvs d) _ hr Try.underlying90 rfl (by rw [hinfo, bvs_length, hd])
end
end Go.Proofs.Ytikpnfnbmbaljaa
/- disk.New, Disk.Read, Disk.Open. -/
namespace Go.Proofs.Ytikpnfnbmbaljaa
open Go.RowKit
set_option maxRecDepth 100000
def zer : List UInt8 := List.replicate 256 0
theorem zer_length : zer.length = 256 := by unfold zer; rw [List.length_replicate]
theorem Try.info103 : ∃ i0 Z, Try.prog.info? 103 = some i0 ∧ i0.zero = some (.agg Z) ∧ i0.size = 257 ∧ i0.bytes = 280 ∧ Z.toList = bvs zer ++ [.slice none 0 0] := by
  have h : (Try.prog.info? 103).map (fun i => (i.zero, i.size, i.bytes)) = some (some (Value.agg (bvs zer ++ [Value.slice none 0 0]).toArray), 257, 280) := by kernel_rfl
  obtain ⟨i0, h1, h2, h3, h4⟩ := info_parts h
  exact ⟨i0, (bvs zer ++ [Value.slice none 0 0]).toArray, h1, h2, h3, h4, List.toList_toArray⟩
theorem made_at (Z : Array Value) (n k : Nat) (hZ : Z.size = 257) (hk : k < n * 257) : (madeCells Z (n * 257))[k]? = Z[k % 257]? := by
  unfold madeCells
  rw [Array.getElem?_map, Array.getElem?_range, if_pos hk]
  have hlt : k % 257 < Z.size := by rw [hZ]; omega
  rw [Option.map_some, hZ, getElem!_pos Z (k % 257) hlt, Array.getElem?_eq_getElem hlt]
/-- 'make' of n blocks. -/
theorem make_blocks (w : World) (n : Nat) (hn : n ≤ 4096) : ∃ C : Array Value, (Instr.makeSlice 47 (.int .i64 (n : Int)) (.int .i64 (n : Int))).run Try.prog w = .ok (.slice (some ⟨w.heap.size, 0, none⟩) n n) (w.alloc (.cells C 103)) ∧
    ∀ i, i < n → (∀ j v, (bvs zer)[j]? = some v → C[i * 257 + j]? = some v) ∧ C[i * 257 + 256]? = some (.slice none 0 0) := by
  obtain ⟨i0, Z, hi, hz, hs, hb, hZ⟩ := Try.info103
  have hZs : Z.size = 257 := by rw [← Array.length_toList, hZ, List.length_append, bvs_length, zer_length]; rfl
  have h := run_make (P := Try.prog) w 47 103 i0 _ Try.underlying47 hi hz .i64 .i64 (n : Int) (n : Int) (by omega) (by omega) (by rw [hb]; omega) (by omega)
  refine ⟨_, h, fun i hin => ⟨fun j v hv => ?_, ?_⟩⟩
  · have hj : j < (bvs zer).length := (List.getElem?_eq_some_iff.1 hv).1
    rw [bvs_length, zer_length] at hj
    have e : (madeCells (Value.agg Z).cells ((n : Int).toNat * i0.size)) = madeCells Z (n * 257) := by rw [Int.toNat_natCast, hs]; rfl
    rw [e, made_at Z n _ hZs (by omega), show (i * 257 + j) % 257 = j by omega, ← Array.getElem?_toList, hZ, List.getElem?_append_left (by rw [bvs_length, zer_length]; exact hj)]
    exact hv
  · have e : (madeCells (Value.agg Z).cells ((n : Int).toNat * i0.size)) = madeCells Z (n * 257) := by rw [Int.toNat_natCast, hs]; rfl
    rw [e, made_at Z n _ hZs (by omega), show (i * 257 + 256) % 257 = 256 by omega, ← Array.getElem?_toList, hZ, List.getElem?_append_right (by rw [bvs_length, zer_length]; omega), bvs_length, zer_length]
    rfl
set_option maxHeartbeats 1000000 in
theorem new_any (w : World) (n : Nat) (h1 : 1 ≤ n) (hn : n ≤ 4096) :
    Calls Try.prog 5 #[.int .i64 (n : Int)] w fun e w' => ∃ p q, e = .returned (.tuple #[.pointer (some ⟨p, 0, none⟩), .int .i64 0]) ∧ DiskAt w' w.heap.size p n false 0 (fun _ => zer) (fun _ => []) q (fun _ => .slice none 0 0) ∧ Below w.heap.size w w' := by
  obtain ⟨C, hmk, hC⟩ := make_blocks w n hn
  have h1' : (1 : Int) ≤ n := by omega
  have hn' : (n : Int) ≤ 4096 := by omega
  have hzw : (w.alloc (.cells C 103)).heap.size = w.heap.size + 1 := by show (w.heap.push _).size = _; simp
  have HC : Hid (∀ i, i < n → (∀ j v, (bvs zer)[j]? = some v → C[i * 257 + j]? = some v) ∧ C[i * 257 + 256]? = some (.slice none 0 0)) := hC
  have HZ : Hid _ := hzw
  clear hC hzw
  go_enter Try.func5, Try.ntmps5
  go_wp2
  go_ret2
  have e0 : ((w.alloc (.cells C 103)).alloc (.cells #[Value.slice (some ⟨w.heap.size, 0, none⟩) n n, Value.bool false, Value.int .i64 0] 49)).heap[w.heap.size]? = some (.cells C 103 (0, 0)) := heap_alloc2_old _ _ _
  have e1 : ((w.alloc (.cells C 103)).alloc (.cells #[Value.slice (some ⟨w.heap.size, 0, none⟩) n n, Value.bool false, Value.int .i64 0] 49)).heap[w.heap.size + 1]? = some (.cells #[Value.slice (some ⟨w.heap.size, 0, none⟩) n n, Value.bool false, Value.int .i64 0] 49 (0, 0)) := heap_alloc2_new _ _ _
  have hC := HC.out
  refine ⟨w.heap.size + 1, w.heap.size, rfl, ?_, ((Below.refl _ _).alloc (Nat.le_refl _) _).alloc (by rw [HZ.out]; omega) _⟩
  exact {
    pb := by omega, qb := Nat.le_refl _, pq := by omega, nn := hn,
    c0 := ⟨n, Nat.le_refl _, by omega, by rw [cell_of_row _ _ _ _ _ _ e1]; rfl⟩,
    c1 := by rw [cell_of_row _ _ _ _ _ _ e1]; rfl,
    c2 := by rw [cell_of_row _ _ _ _ _ _ e1]; rfl,
    fp := fun o => frozen_of_row _ _ o _ _ e1,
    fq := fun o => frozen_of_row _ _ o _ _ e0,
    ql := (Array.getElem?_eq_some_iff.1 e0).1,
    row := fun i hi => ⟨fun j v hv => by rw [cell_of_row _ _ _ _ _ _ e0]; exact (hC i hi).1 j v hv, zer_length, by rw [cell_of_row _ _ _ _ _ _ e0]; exact (hC i hi).2⟩,
    wr := fun i hi => ⟨World.ownsRow_nil _ _ _ _, by simp, by simp [Value.ownBlock], by simp [Value.ownBlock]⟩,
    ap := fun i j hi hj hij => .inl rfl }
section
variable {w : World} {base p n : Nat} {en : Bool} {lf : Int} {sf : Nat → List UInt8} {ws : Nat → List (List UInt8)} {q : Nat} {vs : Nat → Value}
theorem DiskAt.lastLen (h : DiskAt w base p n en lf sf ws q vs) (i : Nat) (hi : i < n) : (lastOf (sf i) (ws i)).length = 256 := lastOf_length (h.row i hi).2.1 (h.wr i hi).2.1
set_option maxHeartbeats 1000000 in
set_option maxRecDepth 100000 in
theorem read_any (h : DiskAt w base p n en lf sf ws q vs) (i : Nat) (hi : i < n) :
    Calls Try.prog 22 #[.pointer (some ⟨p, 0, none⟩), .int .i64 (i : Int)] w fun e w' => ∃ g, e = .returned (.tuple #[.slice (some ⟨g, 0, none⟩) 256 256, .int .i64 0]) ∧ Blk w' g 90 (lastOf (sf i) (ws i)) ∧ w.heap.size ≤ g ∧ Below w.heap.size w w' := by
  have FIND := find_any h i hi
  have LAST := last_any h i hi
  have hll := h.lastLen i hi
  obtain ⟨Z, hz, hzs, hinfo, HZ⟩ := Try.zero90
  clear HZ hinfo
  generalize lastOf (sf i) (ws i) = y at *
  clear h
  go_enter Try.func22, Try.ntmps22
  go_wp2_with fail
  refine FIND.mono ?_
  rintro e w1 ⟨rfl, rfl⟩
  clear FIND
  go_wp2_with fail
  refine LAST.mono ?_
  rintro e w2 ⟨rfl, hb2⟩
  clear LAST
  have hs2 := hb2.size
  have hb3 : Below w1.heap.size w1 (w2.alloc (.cells Z 90)) := hb2.alloc hs2 _
  go_wp2_with ((with_reducible show wpList _ _ _ ({ dst := _, op := Op.store 90 _ _, type := _, pos := _, after := _, guard := _ } :: _) _ _); refine wpList_store_blk rfl (.tmp 8) (.tmp 19) rfl w2.heap.size Z y rfl rfl (heap_alloc_new _ _) hzs hll w1.heap.size w1 hb3 hs2 ?_; intro w3 hg3 hb4 hx1 hy1; clear hx1 hy1)
  go_ret2
  exact ⟨_, rfl, hg3, hs2, hb4⟩
end
end Go.Proofs.Ytikpnfnbmbaljaa
/- What Write of the disk leaves as it was; a disk under changes of other blocks. -/
namespace Go.Proofs.Ytikpnfnbmbaljaa
open Go.RowKit
set_option maxRecDepth 100000
/-- Of what was there nothing but the blocks S has changed. -/
structure Fr (S : Nat → Prop) (w w' : World) : Prop where
  size : w.heap.size ≤ w'.heap.size
  blk : ∀ k, k < w.heap.size → ¬ S k → w'.heap[k]? = w.heap[k]?
  os : w'.os = w.os
  tape : w'.tape = w.tape
  output : w'.output = w.output
theorem Fr.refl (S : Nat → Prop) (w : World) : Fr S w w := ⟨Nat.le_refl _, fun _ _ _ => rfl, rfl, rfl, rfl⟩
theorem Fr.trans {S : Nat → Prop} {a b c : World} (h : Fr S a b) (k : Fr S b c) : Fr S a c := ⟨by have := h.size; have := k.size; omega, fun j hj hS => (k.blk j (by have := h.size; omega) hS).trans (h.blk j hj hS), k.os.trans h.os, k.tape.trans h.tape, k.output.trans h.output⟩
theorem Fr.mono {S T : Nat → Prop} {a b : World} (h : Fr S a b) (hS : ∀ k, k < a.heap.size → S k → T k) : Fr T a b := ⟨h.size, fun k hk hT => h.blk k hk fun hs => hT (hS k hk hs), h.os, h.tape, h.output⟩
theorem Fr.of_below {S : Nat → Prop} {a b : World} (h : Below a.heap.size a b) : Fr S a b := ⟨h.size, fun k hk _ => h.block k hk, h.os, h.tape, h.output⟩
theorem Fr.drew {S : Nat → Prop} {a b : World} (h : Fr S a b) : Fr S a b.drew := ⟨h.size, h.blk, h.os, h.tape, h.output⟩
theorem Fr.below {S : Nat → Prop} {a b : World} {B : Nat} (h : Fr S a b) (hB : B ≤ a.heap.size) (hS : ∀ k, S k → B ≤ k) : Below B a b := ⟨h.os, h.tape, h.output, h.size, fun k hk => h.blk k (by omega) fun c => by have := hS k c; omega⟩
theorem Fr.of_edit {S : Nat → Prop} {a b : World} {q o len : Nat} (h : Edit a b q o len) (hq : S q) : Fr S a b := ⟨h.size, fun k hk hS => h.block k hk fun e => hS (by rw [e]; exact hq), h.os, h.tape, h.output⟩
theorem Fr.setCell {S : Nat → Prop} {a b : World} (h : Fr S a b) (p o : Nat) (v : Value) (hp : S p) : Fr S a (b.setCell ⟨p, o, none⟩ v) := ⟨by have := h.size; simp [World.setCell]; omega, fun k hk hS => (heap_setCell_other b ⟨p, o, none⟩ k v (fun e => hS (by rw [e]; exact hp))).trans (h.blk k hk hS), h.os, h.tape, h.output⟩
section
variable {w : World} {base p n : Nat} {en : Bool} {lf : Int} {sf : Nat → List UInt8} {ws : Nat → List (List UInt8)} {q : Nat} {vs : Nat → Value}
theorem write_app_fr (h2 : DiskAt w base p n en lf sf ws q vs) (i : Nat) (hi : i < n) (hwn : (ws i).length ≤ 1000000) (d : List UInt8) (hd : d.length = 256) :
    ∃ ao ac g cp w4, w.cell? ⟨q, i * 257 + 256, none⟩ = some (.slice ao (ws i).length ac) ∧ (Builtin.append_ #[101, 101] 101 #[.slice ao (ws i).length ac, .slice (some ⟨w.heap.size, 0, none⟩) 1 1]).run Try.prog (w.drew.alloc (.cells (bvs d).toArray 90)) = .ok (.slice (some ⟨g, 0, none⟩) ((ws i).length + 1) cp) w4 ∧
      w4.cell? ⟨q, i * 257 + 256, none⟩ = some (.slice ao (ws i).length ac) ∧ w4.frozen? ⟨q, i * 257 + 256, none⟩ = false ∧
      DiskAt (w4.setCell ⟨q, i * 257 + 256, none⟩ (.slice (some ⟨g, 0, none⟩) ((ws i).length + 1) cp)) base p n en lf sf (upd ws i (ws i ++ [d])) q (upd vs i (.slice (some ⟨g, 0, none⟩) ((ws i).length + 1) cp)) ∧
      Below base w (w4.setCell ⟨q, i * 257 + 256, none⟩ (.slice (some ⟨g, 0, none⟩) ((ws i).length + 1) cp)) ∧
      Fr (fun k => k = q ∨ (vs i).ownBlock = some k) w (w4.setCell ⟨q, i * 257 + 256, none⟩ (.slice (some ⟨g, 0, none⟩) ((ws i).length + 1) cp)) ∧ ((vs i).ownBlock = some g ∨ g = w.heap.size + 1) := by
  obtain ⟨i0, Z, hi0, hz0, hz1, hz2, hz3⟩ := Try.info90
  have hwo := (h2.wr i hi).1
  have c2 := (h2.row i hi).2.2
  obtain ⟨ao, ac, hvf⟩ := h2.len i hi
  have hb3 : Below w.heap.size w (w.drew.alloc (.cells (bvs d).toArray 90)) := (Below.refl _ _).drew.alloc (Nat.le_refl _) _
  have hz3' : (w.drew.alloc (.cells (bvs d).toArray 90)).heap.size = w.heap.size + 1 := by show (w.heap.push _).size = _; simp
  have hblk : (w.drew.alloc (.cells (bvs d).toArray 90)).heap[w.heap.size]? = some (.cells (bvs d).toArray 90 (0, 0)) := heap_alloc_new w.drew _
  obtain ⟨g, cp, w4, hrun, hown, hgrow, hat, hlt⟩ := run_append_lies (P := Try.prog) (w.drew.alloc (.cells (bvs d).toArray 90)) 101 101 base 90 i0 (.agg Z) 256 256 Try.underlying101 hi0 hz0 hz1 hz2 hz3 (by omega) (vs i) (ws i).length _ (owns_below hwo hb3 (Nat.le_refl _)) ⟨w.heap.size, 0, none⟩ 1 1 (bvs d) (by rw [bvs_length, hd]) (fun j u hj => by rw [addr_add, Nat.zero_add, cell_of_row _ _ j _ _ _ hblk]; simpa using hj) (bvs_one _) (by omega) (by unfold maxLen; omega) (by omega) (by have := h2.qb; have := h2.ql; omega) (w.heap.size + 1) hz3'
  obtain ⟨cA, fA, hD, hB⟩ := h2.appended i hi d hd hb3 hz3' hown hgrow hat
  have hFr : Fr (fun k => k = q ∨ (vs i).ownBlock = some k) w (w4.setCell ⟨q, i * 257 + 256, none⟩ (.slice (some ⟨g, 0, none⟩) ((ws i).length + 1) cp)) := by
    have hsz := hgrow.size
    refine ⟨by simp [World.setCell]; omega, fun k hk hS => ?_, hB.os, hB.tape, hB.output⟩
    rw [heap_setCell_other w4 ⟨q, i * 257 + 256, none⟩ k _ (fun e => hS (.inl e))]
    exact (hgrow.block k (by omega) (fun e => hS (.inr e.symm))).trans (hb3.block k hk)
  rw [hvf] at c2 cA hrun
  exact ⟨ao, ac, g, cp, w4, c2, hrun, cA, fA, hD, hB, hFr, hat⟩
set_option maxHeartbeats 2000000 in
set_option maxRecDepth 100000 in
theorem write_fr (h : DiskAt w base p n en lf sf ws q vs) (hl : 0 ≤ lf ∧ lf ≤ 9223372036854775807) (i : Nat) (hi : i < n) (hwn : (ws i).length ≤ 1000000) (d : List UInt8) (hd : d.length = 256) (bd od dc : Nat) (hs : Src w (some ⟨bd, od, none⟩) d) (hbp : bd ≠ p) (hg : goesB en lf = true) :
    Calls Try.prog 53 #[.pointer (some ⟨p, 0, none⟩), .int .i64 (i : Int), .slice (some ⟨bd, od, none⟩) 256 dc] w fun e w' => e = .returned (.int .i64 0) ∧ (∃ g c, DiskAt w' base p n en (goesL en lf) sf (upd ws i (ws i ++ [d])) q (upd vs i (.slice (some ⟨g, 0, none⟩) ((ws i).length + 1) c)) ∧ ((vs i).ownBlock = some g ∨ w.heap.size ≤ g)) ∧ Below base w w' ∧ Fr (fun k => k = p ∨ k = q ∨ (vs i).ownBlock = some k) w w' := by
  have FIND := find_any h i hi
  have GOES := goes_any h hl
  rw [hg] at GOES
  have harr := arr_at bd od dc
  have hrg : w.rangeAt bd od (bvs d) := fun j v hv => by
    have hj : j < (bvs d).length := (List.getElem?_eq_some_iff.1 hv).1
    rw [bvs_length] at hj
    rw [hs.cell j hj]
    rw [List.getElem?_eq_getElem (by rw [bvs_length]; exact hj)] at hv
    simpa [bvs] using hv
  go_enter Try.func53, Try.ntmps53
  go_wp2_with fail
  refine FIND.mono ?_
  rintro e w1 ⟨rfl, rfl⟩
  clear FIND
  go_wp2_with fail
  refine GOES.mono ?_
  rintro e w2 ⟨rfl, h2, hb2, hz2', hk2⟩
  clear GOES
  have hrg2 : w2.drew.rangeAt bd od (bvs d) := fun j v hv => (World.cell?_of_block (w := w1) (a := ⟨bd, od + j, none⟩) (hk2 bd hbp)).trans (hrg j v hv)
  have L56 := exec_load w2.drew bd od d hd hrg2
  have L56b := exec_load (w2.drew.alloc (.cells (bvs d).toArray 90)) bd od d hd (World.rangeAt_alloc hrg2 _)
  have B57 := build_img d hd w2.drew
  obtain ⟨ao, ac, g, cp, w4, c2, hrun, cA, fA, hD, hB, hFA, hat⟩ := write_app_fr h2 i hi hwn d hd
  have hB' := hb2.trans hB
  have hql := h2.ql
  have HFR : Hid (Fr (fun k => k = p ∨ k = q ∨ (vs i).ownBlock = some k) w1 (w4.setCell ⟨q, i * 257 + 256, none⟩ (.slice (some ⟨g, 0, none⟩) ((ws i).length + 1) cp))) := Fr.trans ⟨by omega, fun k _ hS => hk2 k fun e => hS (.inl e), hb2.os, hb2.tape, hb2.output⟩ (hFA.mono fun k _ h => .inr h)
  have HVO : Hid ((vs i).ownBlock = some g ∨ w1.heap.size ≤ g) := by
    rcases hat with h | h
    · exact .inl h
    · exact .inr (by omega)
  clear hFA hat
  have cB : (w2.drew.alloc (.cells (bvs d).toArray 90)).cell? ⟨q, i * 257 + 256, none⟩ = some (.slice ao (ws i).length ac) := (World.cell?_alloc_lt _ _ _ hql).trans c2
  have L57 := load57 w2.drew q (i * 257 + 256) _ c2
  have L57b := load57 (w2.drew.alloc (.cells (bvs d).toArray 90)) q (i * 257 + 256) _ cB
  clear hrg hrg2 h h2 hk2 hb2 hB hs
  generalize (bvs d).toArray = A at *
  go_wp2_with fail
  refine wp_region_any (by kernel_rfl) ?_
  change wpAny _ _ _ _ _ _ _ (World.drew _)
  refine take_op (i := 0) (dst := some 23) (v := .pointer (some ⟨q, i * 257, none⟩)) rfl rfl (by kernel_rfl) (by kernel_rfl) (by kernel_rfl) (fun _ _ _ h => h) rfl (fun _ => by go_simp) rfl ?_
  refine take_op (i := 1) (dst := some 24) (v := .pointer (some ⟨q, i * 257, none⟩)) rfl rfl (by kernel_rfl) (by kernel_rfl) (by kernel_rfl) (fun _ _ _ h => h) rfl (fun _ => by go_simp) rfl ?_
  refine take_op (i := 2) (dst := some 25) (v := .pointer (some ⟨q, i * 257, none⟩)) rfl rfl (by kernel_rfl) (by kernel_rfl) (by kernel_rfl) (fun _ _ _ h => h) rfl (fun _ => by go_simp) rfl ?_
  refine take_op (i := 3) (dst := some 26) (v := .pointer (some ⟨q, i * 257 + 256, none⟩)) rfl rfl (by kernel_rfl) (by kernel_rfl) (by kernel_rfl) (fun _ _ _ h => h) rfl (fun _ => by go_simp) rfl ?_
  refine take_op (i := 5) (dst := some 28) (v := .slice (some ⟨bd, od, none⟩) 256 dc) rfl rfl (by kernel_rfl) (by kernel_rfl) (by kernel_rfl) (fun _ _ _ h => h) rfl (fun _ => by go_simp) rfl ?_
  refine take_op (i := 6) (dst := some 29) (v := .pointer (some ⟨bd, od, none⟩)) rfl rfl (by kernel_rfl) (by kernel_rfl) (by kernel_rfl) (fun _ _ _ h => h) rfl (fun _ => by go_simp) rfl ?_
  simp only [Act.put, List.setIfInBounds_toArray, List.set_cons_succ, List.set_cons_zero]
  refine wpAny_ready (rs := [4, 7]) (by kernel_rfl) (by simp) ?_
  refine ready_run (v := .slice ao (ws i).length ac) (w' := w2.drew) (dst := some 27) rfl rfl rfl (run_load rfl rfl L57) rfl ?_ (ready_run (v := .agg A) (w' := w2.drew) (dst := some 30) rfl rfl rfl (run_load rfl rfl L56) rfl ?_ AllReady.nil)
  · simp only [Act.put, List.setIfInBounds_toArray, List.set_cons_succ, List.set_cons_zero]
    refine wpAny_ready (rs := [7]) (by kernel_rfl) (by simp) ?_
    refine ready_run (v := .agg A) (w' := w2.drew) (dst := some 30) rfl rfl rfl (run_load rfl rfl L56) rfl ?_ AllReady.nil
    simp only [Act.put, List.setIfInBounds_toArray, List.set_cons_succ, List.set_cons_zero]
    refine wpAny_ready (rs := [8]) (by kernel_rfl) (by simp) ?_
    refine ready_run (v := .slice (some ⟨w2.heap.size, 0, none⟩) 1 1) (w' := w2.drew.alloc (.cells A 90)) (dst := some 31) rfl rfl rfl (run_build rfl rfl B57) rfl ?_ AllReady.nil
    simp only [Act.put, List.setIfInBounds_toArray, List.set_cons_succ, List.set_cons_zero]
    refine wpAny_ready (rs := [9]) (by kernel_rfl) (by simp) ?_
    refine ready_run (v := .slice (some ⟨g, 0, none⟩) ((ws i).length + 1) cp) (w' := w4) (dst := some 32) rfl rfl rfl (run_app rfl rfl rfl rfl hrun) rfl ?_ AllReady.nil
    simp only [Act.put, List.setIfInBounds_toArray, List.set_cons_succ, List.set_cons_zero]
    refine take_op (i := 10) (dst := some 33) (v := .pointer (some ⟨q, i * 257, none⟩)) rfl rfl (by kernel_rfl) (by kernel_rfl) (by kernel_rfl) (fun _ _ _ h => h) rfl (fun _ => by go_simp) rfl ?_
    refine take_op (i := 11) (dst := some 34) (v := .pointer (some ⟨q, i * 257 + 256, none⟩)) rfl rfl (by kernel_rfl) (by kernel_rfl) (by kernel_rfl) (fun _ _ _ h => h) rfl (fun _ => by go_simp) rfl ?_
    simp only [Act.put, List.setIfInBounds_toArray, List.set_cons_succ, List.set_cons_zero]
    refine wpAny_ready (rs := [12]) (by kernel_rfl) (by simp) ?_
    refine AllReady.cons (o := { dst := none, op := Op.store 101 (Operand.tmp 34) (Operand.tmp 32), type := 0, pos := "disk.go:114", after := #[{ on := 11, ground := Ground.data }, { on := 9, ground := Ground.data }, { on := 9, ground := Ground.chain }, { on := 0, ground := Ground.phase }, { on := 1, ground := Ground.phase }, { on := 2, ground := Ground.phase }, { on := 3, ground := Ground.phase }, { on := 4, ground := Ground.phase }, { on := 5, ground := Ground.phase }, { on := 6, ground := Ground.phase }, { on := 7, ground := Ground.phase }, { on := 8, ground := Ground.phase }, { on := 9, ground := Ground.phase }], guard := none }) rfl (fun K hK => ?_) AllReady.nil
    go_simp
    refine hK _ _ ?_
    clear hK K
    refine wpAny_done (by kernel_rfl) ?_ _
    go_wp2
    go_ret
    exact ⟨rfl, ⟨g, cp, hD, HVO.out⟩, hB', HFR.out⟩
  · simp only [Act.put, List.setIfInBounds_toArray, List.set_cons_succ, List.set_cons_zero]
    refine wpAny_ready (rs := [4, 8]) (by kernel_rfl) (by simp) ?_
    refine ready_run (v := .slice ao (ws i).length ac) (w' := w2.drew) (dst := some 27) rfl rfl rfl (run_load rfl rfl L57) rfl ?_ (ready_run (v := .slice (some ⟨w2.heap.size, 0, none⟩) 1 1) (w' := w2.drew.alloc (.cells A 90)) (dst := some 31) rfl rfl rfl (run_build rfl rfl B57) rfl ?_ AllReady.nil)
    · simp only [Act.put, List.setIfInBounds_toArray, List.set_cons_succ, List.set_cons_zero]
      refine wpAny_ready (rs := [8]) (by kernel_rfl) (by simp) ?_
      refine ready_run (v := .slice (some ⟨w2.heap.size, 0, none⟩) 1 1) (w' := w2.drew.alloc (.cells A 90)) (dst := some 31) rfl rfl rfl (run_build rfl rfl B57) rfl ?_ AllReady.nil
      simp only [Act.put, List.setIfInBounds_toArray, List.set_cons_succ, List.set_cons_zero]
      refine wpAny_ready (rs := [9]) (by kernel_rfl) (by simp) ?_
      refine ready_run (v := .slice (some ⟨g, 0, none⟩) ((ws i).length + 1) cp) (w' := w4) (dst := some 32) rfl rfl rfl (run_app rfl rfl rfl rfl hrun) rfl ?_ AllReady.nil
      simp only [Act.put, List.setIfInBounds_toArray, List.set_cons_succ, List.set_cons_zero]
      refine take_op (i := 10) (dst := some 33) (v := .pointer (some ⟨q, i * 257, none⟩)) rfl rfl (by kernel_rfl) (by kernel_rfl) (by kernel_rfl) (fun _ _ _ h => h) rfl (fun _ => by go_simp) rfl ?_
      refine take_op (i := 11) (dst := some 34) (v := .pointer (some ⟨q, i * 257 + 256, none⟩)) rfl rfl (by kernel_rfl) (by kernel_rfl) (by kernel_rfl) (fun _ _ _ h => h) rfl (fun _ => by go_simp) rfl ?_
      simp only [Act.put, List.setIfInBounds_toArray, List.set_cons_succ, List.set_cons_zero]
      refine wpAny_ready (rs := [12]) (by kernel_rfl) (by simp) ?_
      refine AllReady.cons (o := { dst := none, op := Op.store 101 (Operand.tmp 34) (Operand.tmp 32), type := 0, pos := "disk.go:114", after := #[{ on := 11, ground := Ground.data }, { on := 9, ground := Ground.data }, { on := 9, ground := Ground.chain }, { on := 0, ground := Ground.phase }, { on := 1, ground := Ground.phase }, { on := 2, ground := Ground.phase }, { on := 3, ground := Ground.phase }, { on := 4, ground := Ground.phase }, { on := 5, ground := Ground.phase }, { on := 6, ground := Ground.phase }, { on := 7, ground := Ground.phase }, { on := 8, ground := Ground.phase }, { on := 9, ground := Ground.phase }], guard := none }) rfl (fun K hK => ?_) AllReady.nil
      go_simp
      refine hK _ _ ?_
      clear hK K
      refine wpAny_done (by kernel_rfl) ?_ _
      go_wp2
      go_ret
      exact ⟨rfl, ⟨g, cp, hD, HVO.out⟩, hB', HFR.out⟩
    · simp only [Act.put, List.setIfInBounds_toArray, List.set_cons_succ, List.set_cons_zero]
      refine wpAny_ready (rs := [4]) (by kernel_rfl) (by simp) ?_
      refine ready_run (v := .slice ao (ws i).length ac) (w' := w2.drew.alloc (.cells A 90)) (dst := some 27) rfl rfl rfl (run_load rfl rfl L57b) rfl ?_ AllReady.nil
      simp only [Act.put, List.setIfInBounds_toArray, List.set_cons_succ, List.set_cons_zero]
      refine wpAny_ready (rs := [9]) (by kernel_rfl) (by simp) ?_
      refine ready_run (v := .slice (some ⟨g, 0, none⟩) ((ws i).length + 1) cp) (w' := w4) (dst := some 32) rfl rfl rfl (run_app rfl rfl rfl rfl hrun) rfl ?_ AllReady.nil
      simp only [Act.put, List.setIfInBounds_toArray, List.set_cons_succ, List.set_cons_zero]
      refine take_op (i := 10) (dst := some 33) (v := .pointer (some ⟨q, i * 257, none⟩)) rfl rfl (by kernel_rfl) (by kernel_rfl) (by kernel_rfl) (fun _ _ _ h => h) rfl (fun _ => by go_simp) rfl ?_
      refine take_op (i := 11) (dst := some 34) (v := .pointer (some ⟨q, i * 257 + 256, none⟩)) rfl rfl (by kernel_rfl) (by kernel_rfl) (by kernel_rfl) (fun _ _ _ h => h) rfl (fun _ => by go_simp) rfl ?_
      simp only [Act.put, List.setIfInBounds_toArray, List.set_cons_succ, List.set_cons_zero]
      refine wpAny_ready (rs := [12]) (by kernel_rfl) (by simp) ?_
      refine AllReady.cons (o := { dst := none, op := Op.store 101 (Operand.tmp 34) (Operand.tmp 32), type := 0, pos := "disk.go:114", after := #[{ on := 11, ground := Ground.data }, { on := 9, ground := Ground.data }, { on := 9, ground := Ground.chain }, { on := 0, ground := Ground.phase }, { on := 1, ground := Ground.phase }, { on := 2, ground := Ground.phase }, { on := 3, ground := Ground.phase }, { on := 4, ground := Ground.phase }, { on := 5, ground := Ground.phase }, { on := 6, ground := Ground.phase }, { on := 7, ground := Ground.phase }, { on := 8, ground := Ground.phase }, { on := 9, ground := Ground.phase }], guard := none }) rfl (fun K hK => ?_) AllReady.nil
      go_simp
      refine hK _ _ ?_
      clear hK K
      refine wpAny_done (by kernel_rfl) ?_ _
      go_wp2
      go_ret
      exact ⟨rfl, ⟨g, cp, hD, HVO.out⟩, hB', HFR.out⟩
theorem fr_cell {S : Nat → Prop} {w' : World} (h : Fr S w w') {a : Addr} (ha : a.block < w.heap.size) (hS : ¬ S a.block) : w'.cell? a = w.cell? a := World.cell?_of_block (w := w) (h.blk _ ha hS)
theorem fr_frozen {S : Nat → Prop} {w' : World} (h : Fr S w w') {a : Addr} (ha : a.block < w.heap.size) (hS : ¬ S a.block) : w'.frozen? a = w.frozen? a := World.frozen?_of_block (w := w) (h.blk _ ha hS)
/-- The blocks of a disk. -/
def Dk (p q n : Nat) (vs : Nat → Value) : Nat → Prop := fun k => k = p ∨ k = q ∨ ∃ i, i < n ∧ (vs i).ownBlock = some k
/-- A disk is as it was where none of its blocks changes. -/
theorem DiskAt.fr (h : DiskAt w base p n en lf sf ws q vs) {S : Nat → Prop} {w' : World} (hf : Fr S w w') (hS : ∀ k, Dk p q n vs k → ¬ S k) : DiskAt w' base p n en lf sf ws q vs := by
  have hp := h.pl
  have hq := h.ql
  have sp := hS p (.inl rfl)
  have sq := hS q (.inr (.inl rfl))
  have hs := hf.size
  exact {
    pb := h.pb, qb := h.qb, pq := h.pq, nn := h.nn,
    c0 := h.c0.imp fun _ hc => ⟨hc.1, hc.2.1, (fr_cell hf (a := ⟨p, 0, none⟩) hp sp).trans hc.2.2⟩,
    c1 := (fr_cell hf (a := ⟨p, 1, none⟩) hp sp).trans h.c1,
    c2 := (fr_cell hf (a := ⟨p, 2, none⟩) hp sp).trans h.c2,
    fp := fun o => (fr_frozen hf (a := ⟨p, o, none⟩) hp sp).trans (h.fp o),
    fq := fun o => (fr_frozen hf (a := ⟨q, o, none⟩) hq sq).trans (h.fq o),
    ql := by omega,
    row := fun i hi => by
      obtain ⟨h1, h2, h3⟩ := h.row i hi
      exact ⟨fun j v hv => (fr_cell hf (a := ⟨q, i * 257 + j, none⟩) hq sq).trans (h1 j v hv), h2, (fr_cell hf (a := ⟨q, i * 257 + 256, none⟩) hq sq).trans h3⟩,
    wr := fun i hi => by
      obtain ⟨h1, h2, h3, h4⟩ := h.wr i hi
      refine ⟨?_, h2, h3, h4⟩
      obtain ⟨g1, g2⟩ := h1
      refine ⟨g1, ?_⟩
      rcases g2 with g2 | ⟨g, cap, cur, hv, hg, hh, rest⟩
      · exact .inl g2
      · have hlt : g < w.heap.size := (Array.getElem?_eq_some_iff.1 hh).1
        exact .inr ⟨g, cap, cur, hv, hg, by rw [hf.blk g hlt (hS g (.inr (.inr ⟨i, hi, by rw [hv]; rfl⟩)))]; exact hh, rest⟩,
    ap := h.ap }
end
end Go.Proofs.Ytikpnfnbmbaljaa
