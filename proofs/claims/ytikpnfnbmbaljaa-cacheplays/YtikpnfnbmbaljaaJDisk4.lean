/- A disk in memory: what its cells hold, and what of it stands behind writes elsewhere. -/
import Derived.Test.YtikpnfnbmbaljaaKLentG
import Derived.Deep.MidRow
import Derived.Deep.WholeRow
namespace Go.Proofs.Ytikpnfnbmbaljaa
open Go.RowKit
set_option maxRecDepth 100000
/-- The disk at block p, of n blocks: its row of blocks at q; of block i the safe bytes sf i, the slice of its writes vs i, the writes ws i. -/
structure DiskAt (w : World) (base p n : Nat) (en : Bool) (lf : Int) (sf : Nat → List UInt8) (ws : Nat → List (List UInt8)) (q : Nat) (vs : Nat → Value) : Prop where
  pb : base ≤ p
  qb : base ≤ q
  pq : p ≠ q
  nn : n ≤ 4096
  c0 : ∃ c : Nat, n ≤ c ∧ (c : Int) ≤ 9223372036854775807 ∧ w.cell? ⟨p, 0, none⟩ = some (.slice (some ⟨q, 0, none⟩) n c)
  c1 : w.cell? ⟨p, 1, none⟩ = some (.bool en)
  c2 : w.cell? ⟨p, 2, none⟩ = some (.int .i64 lf)
  fp : ∀ o, w.frozen? ⟨p, o, none⟩ = false
  fq : ∀ o, w.frozen? ⟨q, o, none⟩ = false
  ql : q < w.heap.size
  row : ∀ i, i < n → w.rangeAt q (i * 257) (bvs (sf i)) ∧ (sf i).length = 256 ∧ w.cell? ⟨q, i * 257 + 256, none⟩ = some (vs i)
  wr : ∀ i, i < n → w.ownsRow base 90 256 (vs i) (ws i).length ((ws i).flatMap bvs) ∧ (∀ x ∈ ws i, x.length = 256) ∧ (vs i).ownBlock ≠ some p ∧ (vs i).ownBlock ≠ some q
  ap : ∀ i j, i < n → j < n → i ≠ j → (vs i).ownBlock = none ∨ (vs i).ownBlock ≠ (vs j).ownBlock
theorem owns_below {w w' : World} {base B e size : Nat} {v : Value} {n : Nat} {xs : List Value} (h : w.ownsRow base e size v n xs) (hb : Below B w w') (hB : w.heap.size ≤ B) : w'.ownsRow base e size v n xs := by
  obtain ⟨h1, h2⟩ := h
  refine ⟨h1, ?_⟩
  rcases h2 with h2 | ⟨g, cap, cur, hv, hg, hh, r⟩
  · exact .inl h2
  · have hlt : g < w.heap.size := (Array.getElem?_eq_some_iff.1 hh).1
    exact .inr ⟨g, cap, cur, hv, hg, by rw [hb.block g (by omega)]; exact hh, r⟩
theorem range_below {w w' : World} {b o : Nat} {cs : List Value} (h : w.rangeAt b o cs) {B : Nat} (hb : Below B w w') (hB : b < B) : w'.rangeAt b o cs := fun j v hv => (hb.cell (p := ⟨b, o + j, none⟩) hB).trans (h j v hv)
theorem DiskAt.pl {w : World} {base p n : Nat} {en : Bool} {lf : Int} {sf : Nat → List UInt8} {ws : Nat → List (List UInt8)} {q : Nat} {vs : Nat → Value} (h : DiskAt w base p n en lf sf ws q vs) : p < w.heap.size := h.c0.elim fun _ hc => block_lt_of_cell hc.2.2
theorem DiskAt.below {w w' : World} {base p n : Nat} {en : Bool} {lf : Int} {sf : Nat → List UInt8} {ws : Nat → List (List UInt8)} {q : Nat} {vs : Nat → Value} (h : DiskAt w base p n en lf sf ws q vs) {B : Nat} (hb : Below B w w') (hB : w.heap.size ≤ B) : DiskAt w' base p n en lf sf ws q vs := by
  have hp := h.pl
  have hq := h.ql
  exact {
    pb := h.pb, qb := h.qb, pq := h.pq, nn := h.nn,
    c0 := h.c0.imp fun _ hc => ⟨hc.1, hc.2.1, (hb.cell (p := ⟨p, 0, none⟩) (show p < B by omega)).trans hc.2.2⟩,
    c1 := (hb.cell (p := ⟨p, 1, none⟩) (show p < B by omega)).trans h.c1,
    c2 := (hb.cell (p := ⟨p, 2, none⟩) (show p < B by omega)).trans h.c2,
    fp := fun o => (hb.frozen (p := ⟨p, o, none⟩) (show p < B by omega)).trans (h.fp o),
    fq := fun o => (hb.frozen (p := ⟨q, o, none⟩) (show q < B by omega)).trans (h.fq o),
    ql := by have := hb.size; omega,
    row := fun i hi => ⟨range_below (h.row i hi).1 hb (by omega), (h.row i hi).2.1, (hb.cell (p := ⟨q, i * 257 + 256, none⟩) (show q < B by omega)).trans (h.row i hi).2.2⟩,
    wr := fun i hi => ⟨owns_below (h.wr i hi).1 hb hB, (h.wr i hi).2⟩,
    ap := h.ap }
section
variable {w : World} {base p n : Nat} {en : Bool} {lf : Int} {sf : Nat → List UInt8} {ws : Nat → List (List UInt8)} {q : Nat} {vs : Nat → Value}
set_option maxHeartbeats 1000000 in
theorem find_any (h : DiskAt w base p n en lf sf ws q vs) (b : Nat) (hb : b < n) :
    Calls Try.prog 54 #[.pointer (some ⟨p, 0, none⟩), .int .i64 (b : Int)] w fun e w' => e = .returned (.tuple #[.pointer (some ⟨q, b * 257, none⟩), .int .i64 0]) ∧ w' = w := by
  have hn := h.nn
  obtain ⟨cq, hcq1, hcq2, c0⟩ := h.c0
  have hb' : (b : Int) < n := by omega
  have hn' : (n : Int) ≤ 4096 := by omega
  clear h
  go_enter Try.func54, Try.ntmps54
  go_wp2
  go_ret2
  exact ⟨rfl, rfl⟩
set_option maxHeartbeats 1000000 in
theorem len_any (h : DiskAt w base p n en lf sf ws q vs) :
    Calls Try.prog 67 #[.pointer (some ⟨p, 0, none⟩)] w fun e w' => e = .returned (.int .i64 (n : Int)) ∧ w' = w := by
  obtain ⟨cq, hcq1, hcq2, c0⟩ := h.c0
  clear h
  go_enter Try.func67, Try.ntmps67
  go_wp2
  go_ret
  exact ⟨rfl, rfl⟩
theorem DiskAt.len (h : DiskAt w base p n en lf sf ws q vs) (b : Nat) (hb : b < n) : ∃ ao cap, vs b = .slice ao (ws b).length cap := by
  obtain ⟨_, h2⟩ := (h.wr b hb).1
  rcases h2 with ⟨h2, h3⟩ | ⟨g, cap, _, hv, _⟩
  · exact ⟨none, 0, by rw [h2, h3]⟩
  · exact ⟨_, cap, hv⟩
set_option maxHeartbeats 1000000 in
theorem writes_any (h : DiskAt w base p n en lf sf ws q vs) (b : Nat) (hb : b < n) :
    Calls Try.prog 47 #[.pointer (some ⟨p, 0, none⟩), .int .i64 (b : Int)] w fun e w' => e = .returned (.int .i64 ((ws b).length : Int)) ∧ w' = w := by
  obtain ⟨ao, cap, hv⟩ := h.len b hb
  have cw := (h.row b hb).2.2
  rw [hv] at cw
  have FIND := find_any h b hb
  clear h hv
  go_enter Try.func47, Try.ntmps47
  go_wp2_with fail
  refine FIND.mono ?_
  rintro e w1 ⟨rfl, rfl⟩
  clear FIND
  go_wp2
  go_ret
  exact ⟨rfl, rfl⟩
set_option maxHeartbeats 1000000 in
theorem stopped_any (h : DiskAt w base p n en lf sf ws q vs) :
    Calls Try.prog 89 #[.pointer (some ⟨p, 0, none⟩)] w fun e w' => e = .returned (.bool (en && (lf == 0))) ∧ w' = w := by
  have c1 := h.c1
  have c2 := h.c2
  clear h
  cases en with
  | false =>
    go_enter Try.func89, Try.ntmps89
    go_wp2
    go_ret
    exact ⟨rfl, rfl⟩
  | true =>
    go_enter Try.func89, Try.ntmps89
    go_wp2
    go_ret
    exact ⟨rfl, rfl⟩
end
end Go.Proofs.Ytikpnfnbmbaljaa
/- block.last, Disk.goes, block.settle. -/
namespace Go.Proofs.Ytikpnfnbmbaljaa
open Go.RowKit
set_option maxRecDepth 100000
theorem Try.zero90 : ∃ Z : Array Value, (∀ w, (zeroValue 90).run Try.prog w = .ok (.agg Z) w) ∧ Z.size = 256 ∧ (Try.prog.info? 90).map (·.size) = some 256 ∧ Hid (Z = (bvs (List.replicate 256 0)).toArray) := by
  have h : (Try.prog.info? 90).map (fun i => (i.zero, i.size)) = some (some (.agg (bvs (List.replicate 256 0)).toArray), 256) := by kernel_rfl
  obtain ⟨h1, h2⟩ := zero_of_info h
  exact ⟨_, h1, by rw [List.size_toArray, bvs_length, List.length_replicate], h2, rfl⟩
/-- What block i reads as. -/
def lastOf (sf : List UInt8) : List (List UInt8) → List UInt8
  | [] => sf
  | x :: r => (x :: r).getLast (by simp)
/-- The store of a whole array into a block that is known whole. -/
theorem wpList_store_blk {ops : Array Oper} {rest : List Oper} {op : Oper} {a : Act} {w : World} {Q : Exit → Act → World → Prop} (hgd : op.guard = none) (x y : Operand) (ho : op.op = .store 90 x y)
    (g : Nat) (cur : Array Value) (s : List UInt8) (hx : a.eval x = .pointer (some ⟨g, 0, none⟩)) (hy : a.eval y = .agg (bvs s).toArray)
    (hg : w.heap[g]? = some (.cells cur 90 (0, 0))) (hc : cur.size = 256) (hs : s.length = 256) (B : Nat) (w0 : World) (hb : Below B w0 w) (hB : B ≤ g)
    (h : ∀ w', Blk w' g 90 s → Below B w0 w' → Below g w w' → w'.heap.size = w.heap.size → wpList Try.prog ops Q rest (a.put op.dst undef) w') : wpList Try.prog ops Q (op :: rest) a w := by
  obtain ⟨Z, _, _, hinfo, _⟩ := Try.zero90
  refine wpList_plain hgd fun K hK => ?_
  have hsz : (bvs s).toArray.size = 256 := by rw [List.size_toArray, bvs_length, hs]
  have hrun := run_storeVar_row (P := Try.prog) w g 90 90 cur (bvs s).toArray hg (by rw [hinfo, hsz]) (by rw [hc, hsz]) (all_oneCell_toArray (bvs_one _))
  unfold Oper.wp execOp
  simp only [ho, hx, hy, Instr.storeAt, Instr.sureAddr, Sem.run_bind, Sem.run_pure, Result.andThen_ok, hrun]
  exact hK _ _ (h _ (setRow_heap w g _ _ 90 _ hg) (below_setRow hb hB _) (below_setRow (Below.refl _ _) (Nat.le_refl _) _) (by simp))
/-- The load of a whole array out of the middle of a block. -/
theorem wpList_load_img {ops : Array Oper} {rest : List Oper} {op : Oper} {a : Act} {w : World} {Q : Exit → Act → World → Prop} (hgd : op.guard = none) (x : Operand) (ho : op.op = .load 90 x)
    (b o : Nat) (hx : a.eval x = .pointer (some ⟨b, o, none⟩)) (s : List UInt8) (hc : w.rangeAt b o (bvs s)) (hs : s.length = 256)
    (h : wpList Try.prog ops Q rest (a.put op.dst (.agg (bvs s).toArray)) w) : wpList Try.prog ops Q (op :: rest) a w := by
  obtain ⟨Z, _, _, hinfo, _⟩ := Try.zero90
  exact wpList_load_mid hgd 90 x ho b o hx _ _ hc Try.underlying90 rfl (by rw [hinfo, bvs_length, hs]) h
theorem lastOf_length {sf : List UInt8} {ws : List (List UInt8)} (h1 : sf.length = 256) (h2 : ∀ x ∈ ws, x.length = 256) : (lastOf sf ws).length = 256 := by
  cases ws with
  | nil => exact h1
  | cons x r => exact h2 _ (List.getLast_mem _)
theorem flat_at : ∀ (ws : List (List UInt8)) (j : Nat) (h : j < ws.length), (∀ x ∈ ws, x.length = 256) → ((ws.flatMap bvs).drop (j * 256)).take 256 = bvs ws[j]
  | x :: r, 0, _, hl => by
    have := hl x (by simp)
    simp [List.flatMap_cons, bvs_length, this]
  | x :: r, j + 1, h, hl => by
    have hx := hl x (by simp)
    rw [List.flatMap_cons, Nat.add_mul, Nat.one_mul, Nat.add_comm, List.drop_append, List.drop_eq_nil_of_le (by rw [bvs_length]; omega), List.nil_append, bvs_length, hx, Nat.add_sub_cancel_left]
    exact flat_at r j (by simpa using h) (fun y hy => hl y (by simp [hy]))
theorem range_take {w : World} {b o : Nat} {cs : List Value} (h : w.rangeAt b o cs) (k n : Nat) : w.rangeAt b (o + k) ((cs.drop k).take n) := fun j v hv => by
  have hj : j < ((cs.drop k).take n).length := (List.getElem?_eq_some_iff.1 hv).1
  rw [List.getElem?_take] at hv
  split at hv
  · rw [List.getElem?_drop] at hv
    rw [Nat.add_assoc]; exact h (k + j) v hv
  · cases hv
/-- Where write j of a block lies. -/
theorem write_at {w : World} {base : Nat} {v : Value} {ws : List (List UInt8)} (h : w.ownsRow base 90 256 v ws.length (ws.flatMap bvs)) (hl : ∀ x ∈ ws, x.length = 256) (h0 : 0 < ws.length) :
    ∃ g cap, v = .slice (some ⟨g, 0, none⟩) ws.length cap ∧ base ≤ g ∧ g < w.heap.size ∧ ws.length ≤ cap ∧ cap ≤ maxLen ∧ ∀ j, (hj : j < ws.length) → w.rangeAt g (j * 256) (bvs ws[j]) := by
  have h' := h
  obtain ⟨h1, h2⟩ := h
  rcases h2 with ⟨_, h3⟩ | ⟨g, cap, cur, rfl, hg, hh, hn, hm, hs, hx⟩
  · omega
  · refine ⟨g, cap, rfl, hg, (Array.getElem?_eq_some_iff.1 hh).1, hn, hm, fun j hj => ?_⟩
    rw [← flat_at ws j hj hl]
    have hr : w.rangeAt g 0 (ws.flatMap bvs) := fun k u hu => by
      have hk : k < (ws.flatMap bvs).length := (List.getElem?_eq_some_iff.1 hu).1
      rw [Nat.zero_add, World.ownsRow.cellAt h' k (by omega)]; exact hu
    have := range_take hr (j * 256) 256
    rwa [Nat.zero_add] at this
set_option maxHeartbeats 1000000 in
set_option maxRecDepth 100000 in
theorem last_raw0 (w : World) (q o cap : Nat) (ao : Option Addr) (sf : List UInt8) (hr : w.rangeAt q o (bvs sf)) (hlen : sf.length = 256) (cw : w.cell? ⟨q, o + 256, none⟩ = some (.slice ao 0 cap)) (hq : q < w.heap.size) :
    Calls Try.prog 55 #[.pointer (some ⟨q, o, none⟩)] w fun e w' => e = .returned (.agg (bvs sf).toArray) ∧ Below w.heap.size w w' := by
  obtain ⟨Z, hz, hzs, hinfo, HZ⟩ := Try.zero90
  clear HZ
  have hb0 : Below w.heap.size w (w.alloc (.cells Z 90)) := (Below.refl _ _).alloc (Nat.le_refl _) _
  have HR := World.rangeAt_alloc hr (.cells Z 90)
  clear hr
  go_enter Try.func55, Try.ntmps55
  go_wp2_with (first | ((with_reducible show wpList _ _ _ ({ dst := _, op := Op.load 90 _, type := _, pos := _, after := _, guard := _ } :: _) _ _); refine wpList_load_img rfl (.tmp 21) rfl q o rfl sf HR hlen ?_) | ((with_reducible show wpList _ _ _ ({ dst := _, op := Op.store 90 _ _, type := _, pos := _, after := _, guard := _ } :: _) _ _); refine wpList_store_blk rfl (.tmp 2) (.tmp 22) rfl w.heap.size Z sf rfl rfl (heap_alloc_new _ _) hzs hlen w.heap.size w hb0 (Nat.le_refl _) ?_; intro w1 hg1 hb1 hx1 hy1; clear hx1 hy1))
  exact bodyPost_ret (v := .agg (bvs sf).toArray) (results_cell_row rfl _ _ w.heap.size 90 _ _ _ rfl hg1 Try.underlying90 rfl (by rw [hinfo, List.size_toArray, bvs_length, hlen])) rfl ⟨rfl, hb1⟩
set_option maxHeartbeats 1000000 in
set_option maxRecDepth 100000 in
theorem last_rawS (w : World) (q o g m cap : Nat) (y : List UInt8) (hr : w.rangeAt g (m * 256) (bvs y)) (hll : y.length = 256) (cw : w.cell? ⟨q, o + 256, none⟩ = some (.slice (some ⟨g, 0, none⟩) (m + 1) cap)) (hq : q < w.heap.size) (hln : (m : Int) + 1 ≤ 9223372036854775807) :
    Calls Try.prog 55 #[.pointer (some ⟨q, o, none⟩)] w fun e w' => e = .returned (.agg (bvs y).toArray) ∧ Below w.heap.size w w' := by
  obtain ⟨Z, hz, hzs, hinfo, HZ⟩ := Try.zero90
  clear HZ
  have hb0 : Below w.heap.size w (w.alloc (.cells Z 90)) := (Below.refl _ _).alloc (Nat.le_refl _) _
  have HR := World.rangeAt_alloc hr (.cells Z 90)
  clear hr
  go_enter Try.func55, Try.ntmps55
  go_wp2_with (first | ((with_reducible show wpList _ _ _ ({ dst := _, op := Op.load 90 _, type := _, pos := _, after := _, guard := _ } :: _) _ _); refine wpList_load_img rfl (.tmp 17) rfl g (m * 256) rfl y HR hll ?_) | ((with_reducible show wpList _ _ _ ({ dst := _, op := Op.store 90 _ _, type := _, pos := _, after := _, guard := _ } :: _) _ _); refine wpList_store_blk rfl (.tmp 2) (.tmp 18) rfl w.heap.size Z y rfl rfl (heap_alloc_new _ _) hzs hll w.heap.size w hb0 (Nat.le_refl _) ?_; intro w1 hg1 hb1 hx1 hy1; clear hx1 hy1))
  exact bodyPost_ret (v := .agg (bvs y).toArray) (results_cell_row rfl _ _ w.heap.size 90 _ _ _ rfl hg1 Try.underlying90 rfl (by rw [hinfo, List.size_toArray, bvs_length, hll])) rfl ⟨rfl, hb1⟩
theorem lastOf_snoc (sf : List UInt8) (ws : List (List UInt8)) (j : Nat) (h : j < ws.length) : lastOf sf (ws.take (j + 1)) = ws[j] := by
  have hne : ws.take (j + 1) ≠ [] := by intro e; have := congrArg List.length e; rw [List.length_take, List.length_nil] at this; omega
  cases hw : ws.take (j + 1) with
  | nil => exact absurd hw hne
  | cons x r =>
    show (x :: r).getLast _ = _
    have e1 : (x :: r).length = j + 1 := by rw [← hw]; simp; omega
    have e2 : (x :: r).getLast (by simp) = (x :: r)[j]'(by omega) := by rw [List.getLast_eq_getElem]; congr 1; omega
    rw [e2]
    have e3 : (ws.take (j + 1))[j]'(by simp; omega) = ws[j] := by simp
    rw [← e3]; congr 1; exact hw.symm
/-- A change of some cells of block q alone; new blocks may be there. -/
structure Edit (w w' : World) (q o len : Nat) : Prop where
  os : w'.os = w.os
  tape : w'.tape = w.tape
  output : w'.output = w.output
  size : w.heap.size ≤ w'.heap.size
  block : ∀ k, k < w.heap.size → k ≠ q → w'.heap[k]? = w.heap[k]?
  cell : ∀ o', (o' < o ∨ o + len ≤ o') → w'.cell? ⟨q, o', none⟩ = w.cell? ⟨q, o', none⟩
  frozen : ∀ o', w'.frozen? ⟨q, o', none⟩ = w.frozen? ⟨q, o', none⟩
theorem Edit.trans {a b c : World} {q o len : Nat} (h : Edit a b q o len) (k : Edit b c q o len) : Edit a c q o len :=
  ⟨k.os.trans h.os, k.tape.trans h.tape, k.output.trans h.output, Nat.le_trans h.size k.size, fun i hi hq => (k.block i (Nat.lt_of_lt_of_le hi h.size) hq).trans (h.block i hi hq), fun o' ho => (k.cell o' ho).trans (h.cell o' ho), fun o' => (k.frozen o').trans (h.frozen o')⟩
theorem Edit.below {a b : World} {q o len : Nat} (h : Edit a b q o len) {B : Nat} (hB : B ≤ q) (hs : B ≤ a.heap.size) : Below B a b :=
  ⟨h.os, h.tape, h.output, h.size, fun k hk => h.block k (by omega) (by omega)⟩
theorem edit_below {a b : World} {q : Nat} (o len : Nat) (h : Below a.heap.size a b) (hq : q < a.heap.size) : Edit a b q o len :=
  ⟨h.os, h.tape, h.output, h.size, fun k hk _ => h.block k hk, fun o' _ => h.cell (p := ⟨q, o', none⟩) hq, fun o' => h.frozen (p := ⟨q, o', none⟩) hq⟩
theorem edit_setCell (w : World) (q o len x : Nat) (u : Value) (h1 : o ≤ x) (h2 : x < o + len) : Edit w (w.setCell ⟨q, x, none⟩ u) q o len :=
  ⟨rfl, rfl, rfl, by simp [World.setCell], fun k _ hk => heap_setCell_other w ⟨q, x, none⟩ k u hk, fun o' ho => World.cell?_setCell_other _ _ _ _ (by intro e; cases e; omega), fun o' => by simp⟩
theorem heap_setCells (b : Nat) : ∀ (vs : List Value) (o : Nat) (w : World), (w.setCells b o vs).heap.size = w.heap.size ∧ (w.setCells b o vs).os = w.os ∧ (w.setCells b o vs).tape = w.tape ∧ (w.setCells b o vs).output = w.output ∧ ∀ k, k ≠ b → (w.setCells b o vs).heap[k]? = w.heap[k]?
  | [], _, _ => ⟨rfl, rfl, rfl, rfl, fun _ _ => rfl⟩
  | v :: r, o, w => by
    rw [World.setCells]
    obtain ⟨h1, h2, h3, h4, h5⟩ := heap_setCells b r (o + 1) (w.setCell ⟨b, o, none⟩ v)
    exact ⟨h1.trans (by simp [World.setCell]), h2, h3, h4, fun k hk => (h5 k hk).trans (heap_setCell_other w ⟨b, o, none⟩ k v hk)⟩
theorem edit_setCells (w : World) (q o : Nat) (vs : List Value) : Edit w (w.setCells q o vs) q o vs.length := by
  obtain ⟨h1, h2, h3, h4, h5⟩ := heap_setCells q vs o w
  exact ⟨h2, h3, h4, by omega, fun k _ hk => h5 k hk, fun o' ho => World.cell?_setCells_out q vs o w ⟨q, o', none⟩ (fun _ _ => ho), fun o' => World.frozen?_setCells q vs o w ⟨q, o', none⟩⟩
theorem Edit.wide {a b : World} {q o len : Nat} (h : Edit a b q o len) {o2 len2 : Nat} (h1 : o2 ≤ o) (h2 : o + len ≤ o2 + len2) : Edit a b q o2 len2 :=
  ⟨h.os, h.tape, h.output, h.size, h.block, fun o' ho => h.cell o' (by omega), h.frozen⟩
/-- The store of a whole array into the middle of a block. -/
theorem wpList_store_img {ops : Array Oper} {rest : List Oper} {op : Oper} {a : Act} {w : World} {Q : Exit → Act → World → Prop} (hgd : op.guard = none) (x y : Operand) (ho : op.op = .store 90 x y)
    (q o : Nat) (s s0 : List UInt8) (hx : a.eval x = .pointer (some ⟨q, o, none⟩)) (hy : a.eval y = .agg (bvs s).toArray)
    (hr : w.rangeAt q o (bvs s0)) (hs0 : s0.length = 256) (hf : ∀ k, w.frozen? ⟨q, k, none⟩ = false) (hs : s.length = 256)
    (h : ∀ w', w'.rangeAt q o (bvs s) → Edit w w' q o 256 → wpList Try.prog ops Q rest (a.put op.dst undef) w') : wpList Try.prog ops Q (op :: rest) a w := by
  obtain ⟨Z, _, _, hinfo, _⟩ := Try.zero90
  have ht : w.there q o (bvs s).length := fun j hj => by
    rw [bvs_length, hs] at hj
    exact ⟨hr.isSome j (by rw [bvs_length, hs0]; exact hj), hf _⟩
  have hed := edit_setCells w q o (bvs s)
  rw [bvs_length, hs] at hed
  refine wpList_store_mid hgd 90 x y ho q o (bvs s).toArray hx hy (by rw [List.size_toArray]; exact ht) (by rw [hinfo, List.size_toArray, bvs_length, hs]) (all_oneCell_toArray (bvs_one _)) ?_
  exact h _ (World.rangeAt_setCells_same w q o (bvs s) ht) hed
def upd {α : Type} (f : Nat → α) (i : Nat) (x : α) : Nat → α := fun j => if j = i then x else f j
theorem upd_same {α : Type} (f : Nat → α) (i : Nat) (x : α) : upd f i x i = x := by simp [upd]
theorem upd_other {α : Type} (f : Nat → α) (i : Nat) (x : α) {j : Nat} (h : j ≠ i) : upd f i x j = f j := by simp [upd, h]
section
variable {w : World} {base p n : Nat} {en : Bool} {lf : Int} {sf : Nat → List UInt8} {ws : Nat → List (List UInt8)} {q : Nat} {vs : Nat → Value}
theorem last_any (h : DiskAt w base p n en lf sf ws q vs) (i : Nat) (hi : i < n) :
    Calls Try.prog 55 #[.pointer (some ⟨q, i * 257, none⟩)] w fun e w' => e = .returned (.agg (bvs (lastOf (sf i) (ws i))).toArray) ∧ Below w.heap.size w w' := by
  obtain ⟨hr, hlen, cw⟩ := h.row i hi
  obtain ⟨hw, hwl, _⟩ := h.wr i hi
  by_cases h0 : (ws i).length = 0
  · have h0' : ws i = [] := List.eq_nil_of_length_eq_zero h0
    obtain ⟨ao, cap, hv⟩ := h.len i hi
    rw [hv, h0] at cw
    rw [h0']
    exact last_raw0 w q (i * 257) cap ao (sf i) hr hlen cw h.ql
  · obtain ⟨g, cap, hv, hg, hgl, hnc, hcm, hat⟩ := write_at hw hwl (by omega)
    rw [hv] at cw
    have hk : (ws i).length - 1 < (ws i).length := by omega
    have e : lastOf (sf i) (ws i) = (ws i)[(ws i).length - 1] := by
      have := lastOf_snoc (sf i) (ws i) ((ws i).length - 1) hk
      rwa [List.take_of_length_le (by omega)] at this
    rw [e]
    have e2 : (ws i).length = (ws i).length - 1 + 1 := by omega
    rw [e2] at cw
    exact last_rawS w q (i * 257) g ((ws i).length - 1) cap _ (hat _ hk) (hwl _ (List.getElem_mem hk)) cw h.ql (by unfold maxLen at hcm; omega)
/-- Block i of the disk is another one; all else stands. -/
theorem DiskAt.setQ (h : DiskAt w base p n en lf sf ws q vs) (i : Nat) (hi : i < n) {w' : World} {s' : List UInt8} {v' : Value} {ws' : List (List UInt8)}
    (hsz : w.heap.size ≤ w'.heap.size) (hgr : ∀ k, k < w.heap.size → k ≠ q → some k ≠ (vs i).ownBlock → w'.heap[k]? = w.heap[k]?)
    (hcell : ∀ o', (o' < i * 257 ∨ i * 257 + 257 ≤ o') → w'.cell? ⟨q, o', none⟩ = w.cell? ⟨q, o', none⟩) (hfq : ∀ o, w'.frozen? ⟨q, o, none⟩ = false)
    (h1 : w'.rangeAt q (i * 257) (bvs s')) (h2 : s'.length = 256) (h3 : w'.cell? ⟨q, i * 257 + 256, none⟩ = some v')
    (h4 : w'.ownsRow base 90 256 v' ws'.length (ws'.flatMap bvs)) (h5 : ∀ x ∈ ws', x.length = 256) (h6 : v'.ownBlock ≠ some p) (h7 : v'.ownBlock ≠ some q)
    (h8 : ∀ j, j < n → j ≠ i → v'.ownBlock = none ∨ v'.ownBlock ≠ (vs j).ownBlock) :
    DiskAt w' base p n en lf (upd sf i s') (upd ws i ws') q (upd vs i v') := by
  have hp := h.pl
  have hq := h.ql
  have hbp : w'.heap[p]? = w.heap[p]? := hgr p hp h.pq (fun e => (h.wr i hi).2.2.1 e.symm)
  exact {
    pb := h.pb, qb := h.qb, pq := h.pq, nn := h.nn,
    c0 := h.c0.imp fun _ hc => ⟨hc.1, hc.2.1, (World.cell?_of_block (a := ⟨p, 0, none⟩) hbp).trans hc.2.2⟩,
    c1 := (World.cell?_of_block (a := ⟨p, 1, none⟩) hbp).trans h.c1,
    c2 := (World.cell?_of_block (a := ⟨p, 2, none⟩) hbp).trans h.c2,
    fp := fun o => (World.frozen?_of_block (a := ⟨p, o, none⟩) hbp).trans (h.fp o),
    fq := hfq,
    ql := by omega,
    row := fun j hj => by
      by_cases hji : j = i
      · subst hji; rw [upd_same, upd_same]; exact ⟨h1, h2, h3⟩
      · rw [upd_other _ _ _ hji, upd_other _ _ _ hji]
        obtain ⟨r1, r2, r3⟩ := h.row j hj
        refine ⟨fun k v hv => ?_, r2, ?_⟩
        · have hk : k < (bvs (sf j)).length := (List.getElem?_eq_some_iff.1 hv).1
          rw [bvs_length, r2] at hk
          rw [hcell (j * 257 + k) (by omega)]; exact r1 k v hv
        · rw [hcell (j * 257 + 256) (by omega)]; exact r3,
    wr := fun j hj => by
      by_cases hji : j = i
      · subst hji; rw [upd_same, upd_same]; exact ⟨h4, h5, h6, h7⟩
      · rw [upd_other _ _ _ hji, upd_other _ _ _ hji]
        obtain ⟨⟨o1, o2⟩, o3, o4, o5⟩ := h.wr j hj
        refine ⟨⟨o1, ?_⟩, o3, o4, o5⟩
        rcases o2 with o2 | ⟨g, cap, cur, hv, hg, hh, r⟩
        · exact .inl o2
        · refine .inr ⟨g, cap, cur, hv, hg, ?_, r⟩
          have hlt : g < w.heap.size := (Array.getElem?_eq_some_iff.1 hh).1
          have hob : (vs j).ownBlock = some g := by rw [hv]; rfl
          rw [hgr g hlt (fun e => o5 (by rw [hob, e])) (fun e => ?_)]
          · exact hh
          · rcases h.ap j i hj hi hji with e1 | e1
            · rw [hob] at e1; cases e1
            · exact e1 (hob.trans e),
    ap := fun j k hj hk hjk => by
      by_cases hji : j = i
      · subst hji
        rw [upd_same, upd_other _ _ _ (fun e => hjk e.symm)]
        exact h8 k hk (fun e => hjk e.symm)
      · rw [upd_other _ _ _ hji]
        by_cases hki : k = i
        · subst hki
          rw [upd_same]
          rcases h8 j hj hji with e | e
          · cases hvo : (vs j).ownBlock with
            | none => exact .inl rfl
            | some g => right; rw [e]; intro e2; cases e2
          · exact .inr (fun e2 => e e2.symm)
        · rw [upd_other _ _ _ hki]; exact h.ap j k hj hk hjk }
end
end Go.Proofs.Ytikpnfnbmbaljaa
/- Disk.goes, block.settle. -/
namespace Go.Proofs.Ytikpnfnbmbaljaa
open Go.RowKit
set_option maxRecDepth 100000
section
variable {w : World} {base p n : Nat} {en : Bool} {lf : Int} {sf : Nat → List UInt8} {ws : Nat → List (List UInt8)} {q : Nat} {vs : Nat → Value}
/-- A store into the disk's own struct. -/
theorem DiskAt.setP (h : DiskAt w base p n en lf sf ws q vs) {w' : World} {en' : Bool} {lf' : Int} (hsz : w'.heap.size = w.heap.size) (hgr : ∀ k, k ≠ p → w'.heap[k]? = w.heap[k]?)
    (h0 : w'.cell? ⟨p, 0, none⟩ = w.cell? ⟨p, 0, none⟩) (h1 : w'.cell? ⟨p, 1, none⟩ = some (.bool en')) (h2 : w'.cell? ⟨p, 2, none⟩ = some (.int .i64 lf')) (hf : ∀ o, w'.frozen? ⟨p, o, none⟩ = false) :
    DiskAt w' base p n en' lf' sf ws q vs := by
  have hbq : w'.heap[q]? = w.heap[q]? := hgr q (fun e => h.pq e.symm)
  exact {
    pb := h.pb, qb := h.qb, pq := h.pq, nn := h.nn, c0 := h.c0.imp fun _ hc => ⟨hc.1, hc.2.1, h0.trans hc.2.2⟩, c1 := h1, c2 := h2, fp := hf,
    fq := fun o => (World.frozen?_of_block (a := ⟨q, o, none⟩) hbq).trans (h.fq o),
    ql := by rw [hsz]; exact h.ql,
    row := fun i hi => ⟨fun j v hv => (World.cell?_of_block (a := ⟨q, i * 257 + j, none⟩) hbq).trans ((h.row i hi).1 j v hv), (h.row i hi).2.1, (World.cell?_of_block (a := ⟨q, i * 257 + 256, none⟩) hbq).trans (h.row i hi).2.2⟩,
    wr := fun j hj => by
      obtain ⟨⟨o1, o2⟩, o3, o4, o5⟩ := h.wr j hj
      refine ⟨⟨o1, ?_⟩, o3, o4, o5⟩
      rcases o2 with o2 | ⟨g, cap, cur, hv, hg, hh, r⟩
      · exact .inl o2
      · exact .inr ⟨g, cap, cur, hv, hg, by rw [hgr g (fun e => o4 (by rw [hv, ← e]; rfl))]; exact hh, r⟩,
    ap := h.ap }
theorem DiskAt.setLeft (h : DiskAt w base p n en lf sf ws q vs) (x : Int) : DiskAt (w.setCell ⟨p, 2, none⟩ (.int .i64 x)) base p n en x sf ws q vs :=
  h.setP (by simp [World.setCell]) (fun k hk => heap_setCell_other w ⟨p, 2, none⟩ k _ hk) (World.cell?_setCell_other _ _ _ _ (by simp)) ((World.cell?_setCell_other _ _ _ _ (by simp)).trans h.c1) (World.cell?_setCell_same _ _ _ h.c2) (fun o => by simpa using h.fp o)
/-- Does a call take place? -/
def goesB (en : Bool) (lf : Int) : Bool := !(en && (lf == 0))
def goesL (en : Bool) (lf : Int) : Int := if en && !(lf == 0) then lf - 1 else lf
set_option maxHeartbeats 1000000 in
theorem goes_any (h : DiskAt w base p n en lf sf ws q vs) (hl : 0 ≤ lf ∧ lf ≤ 9223372036854775807) :
    Calls Try.prog 72 #[.pointer (some ⟨p, 0, none⟩)] w fun e w' => e = .returned (.bool (goesB en lf)) ∧ DiskAt w' base p n en (goesL en lf) sf ws q vs ∧ Below base w w' ∧ w'.heap.size = w.heap.size ∧ ∀ k, k ≠ p → w'.heap[k]? = w.heap[k]? := by
  have ST := stopped_any h
  cases hen : en with
  | false =>
    subst hen
    go_enter Try.func72, Try.ntmps72
    go_wp2_with fail
    refine ST.mono ?_
    rintro e w1 ⟨rfl, rfl⟩
    have c1 := h.c1
    clear ST
    go_wp2
    go_ret
    exact ⟨rfl, h, Below.refl _ _, rfl, fun _ _ => rfl⟩
  | true =>
    subst hen
    cases hz : (lf == 0) with
    | true =>
      rw [hz] at ST
      go_enter Try.func72, Try.ntmps72
      go_wp2_with fail
      refine ST.mono ?_
      rintro e w1 ⟨rfl, rfl⟩
      clear ST
      go_wp2
      go_ret
      refine ⟨by simp [goesB, hz], ?_, Below.refl _ _, rfl, fun _ _ => rfl⟩
      rw [show goesL true lf = lf from by simp [goesL, hz]]; exact h
    | false =>
      rw [hz] at ST
      have hl1 : 1 ≤ lf := by have := beq_eq_false_iff_ne.1 hz; omega
      have hS := h.setLeft (lf - 1)
      have hB : Below base w (w.setCell ⟨p, 2, none⟩ (.int .i64 (lf - 1))) := (Below.refl _ _).setCell h.pb _
      have hZ : (w.setCell ⟨p, 2, none⟩ (.int .i64 (lf - 1))).heap.size = w.heap.size := by simp [World.setCell]
      have hK : ∀ k, k ≠ p → (w.setCell ⟨p, 2, none⟩ (.int .i64 (lf - 1))).heap[k]? = w.heap[k]? := fun k hk => heap_setCell_other w ⟨p, 2, none⟩ k _ hk
      have c1 := h.c1
      have c2 := h.c2
      have f2 := h.fp 2
      go_enter Try.func72, Try.ntmps72
      go_wp2_with fail
      refine ST.mono ?_
      rintro e w1 ⟨rfl, rfl⟩
      clear ST
      go_wp2
      go_ret
      refine ⟨by simp [goesB, hz], ?_, hB, hZ, hK⟩
      rw [show goesL true lf = lf - 1 from by simp [goesL, hz]]; exact hS
theorem range_edit {w w' : World} {q o len b o2 : Nat} {cs : List Value} (he : Edit w w' q o len) (h : w.rangeAt b o2 cs) (hb : b < w.heap.size) (hap : b ≠ q ∨ o2 + cs.length ≤ o ∨ o + len ≤ o2) : w'.rangeAt b o2 cs := fun j v hv => by
  have hj : j < cs.length := (List.getElem?_eq_some_iff.1 hv).1
  by_cases hq : b = q
  · subst hq
    rw [he.cell (o2 + j) (by omega)]; exact h j v hv
  · rw [World.cell?_of_block (a := ⟨b, o2 + j, none⟩) (he.block b hb hq)]; exact h j v hv
theorem DiskAt.settled (h : DiskAt w base p n en lf sf ws q vs) (i : Nat) (hi : i < n) {w' : World} {s' : List UInt8} (he : Edit w w' q (i * 257) 257) (h1 : w'.rangeAt q (i * 257) (bvs s')) (h2 : s'.length = 256) (h3 : w'.cell? ⟨q, i * 257 + 256, none⟩ = some (.slice none 0 0)) :
    DiskAt w' base p n en lf (upd sf i s') (upd ws i []) q (upd vs i (.slice none 0 0)) :=
  h.setQ i hi he.size (fun k hk hkq _ => he.block k hk hkq) he.cell (fun o => (he.frozen o).trans (h.fq o)) h1 h2 h3 (World.ownsRow_nil _ _ _ _) (by simp) (by simp [Value.ownBlock]) (by simp [Value.ownBlock]) (fun j _ _ => .inl rfl)
set_option maxHeartbeats 1000000 in
set_option maxRecDepth 100000 in
theorem settle_0 (h : DiskAt w base p n en lf sf ws q vs) (i : Nat) (hi : i < n) :
    Calls Try.prog 73 #[.pointer (some ⟨q, i * 257, none⟩), .int .i64 0] w fun e w' => e = .returned (.tuple #[]) ∧ DiskAt w' base p n en lf (upd sf i (sf i)) (upd ws i []) q (upd vs i (.slice none 0 0)) ∧ Edit w w' q (i * 257) 257 := by
  obtain ⟨hr, hlen, cw⟩ := h.row i hi
  obtain ⟨ao, cap, hv⟩ := h.len i hi
  rw [hv] at cw
  have hq := h.ql
  have fq := h.fq (i * 257 + 256)
  have E1 := edit_setCell w q (i * 257) 257 (i * 257 + 256) (.slice ao 0 0) (by omega) (by omega)
  have C1 : (w.setCell ⟨q, i * 257 + 256, none⟩ (.slice ao 0 0)).cell? ⟨q, i * 257 + 256, none⟩ = some (.slice ao 0 0) := World.cell?_setCell_same _ _ _ cw
  obtain ⟨w1, HW⟩ : ∃ w1, Hid (w1 = w.setCell ⟨q, i * 257 + 256, none⟩ (.slice ao 0 0)) := ⟨_, rfl⟩
  rw [← HW.out] at E1 C1
  have R1 : w1.rangeAt q (i * 257) (bvs (sf i)) := by
    rw [HW.out]; exact range_edit (edit_setCell w q (i * 257 + 256) 1 (i * 257 + 256) _ (by omega) (by omega)) hr hq (by rw [bvs_length, hlen]; omega)
  have hs1 := E1.size
  have LAST := last_raw0 w1 q (i * 257) 0 ao (sf i) R1 hlen C1 (by omega)
  go_enter Try.func73, Try.ntmps73
  go_wp2_with fail
  rw [show w.setCell ⟨q, i * 257 + 256, none⟩ (.slice ao 0 0) = w1 from HW.out.symm]
  refine LAST.mono ?_
  rintro e w2 ⟨rfl, hb2⟩
  have E2 : Edit w w2 q (i * 257) 257 := E1.trans (edit_below _ _ hb2 (by omega))
  have R2 : w2.rangeAt q (i * 257) (bvs (sf i)) := range_below R1 hb2 (by omega)
  have C2 : w2.cell? ⟨q, i * 257 + 256, none⟩ = some (.slice ao 0 0) := (hb2.cell (p := ⟨q, i * 257 + 256, none⟩) (show q < w1.heap.size by omega)).trans C1
  have F2 : ∀ k, w2.frozen? ⟨q, k, none⟩ = false := fun k => (E2.frozen k).trans (h.fq k)
  clear LAST C1 R1 cw fq
  go_wp2_with (first | ((with_reducible show wpList _ _ _ ({ dst := _, op := Op.store 90 _ _, type := _, pos := _, after := _, guard := _ } :: _) _ _); refine wpList_store_img rfl (.tmp 18) (.tmp 16) rfl q (i * 257) (sf i) (sf i) rfl rfl R2 hlen F2 hlen ?_; intro w3 R3 E3; have C3 := (E3.cell (i * 257 + 256) (by omega)).trans C2; have F3 := (E3.frozen (i * 257 + 256)).trans (F2 _)))
  have E4 := edit_setCell w3 q (i * 257) 257 (i * 257 + 256) (.slice none 0 0) (by omega) (by omega)
  have E := (E2.trans (E3.wide (o2 := i * 257) (len2 := 257) (Nat.le_refl _) (by omega))).trans E4
  have hs3 := E3.size
  have hs2 := E2.size
  have R4 : (w3.setCell ⟨q, i * 257 + 256, none⟩ (.slice none 0 0)).rangeAt q (i * 257) (bvs (sf i)) := range_edit (edit_setCell w3 q (i * 257 + 256) 1 (i * 257 + 256) _ (by omega) (by omega)) R3 (by omega) (by rw [bvs_length, hlen]; omega)
  have C4 : (w3.setCell ⟨q, i * 257 + 256, none⟩ (.slice none 0 0)).cell? ⟨q, i * 257 + 256, none⟩ = some (.slice none 0 0) := World.cell?_setCell_same _ _ _ C3
  go_end0
  exact ⟨rfl, h.settled i hi E R4 hlen C4, E⟩
set_option maxHeartbeats 1000000 in
set_option maxRecDepth 100000 in
theorem settle_S (h : DiskAt w base p n en lf sf ws q vs) (i : Nat) (hi : i < n) (m : Nat) (hm : m < (ws i).length) :
    Calls Try.prog 73 #[.pointer (some ⟨q, i * 257, none⟩), .int .i64 ((m : Int) + 1)] w fun e w' => e = .returned (.tuple #[]) ∧ DiskAt w' base p n en lf (upd sf i (ws i)[m]) (upd ws i []) q (upd vs i (.slice none 0 0)) ∧ Edit w w' q (i * 257) 257 := by
  obtain ⟨hr, hlen, cw⟩ := h.row i hi
  obtain ⟨hwo, hwl, _, hnq⟩ := h.wr i hi
  obtain ⟨g, cap, hv, hg, hgl, hnc, hcm, hat⟩ := write_at hwo hwl (by omega)
  rw [hv] at cw
  have hgq : g ≠ q := fun e => hnq (by rw [hv, e]; rfl)
  have hy := hwl _ (List.getElem_mem hm)
  have hRy := hat m hm
  have hmc : (m : Int) + 1 ≤ cap := by omega
  have hcm' : (cap : Int) ≤ 9223372036854775807 := by unfold maxLen at hcm; omega
  generalize (ws i)[m] = y at *
  have hq := h.ql
  have fq := h.fq (i * 257 + 256)
  have E1 := edit_setCell w q (i * 257) 257 (i * 257 + 256) (.slice (some ⟨g, 0, none⟩) (m + 1) (m + 1)) (by omega) (by omega)
  have C1 : (w.setCell ⟨q, i * 257 + 256, none⟩ (.slice (some ⟨g, 0, none⟩) (m + 1) (m + 1))).cell? ⟨q, i * 257 + 256, none⟩ = some (.slice (some ⟨g, 0, none⟩) (m + 1) (m + 1)) := World.cell?_setCell_same _ _ _ cw
  obtain ⟨w1, HW⟩ : ∃ w1, Hid (w1 = w.setCell ⟨q, i * 257 + 256, none⟩ (.slice (some ⟨g, 0, none⟩) (m + 1) (m + 1))) := ⟨_, rfl⟩
  rw [← HW.out] at E1 C1
  have R1 : w1.rangeAt q (i * 257) (bvs (sf i)) := by
    rw [HW.out]; exact range_edit (edit_setCell w q (i * 257 + 256) 1 (i * 257 + 256) _ (by omega) (by omega)) hr hq (by rw [bvs_length, hlen]; omega)
  have hs1 := E1.size
  have RY : w1.rangeAt g (m * 256) (bvs y) := range_edit E1 hRy hgl (.inl hgq)
  have LAST := last_rawS w1 q (i * 257) g m (m + 1) y RY hy C1 (by omega) (by omega)
  clear hat hRy
  go_enter Try.func73, Try.ntmps73
  go_wp2_with fail
  rw [show w.setCell ⟨q, i * 257 + 256, none⟩ (.slice (some ⟨g, 0, none⟩) (m + 1) (m + 1)) = w1 from HW.out.symm]
  refine LAST.mono ?_
  rintro e w2 ⟨rfl, hb2⟩
  have E2 : Edit w w2 q (i * 257) 257 := E1.trans (edit_below _ _ hb2 (by omega))
  have R2 : w2.rangeAt q (i * 257) (bvs (sf i)) := range_below R1 hb2 (by omega)
  have C2 : w2.cell? ⟨q, i * 257 + 256, none⟩ = some (.slice (some ⟨g, 0, none⟩) (m + 1) (m + 1)) := (hb2.cell (p := ⟨q, i * 257 + 256, none⟩) (show q < w1.heap.size by omega)).trans C1
  have F2 : ∀ k, w2.frozen? ⟨q, k, none⟩ = false := fun k => (E2.frozen k).trans (h.fq k)
  clear LAST C1 R1 cw fq
  go_wp2_with (first | ((with_reducible show wpList _ _ _ ({ dst := _, op := Op.store 90 _ _, type := _, pos := _, after := _, guard := _ } :: _) _ _); refine wpList_store_img rfl (.tmp 18) (.tmp 16) rfl q (i * 257) y (sf i) rfl rfl R2 hlen F2 hy ?_; intro w3 R3 E3; have C3 := (E3.cell (i * 257 + 256) (by omega)).trans C2; have F3 := (E3.frozen (i * 257 + 256)).trans (F2 _)))
  have E4 := edit_setCell w3 q (i * 257) 257 (i * 257 + 256) (.slice none 0 0) (by omega) (by omega)
  have E := (E2.trans (E3.wide (o2 := i * 257) (len2 := 257) (Nat.le_refl _) (by omega))).trans E4
  have hs3 := E3.size
  have hs2 := E2.size
  have R4 : (w3.setCell ⟨q, i * 257 + 256, none⟩ (.slice none 0 0)).rangeAt q (i * 257) (bvs y) := range_edit (edit_setCell w3 q (i * 257 + 256) 1 (i * 257 + 256) _ (by omega) (by omega)) R3 (by omega) (by rw [bvs_length, hy]; omega)
  have C4 : (w3.setCell ⟨q, i * 257 + 256, none⟩ (.slice none 0 0)).cell? ⟨q, i * 257 + 256, none⟩ = some (.slice none 0 0) := World.cell?_setCell_same _ _ _ C3
  go_end0
  exact ⟨rfl, h.settled i hi E R4 hy C4, E⟩
theorem settle_any (h : DiskAt w base p n en lf sf ws q vs) (i : Nat) (hi : i < n) (m : Nat) (hm : m ≤ (ws i).length) :
    Calls Try.prog 73 #[.pointer (some ⟨q, i * 257, none⟩), .int .i64 (m : Int)] w fun e w' => e = .returned (.tuple #[]) ∧ DiskAt w' base p n en lf (upd sf i (lastOf (sf i) ((ws i).take m))) (upd ws i []) q (upd vs i (.slice none 0 0)) ∧ Edit w w' q (i * 257) 257 := by
  cases m with
  | zero => exact settle_0 h i hi
  | succ m =>
    rw [lastOf_snoc (sf i) (ws i) m (by omega)]
    exact settle_S h i hi m (by omega)
end
end Go.Proofs.Ytikpnfnbmbaljaa
/- An array made of a slice, a slice of one array. -/
namespace Go.Proofs.Ytikpnfnbmbaljaa
open Go.RowKit
set_option maxRecDepth 100000
theorem arr_at (b o c : Nat) (w : World) : (Instr.arrayAt 90 (.slice (some ⟨b, o, none⟩) 256 c)).run Try.prog w = .ok (.pointer (some ⟨b, o, none⟩)) w := by kernel_rfl
theorem fold_set : ∀ (l : List Value) (k : Nat) (cs : Array Value), k + l.length ≤ cs.size → ((l.zipIdx k).foldl (fun cs p => cs.setIfInBounds (0 * 256 + p.2) p.1) cs).toList = cs.toList.take k ++ l ++ cs.toList.drop (k + l.length)
  | [], k, cs, _ => by simp
  | v :: r, k, cs, h => by
    simp only [List.zipIdx_cons, List.foldl_cons]
    have ih := fold_set r (k + 1) (cs.setIfInBounds (0 * 256 + k) v) (by simp at h ⊢; omega)
    rw [ih, Array.toList_setIfInBounds]
    have e := list_seg_step cs.toList k v r (by simp at h ⊢; omega)
    simpa [Nat.add_assoc, Nat.add_comm, Nat.add_left_comm] using e
theorem fill_img (A C : Array Value) (h1 : A.size = 256) (h2 : C.size = 256) : Instr.fill (fun i => some (i * 256, 256)) C [(0, .agg A)] = some A := by
  have h3 : (Value.agg A).cells = A := rfl
  have hf : A.zipIdx.foldl (fun cs (x : Value × Nat) => cs.setIfInBounds (0 * 256 + x.2) x.1) C = A := by
    apply Array.toList_inj.1
    have := fold_set A.toList 0 C (by simp [h1, h2])
    rw [List.take_zero, List.nil_append, List.drop_eq_nil_of_le (by simp [h1, h2]), List.append_nil] at this
    rw [← this]
    congr 1
    rw [← Array.foldl_toList, Array.toList_zipIdx]
  unfold Instr.fill
  simp only [h3, h1, h2]
  simp only [Instr.fill]
  rw [if_neg (by simp)]
  exact congrArg some hf
theorem build_img (d : List UInt8) (hd : d.length = 256) (w : World) : (Instr.buildSlice 101 1 #[(0, .agg (bvs d).toArray)]).run Try.prog w = .ok (.slice (some ⟨w.heap.size, 0, none⟩) 1 1) (w.alloc (.cells (bvs d).toArray 90)) := by
  obtain ⟨Z, hz, hzs, hinfo, HZ⟩ := Try.zero90
  clear HZ
  have hA : (bvs d).toArray.size = 256 := by rw [List.size_toArray, bvs_length, hd]
  generalize (bvs d).toArray = A at *
  have hso : (sizeOf 90).run Try.prog w = .ok 256 w := by
    cases hq : Try.prog.info? 90 with
    | none => simp [hq] at hinfo
    | some i0 =>
      have hi : i0.size = 256 := by simpa [hq] using hinfo
      simp [sizeOf, typeInfo, hq, hi]
  have hfi := fill_img A ((Array.range (1 * 256)).map (Z[· % Z.size]!)) hA (by simp)
  unfold Instr.buildSlice
  simp only [Sem.run_bind, run_underlying Try.underlying101, Result.andThen_ok, hso]
  rw [if_neg (by omega), if_neg (by omega)]
  simp only [Sem.run_bind, hz, Result.andThen_ok, Sem.run_pure, show (Value.agg Z).cells = Z from rfl]
  rw [show [(0, Value.agg A)] = (#[(0, Value.agg A)] : Array (Nat × Value)).toList from rfl] at hfi
  rw [hfi]
  simp [newRow]
end Go.Proofs.Ytikpnfnbmbaljaa
