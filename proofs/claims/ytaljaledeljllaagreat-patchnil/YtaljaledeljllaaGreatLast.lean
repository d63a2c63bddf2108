/- block.last, Disk.goes, block.settle. -/
import Derived.Test.YtaljaledeljllaaGreatDisk
namespace Go.Proofs.YtaljaledeljllaaGreat
open Go.RowKit
set_option maxRecDepth 100000
theorem Tryz.zero111 : ∃ Z : Array Value, (∀ w, (zeroValue 111).run Tryz.prog w = .ok (.agg Z) w) ∧ Z.size = 256 ∧ (Tryz.prog.info? 111).map (·.size) = some 256 ∧ Hid (Z = (bvs (List.replicate 256 0)).toArray) := by
  have h : (Tryz.prog.info? 111).map (fun i => (i.zero, i.size)) = some (some (.agg (bvs (List.replicate 256 0)).toArray), 256) := by kernel_rfl
  obtain ⟨h1, h2⟩ := zero_of_info h
  exact ⟨_, h1, by rw [List.size_toArray, bvs_length, List.length_replicate], h2, rfl⟩
/-- What block i reads as. -/
def lastOf (sf : List UInt8) : List (List UInt8) → List UInt8
  | [] => sf
  | x :: r => (x :: r).getLast (by simp)
/-- The store of a whole array into a block that is known whole. -/
theorem wpList_store_blk {ops : Array Oper} {rest : List Oper} {op : Oper} {a : Act} {w : World} {Q : Exit → Act → World → Prop} (hgd : op.guard = none) (x y : Operand) (ho : op.op = .store 111 x y)
    (g : Nat) (cur : Array Value) (s : List UInt8) (hx : a.eval x = .pointer (some ⟨g, 0, none⟩)) (hy : a.eval y = .agg (bvs s).toArray)
    (hg : w.heap[g]? = some (.cells cur 111 (0, 0))) (hc : cur.size = 256) (hs : s.length = 256) (B : Nat) (w0 : World) (hb : Below B w0 w) (hB : B ≤ g)
    (h : ∀ w', Blk w' g 111 s → Below B w0 w' → Below g w w' → w'.heap.size = w.heap.size → wpList Tryz.prog ops Q rest (a.put op.dst undef) w') : wpList Tryz.prog ops Q (op :: rest) a w := by
  obtain ⟨Z, _, _, hinfo, _⟩ := Tryz.zero111
  refine wpList_plain hgd fun K hK => ?_
  have hsz : (bvs s).toArray.size = 256 := by rw [List.size_toArray, bvs_length, hs]
  have hrun := run_storeVar_row (P := Tryz.prog) w g 111 111 cur (bvs s).toArray hg (by rw [hinfo, hsz]) (by rw [hc, hsz]) (all_oneCell_toArray (bvs_one _))
  unfold Oper.wp execOp
  simp only [ho, hx, hy, Instr.storeAt, Instr.sureAddr, Sem.run_bind, Sem.run_pure, Result.andThen_ok, hrun]
  exact hK _ _ (h _ (setRow_heap w g _ _ 111 _ hg) (below_setRow hb hB _) (below_setRow (Below.refl _ _) (Nat.le_refl _) _) (by simp))
/-- The load of a whole array out of the middle of a block. -/
theorem wpList_load_img {ops : Array Oper} {rest : List Oper} {op : Oper} {a : Act} {w : World} {Q : Exit → Act → World → Prop} (hgd : op.guard = none) (x : Operand) (ho : op.op = .load 111 x)
    (b o : Nat) (hx : a.eval x = .pointer (some ⟨b, o, none⟩)) (s : List UInt8) (hc : w.rangeAt b o (bvs s)) (hs : s.length = 256)
    (h : wpList Tryz.prog ops Q rest (a.put op.dst (.agg (bvs s).toArray)) w) : wpList Tryz.prog ops Q (op :: rest) a w := by
  obtain ⟨Z, _, _, hinfo, _⟩ := Tryz.zero111
  exact wpList_load_mid hgd 111 x ho b o hx _ _ hc Tryz.underlying111 rfl (by rw [hinfo, bvs_length, hs]) h
theorem lastOf_length {sf : List UInt8} {ws : List (List UInt8)} (h1 : sf.length = 256) (h2 : ∀ x ∈ ws, x.length = 256) : (lastOf sf ws).length = 256 := by
  cases ws with
  | nil => exact h1
  | cons x r => exact h2 _ (List.getLast_mem _)
theorem flat_at : ∀ (ws : List (List UInt8)) (j : Nat) (h : j < ws.length), (∀ x ∈ ws, x.length = 256) → ((ws.flatMap bvs).drop (j * 256)).take 256 = bvs ws[j]
  | x :: r, 0, _, hl => by
    have := hl x (by simp)
    simp [List.flatMap_cons, bvs_length, this]
  | x :: r, j + 1, h, hl => by
    have hx := hl x (by simp)
    rw [List.flatMap_cons, Nat.add_mul, Nat.one_mul, Nat.add_comm, List.drop_append, List.drop_eq_nil_of_le (by rw [bvs_length]; omega), List.nil_append, bvs_length, hx, Nat.add_sub_cancel_left]
    exact flat_at r j (by simpa using h) (fun y hy => hl y (by simp [hy]))
theorem range_take {w : World} {b o : Nat} {cs : List Value} (h : w.rangeAt b o cs) (k n : Nat) : w.rangeAt b (o + k) ((cs.drop k).take n) := fun j v hv => by
  have hj : j < ((cs.drop k).take n).length := (List.getElem?_eq_some_iff.1 hv).1
  rw [List.getElem?_take] at hv
  split at hv
  · rw [List.getElem?_drop] at hv
    rw [Nat.add_assoc]; exact h (k + j) v hv
  · cases hv
/-- Where write j of a block lies. -/
theorem write_at {w : World} {base : Nat} {v : Value} {ws : List (List UInt8)} (h : w.ownsRow base 111 256 v ws.length (ws.flatMap bvs)) (hl : ∀ x ∈ ws, x.length = 256) (h0 : 0 < ws.length) :
    ∃ g cap, v = .slice (some ⟨g, 0, none⟩) ws.length cap ∧ base ≤ g ∧ g < w.heap.size ∧ ws.length ≤ cap ∧ cap ≤ maxLen ∧ ∀ j, (hj : j < ws.length) → w.rangeAt g (j * 256) (bvs ws[j]) := by
  have h' := h
  obtain ⟨h1, h2⟩ := h
  rcases h2 with ⟨_, h3⟩ | ⟨g, cap, cur, rfl, hg, hh, hn, hm, hs, hx⟩
  · omega
  · refine ⟨g, cap, rfl, hg, (Array.getElem?_eq_some_iff.1 hh).1, hn, hm, fun j hj => ?_⟩
    rw [← flat_at ws j hj hl]
    have hr : w.rangeAt g 0 (ws.flatMap bvs) := fun k u hu => by
      have hk : k < (ws.flatMap bvs).length := (List.getElem?_eq_some_iff.1 hu).1
      rw [Nat.zero_add, World.ownsRow.cellAt h' k (by omega)]; exact hu
    have := range_take hr (j * 256) 256
    rwa [Nat.zero_add] at this
set_option maxHeartbeats 1000000 in
set_option maxRecDepth 100000 in
theorem last_raw0 (w : World) (q o cap : Nat) (ao : Option Addr) (sf : List UInt8) (hr : w.rangeAt q o (bvs sf)) (hlen : sf.length = 256) (cw : w.cell? ⟨q, o + 256, none⟩ = some (.slice ao 0 cap)) (hq : q < w.heap.size) :
    Calls Tryz.prog 68 #[.pointer (some ⟨q, o, none⟩)] w fun e w' => e = .returned (.agg (bvs sf).toArray) ∧ Below w.heap.size w w' := by
  obtain ⟨Z, hz, hzs, hinfo, HZ⟩ := Tryz.zero111
  clear HZ
  have hb0 : Below w.heap.size w (w.alloc (.cells Z 111)) := (Below.refl _ _).alloc (Nat.le_refl _) _
  have HR := World.rangeAt_alloc hr (.cells Z 111)
  clear hr
  go_enter Tryz.func68, Tryz.ntmps68
  go_wp2_with (first | ((with_reducible show wpList _ _ _ ({ dst := _, op := Op.load 111 _, type := _, pos := _, after := _, guard := _ } :: _) _ _); refine wpList_load_img rfl (.tmp 21) rfl q o rfl sf HR hlen ?_) | ((with_reducible show wpList _ _ _ ({ dst := _, op := Op.store 111 _ _, type := _, pos := _, after := _, guard := _ } :: _) _ _); refine wpList_store_blk rfl (.tmp 2) (.tmp 22) rfl w.heap.size Z sf rfl rfl (heap_alloc_new _ _) hzs hlen w.heap.size w hb0 (Nat.le_refl _) ?_; intro w1 hg1 hb1 hx1 hy1; clear hx1 hy1))
  exact bodyPost_ret (v := .agg (bvs sf).toArray) (results_cell_row rfl _ _ w.heap.size 111 _ _ _ rfl hg1 Tryz.underlying111 rfl (by rw [hinfo, List.size_toArray, bvs_length, hlen])) rfl ⟨rfl, hb1⟩
set_option maxHeartbeats 1000000 in
set_option maxRecDepth 100000 in
theorem last_rawS (w : World) (q o g m cap : Nat) (y : List UInt8) (hr : w.rangeAt g (m * 256) (bvs y)) (hll : y.length = 256) (cw : w.cell? ⟨q, o + 256, none⟩ = some (.slice (some ⟨g, 0, none⟩) (m + 1) cap)) (hq : q < w.heap.size) (hln : (m : Int) + 1 ≤ 9223372036854775807) :
    Calls Tryz.prog 68 #[.pointer (some ⟨q, o, none⟩)] w fun e w' => e = .returned (.agg (bvs y).toArray) ∧ Below w.heap.size w w' := by
  obtain ⟨Z, hz, hzs, hinfo, HZ⟩ := Tryz.zero111
  clear HZ
  have hb0 : Below w.heap.size w (w.alloc (.cells Z 111)) := (Below.refl _ _).alloc (Nat.le_refl _) _
  have HR := World.rangeAt_alloc hr (.cells Z 111)
  clear hr
  go_enter Tryz.func68, Tryz.ntmps68
  go_wp2_with (first | ((with_reducible show wpList _ _ _ ({ dst := _, op := Op.load 111 _, type := _, pos := _, after := _, guard := _ } :: _) _ _); refine wpList_load_img rfl (.tmp 17) rfl g (m * 256) rfl y HR hll ?_) | ((with_reducible show wpList _ _ _ ({ dst := _, op := Op.store 111 _ _, type := _, pos := _, after := _, guard := _ } :: _) _ _); refine wpList_store_blk rfl (.tmp 2) (.tmp 18) rfl w.heap.size Z y rfl rfl (heap_alloc_new _ _) hzs hll w.heap.size w hb0 (Nat.le_refl _) ?_; intro w1 hg1 hb1 hx1 hy1; clear hx1 hy1))
  exact bodyPost_ret (v := .agg (bvs y).toArray) (results_cell_row rfl _ _ w.heap.size 111 _ _ _ rfl hg1 Tryz.underlying111 rfl (by rw [hinfo, List.size_toArray, bvs_length, hll])) rfl ⟨rfl, hb1⟩
theorem lastOf_snoc (sf : List UInt8) (ws : List (List UInt8)) (j : Nat) (h : j < ws.length) : lastOf sf (ws.take (j + 1)) = ws[j] := by
  have hne : ws.take (j + 1) ≠ [] := by intro e; have := congrArg List.length e; rw [List.length_take, List.length_nil] at this; omega
  cases hw : ws.take (j + 1) with
  | nil => exact absurd hw hne
  | cons x r =>
    show (x :: r).getLast _ = _
    have e1 : (x :: r).length = j + 1 := by rw [← hw]; simp; omega
    have e2 : (x :: r).getLast (by simp) = (x :: r)[j]'(by omega) := by rw [List.getLast_eq_getElem]; congr 1; omega
    rw [e2]
    have e3 : (ws.take (j + 1))[j]'(by simp; omega) = ws[j] := by simp
    rw [← e3]; congr 1; exact hw.symm
/-- A change of some cells of block q alone; new blocks may be there. -/
structure Edit (w w' : World) (q o len : Nat) : Prop where
  os : w'.os = w.os
  tape : w'.tape = w.tape
  output : w'.output = w.output
  size : w.heap.size ≤ w'.heap.size
  block : ∀ k, k < w.heap.size → k ≠ q → w'.heap[k]? = w.heap[k]?
  cell : ∀ o', (o' < o ∨ o + len ≤ o') → w'.cell? ⟨q, o', none⟩ = w.cell? ⟨q, o', none⟩
  frozen : ∀ o', w'.frozen? ⟨q, o', none⟩ = w.frozen? ⟨q, o', none⟩
theorem Edit.trans {a b c : World} {q o len : Nat} (h : Edit a b q o len) (k : Edit b c q o len) : Edit a c q o len :=
  ⟨k.os.trans h.os, k.tape.trans h.tape, k.output.trans h.output, Nat.le_trans h.size k.size, fun i hi hq => (k.block i (Nat.lt_of_lt_of_le hi h.size) hq).trans (h.block i hi hq), fun o' ho => (k.cell o' ho).trans (h.cell o' ho), fun o' => (k.frozen o').trans (h.frozen o')⟩
theorem Edit.below {a b : World} {q o len : Nat} (h : Edit a b q o len) {B : Nat} (hB : B ≤ q) (hs : B ≤ a.heap.size) : Below B a b :=
  ⟨h.os, h.tape, h.output, h.size, fun k hk => h.block k (by omega) (by omega)⟩
theorem edit_below {a b : World} {q : Nat} (o len : Nat) (h : Below a.heap.size a b) (hq : q < a.heap.size) : Edit a b q o len :=
  ⟨h.os, h.tape, h.output, h.size, fun k hk _ => h.block k hk, fun o' _ => h.cell (p := ⟨q, o', none⟩) hq, fun o' => h.frozen (p := ⟨q, o', none⟩) hq⟩
theorem edit_setCell (w : World) (q o len x : Nat) (u : Value) (h1 : o ≤ x) (h2 : x < o + len) : Edit w (w.setCell ⟨q, x, none⟩ u) q o len :=
  ⟨rfl, rfl, rfl, by simp [World.setCell], fun k _ hk => heap_setCell_other w ⟨q, x, none⟩ k u hk, fun o' ho => World.cell?_setCell_other _ _ _ _ (by intro e; cases e; omega), fun o' => by simp⟩
theorem heap_setCells (b : Nat) : ∀ (vs : List Value) (o : Nat) (w : World), (w.setCells b o vs).heap.size = w.heap.size ∧ (w.setCells b o vs).os = w.os ∧ (w.setCells b o vs).tape = w.tape ∧ (w.setCells b o vs).output = w.output ∧ ∀ k, k ≠ b → (w.setCells b o vs).heap[k]? = w.heap[k]?
  | [], _, _ => ⟨rfl, rfl, rfl, rfl, fun _ _ => rfl⟩
  | v :: r, o, w => by
    rw [World.setCells]
    obtain ⟨h1, h2, h3, h4, h5⟩ := heap_setCells b r (o + 1) (w.setCell ⟨b, o, none⟩ v)
    exact ⟨h1.trans (by simp [World.setCell]), h2, h3, h4, fun k hk => (h5 k hk).trans (heap_setCell_other w ⟨b, o, none⟩ k v hk)⟩
theorem edit_setCells (w : World) (q o : Nat) (vs : List Value) : Edit w (w.setCells q o vs) q o vs.length := by
  obtain ⟨h1, h2, h3, h4, h5⟩ := heap_setCells q vs o w
  exact ⟨h2, h3, h4, by omega, fun k _ hk => h5 k hk, fun o' ho => World.cell?_setCells_out q vs o w ⟨q, o', none⟩ (fun _ _ => ho), fun o' => World.frozen?_setCells q vs o w ⟨q, o', none⟩⟩
theorem Edit.wide {a b : World} {q o len : Nat} (h : Edit a b q o len) {o2 len2 : Nat} (h1 : o2 ≤ o) (h2 : o + len ≤ o2 + len2) : Edit a b q o2 len2 :=
  ⟨h.os, h.tape, h.output, h.size, h.block, fun o' ho => h.cell o' (by omega), h.frozen⟩
/-- The store of a whole array into the middle of a block. -/
theorem wpList_store_img {ops : Array Oper} {rest : List Oper} {op : Oper} {a : Act} {w : World} {Q : Exit → Act → World → Prop} (hgd : op.guard = none) (x y : Operand) (ho : op.op = .store 111 x y)
    (q o : Nat) (s s0 : List UInt8) (hx : a.eval x = .pointer (some ⟨q, o, none⟩)) (hy : a.eval y = .agg (bvs s).toArray)
    (hr : w.rangeAt q o (bvs s0)) (hs0 : s0.length = 256) (hf : ∀ k, w.frozen? ⟨q, k, none⟩ = false) (hs : s.length = 256)
    (h : ∀ w', w'.rangeAt q o (bvs s) → Edit w w' q o 256 → wpList Tryz.prog ops Q rest (a.put op.dst undef) w') : wpList Tryz.prog ops Q (op :: rest) a w := by
  obtain ⟨Z, _, _, hinfo, _⟩ := Tryz.zero111
  have ht : w.there q o (bvs s).length := fun j hj => by
    rw [bvs_length, hs] at hj
    exact ⟨hr.isSome j (by rw [bvs_length, hs0]; exact hj), hf _⟩
  have hed := edit_setCells w q o (bvs s)
  rw [bvs_length, hs] at hed
  refine wpList_store_mid hgd 111 x y ho q o (bvs s).toArray hx hy (by rw [List.size_toArray]; exact ht) (by rw [hinfo, List.size_toArray, bvs_length, hs]) (all_oneCell_toArray (bvs_one _)) ?_
  exact h _ (World.rangeAt_setCells_same w q o (bvs s) ht) hed
def upd {α : Type} (f : Nat → α) (i : Nat) (x : α) : Nat → α := fun j => if j = i then x else f j
theorem upd_same {α : Type} (f : Nat → α) (i : Nat) (x : α) : upd f i x i = x := by simp [upd]
theorem upd_other {α : Type} (f : Nat → α) (i : Nat) (x : α) {j : Nat} (h : j ≠ i) : upd f i x j = f j := by simp [upd, h]
section
variable {w : World} {base p n : Nat} {en : Bool} {lf : Int} {sf : Nat → List UInt8} {ws : Nat → List (List UInt8)} {q : Nat} {vs : Nat → Value}
theorem last_any (h : DiskAt w base p n en lf sf ws q vs) (i : Nat) (hi : i < n) :
    Calls Tryz.prog 68 #[.pointer (some ⟨q, i * 257, none⟩)] w fun e w' => e = .returned (.agg (bvs (lastOf (sf i) (ws i))).toArray) ∧ Below w.heap.size w w' := by
  obtain ⟨hr, hlen, cw⟩ := h.row i hi
  obtain ⟨hw, hwl, _⟩ := h.wr i hi
  by_cases h0 : (ws i).length = 0
  · have h0' : ws i = [] := List.eq_nil_of_length_eq_zero h0
    obtain ⟨ao, cap, hv⟩ := h.len i hi
    rw [hv, h0] at cw
    rw [h0']
    exact last_raw0 w q (i * 257) cap ao (sf i) hr hlen cw h.ql
  · obtain ⟨g, cap, hv, hg, hgl, hnc, hcm, hat⟩ := write_at hw hwl (by omega)
    rw [hv] at cw
    have hk : (ws i).length - 1 < (ws i).length := by omega
    have e : lastOf (sf i) (ws i) = (ws i)[(ws i).length - 1] := by
      have := lastOf_snoc (sf i) (ws i) ((ws i).length - 1) hk
      rwa [List.take_of_length_le (by omega)] at this
    rw [e]
    have e2 : (ws i).length = (ws i).length - 1 + 1 := by omega
    rw [e2] at cw
    exact last_rawS w q (i * 257) g ((ws i).length - 1) cap _ (hat _ hk) (hwl _ (List.getElem_mem hk)) cw h.ql (by unfold maxLen at hcm; omega)
/-- Block i of the disk is another one; all else stands. -/
theorem DiskAt.setQ (h : DiskAt w base p n en lf sf ws q vs) (i : Nat) (hi : i < n) {w' : World} {s' : List UInt8} {v' : Value} {ws' : List (List UInt8)}
    (hsz : w.heap.size ≤ w'.heap.size) (hgr : ∀ k, k < w.heap.size → k ≠ q → some k ≠ (vs i).ownBlock → w'.heap[k]? = w.heap[k]?)
    (hcell : ∀ o', (o' < i * 257 ∨ i * 257 + 257 ≤ o') → w'.cell? ⟨q, o', none⟩ = w.cell? ⟨q, o', none⟩) (hfq : ∀ o, w'.frozen? ⟨q, o, none⟩ = false)
    (h1 : w'.rangeAt q (i * 257) (bvs s')) (h2 : s'.length = 256) (h3 : w'.cell? ⟨q, i * 257 + 256, none⟩ = some v')
    (h4 : w'.ownsRow base 111 256 v' ws'.length (ws'.flatMap bvs)) (h5 : ∀ x ∈ ws', x.length = 256) (h6 : v'.ownBlock ≠ some p) (h7 : v'.ownBlock ≠ some q)
    (h8 : ∀ j, j < n → j ≠ i → v'.ownBlock = none ∨ v'.ownBlock ≠ (vs j).ownBlock) :
    DiskAt w' base p n en lf (upd sf i s') (upd ws i ws') q (upd vs i v') := by
  have hp := h.pl
  have hq := h.ql
  have hbp : w'.heap[p]? = w.heap[p]? := hgr p hp h.pq (fun e => (h.wr i hi).2.2.1 e.symm)
  exact {
    pb := h.pb, qb := h.qb, pq := h.pq, nn := h.nn,
    c0 := h.c0.imp fun _ hc => ⟨hc.1, hc.2.1, (World.cell?_of_block (a := ⟨p, 0, none⟩) hbp).trans hc.2.2⟩,
    c1 := (World.cell?_of_block (a := ⟨p, 1, none⟩) hbp).trans h.c1,
    c2 := (World.cell?_of_block (a := ⟨p, 2, none⟩) hbp).trans h.c2,
    fp := fun o => (World.frozen?_of_block (a := ⟨p, o, none⟩) hbp).trans (h.fp o),
    fq := hfq,
    ql := by omega,
    row := fun j hj => by
      by_cases hji : j = i
      · subst hji; rw [upd_same, upd_same]; exact ⟨h1, h2, h3⟩
      · rw [upd_other _ _ _ hji, upd_other _ _ _ hji]
        obtain ⟨r1, r2, r3⟩ := h.row j hj
        refine ⟨fun k v hv => ?_, r2, ?_⟩
        · have hk : k < (bvs (sf j)).length := (List.getElem?_eq_some_iff.1 hv).1
          rw [bvs_length, r2] at hk
          rw [hcell (j * 257 + k) (by omega)]; exact r1 k v hv
        · rw [hcell (j * 257 + 256) (by omega)]; exact r3,
    wr := fun j hj => by
      by_cases hji : j = i
      · subst hji; rw [upd_same, upd_same]; exact ⟨h4, h5, h6, h7⟩
      · rw [upd_other _ _ _ hji, upd_other _ _ _ hji]
        obtain ⟨⟨o1, o2⟩, o3, o4, o5⟩ := h.wr j hj
        refine ⟨⟨o1, ?_⟩, o3, o4, o5⟩
        rcases o2 with o2 | ⟨g, cap, cur, hv, hg, hh, r⟩
        · exact .inl o2
        · refine .inr ⟨g, cap, cur, hv, hg, ?_, r⟩
          have hlt : g < w.heap.size := (Array.getElem?_eq_some_iff.1 hh).1
          have hob : (vs j).ownBlock = some g := by rw [hv]; rfl
          rw [hgr g hlt (fun e => o5 (by rw [hob, e])) (fun e => ?_)]
          · exact hh
          · rcases h.ap j i hj hi hji with e1 | e1
            · rw [hob] at e1; cases e1
            · exact e1 (hob.trans e),
    ap := fun j k hj hk hjk => by
      by_cases hji : j = i
      · subst hji
        rw [upd_same, upd_other _ _ _ (fun e => hjk e.symm)]
        exact h8 k hk (fun e => hjk e.symm)
      · rw [upd_other _ _ _ hji]
        by_cases hki : k = i
        · subst hki
          rw [upd_same]
          rcases h8 j hj hji with e | e
          · cases hvo : (vs j).ownBlock with
            | none => exact .inl rfl
            | some g => right; rw [e]; intro e2; cases e2
          · exact .inr (fun e2 => e e2.symm)
        · rw [upd_other _ _ _ hki]; exact h.ap j k hj hk hjk }
end
end Go.Proofs.YtaljaledeljllaaGreat
