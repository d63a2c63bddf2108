/- Package cache: content.set, content.bytes, Cache.stands. -/
import Derived.Test.YtikpnfnbmbaljaaKCst
import Derived.Test.YtikpnfnbmbaljaaKSl
import Derived.Deep.DeepCutAuto
import Derived.WalkSpells
namespace Go.Proofs.Ytikpnfnbmbaljaa
open Go.RowKit
set_option maxRecDepth 100000
/-- 'append' onto bytes that leave no room, whosever they are: new memory. -/
theorem append_new {w : World} {base b off : Nat} {l m : List UInt8} {sp : Option Addr} (ty : TypeId) (cap c : Nat) (h : Src w (some ⟨b, off, none⟩) l) (hs : Src w sp m) (hm : 0 < m.length) (hcap : cap < l.length + m.length) (hbase : base ≤ w.heap.size) (hb : l.length + m.length ≤ 140737488355328) :
    ∃ v' w', (Builtin.append_ #[39, 39] ty #[.slice (some ⟨b, off, none⟩) l.length cap, .slice sp m.length c]).run Try.prog w = .ok v' w' ∧ Own w' base v' (l ++ m) ∧ Below base w w' := by
  obtain ⟨i0, hi, hz0, hz1, hz2⟩ := info_parts Try.info5
  obtain ⟨b2, off2, rfl, _, hc2⟩ := hs.at' hm
  have cs : ∀ (bb oo : Nat) (x : List UInt8), (∀ j, (hj : j < x.length) → w.cell? ⟨bb, oo + j, none⟩ = some (bv x[j])) → ∀ j u, (bvs x)[j]? = some u → w.cell? ((⟨bb, oo, none⟩ : Addr).add j) = some u := by
    intro bb oo x hx j u hj
    have hjl : j < x.length := by
      rcases Nat.lt_or_ge j x.length with h | h
      · exact h
      · rw [List.getElem?_eq_none (by rw [bvs_length]; exact h)] at hj; cases hj
    rw [addr_add, hx j hjl, ← hj]; simp [bvs, hjl]
  have hl1 : ∀ j, (hj : j < l.length) → w.cell? ⟨b, off + j, none⟩ = some (bv l[j]) := fun j hj => h.cell j hj
  have hr := run_append_grow (P := Try.prog) w 39 ty 5 i0 _ Try.underlying39 hi hz0 ⟨b, off, none⟩ l.length cap (bvs l) (by rw [bvs_length, hz1, Nat.mul_one]) (cs b off l hl1) ⟨b2, off2, none⟩ m.length c (bvs m) (by rw [bvs_length, hz1, Nat.mul_one]) (cs b2 off2 m hc2) hcap (by omega) (growslice_fits (by omega) (by rw [hz2]; omega))
  have hge := grownCap_ge w (l.length + m.length) cap 5
  have hcm : grownCap w (l.length + m.length) cap 5 ≤ maxLen := grownCap_le_maxLen w _ cap 5 (by unfold maxLen; omega)
  refine ⟨_, _, hr, ⟨by rw [bvs_length]; simp, .inr ⟨w.heap.size, _, _, by rw [List.length_append], hbase, heap_alloc_new w.drew _, by rw [List.length_append]; exact hge, hcm, ?_, ?_⟩⟩, ?_⟩
  · simp only [Array.size_append, List.size_toArray, size_zeroCells, bvs_length]
    show l.length + m.length + (grownCap w (l.length + m.length) cap 5 - (l.length + m.length)) * 1 = _
    omega
  · rw [Array.toList_append, Array.toList_append, bvs_append, show (bvs l).toArray.toList ++ (bvs m).toArray.toList = bvs l ++ bvs m from rfl, show (l ++ m).length * 1 = (bvs l ++ bvs m).length by simp [bvs_length]]
    exact List.take_left
  · exact (Below.refl _ _).drew.alloc hbase _
theorem wpList_append_new {w : World} {ops : Array Oper} {rest : List Oper} {o : Oper} {a : Act} {Q : Exit → Act → World → Prop} (hgd : o.guard = none) (s x : Operand)
    (ho : o.op = .call { callee := .builtin .append, args := #[s, x], argTypes := #[39, 39] }) (base : Nat) (l m : List UInt8) (b off cap : Nat) (hs : a.eval s = .slice (some ⟨b, off, none⟩) l.length cap) (sp : Option Addr) (n c : Nat) (hx : a.eval x = .slice sp n c) (hn : n = m.length)
    (hown : Src w (some ⟨b, off, none⟩) l) (hsrc : Src w sp m) (hm : 0 < m.length) (hcap : cap < l.length + m.length) (hbase : base ≤ w.heap.size) (hb : l.length + m.length ≤ 140737488355328)
    (h : ∀ v' w', Own w' base v' (l ++ m) → Below base w w' → wpList Try.prog ops Q rest (a.put o.dst v') w') : wpList Try.prog ops Q (o :: rest) a w := by
  subst hn
  refine wpList_plain hgd fun K hK => ?_
  obtain ⟨v', w', hrun, h1, h2⟩ := append_new o.type cap c hown hsrc hm hcap hbase hb
  unfold Oper.wp execOp
  simp only [ho, resolve, invoke, builtin]
  simp [hs, hx, hrun, Result.andThen]
  exact hK _ _ (h v' w' h1 h2)
theorem Try.zeroC : ∃ Z : Array Value, (∀ w, (zeroValue 84).run Try.prog w = .ok (.agg Z) w) ∧ Z.size = 256 ∧ (Try.prog.info? 84).map (·.size) = some 256 ∧ Hid (Z = (bvs (List.replicate 256 0)).toArray) := by
  have h : (Try.prog.info? 84).map (fun i => (i.zero, i.size)) = some (some (.agg (bvs (List.replicate 256 0)).toArray), 256) := by kernel_rfl
  obtain ⟨h1, h2⟩ := zero_of_info h
  exact ⟨_, h1, by rw [List.size_toArray, bvs_length, List.length_replicate], h2, rfl⟩
/-- The load of a whole content. -/
theorem wpList_load_con {ops : Array Oper} {rest : List Oper} {op : Oper} {a : Act} {w : World} {Q : Exit → Act → World → Prop} (hgd : op.guard = none) (x : Operand) (ho : op.op = .load 84 x)
    (b o : Nat) (hx : a.eval x = .pointer (some ⟨b, o, none⟩)) (s : List UInt8) (hc : w.rangeAt b o (bvs s)) (hs : s.length = 256)
    (h : wpList Try.prog ops Q rest (a.put op.dst (.agg (bvs s).toArray)) w) : wpList Try.prog ops Q (op :: rest) a w := by
  obtain ⟨Z, _, _, hinfo, _⟩ := Try.zeroC
  exact wpList_load_mid hgd 84 x ho b o hx _ _ hc Try.underlying84 rfl (by rw [hinfo, bvs_length, hs]) h
theorem load_con {w : World} {b o : Nat} {s : List UInt8} (hc : w.rangeAt b o (bvs s)) (hs : s.length = 256) : (Instr.loadAt 84 (.pointer (some ⟨b, o, none⟩))).run Try.prog w = .ok (.agg (bvs s).toArray) w := by
  obtain ⟨Z, _, _, hinfo, _⟩ := Try.zeroC
  exact run_loadAt_mid w b o 84 (bvs s) _ hc Try.underlying84 rfl (by rw [hinfo, bvs_length, hs])
theorem wpList_store_con {ops : Array Oper} {rest : List Oper} {op : Oper} {a : Act} {w : World} {Q : Exit → Act → World → Prop} (hgd : op.guard = none) (x y : Operand) (ho : op.op = .store 84 x y)
    (g : Nat) (cur : Array Value) (s : List UInt8) (hx : a.eval x = .pointer (some ⟨g, 0, none⟩)) (hy : a.eval y = .agg (bvs s).toArray)
    (hg : w.heap[g]? = some (.cells cur 84 (0, 0))) (hc : cur.size = 256) (hs : s.length = 256)
    (h : ∀ w', Blk w' g 84 s → Below g w w' → w'.heap.size = w.heap.size → wpList Try.prog ops Q rest (a.put op.dst undef) w') : wpList Try.prog ops Q (op :: rest) a w := by
  obtain ⟨Z, _, _, hinfo, _⟩ := Try.zeroC
  refine wpList_plain hgd fun K hK => ?_
  have hsz : (bvs s).toArray.size = 256 := by rw [List.size_toArray, bvs_length, hs]
  have hrun := run_storeVar_row (P := Try.prog) w g 84 84 cur (bvs s).toArray hg (by rw [hinfo, hsz]) (by rw [hc, hsz]) (all_oneCell_toArray (bvs_one _))
  unfold Oper.wp execOp
  simp only [ho, hx, hy, Instr.storeAt, Instr.sureAddr, Sem.run_bind, Sem.run_pure, Result.andThen_ok, hrun]
  exact hK _ _ (h _ (setRow_heap w g _ _ 84 _ hg) (below_setRow (Below.refl _ _) (Nat.le_refl _) _) (by simp))
set_option maxHeartbeats 1000000 in
theorem set_any (g : Nat) (t : TypeId) (x data : List UInt8) (r : List Value) (sp : Option Addr) (cap : Nat) (w : World) (hg : w.heap[g]? = some (.cells (bvs x ++ r).toArray t (0, 0))) (hx : x.length = 256) (hs : Src w sp data) (hd : data.length = 256) :
    Calls Try.prog 52 #[.pointer (some ⟨g, 0, none⟩), .slice sp 256 cap] w fun e w' => e = .returned (.tuple #[]) ∧ w'.heap[g]? = some (.cells (bvs data ++ r).toArray t (0, 0)) ∧ Fr (fun k => k = g) w w' ∧ Below g w w' ∧ w'.heap.size = w.heap.size := by
  obtain ⟨ad, had, hcs⟩ := hs.pos 256 (by rw [bvs_length, List.length_take, hd]; omega)
  subst had
  rw [List.take_of_length_le (by omega)] at hcs
  have hrun := run_copy_row (P := Try.prog) w 39 39 3 5 g 0 256 256 ad 256 cap (bvs x ++ r).toArray t (bvs data) Try.underlying39 Try.elem1 hg (by rw [bvs_length, hd]; rfl) hcs (by simp [bvs_length, hx, hd]) (bvs_one _)
  rw [bvs_length, hd] at hrun
  have e1 : ((bvs x ++ r).toArray.toList.take 0 ++ bvs data ++ (bvs x ++ r).toArray.toList.drop (0 + 256)) = bvs data ++ r := by
    rw [List.toList_toArray, List.take_zero, List.nil_append, Nat.zero_add, List.drop_left' (by rw [bvs_length, hx])]
  rw [e1] at hrun
  have hfin := setRow_heap w g _ (bvs data ++ r).toArray t _ hg
  have HF : Hid _ := hfin
  clear hfin hg hcs hs e1
  go_enter Try.func52, Try.ntmps52
  go_wp2
  go_end0
  exact ⟨rfl, HF.out, ⟨by simp, fun k _ hk => setRow_other _ _ _ _ hk, rfl, rfl, rfl⟩, below_setRow (Below.refl _ _) (Nat.le_refl _) _, by simp⟩
set_option maxHeartbeats 1000000 in
theorem clone_any (b o c : Nat) (l : List UInt8) (w : World) (hs : Src w (some ⟨b, o, none⟩) l) (hl : l.length = 256) :
    Calls Try.prog 71 #[.slice (some ⟨b, o, none⟩) 256 c] w fun e w' => ∃ v, e = .returned v ∧ Own w' w.heap.size v l ∧ Below w.heap.size w w' := by
  have EQ : ∀ W : World, (binOp .eql 39 (.slice (some ⟨b, o, none⟩) 256 c) (.slice none 0 0)).run Try.prog W = .ok (.bool false) W := fun W => run_eql_nil_slice W 39 5 (some ⟨b, o, none⟩) 256 c 0 0 Try.underlying39
  have HB0 : Hid (Below w.heap.size w (w.alloc (.cells #[] 5))) := (Below.refl _ _).alloc (Nat.le_refl _) _
  have HS : Hid (Src (w.alloc (.cells #[] 5)) (some ⟨b, o, none⟩) l) := hs.below HB0.out (Nat.le_refl _)
  have HL : Hid (l.length = 256) := hl
  clear hs hl
  go_enter Try.func71, Try.ntmps71
  go_upto_region 3 with fail
  go_wp2_with (at_builtin; refine wpList_append_new rfl (.tmp 5) (.tmp 6) rfl w.heap.size [] l w.heap.size 0 0 rfl _ _ _ rfl HL.out.symm (Src.nil _ _) HS.out (by rw [HL.out]; omega) (by rw [HL.out]; simp) HB0.out.size (by rw [HL.out]; simp) ?_; intro v' w2 hO2 hb2)
  rw [List.nil_append] at hO2
  have HO : Hid _ := hO2
  have HB : Hid _ := HB0.out.trans hb2
  clear hO2 hb2 EQ
  go_wp2_with fail
  go_ret
  exact ⟨_, rfl, HO.out, HB.out⟩
set_option maxHeartbeats 1000000 in
theorem bytes_any (g : Nat) (t : TypeId) (x : List UInt8) (r : List Value) (w : World) (hg : w.heap[g]? = some (.cells (bvs x ++ r).toArray t (0, 0))) (hx : x.length = 256) :
    Calls Try.prog 51 #[.pointer (some ⟨g, 0, none⟩)] w fun e w' => ∃ v, e = .returned v ∧ Own w' w.heap.size v x ∧ Below w.heap.size w w' := by
  have hs : Src w (some ⟨g, 0, none⟩) x := .inr ⟨g, 0, rfl, (Array.getElem?_eq_some_iff.1 hg).1, fun j hj => by
    rw [Nat.zero_add, cell_of_row w g j _ _ _ hg]
    simp only [List.getElem?_toArray]
    rw [List.getElem?_append_left (by rw [bvs_length]; exact hj)]
    simp [bvs, hj]⟩
  have CL := clone_any g 0 256 x w hs hx
  clear hs hg
  go_enter Try.func51, Try.ntmps51
  go_wp2_with fail
  refine CL.mono ?_
  rintro e w1 ⟨v, rfl, h1, h2⟩
  go_wp2
  go_ret
  exact ⟨v, rfl, h1, h2⟩
/-- What the disk has of a block. -/
def lst (σ : CSt) (n : Nat) : List UInt8 := lastOf (σ.sf n) (σ.ws n)
theorem lst_len {w : World} {base : Nat} {σ : CSt} {O : List Int} (h : CS w base σ O) (n : Nat) (hn : n < σ.dn) : (lst σ n).length = 256 := h.disk.lastLen n hn
set_option maxHeartbeats 1000000 in
theorem stands_any {w : World} {base : Nat} {σ : CSt} {O : List Int} (h : CS w base σ O) (n : Nat) (hn : n < σ.dn) :
    Calls Try.prog 64 #[.pointer (some ⟨σ.p, 0, none⟩), .int .i64 (n : Int)] w fun e w' => e = .returned (.agg (bvs (lst σ n)).toArray) ∧ Below w.heap.size w w' := by
  obtain ⟨Z, hz, hzs, hinfo, HZ⟩ := Try.zeroC
  have HZ2 : Hid (Z = (bvs (List.replicate 256 0) ++ []).toArray) := by show _ = _; rw [List.append_nil]; exact HZ.out
  have s1 : ∀ (v : World) (o : Obj), (v.alloc o).heap.size = v.heap.size + 1 := fun v o => by show (v.heap.push o).size = _; simp
  have HB0 : Hid (Below w.heap.size w ((w.alloc (.cells Z 84)).alloc (.cells Z 84))) := ((Below.refl _ _).alloc (Nat.le_refl _) _).alloc (by rw [s1]; omega) _
  have h1 := h.up HB0.out
  have HL : Hid ((lst σ n).length = 256) := lst_len h n hn
  have RD := read_any h1.disk n hn
  have HG0 : Hid (((w.alloc (.cells Z 84)).alloc (.cells Z 84)).heap[w.heap.size + 1]? = some (.cells Z 84 (0, 0))) := by
    have := heap_alloc_new (w.alloc (.cells Z 84)) (.cells Z 84)
    rw [s1] at this; exact this
  have HG1 : Hid (((w.alloc (.cells Z 84)).alloc (.cells Z 84)).heap[w.heap.size]? = some (.cells Z 84 (0, 0))) :=
    (Below.heap_alloc _ _ _ (by rw [s1]; omega)).trans (heap_alloc_new w _)
  have HSZ : Hid (((w.alloc (.cells Z 84)).alloc (.cells Z 84)).heap.size = w.heap.size + 2) := by show _ = _; rw [s1, s1]
  have q0 := h1.c0
  clear h1 h HZ s1
  go_enter Try.func64, Try.ntmps64
  go_wp2_with fail
  generalize (w.alloc (.cells Z 84)).alloc (.cells Z 84) = w0 at *
  refine RD.mono ?_
  clear RD
  rintro e w1 ⟨g, rfl, hg, hge, hb1⟩
  have hl0 : w.heap.size + 1 < w0.heap.size := by rw [HSZ.out]; omega
  have hl1 : w.heap.size < w0.heap.size := by omega
  have HR1 : Hid (w1.heap[w.heap.size + 1]? = some (.cells (bvs (List.replicate 256 0) ++ []).toArray 84 (0, 0))) := by rw [← HZ2.out]; exact (hb1.block _ hl0).trans HG0.out
  have HR0 : Hid (w1.heap[w.heap.size]? = some (.cells Z 84 (0, 0))) := (hb1.block _ hl1).trans HG1.out
  have HB1 : Hid (Below w.heap.size w w1) := HB0.out.trans (hb1.mono HB0.out.size)
  have ST := set_any (w.heap.size + 1) _ _ (lst σ n) [] (some ⟨g, 0, none⟩) 256 w1 HR1.out (by rw [List.length_replicate]) hg.src HL.out
  clear hg hge hb1 HR1 HG0 HG1 HB0 HSZ HZ2 q0
  go_wp2_with fail
  refine ST.mono ?_
  clear ST
  rintro e w2 ⟨rfl, hg2, hf2, hb2, hz2⟩
  have HB2 : Hid (Below w.heap.size w w2) := HB1.out.trans (hb2.mono (by omega))
  have HR2 : Hid (w2.heap[w.heap.size]? = some (.cells Z 84 (0, 0))) := (hb2.block _ (by omega)).trans HR0.out
  have HG2 : Hid (Blk w2 (w.heap.size + 1) 84 (lst σ n)) := by rw [List.append_nil] at hg2; exact hg2
  have HRG : Hid (w2.rangeAt (w.heap.size + 1) 0 (bvs (lst σ n))) := fun j v hv => by
    rw [Nat.zero_add, cell_of_row w2 _ j _ _ _ HG2.out]; simpa using hv
  clear hg2 hf2 hb2 hz2 HB1 HR0
  go_wp2_with (first | ((with_reducible show wpList _ _ _ ({ dst := _, op := Op.load 84 _, type := _, pos := _, after := _, guard := _ } :: _) _ _); refine wpList_load_con rfl (.tmp 5) rfl (w.heap.size + 1) 0 rfl (lst σ n) HRG.out HL.out ?_) | ((with_reducible show wpList _ _ _ ({ dst := _, op := Op.store 84 _ _, type := _, pos := _, after := _, guard := _ } :: _) _ _); refine wpList_store_con rfl (.tmp 4) (.tmp 19) rfl w.heap.size Z (lst σ n) rfl rfl HR2.out hzs HL.out ?_; intro w3 hg3 hb3 hz3))
  exact bodyPost_ret (v := .agg (bvs (lst σ n)).toArray) (results_cell_row rfl _ _ w.heap.size 84 _ _ _ rfl hg3 Try.underlying84 rfl (by rw [hinfo, List.size_toArray, bvs_length, HL.out])) rfl ⟨rfl, HB2.out.trans hb3⟩
end Go.Proofs.Ytikpnfnbmbaljaa
