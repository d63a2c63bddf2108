/- dirent.lay, dirent.Put. -/
import Derived.Test.YtabmogeicpphoaaJ8
import Derived.Lib.BufferWrite
namespace Go.Proofs.Ytabmogeicpphoaa
open Go.RowKit
def z32 : List UInt8 := List.replicate 32 0
theorem z32_length : z32.length = 32 := List.length_replicate
theorem zero32 : ∃ Z : Array Value, (∀ w, (zeroValue 80).run Try.prog w = .ok (.agg Z) w) ∧ Z.size = 32 ∧ Hid (Z = (bvs z32).toArray) := by
  have h : (Try.prog.info? 80).map (fun i => i.zero) = some (some (.agg (bvs z32).toArray)) := by kernel_rfl
  cases hi : Try.prog.info? 80 with
  | none => rw [hi] at h; cases h
  | some i =>
    rw [hi] at h
    have hz : i.zero = some (.agg (bvs z32).toArray) := Option.some.inj h
    have key : ∀ (v : Value) (w : World), i.zero = some v → (zeroValue 80).run Try.prog w = .ok v w := by
      intro v w hv
      simp [zeroValue, typeInfo, hi, hv]
    exact ⟨_, fun w => key _ w hz, by rw [List.size_toArray, bvs_length, z32_length], rfl⟩
theorem Try.sz80 : (Try.prog.info? 80).map (·.size) = some 32 := by kernel_rfl
theorem wpList_load_32 {ops : Array Oper} {rest : List Oper} {op : Oper} {a : Act} {w : World} {Q : Exit → Act → World → Prop} (hgd : op.guard = none) (x : Operand) (ho : op.op = .load 80 x)
    {G : Nat} {t : TypeId} {s : List UInt8} (H : Blk w G t s) (hs : s.length = 32) (hx : a.eval x = .pointer (some ⟨G, 0, none⟩))
    (h : wpList Try.prog ops Q rest (a.put op.dst (.agg (bvs s).toArray)) w) : wpList Try.prog ops Q (op :: rest) a w :=
  wpList_load_mid hgd 80 x ho G 0 hx (bvs s) _ (fun j v hv => by
    rw [Nat.zero_add, cell_of_row w G j _ _ _ H]; simpa using hv) Try.underlying80 rfl (by rw [Try.sz80, bvs_length, hs]) h
theorem wpList_store_32 {ops : Array Oper} {rest : List Oper} {op : Oper} {a : Act} {w : World} {Q : Exit → Act → World → Prop} (hgd : op.guard = none) (x y : Operand) (ho : op.op = .store 80 x y)
    {G : Nat} {Z : Array Value} {s : List UInt8} (H : w.heap[G]? = some (.cells Z 80 (0, 0))) (hZ : Z.size = 32) (hs : s.length = 32) (hx : a.eval x = .pointer (some ⟨G, 0, none⟩)) (hy : a.eval y = .agg (bvs s).toArray)
    (h : ∀ w', Blk w' G 80 s → Below G w w' → w'.heap.size = w.heap.size → wpList Try.prog ops Q rest (a.put op.dst undef) w') : wpList Try.prog ops Q (op :: rest) a w := by
  refine wpList_plain hgd fun K hK => ?_
  have hsz : (bvs s).toArray.size = 32 := by rw [List.size_toArray, bvs_length, hs]
  have hrun := run_storeVar_row (P := Try.prog) w G 80 80 Z (bvs s).toArray H (by rw [Try.sz80, hsz]) (by rw [hZ, hsz]) (all_oneCell_toArray (bvs_one _))
  unfold Oper.wp execOp
  simp only [ho, hx, hy, Instr.storeAt, Instr.sureAddr, Sem.run_bind, Sem.run_pure, Result.andThen_ok, hrun]
  exact hK _ _ (h _ (setRow_heap w G _ _ 80 _ H) (below_setRow (Below.refl _ _) (Nat.le_refl _) _) (by simp))
theorem exec_load_32 {ev : Operand → Value} {oi : Oper} {x : Operand} {w : World} {b o : Nat} {l : List UInt8} (H : Src w (some ⟨b, o, none⟩) l) (hl : l.length = 32) (ho : oi.op = .load 80 x) (hx : ev x = .pointer (some ⟨b, o, none⟩)) :
    (execOp ev oi).run Try.prog w = .ok (.value (.agg (bvs l).toArray)) w := by
  unfold execOp
  simp only [ho, hx, Instr.loadAt, Instr.sureAddr, Sem.run_bind, Sem.run_pure, Result.andThen_ok, run_loadVar_mid w b o 80 (bvs l) _ (src_range H) Try.underlying80 rfl (by rw [Try.sz80, bvs_length, hl])]
theorem run_neq_32 {x y : List UInt8} (hx : x.length = 32) (hy : y.length = 32) (w : World) : (binOp .neq 80 (.agg (bvs x).toArray) (.agg (bvs y).toArray)).run Try.prog w = .ok (.bool (!(x == y))) w := by
  rw [run_neq_struct, show (Op.equalIn 10000 80 (.agg (bvs x).toArray) (.agg (bvs y).toArray)).run Try.prog w = .ok (x == y) w from run_equalIn_bytes w 9998 80 5 32 Try.underlying80 Try.underlying5 size5 x y hx hy]
  rfl
theorem exec_neq_32 {ev : Operand → Value} {oi : Oper} {X Y : Operand} {w : World} {x y : List UInt8} (hx : x.length = 32) (hy : y.length = 32) {b : Bool} (hb : (!(x == y)) = b) (ho : oi.op = .binOp .neq 80 X Y 80) (eX : ev X = .agg (bvs x).toArray) (eY : ev Y = .agg (bvs y).toArray) :
    (execOp ev oi).run Try.prog w = .ok (.value (.bool b)) w := by
  subst hb
  have hg : ∀ A B (w : World), (eqGuard .neq 80 X Y (.agg A) (.agg B)).run Try.prog w = .ok () w := fun A B w => run_eqGuard_agg w .neq 80 X Y A B (by kernel_rfl)
  unfold execOp
  simp only [ho, eX, eY]
  simp [hg, run_neq_32 hx hy, Result.andThen]
/-- What lay has laid. -/
structure LE (w0 : World) (e : Ent) (Z : Array Value) (q : Nat) (cur : List UInt8) (W : World) : Prop where
  b : Below w0.heap.size w0 W
  ent : EntAt W w0.heap.size e
  res : W.heap[w0.heap.size + 1]? = some (.cells Z 80 (0, 0))
  blk : Blk W q 80 cur
  lt : w0.heap.size + 1 < q
section
variable {w0 W W' : World} {e : Ent} {cur cur' : List UInt8} {Z : Array Value} {q : Nat}
theorem LE.low (h : LE w0 e Z q cur W) (hb : Below q W W') (hc : Blk W' q 80 cur') : LE w0 e Z q cur' W' :=
  have hl := h.lt
  ⟨h.b.trans (hb.mono (by omega)), h.ent.below hb (by omega), by rw [hb.block _ (by omega)]; exact h.res, hc, hl⟩
theorem LE.drew (h : LE w0 e Z q cur W) : LE w0 e Z q cur W.drew := ⟨h.b.drew, h.ent.drew, h.res, h.blk, h.lt⟩
end
theorem LE.start (w : World) (e : Ent) (Z : Array Value) (hz : Z = (bvs z32).toArray) :
    LE w e Z (w.heap.size + 2) z32 (((w.alloc (.cells (eA e) 48)).alloc (.cells Z 80)).alloc (.cells Z 80)) := by
  have s1 : (w.alloc (.cells (eA e) 48)).heap.size = w.heap.size + 1 := by simp
  have s2 : ((w.alloc (.cells (eA e) 48)).alloc (.cells Z 80)).heap.size = w.heap.size + 2 := by simp
  have h1 := heap_alloc_new (w.alloc (.cells (eA e) 48)) (.cells Z 80)
  have h2 := heap_alloc_new ((w.alloc (.cells (eA e) 48)).alloc (.cells Z 80)) (.cells Z 80)
  rw [s1] at h1
  rw [s2] at h2
  refine ⟨(((Below.refl _ _).alloc (Nat.le_refl _) _).alloc (by simp) _).alloc (by simp; omega) _, ((ent_new w e).alloc _).alloc _, (Below.heap_alloc _ _ _ (by rw [s2]; omega)).trans h1, ?_, by omega⟩
  unfold Blk
  rw [← hz]
  exact h2
theorem lay_parts (SL : Nat) (x y : UInt8) (nm : List UInt8) : layAt (((layAt z32 0 (leB 2 SL)).set 2 x).set 3 y) 4 nm = leB 2 SL ++ [x, y] ++ nm ++ List.replicate (28 - nm.length) 0 := by
  obtain ⟨a, b, h⟩ := two_of (leB_length 2 SL)
  have e : ((layAt z32 0 (leB 2 SL)).set 2 x).set 3 y = [a, b, x, y] ++ List.replicate 28 0 := by rw [h]; rfl
  rw [e, h]
  unfold layAt
  rw [show List.take 4 ([a, b, x, y] ++ List.replicate 28 (0 : UInt8)) = [a, b, x, y] from rfl]
  have hd : List.drop (4 + nm.length) ([a, b, x, y] ++ List.replicate 28 (0 : UInt8)) = List.replicate (28 - nm.length) 0 := by
    rw [List.drop_append, List.drop_eq_nil_of_le (by simp), List.nil_append, List.drop_replicate]
    congr 1
    simp
  rw [hd]
  rfl
/-- 'copy' of a text into a block of bytes. -/
theorem copy_text {w : World} {G o dLen cap : Nat} {t : TypeId} {cur x : List UInt8} (hg : Blk w G t cur) (hd : o + dLen ≤ cur.length) (hx : x.length ≤ dLen) :
    ∃ w1, (Builtin.copy_ #[25, 9] 3 #[.slice (some ⟨G, o, none⟩) dLen cap, .string (str x)]).run Try.prog w = .ok (.int .i64 (x.length : Nat)) w1 ∧ Blk w1 G t (layAt cur o x) ∧ Below G w w1 ∧ w1.heap.size = w.heap.size := by
  have h := Lib.run_copy_row_string (P := Try.prog) w 25 9 3 5 G o dLen cap (str x) _ t Try.underlying25 Try.elem1 hg (by rw [str_size]; omega) (by rw [List.size_toArray, bvs_length, str_size]; omega)
  rw [str_size] at h
  refine ⟨_, h, ?_, below_setRow (Below.refl _ _) (Nat.le_refl _) _, by simp⟩
  have h2 := setRow_heap w G _ ((bvs cur).toArray.toList.take o ++ Lib.byteCells x ++ (bvs cur).toArray.toList.drop (o + x.length)).toArray t _ hg
  rw [Blk]
  refine h2.trans ?_
  congr 3
  simp only [layAt, bvs_append, bvs_drop, bvs_take]
  rfl
attribute [local go_sem] wrapU
set_option maxRecDepth 100000 in
set_option maxHeartbeats 4000000 in
theorem elay_any (e : Ent) (hr : EnR e) (w : World) :
    Calls Try.prog 62 #[.agg (eA e)] w fun r w' => r = .returned (.agg (bvs (layE e)).toArray) ∧ Below w.heap.size w w' := by
  obtain ⟨Z, hz, hzs, HZ⟩ := zero32
  have HS : Hid _ := LE.start w e Z HZ.out
  have hsl := hr.sl
  have hnl := hr.nm
  obtain ⟨SL, HSL⟩ : ∃ n : Nat, Hid (e.sl = (n : Int)) := ⟨e.sl.toNat, by show _ = _; omega⟩
  obtain ⟨N, HNM⟩ : ∃ n, Hid (n = e.nm) := ⟨_, rfl⟩
  obtain ⟨LV, HLV⟩ : ∃ n, Hid (n = e.lv) := ⟨_, rfl⟩
  rw [← HNM.out] at hnl
  rw [HSL.out] at hsl
  have u1 : InU (SL : Int) := ⟨by omega⟩
  have HLE : Hid (layAt (((layAt z32 0 (leB 2 SL)).set 2 (lvB LV)).set 3 (UInt8.ofNat N.length)) 4 N = layE e) := by
    show _ = _
    rw [lay_parts SL _ _ N]
    unfold layE
    rw [HSL.out, Int.toNat_natCast, ← HNM.out, ← HLV.out]
  have HLN : Hid ((layE e).length = 32) := layE_length hr.nm
  have hsz := str_size N
  clear hr
  go_enter Try.func62, Try.ntmps62
  go_upto_region 2 with fail
  generalize ((w.alloc (.cells (eA e) 48)).alloc (.cells Z 80)).alloc (.cells Z 80) = W at *
  generalize w.heap.size + 2 = q at *
  have hq := HS.out.lt
  have d2 := HS.out.drew
  clear HS HZ
  refine wp_region_held_drew (S := (fun W => EntAt W w.heap.size e)) (by kernel_rfl) d2.ent (fun hH => ?_)
  refine takeH (i := 0) (dst := some 4) (v := ?v1) rfl rfl (by kernel_rfl) (by kernel_rfl) (by kernel_rfl) (fun _ _ _ h => h) rfl ?hy1 hH rfl ?rest1
  case hy1 => (intro W hW; have q0 := hW.c0; have q2 := hW.c2; rw [HSL.out] at q0; rw [← HNM.out] at q2; clear hW; go_simp; try with_reducible rfl)
  (try simp only [Act.put, List.setIfInBounds_toArray, List.set_cons_zero, List.set_cons_succ])
  refine takeH (i := 1) (dst := some 5) (v := ?v2) rfl rfl (by kernel_rfl) (by kernel_rfl) (by kernel_rfl) (fun _ _ _ h => h) rfl ?hy2 hH rfl ?rest2
  case hy2 => (intro W hW; have q0 := hW.c0; have q2 := hW.c2; rw [HSL.out] at q0; rw [← HNM.out] at q2; clear hW; go_simp; try with_reducible rfl)
  (try simp only [Act.put, List.setIfInBounds_toArray, List.set_cons_zero, List.set_cons_succ])
  refine takeH (i := 2) (dst := some 6) (v := ?v3) rfl rfl (by kernel_rfl) (by kernel_rfl) (by kernel_rfl) (fun _ _ _ h => h) rfl ?hy3 hH rfl ?rest3
  case hy3 => (intro W hW; have q0 := hW.c0; have q2 := hW.c2; rw [HSL.out] at q0; rw [← HNM.out] at q2; clear hW; go_simp; try with_reducible rfl)
  (try simp only [Act.put, List.setIfInBounds_toArray, List.set_cons_zero, List.set_cons_succ])
  refine takeH (i := 3) (dst := some 7) (v := ?v4) rfl rfl (by kernel_rfl) (by kernel_rfl) (by kernel_rfl) (fun _ _ _ h => h) rfl ?hy4 hH rfl ?rest4
  case hy4 => (intro W hW; have q0 := hW.c0; have q2 := hW.c2; rw [HSL.out] at q0; rw [← HNM.out] at q2; clear hW; go_simp; try with_reducible rfl)
  (try simp only [Act.put, List.setIfInBounds_toArray, List.set_cons_zero, List.set_cons_succ])
  refine callH (i := 4) { dst := some 8, op := Go.Op.call { callee := Go.Callee.value (Go.Operand.func 70), args := #[Go.Operand.tmp 4, Go.Operand.tmp 7], argTypes := #[25, 67] }, type := 0, pos := "dirent.go:54", after := #[{ on := 0, ground := Go.Ground.data }, { on := 3, ground := Go.Ground.data }], guard := none } (by kernel_rfl) rfl rfl (fun K hK => ?_)
  go_simp
  refine (putAt_any q 80 _ 0 2 32 SL (by omega) (by omega) (by omega) (by simp [z32_length]) _ d2.blk (by omega) (by omega)).mono ?_
  rintro r v2 ⟨rfl, g2, b2⟩
  have m2 := d2.low b2 g2
  clear g2 b2
  clear hH
  refine hK.out _ _ m2.ent (fun hH => ?_)
  clear hK K
  (try simp only [Act.put, List.setIfInBounds_toArray, List.set_cons_zero, List.set_cons_succ])
  refine wpAnyH_done (by kernel_rfl) ?_ _
  clear hH
  have H2 : Hid _ := m2
  clear m2 d2
  have HL2 : Hid ((layAt z32 0 (leB 2 SL)).length = 32) := by show _ = _; rw [layAt_length _ _ _ (by rw [leB_length, z32_length]; omega), z32_length]
  have c1 := H2.out.ent.c1
  rw [← HLV.out] at c1
  have HL3 : Hid (((layAt z32 0 (leB 2 SL)).set 2 (lvB LV)).length = 32) := by show _ = _; rw [List.length_set, HL2.out]
  go_upto_if 10 with fail
  go_cut [3] (fun s wc => s = .pointer (some ⟨q, 0, none⟩) ∧ LE w e Z q ((layAt z32 0 (leB 2 SL)).set 2 (lvB LV)) wc)
  case first =>
    cases LV
    · have HLF : Hid ((layAt z32 0 (leB 2 SL)).set 2 (lvB false) = layAt z32 0 (leB 2 SL)) := by
        obtain ⟨x, y, h⟩ := two_of (leB_length 2 SL)
        show _ = _
        rw [h]; rfl
      go_wp2
      go_meet
      case rel => exact ⟨rfl, by rw [HLF.out]; exact H2.out⟩
    · have r2 := H2.out.blk.cell 2 (by rw [HL2.out]; omega)
      have f2 := H2.out.blk.frozen 2
      have H3 : Hid (LE w e Z q ((layAt z32 0 (leB 2 SL)).set 2 (lvB true)) (v2.setCell ⟨q, 2, none⟩ (.int .u8 1))) := H2.out.low ((Below.refl _ _).setCell (by simp) _) (H2.out.blk.set 2 1)
      go_wp2
      go_meet
      case rel => exact ⟨rfl, H3.out⟩
  case rest =>
    obtain ⟨rfl, hle⟩ := hcut
    have H3 : Hid _ := hle
    clear hle H2 c1
    have r3 := H3.out.blk.cell 3 (by rw [HL3.out]; omega)
    have f3 := H3.out.blk.frozen 3
    have c2 := H3.out.ent.c2
    rw [← HNM.out] at c2
    have hnI : (N.length : Int) ≤ 24 := by omega
    have hbn : bv (UInt8.ofNat N.length) = .int .u8 (N.length : Int) := by
      unfold bv; congr 1
      have : (UInt8.ofNat N.length).toNat = N.length := by simp; omega
      rw [this]
    have HL4 : Hid ((((layAt z32 0 (leB 2 SL)).set 2 (lvB LV)).set 3 (UInt8.ofNat N.length)).length = 32) := by show _ = _; rw [List.length_set, HL3.out]
    have H4 : Hid (LE w e Z q (((layAt z32 0 (leB 2 SL)).set 2 (lvB LV)).set 3 (UInt8.ofNat N.length)) (wc.setCell ⟨q, 3, none⟩ (.int .u8 (N.length : Int)))) := by
      have := H3.out.blk.set 3 (UInt8.ofNat N.length)
      rw [hbn] at this
      exact H3.out.low ((Below.refl _ _).setCell (by simp) _) this
    clear hbn
    go_upto_region 6 with fail
    generalize wc.setCell ⟨q, 3, none⟩ (.int .u8 (N.length : Int)) = W5 at *
    have d6 := H4.out.drew
    clear H3 H4 r3 f3 c2
    obtain ⟨w7, cp7, g7, b7, _⟩ := copy_text (o := 4) (dLen := 28) (cap := 28) (x := N) d6.blk (by rw [HL4.out]; omega) (by omega)
    rw [HLE.out] at g7
    have m7 := d6.low b7 g7
    refine wp_region_held_drew (S := (fun W => EntAt W w.heap.size e)) (by kernel_rfl) d6.ent (fun hH => ?_)
    refine takeH (i := 0) (dst := some 17) (v := ?v5) rfl rfl (by kernel_rfl) (by kernel_rfl) (by kernel_rfl) (fun _ _ _ h => h) rfl ?hy5 hH rfl ?rest5
    case hy5 => (intro W hW; have q0 := hW.c0; have q2 := hW.c2; rw [HSL.out] at q0; rw [← HNM.out] at q2; clear hW; go_simp; try with_reducible rfl)
    (try simp only [Act.put, List.setIfInBounds_toArray, List.set_cons_zero, List.set_cons_succ])
    refine takeH (i := 1) (dst := some 18) (v := ?v6) rfl rfl (by kernel_rfl) (by kernel_rfl) (by kernel_rfl) (fun _ _ _ h => h) rfl ?hy6 hH rfl ?rest6
    case hy6 => (intro W hW; have q0 := hW.c0; have q2 := hW.c2; rw [HSL.out] at q0; rw [← HNM.out] at q2; clear hW; go_simp; try with_reducible rfl)
    (try simp only [Act.put, List.setIfInBounds_toArray, List.set_cons_zero, List.set_cons_succ])
    refine takeH (i := 2) (dst := some 19) (v := ?v7) rfl rfl (by kernel_rfl) (by kernel_rfl) (by kernel_rfl) (fun _ _ _ h => h) rfl ?hy7 hH rfl ?rest7
    case hy7 => (intro W hW; have q0 := hW.c0; have q2 := hW.c2; rw [HSL.out] at q0; rw [← HNM.out] at q2; clear hW; go_simp; try with_reducible rfl)
    (try simp only [Act.put, List.setIfInBounds_toArray, List.set_cons_zero, List.set_cons_succ])
    refine callH (i := 3) { dst := some 20, op := Go.Op.call { callee := Go.Callee.builtin Go.Builtin.copy, args := #[Go.Operand.tmp 17, Go.Operand.tmp 19], argTypes := #[25, 9] }, type := 3, pos := "dirent.go:59", after := #[{ on := 0, ground := Go.Ground.data }, { on := 2, ground := Go.Ground.data }], guard := none } (by kernel_rfl) rfl rfl (fun K hK => ?_)
    go_simp
    clear hH
    refine hK.out _ _ m7.ent (fun hH => ?_)
    clear hK K
    (try simp only [Act.put, List.setIfInBounds_toArray, List.set_cons_zero, List.set_cons_succ])
    refine wpAnyH_done (by kernel_rfl) ?_ _
    clear hH
    have H7 : Hid _ := m7
    clear m7 d6 g7 b7 cp7
    go_wp2_with (first | ((with_reducible show wpList _ _ _ ({ dst := _, op := Op.load 80 _, type := _, pos := _, after := _, guard := _ } :: _) _ _); refine wpList_load_32 rfl _ rfl H7.out.blk HLN.out rfl ?_) | ((with_reducible show wpList _ _ _ ({ dst := _, op := Op.store 80 _ _, type := _, pos := _, after := _, guard := _ } :: _) _ _); refine wpList_store_32 rfl _ _ rfl H7.out.res hzs HLN.out rfl rfl ?_; intro w9 G9 b9 z9))
    exact bodyPost_ret (results_cell_row rfl _ _ (w.heap.size + 1) 80 _ (0, 0) _ rfl G9 Try.underlying80 rfl (by rw [Try.sz80, List.size_toArray, bvs_length, HLN.out])) rfl ⟨rfl, H7.out.b.trans (b9.mono (by omega))⟩
set_option maxHeartbeats 4000000 in
theorem eput_no (e : Ent) (hr : rtE e = false) (w : World) :
    Calls Try.prog 30 #[.agg (eA e)] w fun r w' => r = .returned (.tuple #[.slice none 0 0, .int .i64 1]) ∧ Below w.heap.size w w' := by
  have HI : Hid (EntAt (w.alloc (.cells (eA e) 48)) w.heap.size e) := ent_new w e
  have HB : Hid (Below w.heap.size w (w.alloc (.cells (eA e) 48))) := (Below.refl _ _).alloc (Nat.le_refl _) _
  have RT := eright_any e
  rw [hr] at RT
  clear hr
  go_enter Try.func30, Try.ntmps30
  go_wp2_with (first | ((with_reducible show wpList _ _ _ ({ dst := _, op := Op.load 48 _, type := _, pos := _, after := _, guard := _ } :: _) _ _); refine wpList_load_ent rfl _ rfl (HI.out) rfl ?_))
  refine (RT _).mono ?_
  rintro r w1 ⟨rfl, h1⟩
  go_wp2
  go_ret2
  exact ⟨rfl, HB.out.trans (h1.mono HB.out.size)⟩
set_option maxRecDepth 100000 in
set_option maxHeartbeats 4000000 in
theorem eput_yes (e : Ent) (hr : rtE e = true) (w : World) :
    Calls Try.prog 30 #[.agg (eA e)] w fun r w' => ∃ G, r = .returned (.tuple #[.slice (some ⟨G, 0, none⟩) 32 32, .int .i64 0]) ∧ Blk w' G 80 (layE e) ∧ w.heap.size ≤ G ∧ Below w.heap.size w w' := by
  have HI : Hid (EntAt (w.alloc (.cells (eA e) 48)) w.heap.size e) := ent_new w e
  have HB : Hid (Below w.heap.size w (w.alloc (.cells (eA e) 48))) := (Below.refl _ _).alloc (Nat.le_refl _) _
  have RT := eright_any e
  have LA := fun W => elay_any e (rtE_enR hr) W
  have HLN : Hid ((layE e).length = 32) := layE_length (rtE_enR hr).nm
  generalize layE e = B at LA HLN ⊢
  rw [hr] at RT
  obtain ⟨Z, hz, hzs, HZ⟩ := zero32
  clear HZ hr
  go_enter Try.func30, Try.ntmps30
  go_wp2_with (first | ((with_reducible show wpList _ _ _ ({ dst := _, op := Op.load 48 _, type := _, pos := _, after := _, guard := _ } :: _) _ _); refine wpList_load_ent rfl _ rfl (HI.out) rfl ?_))
  refine (RT _).mono ?_
  rintro r w1 ⟨rfl, h1⟩
  have HI1 : Hid (EntAt w1 w.heap.size e) := HI.out.up h1
  have HB1 : Hid (Below w.heap.size w w1) := HB.out.trans (h1.mono HB.out.size)
  clear HI HB h1 RT
  go_wp2_with (first | ((with_reducible show wpList _ _ _ ({ dst := _, op := Op.load 48 _, type := _, pos := _, after := _, guard := _ } :: _) _ _); refine wpList_load_ent rfl _ rfl (HI1.out) rfl ?_))
  refine (LA _).mono ?_
  rintro r w2 ⟨rfl, h2⟩
  have HB2 : Hid (Below w.heap.size w w2) := HB1.out.trans (h2.mono HB1.out.size)
  have HN : Hid ((w2.alloc (.cells Z 80)).heap[w2.heap.size]? = some (.cells Z 80 (0, 0))) := heap_alloc_new _ _
  have HNB : Hid (Below w.heap.size w (w2.alloc (.cells Z 80))) := HB2.out.alloc HB2.out.size _
  clear HI1 h2 LA
  go_wp2_with (first | ((with_reducible show wpList _ _ _ ({ dst := _, op := Op.store 80 _ _, type := _, pos := _, after := _, guard := _ } :: _) _ _); refine wpList_store_32 rfl _ _ rfl HN.out hzs HLN.out rfl rfl ?_; intro w8 G8 b8 z8))
  have HG8 : Hid _ := G8
  have HB8 : Hid (Below w.heap.size w w8) := HNB.out.trans (b8.mono HB2.out.size)
  clear G8 b8 z8
  go_wp2
  go_ret2
  exact ⟨_, rfl, HG8.out, HB2.out.size, HB8.out⟩
end Go.Proofs.Ytabmogeicpphoaa
/- dirent.read. -/
namespace Go.Proofs.Ytabmogeicpphoaa
open Go.RowKit
/-- What the bytes say. -/
def rdL (l : List UInt8) : Nat := min (l.getD 3 0).toNat 24
def rdE (l : List UInt8) : Ent := ⟨(rdP l 0 2 : Int), nth l 2 == 1, (l.drop 4).take (rdL l)⟩
theorem rdL_le (l : List UInt8) : rdL l ≤ 24 := by unfold rdL; omega
theorem rdE_len {l : List UInt8} (hl : l.length = 32) : (rdE l).nm.length = rdL l := by
  have := rdL_le l
  simp [rdE, hl]; omega
theorem exec_build_ent {ev : Operand → Value} {oi : Oper} {w : World} {x0 x1 x2 : Operand} {a : Int} {b : Bool} {s : List UInt8} (ho : oi.op = .build 48 #[(0, x0), (1, x1), (2, x2)])
    (e0 : ev x0 = .int .i64 a) (e1 : ev x1 = .bool b) (e2 : ev x2 = .string (str s)) :
    (execOp ev oi).run Try.prog w = .ok (.value (.agg (eA ⟨a, b, s⟩))) w := by
  have h : (Instr.build 48 #[(0, .int .i64 a), (1, .bool b), (2, .string (str s))]).run Try.prog w = .ok (.agg (eA ⟨a, b, s⟩)) w := run_build w 48 _ _ (by kernel_rfl)
  unfold execOp
  simp only [ho, List.map_toArray, List.map_cons, List.map_nil, e0, e1, e2, Sem.run_bind, h, Result.andThen_ok]
  rfl
/-- The bytes. -/
structure ER (w0 : World) (bb off : Nat) (l : List UInt8) (W : World) : Prop where
  b : Below w0.heap.size w0 W
  src : Src W (some ⟨bb, off, none⟩) l
  hl : l.length = 32
  lt : bb < w0.heap.size
section
variable {w0 W W' : World} {bb off q : Nat} {l : List UInt8}
theorem ER.up (h : ER w0 bb off l W) (hb : Below W.heap.size W W') : ER w0 bb off l W' := ⟨h.b.trans (hb.mono h.b.size), h.src.below hb (Nat.le_refl _), h.hl, h.lt⟩
theorem ER.only (h : ER w0 bb off l W) (ho : Only q W W') (hq : w0.heap.size ≤ q) : ER w0 bb off l W' :=
  ⟨h.b.trans (ho.bel.mono hq), h.src.only ho (fun b o e => by cases e; have := h.lt; omega), h.hl, h.lt⟩
theorem ER.c (h : ER w0 bb off l W) (k : Nat) (hk : k < 32) : W.cell? ⟨bb, off + k, none⟩ = some (.int .u8 (nth l k)) := by
  have := h.src.cell k (by have := h.hl; omega)
  rw [bv_nth (by have := h.hl; omega)] at this
  exact this
end
/-- The first bytes of a slice. -/
theorem slice_to (bb off len cap n : Nat) (a : Int) (ha : a = (n : Int)) (h : n ≤ cap) (h0 : 0 < cap) (w : World) :
    (Instr.slice 25 (.slice (some ⟨bb, off, none⟩) len cap) none (some (.int .i64 a)) none).run Try.prog w = .ok (.slice (some ⟨bb, off, none⟩) n cap) w := by
  subst ha
  have he : Try.prog.elem 25 = 5 := by kernel_rfl
  rw [run_slice_h w 25 _ _ _ (by kernel_rfl) .i64 _ (by omega) (by omega), he, size5]
  simp only [Result.andThen_ok, sliced, Int.toNat_natCast]
  simp [show ¬ cap = 0 by omega, addr_add]
attribute [local go_sem] wrapI
set_option maxRecDepth 100000 in
set_option maxHeartbeats 4000000 in
theorem eread_any (bb off cap : Nat) (l : List UInt8) (hl : l.length = 32) (w : World) (hsrc : Src w (some ⟨bb, off, none⟩) l) (hc : (32 : Int) ≤ cap) (hm : (cap : Int) ≤ 9223372036854775807) :
    Calls Try.prog 64 #[.slice (some ⟨bb, off, none⟩) 32 cap] w fun r w' => r = .returned (.agg (eA (rdE l))) ∧ Below w.heap.size w w' := by
  have hz := zeroE
  have hbb : bb < w.heap.size := by
    obtain ⟨b', off', h1, h2, _⟩ := hsrc.at' (by omega)
    cases h1; exact h2
  have hb0 : Below w.heap.size w (w.alloc (.cells (eA zent) 48)) := (Below.refl _ _).alloc (Nat.le_refl _) _
  have HE0 : Hid (ER w bb off l (w.alloc (.cells (eA zent) 48))) := ⟨hb0, hsrc.below hb0 (Nat.le_refl _), hl, hbb⟩
  have HR0 : Hid (EntAt (w.alloc (.cells (eA zent) 48)) w.heap.size zent) := ent_new w zent
  have NG : ∀ W, Src W (some ⟨bb, off, none⟩) l → Calls Try.prog 71 #[.slice (some ⟨bb, off, none⟩) 2 cap] W fun e w' => e = .returned (.int .u64 (rdP l 0 2 : Int)) ∧ Below W.heap.size W w' := by
    intro W hW
    have h := nget_any (some ⟨bb, off + 0, none⟩) ((l.drop 0).take 2) cap W (hW.part 0 2 (by omega) (by omega))
    rw [show ((l.drop 0).take 2).length = 2 by simp [hl]] at h
    exact h
  have hs2 := slice_to bb off 32 cap 2 2 rfl (by omega) (by omega)
  have n3 : nth l 3 = ((l.getD 3 0).toNat : Int) := rfl
  have HRD : Hid (rdE l = ⟨(rdP l 0 2 : Int), nth l 2 == 1, (l.drop 4).take (rdL l)⟩) := rfl
  have x0 := rdP_lt (l := l) (o := 0) (n := 2) hl (by omega) (by omega)
  have hL := rdL_le l
  have HLn : Hid (rdL l = min (l.getD 3 0).toNat 24) := rfl
  generalize rdP l 0 2 = A0 at *
  obtain ⟨LN, HLN⟩ : ∃ x, Hid (x = rdL l) := ⟨_, rfl⟩
  rw [← HLN.out] at HRD hL HLn
  have hs4 := slice_sl bb off 32 cap 4 LN 4 (4 + (LN : Int)) (by omega) (by omega) (by omega) (by omega)
  have HSP : Hid (∀ W, Src W (some ⟨bb, off, none⟩) l → (convert 25 9 (.slice (some ⟨bb, off + 4, none⟩) LN (cap - 4))).run Try.prog W = .ok (.string (str ((l.drop 4).take LN))) W) := by
    intro W hW
    by_cases h0 : LN = 0
    · subst h0
      have := conv_str (w := W) (sp := some ⟨bb, off + 4, none⟩) (l := []) (Src.nil _ _) 0 (cap - 4) rfl
      simpa using this
    · exact conv_str (hW.part 4 LN (by omega) (by omega)) LN (cap - 4) (by simp [hl]; omega)
  have i0 : In64 (A0 : Int) := ⟨by omega⟩
  have i4 : In64 (4 + (LN : Int)) := ⟨by omega⟩
  have z0 := nth_lo l 3
  have z1 := nth_hi l 3
  have i3 : In64 (nth l 3) := ⟨by omega⟩
  have HIF : Hid ((if 24 < nth l 3 then (24 : Int) else nth l 3) = (LN : Int)) := by
    show _ = _
    rw [n3, HLn.out]
    split <;> omega
  have c3 := HE0.out.c 3 (by omega)
  clear hb0 hsrc hl n3
  go_enter Try.func64, Try.ntmps64
  go_upto_region 2 with fail
  rw [HIF.out]
  clear c3 HIF
  have gd := HE0.out.up (Below.refl _ _).drew
  have gz := HR0.out.drew
  clear HE0 HR0
  refine wp_region_held_drew (S := (fun W => ER w bb off l W)) (by kernel_rfl) gd (fun hH => ?_)
  refine takeH (i := 0) (dst := some 9) (v := ?v1) rfl rfl (by kernel_rfl) (by kernel_rfl) (by kernel_rfl) (fun _ _ _ h => h) rfl ?hy1 hH rfl ?rest1
  case hy1 => (intro W hW; have s2 := hW.c 2 (by omega); clear hW; go_simp; try with_reducible rfl)
  (try simp only [Act.put, List.setIfInBounds_toArray, List.set_cons_zero, List.set_cons_succ])
  refine takeH (i := 1) (dst := some 10) (v := ?v2) rfl rfl (by kernel_rfl) (by kernel_rfl) (by kernel_rfl) (fun _ _ _ h => h) rfl ?hy2 hH rfl ?rest2
  case hy2 => (intro W hW; have s2 := hW.c 2 (by omega); clear hW; go_simp; try with_reducible rfl)
  (try simp only [Act.put, List.setIfInBounds_toArray, List.set_cons_zero, List.set_cons_succ])
  refine takeH (i := 4) (dst := some 13) (v := ?v3) rfl rfl (by kernel_rfl) (by kernel_rfl) (by kernel_rfl) (fun _ _ _ h => h) rfl ?hy3 hH rfl ?rest3
  case hy3 => (intro W hW; have s2 := hW.c 2 (by omega); clear hW; go_simp; try with_reducible rfl)
  (try simp only [Act.put, List.setIfInBounds_toArray, List.set_cons_zero, List.set_cons_succ])
  refine takeH (i := 5) (dst := some 14) (v := ?v4) rfl rfl (by kernel_rfl) (by kernel_rfl) (by kernel_rfl) (fun _ _ _ h => h) rfl ?hy4 hH rfl ?rest4
  case hy4 => (intro W hW; have s2 := hW.c 2 (by omega); clear hW; go_simp; try with_reducible rfl)
  (try simp only [Act.put, List.setIfInBounds_toArray, List.set_cons_zero, List.set_cons_succ])
  refine takeH (i := 6) (dst := some 15) (v := ?v5) rfl rfl (by kernel_rfl) (by kernel_rfl) (by kernel_rfl) (fun _ _ _ h => h) rfl ?hy5 hH rfl ?rest5
  case hy5 => (intro W hW; have s2 := hW.c 2 (by omega); clear hW; go_simp; try with_reducible rfl)
  (try simp only [Act.put, List.setIfInBounds_toArray, List.set_cons_zero, List.set_cons_succ])
  refine takeH (i := 7) (dst := some 16) (v := ?v6) rfl rfl (by kernel_rfl) (by kernel_rfl) (by kernel_rfl) (fun _ _ _ h => h) rfl ?hy6 hH rfl ?rest6
  case hy6 => (intro W hW; have s2 := hW.c 2 (by omega); clear hW; go_simp; try with_reducible rfl)
  (try simp only [Act.put, List.setIfInBounds_toArray, List.set_cons_zero, List.set_cons_succ])
  refine takeH (i := 8) (dst := some 17) (v := ?v7) rfl rfl (by kernel_rfl) (by kernel_rfl) (by kernel_rfl) (fun _ _ _ h => h) rfl ?hy7 hH rfl ?rest7
  case hy7 => (intro W hW; have s2 := hW.c 2 (by omega); clear hW; go_simp; try with_reducible rfl)
  (try simp only [Act.put, List.setIfInBounds_toArray, List.set_cons_zero, List.set_cons_succ])
  refine takeH (i := 9) (dst := some 18) (v := ?v8) rfl rfl (by kernel_rfl) (by kernel_rfl) (by kernel_rfl) (fun _ _ _ h => h) rfl ?hy8 hH rfl ?rest8
  case hy8 => (intro W hW; have s2 := hW.c 2 (by omega); clear hW; go_simp; try with_reducible rfl)
  (try simp only [Act.put, List.setIfInBounds_toArray, List.set_cons_zero, List.set_cons_succ])
  refine takeH (i := 10) (dst := some 19) (v := ?v9) rfl rfl (by kernel_rfl) (by kernel_rfl) (by kernel_rfl) (fun _ _ _ h => h) rfl ?hy9 hH rfl ?rest9
  case hy9 => (intro W hW; have s2 := hW.c 2 (by omega); clear hW; go_simp; try with_reducible rfl)
  (try simp only [Act.put, List.setIfInBounds_toArray, List.set_cons_zero, List.set_cons_succ])
  refine takeH (i := 11) (dst := some 20) (v := ?v10) rfl rfl (by kernel_rfl) (by kernel_rfl) (by kernel_rfl) (fun _ _ _ h => h) rfl ?hy10 hH rfl ?rest10
  case hy10 => (intro W hW; have s2 := hW.c 2 (by omega); clear hW; go_simp; try with_reducible rfl)
  (try simp only [Act.put, List.setIfInBounds_toArray, List.set_cons_zero, List.set_cons_succ])
  refine takeH (i := 12) (dst := some 21) (v := ?v11) rfl rfl (by kernel_rfl) (by kernel_rfl) (by kernel_rfl) (fun _ _ _ h => h) rfl ?hy11 hH rfl ?rest11
  case hy11 => (intro W hW; have kx := HSP.out _ hW.src; clear hW; go_simp; try with_reducible rfl)
  (try simp only [Act.put, List.setIfInBounds_toArray, List.set_cons_zero, List.set_cons_succ])
  refine callH (i := 2) { dst := some 11, op := Go.Op.call { callee := Go.Callee.value (Go.Operand.func 71), args := #[Go.Operand.tmp 10], argTypes := #[25] }, type := 67, pos := "dirent.go:79", after := #[{ on := 1, ground := Go.Ground.data }], guard := none } (by kernel_rfl) rfl rfl (fun K hK => ?_)
  go_simp
  refine (NG _ gd.src).mono ?_
  rintro r v1 ⟨rfl, k1⟩
  have m1 := gd.up k1
  have r1 := gz.up k1
  clear k1
  clear hH
  refine hK.out _ _ m1 (fun hH => ?_)
  clear hK K
  (try simp only [Act.put, List.setIfInBounds_toArray, List.set_cons_zero, List.set_cons_succ])
  refine takeH (i := 3) (dst := some 12) (v := ?v12) rfl rfl (by kernel_rfl) (by kernel_rfl) (by kernel_rfl) (fun _ _ _ h => h) rfl ?hy12 hH rfl ?rest12
  case hy12 => (intro W hW; have s2 := hW.c 2 (by omega); clear hW; go_simp; try with_reducible rfl)
  (try simp only [Act.put, List.setIfInBounds_toArray, List.set_cons_zero, List.set_cons_succ])
  refine takeH (i := 13) (dst := some 22) (v := ?v13) rfl rfl (by kernel_rfl) (by kernel_rfl) (by kernel_rfl) (fun _ _ _ h => h) rfl ?hy13 hH rfl ?rest13
  case hy13 => (intro W hW; refine exec_build_ent (a := A0) (b := nth l 2 == 1) (s := (l.drop 4).take LN) (x0 := Operand.tmp 12) (x1 := Operand.tmp 16) (x2 := Operand.tmp 21) ?_ ?_ ?_ ?_ <;> rfl)
  (try simp only [Act.put, List.setIfInBounds_toArray, List.set_cons_zero, List.set_cons_succ])
  refine callH (i := 14) { dst := none, op := Go.Op.store 48 (Go.Operand.tmp 2) (Go.Operand.tmp 22), type := 0, pos := "dirent.go:78", after := #[{ on := 13, ground := Go.Ground.data }, { on := 2, ground := Go.Ground.chain }, { on := 0, ground := Go.Ground.phase }, { on := 1, ground := Go.Ground.phase }, { on := 2, ground := Go.Ground.phase }, { on := 3, ground := Go.Ground.phase }, { on := 4, ground := Go.Ground.phase }, { on := 5, ground := Go.Ground.phase }, { on := 6, ground := Go.Ground.phase }, { on := 7, ground := Go.Ground.phase }, { on := 8, ground := Go.Ground.phase }, { on := 9, ground := Go.Ground.phase }, { on := 10, ground := Go.Ground.phase }, { on := 11, ground := Go.Ground.phase }, { on := 12, ground := Go.Ground.phase }, { on := 13, ground := Go.Ground.phase }], guard := none } (by kernel_rfl) rfl rfl (fun K hK => ?_)
  rw [if_pos (by rfl)]
  refine wp_store_entO _ _ rfl r1 rfl rfl ?_
  intro w9 h9 b9 z9
  have m9 := m1.only b9 (Nat.le_refl _)
  clear hH
  refine hK.out _ _ m9 (fun hH => ?_)
  clear hK K
  (try simp only [Act.put])
  refine wpAnyH_done (by kernel_rfl) ?_ _
  clear hH
  go_wp2_with fail
  rw [HRD.out]
  exact bodyPost_ret (results_cell_row rfl _ _ w.heap.size 48 _ (0, 0) _ rfl h9.row Try.underlying48 rfl (by rw [Try.sz48, eA_size])) rfl ⟨rfl, m9.b⟩
end Go.Proofs.Ytabmogeicpphoaa
/- dirent.Get. -/
namespace Go.Proofs.Ytabmogeicpphoaa
open Go.RowKit
/-- What Get has laid. -/
structure GE (w0 : World) (bb off : Nat) (l : List UInt8) (q : Nat) (W : World) : Prop where
  b : Below w0.heap.size w0 W
  res : EntAt W w0.heap.size zent
  ent : EntAt W q (rdE l)
  src : Src W (some ⟨bb, off, none⟩) l
theorem GE.up {w0 W W' : World} {bb off q : Nat} {l : List UInt8} (h : GE w0 bb off l q W) (hb : Below W.heap.size W W') : GE w0 bb off l q W' :=
  ⟨h.b.trans (hb.mono h.b.size), h.res.up hb, h.ent.up hb, h.src.below hb (Nat.le_refl _)⟩
set_option maxHeartbeats 4000000 in
theorem eget_size (sp : Option Addr) (n cap : Nat) (hn : ¬ (n : Int) = 32) (w : World) :
    Calls Try.prog 32 #[.slice sp n cap] w fun r w' => r = .returned (.tuple #[.agg (eA zent), .int .i64 4]) ∧ Below w.heap.size w w' := by
  have hz := zeroE
  have HB : Hid (Below w.heap.size w (w.alloc (.cells (eA zent) 48))) := (Below.refl _ _).alloc (Nat.le_refl _) _
  have HI : Hid (EntAt (w.alloc (.cells (eA zent) 48)) w.heap.size zent) := ent_new w zent
  go_enter Try.func32, Try.ntmps32
  go_wp2_with (first | ((with_reducible show wpList _ _ _ ({ dst := _, op := Op.store 48 _ _, type := _, pos := _, after := _, guard := _ } :: _) _ _); refine wpList_store_ent rfl _ _ rfl (HI.out) rfl rfl ?_; intro w4 H4 b4 z4))
  exact bodyPost_ret (results_ent rfl _ H4 rfl) rfl ⟨rfl, HB.out.trans b4.bel⟩
/-- Are the bytes those of an entry? -/
def formE (l : List UInt8) : Bool := rtE (rdE l) && (layE (rdE l) == l)
set_option maxRecDepth 100000 in
set_option maxHeartbeats 4000000 in
theorem eget_bad (bb off cap : Nat) (l : List UInt8) (hl : l.length = 32) (hr : rtE (rdE l) = false) (w : World) (hsrc : Src w (some ⟨bb, off, none⟩) l) (hc : (32 : Int) ≤ cap) (hm : (cap : Int) ≤ 9223372036854775807) :
    Calls Try.prog 32 #[.slice (some ⟨bb, off, none⟩) 32 cap] w fun r w' => r = .returned (.tuple #[.agg (eA zent), .int .i64 8]) ∧ Below w.heap.size w w' := by
  have hz := zeroE
  have HB : Hid (Below w.heap.size w (w.alloc (.cells (eA zent) 48))) := (Below.refl _ _).alloc (Nat.le_refl _) _
  have HI : Hid (EntAt (w.alloc (.cells (eA zent) 48)) w.heap.size zent) := ent_new w zent
  have RD := fun W (h : Src W (some ⟨bb, off, none⟩) l) => eread_any bb off cap l hl W h hc hm
  have GR := eright_any (rdE l)
  have HSR : Hid (Src w (some ⟨bb, off, none⟩) l) := hsrc
  have hbb : bb < w.heap.size := by
    obtain ⟨b', off', h1, h2, _⟩ := hsrc.at' (by omega)
    cases h1; exact h2
  rw [hr] at GR
  clear hsrc
  go_enter Try.func32, Try.ntmps32
  go_wp2_with fail
  refine (RD _ (HSR.out.below HB.out (Nat.le_refl _))).mono ?_
  rintro r w2 ⟨rfl, h2⟩
  have HI2 : Hid (EntAt w2 w.heap.size zent) := HI.out.up h2
  have HB2 : Hid (Below w.heap.size w w2) := HB.out.trans (h2.mono HB.out.size)
  have hl2 := HI2.out.lt
  clear RD HI HB h2
  have HN : Hid (EntAt (w2.alloc (.cells (eA zent) 48)) w2.heap.size zent) := ent_new w2 zent
  have HNB : Hid (Below w2.heap.size w2 (w2.alloc (.cells (eA zent) 48))) := (Below.refl _ _).alloc (Nat.le_refl _) _
  go_wp2_with (first | ((with_reducible show wpList _ _ _ ({ dst := _, op := Op.store 48 _ _, type := _, pos := _, after := _, guard := _ } :: _) _ _); refine wpList_store_ent rfl _ _ rfl (HN.out) rfl rfl ?_; intro w3 H3 b3 z3))
  have f3 : Below w2.heap.size w2 w3 := HNB.out.trans b3.bel
  have fw : Below w.heap.size w w3 := HB2.out.trans (f3.mono HB2.out.size)
  have g3 : GE w bb off l w2.heap.size w3 := ⟨fw, HI2.out.below f3 hl2, H3, HSR.out.below fw (Nat.le_refl _)⟩
  have gd := g3.up (Below.refl _ _).drew
  clear f3 fw g3 H3 b3 z3 HN HNB HI2 HB2 HSR
  refine wp_region_held_drew (S := (fun W => GE w bb off l w2.heap.size W)) (by kernel_rfl) gd (fun hH => ?_)
  refine takeH (i := 0) (dst := some 11) (v := ?v1) rfl rfl (by kernel_rfl) (by kernel_rfl) (by kernel_rfl) (fun _ _ _ h => h) rfl ?hy1 hH rfl ?rest1
  case hy1 => (intro W hW; refine exec_load_ent (x := Operand.tmp 4) hW.ent ?_ ?_ <;> rfl)
  (try simp only [Act.put, List.setIfInBounds_toArray, List.set_cons_zero, List.set_cons_succ])
  refine callH (i := 1) { dst := some 12, op := Go.Op.call { callee := Go.Callee.value (Go.Operand.func 61), args := #[Go.Operand.tmp 11], argTypes := #[48] }, type := 4, pos := "dirent.go:69", after := #[{ on := 0, ground := Go.Ground.data }], guard := none } (by kernel_rfl) rfl rfl (fun K hK => ?_)
  go_simp
  refine (GR _).mono ?_
  rintro r v1 ⟨rfl, n1⟩
  have m1 := gd.up n1
  clear n1
  clear hH
  refine hK.out _ _ m1 (fun hH => ?_)
  clear hK K
  (try simp only [Act.put, List.setIfInBounds_toArray, List.set_cons_zero, List.set_cons_succ])
  refine takeH (i := 2) (dst := some 13) (v := ?v2) rfl rfl (by kernel_rfl) (by kernel_rfl) (by kernel_rfl) (fun _ _ _ h => h) rfl ?hy2 hH rfl ?rest2
  case hy2 => (intro W hW; clear hW; go_simp; try with_reducible rfl)
  (try simp only [Act.put, List.setIfInBounds_toArray, List.set_cons_zero, List.set_cons_succ])
  refine takeH (i := 3) (dst := some 14) (v := ?v3) rfl rfl (by kernel_rfl) (by kernel_rfl) (by kernel_rfl) (fun _ _ _ h => h) rfl ?hy3 hH rfl ?rest3
  case hy3 => (intro W hW; clear hW; go_simp; try with_reducible rfl)
  (try simp only [Act.put, List.setIfInBounds_toArray, List.set_cons_zero, List.set_cons_succ])
  refine takeU (i := 4) (dst := some 15) rfl rfl (by kernel_rfl) (by kernel_rfl) (by kernel_rfl) (fun _ _ _ h => h) rfl hH rfl ?_
  (try simp only [Act.put, List.setIfInBounds_toArray, List.set_cons_zero, List.set_cons_succ])
  refine takeU (i := 5) (dst := some 16) rfl rfl (by kernel_rfl) (by kernel_rfl) (by kernel_rfl) (fun _ _ _ h => h) rfl hH rfl ?_
  (try simp only [Act.put, List.setIfInBounds_toArray, List.set_cons_zero, List.set_cons_succ])
  refine takeU (i := 6) (dst := some 17) rfl rfl (by kernel_rfl) (by kernel_rfl) (by kernel_rfl) (fun _ _ _ h => h) rfl hH rfl ?_
  (try simp only [Act.put, List.setIfInBounds_toArray, List.set_cons_zero, List.set_cons_succ])
  refine takeU (i := 7) (dst := some 18) rfl rfl (by kernel_rfl) (by kernel_rfl) (by kernel_rfl) (fun _ _ _ h => h) rfl hH rfl ?_
  (try simp only [Act.put, List.setIfInBounds_toArray, List.set_cons_zero, List.set_cons_succ])
  refine takeU (i := 8) (dst := some 19) rfl rfl (by kernel_rfl) (by kernel_rfl) (by kernel_rfl) (fun _ _ _ h => h) rfl hH rfl ?_
  (try simp only [Act.put, List.setIfInBounds_toArray, List.set_cons_zero, List.set_cons_succ])
  refine takeU (i := 9) (dst := some 20) rfl rfl (by kernel_rfl) (by kernel_rfl) (by kernel_rfl) (fun _ _ _ h => h) rfl hH rfl ?_
  (try simp only [Act.put, List.setIfInBounds_toArray, List.set_cons_zero, List.set_cons_succ])
  refine takeH (i := 10) (dst := some 21) (v := ?v4) rfl rfl (by kernel_rfl) (by kernel_rfl) (by kernel_rfl) (fun _ _ _ h => h) rfl ?hy4 hH rfl ?rest4
  case hy4 => (intro W hW; clear hW; go_simp; try with_reducible rfl)
  (try simp only [Act.put, List.setIfInBounds_toArray, List.set_cons_zero, List.set_cons_succ])
  refine wpAnyH_done (by kernel_rfl) ?_ _
  clear hH
  have HM : Hid _ := m1
  clear m1 gd
  go_wp2_with (first | ((with_reducible show wpList _ _ _ ({ dst := _, op := Op.store 48 _ _, type := _, pos := _, after := _, guard := _ } :: _) _ _); refine wpList_store_ent rfl _ _ rfl (HM.out.res) rfl rfl ?_; intro w7 H7 b7 z7))
  exact bodyPost_ret (results_ent rfl _ H7 rfl) rfl ⟨rfl, HM.out.b.trans b7.bel⟩
set_option maxRecDepth 100000 in
set_option maxHeartbeats 4000000 in
theorem eget_form (bb off cap : Nat) (l : List UInt8) (hl : l.length = 32) (hr : rtE (rdE l) = true) (hne : (layE (rdE l) == l) = false) (w : World) (hsrc : Src w (some ⟨bb, off, none⟩) l) (hc : (32 : Int) ≤ cap) (hm : (cap : Int) ≤ 9223372036854775807) :
    Calls Try.prog 32 #[.slice (some ⟨bb, off, none⟩) 32 cap] w fun r w' => r = .returned (.tuple #[.agg (eA zent), .int .i64 8]) ∧ Below w.heap.size w w' := by
  have hz := zeroE
  have HB : Hid (Below w.heap.size w (w.alloc (.cells (eA zent) 48))) := (Below.refl _ _).alloc (Nat.le_refl _) _
  have HI : Hid (EntAt (w.alloc (.cells (eA zent) 48)) w.heap.size zent) := ent_new w zent
  have RD := fun W (h : Src W (some ⟨bb, off, none⟩) l) => eread_any bb off cap l hl W h hc hm
  have GR := eright_any (rdE l)
  have HSR : Hid (Src w (some ⟨bb, off, none⟩) l) := hsrc
  have hbb : bb < w.heap.size := by
    obtain ⟨b', off', h1, h2, _⟩ := hsrc.at' (by omega)
    cases h1; exact h2
  rw [hr] at GR
  have LA := fun W => elay_any (rdE l) (rtE_enR hr) W
  have HBL : Hid ((layE (rdE l)).length = 32) := layE_length (rtE_enR hr).nm
  have HNE : Hid ((!(layE (rdE l) == l)) = true) := by rw [show (layE (rdE l) == l) = false from hne]; rfl
  clear hne
  have hat : ∀ w, (Instr.arrayAt 80 (.slice (some ⟨bb, off, none⟩) 32 cap)).run Try.prog w = .ok (.pointer (some ⟨bb, off, none⟩)) w := fun w => run_arrayAt w 80 _ 32 _ 32 cap Try.underlying80 (Nat.le_refl _)
  clear hsrc
  go_enter Try.func32, Try.ntmps32
  go_wp2_with fail
  refine (RD _ (HSR.out.below HB.out (Nat.le_refl _))).mono ?_
  rintro r w2 ⟨rfl, h2⟩
  have HI2 : Hid (EntAt w2 w.heap.size zent) := HI.out.up h2
  have HB2 : Hid (Below w.heap.size w w2) := HB.out.trans (h2.mono HB.out.size)
  have hl2 := HI2.out.lt
  clear RD HI HB h2
  have HN : Hid (EntAt (w2.alloc (.cells (eA zent) 48)) w2.heap.size zent) := ent_new w2 zent
  have HNB : Hid (Below w2.heap.size w2 (w2.alloc (.cells (eA zent) 48))) := (Below.refl _ _).alloc (Nat.le_refl _) _
  go_wp2_with (first | ((with_reducible show wpList _ _ _ ({ dst := _, op := Op.store 48 _ _, type := _, pos := _, after := _, guard := _ } :: _) _ _); refine wpList_store_ent rfl _ _ rfl (HN.out) rfl rfl ?_; intro w3 H3 b3 z3))
  have f3 : Below w2.heap.size w2 w3 := HNB.out.trans b3.bel
  have fw : Below w.heap.size w w3 := HB2.out.trans (f3.mono HB2.out.size)
  have g3 : GE w bb off l w2.heap.size w3 := ⟨fw, HI2.out.below f3 hl2, H3, HSR.out.below fw (Nat.le_refl _)⟩
  have gd := g3.up (Below.refl _ _).drew
  clear f3 fw g3 H3 b3 z3 HN HNB HI2 HB2 HSR
  refine wp_region_held_drew (S := (fun W => GE w bb off l w2.heap.size W)) (by kernel_rfl) gd (fun hH => ?_)
  refine takeH (i := 0) (dst := some 11) (v := ?v5) rfl rfl (by kernel_rfl) (by kernel_rfl) (by kernel_rfl) (fun _ _ _ h => h) rfl ?hy5 hH rfl ?rest5
  case hy5 => (intro W hW; refine exec_load_ent (x := Operand.tmp 4) hW.ent ?_ ?_ <;> rfl)
  (try simp only [Act.put, List.setIfInBounds_toArray, List.set_cons_zero, List.set_cons_succ])
  refine callH (i := 1) { dst := some 12, op := Go.Op.call { callee := Go.Callee.value (Go.Operand.func 61), args := #[Go.Operand.tmp 11], argTypes := #[48] }, type := 4, pos := "dirent.go:69", after := #[{ on := 0, ground := Go.Ground.data }], guard := none } (by kernel_rfl) rfl rfl (fun K hK => ?_)
  go_simp
  refine (GR _).mono ?_
  rintro r v1 ⟨rfl, n1⟩
  have m1 := gd.up n1
  clear n1
  clear hH
  refine hK.out _ _ m1 (fun hH => ?_)
  clear hK K
  (try simp only [Act.put, List.setIfInBounds_toArray, List.set_cons_zero, List.set_cons_succ])
  refine takeH (i := 2) (dst := some 13) (v := ?v6) rfl rfl (by kernel_rfl) (by kernel_rfl) (by kernel_rfl) (fun _ _ _ h => h) rfl ?hy6 hH rfl ?rest6
  case hy6 => (intro W hW; clear hW; go_simp; try with_reducible rfl)
  (try simp only [Act.put, List.setIfInBounds_toArray, List.set_cons_zero, List.set_cons_succ])
  refine takeH (i := 3) (dst := some 14) (v := ?v7) rfl rfl (by kernel_rfl) (by kernel_rfl) (by kernel_rfl) (fun _ _ _ h => h) rfl ?hy7 hH rfl ?rest7
  case hy7 => (intro W hW; clear hW; go_simp; try with_reducible rfl)
  (try simp only [Act.put, List.setIfInBounds_toArray, List.set_cons_zero, List.set_cons_succ])
  refine takeH (i := 4) (dst := some 15) (v := ?v8) rfl rfl (by kernel_rfl) (by kernel_rfl) (by kernel_rfl) (fun _ _ _ h => h) rfl ?hy8 hH rfl ?rest8
  case hy8 => (intro W hW; refine exec_load_ent (x := Operand.tmp 4) hW.ent ?_ ?_ <;> rfl)
  (try simp only [Act.put, List.setIfInBounds_toArray, List.set_cons_zero, List.set_cons_succ])
  refine takeH (i := 6) (dst := some 17) (v := ?v9) rfl rfl (by kernel_rfl) (by kernel_rfl) (by kernel_rfl) (fun _ _ _ h => h) rfl ?hy9 hH rfl ?rest9
  case hy9 => (intro W hW; clear hW; go_simp; try with_reducible rfl)
  (try simp only [Act.put, List.setIfInBounds_toArray, List.set_cons_zero, List.set_cons_succ])
  refine takeH (i := 7) (dst := some 18) (v := ?v10) rfl rfl (by kernel_rfl) (by kernel_rfl) (by kernel_rfl) (fun _ _ _ h => h) rfl ?hy10 hH rfl ?rest10
  case hy10 => (intro W hW; clear hW; go_simp; try with_reducible rfl)
  (try simp only [Act.put, List.setIfInBounds_toArray, List.set_cons_zero, List.set_cons_succ])
  refine takeH (i := 8) (dst := some 19) (v := ?v11) rfl rfl (by kernel_rfl) (by kernel_rfl) (by kernel_rfl) (fun _ _ _ h => h) rfl ?hy11 hH rfl ?rest11
  case hy11 => (intro W hW; refine exec_load_32 (x := Operand.tmp 18) hW.src hl ?_ ?_ <;> rfl)
  (try simp only [Act.put, List.setIfInBounds_toArray, List.set_cons_zero, List.set_cons_succ])
  refine callH (i := 5) { dst := some 16, op := Go.Op.call { callee := Go.Callee.value (Go.Operand.func 62), args := #[Go.Operand.tmp 15], argTypes := #[48] }, type := 80, pos := "dirent.go:69", after := #[{ on := 4, ground := Go.Ground.data }, { on := 3, ground := Go.Ground.chain }, { on := 3, ground := Go.Ground.guard }], guard := some (3, false) } (by kernel_rfl) rfl rfl (fun K hK => ?_)
  go_simp
  refine (LA _).mono ?_
  rintro r v2 ⟨rfl, n2⟩
  have m2 := m1.up n2
  clear n2
  clear hH
  refine hK.out _ _ m2 (fun hH => ?_)
  clear hK K
  (try simp only [Act.put, List.setIfInBounds_toArray, List.set_cons_zero, List.set_cons_succ])
  refine takeH (i := 9) (dst := some 20) (v := ?v12) rfl rfl (by kernel_rfl) (by kernel_rfl) (by kernel_rfl) (fun _ _ _ h => h) rfl ?hy12 hH rfl ?rest12
  case hy12 => (intro W hW; refine exec_neq_32 (X := Operand.tmp 16) (Y := Operand.tmp 19) HBL.out hl HNE.out ?_ ?_ ?_ <;> rfl)
  (try simp only [Act.put, List.setIfInBounds_toArray, List.set_cons_zero, List.set_cons_succ])
  refine takeH (i := 10) (dst := some 21) (v := ?v13) rfl rfl (by kernel_rfl) (by kernel_rfl) (by kernel_rfl) (fun _ _ _ h => h) rfl ?hy13 hH rfl ?rest13
  case hy13 => (intro W hW; clear hW; go_simp; try with_reducible rfl)
  (try simp only [Act.put, List.setIfInBounds_toArray, List.set_cons_zero, List.set_cons_succ])
  refine wpAnyH_done (by kernel_rfl) ?_ _
  clear hH
  have HM : Hid _ := m2
  clear m2 gd m1
  go_wp2_with (first | ((with_reducible show wpList _ _ _ ({ dst := _, op := Op.store 48 _ _, type := _, pos := _, after := _, guard := _ } :: _) _ _); refine wpList_store_ent rfl _ _ rfl (HM.out.res) rfl rfl ?_; intro w7 H7 b7 z7))
  exact bodyPost_ret (results_ent rfl _ H7 rfl) rfl ⟨rfl, HM.out.b.trans b7.bel⟩
set_option maxRecDepth 100000 in
set_option maxHeartbeats 4000000 in
theorem eget_ok (bb off cap : Nat) (l : List UInt8) (hl : l.length = 32) (hr : rtE (rdE l) = true) (hne : (layE (rdE l) == l) = true) (w : World) (hsrc : Src w (some ⟨bb, off, none⟩) l) (hc : (32 : Int) ≤ cap) (hm : (cap : Int) ≤ 9223372036854775807) :
    Calls Try.prog 32 #[.slice (some ⟨bb, off, none⟩) 32 cap] w fun r w' => r = .returned (.tuple #[.agg (eA (rdE l)), .int .i64 0]) ∧ Below w.heap.size w w' := by
  have hz := zeroE
  have HB : Hid (Below w.heap.size w (w.alloc (.cells (eA zent) 48))) := (Below.refl _ _).alloc (Nat.le_refl _) _
  have HI : Hid (EntAt (w.alloc (.cells (eA zent) 48)) w.heap.size zent) := ent_new w zent
  have RD := fun W (h : Src W (some ⟨bb, off, none⟩) l) => eread_any bb off cap l hl W h hc hm
  have GR := eright_any (rdE l)
  have HSR : Hid (Src w (some ⟨bb, off, none⟩) l) := hsrc
  have hbb : bb < w.heap.size := by
    obtain ⟨b', off', h1, h2, _⟩ := hsrc.at' (by omega)
    cases h1; exact h2
  rw [hr] at GR
  have LA := fun W => elay_any (rdE l) (rtE_enR hr) W
  have HBL : Hid ((layE (rdE l)).length = 32) := layE_length (rtE_enR hr).nm
  have HNE : Hid ((!(layE (rdE l) == l)) = false) := by rw [show (layE (rdE l) == l) = true from hne]; rfl
  clear hne
  have hat : ∀ w, (Instr.arrayAt 80 (.slice (some ⟨bb, off, none⟩) 32 cap)).run Try.prog w = .ok (.pointer (some ⟨bb, off, none⟩)) w := fun w => run_arrayAt w 80 _ 32 _ 32 cap Try.underlying80 (Nat.le_refl _)
  clear hsrc
  go_enter Try.func32, Try.ntmps32
  go_wp2_with fail
  refine (RD _ (HSR.out.below HB.out (Nat.le_refl _))).mono ?_
  rintro r w2 ⟨rfl, h2⟩
  have HI2 : Hid (EntAt w2 w.heap.size zent) := HI.out.up h2
  have HB2 : Hid (Below w.heap.size w w2) := HB.out.trans (h2.mono HB.out.size)
  have hl2 := HI2.out.lt
  clear RD HI HB h2
  have HN : Hid (EntAt (w2.alloc (.cells (eA zent) 48)) w2.heap.size zent) := ent_new w2 zent
  have HNB : Hid (Below w2.heap.size w2 (w2.alloc (.cells (eA zent) 48))) := (Below.refl _ _).alloc (Nat.le_refl _) _
  go_wp2_with (first | ((with_reducible show wpList _ _ _ ({ dst := _, op := Op.store 48 _ _, type := _, pos := _, after := _, guard := _ } :: _) _ _); refine wpList_store_ent rfl _ _ rfl (HN.out) rfl rfl ?_; intro w3 H3 b3 z3))
  have f3 : Below w2.heap.size w2 w3 := HNB.out.trans b3.bel
  have fw : Below w.heap.size w w3 := HB2.out.trans (f3.mono HB2.out.size)
  have g3 : GE w bb off l w2.heap.size w3 := ⟨fw, HI2.out.below f3 hl2, H3, HSR.out.below fw (Nat.le_refl _)⟩
  have gd := g3.up (Below.refl _ _).drew
  clear f3 fw g3 H3 b3 z3 HN HNB HI2 HB2 HSR
  refine wp_region_held_drew (S := (fun W => GE w bb off l w2.heap.size W)) (by kernel_rfl) gd (fun hH => ?_)
  refine takeH (i := 0) (dst := some 11) (v := ?v14) rfl rfl (by kernel_rfl) (by kernel_rfl) (by kernel_rfl) (fun _ _ _ h => h) rfl ?hy14 hH rfl ?rest14
  case hy14 => (intro W hW; refine exec_load_ent (x := Operand.tmp 4) hW.ent ?_ ?_ <;> rfl)
  (try simp only [Act.put, List.setIfInBounds_toArray, List.set_cons_zero, List.set_cons_succ])
  refine callH (i := 1) { dst := some 12, op := Go.Op.call { callee := Go.Callee.value (Go.Operand.func 61), args := #[Go.Operand.tmp 11], argTypes := #[48] }, type := 4, pos := "dirent.go:69", after := #[{ on := 0, ground := Go.Ground.data }], guard := none } (by kernel_rfl) rfl rfl (fun K hK => ?_)
  go_simp
  refine (GR _).mono ?_
  rintro r v1 ⟨rfl, n1⟩
  have m1 := gd.up n1
  clear n1
  clear hH
  refine hK.out _ _ m1 (fun hH => ?_)
  clear hK K
  (try simp only [Act.put, List.setIfInBounds_toArray, List.set_cons_zero, List.set_cons_succ])
  refine takeH (i := 2) (dst := some 13) (v := ?v15) rfl rfl (by kernel_rfl) (by kernel_rfl) (by kernel_rfl) (fun _ _ _ h => h) rfl ?hy15 hH rfl ?rest15
  case hy15 => (intro W hW; clear hW; go_simp; try with_reducible rfl)
  (try simp only [Act.put, List.setIfInBounds_toArray, List.set_cons_zero, List.set_cons_succ])
  refine takeH (i := 3) (dst := some 14) (v := ?v16) rfl rfl (by kernel_rfl) (by kernel_rfl) (by kernel_rfl) (fun _ _ _ h => h) rfl ?hy16 hH rfl ?rest16
  case hy16 => (intro W hW; clear hW; go_simp; try with_reducible rfl)
  (try simp only [Act.put, List.setIfInBounds_toArray, List.set_cons_zero, List.set_cons_succ])
  refine takeH (i := 4) (dst := some 15) (v := ?v17) rfl rfl (by kernel_rfl) (by kernel_rfl) (by kernel_rfl) (fun _ _ _ h => h) rfl ?hy17 hH rfl ?rest17
  case hy17 => (intro W hW; refine exec_load_ent (x := Operand.tmp 4) hW.ent ?_ ?_ <;> rfl)
  (try simp only [Act.put, List.setIfInBounds_toArray, List.set_cons_zero, List.set_cons_succ])
  refine takeH (i := 6) (dst := some 17) (v := ?v18) rfl rfl (by kernel_rfl) (by kernel_rfl) (by kernel_rfl) (fun _ _ _ h => h) rfl ?hy18 hH rfl ?rest18
  case hy18 => (intro W hW; clear hW; go_simp; try with_reducible rfl)
  (try simp only [Act.put, List.setIfInBounds_toArray, List.set_cons_zero, List.set_cons_succ])
  refine takeH (i := 7) (dst := some 18) (v := ?v19) rfl rfl (by kernel_rfl) (by kernel_rfl) (by kernel_rfl) (fun _ _ _ h => h) rfl ?hy19 hH rfl ?rest19
  case hy19 => (intro W hW; clear hW; go_simp; try with_reducible rfl)
  (try simp only [Act.put, List.setIfInBounds_toArray, List.set_cons_zero, List.set_cons_succ])
  refine takeH (i := 8) (dst := some 19) (v := ?v20) rfl rfl (by kernel_rfl) (by kernel_rfl) (by kernel_rfl) (fun _ _ _ h => h) rfl ?hy20 hH rfl ?rest20
  case hy20 => (intro W hW; refine exec_load_32 (x := Operand.tmp 18) hW.src hl ?_ ?_ <;> rfl)
  (try simp only [Act.put, List.setIfInBounds_toArray, List.set_cons_zero, List.set_cons_succ])
  refine callH (i := 5) { dst := some 16, op := Go.Op.call { callee := Go.Callee.value (Go.Operand.func 62), args := #[Go.Operand.tmp 15], argTypes := #[48] }, type := 80, pos := "dirent.go:69", after := #[{ on := 4, ground := Go.Ground.data }, { on := 3, ground := Go.Ground.chain }, { on := 3, ground := Go.Ground.guard }], guard := some (3, false) } (by kernel_rfl) rfl rfl (fun K hK => ?_)
  go_simp
  refine (LA _).mono ?_
  rintro r v2 ⟨rfl, n2⟩
  have m2 := m1.up n2
  clear n2
  clear hH
  refine hK.out _ _ m2 (fun hH => ?_)
  clear hK K
  (try simp only [Act.put, List.setIfInBounds_toArray, List.set_cons_zero, List.set_cons_succ])
  refine takeH (i := 9) (dst := some 20) (v := ?v21) rfl rfl (by kernel_rfl) (by kernel_rfl) (by kernel_rfl) (fun _ _ _ h => h) rfl ?hy21 hH rfl ?rest21
  case hy21 => (intro W hW; refine exec_neq_32 (X := Operand.tmp 16) (Y := Operand.tmp 19) HBL.out hl HNE.out ?_ ?_ ?_ <;> rfl)
  (try simp only [Act.put, List.setIfInBounds_toArray, List.set_cons_zero, List.set_cons_succ])
  refine takeH (i := 10) (dst := some 21) (v := ?v22) rfl rfl (by kernel_rfl) (by kernel_rfl) (by kernel_rfl) (fun _ _ _ h => h) rfl ?hy22 hH rfl ?rest22
  case hy22 => (intro W hW; clear hW; go_simp; try with_reducible rfl)
  (try simp only [Act.put, List.setIfInBounds_toArray, List.set_cons_zero, List.set_cons_succ])
  refine wpAnyH_done (by kernel_rfl) ?_ _
  clear hH
  have HM : Hid _ := m2
  clear m2 gd m1
  go_wp2_with (first | ((with_reducible show wpList _ _ _ ({ dst := _, op := Op.load 48 _, type := _, pos := _, after := _, guard := _ } :: _) _ _); refine wpList_load_ent rfl _ rfl (HM.out.ent) rfl ?_) | ((with_reducible show wpList _ _ _ ({ dst := _, op := Op.store 48 _ _, type := _, pos := _, after := _, guard := _ } :: _) _ _); refine wpList_store_ent rfl _ _ rfl (HM.out.res) rfl rfl ?_; intro w7 H7 b7 z7))
  exact bodyPost_ret (results_ent rfl _ H7 rfl) rfl ⟨rfl, HM.out.b.trans b7.bel⟩
/-- What Get answers. -/
def egetI (l : List UInt8) : Ent := if formE l then rdE l else zent
def egetE (l : List UInt8) : Int := if l.length = 32 then (if formE l then 0 else 8) else 4
def egetV (l : List UInt8) : Ent := if l.length = 32 then egetI l else zent
theorem eget_any (sp : Option Addr) (cap : Nat) (l : List UInt8) (w : World) (ha : Arg w sp cap l) :
    Calls Try.prog 32 #[.slice sp l.length cap] w fun r w' => r = .returned (.tuple #[.agg (eA (egetV l)), .int .i64 (egetE l)]) ∧ Below w.heap.size w w' := by
  by_cases hl : l.length = 32
  · have la := ha.len
    obtain ⟨b, off, rfl, _, _⟩ := ha.src.at' (by omega)
    unfold egetV egetE egetI
    rw [if_pos hl, if_pos hl]
    cases hr : rtE (rdE l)
    · rw [show formE l = false by unfold formE; rw [hr]; rfl]
      have := eget_bad b off cap l hl hr w ha.src (by omega) (by omega)
      rw [hl]
      exact this
    · cases hne : (layE (rdE l) == l)
      · rw [show formE l = false by unfold formE; rw [hr, hne]; rfl]
        have := eget_form b off cap l hl hr hne w ha.src (by omega) (by omega)
        rw [hl]
        exact this
      · rw [show formE l = true by unfold formE; rw [hr, hne]; rfl]
        have := eget_ok b off cap l hl hr hne w ha.src (by omega) (by omega)
        rw [hl]
        exact this
  · unfold egetV egetE
    rw [if_neg hl, if_neg hl]
    exact eget_size sp l.length cap (by omega) w
end Go.Proofs.Ytabmogeicpphoaa
