/- Two inodes held against each other; arrays of names, of bytes. -/
import Derived.Test.YtabmogeicpphoaaKIno
import Derived.ChangeKeysEq
namespace Go.Proofs.Ytabmogeicpphoaa
open Go.RowKit
theorem eqf_step {P : Program} {d : Nat} {xs ys : Array Value} {f : Field} {fs : List Field} {a b : Value} {r r2 : Bool} {w : World} (hn : f.name ≠ "_") (h1 : (part f.type xs f.offset).run P w = .ok a w) (h2 : (part f.type ys f.offset).run P w = .ok b w) (h3 : (Op.equalIn d f.type a b).run P w = .ok r w)
    (h4 : (Op.eqFields d xs ys fs).run P w = .ok r2 w) : (Op.eqFields d xs ys (f :: fs)).run P w = .ok (r && r2) w := by
  simp only [Op.eqFields, if_pos hn, Sem.run_bind, h1, h2, h3, Result.andThen_ok]
  cases r
  · simp
  · simp [h4]
theorem eqi_step {P : Program} {d c : Nat} {e : TypeId} {xs ys : Array Value} {i : Nat} {is : List Nat} {a b : Value} {r r2 : Bool} {w : World} (h1 : (part e xs (i * c)).run P w = .ok a w) (h2 : (part e ys (i * c)).run P w = .ok b w) (h3 : (Op.equalIn d e a b).run P w = .ok r w)
    (h4 : (Op.eqItems d e c xs ys is).run P w = .ok r2 w) : (Op.eqItems d e c xs ys (i :: is)).run P w = .ok (r && r2) w := by
  simp only [Op.eqItems, Sem.run_bind, h1, h2, h3, Result.andThen_ok]
  cases r
  · simp
  · simp [h4]
theorem eq_six (a0 a1 a2 a3 a4 a5 b0 b1 b2 b3 b4 b5 : Int) (w : World) :
    (Op.equalIn 9999 22 (.agg (ivs [a0, a1, a2, a3, a4, a5]).toArray) (.agg (ivs [b0, b1, b2, b3, b4, b5]).toArray)).run Try.prog w = .ok (a0 == b0 && (a1 == b1 && (a2 == b2 && (a3 == b3 && (a4 == b4 && (a5 == b5 && true)))))) w := by
  have hi : (Try.prog.info? 3).isSome = true := by kernel_rfl
  obtain ⟨i, hi⟩ := Option.isSome_iff_exists.1 hi
  have hc : Try.prog.cellsOf 3 = 1 := by kernel_rfl
  rw [run_equalIn_array w 9998 _ _ Try.underlying22 hi, hc, show List.range 6 = [0, 1, 2, 3, 4, 5] from rfl]
  refine eqi_step (part_int 3 Try.underlying3 _ _ a0 rfl w) (part_int 3 Try.underlying3 _ _ b0 rfl w) (eq_int 9997 3 Try.underlying3 _ _ w) ?_
  refine eqi_step (part_int 3 Try.underlying3 _ _ a1 rfl w) (part_int 3 Try.underlying3 _ _ b1 rfl w) (eq_int 9997 3 Try.underlying3 _ _ w) ?_
  refine eqi_step (part_int 3 Try.underlying3 _ _ a2 rfl w) (part_int 3 Try.underlying3 _ _ b2 rfl w) (eq_int 9997 3 Try.underlying3 _ _ w) ?_
  refine eqi_step (part_int 3 Try.underlying3 _ _ a3 rfl w) (part_int 3 Try.underlying3 _ _ b3 rfl w) (eq_int 9997 3 Try.underlying3 _ _ w) ?_
  refine eqi_step (part_int 3 Try.underlying3 _ _ a4 rfl w) (part_int 3 Try.underlying3 _ _ b4 rfl w) (eq_int 9997 3 Try.underlying3 _ _ w) ?_
  refine eqi_step (part_int 3 Try.underlying3 _ _ a5 rfl w) (part_int 3 Try.underlying3 _ _ b5 rfl w) (eq_int 9997 3 Try.underlying3 _ _ w) ?_
  simp [Op.eqItems]
theorem seven_fields {fs : List Field} (h : (fs.map fun f => (f.name == "_", f.type, f.offset)) = [(false, 3, 0), (false, 3, 1), (false, 2, 2), (false, 2, 3), (false, 22, 4), (false, 3, 10), (false, 3, 11)]) :
    ∃ f0 f1 f2 f3 f4 f5 f6 : Field, fs = [f0, f1, f2, f3, f4, f5, f6] ∧ (f0.name ≠ "_" ∧ f0.type = 3 ∧ f0.offset = 0) ∧ (f1.name ≠ "_" ∧ f1.type = 3 ∧ f1.offset = 1) ∧ (f2.name ≠ "_" ∧ f2.type = 2 ∧ f2.offset = 2) ∧ (f3.name ≠ "_" ∧ f3.type = 2 ∧ f3.offset = 3) ∧ (f4.name ≠ "_" ∧ f4.type = 22 ∧ f4.offset = 4) ∧ (f5.name ≠ "_" ∧ f5.type = 3 ∧ f5.offset = 10) ∧ (f6.name ≠ "_" ∧ f6.type = 3 ∧ f6.offset = 11) := by
  have hl : fs.length = 7 := by have := congrArg List.length h; simpa using this
  obtain ⟨f0, f1, f2, f3, f4, f5, f6, rfl⟩ : ∃ f0 f1 f2 f3 f4 f5 f6, fs = [f0, f1, f2, f3, f4, f5, f6] := by
    match fs, hl with
    | [f0, f1, f2, f3, f4, f5, f6], _ => exact ⟨f0, f1, f2, f3, f4, f5, f6, rfl⟩
  simp only [List.map_cons, List.map_nil, List.cons.injEq, Prod.mk.injEq, beq_eq_false_iff_ne, and_true] at h
  exact ⟨f0, f1, f2, f3, f4, f5, f6, rfl, h.1, h.2.1, h.2.2.1, h.2.2.2.1, h.2.2.2.2.1, h.2.2.2.2.2.1, h.2.2.2.2.2.2⟩
theorem part_six (cs : Array Value) (o : Nat) (l : List Int) (hx : cs.extract o (o + 6) = (ivs l).toArray) (w : World) : (part 22 cs o).run Try.prog w = .ok (.agg (ivs l).toArray) w := by
  simp [part, isAgg, run_underlying Try.underlying22, hx]
theorem run_eq_ino {i j : Ino} (hi : i.ns.length = 8) (hj : j.ns.length = 8) (w : World) :
    (Op.equalIn 10000 24 (.agg (iA i)) (.agg (iA j))).run Try.prog w = .ok (eqI i j) w := by
  obtain ⟨k, l, s, d, ns⟩ := i
  obtain ⟨k2, l2, s2, d2, ns2⟩ := j
  obtain ⟨a0, a1, a2, a3, a4, a5, a6, a7, rfl⟩ := eight_i hi
  obtain ⟨b0, b1, b2, b3, b4, b5, b6, b7, rfl⟩ := eight_i hj
  rw [run_equalIn_struct (P := Try.prog) w 9999 24 _ _ (by kernel_rfl) (by kernel_rfl)]
  obtain ⟨f0, f1, f2, f3, f4, f5, f6, hfs, h0, h1, h2, h3, h4, h5, h6⟩ := seven_fields (fs := (Try.prog.fieldsOf 24).toList) (by kernel_rfl)
  rw [hfs]
  have e : eqI ⟨k, l, s, d, [a0, a1, a2, a3, a4, a5, a6, a7]⟩ ⟨k2, l2, s2, d2, [b0, b1, b2, b3, b4, b5, b6, b7]⟩ = (k == k2 && (l == l2 && (s == s2 && (d == d2 && ((a0 == b0 && (a1 == b1 && (a2 == b2 && (a3 == b3 && (a4 == b4 && (a5 == b5 && true)))))) && (a6 == b6 && (a7 == b7 && true))))))) := by
    simp [eqI, Bool.and_assoc]
  rw [e]
  refine eqf_step h0.1 (by rw [h0.2.1, h0.2.2]; exact part_int 3 Try.underlying3 _ _ k rfl w) (by rw [h0.2.1, h0.2.2]; exact part_int 3 Try.underlying3 _ _ k2 rfl w) (by rw [h0.2.1]; exact eq_int 9998 3 Try.underlying3 _ _ w) ?_
  refine eqf_step h1.1 (by rw [h1.2.1, h1.2.2]; exact part_int 3 Try.underlying3 _ _ l rfl w) (by rw [h1.2.1, h1.2.2]; exact part_int 3 Try.underlying3 _ _ l2 rfl w) (by rw [h1.2.1]; exact eq_int 9998 3 Try.underlying3 _ _ w) ?_
  refine eqf_step h2.1 (by rw [h2.2.1, h2.2.2]; exact part_int 2 Try.underlying2 _ _ s rfl w) (by rw [h2.2.1, h2.2.2]; exact part_int 2 Try.underlying2 _ _ s2 rfl w) (by rw [h2.2.1]; exact eq_int 9998 2 Try.underlying2 _ _ w) ?_
  refine eqf_step h3.1 (by rw [h3.2.1, h3.2.2]; exact part_int 2 Try.underlying2 _ _ d rfl w) (by rw [h3.2.1, h3.2.2]; exact part_int 2 Try.underlying2 _ _ d2 rfl w) (by rw [h3.2.1]; exact eq_int 9998 2 Try.underlying2 _ _ w) ?_
  refine eqf_step h4.1 (by rw [h4.2.1, h4.2.2]; exact part_six _ 4 [a0, a1, a2, a3, a4, a5] rfl w) (by rw [h4.2.1, h4.2.2]; exact part_six _ 4 [b0, b1, b2, b3, b4, b5] rfl w) (by rw [h4.2.1]; exact eq_six _ _ _ _ _ _ _ _ _ _ _ _ w) ?_
  refine eqf_step h5.1 (by rw [h5.2.1, h5.2.2]; exact part_int 3 Try.underlying3 _ _ a6 rfl w) (by rw [h5.2.1, h5.2.2]; exact part_int 3 Try.underlying3 _ _ b6 rfl w) (by rw [h5.2.1]; exact eq_int 9998 3 Try.underlying3 _ _ w) ?_
  refine eqf_step h6.1 (by rw [h6.2.1, h6.2.2]; exact part_int 3 Try.underlying3 _ _ a7 rfl w) (by rw [h6.2.1, h6.2.2]; exact part_int 3 Try.underlying3 _ _ b7 rfl w) (by rw [h6.2.1]; exact eq_int 9998 3 Try.underlying3 _ _ w) ?_
  simp [Op.eqFields]
theorem wpList_eq_ino {ops : Array Oper} {rest : List Oper} {op : Oper} {a : Act} {w : World} {Q : Exit → Act → World → Prop} (hw : Region.wanted op (yielded ops a.tmps) = true) (x y : Operand) (ho : op.op = .binOp .eql 24 x y 24)
    {i j : Ino} (hx : a.eval x = .agg (iA i)) (hy : a.eval y = .agg (iA j)) (hi : i.ns.length = 8) (hj : j.ns.length = 8) {b : Bool} (he : eqI i j = b)
    (h : wpList Try.prog ops Q rest (a.put op.dst (.bool b)) w) : wpList Try.prog ops Q (op :: rest) a w := by
  subst he
  refine wpList_want hw fun K hK => ?_
  have hg : ∀ X Y (w : World), (eqGuard .eql 24 x y (.agg X) (.agg Y)).run Try.prog w = .ok () w := fun X Y w => run_eqGuard_agg w .eql 24 x y X Y (by kernel_rfl)
  unfold Oper.wp execOp
  simp only [ho, hx, hy]
  simp [hg, run_eql_struct, run_eq_ino hi hj, Result.andThen]
  exact hK _ _ h
theorem wpList_neq_ino {ops : Array Oper} {rest : List Oper} {op : Oper} {a : Act} {w : World} {Q : Exit → Act → World → Prop} (hw : Region.wanted op (yielded ops a.tmps) = true) (x y : Operand) (ho : op.op = .binOp .neq 24 x y 24)
    {i j : Ino} (hx : a.eval x = .agg (iA i)) (hy : a.eval y = .agg (iA j)) (hi : i.ns.length = 8) (hj : j.ns.length = 8) {b : Bool} (he : (!eqI i j) = b)
    (h : wpList Try.prog ops Q rest (a.put op.dst (.bool b)) w) : wpList Try.prog ops Q (op :: rest) a w := by
  subst he
  refine wpList_want hw fun K hK => ?_
  have hg : ∀ X Y (w : World), (eqGuard .neq 24 x y (.agg X) (.agg Y)).run Try.prog w = .ok () w := fun X Y w => run_eqGuard_agg w .neq 24 x y X Y (by kernel_rfl)
  unfold Oper.wp execOp
  simp only [ho, hx, hy]
  simp [hg, run_neq_struct, run_eq_ino hi hj, Result.andThen]
  exact hK _ _ h
/-- The element of an array of eight numbers. -/
theorem run_index8 {ns : List Int} (hn : ns.length = 8) (k : Nat) (hk : k < 8) (w : World) : (Instr.index 70 (.agg (ivs ns).toArray) (.int .i64 (k : Int))).run Try.prog w = .ok (.int .i64 (ns.getD k 0)) w := by
  have hx : (ivs ns).toArray[k * 1]? = some (.int .i64 (ns.getD k 0)) := by simp [ivs, hn, hk]
  have h0 : (0 : Int) ≤ k ∧ (k : Int) < ((8 : Nat) : Int) := by omega
  have h3 := size3 w
  simp only [Instr.index, asIntOf, Sem.run_bind, Sem.run_pure, Result.andThen_ok, run_underlying Try.underlying70]
  simp only [Int.toNat_natCast]
  rw [if_pos h0]
  simp only [Sem.run_bind, h3, Result.andThen_ok]
  exact part_int 3 Try.underlying3 _ _ _ hx w
end Go.Proofs.Ytabmogeicpphoaa
/- inode.named. -/
namespace Go.Proofs.Ytabmogeicpphoaa
open Go.RowKit
/-- Block g is a row of numbers. -/
def RowI (w : World) (g : Nat) (t : TypeId) (l : List Int) : Prop := w.heap[g]? = some (.cells (ivs l).toArray t (0, 0))
section
variable {w w' : World} {g : Nat} {t : TypeId} {l : List Int}
theorem RowI.lt (h : RowI w g t l) : g < w.heap.size := (Array.getElem?_eq_some_iff.1 h).1
theorem RowI.below (h : RowI w g t l) {B : Nat} (hb : Below B w w') (hg : g < B) : RowI w' g t l := by unfold RowI; rw [hb.block g hg]; exact h
theorem RowI.up (h : RowI w g t l) (hb : Below w.heap.size w w') : RowI w' g t l := h.below hb h.lt
theorem RowI.cell (h : RowI w g t l) (j : Nat) (hj : j < l.length) : w.cell? ⟨g, j, none⟩ = some (.int .i64 (l.getD j 0)) := by
  rw [cell_of_row w g j _ _ _ h]; simp [ivs, hj]
theorem RowI.frozen (h : RowI w g t l) (j : Nat) : w.frozen? ⟨g, j, none⟩ = false := frozen_of_row w g j _ _ h
theorem RowI.range (h : RowI w g t l) : w.rangeAt g 0 (ivs l) := fun j v hv => by
  rw [Nat.zero_add, cell_of_row w g j _ _ _ h]
  simpa using hv
theorem RowI.set (h : RowI w g t l) (j : Nat) (x : Int) : RowI (w.setCell ⟨g, j, none⟩ (.int .i64 x)) g t (l.set j x) := by
  have e : ivs (l.set j x) = (ivs l).set j (.int .i64 x) := by simp [ivs]
  have e2 : (ivs (l.set j x)).toArray = (ivs l).toArray.setIfInBounds j (.int .i64 x) := by rw [e]; simp
  unfold RowI at h ⊢
  rw [e2]
  exact heap_setCell_same w g j _ t _ h
end
theorem zeroN : ∃ Z : Array Value, (∀ w, (zeroValue 70).run Try.prog w = .ok (.agg Z) w) ∧ Z.size = 8 ∧ Hid (Z = (ivs [0, 0, 0, 0, 0, 0, 0, 0]).toArray) := by
  have h : (Try.prog.info? 70).map (fun i => i.zero) = some (some (.agg (ivs [0, 0, 0, 0, 0, 0, 0, 0]).toArray)) := by kernel_rfl
  cases hi : Try.prog.info? 70 with
  | none => rw [hi] at h; cases h
  | some i =>
    rw [hi] at h
    have hz : i.zero = some (.agg (ivs [0, 0, 0, 0, 0, 0, 0, 0]).toArray) := Option.some.inj h
    have key : ∀ (v : Value) (w : World), i.zero = some v → (zeroValue 70).run Try.prog w = .ok v w := by
      intro v w hv
      simp [zeroValue, typeInfo, hi, hv]
    exact ⟨_, fun w => key _ w hz, rfl, rfl⟩
theorem Try.sz70 : (Try.prog.info? 70).map (·.size) = some 8 := by kernel_rfl
theorem Try.elemI : (Try.prog.info? 3).map (·.size) = some 1 := by kernel_rfl
/-- 'copy' of numbers into the head of a row. -/
theorem copy_ints {w : World} {g n m : Nat} (dCap sCap : Nat) {b o : Nat} {t : TypeId} {cur x : List Int} (hg : RowI w g t cur) (hl : cur.length = n) (hs : ∀ j, j < x.length → w.cell? ⟨b, o + j, none⟩ = some (.int .i64 (x.getD j 0))) (hx : x.length = m) (h0 : m ≤ n) :
    ∃ w1, (Builtin.copy_ #[40, 40] 3 #[.slice (some ⟨g, 0, none⟩) n dCap, .slice (some ⟨b, o, none⟩) m sCap]).run Try.prog w = .ok (.int .i64 (m : Nat)) w1 ∧
      RowI w1 g t (x ++ cur.drop m) ∧ Below g w w1 ∧ w1.heap.size = w.heap.size := by
  have hcs : ∀ j v, (ivs x)[j]? = some v → w.cell? ((⟨b, o, none⟩ : Addr).add j) = some v := by
    intro j v hv
    have hj : j < (ivs x).length := (List.getElem?_eq_some_iff.1 hv).1
    rw [ivs_length] at hj
    rw [addr_add, hs j hj, ← hv]
    simp [ivs, hj]
  have hrun := run_copy_row (P := Try.prog) w 40 40 3 3 g 0 n dCap ⟨b, o, none⟩ m sCap (ivs cur).toArray t (ivs x) Try.underlying40 Try.elemI hg (by rw [ivs_length, hx]; exact (Nat.min_eq_left h0).symm) hcs (by simp only [ivs_length, List.size_toArray]; omega) (ivs_one _)
  rw [ivs_length, hx] at hrun
  refine ⟨_, hrun, ?_, below_setRow (Below.refl _ _) (Nat.le_refl _) _, by simp⟩
  have := setRow_heap w g _ ((ivs cur).toArray.toList.take 0 ++ ivs x ++ (ivs cur).toArray.toList.drop (0 + m)).toArray t _ hg
  rw [RowI, this]
  congr 3
  simp [ivs_append, ivs_drop]
theorem wpList_load_row {ops : Array Oper} {rest : List Oper} {op : Oper} {a : Act} {w : World} {Q : Exit → Act → World → Prop} (hgd : op.guard = none) (x : Operand) (ho : op.op = .load 70 x)
    {G : Nat} {t : TypeId} {s : List Int} (H : RowI w G t s) (hs : s.length = 8) (hx : a.eval x = .pointer (some ⟨G, 0, none⟩))
    (h : wpList Try.prog ops Q rest (a.put op.dst (.agg (ivs s).toArray)) w) : wpList Try.prog ops Q (op :: rest) a w :=
  wpList_load_mid hgd 70 x ho G 0 hx (ivs s) _ H.range Try.underlying70 rfl (by rw [Try.sz70, ivs_length, hs]) h
theorem wpList_store_row {ops : Array Oper} {rest : List Oper} {op : Oper} {a : Act} {w : World} {Q : Exit → Act → World → Prop} (hgd : op.guard = none) (x y : Operand) (ho : op.op = .store 70 x y)
    {G : Nat} {Z : Array Value} {s : List Int} (H : w.heap[G]? = some (.cells Z 70 (0, 0))) (hZ : Z.size = 8) (hs : s.length = 8) (hx : a.eval x = .pointer (some ⟨G, 0, none⟩)) (hy : a.eval y = .agg (ivs s).toArray)
    (h : ∀ w', RowI w' G 70 s → Below G w w' → w'.heap.size = w.heap.size → wpList Try.prog ops Q rest (a.put op.dst undef) w') : wpList Try.prog ops Q (op :: rest) a w := by
  refine wpList_plain hgd fun K hK => ?_
  have hsz : (ivs s).toArray.size = 8 := by rw [List.size_toArray, ivs_length, hs]
  have hrun := run_storeVar_row (P := Try.prog) w G 70 70 Z (ivs s).toArray H (by rw [Try.sz70, hsz]) (by rw [hZ, hsz]) (all_oneCell_toArray (ivs_one _))
  unfold Oper.wp execOp
  simp only [ho, hx, hy, Instr.storeAt, Instr.sureAddr, Sem.run_bind, Sem.run_pure, Result.andThen_ok, hrun]
  exact hK _ _ (h _ (setRow_heap w G _ _ 70 _ H) (below_setRow (Below.refl _ _) (Nat.le_refl _) _) (by simp))
/-- What named has laid. -/
structure NW (w0 : World) (Z : Array Value) (i : Ino) (q : Nat) (cur : List Int) (W : World) : Prop where
  b : Below w0.heap.size w0 W
  ino : InoAt W w0.heap.size i
  res : W.heap[w0.heap.size + 1]? = some (.cells Z 70 (0, 0))
  row : RowI W q 70 cur
  lt : w0.heap.size + 1 < q
theorem NW.low {w0 W W' : World} {Z : Array Value} {i : Ino} {q : Nat} {cur cur' : List Int} (h : NW w0 Z i q cur W) (hb : Below q W W') (hr : RowI W' q 70 cur') : NW w0 Z i q cur' W' :=
  have hl := h.lt
  ⟨h.b.trans (hb.mono (by omega)), h.ino.below hb (by omega), by rw [hb.block _ (by omega)]; exact h.res, hr, hl⟩
theorem NW.start (w : World) (Z : Array Value) (i : Ino) (hn : i.ns.length = 8) (hz : Z = (ivs [0, 0, 0, 0, 0, 0, 0, 0]).toArray) :
    NW w Z i (w.heap.size + 2) [0, 0, 0, 0, 0, 0, 0, 0] (((w.alloc (.cells (iA i) 24)).alloc (.cells Z 70)).alloc (.cells Z 70)) := by
  have s1 : (w.alloc (.cells (iA i) 24)).heap.size = w.heap.size + 1 := by simp
  have s2 : ((w.alloc (.cells (iA i) 24)).alloc (.cells Z 70)).heap.size = w.heap.size + 2 := by simp
  have h1 := heap_alloc_new (w.alloc (.cells (iA i) 24)) (.cells Z 70)
  have h2 := heap_alloc_new ((w.alloc (.cells (iA i) 24)).alloc (.cells Z 70)) (.cells Z 70)
  rw [s1] at h1
  rw [s2] at h2
  refine ⟨(((Below.refl _ _).alloc (Nat.le_refl _) _).alloc (by simp) _).alloc (by simp; omega) _, ((ino_new w i hn).alloc _).alloc _, (Below.heap_alloc _ _ _ (by rw [s2]; omega)).trans h1, ?_, by omega⟩
  unfold RowI
  rw [← hz]
  exact h2
theorem names_set {ns : List Int} (hn : ns.length = 8) : ((ns.take 6 ++ List.drop 6 [0, 0, 0, 0, 0, 0, 0, 0]).set 6 (ns.getD 6 0)).set 7 (ns.getD 7 0) = ns := by
  obtain ⟨a0, a1, a2, a3, a4, a5, a6, a7, rfl⟩ := eight_i hn
  rfl
set_option maxHeartbeats 2000000 in
theorem named_any (i : Ino) (hn : i.ns.length = 8) (w : World) :
    Calls Try.prog 53 #[.agg (iA i)] w fun e w' => e = .returned (.agg (ivs i.ns).toArray) ∧ Below w.heap.size w w' := by
  obtain ⟨Z, hz, hzs, HZ⟩ := zeroN
  have HS : Hid _ := NW.start w Z i hn HZ.out
  go_enter Try.func53, Try.ntmps53
  go_wp2_with fail
  generalize ((w.alloc (.cells (iA i) 24)).alloc (.cells Z 70)).alloc (.cells Z 70) = W at *
  generalize w.heap.size + 2 = q at *
  have hs : NW w Z i q [0, 0, 0, 0, 0, 0, 0, 0] W.drew := HS.out.low (Below.refl _ _).drew (HS.out.row)
  clear HS HZ
  obtain ⟨w1, c1, r1, b1, _⟩ := copy_ints (n := 8) (m := 6) (b := w.heap.size) (o := 4) (x := i.ns.take 6) 8 6 hs.row rfl (fun j hj => by
    simp only [List.length_take] at hj
    rw [hs.ino.name j (by omega)]; simp [hn, show j < 6 by omega, show j < 8 by omega]) (by simp [hn]) (by omega)
  have s1 := hs.low b1 r1
  have H1 : Hid _ := s1
  clear hs r1 b1 s1
  refine wp_region_held_drew (S := (fun _ => True)) (by kernel_rfl) trivial (fun hH => ?_)
  refine takeH (i := 0) (dst := some 4) (v := ?v1) rfl rfl (by kernel_rfl) (by kernel_rfl) (by kernel_rfl) (fun _ _ _ h => h) rfl ?hy1 hH rfl ?rest1
  case hy1 => (intro W hW; clear hW; go_simp; try with_reducible rfl)
  (try simp only [Act.put, List.setIfInBounds_toArray, List.set_cons_zero, List.set_cons_succ])
  refine takeH (i := 1) (dst := some 5) (v := ?v2) rfl rfl (by kernel_rfl) (by kernel_rfl) (by kernel_rfl) (fun _ _ _ h => h) rfl ?hy2 hH rfl ?rest2
  case hy2 => (intro W hW; clear hW; go_simp; try with_reducible rfl)
  (try simp only [Act.put, List.setIfInBounds_toArray, List.set_cons_zero, List.set_cons_succ])
  refine takeH (i := 2) (dst := some 6) (v := ?v3) rfl rfl (by kernel_rfl) (by kernel_rfl) (by kernel_rfl) (fun _ _ _ h => h) rfl ?hy3 hH rfl ?rest3
  case hy3 => (intro W hW; clear hW; go_simp; try with_reducible rfl)
  (try simp only [Act.put, List.setIfInBounds_toArray, List.set_cons_zero, List.set_cons_succ])
  refine callH (i := 3) { dst := some 7, op := Go.Op.call { callee := Go.Callee.builtin Go.Builtin.copy, args := #[Go.Operand.tmp 4, Go.Operand.tmp 6], argTypes := #[40, 40] }, type := 3, pos := "inode.go:32", after := #[{ on := 0, ground := Go.Ground.data }, { on := 2, ground := Go.Ground.data }], guard := none } (by kernel_rfl) rfl rfl (fun K hK => ?_)
  go_simp
  clear hH
  refine hK.out _ _ trivial (fun hH => ?_)
  clear hK K
  (try simp only [Act.put, List.setIfInBounds_toArray, List.set_cons_zero, List.set_cons_succ])
  refine wpAnyH_done (by kernel_rfl) ?_ _
  clear hH
  clear c1
  obtain ⟨x6, X6⟩ : ∃ x, Hid (x = i.ns.getD 6 0) := ⟨_, rfl⟩
  obtain ⟨x7, X7⟩ : ∃ x, Hid (x = i.ns.getD 7 0) := ⟨_, rfl⟩
  have hq := H1.out.lt
  have q10 : w1.cell? ⟨w.heap.size, 10, none⟩ = some (.int .i64 x6) := by rw [X6.out]; exact H1.out.ino.name 6 (by omega)
  have q11 : w1.cell? ⟨w.heap.size, 11, none⟩ = some (.int .i64 x7) := by rw [X7.out]; exact H1.out.ino.name 7 (by omega)
  have r6 := H1.out.row.cell 6 (by simp [hn])
  have r7 := H1.out.row.cell 7 (by simp [hn])
  have f6 := H1.out.row.frozen 6
  have f7 := H1.out.row.frozen 7
  have s2 : NW w Z i q i.ns ((w1.setCell ⟨q, 6, none⟩ (.int .i64 x6)).setCell ⟨q, 7, none⟩ (.int .i64 x7)) := by
    have rr := (H1.out.row.set 6 x6).set 7 x7
    rw [X6.out, X7.out, names_set hn] at rr
    rw [X6.out, X7.out]
    exact H1.out.low (((Below.refl _ _).setCell (by simp) _).setCell (by simp) _) rr
  have H2 : Hid _ := s2
  have HN : Hid (i.ns.length = 8) := hn
  clear s2 hn
  go_wp2_with (first | ((with_reducible show wpList _ _ _ ({ dst := _, op := Op.load 70 _, type := _, pos := _, after := _, guard := _ } :: _) _ _); refine wpList_load_row rfl _ rfl H2.out.row HN.out rfl ?_) | ((with_reducible show wpList _ _ _ ({ dst := _, op := Op.store 70 _ _, type := _, pos := _, after := _, guard := _ } :: _) _ _); refine wpList_store_row rfl _ _ rfl H2.out.res hzs HN.out rfl rfl ?_; intro w9 H9 b9 z9))
  exact bodyPost_ret (results_cell_row rfl _ _ (w.heap.size + 1) 70 _ (0, 0) _ rfl H9 Try.underlying70 rfl (by rw [Try.sz70, List.size_toArray, ivs_length, HN.out])) rfl ⟨rfl, H2.out.b.trans (b9.mono (by omega))⟩
end Go.Proofs.Ytabmogeicpphoaa
/- inode.bounded, inode.Right. -/
namespace Go.Proofs.Ytabmogeicpphoaa
open Go.RowKit
/-- A block's name. -/
def okN (x : Int) : Bool := decide (0 ≤ x) && decide (x < 4096)
def lkB (i : Ino) : Bool := decide (0 ≤ i.l) && (decide (i.l ≤ 1000) && (decide (1 ≤ i.d) && decide (i.d ≤ 4611686018427387904)))
def bndB (i : Ino) : Bool := i.ns.all okN && lkB i
theorem all_step {l : List Int} {k : Nat} (h : k < l.length) : (l.take (k + 1)).all okN = ((l.take k).all okN && okN (l.getD k 0)) := by
  have e : l.getD k 0 = l[k] := by simp [h]
  rw [List.take_succ_eq_append_getElem h, List.all_append, e]; simp only [List.all_cons, List.all_nil, Bool.and_true]
theorem all_no {l : List Int} {k : Nat} (h : k < l.length) (hk : okN (l.getD k 0) = false) : l.all okN = false := by
  rw [List.all_eq_false]
  exact ⟨l[k], List.getElem_mem h, by simpa [h] using hk⟩
set_option maxHeartbeats 2000000 in
theorem bounded_any (i : Ino) (hn : i.ns.length = 8) (w : World) :
    Calls Try.prog 52 #[.agg (iA i)] w fun e w' => e = .returned (.bool (bndB i)) ∧ Below w.heap.size w w' := by
  have HI : Hid (InoAt (w.alloc (.cells (iA i) 24)) w.heap.size i) := ino_new w i hn
  have HB : Hid (Below w.heap.size w (w.alloc (.cells (iA i) 24))) := (Below.refl _ _).alloc (Nat.le_refl _) _
  have NA := fun W => named_any i hn W
  have HN : Hid (i.ns.length = 8) := hn
  clear hn
  go_enter Try.func52, Try.ntmps52
  go_wp2_with (first | ((with_reducible show wpList _ _ _ ({ dst := _, op := Op.load 24 _, type := _, pos := _, after := _, guard := _ } :: _) _ _); refine wpList_load_ino rfl _ rfl (HI.out) rfl ?_))
  refine (NA _).mono ?_
  rintro e w1 ⟨rfl, h1⟩
  have HI1 : Hid (InoAt w1 w.heap.size i) := HI.out.up h1
  have HB1 : Hid (Below w.heap.size w w1) := HB.out.trans (h1.mono HB.out.size)
  clear NA HI HB h1
  go_wp2
  go_loop [7] (fun t => ∃ k : Nat, k ≤ 8 ∧ t = .int .i64 k ∧ (i.ns.take k).all okN = true) (fun t => 8 - (intOf t).toNat)
  case atStart => exact ⟨0, by omega, rfl, by simp⟩
  case round =>
    obtain ⟨k, hk, rfl, hall⟩ := hrel
    have HA : Hid ((i.ns.take k).all okN = true) := hall
    clear hall
    by_cases hlt : (k : Int) < 8
    · have hix := run_index8 HN.out k (by omega)
      have HS : Hid _ := all_step (l := i.ns) (k := k) (by rw [HN.out]; omega)
      have HO : Hid (∀ h : okN (i.ns.getD k 0) = false, i.ns.all okN = false) := fun h => all_no (by rw [HN.out]; omega) h
      generalize i.ns.getD k 0 = x at *
      by_cases h0 : x < 0
      · go_wp2
        go_ret
        exact ⟨ret_bool (by unfold bndB; rw [HO.out (by simp [okN]; omega)]; rfl), HB1.out⟩
      by_cases h1 : 4096 ≤ x
      · go_wp2
        go_ret
        exact ⟨ret_bool (by unfold bndB; rw [HO.out (by simp [okN]; omega)]; rfl), HB1.out⟩
      · go_wp2
        go_round
        case rel => exact ⟨k + 1, by omega, by go_num, by rw [HS.out, HA.out]; simp [okN]; omega⟩
        case measure => simp [intOf]; omega
    · have HALL : Hid (i.ns.all okN = true) := by
        have := HA.out
        rw [List.take_of_length_le (by rw [HN.out]; omega)] at this
        exact this
      have q1 := HI1.out.c1
      have q3 := HI1.out.c3
      have FIN : Hid (∀ b, lkB i = b → Ending.returned (.bool b) = .returned (.bool (bndB i))) := fun b hb => by rw [bndB, HALL.out, hb]; rfl
      unfold lkB at FIN
      generalize i.l = L at *
      generalize i.d = D at *
      by_cases g0 : L < 0
      · have d0 : decide (0 ≤ L) = false := by simp; omega
        go_wp2
        go_ret
        exact ⟨FIN.out _ (by simp; omega), HB1.out⟩
      by_cases g1 : 1000 < L
      · have d1 : decide (L ≤ 1000) = false := by simp; omega
        go_wp2
        go_ret
        exact ⟨FIN.out _ (by simp; omega), HB1.out⟩
      by_cases g2 : D < 1
      · have d2 : decide (1 ≤ D) = false := by simp; omega
        go_wp2
        go_ret
        exact ⟨FIN.out _ (by simp; omega), HB1.out⟩
      by_cases g3 : 4611686018427387904 < D
      · have d3 : decide (D ≤ 4611686018427387904) = false := by simp; omega
        go_wp2
        go_ret
        exact ⟨FIN.out _ (by simp; omega), HB1.out⟩
      have d0 : decide (0 ≤ L) = true := by simp; omega
      have d1 : decide (L ≤ 1000) = true := by simp; omega
      have d2 : decide (1 ≤ D) = true := by simp; omega
      have d3 : decide (D ≤ 4611686018427387904) = true := by simp; omega
      go_wp2
      go_ret
      exact ⟨FIN.out _ (by rw [d0, d1, d2]; simp; omega), HB1.out⟩
end Go.Proofs.Ytabmogeicpphoaa
/- inode.Right, leveeref07.Right. -/
namespace Go.Proofs.Ytabmogeicpphoaa
open Go.RowKit
/-- An inode that can be. -/
def szB (i : Ino) : Bool := if i.k = 3 then decide (1 ≤ i.s) && decide (i.s ≤ 255) else (decide (0 ≤ i.s) && decide (i.s ≤ 1066496)) && (decide (i.k ≠ 2) || decide (i.s % 256 = 0))
def rtB (i : Ino) : Bool := if i.k = 0 then eqI i zino else (decide (1 ≤ i.k) && decide (i.k ≤ 3)) && (szB i && bndB i)
theorem emod_tmod {x : Int} (h : x.tmod 256 = 0) : x % 256 = 0 := Int.emod_eq_zero_of_dvd (Int.dvd_of_tmod_eq_zero h)
theorem tmod_emod {x : Int} (h : x % 256 = 0) : x.tmod 256 = 0 := Int.tmod_eq_zero_of_dvd (Int.dvd_of_emod_eq_zero h)
set_option maxHeartbeats 2000000 in
theorem iright_any (i : Ino) (hn : i.ns.length = 8) (w : World) :
    Calls Try.prog 14 #[.agg (iA i)] w fun e w' => e = .returned (.bool (rtB i)) ∧ Below w.heap.size w w' := by
  have hz := zeroI
  have HI : Hid (InoAt (w.alloc (.cells (iA i) 24)) w.heap.size i) := ino_new w i hn
  have HB : Hid (Below w.heap.size w (w.alloc (.cells (iA i) 24))) := (Below.refl _ _).alloc (Nat.le_refl _) _
  have BA := fun W => bounded_any i hn W
  have HN : Hid (i.ns.length = 8) := hn
  have q0 := HI.out.c0
  have q2 := HI.out.c2
  have FR : Hid (i.k = 0 → ∀ b, eqI i zino = b → Ending.returned (.bool b) = .returned (.bool (rtB i))) := fun h b hb => by rw [rtB, if_pos h, hb]
  have FB : Hid (∀ h : (¬ i.k = 0), ∀ b, ((decide (1 ≤ i.k) && decide (i.k ≤ 3)) && (szB i && bndB i)) = b → Ending.returned (.bool b) = .returned (.bool (rtB i))) := fun h b hb => by rw [rtB, if_neg h, hb]
  unfold szB at FB
  clear hn
  obtain ⟨K, HK⟩ : ∃ x, Hid (x = i.k) := ⟨_, rfl⟩
  obtain ⟨S, HS⟩ : ∃ x, Hid (x = i.s) := ⟨_, rfl⟩
  rw [← HK.out] at q0 FR FB
  rw [← HS.out] at q2 FB
  by_cases k0 : K = 0
  · go_enter Try.func14, Try.ntmps14
    go_wp2_with (first | ((with_reducible show wpList _ _ _ ({ dst := _, op := Op.load 24 _, type := _, pos := _, after := _, guard := _ } :: _) _ _); refine wpList_load_ino rfl _ rfl (HI.out) rfl ?_) | ((with_reducible show wpList _ _ _ ({ dst := _, op := Op.binOp BinOp.eql 24 _ _ 24, type := _, pos := _, after := _, guard := _ } :: _) _ _); refine wpList_eq_ino rfl _ _ rfl rfl rfl HN.out rfl rfl ?_))
    go_ret
    exact ⟨FR.out k0 _ rfl, HB.out⟩
  by_cases k2 : K = 2
  · by_cases s2 : S.tmod 256 = 0
    · by_cases s0 : S < 0
      · have d0 : decide (0 ≤ S) = false := by simp; omega
        go_enter Try.func14, Try.ntmps14
        go_wp2_with (first | ((with_reducible show wpList _ _ _ ({ dst := _, op := Op.load 24 _, type := _, pos := _, after := _, guard := _ } :: _) _ _); refine wpList_load_ino rfl _ rfl (HI.out) rfl ?_))
        go_ret
        exact ⟨FB.out k0 _ (by simp [k2]; omega), HB.out⟩
      by_cases s1 : 1066496 < S
      · have d0 : decide (S ≤ 1066496) = false := by simp; omega
        go_enter Try.func14, Try.ntmps14
        go_wp2_with (first | ((with_reducible show wpList _ _ _ ({ dst := _, op := Op.load 24 _, type := _, pos := _, after := _, guard := _ } :: _) _ _); refine wpList_load_ino rfl _ rfl (HI.out) rfl ?_))
        go_ret
        exact ⟨FB.out k0 _ (by simp [k2]; omega), HB.out⟩
      · generalize bndB i = B at *
        have d0 : 0 ≤ S := by omega
        have d1 : S ≤ 1066496 := by omega
        go_enter Try.func14, Try.ntmps14
        go_wp2_with (first | ((with_reducible show wpList _ _ _ ({ dst := _, op := Op.load 24 _, type := _, pos := _, after := _, guard := _ } :: _) _ _); refine wpList_load_ino rfl _ rfl (HI.out) rfl ?_))
        refine (BA _).mono ?_
        rintro e w1 ⟨rfl, h1⟩
        go_wp2
        go_ret
        exact ⟨FB.out k0 _ (by have := emod_tmod s2; simp [k2]; omega), HB.out.trans (h1.mono HB.out.size)⟩
    · have s2' : ¬ S % 256 = 0 := fun h => s2 (tmod_emod h)
      go_enter Try.func14, Try.ntmps14
      go_wp2_with (first | ((with_reducible show wpList _ _ _ ({ dst := _, op := Op.load 24 _, type := _, pos := _, after := _, guard := _ } :: _) _ _); refine wpList_load_ino rfl _ rfl (HI.out) rfl ?_))
      go_ret
      exact ⟨FB.out k0 _ (by simp [k2]; omega), HB.out⟩
  by_cases k1 : K = 1
  · by_cases s0 : S < 0
    · have d0 : decide (0 ≤ S) = false := by simp; omega
      go_enter Try.func14, Try.ntmps14
      go_wp2_with (first | ((with_reducible show wpList _ _ _ ({ dst := _, op := Op.load 24 _, type := _, pos := _, after := _, guard := _ } :: _) _ _); refine wpList_load_ino rfl _ rfl (HI.out) rfl ?_))
      go_ret
      exact ⟨FB.out k0 _ (by simp [k1]; omega), HB.out⟩
    by_cases s1 : 1066496 < S
    · have d0 : decide (S ≤ 1066496) = false := by simp; omega
      go_enter Try.func14, Try.ntmps14
      go_wp2_with (first | ((with_reducible show wpList _ _ _ ({ dst := _, op := Op.load 24 _, type := _, pos := _, after := _, guard := _ } :: _) _ _); refine wpList_load_ino rfl _ rfl (HI.out) rfl ?_))
      go_ret
      exact ⟨FB.out k0 _ (by simp [k1]; omega), HB.out⟩
    · generalize bndB i = B at *
      have d0 : 0 ≤ S := by omega
      have d1 : S ≤ 1066496 := by omega
      go_enter Try.func14, Try.ntmps14
      go_wp2_with (first | ((with_reducible show wpList _ _ _ ({ dst := _, op := Op.load 24 _, type := _, pos := _, after := _, guard := _ } :: _) _ _); refine wpList_load_ino rfl _ rfl (HI.out) rfl ?_))
      refine (BA _).mono ?_
      rintro e w1 ⟨rfl, h1⟩
      go_wp2
      go_ret
      exact ⟨FB.out k0 _ (by simp [k1]; omega), HB.out.trans (h1.mono HB.out.size)⟩
  by_cases k3 : K = 3
  · by_cases s0 : S < 1
    · have d0 : decide (1 ≤ S) = false := by simp; omega
      go_enter Try.func14, Try.ntmps14
      go_wp2_with (first | ((with_reducible show wpList _ _ _ ({ dst := _, op := Op.load 24 _, type := _, pos := _, after := _, guard := _ } :: _) _ _); refine wpList_load_ino rfl _ rfl (HI.out) rfl ?_))
      go_ret
      exact ⟨FB.out k0 _ (by simp [k3]; omega), HB.out⟩
    by_cases s1 : 255 < S
    · have d0 : decide (S ≤ 255) = false := by simp; omega
      go_enter Try.func14, Try.ntmps14
      go_wp2_with (first | ((with_reducible show wpList _ _ _ ({ dst := _, op := Op.load 24 _, type := _, pos := _, after := _, guard := _ } :: _) _ _); refine wpList_load_ino rfl _ rfl (HI.out) rfl ?_))
      go_ret
      exact ⟨FB.out k0 _ (by simp [k3]; omega), HB.out⟩
    · generalize bndB i = B at *
      have d0 : 1 ≤ S := by omega
      have d1 : S ≤ 255 := by omega
      go_enter Try.func14, Try.ntmps14
      go_wp2_with (first | ((with_reducible show wpList _ _ _ ({ dst := _, op := Op.load 24 _, type := _, pos := _, after := _, guard := _ } :: _) _ _); refine wpList_load_ino rfl _ rfl (HI.out) rfl ?_))
      refine (BA _).mono ?_
      rintro e w1 ⟨rfl, h1⟩
      go_wp2
      go_ret
      exact ⟨FB.out k0 _ (by simp [k3]; omega), HB.out.trans (h1.mono HB.out.size)⟩
  · go_enter Try.func14, Try.ntmps14
    go_wp2_with (first | ((with_reducible show wpList _ _ _ ({ dst := _, op := Op.load 24 _, type := _, pos := _, after := _, guard := _ } :: _) _ _); refine wpList_load_ino rfl _ rfl (HI.out) rfl ?_))
    go_ret
    exact ⟨FB.out k0 _ (by simp; omega), HB.out⟩
end Go.Proofs.Ytabmogeicpphoaa
