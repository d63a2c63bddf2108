/- Two inodes held against each other; arrays of names, of bytes. -/
import Derived.Test.YtabmogeicpphoaaIno
import Derived.ChangeKeysEq
namespace Go.Proofs.Ytabmogeicpphoaa
open Go.RowKit
theorem eqf_step {P : Program} {d : Nat} {xs ys : Array Value} {f : Field} {fs : List Field} {a b : Value} {r r2 : Bool} {w : World} (hn : f.name ≠ "_") (h1 : (part f.type xs f.offset).run P w = .ok a w) (h2 : (part f.type ys f.offset).run P w = .ok b w) (h3 : (Op.equalIn d f.type a b).run P w = .ok r w)
    (h4 : (Op.eqFields d xs ys fs).run P w = .ok r2 w) : (Op.eqFields d xs ys (f :: fs)).run P w = .ok (r && r2) w := by
  simp only [Op.eqFields, if_pos hn, Sem.run_bind, h1, h2, h3, Result.andThen_ok]
  cases r
  · simp
  · simp [h4]
theorem eqi_step {P : Program} {d c : Nat} {e : TypeId} {xs ys : Array Value} {i : Nat} {is : List Nat} {a b : Value} {r r2 : Bool} {w : World} (h1 : (part e xs (i * c)).run P w = .ok a w) (h2 : (part e ys (i * c)).run P w = .ok b w) (h3 : (Op.equalIn d e a b).run P w = .ok r w)
    (h4 : (Op.eqItems d e c xs ys is).run P w = .ok r2 w) : (Op.eqItems d e c xs ys (i :: is)).run P w = .ok (r && r2) w := by
  simp only [Op.eqItems, Sem.run_bind, h1, h2, h3, Result.andThen_ok]
  cases r
  · simp
  · simp [h4]
theorem eq_six (a0 a1 a2 a3 a4 a5 b0 b1 b2 b3 b4 b5 : Int) (w : World) :
    (Op.equalIn 9999 22 (.agg (ivs [a0, a1, a2, a3, a4, a5]).toArray) (.agg (ivs [b0, b1, b2, b3, b4, b5]).toArray)).run Try.prog w = .ok (a0 == b0 && (a1 == b1 && (a2 == b2 && (a3 == b3 && (a4 == b4 && (a5 == b5 && true)))))) w := by
  have hi : (Try.prog.info? 3).isSome = true := by kernel_rfl
  obtain ⟨i, hi⟩ := Option.isSome_iff_exists.1 hi
  have hc : Try.prog.cellsOf 3 = 1 := by kernel_rfl
  rw [run_equalIn_array w 9998 _ _ Try.underlying22 hi, hc, show List.range 6 = [0, 1, 2, 3, 4, 5] from rfl]
  refine eqi_step (part_int 3 Try.underlying3 _ _ a0 rfl w) (part_int 3 Try.underlying3 _ _ b0 rfl w) (eq_int 9997 3 Try.underlying3 _ _ w) ?_
  refine eqi_step (part_int 3 Try.underlying3 _ _ a1 rfl w) (part_int 3 Try.underlying3 _ _ b1 rfl w) (eq_int 9997 3 Try.underlying3 _ _ w) ?_
  refine eqi_step (part_int 3 Try.underlying3 _ _ a2 rfl w) (part_int 3 Try.underlying3 _ _ b2 rfl w) (eq_int 9997 3 Try.underlying3 _ _ w) ?_
  refine eqi_step (part_int 3 Try.underlying3 _ _ a3 rfl w) (part_int 3 Try.underlying3 _ _ b3 rfl w) (eq_int 9997 3 Try.underlying3 _ _ w) ?_
  refine eqi_step (part_int 3 Try.underlying3 _ _ a4 rfl w) (part_int 3 Try.underlying3 _ _ b4 rfl w) (eq_int 9997 3 Try.underlying3 _ _ w) ?_
  refine eqi_step (part_int 3 Try.underlying3 _ _ a5 rfl w) (part_int 3 Try.underlying3 _ _ b5 rfl w) (eq_int 9997 3 Try.underlying3 _ _ w) ?_
  simp [Op.eqItems]
theorem seven_fields {fs : List Field} (h : (fs.map fun f => (f.name == "_", f.type, f.offset)) = [(false, 3, 0), (false, 3, 1), (false, 2, 2), (false, 2, 3), (false, 22, 4), (false, 3, 10), (false, 3, 11)]) :
    ∃ f0 f1 f2 f3 f4 f5 f6 : Field, fs = [f0, f1, f2, f3, f4, f5, f6] ∧ (f0.name ≠ "_" ∧ f0.type = 3 ∧ f0.offset = 0) ∧ (f1.name ≠ "_" ∧ f1.type = 3 ∧ f1.offset = 1) ∧ (f2.name ≠ "_" ∧ f2.type = 2 ∧ f2.offset = 2) ∧ (f3.name ≠ "_" ∧ f3.type = 2 ∧ f3.offset = 3) ∧ (f4.name ≠ "_" ∧ f4.type = 22 ∧ f4.offset = 4) ∧ (f5.name ≠ "_" ∧ f5.type = 3 ∧ f5.offset = 10) ∧ (f6.name ≠ "_" ∧ f6.type = 3 ∧ f6.offset = 11) := by
  have hl : fs.length = 7 := by have := congrArg List.length h; simpa using this
  obtain ⟨f0, f1, f2, f3, f4, f5, f6, rfl⟩ : ∃ f0 f1 f2 f3 f4 f5 f6, fs = [f0, f1, f2, f3, f4, f5, f6] := by
    match fs, hl with
    | [f0, f1, f2, f3, f4, f5, f6], _ => exact ⟨f0, f1, f2, f3, f4, f5, f6, rfl⟩
  simp only [List.map_cons, List.map_nil, List.cons.injEq, Prod.mk.injEq, beq_eq_false_iff_ne, and_true] at h
  exact ⟨f0, f1, f2, f3, f4, f5, f6, rfl, h.1, h.2.1, h.2.2.1, h.2.2.2.1, h.2.2.2.2.1, h.2.2.2.2.2.1, h.2.2.2.2.2.2⟩
theorem part_six (cs : Array Value) (o : Nat) (l : List Int) (hx : cs.extract o (o + 6) = (ivs l).toArray) (w : World) : (part 22 cs o).run Try.prog w = .ok (.agg (ivs l).toArray) w := by
  simp [part, isAgg, run_underlying Try.underlying22, hx]
theorem run_eq_ino {i j : Ino} (hi : i.ns.length = 8) (hj : j.ns.length = 8) (w : World) :
    (Op.equalIn 10000 24 (.agg (iA i)) (.agg (iA j))).run Try.prog w = .ok (eqI i j) w := by
  obtain ⟨k, l, s, d, ns⟩ := i
  obtain ⟨k2, l2, s2, d2, ns2⟩ := j
  obtain ⟨a0, a1, a2, a3, a4, a5, a6, a7, rfl⟩ := eight_i hi
  obtain ⟨b0, b1, b2, b3, b4, b5, b6, b7, rfl⟩ := eight_i hj
  rw [run_equalIn_struct (P := Try.prog) w 9999 24 _ _ (by kernel_rfl) (by kernel_rfl)]
  obtain ⟨f0, f1, f2, f3, f4, f5, f6, hfs, h0, h1, h2, h3, h4, h5, h6⟩ := seven_fields (fs := (Try.prog.fieldsOf 24).toList) (by kernel_rfl)
  rw [hfs]
  have e : eqI ⟨k, l, s, d, [a0, a1, a2, a3, a4, a5, a6, a7]⟩ ⟨k2, l2, s2, d2, [b0, b1, b2, b3, b4, b5, b6, b7]⟩ = (k == k2 && (l == l2 && (s == s2 && (d == d2 && ((a0 == b0 && (a1 == b1 && (a2 == b2 && (a3 == b3 && (a4 == b4 && (a5 == b5 && true)))))) && (a6 == b6 && (a7 == b7 && true))))))) := by
    simp [eqI, Bool.and_assoc]
  rw [e]
  refine eqf_step h0.1 (by rw [h0.2.1, h0.2.2]; exact part_int 3 Try.underlying3 _ _ k rfl w) (by rw [h0.2.1, h0.2.2]; exact part_int 3 Try.underlying3 _ _ k2 rfl w) (by rw [h0.2.1]; exact eq_int 9998 3 Try.underlying3 _ _ w) ?_
  refine eqf_step h1.1 (by rw [h1.2.1, h1.2.2]; exact part_int 3 Try.underlying3 _ _ l rfl w) (by rw [h1.2.1, h1.2.2]; exact part_int 3 Try.underlying3 _ _ l2 rfl w) (by rw [h1.2.1]; exact eq_int 9998 3 Try.underlying3 _ _ w) ?_
  refine eqf_step h2.1 (by rw [h2.2.1, h2.2.2]; exact part_int 2 Try.underlying2 _ _ s rfl w) (by rw [h2.2.1, h2.2.2]; exact part_int 2 Try.underlying2 _ _ s2 rfl w) (by rw [h2.2.1]; exact eq_int 9998 2 Try.underlying2 _ _ w) ?_
  refine eqf_step h3.1 (by rw [h3.2.1, h3.2.2]; exact part_int 2 Try.underlying2 _ _ d rfl w) (by rw [h3.2.1, h3.2.2]; exact part_int 2 Try.underlying2 _ _ d2 rfl w) (by rw [h3.2.1]; exact eq_int 9998 2 Try.underlying2 _ _ w) ?_
  refine eqf_step h4.1 (by rw [h4.2.1, h4.2.2]; exact part_six _ 4 [a0, a1, a2, a3, a4, a5] rfl w) (by rw [h4.2.1, h4.2.2]; exact part_six _ 4 [b0, b1, b2, b3, b4, b5] rfl w) (by rw [h4.2.1]; exact eq_six _ _ _ _ _ _ _ _ _ _ _ _ w) ?_
  refine eqf_step h5.1 (by rw [h5.2.1, h5.2.2]; exact part_int 3 Try.underlying3 _ _ a6 rfl w) (by rw [h5.2.1, h5.2.2]; exact part_int 3 Try.underlying3 _ _ b6 rfl w) (by rw [h5.2.1]; exact eq_int 9998 3 Try.underlying3 _ _ w) ?_
  refine eqf_step h6.1 (by rw [h6.2.1, h6.2.2]; exact part_int 3 Try.underlying3 _ _ a7 rfl w) (by rw [h6.2.1, h6.2.2]; exact part_int 3 Try.underlying3 _ _ b7 rfl w) (by rw [h6.2.1]; exact eq_int 9998 3 Try.underlying3 _ _ w) ?_
  simp [Op.eqFields]
theorem wpList_eq_ino {ops : Array Oper} {rest : List Oper} {op : Oper} {a : Act} {w : World} {Q : Exit → Act → World → Prop} (hw : Region.wanted op (yielded ops a.tmps) = true) (x y : Operand) (ho : op.op = .binOp .eql 24 x y 24)
    {i j : Ino} (hx : a.eval x = .agg (iA i)) (hy : a.eval y = .agg (iA j)) (hi : i.ns.length = 8) (hj : j.ns.length = 8) {b : Bool} (he : eqI i j = b)
    (h : wpList Try.prog ops Q rest (a.put op.dst (.bool b)) w) : wpList Try.prog ops Q (op :: rest) a w := by
  subst he
  refine wpList_want hw fun K hK => ?_
  have hg : ∀ X Y (w : World), (eqGuard .eql 24 x y (.agg X) (.agg Y)).run Try.prog w = .ok () w := fun X Y w => run_eqGuard_agg w .eql 24 x y X Y (by kernel_rfl)
  unfold Oper.wp execOp
  simp only [ho, hx, hy]
  simp [hg, run_eql_struct, run_eq_ino hi hj, Result.andThen]
  exact hK _ _ h
theorem wpList_neq_ino {ops : Array Oper} {rest : List Oper} {op : Oper} {a : Act} {w : World} {Q : Exit → Act → World → Prop} (hw : Region.wanted op (yielded ops a.tmps) = true) (x y : Operand) (ho : op.op = .binOp .neq 24 x y 24)
    {i j : Ino} (hx : a.eval x = .agg (iA i)) (hy : a.eval y = .agg (iA j)) (hi : i.ns.length = 8) (hj : j.ns.length = 8) {b : Bool} (he : (!eqI i j) = b)
    (h : wpList Try.prog ops Q rest (a.put op.dst (.bool b)) w) : wpList Try.prog ops Q (op :: rest) a w := by
  subst he
  refine wpList_want hw fun K hK => ?_
  have hg : ∀ X Y (w : World), (eqGuard .neq 24 x y (.agg X) (.agg Y)).run Try.prog w = .ok () w := fun X Y w => run_eqGuard_agg w .neq 24 x y X Y (by kernel_rfl)
  unfold Oper.wp execOp
  simp only [ho, hx, hy]
  simp [hg, run_neq_struct, run_eq_ino hi hj, Result.andThen]
  exact hK _ _ h
/-- The element of an array of eight numbers. -/
theorem run_index8 {ns : List Int} (hn : ns.length = 8) (k : Nat) (hk : k < 8) (w : World) : (Instr.index 70 (.agg (ivs ns).toArray) (.int .i64 (k : Int))).run Try.prog w = .ok (.int .i64 (ns.getD k 0)) w := by
  have hx : (ivs ns).toArray[k * 1]? = some (.int .i64 (ns.getD k 0)) := by simp [ivs, hn, hk]
  have h0 : (0 : Int) ≤ k ∧ (k : Int) < ((8 : Nat) : Int) := by omega
  have h3 := size3 w
  simp only [Instr.index, asIntOf, Sem.run_bind, Sem.run_pure, Result.andThen_ok, run_underlying Try.underlying70]
  simp only [Int.toNat_natCast]
  rw [if_pos h0]
  simp only [Sem.run_bind, h3, Result.andThen_ok]
  exact part_int 3 Try.underlying3 _ _ _ hx w
end Go.Proofs.Ytabmogeicpphoaa
