/- Package cache: a new block; a map's update; another number in the order. -/
import Derived.Test.YtaljaledeljllaaGreatCroom
import Derived.Deep.AppendLies
namespace Go.Proofs.YtaljaledeljllaaGreat
open Go.RowKit
set_option maxRecDepth 100000
theorem fold_set0 : ∀ (l : List Value) (k : Nat) (cs : Array Value), k + l.length ≤ cs.size → ((l.zipIdx k).foldl (fun cs p => cs.setIfInBounds (0 + p.2) p.1) cs).toList = cs.toList.take k ++ l ++ cs.toList.drop (k + l.length)
  | [], k, cs, _ => by simp
  | v :: r, k, cs, h => by
    simp only [List.zipIdx_cons, List.foldl_cons]
    have ih := fold_set0 r (k + 1) (cs.setIfInBounds (0 + k) v) (by simp at h ⊢; omega)
    rw [ih, Array.toList_setIfInBounds]
    have e := list_seg_step cs.toList k v r (by simp at h ⊢; omega)
    simpa [Nat.add_assoc, Nat.add_comm, Nat.add_left_comm] using e
theorem fill_blk (A : Array Value) (z : List Value) (x : Value) (h1 : A.size = 256) (h2 : z.length = 256) : Instr.fill (([(0, 256), (256, 1)] : List (Nat × Nat)).toArray[·]?) (z ++ [x]).toArray [(0, .agg A)] = some (A.toList ++ [x]).toArray := by
  have h3 : (Value.agg A).cells = A := rfl
  have hf : A.zipIdx.foldl (fun cs (p : Value × Nat) => cs.setIfInBounds (0 + p.2) p.1) (z ++ [x]).toArray = (A.toList ++ [x]).toArray := by
    apply Array.toList_inj.1
    have := fold_set0 A.toList 0 (z ++ [x]).toArray (by simp [h1, h2])
    rw [List.take_zero, List.nil_append, Nat.zero_add, List.toList_toArray, Array.length_toList, h1, List.drop_left' h2] at this
    rw [List.toList_toArray, ← this]
    congr 1
    rw [← Array.foldl_toList, Array.toList_zipIdx]
  unfold Instr.fill
  simp only [h3, h1]
  rw [show (([(0, 256), (256, 1)] : List (Nat × Nat)).toArray[0]?) = some (0, 256) from rfl]
  simp only [Instr.fill]
  rw [if_neg (by simp [h2])]
  exact congrArg some hf
theorem build_blk (d : List UInt8) (hd : d.length = 256) (w : World) : (Instr.build 176 #[(0, .agg (bvs d).toArray)]).run Tryz.prog w = .ok (.agg (bvs d ++ [Value.int .i64 0]).toArray) w := by
  refine Go.run_build w 176 _ _ ?_
  have hz : (Tryz.prog.info? 176).map (fun i => i.zero) = some (some (.agg (bvs (List.replicate 256 0) ++ [Value.int .i64 0]).toArray)) := by kernel_rfl
  have hp : (match Tryz.prog.underlying 176 with | some (.struct fields) => fields.toList.mapM (fun f => (Tryz.prog.info? f.type).map fun i => (f.offset, i.size)) | _ => none) = some [(0, 256), (256, 1)] := by kernel_rfl
  unfold Program.built
  cases hi : Tryz.prog.info? 176 with
  | none => rw [hi] at hz; cases hz
  | some it =>
    rw [hi] at hz
    have hz' : it.zero = some (.agg (bvs (List.replicate 256 0) ++ [Value.int .i64 0]).toArray) := Option.some.inj hz
    have hA : (bvs d).toArray.size = 256 := by rw [List.size_toArray, bvs_length, hd]
    have hF := fill_blk (bvs d).toArray (bvs (List.replicate 256 0)) (.int .i64 0) hA (by rw [bvs_length, List.length_replicate])
    revert hp
    cases hu : Tryz.prog.underlying 176 with
    | none => intro hp; cases hp
    | some D =>
      cases D <;> intro hp <;> first | (cases hp; done) | skip
      simp only [] at hp ⊢
      rw [hz', hp]
      exact hF
theorem wpList_build_blk {ops : Array Oper} {rest : List Oper} {op : Oper} {a : Act} {w : World} {Q : Exit → Act → World → Prop} (hgd : op.guard = none) {x0 : Operand} {d : List UInt8} (hd : d.length = 256) (ho : op.op = .build 176 #[(0, x0)])
    (e0 : a.eval x0 = .agg (bvs d).toArray)
    (h : wpList Tryz.prog ops Q rest (a.put op.dst (.agg (bvs d ++ [Value.int .i64 0]).toArray)) w) : wpList Tryz.prog ops Q (op :: rest) a w :=
  wpList_plain hgd fun K hK => by
    have hb := build_blk d hd w
    unfold Oper.wp execOp
    simp only [ho, List.map_toArray, List.map_cons, List.map_nil, e0, Sem.run_bind, hb, Result.andThen_ok, Sem.run_pure]
    exact hK _ _ h
theorem wpList_pput {ops : Array Oper} {rest : List Oper} {o : Oper} {a : Act} {w : World} {Q : Exit → Act → World → Prop} (hgd : o.guard = none) (m x v : Operand) (ho : o.op = .mapUpdate 155 m x v) {b K n q : Nat} {f : Int → Nat}
    (H : PMap w b K f) (hn : n ≤ 4096) (hK : K ≤ 1000000) (hm : a.eval m = .map (some b)) (hx : a.eval x = .int .i64 (n : Int)) (hv : a.eval v = .pointer (some ⟨q, 0, none⟩))
    (h : ∀ w', PMap w' b (K + 1) (setF f n (q + 1)) → w.grownBy w' (some b) → wpList Tryz.prog ops Q rest (a.put o.dst undef) w') : wpList Tryz.prog ops Q (o :: rest) a w := by
  refine wpList_plain hgd fun K hK' => ?_
  obtain ⟨w', hrun, h1, h2⟩ := H.put (n : Int) (wfN hn) (q + 1) hK
  unfold ptrV at hrun
  unfold Oper.wp
  simp [execOp, ho, hm, hx, hv, hrun, Result.andThen]
  exact hK' _ _ (h w' h1 h2)
/-- 'append' of a number onto the order, with what turns. -/
theorem wpList_append_ord {w : World} {ops : Array Oper} {rest : List Oper} {o : Oper} {a : Act} {Q : Exit → Act → World → Prop} (hgd : o.guard = none) (s x : Operand)
    (ho : o.op = .call { callee := .builtin .append, args := #[s, x], argTypes := #[156, 156] }) (base : Nat) (l : List Int) (y : Int) (v : Value) (hs : a.eval s = v) (g c : Nat) (hx : a.eval x = .slice (some ⟨g, 0, none⟩) 1 c)
    (hown : OwnN w base v l) (hsrc : RowI w g 173 [y]) (hbase : base ≤ w.heap.size) (hb : l.length ≤ 1000000)
    (h : ∀ G cap w', OwnN w' base (.slice (some ⟨G, 0, none⟩) (l.length + 1) cap) (l ++ [y]) → w.grownBy w' v.ownBlock → (v.ownBlock = some G ∨ w.heap.size ≤ G) → wpList Tryz.prog ops Q rest (a.put o.dst (.slice (some ⟨G, 0, none⟩) (l.length + 1) cap)) w') : wpList Tryz.prog ops Q (o :: rest) a w := by
  obtain ⟨i0, hi, hz0, hz1, hz2⟩ := info_parts Tryz.infoN
  have hcs : ∀ j u, (ivs [y])[j]? = some u → w.cell? ((⟨g, 0, none⟩ : Addr).add j) = some u := by
    intro j u hj
    have hjl : j < (ivs [y]).length := (List.getElem?_eq_some_iff.1 hj).1
    rw [ivs_length] at hjl
    obtain rfl : j = 0 := by simp at hjl; omega
    rw [addr_add, Nat.zero_add, hsrc.cell 0 (by simp), ← hj]
    rfl
  obtain ⟨G, cap, w', hr, hown', hgr, hat, _⟩ := run_append_lies (P := Tryz.prog) w 156 o.type base 173 i0 _ 1 8 Tryz.underlying156 hi hz0 hz1 hz2 rfl (by decide) v l.length (ivs l) hown ⟨g, 0, none⟩ 1 c (ivs [y]) (by simp [ivs_length]) hcs (ivs_one _) (by omega) (by unfold maxLen; omega) (by omega) hbase _ rfl
  refine wpList_plain hgd fun K hK => ?_
  unfold Oper.wp execOp
  simp only [ho, resolve, invoke, builtin]
  simp [hs, hx, hr, Result.andThen]
  refine hK _ _ (h G cap w' ?_ hgr ?_)
  · unfold OwnN
    rw [List.length_append, ivs_append]
    exact hown'
  · rcases hat with hat | hat
    · exact .inl hat
    · exact .inr (by omega)
end Go.Proofs.YtaljaledeljllaaGreat
