/- Headers as values and in memory: laws for the walk. -/
import Derived.Test.YtfbbdpapnegmcaaKept
import Derived.Test.YtfbbdpapnegmcaaSetG
import Derived.Stop.BytesEq
import Derived.Deep.MidRow
namespace Go.Proofs.Ytfbbdpapnegmcaa
open Go.RowKit
/-- The cells of a header. -/
def hL (no : Int) (bl sl : List UInt8) : List Value := Value.int .i64 no :: (bvs bl ++ bvs sl)
def hA (no : Int) (bl sl : List UInt8) : Array Value := (hL no bl sl).toArray
theorem hL_length {no : Int} {bl sl : List UInt8} (hb : bl.length = 16) (hs : sl.length = 8) : (hL no bl sl).length = 25 := by simp [hL, bvs_length, hb, hs]
theorem hA_size {no : Int} {bl sl : List UInt8} (hb : bl.length = 16) (hs : sl.length = 8) : (hA no bl sl).size = 25 := by rw [hA, List.size_toArray, hL_length hb hs]
theorem hL_one (no : Int) (bl sl : List UInt8) : ∀ v ∈ hL no bl sl, v.oneCell' = true := by
  intro v hv
  simp only [hL, List.mem_cons, List.mem_append] at hv
  rcases hv with rfl | h | h
  · rfl
  · exact bvs_one _ v h
  · exact bvs_one _ v h
theorem hA_one (no : Int) (bl sl : List UInt8) : (hA no bl sl).all (·.oneCell') = true := all_oneCell_toArray (hL_one no bl sl)
def z16 : List UInt8 := List.replicate 16 0
def z8 : List UInt8 := List.replicate 8 0
theorem Try.sz28 : (Try.prog.info? 28).map (·.size) = some 25 := by kernel_rfl
theorem zero28 : ∀ w, (zeroValue 28).run Try.prog w = .ok (.agg (hA 0 z16 z8)) w := by
  have h : (Try.prog.info? 28).map (fun i => i.zero) = some (some (.agg (hA 0 z16 z8))) := by kernel_rfl
  intro w
  cases hi : Try.prog.info? 28 with
  | none => rw [hi] at h; cases h
  | some i =>
    rw [hi] at h
    have hz : i.zero = some (.agg (hA 0 z16 z8)) := Option.some.inj h
    have key : ∀ (v : Value) (w : World), i.zero = some v → (zeroValue 28).run Try.prog w = .ok v w := by
      intro v w hv
      simp [zeroValue, typeInfo, hi, hv]
    exact key _ w hz
/-- A header lies at p. -/
structure HeadAt (w : World) (p : Nat) (no : Int) (bl sl : List UInt8) : Prop where
  row : w.heap[p]? = some (.cells (hA no bl sl) 28 (0, 0))
  lb : bl.length = 16
  ls : sl.length = 8
section
variable {w w' : World} {p : Nat} {no : Int} {bl sl : List UInt8}
theorem HeadAt.lt (h : HeadAt w p no bl sl) : p < w.heap.size := (Array.getElem?_eq_some_iff.1 h.row).1
theorem HeadAt.below (h : HeadAt w p no bl sl) {B : Nat} (hb : Below B w w') (hp : p < B) : HeadAt w' p no bl sl := ⟨by rw [hb.block p hp]; exact h.row, h.lb, h.ls⟩
theorem HeadAt.up (h : HeadAt w p no bl sl) (hb : Below w.heap.size w w') : HeadAt w' p no bl sl := h.below hb h.lt
theorem HeadAt.drew (h : HeadAt w p no bl sl) : HeadAt w.drew p no bl sl := ⟨h.row, h.lb, h.ls⟩
theorem HeadAt.c0 (h : HeadAt w p no bl sl) : w.cell? ⟨p, 0, none⟩ = some (.int .i64 no) := by
  rw [cell_of_row w p 0 _ _ _ h.row]; simp [hA, hL]
theorem HeadAt.srcB (h : HeadAt w p no bl sl) : Src w (some ⟨p, 1, none⟩) bl :=
  .inr ⟨p, 1, rfl, h.lt, fun j hj => by
    rw [cell_of_row w p (1 + j) _ _ _ h.row]
    have e : 1 + j = j + 1 := by omega
    rw [e]
    simp [hA, hL, bvs, hj, List.getElem?_append]⟩
theorem HeadAt.srcS (h : HeadAt w p no bl sl) : Src w (some ⟨p, 17, none⟩) sl :=
  .inr ⟨p, 17, rfl, h.lt, fun j hj => by
    rw [cell_of_row w p (17 + j) _ _ _ h.row]
    have e : 17 + j = (16 + j) + 1 := by omega
    have hb := h.lb
    rw [e]
    simp [hA, hL, bvs, hb, hj]⟩
theorem HeadAt.frozen (h : HeadAt w p no bl sl) (j : Nat) : w.frozen? ⟨p, j, none⟩ = false := frozen_of_row w p j _ _ h.row
theorem HeadAt.range (h : HeadAt w p no bl sl) : w.rangeAt p 0 (hL no bl sl) := fun j v hv => by
  rw [Nat.zero_add, cell_of_row w p j _ _ _ h.row]
  simpa [hA] using hv
theorem head_new (w : World) (no : Int) (bl sl : List UInt8) (hb : bl.length = 16) (hs : sl.length = 8) : HeadAt (w.alloc (.cells (hA no bl sl) 28)) w.heap.size no bl sl := ⟨heap_alloc_new _ _, hb, hs⟩
theorem HeadAt.alloc (h : HeadAt w p no bl sl) (o : Obj) : HeadAt (w.alloc o) p no bl sl := h.up ((Below.refl _ _).alloc (Nat.le_refl _) _)
end
/-- The load of a whole header. -/
theorem wpList_load_head {ops : Array Oper} {rest : List Oper} {op : Oper} {a : Act} {w : World} {Q : Exit → Act → World → Prop} (hgd : op.guard = none) (x : Operand) (ho : op.op = .load 28 x)
    {p : Nat} {no : Int} {bl sl : List UInt8} (H : HeadAt w p no bl sl) (hx : a.eval x = .pointer (some ⟨p, 0, none⟩))
    (h : wpList Try.prog ops Q rest (a.put op.dst (.agg (hA no bl sl))) w) : wpList Try.prog ops Q (op :: rest) a w :=
  wpList_load_mid hgd 28 x ho p 0 hx _ _ H.range Try.underlying28 rfl (by rw [Try.sz28, hL_length H.lb H.ls]) h
/-- The store of a whole header. -/
theorem wpList_store_head {ops : Array Oper} {rest : List Oper} {op : Oper} {a : Act} {w : World} {Q : Exit → Act → World → Prop} (hgd : op.guard = none) (x y : Operand) (ho : op.op = .store 28 x y)
    {p : Nat} {no no2 : Int} {bl sl bl2 sl2 : List UInt8} (H : HeadAt w p no bl sl) (hb2 : bl2.length = 16) (hs2 : sl2.length = 8) (hx : a.eval x = .pointer (some ⟨p, 0, none⟩)) (hy : a.eval y = .agg (hA no2 bl2 sl2))
    (h : ∀ w', HeadAt w' p no2 bl2 sl2 → Below p w w' → w'.heap.size = w.heap.size → wpList Try.prog ops Q rest (a.put op.dst undef) w') : wpList Try.prog ops Q (op :: rest) a w := by
  refine wpList_plain hgd fun K hK => ?_
  have hrun := run_storeVar_row (P := Try.prog) w p 28 28 (hA no bl sl) (hA no2 bl2 sl2) H.row (by rw [Try.sz28, hA_size hb2 hs2]) (by rw [hA_size H.lb H.ls, hA_size hb2 hs2]) (hA_one _ _ _)
  unfold Oper.wp execOp
  simp only [ho, hx, hy, Instr.storeAt, Instr.sureAddr, Sem.run_bind, Sem.run_pure, Result.andThen_ok, hrun]
  exact hK _ _ (h _ ⟨setRow_heap w p _ _ 28 _ H.row, hb2, hs2⟩ (below_setRow (Below.refl _ _) (Nat.le_refl _) _) (by simp))
theorem results_head {fn : Func} {q u : Tmp} (h : fn.results = #[.cell q 28, .tmp u]) (tmps : Array Value) {w : World} {p : Nat} {no : Int} {bl sl : List UInt8} (H : HeadAt w p no bl sl) (hp : tmps.getD q undef = .pointer (some ⟨p, 0, none⟩)) :
    (results fn tmps).run Try.prog w = .ok (.tuple #[.agg (hA no bl sl), tmps.getD u undef]) w := by
  rw [results_cell_tmp h, hp]
  simp [asAddr, run_loadVar_row w p 28 28 _ _ _ H.row Try.underlying28 rfl (by rw [Try.sz28, hA_size H.lb H.ls]), Result.andThen]
/-- Are two headers alike? -/
def eqB (no no2 : Int) (bl bl2 sl sl2 : List UInt8) : Bool := no == no2 && (bl == bl2 && sl == sl2)
theorem part_no (no : Int) (bl sl : List UInt8) (w : World) : (part 3 (hA no bl sl) 0).run Try.prog w = .ok (.int .i64 no) w := by
  simp [part, isAgg, run_underlying Try.underlying3, hA, hL]
theorem size_of {t : TypeId} {n : Nat} (h : (Try.prog.info? t).map (fun i => i.size) = some n) (w : World) : (sizeOf t).run Try.prog w = .ok n w := by
  cases hi : Try.prog.info? t with
  | none => rw [hi] at h; cases h
  | some i => rw [hi] at h; have := Option.some.inj h; simp [sizeOf, typeInfo, hi]; exact this
theorem size25 (w : World) : (sizeOf 25).run Try.prog w = .ok 16 w := size_of (by kernel_rfl) w
theorem size26 (w : World) : (sizeOf 26).run Try.prog w = .ok 8 w := size_of (by kernel_rfl) w
theorem size5 (w : World) : (sizeOf 5).run Try.prog w = .ok 1 w := size_of (by kernel_rfl) w
theorem part_bl {no : Int} {bl sl : List UInt8} (hb : bl.length = 16) (w : World) : (part 25 (hA no bl sl) 1).run Try.prog w = .ok (.agg (bvs bl).toArray) w := by
  have e : (hA no bl sl).extract 1 17 = (bvs bl).toArray := by
    simp [hA, hL, bvs_length, hb]
  simp [part, isAgg, run_underlying Try.underlying25, e]
theorem part_sl {no : Int} {bl sl : List UInt8} (hb : bl.length = 16) (hs : sl.length = 8) (w : World) : (part 26 (hA no bl sl) 17).run Try.prog w = .ok (.agg (bvs sl).toArray) w := by
  have e : (hA no bl sl).extract 17 25 = (bvs sl).toArray := by
    have e2 : List.take 8 (bvs sl) = bvs sl := List.take_of_length_le (by rw [bvs_length, hs]; omega)
    simp [hA, hL, bvs_length, hb, e2]
  simp [part, isAgg, run_underlying Try.underlying26, e]
theorem bvs_cell (l : List UInt8) : bvs l = l.map Extern.Stop.cell := rfl
theorem eq_bytes16 {x y : List UInt8} (hx : x.length = 16) (hy : y.length = 16) (w : World) : (Op.equalIn 9999 25 (.agg (bvs x).toArray) (.agg (bvs y).toArray)).run Try.prog w = .ok (x == y) w :=
  run_equalIn_bytes w 9997 25 5 16 Try.underlying25 Try.underlying5 size5 x y hx hy
theorem eq_bytes8 {x y : List UInt8} (hx : x.length = 8) (hy : y.length = 8) (w : World) : (Op.equalIn 9999 26 (.agg (bvs x).toArray) (.agg (bvs y).toArray)).run Try.prog w = .ok (x == y) w :=
  run_equalIn_bytes w 9997 26 5 8 Try.underlying26 Try.underlying5 size5 x y hx hy
theorem three_fields {fs : List Field} (h : (fs.map fun f => (f.name == "_", f.type, f.offset)) = [(false, 3, 0), (false, 25, 1), (false, 26, 17)]) :
    ∃ f g k : Field, fs = [f, g, k] ∧ (f.name ≠ "_" ∧ f.type = 3 ∧ f.offset = 0) ∧ (g.name ≠ "_" ∧ g.type = 25 ∧ g.offset = 1) ∧ (k.name ≠ "_" ∧ k.type = 26 ∧ k.offset = 17) := by
  have hl : fs.length = 3 := by have := congrArg List.length h; simpa using this
  obtain ⟨f, g, k, rfl⟩ : ∃ f g k, fs = [f, g, k] := by
    match fs, hl with
    | [f, g, k], _ => exact ⟨f, g, k, rfl⟩
  simp only [List.map_cons, List.map_nil, List.cons.injEq, Prod.mk.injEq, beq_eq_false_iff_ne, and_true] at h
  exact ⟨f, g, k, rfl, h.1, h.2.1, h.2.2⟩
theorem run_eq_head {no no2 : Int} {bl bl2 sl sl2 : List UInt8} (hb : bl.length = 16) (hs : sl.length = 8) (hb2 : bl2.length = 16) (hs2 : sl2.length = 8) (w : World) :
    (Op.equalIn 10000 28 (.agg (hA no bl sl)) (.agg (hA no2 bl2 sl2))).run Try.prog w = .ok (eqB no no2 bl bl2 sl sl2) w := by
  rw [run_equalIn_struct (P := Try.prog) w 9999 28 _ _ (by kernel_rfl) (by kernel_rfl)]
  obtain ⟨f, g, k, hfs, ⟨f1, f2, f3⟩, ⟨g1, g2, g3⟩, ⟨k1, k2, k3⟩⟩ := three_fields (fs := (Try.prog.fieldsOf 28).toList) (by kernel_rfl)
  rw [hfs]
  have q1 : ∀ w, (Op.equalIn 9999 3 (.int .i64 no) (.int .i64 no2)).run Try.prog w = .ok (no == no2) w := fun w => run_equalIn_int w 9998 3 .i64 .i64 no no2 Try.underlying3
  simp only [Op.eqFields, if_pos f1, if_pos g1, if_pos k1, f2, f3, g2, g3, k2, k3, Sem.run_bind, part_no, Result.andThen_ok, q1]
  unfold eqB
  cases h1 : (no == no2)
  · simp
  · cases h2 : (bl == bl2)
    · simp [part_bl hb, part_bl hb2, eq_bytes16 hb hb2, h2]
    · cases h3 : (sl == sl2)
      · simp [part_bl hb, part_bl hb2, eq_bytes16 hb hb2, eq_bytes8 hs hs2, part_sl hb hs, part_sl hb2 hs2, h2, h3]
      · simp [part_bl hb, part_bl hb2, eq_bytes16 hb hb2, eq_bytes8 hs hs2, part_sl hb hs, part_sl hb2 hs2, h2, h3]
end Go.Proofs.Ytfbbdpapnegmcaa
