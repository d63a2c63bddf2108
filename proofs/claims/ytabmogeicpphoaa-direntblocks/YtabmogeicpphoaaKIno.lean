/- Inodes as values and in memory: laws for the walk. -/
import Derived.Test.YtabmogeicpphoaaKHeld
import Derived.Test.YtabmogeicpphoaaKOps
import Derived.Stop.BytesEq
import Derived.Deep.MidRow
namespace Go.Proofs.Ytabmogeicpphoaa
open Go.RowKit
def ivs (l : List Int) : List Value := l.map (fun x => Value.int .i64 x)
theorem ivs_length (l : List Int) : (ivs l).length = l.length := by simp [ivs]
theorem ivs_one (l : List Int) : ∀ v ∈ ivs l, v.oneCell' = true := by
  intro v hv; simp only [ivs, List.mem_map] at hv; obtain ⟨b, _, rfl⟩ := hv; rfl
theorem ivs_append (a b : List Int) : ivs (a ++ b) = ivs a ++ ivs b := by simp [ivs]
theorem ivs_take (k : Nat) (l : List Int) : ivs (l.take k) = (ivs l).take k := by simp [ivs, List.map_take]
theorem ivs_drop (k : Nat) (l : List Int) : ivs (l.drop k) = (ivs l).drop k := by simp [ivs, List.map_drop]
/-- An inode: Kind, Links, Size, Id, and the eight names P, In, Din. -/
structure Ino where
  k : Int
  l : Int
  s : Int
  d : Int
  ns : List Int
/-- Its cells. -/
def iL (i : Ino) : List Value := Value.int .i64 i.k :: Value.int .i64 i.l :: Value.int .i64 i.s :: Value.int .i64 i.d :: ivs i.ns
def iA (i : Ino) : Array Value := (iL i).toArray
theorem iL_length {i : Ino} (h : i.ns.length = 8) : (iL i).length = 12 := by simp [iL, ivs_length, h]
theorem iA_size {i : Ino} (h : i.ns.length = 8) : (iA i).size = 12 := by rw [iA, List.size_toArray, iL_length h]
theorem iL_one (i : Ino) : ∀ v ∈ iL i, v.oneCell' = true := by
  intro v hv
  simp only [iL, List.mem_cons] at hv
  rcases hv with rfl | rfl | rfl | rfl | h
  · rfl
  · rfl
  · rfl
  · rfl
  · exact ivs_one _ v h
theorem iA_one (i : Ino) : (iA i).all (·.oneCell') = true := all_oneCell_toArray (iL_one i)
def zino : Ino := ⟨0, 0, 0, 0, [0, 0, 0, 0, 0, 0, 0, 0]⟩
theorem Try.sz24 : (Try.prog.info? 24).map (·.size) = some 12 := by kernel_rfl
theorem zeroI : ∀ w, (zeroValue 24).run Try.prog w = .ok (.agg (iA zino)) w := by
  have h : (Try.prog.info? 24).map (fun i => i.zero) = some (some (.agg (iA zino))) := by kernel_rfl
  intro w
  cases hi : Try.prog.info? 24 with
  | none => rw [hi] at h; cases h
  | some i =>
    rw [hi] at h
    have hz : i.zero = some (.agg (iA zino)) := Option.some.inj h
    have key : ∀ (v : Value) (w : World), i.zero = some v → (zeroValue 24).run Try.prog w = .ok v w := by
      intro v w hv
      simp [zeroValue, typeInfo, hi, hv]
    exact key _ w hz
/-- An inode lies at p. -/
structure InoAt (w : World) (p : Nat) (i : Ino) : Prop where
  row : w.heap[p]? = some (.cells (iA i) 24 (0, 0))
  ln : i.ns.length = 8
section
variable {w w' : World} {p : Nat} {i : Ino}
theorem InoAt.lt (h : InoAt w p i) : p < w.heap.size := (Array.getElem?_eq_some_iff.1 h.row).1
theorem InoAt.below (h : InoAt w p i) {B : Nat} (hb : Below B w w') (hp : p < B) : InoAt w' p i := ⟨by rw [hb.block p hp]; exact h.row, h.ln⟩
theorem InoAt.up (h : InoAt w p i) (hb : Below w.heap.size w w') : InoAt w' p i := h.below hb h.lt
theorem InoAt.drew (h : InoAt w p i) : InoAt w.drew p i := ⟨h.row, h.ln⟩
theorem InoAt.c0 (h : InoAt w p i) : w.cell? ⟨p, 0, none⟩ = some (.int .i64 i.k) := by
  rw [cell_of_row w p 0 _ _ _ h.row]; simp [iA, iL]
theorem InoAt.c1 (h : InoAt w p i) : w.cell? ⟨p, 1, none⟩ = some (.int .i64 i.l) := by
  rw [cell_of_row w p 1 _ _ _ h.row]; simp [iA, iL]
theorem InoAt.c2 (h : InoAt w p i) : w.cell? ⟨p, 2, none⟩ = some (.int .i64 i.s) := by
  rw [cell_of_row w p 2 _ _ _ h.row]; simp [iA, iL]
theorem InoAt.c3 (h : InoAt w p i) : w.cell? ⟨p, 3, none⟩ = some (.int .i64 i.d) := by
  rw [cell_of_row w p 3 _ _ _ h.row]; simp [iA, iL]
theorem InoAt.name (h : InoAt w p i) (j : Nat) (hj : j < 8) : w.cell? ⟨p, 4 + j, none⟩ = some (.int .i64 (i.ns.getD j 0)) := by
  rw [cell_of_row w p (4 + j) _ _ _ h.row]
  have hl := h.ln
  have e : 4 + j = j + 1 + 1 + 1 + 1 := by omega
  rw [e]
  simp [iA, iL, ivs, hl, hj]
theorem InoAt.frozen (h : InoAt w p i) (j : Nat) : w.frozen? ⟨p, j, none⟩ = false := frozen_of_row w p j _ _ h.row
theorem InoAt.range (h : InoAt w p i) : w.rangeAt p 0 (iL i) := fun j v hv => by
  rw [Nat.zero_add, cell_of_row w p j _ _ _ h.row]
  simpa [iA] using hv
theorem ino_new (w : World) (i : Ino) (hn : i.ns.length = 8) : InoAt (w.alloc (.cells (iA i) 24)) w.heap.size i := ⟨heap_alloc_new _ _, hn⟩
theorem InoAt.alloc (h : InoAt w p i) (o : Obj) : InoAt (w.alloc o) p i := h.up ((Below.refl _ _).alloc (Nat.le_refl _) _)
end
/-- The load of a whole inode. -/
theorem wpList_load_ino {ops : Array Oper} {rest : List Oper} {op : Oper} {a : Act} {w : World} {Q : Exit → Act → World → Prop} (hw : Region.wanted op (yielded ops a.tmps) = true) (x : Operand) (ho : op.op = .load 24 x)
    {p : Nat} {i : Ino} (H : InoAt w p i) (hx : a.eval x = .pointer (some ⟨p, 0, none⟩))
    (h : wpList Try.prog ops Q rest (a.put op.dst (.agg (iA i))) w) : wpList Try.prog ops Q (op :: rest) a w :=
  wpList_want hw fun _ hK => wp_load_mid 24 x ho p 0 hx _ _ H.range Try.underlying24 rfl (by rw [Try.sz24, iL_length H.ln]) (hK _ _ h)
theorem exec_load_ino {ev : Operand → Value} {oi : Oper} {x : Operand} {w : World} {p : Nat} {i : Ino} (H : InoAt w p i) (ho : oi.op = .load 24 x) (hx : ev x = .pointer (some ⟨p, 0, none⟩)) :
    (execOp ev oi).run Try.prog w = .ok (.value (.agg (iA i))) w := by
  unfold execOp
  simp only [ho, hx, Instr.loadAt, Instr.sureAddr, Sem.run_bind, Sem.run_pure, Result.andThen_ok, run_loadVar_row w p 24 24 _ _ _ H.row Try.underlying24 rfl (by rw [Try.sz24, iA_size H.ln])]
/-- The store of a whole inode. -/
theorem wp_store_ino {op : Oper} {a : Act} {w : World} {K : Act → World → Prop} {Q : Exit → Act → World → Prop} (x y : Operand) (ho : op.op = .store 24 x y)
    {p : Nat} {i j : Ino} (H : InoAt w p i) (hj : j.ns.length = 8) (hx : a.eval x = .pointer (some ⟨p, 0, none⟩)) (hy : a.eval y = .agg (iA j))
    (h : ∀ w', InoAt w' p j → Below p w w' → w'.heap.size = w.heap.size → K (a.put op.dst undef) w') : op.wp Try.prog a w K Q := by
  have hrun := run_storeVar_row (P := Try.prog) w p 24 24 (iA i) (iA j) H.row (by rw [Try.sz24, iA_size hj]) (by rw [iA_size H.ln, iA_size hj]) (iA_one _)
  unfold Oper.wp execOp
  simp only [ho, hx, hy, Instr.storeAt, Instr.sureAddr, Sem.run_bind, Sem.run_pure, Result.andThen_ok, hrun]
  exact h _ ⟨setRow_heap w p _ _ 24 _ H.row, hj⟩ (below_setRow (Below.refl _ _) (Nat.le_refl _) _) (by simp)
theorem wpList_store_ino {ops : Array Oper} {rest : List Oper} {op : Oper} {a : Act} {w : World} {Q : Exit → Act → World → Prop} (hgd : op.guard = none) (x y : Operand) (ho : op.op = .store 24 x y)
    {p : Nat} {i j : Ino} (H : InoAt w p i) (hj : j.ns.length = 8) (hx : a.eval x = .pointer (some ⟨p, 0, none⟩)) (hy : a.eval y = .agg (iA j))
    (h : ∀ w', InoAt w' p j → Below p w w' → w'.heap.size = w.heap.size → wpList Try.prog ops Q rest (a.put op.dst undef) w') : wpList Try.prog ops Q (op :: rest) a w :=
  wpList_plain hgd fun _ hK => wp_store_ino x y ho H hj hx hy fun w' h1 h2 h3 => hK _ _ (h w' h1 h2 h3)
theorem results_ino {fn : Func} {q u : Tmp} (h : fn.results = #[.cell q 24, .tmp u]) (tmps : Array Value) {w : World} {p : Nat} {i : Ino} (H : InoAt w p i) (hp : tmps.getD q undef = .pointer (some ⟨p, 0, none⟩)) :
    (results fn tmps).run Try.prog w = .ok (.tuple #[.agg (iA i), tmps.getD u undef]) w := by
  rw [results_cell_tmp h, hp]
  simp [asAddr, run_loadVar_row w p 24 24 _ _ _ H.row Try.underlying24 rfl (by rw [Try.sz24, iA_size H.ln]), Result.andThen]
/-- Are two inodes alike? -/
def eqI (i j : Ino) : Bool := i.k == j.k && (i.l == j.l && (i.s == j.s && (i.d == j.d && i.ns == j.ns)))
theorem eqI_iff {i j : Ino} : eqI i j = true ↔ i = j := by
  obtain ⟨a, b, c, d, e⟩ := i
  obtain ⟨a', b', c', d', e'⟩ := j
  simp [eqI]
theorem size_of {t : TypeId} {n : Nat} (h : (Try.prog.info? t).map (fun i => i.size) = some n) (w : World) : (sizeOf t).run Try.prog w = .ok n w := by
  cases hi : Try.prog.info? t with
  | none => rw [hi] at h; cases h
  | some i => rw [hi] at h; have := Option.some.inj h; simp [sizeOf, typeInfo, hi]; exact this
theorem size3 (w : World) : (sizeOf 3).run Try.prog w = .ok 1 w := size_of (by kernel_rfl) w
theorem size5 (w : World) : (sizeOf 5).run Try.prog w = .ok 1 w := size_of (by kernel_rfl) w
theorem size6i (w : World) : (sizeOf 22).run Try.prog w = .ok 6 w := size_of (by kernel_rfl) w
theorem eight_i {l : List Int} (h : l.length = 8) : ∃ a b c d e f g i, l = [a, b, c, d, e, f, g, i] := by
  match l, h with
  | [a, b, c, d, e, f, g, i], _ => exact ⟨a, b, c, d, e, f, g, i, rfl⟩
theorem part_int (t : TypeId) (ht : Try.prog.underlying t = some (.int .i64)) (cs : Array Value) (o : Nat) (x : Int) (hx : cs[o]? = some (.int .i64 x)) (w : World) : (part t cs o).run Try.prog w = .ok (.int .i64 x) w := by
  simp [part, isAgg, run_underlying ht, hx]
theorem eq_int (d : Nat) (t : TypeId) (ht : Try.prog.underlying t = some (.int .i64)) (a b : Int) (w : World) : (Op.equalIn (d + 1) t (.int .i64 a) (.int .i64 b)).run Try.prog w = .ok (a == b) w := run_equalIn_int w d t .i64 .i64 a b ht
end Go.Proofs.Ytabmogeicpphoaa
