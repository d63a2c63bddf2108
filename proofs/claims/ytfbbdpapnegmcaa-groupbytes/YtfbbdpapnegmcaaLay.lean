/- The bytes of a header, as group.lay lays them. -/
import Derived.Test.YtfbbdpapnegmcaaPutAt
import Derived.Test.YtfbbdpapnegmcaaGfresh
import Derived.Lib.BufferWrite
namespace Go.Proofs.Ytfbbdpapnegmcaa
open Go.RowKit
def zeros : List UInt8 := List.replicate 256 0
theorem zeros_length : zeros.length = 256 := List.length_replicate
def markL : List UInt8 := [76, 71, 82, 80]
/-- The bytes of a header: No, what is free, the maps. -/
def layL (no x y : Nat) (bl sl : List UInt8) : List UInt8 := layAt (layAt (layAt (layAt (layAt (layAt zeros 0 markL) 4 (leB 2 no)) 6 (leB 2 x)) 8 (leB 2 y)) 16 bl) 32 sl
theorem lay_len {cur : List UInt8} {o : Nat} {x : List UInt8} (hc : cur.length = 256) (h : o + x.length ≤ 256) : (layAt cur o x).length = 256 := by
  rw [layAt_length _ _ _ (by rw [hc]; exact h)]; exact hc
theorem l1_len : (layAt zeros 0 markL).length = 256 := lay_len zeros_length (by decide)
theorem l2_len (no : Nat) : (layAt (layAt zeros 0 markL) 4 (leB 2 no)).length = 256 := lay_len l1_len (by rw [leB_length]; omega)
theorem l3_len (no x : Nat) : (layAt (layAt (layAt zeros 0 markL) 4 (leB 2 no)) 6 (leB 2 x)).length = 256 := lay_len (l2_len no) (by rw [leB_length]; omega)
theorem l4_len (no x y : Nat) : (layAt (layAt (layAt (layAt zeros 0 markL) 4 (leB 2 no)) 6 (leB 2 x)) 8 (leB 2 y)).length = 256 := lay_len (l3_len no x) (by rw [leB_length]; omega)
theorem l5_len (no x y : Nat) (bl : List UInt8) (hb : bl.length = 16) : (layAt (layAt (layAt (layAt (layAt zeros 0 markL) 4 (leB 2 no)) 6 (leB 2 x)) 8 (leB 2 y)) 16 bl).length = 256 := lay_len (l4_len no x y) (by omega)
theorem layL_length (no x y : Nat) (bl sl : List UInt8) (hb : bl.length = 16) (hs : sl.length = 8) : (layL no x y bl sl).length = 256 := lay_len (l5_len no x y bl hb) (by omega)
theorem zero62 : ∃ Z : Array Value, (∀ w, (zeroValue 62).run Try.prog w = .ok (.agg Z) w) ∧ Z.size = 256 ∧ Hid (Z = (bvs zeros).toArray) := by
  have h : (Try.prog.info? 62).map (fun i => i.zero) = some (some (.agg (bvs zeros).toArray)) := by kernel_rfl
  cases hi : Try.prog.info? 62 with
  | none => rw [hi] at h; cases h
  | some i =>
    rw [hi] at h
    have hz : i.zero = some (.agg (bvs zeros).toArray) := Option.some.inj h
    have key : ∀ (v : Value) (w : World), i.zero = some v → (zeroValue 62).run Try.prog w = .ok v w := by
      intro v w hv
      simp [zeroValue, typeInfo, hi, hv]
    exact ⟨_, fun w => key _ w hz, by rw [List.size_toArray, bvs_length, zeros_length], rfl⟩
theorem Try.sz62 : (Try.prog.info? 62).map (·.size) = some 256 := by kernel_rfl
theorem mark_copy (w : World) (G : Nat) (hg : Blk w G 62 zeros) :
    ∃ w1, Sem.run Try.prog (Builtin.copy_ #[24, 9] 3 #[.slice (some ⟨G, 0, none⟩) 256 256, .string ⟨#[76, 71, 82, 80]⟩]) w = .ok (.int .i64 4) w1 ∧ Blk w1 G 62 (layAt zeros 0 markL) ∧ Below G w w1 := by
  have h := Lib.run_copy_row_string (P := Try.prog) w 24 9 3 5 G 0 256 256 ⟨#[76, 71, 82, 80]⟩ _ 62 Try.underlying24 Try.elem1 hg (by decide) (by rw [List.size_toArray, bvs_length, zeros_length]; decide)
  refine ⟨_, h, ?_, below_setRow (Below.refl _ _) (Nat.le_refl _) _⟩
  have h2 := setRow_heap w G _ ((bvs zeros).toArray.toList.take 0 ++ Lib.byteCells markL ++ (bvs zeros).toArray.toList.drop (0 + 4)).toArray 62 _ hg
  rw [Blk]
  refine h2.trans ?_
  congr 3
/-- 'copy' of bytes into a block of bytes, from a place on. -/
theorem copy_lay {w : World} {G o : Nat} (dLen cap : Nat) {sp : Option Addr} (sCap : Nat) {t : TypeId} {cur x : List UInt8} (hg : Blk w G t cur) (hs : Src w sp x) (hd : o + dLen ≤ cur.length) (hx : x.length ≤ dLen) :
    ∃ w1, (Builtin.copy_ #[24, 24] 3 #[.slice (some ⟨G, o, none⟩) dLen cap, .slice sp x.length sCap]).run Try.prog w = .ok (.int .i64 (x.length : Nat)) w1 ∧ Blk w1 G t (layAt cur o x) ∧ Below G w w1 ∧ w1.heap.size = w.heap.size := by
  obtain ⟨w1, h1, h2, h3, h4⟩ := copy_any (off := o) (dLen := dLen) cap x.length sCap hg hs rfl hd
  rw [Nat.min_eq_left hx] at h1 h2
  rw [List.take_of_length_le hx] at h2
  exact ⟨w1, h1, h2, h3, h4⟩
/-- The load and the store of a whole block of 256 bytes. -/
theorem wpList_load_256 {ops : Array Oper} {rest : List Oper} {op : Oper} {a : Act} {w : World} {Q : Exit → Act → World → Prop} (hgd : op.guard = none) (x : Operand) (ho : op.op = .load 62 x)
    {G : Nat} {t : TypeId} {s : List UInt8} (H : Blk w G t s) (hs : s.length = 256) (hx : a.eval x = .pointer (some ⟨G, 0, none⟩))
    (h : wpList Try.prog ops Q rest (a.put op.dst (.agg (bvs s).toArray)) w) : wpList Try.prog ops Q (op :: rest) a w :=
  wpList_load_mid hgd 62 x ho G 0 hx (bvs s) _ (fun j v hv => by
    rw [Nat.zero_add, cell_of_row w G j _ _ _ H]; simpa using hv) Try.underlying62 rfl (by rw [Try.sz62, bvs_length, hs]) h
theorem wpList_store_256 {ops : Array Oper} {rest : List Oper} {op : Oper} {a : Act} {w : World} {Q : Exit → Act → World → Prop} (hgd : op.guard = none) (x y : Operand) (ho : op.op = .store 62 x y)
    {G : Nat} {Z : Array Value} {s : List UInt8} (H : w.heap[G]? = some (.cells Z 62 (0, 0))) (hZ : Z.size = 256) (hs : s.length = 256) (hx : a.eval x = .pointer (some ⟨G, 0, none⟩)) (hy : a.eval y = .agg (bvs s).toArray)
    (h : ∀ w', Blk w' G 62 s → Below G w w' → w'.heap.size = w.heap.size → wpList Try.prog ops Q rest (a.put op.dst undef) w') : wpList Try.prog ops Q (op :: rest) a w := by
  refine wpList_plain hgd fun K hK => ?_
  have hsz : (bvs s).toArray.size = 256 := by rw [List.size_toArray, bvs_length, hs]
  have hrun := run_storeVar_row (P := Try.prog) w G 62 62 Z (bvs s).toArray H (by rw [Try.sz62, hsz]) (by rw [hZ, hsz]) (all_oneCell_toArray (bvs_one _))
  unfold Oper.wp execOp
  simp only [ho, hx, hy, Instr.storeAt, Instr.sureAddr, Sem.run_bind, Sem.run_pure, Result.andThen_ok, hrun]
  exact hK _ _ (h _ (setRow_heap w G _ _ 62 _ H) (below_setRow (Below.refl _ _) (Nat.le_refl _) _) (by simp))
end Go.Proofs.Ytfbbdpapnegmcaa
