/- An array made of a slice, a slice of one array. -/
import Derived.Test.YtaljaledeljllaaGreatSettle
namespace Go.Proofs.YtaljaledeljllaaGreat
open Go.RowKit
set_option maxRecDepth 100000
theorem arr_at (b o c : Nat) (w : World) : (Instr.arrayAt 111 (.slice (some ⟨b, o, none⟩) 256 c)).run Tryz.prog w = .ok (.pointer (some ⟨b, o, none⟩)) w := by kernel_rfl
theorem fold_set : ∀ (l : List Value) (k : Nat) (cs : Array Value), k + l.length ≤ cs.size → ((l.zipIdx k).foldl (fun cs p => cs.setIfInBounds (0 * 256 + p.2) p.1) cs).toList = cs.toList.take k ++ l ++ cs.toList.drop (k + l.length)
  | [], k, cs, _ => by simp
  | v :: r, k, cs, h => by
    simp only [List.zipIdx_cons, List.foldl_cons]
    have ih := fold_set r (k + 1) (cs.setIfInBounds (0 * 256 + k) v) (by simp at h ⊢; omega)
    rw [ih, Array.toList_setIfInBounds]
    have e := list_seg_step cs.toList k v r (by simp at h ⊢; omega)
    simpa [Nat.add_assoc, Nat.add_comm, Nat.add_left_comm] using e
theorem fill_img (A C : Array Value) (h1 : A.size = 256) (h2 : C.size = 256) : Instr.fill (fun i => some (i * 256, 256)) C [(0, .agg A)] = some A := by
  have h3 : (Value.agg A).cells = A := rfl
  have hf : A.zipIdx.foldl (fun cs (x : Value × Nat) => cs.setIfInBounds (0 * 256 + x.2) x.1) C = A := by
    apply Array.toList_inj.1
    have := fold_set A.toList 0 C (by simp [h1, h2])
    rw [List.take_zero, List.nil_append, List.drop_eq_nil_of_le (by simp [h1, h2]), List.append_nil] at this
    rw [← this]
    congr 1
    rw [← Array.foldl_toList, Array.toList_zipIdx]
  unfold Instr.fill
  simp only [h3, h1, h2]
  simp only [Instr.fill]
  rw [if_neg (by simp)]
  exact congrArg some hf
theorem build_img (d : List UInt8) (hd : d.length = 256) (w : World) : (Instr.buildSlice 112 1 #[(0, .agg (bvs d).toArray)]).run Tryz.prog w = .ok (.slice (some ⟨w.heap.size, 0, none⟩) 1 1) (w.alloc (.cells (bvs d).toArray 111)) := by
  obtain ⟨Z, hz, hzs, hinfo, HZ⟩ := Tryz.zero111
  clear HZ
  have hA : (bvs d).toArray.size = 256 := by rw [List.size_toArray, bvs_length, hd]
  generalize (bvs d).toArray = A at *
  have hso : (sizeOf 111).run Tryz.prog w = .ok 256 w := by
    cases hq : Tryz.prog.info? 111 with
    | none => simp [hq] at hinfo
    | some i0 =>
      have hi : i0.size = 256 := by simpa [hq] using hinfo
      simp [sizeOf, typeInfo, hq, hi]
  have hfi := fill_img A ((Array.range (1 * 256)).map (Z[· % Z.size]!)) hA (by simp)
  unfold Instr.buildSlice
  simp only [Sem.run_bind, run_underlying Tryz.underlying112, Result.andThen_ok, hso]
  rw [if_neg (by omega), if_neg (by omega)]
  simp only [Sem.run_bind, hz, Result.andThen_ok, Sem.run_pure, show (Value.agg Z).cells = Z from rfl]
  rw [show [(0, Value.agg A)] = (#[(0, Value.agg A)] : Array (Nat × Value)).toList from rfl] at hfi
  rw [hfi]
  simp [newRow]
end Go.Proofs.YtaljaledeljllaaGreat
