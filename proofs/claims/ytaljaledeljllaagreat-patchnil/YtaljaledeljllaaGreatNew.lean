/- disk.New, Disk.Read, Disk.Open. -/
import Derived.Test.YtaljaledeljllaaGreatWrite
namespace Go.Proofs.YtaljaledeljllaaGreat
open Go.RowKit
set_option maxRecDepth 100000
def zer : List UInt8 := List.replicate 256 0
theorem zer_length : zer.length = 256 := by unfold zer; rw [List.length_replicate]
theorem Tryz.info114 : ∃ i0 Z, Tryz.prog.info? 114 = some i0 ∧ i0.zero = some (.agg Z) ∧ i0.size = 257 ∧ i0.bytes = 280 ∧ Z.toList = bvs zer ++ [.slice none 0 0] := by
  have h : (Tryz.prog.info? 114).map (fun i => (i.zero, i.size, i.bytes)) = some (some (Value.agg (bvs zer ++ [Value.slice none 0 0]).toArray), 257, 280) := by kernel_rfl
  obtain ⟨i0, h1, h2, h3, h4⟩ := info_parts h
  exact ⟨i0, (bvs zer ++ [Value.slice none 0 0]).toArray, h1, h2, h3, h4, List.toList_toArray⟩
theorem made_at (Z : Array Value) (n k : Nat) (hZ : Z.size = 257) (hk : k < n * 257) : (madeCells Z (n * 257))[k]? = Z[k % 257]? := by
  unfold madeCells
  rw [Array.getElem?_map, Array.getElem?_range, if_pos hk]
  have hlt : k % 257 < Z.size := by rw [hZ]; omega
  rw [Option.map_some, hZ, getElem!_pos Z (k % 257) hlt, Array.getElem?_eq_getElem hlt]
/-- 'make' of n blocks. -/
theorem make_blocks (w : World) (n : Nat) (hn : n ≤ 4096) : ∃ C : Array Value, (Instr.makeSlice 89 (.int .i64 (n : Int)) (.int .i64 (n : Int))).run Tryz.prog w = .ok (.slice (some ⟨w.heap.size, 0, none⟩) n n) (w.alloc (.cells C 114)) ∧
    ∀ i, i < n → (∀ j v, (bvs zer)[j]? = some v → C[i * 257 + j]? = some v) ∧ C[i * 257 + 256]? = some (.slice none 0 0) := by
  obtain ⟨i0, Z, hi, hz, hs, hb, hZ⟩ := Tryz.info114
  have hZs : Z.size = 257 := by rw [← Array.length_toList, hZ, List.length_append, bvs_length, zer_length]; rfl
  have h := run_make (P := Tryz.prog) w 89 114 i0 _ Tryz.underlying89 hi hz .i64 .i64 (n : Int) (n : Int) (by omega) (by omega) (by rw [hb]; omega) (by omega)
  refine ⟨_, h, fun i hin => ⟨fun j v hv => ?_, ?_⟩⟩
  · have hj : j < (bvs zer).length := (List.getElem?_eq_some_iff.1 hv).1
    rw [bvs_length, zer_length] at hj
    have e : (madeCells (Value.agg Z).cells ((n : Int).toNat * i0.size)) = madeCells Z (n * 257) := by rw [Int.toNat_natCast, hs]; rfl
    rw [e, made_at Z n _ hZs (by omega), show (i * 257 + j) % 257 = j by omega, ← Array.getElem?_toList, hZ, List.getElem?_append_left (by rw [bvs_length, zer_length]; exact hj)]
    exact hv
  · have e : (madeCells (Value.agg Z).cells ((n : Int).toNat * i0.size)) = madeCells Z (n * 257) := by rw [Int.toNat_natCast, hs]; rfl
    rw [e, made_at Z n _ hZs (by omega), show (i * 257 + 256) % 257 = 256 by omega, ← Array.getElem?_toList, hZ, List.getElem?_append_right (by rw [bvs_length, zer_length]; omega), bvs_length, zer_length]
    rfl
set_option maxHeartbeats 1000000 in
theorem new_any (w : World) (n : Nat) (h1 : 1 ≤ n) (hn : n ≤ 4096) :
    Calls Tryz.prog 9 #[.int .i64 (n : Int)] w fun e w' => ∃ p q, e = .returned (.tuple #[.pointer (some ⟨p, 0, none⟩), .int .i64 0]) ∧ DiskAt w' w.heap.size p n false 0 (fun _ => zer) (fun _ => []) q (fun _ => .slice none 0 0) ∧ Below w.heap.size w w' := by
  obtain ⟨C, hmk, hC⟩ := make_blocks w n hn
  have h1' : (1 : Int) ≤ n := by omega
  have hn' : (n : Int) ≤ 4096 := by omega
  have hzw : (w.alloc (.cells C 114)).heap.size = w.heap.size + 1 := by show (w.heap.push _).size = _; simp
  have HC : Hid (∀ i, i < n → (∀ j v, (bvs zer)[j]? = some v → C[i * 257 + j]? = some v) ∧ C[i * 257 + 256]? = some (.slice none 0 0)) := hC
  have HZ : Hid _ := hzw
  clear hC hzw
  go_enter Tryz.func9, Tryz.ntmps9
  go_wp2
  go_ret2
  have e0 : ((w.alloc (.cells C 114)).alloc (.cells #[Value.slice (some ⟨w.heap.size, 0, none⟩) n n, Value.bool false, Value.int .i64 0] 91)).heap[w.heap.size]? = some (.cells C 114 (0, 0)) := heap_alloc2_old _ _ _
  have e1 : ((w.alloc (.cells C 114)).alloc (.cells #[Value.slice (some ⟨w.heap.size, 0, none⟩) n n, Value.bool false, Value.int .i64 0] 91)).heap[w.heap.size + 1]? = some (.cells #[Value.slice (some ⟨w.heap.size, 0, none⟩) n n, Value.bool false, Value.int .i64 0] 91 (0, 0)) := heap_alloc2_new _ _ _
  have hC := HC.out
  refine ⟨w.heap.size + 1, w.heap.size, rfl, ?_, ((Below.refl _ _).alloc (Nat.le_refl _) _).alloc (by rw [HZ.out]; omega) _⟩
  exact {
    pb := by omega, qb := Nat.le_refl _, pq := by omega, nn := hn,
    c0 := ⟨n, Nat.le_refl _, by omega, by rw [cell_of_row _ _ _ _ _ _ e1]; rfl⟩,
    c1 := by rw [cell_of_row _ _ _ _ _ _ e1]; rfl,
    c2 := by rw [cell_of_row _ _ _ _ _ _ e1]; rfl,
    fp := fun o => frozen_of_row _ _ o _ _ e1,
    fq := fun o => frozen_of_row _ _ o _ _ e0,
    ql := (Array.getElem?_eq_some_iff.1 e0).1,
    row := fun i hi => ⟨fun j v hv => by rw [cell_of_row _ _ _ _ _ _ e0]; exact (hC i hi).1 j v hv, zer_length, by rw [cell_of_row _ _ _ _ _ _ e0]; exact (hC i hi).2⟩,
    wr := fun i hi => ⟨World.ownsRow_nil _ _ _ _, by simp, by simp [Value.ownBlock], by simp [Value.ownBlock]⟩,
    ap := fun i j hi hj hij => .inl rfl }
section
variable {w : World} {base p n : Nat} {en : Bool} {lf : Int} {sf : Nat → List UInt8} {ws : Nat → List (List UInt8)} {q : Nat} {vs : Nat → Value}
theorem DiskAt.lastLen (h : DiskAt w base p n en lf sf ws q vs) (i : Nat) (hi : i < n) : (lastOf (sf i) (ws i)).length = 256 := lastOf_length (h.row i hi).2.1 (h.wr i hi).2.1
set_option maxHeartbeats 1000000 in
set_option maxRecDepth 100000 in
theorem read_any (h : DiskAt w base p n en lf sf ws q vs) (i : Nat) (hi : i < n) :
    Calls Tryz.prog 31 #[.pointer (some ⟨p, 0, none⟩), .int .i64 (i : Int)] w fun e w' => ∃ g, e = .returned (.tuple #[.slice (some ⟨g, 0, none⟩) 256 256, .int .i64 0]) ∧ Blk w' g 111 (lastOf (sf i) (ws i)) ∧ w.heap.size ≤ g ∧ Below w.heap.size w w' := by
  have FIND := find_any h i hi
  have LAST := last_any h i hi
  have hll := h.lastLen i hi
  obtain ⟨Z, hz, hzs, hinfo, HZ⟩ := Tryz.zero111
  clear HZ hinfo
  generalize lastOf (sf i) (ws i) = y at *
  clear h
  go_enter Tryz.func31, Tryz.ntmps31
  go_wp2_with fail
  refine FIND.mono ?_
  rintro e w1 ⟨rfl, rfl⟩
  clear FIND
  go_wp2_with fail
  refine LAST.mono ?_
  rintro e w2 ⟨rfl, hb2⟩
  clear LAST
  have hs2 := hb2.size
  have hb3 : Below w1.heap.size w1 (w2.alloc (.cells Z 111)) := hb2.alloc hs2 _
  go_wp2_with ((with_reducible show wpList _ _ _ ({ dst := _, op := Op.store 111 _ _, type := _, pos := _, after := _, guard := _ } :: _) _ _); refine wpList_store_blk rfl (.tmp 8) (.tmp 19) rfl w2.heap.size Z y rfl rfl (heap_alloc_new _ _) hzs hll w1.heap.size w1 hb3 hs2 ?_; intro w3 hg3 hb4 hx1 hy1; clear hx1 hy1)
  go_ret2
  exact ⟨_, rfl, hg3, hs2, hb4⟩
end
end Go.Proofs.YtaljaledeljllaaGreat
