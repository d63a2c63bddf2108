/- super.Put. -/
import Derived.Test.YtjdfkbpadhndlaaDoorSup
import Derived.Test.YtjdfkbpadhndlaaDoorPutAt
import Derived.Test.YtjdfkbpadhndlaaDoorSum
import Derived.Lib.BufferWrite
namespace Go.Proofs.YtjdfkbpadhndlaaDoor
open Go.RowKit
def zeros : List UInt8 := List.replicate 256 0
theorem zeros_length : zeros.length = 256 := List.length_replicate
def markL : List UInt8 := [76, 86, 69, 69]
/-- The bytes of a superblock, but for the sum. -/
def bodyL (g a i n : Nat) : List UInt8 := layAt (layAt (layAt (layAt (layAt zeros 0 markL) 4 (leB 8 g)) 12 (leB 2 a)) 14 (leB 2 i)) 16 (leB 2 n)
/-- The bytes of a superblock. -/
def putL (g a i n : Nat) : List UInt8 := layAt (bodyL g a i n) 252 (leB 4 (sumN ((bodyL g a i n).take 252)))
theorem lay_len {cur : List UInt8} {o k n : Nat} (hc : cur.length = 256) (h : o + k ≤ 256) : (layAt cur o (leB k n)).length = 256 := by
  rw [layAt_length _ _ _ (by rw [leB_length, hc]; exact h)]; exact hc
theorem mark_len : (layAt zeros 0 markL).length = 256 := by
  rw [layAt_length _ _ _ (by rw [zeros_length]; decide)]; exact zeros_length
theorem bodyL_length (g a i n : Nat) : (bodyL g a i n).length = 256 := lay_len (lay_len (lay_len (lay_len mark_len (by omega)) (by omega)) (by omega)) (by omega)
theorem putL_length (g a i n : Nat) : (putL g a i n).length = 256 := lay_len (bodyL_length g a i n) (by omega)
theorem Tryd.zero55 : ∃ Z : Array Value, (∀ w, (zeroValue 55).run Tryd.prog w = .ok (.agg Z) w) ∧ Hid (Z = (bvs zeros).toArray) := by
  have h : (Tryd.prog.info? 55).map (fun i => i.zero) = some (some (.agg (bvs zeros).toArray)) := by kernel_rfl
  cases hi : Tryd.prog.info? 55 with
  | none => rw [hi] at h; cases h
  | some i =>
    rw [hi] at h
    have hz : i.zero = some (.agg (bvs zeros).toArray) := Option.some.inj h
    have key : ∀ (v : Value) (w : World), i.zero = some v → (zeroValue 55).run Tryd.prog w = .ok v w := by
      intro v w hv
      simp [zeroValue, typeInfo, hi, hv]
    exact ⟨_, fun w => key _ w hz, rfl⟩
theorem mark_copy (w : World) (G : Nat) (hg : Blk w G 55 zeros) :
    ∃ w1, Sem.run Tryd.prog (Builtin.copy_ #[26, 9] 3 #[.slice (some ⟨G, 0, none⟩) 256 256, .string ⟨#[76, 86, 69, 69]⟩]) w = .ok (.int .i64 4) w1 ∧ Blk w1 G 55 (layAt zeros 0 markL) ∧ Below G w w1 := by
  have h := Lib.run_copy_row_string (P := Tryd.prog) w 26 9 3 5 G 0 256 256 ⟨#[76, 86, 69, 69]⟩ _ 55 Tryd.underlying26 Tryd.elem1 hg (by decide) (by rw [List.size_toArray, bvs_length, zeros_length]; decide)
  refine ⟨_, h, ?_, below_setRow (Below.refl _ _) (Nat.le_refl _) _⟩
  have h2 := setRow_heap w G _ ((bvs zeros).toArray.toList.take 0 ++ Lib.byteCells markL ++ (bvs zeros).toArray.toList.drop (0 + 4)).toArray 55 _ hg
  rw [Blk]
  refine h2.trans ?_
  congr 3
abbrev InU (x : Int) : Prop := Nonempty (0 ≤ x ∧ x < 18446744073709551616)
theorem wrapU (x : Int) [h : InU x] : IntKind.u64.wrap x = x := by obtain ⟨h⟩ := h; rw [IntKind.wrap_u64]; omega
attribute [local go_sem] wrapU
set_option maxRecDepth 100000 in
set_option maxHeartbeats 4000000 in
theorem sput_ok (g a i n : Nat) (w : World) (ht : Tab w) (hok : okS g a i n = true) :
    Calls Tryd.prog 7 #[.agg #[.int .i64 (g : Int), .int .i64 (a : Int), .int .i64 (i : Int), .int .i64 (n : Int)]] w fun e w' => ∃ G, e = .returned (.tuple #[.slice (some ⟨G, 0, none⟩) 256 256, .int .i64 0]) ∧ Blk w' G 55 (putL g a i n) ∧ w.heap.size ≤ G ∧ Below w.heap.size w w' := by
  have RT := sright_any g a i n
  rw [hok] at RT
  obtain ⟨hg1, hg2, hgeo⟩ := okS_iff.1 hok
  have hbx := hgeo.box
  have hn16 := hgeo.le16
  have hw0 : 0 < w.heap.size := block_lt_of_cell (ht 0 (by omega))
  obtain ⟨Z, hz, HZ⟩ := Tryd.zero55
  have hb : Below w.heap.size w (w.alloc (.cells #[.int .i64 (g : Int), .int .i64 (a : Int), .int .i64 (i : Int), .int .i64 (n : Int)] 30)) := (Below.refl _ _).alloc (Nat.le_refl _) _
  have HR0 : Hid (Row4 (w.alloc (.cells #[.int .i64 (g : Int), .int .i64 (a : Int), .int .i64 (i : Int), .int .i64 (n : Int)] 30)) w.heap.size 30 g a i n) := heap_alloc_new _ _
  have u1 : InU (g : Int) := ⟨by omega⟩
  have u2 : InU (a : Int) := ⟨by omega⟩
  have u3 : InU (i : Int) := ⟨by omega⟩
  have u4 : InU (n : Int) := ⟨by omega⟩
  go_enter Tryd.func7, Tryd.ntmps7
  go_wp2_with fail
  refine (RT _).mono ?_
  rintro e w1 ⟨rfl, hb1⟩
  have HR1 : Hid (Row4 w1 w.heap.size 30 g a i n) := HR0.out.up hb1
  have hl1 : w.heap.size < w1.heap.size := HR1.out.lt
  have hB1 : Below w.heap.size w w1 := hb.trans (hb1.mono hb.size)
  have HG0 : Hid (Blk (w1.alloc (.cells Z 55)) w1.heap.size 55 zeros) := by have := heap_alloc_new w1 (.cells Z 55); rw [HZ.out] at this ⊢; exact this
  have hal : Below w1.heap.size w1 (w1.alloc (.cells Z 55)) := (Below.refl _ _).alloc (Nat.le_refl _) _
  obtain ⟨w2, hcp, hG2, hb2⟩ := mark_copy _ _ HG0.out
  have HG2 : Hid (Blk w2 w1.heap.size 55 (layAt zeros 0 markL)) := hG2
  have HR2 : Hid (Row4 w2 w.heap.size 30 g a i n) := HR1.out.below (hal.trans hb2) hl1
  have hB2 : Below w.heap.size w w2 := hB1.trans ((hal.trans hb2).mono (by omega))
  clear hG2 RT HR0 HG0 hb hb1 HZ
  go_wp2_with fail
  have hd2 : Row4 w2.drew w.heap.size 30 g a i n := HR2.out.up (Below.refl _ _).drew
  have hdG2 : Blk w2.drew w1.heap.size 55 (layAt zeros 0 markL) := HG2.out.below (B := w2.heap.size) (Below.refl _ _).drew HG2.out.lt
  refine wp_region_held_drew (S := (fun w' => Row4 w' w.heap.size 30 g a i n)) (by kernel_rfl) hd2 (fun hH => ?_)
  refine takeH (i := 0) (dst := some 10) (v := ?v1) rfl rfl (by kernel_rfl) (by kernel_rfl) (by kernel_rfl) (fun _ _ _ h => h) rfl ?hy1 hH rfl ?rest1
  case hy1 => (intro W hW; have q0 := hW.c0; have q1 := hW.c1; have q2 := hW.c2; have q3 := hW.c3; clear hW; go_simp; try with_reducible rfl)
  (try simp only [Act.put, List.setIfInBounds_toArray, List.set_cons_zero, List.set_cons_succ])
  refine takeH (i := 1) (dst := some 11) (v := ?v2) rfl rfl (by kernel_rfl) (by kernel_rfl) (by kernel_rfl) (fun _ _ _ h => h) rfl ?hy2 hH rfl ?rest2
  case hy2 => (intro W hW; have q0 := hW.c0; have q1 := hW.c1; have q2 := hW.c2; have q3 := hW.c3; clear hW; go_simp; try with_reducible rfl)
  (try simp only [Act.put, List.setIfInBounds_toArray, List.set_cons_zero, List.set_cons_succ])
  refine takeH (i := 2) (dst := some 12) (v := ?v3) rfl rfl (by kernel_rfl) (by kernel_rfl) (by kernel_rfl) (fun _ _ _ h => h) rfl ?hy3 hH rfl ?rest3
  case hy3 => (intro W hW; have q0 := hW.c0; have q1 := hW.c1; have q2 := hW.c2; have q3 := hW.c3; clear hW; go_simp; try with_reducible rfl)
  (try simp only [Act.put, List.setIfInBounds_toArray, List.set_cons_zero, List.set_cons_succ])
  refine takeH (i := 3) (dst := some 13) (v := ?v4) rfl rfl (by kernel_rfl) (by kernel_rfl) (by kernel_rfl) (fun _ _ _ h => h) rfl ?hy4 hH rfl ?rest4
  case hy4 => (intro W hW; have q0 := hW.c0; have q1 := hW.c1; have q2 := hW.c2; have q3 := hW.c3; clear hW; go_simp; try with_reducible rfl)
  (try simp only [Act.put, List.setIfInBounds_toArray, List.set_cons_zero, List.set_cons_succ])
  refine callH (i := 4) { dst := some 14, op := Go.Op.call { callee := Go.Callee.value (Go.Operand.func 23), args := #[Go.Operand.tmp 10, Go.Operand.tmp 13], argTypes := #[26, 57] }, type := 0, pos := "super.go:51", after := #[{ on := 0, ground := Go.Ground.data }, { on := 3, ground := Go.Ground.data }], guard := none } (by kernel_rfl) rfl rfl (fun K hK => ?_)
  go_simp
  refine (putAt_any w1.heap.size 55 (layAt zeros 0 markL) 4 8 252 g (by omega) (by omega) (by omega) (by rw [mark_len]; omega) _ hdG2 (by omega) (by omega)).mono ?_
  rintro e w3 ⟨rfl, hG3, hb3⟩
  have hR3 : Row4 w3 w.heap.size 30 g a i n := hd2.below hb3 hl1
  clear hH
  refine hK.out _ _ hR3 (fun hH => ?_)
  clear hK K
  (try simp only [Act.put, List.setIfInBounds_toArray, List.set_cons_zero, List.set_cons_succ])
  refine wpAnyH_done (by kernel_rfl) ?_ _
  clear hH
  have HG3 : Hid (Blk w3 w1.heap.size 55 (layAt (layAt zeros 0 markL) 4 (leB 8 g))) := hG3
  have HR3 : Hid (Row4 w3 w.heap.size 30 g a i n) := hR3
  have hB3 : Below w.heap.size w w3 := hB2.drew.trans (hb3.mono (by omega))
  clear hG3 hR3 hd2 hdG2 hb3 hB2
  go_wp2_with fail
  have hd3 : Row4 w3.drew w.heap.size 30 g a i n := HR3.out.up (Below.refl _ _).drew
  have hdG3 : Blk w3.drew w1.heap.size 55 (layAt (layAt zeros 0 markL) 4 (leB 8 g)) := HG3.out.below (B := w3.heap.size) (Below.refl _ _).drew HG3.out.lt
  refine wp_region_held_drew (S := (fun w' => Row4 w' w.heap.size 30 g a i n)) (by kernel_rfl) hd3 (fun hH => ?_)
  refine takeH (i := 0) (dst := some 15) (v := ?v5) rfl rfl (by kernel_rfl) (by kernel_rfl) (by kernel_rfl) (fun _ _ _ h => h) rfl ?hy5 hH rfl ?rest5
  case hy5 => (intro W hW; have q0 := hW.c0; have q1 := hW.c1; have q2 := hW.c2; have q3 := hW.c3; clear hW; go_simp; try with_reducible rfl)
  (try simp only [Act.put, List.setIfInBounds_toArray, List.set_cons_zero, List.set_cons_succ])
  refine takeH (i := 1) (dst := some 16) (v := ?v6) rfl rfl (by kernel_rfl) (by kernel_rfl) (by kernel_rfl) (fun _ _ _ h => h) rfl ?hy6 hH rfl ?rest6
  case hy6 => (intro W hW; have q0 := hW.c0; have q1 := hW.c1; have q2 := hW.c2; have q3 := hW.c3; clear hW; go_simp; try with_reducible rfl)
  (try simp only [Act.put, List.setIfInBounds_toArray, List.set_cons_zero, List.set_cons_succ])
  refine takeH (i := 2) (dst := some 17) (v := ?v7) rfl rfl (by kernel_rfl) (by kernel_rfl) (by kernel_rfl) (fun _ _ _ h => h) rfl ?hy7 hH rfl ?rest7
  case hy7 => (intro W hW; have q0 := hW.c0; have q1 := hW.c1; have q2 := hW.c2; have q3 := hW.c3; clear hW; go_simp; try with_reducible rfl)
  (try simp only [Act.put, List.setIfInBounds_toArray, List.set_cons_zero, List.set_cons_succ])
  refine takeH (i := 3) (dst := some 18) (v := ?v8) rfl rfl (by kernel_rfl) (by kernel_rfl) (by kernel_rfl) (fun _ _ _ h => h) rfl ?hy8 hH rfl ?rest8
  case hy8 => (intro W hW; have q0 := hW.c0; have q1 := hW.c1; have q2 := hW.c2; have q3 := hW.c3; clear hW; go_simp; try with_reducible rfl)
  (try simp only [Act.put, List.setIfInBounds_toArray, List.set_cons_zero, List.set_cons_succ])
  refine takeH (i := 4) (dst := some 19) (v := ?v9) rfl rfl (by kernel_rfl) (by kernel_rfl) (by kernel_rfl) (fun _ _ _ h => h) rfl ?hy9 hH rfl ?rest9
  case hy9 => (intro W hW; have q0 := hW.c0; have q1 := hW.c1; have q2 := hW.c2; have q3 := hW.c3; clear hW; go_simp; try with_reducible rfl)
  (try simp only [Act.put, List.setIfInBounds_toArray, List.set_cons_zero, List.set_cons_succ])
  refine callH (i := 5) { dst := some 20, op := Go.Op.call { callee := Go.Callee.value (Go.Operand.func 23), args := #[Go.Operand.tmp 15, Go.Operand.tmp 19], argTypes := #[26, 57] }, type := 0, pos := "super.go:52", after := #[{ on := 0, ground := Go.Ground.data }, { on := 4, ground := Go.Ground.data }], guard := none } (by kernel_rfl) rfl rfl (fun K hK => ?_)
  go_simp
  refine (putAt_any w1.heap.size 55 (layAt (layAt zeros 0 markL) 4 (leB 8 g)) 12 2 244 a (by omega) (by omega) (by omega) (by rw [lay_len (mark_len) (by omega)]; omega) _ hdG3 (by omega) (by omega)).mono ?_
  rintro e w4 ⟨rfl, hG4, hb4⟩
  have hR4 : Row4 w4 w.heap.size 30 g a i n := hd3.below hb4 hl1
  clear hH
  refine hK.out _ _ hR4 (fun hH => ?_)
  clear hK K
  (try simp only [Act.put, List.setIfInBounds_toArray, List.set_cons_zero, List.set_cons_succ])
  refine wpAnyH_done (by kernel_rfl) ?_ _
  clear hH
  have HG4 : Hid (Blk w4 w1.heap.size 55 (layAt (layAt (layAt zeros 0 markL) 4 (leB 8 g)) 12 (leB 2 a))) := hG4
  have HR4 : Hid (Row4 w4 w.heap.size 30 g a i n) := hR4
  have hB4 : Below w.heap.size w w4 := hB3.drew.trans (hb4.mono (by omega))
  clear hG4 hR4 hd3 hdG3 hb4 hB3
  go_wp2_with fail
  have hd4 : Row4 w4.drew w.heap.size 30 g a i n := HR4.out.up (Below.refl _ _).drew
  have hdG4 : Blk w4.drew w1.heap.size 55 (layAt (layAt (layAt zeros 0 markL) 4 (leB 8 g)) 12 (leB 2 a)) := HG4.out.below (B := w4.heap.size) (Below.refl _ _).drew HG4.out.lt
  refine wp_region_held_drew (S := (fun w' => Row4 w' w.heap.size 30 g a i n)) (by kernel_rfl) hd4 (fun hH => ?_)
  refine takeH (i := 0) (dst := some 21) (v := ?v10) rfl rfl (by kernel_rfl) (by kernel_rfl) (by kernel_rfl) (fun _ _ _ h => h) rfl ?hy10 hH rfl ?rest10
  case hy10 => (intro W hW; have q0 := hW.c0; have q1 := hW.c1; have q2 := hW.c2; have q3 := hW.c3; clear hW; go_simp; try with_reducible rfl)
  (try simp only [Act.put, List.setIfInBounds_toArray, List.set_cons_zero, List.set_cons_succ])
  refine takeH (i := 1) (dst := some 22) (v := ?v11) rfl rfl (by kernel_rfl) (by kernel_rfl) (by kernel_rfl) (fun _ _ _ h => h) rfl ?hy11 hH rfl ?rest11
  case hy11 => (intro W hW; have q0 := hW.c0; have q1 := hW.c1; have q2 := hW.c2; have q3 := hW.c3; clear hW; go_simp; try with_reducible rfl)
  (try simp only [Act.put, List.setIfInBounds_toArray, List.set_cons_zero, List.set_cons_succ])
  refine takeH (i := 2) (dst := some 23) (v := ?v12) rfl rfl (by kernel_rfl) (by kernel_rfl) (by kernel_rfl) (fun _ _ _ h => h) rfl ?hy12 hH rfl ?rest12
  case hy12 => (intro W hW; have q0 := hW.c0; have q1 := hW.c1; have q2 := hW.c2; have q3 := hW.c3; clear hW; go_simp; try with_reducible rfl)
  (try simp only [Act.put, List.setIfInBounds_toArray, List.set_cons_zero, List.set_cons_succ])
  refine takeH (i := 3) (dst := some 24) (v := ?v13) rfl rfl (by kernel_rfl) (by kernel_rfl) (by kernel_rfl) (fun _ _ _ h => h) rfl ?hy13 hH rfl ?rest13
  case hy13 => (intro W hW; have q0 := hW.c0; have q1 := hW.c1; have q2 := hW.c2; have q3 := hW.c3; clear hW; go_simp; try with_reducible rfl)
  (try simp only [Act.put, List.setIfInBounds_toArray, List.set_cons_zero, List.set_cons_succ])
  refine takeH (i := 4) (dst := some 25) (v := ?v14) rfl rfl (by kernel_rfl) (by kernel_rfl) (by kernel_rfl) (fun _ _ _ h => h) rfl ?hy14 hH rfl ?rest14
  case hy14 => (intro W hW; have q0 := hW.c0; have q1 := hW.c1; have q2 := hW.c2; have q3 := hW.c3; clear hW; go_simp; try with_reducible rfl)
  (try simp only [Act.put, List.setIfInBounds_toArray, List.set_cons_zero, List.set_cons_succ])
  refine callH (i := 5) { dst := some 26, op := Go.Op.call { callee := Go.Callee.value (Go.Operand.func 23), args := #[Go.Operand.tmp 21, Go.Operand.tmp 25], argTypes := #[26, 57] }, type := 0, pos := "super.go:53", after := #[{ on := 0, ground := Go.Ground.data }, { on := 4, ground := Go.Ground.data }], guard := none } (by kernel_rfl) rfl rfl (fun K hK => ?_)
  go_simp
  refine (putAt_any w1.heap.size 55 (layAt (layAt (layAt zeros 0 markL) 4 (leB 8 g)) 12 (leB 2 a)) 14 2 242 i (by omega) (by omega) (by omega) (by rw [lay_len (lay_len (mark_len) (by omega)) (by omega)]; omega) _ hdG4 (by omega) (by omega)).mono ?_
  rintro e w5 ⟨rfl, hG5, hb5⟩
  have hR5 : Row4 w5 w.heap.size 30 g a i n := hd4.below hb5 hl1
  clear hH
  refine hK.out _ _ hR5 (fun hH => ?_)
  clear hK K
  (try simp only [Act.put, List.setIfInBounds_toArray, List.set_cons_zero, List.set_cons_succ])
  refine wpAnyH_done (by kernel_rfl) ?_ _
  clear hH
  have HG5 : Hid (Blk w5 w1.heap.size 55 (layAt (layAt (layAt (layAt zeros 0 markL) 4 (leB 8 g)) 12 (leB 2 a)) 14 (leB 2 i))) := hG5
  have HR5 : Hid (Row4 w5 w.heap.size 30 g a i n) := hR5
  have hB5 : Below w.heap.size w w5 := hB4.drew.trans (hb5.mono (by omega))
  clear hG5 hR5 hd4 hdG4 hb5 hB4
  go_wp2_with fail
  have hd5 : Row4 w5.drew w.heap.size 30 g a i n := HR5.out.up (Below.refl _ _).drew
  have hdG5 : Blk w5.drew w1.heap.size 55 (layAt (layAt (layAt (layAt zeros 0 markL) 4 (leB 8 g)) 12 (leB 2 a)) 14 (leB 2 i)) := HG5.out.below (B := w5.heap.size) (Below.refl _ _).drew HG5.out.lt
  refine wp_region_held_drew (S := (fun w' => Row4 w' w.heap.size 30 g a i n)) (by kernel_rfl) hd5 (fun hH => ?_)
  refine takeH (i := 0) (dst := some 27) (v := ?v15) rfl rfl (by kernel_rfl) (by kernel_rfl) (by kernel_rfl) (fun _ _ _ h => h) rfl ?hy15 hH rfl ?rest15
  case hy15 => (intro W hW; have q0 := hW.c0; have q1 := hW.c1; have q2 := hW.c2; have q3 := hW.c3; clear hW; go_simp; try with_reducible rfl)
  (try simp only [Act.put, List.setIfInBounds_toArray, List.set_cons_zero, List.set_cons_succ])
  refine takeH (i := 1) (dst := some 28) (v := ?v16) rfl rfl (by kernel_rfl) (by kernel_rfl) (by kernel_rfl) (fun _ _ _ h => h) rfl ?hy16 hH rfl ?rest16
  case hy16 => (intro W hW; have q0 := hW.c0; have q1 := hW.c1; have q2 := hW.c2; have q3 := hW.c3; clear hW; go_simp; try with_reducible rfl)
  (try simp only [Act.put, List.setIfInBounds_toArray, List.set_cons_zero, List.set_cons_succ])
  refine takeH (i := 2) (dst := some 29) (v := ?v17) rfl rfl (by kernel_rfl) (by kernel_rfl) (by kernel_rfl) (fun _ _ _ h => h) rfl ?hy17 hH rfl ?rest17
  case hy17 => (intro W hW; have q0 := hW.c0; have q1 := hW.c1; have q2 := hW.c2; have q3 := hW.c3; clear hW; go_simp; try with_reducible rfl)
  (try simp only [Act.put, List.setIfInBounds_toArray, List.set_cons_zero, List.set_cons_succ])
  refine takeH (i := 3) (dst := some 30) (v := ?v18) rfl rfl (by kernel_rfl) (by kernel_rfl) (by kernel_rfl) (fun _ _ _ h => h) rfl ?hy18 hH rfl ?rest18
  case hy18 => (intro W hW; have q0 := hW.c0; have q1 := hW.c1; have q2 := hW.c2; have q3 := hW.c3; clear hW; go_simp; try with_reducible rfl)
  (try simp only [Act.put, List.setIfInBounds_toArray, List.set_cons_zero, List.set_cons_succ])
  refine takeH (i := 4) (dst := some 31) (v := ?v19) rfl rfl (by kernel_rfl) (by kernel_rfl) (by kernel_rfl) (fun _ _ _ h => h) rfl ?hy19 hH rfl ?rest19
  case hy19 => (intro W hW; have q0 := hW.c0; have q1 := hW.c1; have q2 := hW.c2; have q3 := hW.c3; clear hW; go_simp; try with_reducible rfl)
  (try simp only [Act.put, List.setIfInBounds_toArray, List.set_cons_zero, List.set_cons_succ])
  refine callH (i := 5) { dst := some 32, op := Go.Op.call { callee := Go.Callee.value (Go.Operand.func 23), args := #[Go.Operand.tmp 27, Go.Operand.tmp 31], argTypes := #[26, 57] }, type := 0, pos := "super.go:54", after := #[{ on := 0, ground := Go.Ground.data }, { on := 4, ground := Go.Ground.data }], guard := none } (by kernel_rfl) rfl rfl (fun K hK => ?_)
  go_simp
  refine (putAt_any w1.heap.size 55 (layAt (layAt (layAt (layAt zeros 0 markL) 4 (leB 8 g)) 12 (leB 2 a)) 14 (leB 2 i)) 16 2 240 n (by omega) (by omega) (by omega) (by rw [lay_len (lay_len (lay_len (mark_len) (by omega)) (by omega)) (by omega)]; omega) _ hdG5 (by omega) (by omega)).mono ?_
  rintro e w6 ⟨rfl, hG6, hb6⟩
  have hR6 : Row4 w6 w.heap.size 30 g a i n := hd5.below hb6 hl1
  clear hH
  refine hK.out _ _ hR6 (fun hH => ?_)
  clear hK K
  (try simp only [Act.put, List.setIfInBounds_toArray, List.set_cons_zero, List.set_cons_succ])
  refine wpAnyH_done (by kernel_rfl) ?_ _
  clear hH
  have HG6 : Hid (Blk w6 w1.heap.size 55 (layAt (layAt (layAt (layAt (layAt zeros 0 markL) 4 (leB 8 g)) 12 (leB 2 a)) 14 (leB 2 i)) 16 (leB 2 n))) := hG6
  have HR6 : Hid (Row4 w6 w.heap.size 30 g a i n) := hR6
  have hB6 : Below w.heap.size w w6 := hB5.drew.trans (hb6.mono (by omega))
  clear hG6 hR6 hd5 hdG5 hb6 hB5
  go_wp2_with fail
  have hd6 : Row4 w6.drew w.heap.size 30 g a i n := HR6.out.up (Below.refl _ _).drew
  have hdG6 : Blk w6.drew w1.heap.size 55 (bodyL g a i n) := HG6.out.below (B := w6.heap.size) (Below.refl _ _).drew HG6.out.lt
  have hT6 : Tab w6.drew := ht.below hB6.drew hw0
  have hsl : ((bodyL g a i n).take 252).length = 252 := by rw [List.length_take, bodyL_length]; rfl
  have SUM := sum_any (some ⟨w1.heap.size, 0, none⟩) ((bodyL g a i n).take 252) 256 w6.drew (by have := hdG6.srcOff 0 252; rw [List.drop_zero] at this; exact this) hT6 (by rw [hsl]; omega)
  rw [hsl] at SUM
  have hslt : sumN ((bodyL g a i n).take 252) < 4294967296 := Nat.xor_lt_two_pow (n := 32) (by omega) (crcF_lt _ _ (by omega))
  have u5 : InU (sumN ((bodyL g a i n).take 252) : Int) := ⟨by omega⟩
  refine wp_region_held_drew (S := (fun w' => Row4 w' w.heap.size 30 g a i n)) (by kernel_rfl) hd6 (fun hH => ?_)
  refine takeH (i := 0) (dst := some 33) (v := ?v20) rfl rfl (by kernel_rfl) (by kernel_rfl) (by kernel_rfl) (fun _ _ _ h => h) rfl ?hy20 hH rfl ?rest20
  case hy20 => (intro W hW; have q0 := hW.c0; have q1 := hW.c1; have q2 := hW.c2; have q3 := hW.c3; clear hW; go_simp; try with_reducible rfl)
  (try simp only [Act.put, List.setIfInBounds_toArray, List.set_cons_zero, List.set_cons_succ])
  refine takeH (i := 1) (dst := some 34) (v := ?v21) rfl rfl (by kernel_rfl) (by kernel_rfl) (by kernel_rfl) (fun _ _ _ h => h) rfl ?hy21 hH rfl ?rest21
  case hy21 => (intro W hW; have q0 := hW.c0; have q1 := hW.c1; have q2 := hW.c2; have q3 := hW.c3; clear hW; go_simp; try with_reducible rfl)
  (try simp only [Act.put, List.setIfInBounds_toArray, List.set_cons_zero, List.set_cons_succ])
  refine callH (i := 2) { dst := some 35, op := Go.Op.call { callee := Go.Callee.value (Go.Operand.func 24), args := #[Go.Operand.tmp 34], argTypes := #[26] }, type := 58, pos := "super.go:55", after := #[{ on := 1, ground := Go.Ground.data }], guard := none } (by kernel_rfl) rfl rfl (fun K hK => ?_)
  go_simp
  refine SUM.mono ?_
  rintro e w7 ⟨rfl, rfl⟩
  clear hH
  refine hK.out _ _ hd6 (fun hH => ?_)
  clear hK K
  (try simp only [Act.put, List.setIfInBounds_toArray, List.set_cons_zero, List.set_cons_succ])
  refine takeH (i := 3) (dst := some 36) (v := ?v22) rfl rfl (by kernel_rfl) (by kernel_rfl) (by kernel_rfl) (fun _ _ _ h => h) rfl ?hy22 hH rfl ?rest22
  case hy22 => (intro W hW; have q0 := hW.c0; have q1 := hW.c1; have q2 := hW.c2; have q3 := hW.c3; clear hW; go_simp; try with_reducible rfl)
  (try simp only [Act.put, List.setIfInBounds_toArray, List.set_cons_zero, List.set_cons_succ])
  refine callH (i := 4) { dst := some 37, op := Go.Op.call { callee := Go.Callee.value (Go.Operand.func 23), args := #[Go.Operand.tmp 33, Go.Operand.tmp 36], argTypes := #[26, 57] }, type := 0, pos := "super.go:55", after := #[{ on := 0, ground := Go.Ground.data }, { on := 3, ground := Go.Ground.data }, { on := 2, ground := Go.Ground.chain }], guard := none } (by kernel_rfl) rfl rfl (fun K hK => ?_)
  go_simp
  refine (putAt_any w1.heap.size 55 (bodyL g a i n) 252 4 4 (sumN ((bodyL g a i n).take 252)) (by omega) (by omega) (by omega) (by rw [bodyL_length]; omega) _ hdG6 (by omega) (by omega)).mono ?_
  rintro e w8 ⟨rfl, hG8, hb8⟩
  have hR8 : Row4 w8 w.heap.size 30 g a i n := hd6.below hb8 hl1
  clear hH
  refine hK.out _ _ hR8 (fun hH => ?_)
  clear hK K
  (try simp only [Act.put, List.setIfInBounds_toArray, List.set_cons_zero, List.set_cons_succ])
  refine wpAnyH_done (by kernel_rfl) ?_ _
  clear hH
  clear SUM
  go_wp2
  go_ret2
  exact ⟨_, rfl, hG8, by omega, hB6.drew.trans (hb8.mono (by omega))⟩
end Go.Proofs.YtjdfkbpadhndlaaDoor
