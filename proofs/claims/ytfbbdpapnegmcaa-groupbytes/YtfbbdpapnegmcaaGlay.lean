/- group.lay, group.Put. -/
import Derived.Test.YtfbbdpapnegmcaaLay
namespace Go.Proofs.Ytfbbdpapnegmcaa
open Go.RowKit
abbrev InU (x : Int) : Prop := Nonempty (0 ≤ x ∧ x < 18446744073709551616)
theorem wrapU (x : Int) [h : InU x] : IntKind.u64.wrap x = x := by obtain ⟨h⟩ := h; rw [IntKind.wrap_u64]; omega
/-- What lay has laid. -/
structure LW (w0 : World) (no : Int) (bl sl : List UInt8) (Z : Array Value) (q : Nat) (cur : List UInt8) (W : World) : Prop where
  b : Below w0.heap.size w0 W
  head : HeadAt W (w0.heap.size + 1) no bl sl
  res : W.heap[w0.heap.size + 2]? = some (.cells Z 62 (0, 0))
  blk : Blk W q 62 cur
section
variable {w0 W W' : World} {no : Int} {bl sl cur cur' : List UInt8} {Z : Array Value} {q : Nat}
theorem LW.below (h : LW w0 no bl sl Z q cur W) (hb : Below q W W') (hq : w0.heap.size + 2 < q) (hc : Blk W' q 62 cur') : LW w0 no bl sl Z q cur' W' :=
  ⟨h.b.trans (hb.mono (by omega)), h.head.below hb (by omega), by rw [hb.block _ (by omega)]; exact h.res, hc⟩
theorem LW.up (h : LW w0 no bl sl Z q cur W) (hb : Below W.heap.size W W') (hq : w0.heap.size + 2 < q) : LW w0 no bl sl Z q cur W' :=
  h.below (hb.mono (by have := h.blk.lt; omega)) hq (h.blk.below hb h.blk.lt)
theorem LW.drew (h : LW w0 no bl sl Z q cur W) : LW w0 no bl sl Z q cur W.drew := ⟨h.b.drew, h.head.drew, h.res, h.blk⟩
end
attribute [local go_sem] wrapU
set_option maxRecDepth 100000 in
set_option maxHeartbeats 4000000 in
theorem lay_yes (a i n : Int) (no : Nat) (bl sl : List UInt8) (hb : bl.length = 16) (hs : sl.length = 8) (hr : rgB a i n no bl sl = true) (w : World) :
    Calls Try.prog 31 #[.agg #[.int .i64 a, .int .i64 i, .int .i64 n], .agg (hA no bl sl)] w fun e w' => e = .returned (.agg (bvs (layL no (frN bl a).toNat (frN sl i).toNat bl sl)).toArray) ∧ Below w.heap.size w w' := by
  obtain ⟨hok, hn0, hn1⟩ := rgB_ok hr
  have hbx := hok.box
  have hn16 := hok.le16
  have FR := fun W => free_yes a i n no bl sl hb hs hr W
  have c1 := cnt_le (gb bl) a.toNat
  have c2 := cnt_le (gb sl) i.toNat
  have hx : ((frN bl a).toNat : Int) = frN bl a ∧ frN bl a ≤ 128 := by unfold frN; omega
  have hy : ((frN sl i).toNat : Int) = frN sl i ∧ frN sl i ≤ 64 := by unfold frN; omega
  rw [← hx.1, ← hy.1] at FR
  have hX : (frN bl a).toNat ≤ 128 := by omega
  have hY : (frN sl i).toNat ≤ 64 := by omega
  generalize (frN bl a).toNat = X at FR hX ⊢
  generalize (frN sl i).toNat = Y at FR hY ⊢
  obtain ⟨Z, hz, hzs, HZ⟩ := zero62
  have R0 := RW.start w a i n no bl sl hb hs
  have HR : Hid (HeadAt (((w.alloc (.cells #[.int .i64 a, .int .i64 i, .int .i64 n] 23)).alloc (.cells (hA no bl sl) 28)).alloc (.cells Z 62)) (w.heap.size + 1) no bl sl) := R0.head.alloc _
  have HRB : Hid (Below w.heap.size w (((w.alloc (.cells #[.int .i64 a, .int .i64 i, .int .i64 n] 23)).alloc (.cells (hA no bl sl) 28)).alloc (.cells Z 62))) := R0.geo.2.2.2.alloc (by simp; omega) _
  have HRR : Hid ((((w.alloc (.cells #[.int .i64 a, .int .i64 i, .int .i64 n] 23)).alloc (.cells (hA no bl sl) 28)).alloc (.cells Z 62)).heap[w.heap.size + 2]? = some (.cells Z 62 (0, 0))) := by
    have := heap_alloc_new ((w.alloc (.cells #[.int .i64 a, .int .i64 i, .int .i64 n] 23)).alloc (.cells (hA no bl sl) 28)) (.cells Z 62)
    rw [show ((w.alloc (.cells #[.int .i64 a, .int .i64 i, .int .i64 n] 23)).alloc (.cells (hA no bl sl) 28)).heap.size = w.heap.size + 2 by simp] at this
    exact this
  have u1 : InU (no : Int) := ⟨by omega⟩
  have u2 : InU (X : Int) := ⟨by omega⟩
  have u3 : InU (Y : Int) := ⟨by omega⟩
  clear R0 hr hok c1 c2 hx hy
  go_enter Try.func31, Try.ntmps31
  go_wp2_with (first | ((with_reducible show wpList _ _ _ ({ dst := _, op := Op.load 28 _, type := _, pos := _, after := _, guard := _ } :: _) _ _); refine wpList_load_head rfl _ rfl (HR.out) rfl ?_))
  refine (FR _).mono ?_
  rintro e w1 ⟨rfl, h1⟩
  have hl1 : w.heap.size + 2 < w1.heap.size := by
    have := (Array.getElem?_eq_some_iff.1 HRR.out).1
    have := h1.size; omega
  have hG0 : Blk (w1.alloc (.cells Z 62)) w1.heap.size 62 zeros := by have := heap_alloc_new w1 (.cells Z 62); rw [HZ.out] at this ⊢; exact this
  have L0 : LW w no bl sl Z w1.heap.size zeros (w1.alloc (.cells Z 62)) := by
    have hal : Below w1.heap.size w1 (w1.alloc (.cells Z 62)) := (Below.refl _ _).alloc (Nat.le_refl _) _
    refine ⟨(HRB.out.trans (h1.mono HRB.out.size)).trans (hal.mono (by omega)), (HR.out.up h1).up hal, ?_, hG0⟩
    rw [hal.block _ hl1, h1.block _ (Array.getElem?_eq_some_iff.1 HRR.out).1]; exact HRR.out
  obtain ⟨w2, hcp, hG2, hb2⟩ := mark_copy _ _ hG0
  have L2 := L0.below hb2 hl1 hG2
  have HL2 : Hid _ := L2
  clear FR HR HRB HRR HZ L0 hG0 hG2 hb2 h1 L2
  go_wp2_with fail
  have d2 := HL2.out.drew
  refine wp_region_held_drew (S := (fun W => HeadAt W (w.heap.size + 1) no bl sl)) (by kernel_rfl) d2.head (fun hH => ?_)
  refine takeH (i := 0) (dst := some 16) (v := ?v1) rfl rfl (by kernel_rfl) (by kernel_rfl) (by kernel_rfl) (fun _ _ _ h => h) rfl ?hy1 hH rfl ?rest1
  case hy1 => (intro W hW; have q3 := hW.c0; clear hW; go_simp; try with_reducible rfl)
  (try simp only [Act.put, List.setIfInBounds_toArray, List.set_cons_zero, List.set_cons_succ])
  refine takeH (i := 1) (dst := some 17) (v := ?v2) rfl rfl (by kernel_rfl) (by kernel_rfl) (by kernel_rfl) (fun _ _ _ h => h) rfl ?hy2 hH rfl ?rest2
  case hy2 => (intro W hW; have q3 := hW.c0; clear hW; go_simp; try with_reducible rfl)
  (try simp only [Act.put, List.setIfInBounds_toArray, List.set_cons_zero, List.set_cons_succ])
  refine takeH (i := 2) (dst := some 18) (v := ?v3) rfl rfl (by kernel_rfl) (by kernel_rfl) (by kernel_rfl) (fun _ _ _ h => h) rfl ?hy3 hH rfl ?rest3
  case hy3 => (intro W hW; have q3 := hW.c0; clear hW; go_simp; try with_reducible rfl)
  (try simp only [Act.put, List.setIfInBounds_toArray, List.set_cons_zero, List.set_cons_succ])
  refine takeH (i := 3) (dst := some 19) (v := ?v4) rfl rfl (by kernel_rfl) (by kernel_rfl) (by kernel_rfl) (fun _ _ _ h => h) rfl ?hy4 hH rfl ?rest4
  case hy4 => (intro W hW; have q3 := hW.c0; clear hW; go_simp; try with_reducible rfl)
  (try simp only [Act.put, List.setIfInBounds_toArray, List.set_cons_zero, List.set_cons_succ])
  refine callH (i := 4) { dst := some 20, op := Go.Op.call { callee := Go.Callee.value (Go.Operand.func 50), args := #[Go.Operand.tmp 16, Go.Operand.tmp 19], argTypes := #[24, 65] }, type := 0, pos := "group.go:110", after := #[{ on := 0, ground := Go.Ground.data }, { on := 3, ground := Go.Ground.data }], guard := none } (by kernel_rfl) rfl rfl (fun K hK => ?_)
  go_simp
  refine (putAt_any w1.heap.size 62 _ 4 2 252 no (by omega) (by omega) (by omega) (by rw [l1_len]; omega) _ d2.blk (by omega) (by omega)).mono ?_
  rintro e w3 ⟨rfl, g3, b3⟩
  have m3 := d2.below b3 hl1 g3
  clear g3 b3
  clear hH
  refine hK.out _ _ m3.head (fun hH => ?_)
  clear hK K
  (try simp only [Act.put, List.setIfInBounds_toArray, List.set_cons_zero, List.set_cons_succ])
  refine wpAnyH_done (by kernel_rfl) ?_ _
  clear hH
  have HL3 : Hid _ := m3
  clear m3 d2 HL2
  go_wp2_with fail
  refine (putAt_any w1.heap.size 62 _ 6 2 250 X (by omega) (by omega) (by omega) (by rw [l2_len]; omega) _ HL3.out.blk (by omega) (by omega)).mono ?_
  rintro e w4 ⟨rfl, g4, b4⟩
  have HL4 : Hid _ := HL3.out.below b4 hl1 g4
  clear HL3 g4 b4
  go_wp2_with fail
  refine (putAt_any w1.heap.size 62 _ 8 2 248 Y (by omega) (by omega) (by omega) (by rw [l3_len]; omega) _ HL4.out.blk (by omega) (by omega)).mono ?_
  rintro e w5 ⟨rfl, g5, b5⟩
  have HL5 : Hid _ := HL4.out.below b5 hl1 g5
  clear HL4 g5 b5
  go_wp2_with fail
  have d5 := HL5.out.drew
  obtain ⟨w6, c6, g6, b6, _⟩ := copy_lay (o := 16) 240 240 16 d5.blk d5.head.srcB (by rw [l4_len]; omega) (by omega)
  rw [hb] at c6
  have m6 := d5.below b6 hl1 g6
  refine wp_region_held_drew (S := (fun W => HeadAt W (w.heap.size + 1) no bl sl)) (by kernel_rfl) d5.head (fun hH => ?_)
  refine takeH (i := 0) (dst := some 29) (v := ?v5) rfl rfl (by kernel_rfl) (by kernel_rfl) (by kernel_rfl) (fun _ _ _ h => h) rfl ?hy5 hH rfl ?rest5
  case hy5 => (intro W hW; have q3 := hW.c0; clear hW; go_simp; try with_reducible rfl)
  (try simp only [Act.put, List.setIfInBounds_toArray, List.set_cons_zero, List.set_cons_succ])
  refine takeH (i := 1) (dst := some 30) (v := ?v6) rfl rfl (by kernel_rfl) (by kernel_rfl) (by kernel_rfl) (fun _ _ _ h => h) rfl ?hy6 hH rfl ?rest6
  case hy6 => (intro W hW; have q3 := hW.c0; clear hW; go_simp; try with_reducible rfl)
  (try simp only [Act.put, List.setIfInBounds_toArray, List.set_cons_zero, List.set_cons_succ])
  refine takeH (i := 2) (dst := some 31) (v := ?v7) rfl rfl (by kernel_rfl) (by kernel_rfl) (by kernel_rfl) (fun _ _ _ h => h) rfl ?hy7 hH rfl ?rest7
  case hy7 => (intro W hW; have q3 := hW.c0; clear hW; go_simp; try with_reducible rfl)
  (try simp only [Act.put, List.setIfInBounds_toArray, List.set_cons_zero, List.set_cons_succ])
  refine callH (i := 3) { dst := some 32, op := Go.Op.call { callee := Go.Callee.builtin Go.Builtin.copy, args := #[Go.Operand.tmp 29, Go.Operand.tmp 31], argTypes := #[24, 24] }, type := 3, pos := "group.go:113", after := #[{ on := 0, ground := Go.Ground.data }, { on := 2, ground := Go.Ground.data }], guard := none } (by kernel_rfl) rfl rfl (fun K hK => ?_)
  go_simp
  clear hH
  refine hK.out _ _ m6.head (fun hH => ?_)
  clear hK K
  (try simp only [Act.put, List.setIfInBounds_toArray, List.set_cons_zero, List.set_cons_succ])
  refine wpAnyH_done (by kernel_rfl) ?_ _
  clear hH
  have HL6 : Hid _ := m6
  clear m6 d5 HL5 c6 g6 b6
  go_wp2_with fail
  have d6 := HL6.out.drew
  obtain ⟨w7, c7, g7, b7, _⟩ := copy_lay (o := 32) 224 224 8 d6.blk d6.head.srcS (by rw [l5_len _ _ _ _ hb]; omega) (by omega)
  rw [hs] at c7
  have m7 := d6.below b7 hl1 g7
  refine wp_region_held_drew (S := (fun W => HeadAt W (w.heap.size + 1) no bl sl)) (by kernel_rfl) d6.head (fun hH => ?_)
  refine takeH (i := 0) (dst := some 33) (v := ?v8) rfl rfl (by kernel_rfl) (by kernel_rfl) (by kernel_rfl) (fun _ _ _ h => h) rfl ?hy8 hH rfl ?rest8
  case hy8 => (intro W hW; have q3 := hW.c0; clear hW; go_simp; try with_reducible rfl)
  (try simp only [Act.put, List.setIfInBounds_toArray, List.set_cons_zero, List.set_cons_succ])
  refine takeH (i := 1) (dst := some 34) (v := ?v9) rfl rfl (by kernel_rfl) (by kernel_rfl) (by kernel_rfl) (fun _ _ _ h => h) rfl ?hy9 hH rfl ?rest9
  case hy9 => (intro W hW; have q3 := hW.c0; clear hW; go_simp; try with_reducible rfl)
  (try simp only [Act.put, List.setIfInBounds_toArray, List.set_cons_zero, List.set_cons_succ])
  refine takeH (i := 2) (dst := some 35) (v := ?v10) rfl rfl (by kernel_rfl) (by kernel_rfl) (by kernel_rfl) (fun _ _ _ h => h) rfl ?hy10 hH rfl ?rest10
  case hy10 => (intro W hW; have q3 := hW.c0; clear hW; go_simp; try with_reducible rfl)
  (try simp only [Act.put, List.setIfInBounds_toArray, List.set_cons_zero, List.set_cons_succ])
  refine callH (i := 3) { dst := some 36, op := Go.Op.call { callee := Go.Callee.builtin Go.Builtin.copy, args := #[Go.Operand.tmp 33, Go.Operand.tmp 35], argTypes := #[24, 24] }, type := 3, pos := "group.go:114", after := #[{ on := 0, ground := Go.Ground.data }, { on := 2, ground := Go.Ground.data }], guard := none } (by kernel_rfl) rfl rfl (fun K hK => ?_)
  go_simp
  clear hH
  refine hK.out _ _ m7.head (fun hH => ?_)
  clear hK K
  (try simp only [Act.put, List.setIfInBounds_toArray, List.set_cons_zero, List.set_cons_succ])
  refine wpAnyH_done (by kernel_rfl) ?_ _
  clear hH
  have HL7 : Hid _ := m7
  clear m7 d6 HL6 c7 g7 b7
  have hlen := layL_length no X Y bl sl hb hs
  have HLN : Hid ((layL no X Y bl sl).length = 256) := hlen
  clear hlen
  have HG7 : Hid (Blk w7 w1.heap.size 62 (layL no X Y bl sl)) := HL7.out.blk
  have HR7 : Hid (w7.heap[w.heap.size + 2]? = some (.cells Z 62 (0, 0))) := HL7.out.res
  have HB7 : Hid (Below w.heap.size w w7) := HL7.out.b
  clear HL7
  go_wp2_with (first | ((with_reducible show wpList _ _ _ ({ dst := _, op := Op.load 62 _, type := _, pos := _, after := _, guard := _ } :: _) _ _); refine wpList_load_256 rfl _ rfl HG7.out HLN.out rfl ?_) | ((with_reducible show wpList _ _ _ ({ dst := _, op := Op.store 62 _ _, type := _, pos := _, after := _, guard := _ } :: _) _ _); refine wpList_store_256 rfl _ _ rfl HR7.out hzs HLN.out rfl rfl ?_; intro w8 G8 b8 z8))
  exact bodyPost_ret (results_cell_row rfl _ _ (w.heap.size + 2) 62 _ (0, 0) _ rfl G8 Try.underlying62 rfl (by rw [Try.sz62, List.size_toArray, bvs_length, HLN.out])) rfl ⟨rfl, HB7.out.trans (b8.mono (by omega))⟩
end Go.Proofs.Ytfbbdpapnegmcaa
