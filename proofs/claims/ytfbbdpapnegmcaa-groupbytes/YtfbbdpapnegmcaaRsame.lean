/- leveeref06.Same, leveelaw06.same. -/
import Derived.Test.YtfbbdpapnegmcaaTaken
import Derived.Test.YtfbbdpapnegmcaaGknown
namespace Go.Proofs.Ytfbbdpapnegmcaa
open Go.RowKit
set_option maxHeartbeats 4000000 in
theorem rsame_yes (no : Int) (bl sl : List UInt8) (s1 s2 s3 s4 : Option Addr) (c1 c2 c3 c4 : Nat) (hb : bl.length = 16) (hs : sl.length = 8) (w : World) (h1 : Src w s1 bl) (h2 : Src w s2 sl) (h3 : Src w s3 bl) (h4 : Src w s4 sl) :
    Calls Try.prog 41 #[.agg #[.int .i64 no, .slice s1 16 c1, .slice s2 8 c2], .agg #[.int .i64 no, .slice s3 16 c3, .slice s4 8 c4]] w fun e w' => e = .returned (.bool true) ∧ Below w.heap.size w w' := by
  have hB : Below w.heap.size w ((w.alloc (.cells #[.int .i64 no, .slice s1 16 c1, .slice s2 8 c2] 31)).alloc (.cells #[.int .i64 no, .slice s3 16 c3, .slice s4 8 c4] 31)) := ((Below.refl _ _).alloc (Nat.le_refl _) _).alloc (by simp) _
  have k1 := conv_str (h1.below hB (Nat.le_refl _)) 16 c1 hb.symm
  have k2 := conv_str (h2.below hB (Nat.le_refl _)) 8 c2 hs.symm
  have k3 := conv_str (h3.below hB (Nat.le_refl _)) 16 c3 hb.symm
  have k4 := conv_str (h4.below hB (Nat.le_refl _)) 8 c4 hs.symm
  have HB : Hid _ := hB
  clear h1 h2 h3 h4 hB
  go_enter Try.func41, Try.ntmps41
  go_wp2
  go_ret
  exact ⟨rfl, HB.out⟩
/-- A header and the document's header. -/
structure SW (w0 : World) (no : Int) (bl sl : List UInt8) (x y z : Value) (W : World) : Prop where
  head : HeadAt W w0.heap.size no bl sl
  row : Row3 W (w0.heap.size + 1) 31 x y z
  bel : Below w0.heap.size w0 W
theorem SW.up {w0 W W' : World} {no : Int} {bl sl : List UInt8} {x y z : Value} (h : SW w0 no bl sl x y z W) (hb : Below W.heap.size W W') : SW w0 no bl sl x y z W' := ⟨h.head.up hb, h.row.up hb, h.bel.trans (hb.mono h.bel.size)⟩
theorem SW.start (w : World) (no : Int) (bl sl : List UInt8) (hb : bl.length = 16) (hs : sl.length = 8) (x y z : Value) : SW w no bl sl x y z ((w.alloc (.cells (hA no bl sl) 28)).alloc (.cells #[x, y, z] 31)) := by
  have h1 := head_new w no bl sl hb hs
  have h2 := heap_alloc_new (w.alloc (.cells (hA no bl sl) 28)) (.cells #[x, y, z] 31)
  rw [show (w.alloc (.cells (hA no bl sl) 28)).heap.size = w.heap.size + 1 by simp] at h2
  exact ⟨h1.alloc _, h2, ((Below.refl _ _).alloc (Nat.le_refl _) _).alloc (by simp) _⟩
set_option maxHeartbeats 4000000 in
theorem same_no (e0 : Int) (he : e0 ≠ 0) (x y z : Value) (w : World) :
    Calls Try.prog 15 #[.agg (hA 0 z16 z8), .int .i64 e0, .agg #[x, y, z], .int .i64 e0] w fun e w' => e = .returned (.bool true) ∧ Below w.heap.size w w' := by
  have HS0 : Hid _ := SW.start w 0 z16 z8 rfl rfl x y z
  have hz := zero28
  have HEB : Hid (eqB 0 0 z16 z16 z8 z8 = true) := eqB_true.2 ⟨rfl, rfl, rfl⟩
  have hl0 := HS0.out.row.lt
  obtain ⟨w1, hw1⟩ : ∃ w1, (w.alloc (.cells (hA 0 z16 z8) 28)).alloc (.cells #[x, y, z] 31) = w1 := ⟨_, rfl⟩
  rw [hw1] at HS0 hl0
  have HN : Hid (HeadAt (w1.alloc (.cells (hA 0 z16 z8) 28)) w1.heap.size 0 z16 z8) := head_new w1 0 z16 z8 rfl rfl
  have HB : Hid (Below w.heap.size w (w1.alloc (.cells (hA 0 z16 z8) 28))) := HS0.out.bel.alloc HS0.out.bel.size _
  have H0 : Hid (HeadAt (w1.alloc (.cells (hA 0 z16 z8) 28)) w.heap.size 0 z16 z8) := HS0.out.head.alloc _
  have hlq : w.heap.size < w1.heap.size := HS0.out.head.lt
  have hne := hA_ne 0 z16 z8
  clear hl0
  go_enter Try.func15, Try.ntmps15
  go_upto_region 1 with fail
  go_upto_region 3 with (first | ((with_reducible show wpList _ _ _ ({ dst := _, op := Op.store 28 _ _, type := _, pos := _, after := _, guard := _ } :: _) _ _); refine wpList_store_head rfl _ _ rfl (HN.out) rfl rfl rfl rfl ?_; intro w2 H2 b2 z2))
  have HH2 : Hid (HeadAt w2 w.heap.size 0 z16 z8) := H0.out.below b2 hlq
  have HG2 : Hid _ := H2
  have HB2 : Hid (Below w.heap.size w w2) := HB.out.trans (b2.mono (by omega))
  clear H2 b2 HN HB H0 HS0
  go_wp2_with (first | ((with_reducible show wpList _ _ _ ({ dst := _, op := Op.load 28 _, type := _, pos := _, after := _, guard := _ } :: _) _ _); refine wpList_load_headG rfl _ rfl (HH2.out) rfl ?_) | ((with_reducible show wpList _ _ _ ({ dst := _, op := Op.load 28 _, type := _, pos := _, after := _, guard := _ } :: _) _ _); refine wpList_load_headG rfl _ rfl (HG2.out) rfl ?_) | ((with_reducible show wpList _ _ _ ({ dst := _, op := Op.binOp BinOp.eql 28 _ _ 28, type := _, pos := _, after := _, guard := _ } :: _) _ _); refine wpList_eq_headG rfl _ _ rfl rfl rfl rfl rfl rfl rfl HEB.out ?_))
  go_ret
  exact ⟨rfl, HB2.out⟩
set_option maxHeartbeats 4000000 in
theorem same_yes (no : Int) (bl sl : List UInt8) (s3 s4 : Option Addr) (c3 c4 : Nat) (hb : bl.length = 16) (hs : sl.length = 8) (w : World) (h3 : Src w s3 bl) (h4 : Src w s4 sl) :
    Calls Try.prog 15 #[.agg (hA no bl sl), .int .i64 0, .agg #[.int .i64 no, .slice s3 16 c3, .slice s4 8 c4], .int .i64 0] w fun e w' => e = .returned (.bool true) ∧ Below w.heap.size w w' := by
  have HS0 : Hid _ := SW.start w no bl sl hb hs (.int .i64 no) (.slice s3 16 c3) (.slice s4 8 c4)
  have HT := fun W => taken_any no bl sl hb hs W
  have HD : SW w no bl sl (.int .i64 no) (.slice s3 16 c3) (.slice s4 8 c4) _ := HS0.out.up (Below.refl _ _).drew
  have HL : Hid (bl.length = 16 ∧ sl.length = 8) := ⟨hb, hs⟩
  clear HS0 hb hs
  go_enter Try.func15, Try.ntmps15
  go_wp2_with fail
  refine wp_region_held_drew (S := (fun W => SW w no bl sl (.int .i64 no) (.slice s3 16 c3) (.slice s4 8 c4) W)) (by kernel_rfl) HD (fun hH => ?_)
  refine takeH (i := 0) (dst := some 21) (v := ?v1) rfl rfl (by kernel_rfl) (by kernel_rfl) (by kernel_rfl) (fun _ _ _ h => h) rfl ?hy1 hH rfl ?rest1
  case hy1 => (intro W hW; have r0 := hW.row.c0; have r1 := hW.row.c1; have r2 := hW.row.c2; clear hW; go_simp; try with_reducible rfl)
  (try simp only [Act.put, List.setIfInBounds_toArray, List.set_cons_zero, List.set_cons_succ])
  refine takeH (i := 1) (dst := some 22) (v := ?v2) rfl rfl (by kernel_rfl) (by kernel_rfl) (by kernel_rfl) (fun _ _ _ h => h) rfl ?hy2 hH rfl ?rest2
  case hy2 => (intro W hW; have r0 := hW.row.c0; have r1 := hW.row.c1; have r2 := hW.row.c2; clear hW; go_simp; try with_reducible rfl)
  (try simp only [Act.put, List.setIfInBounds_toArray, List.set_cons_zero, List.set_cons_succ])
  refine takeH (i := 2) (dst := some 23) (v := ?v3) rfl rfl (by kernel_rfl) (by kernel_rfl) (by kernel_rfl) (fun _ _ _ h => h) rfl ?hy3 hH rfl ?rest3
  case hy3 => (intro W hW; have r0 := hW.row.c0; have r1 := hW.row.c1; have r2 := hW.row.c2; clear hW; go_simp; try with_reducible rfl)
  (try simp only [Act.put, List.setIfInBounds_toArray, List.set_cons_zero, List.set_cons_succ])
  refine takeH (i := 3) (dst := some 24) (v := ?v4) rfl rfl (by kernel_rfl) (by kernel_rfl) (by kernel_rfl) (fun _ _ _ h => h) rfl ?hy4 hH rfl ?rest4
  case hy4 => (intro W hW; have r0 := hW.row.c0; have r1 := hW.row.c1; have r2 := hW.row.c2; clear hW; go_simp; try with_reducible rfl)
  (try simp only [Act.put, List.setIfInBounds_toArray, List.set_cons_zero, List.set_cons_succ])
  refine takeH (i := 4) (dst := some 25) (v := ?v5) rfl rfl (by kernel_rfl) (by kernel_rfl) (by kernel_rfl) (fun _ _ _ h => h) rfl ?hy5 hH rfl ?rest5
  case hy5 => (intro W hW; refine exec_load_head (x := Operand.tmp 4) hW.head ?_ ?_ <;> rfl)
  (try simp only [Act.put, List.setIfInBounds_toArray, List.set_cons_zero, List.set_cons_succ])
  refine takeH (i := 6) (dst := some 27) (v := ?v6) rfl rfl (by kernel_rfl) (by kernel_rfl) (by kernel_rfl) (fun _ _ _ h => h) rfl ?hy6 hH rfl ?rest6
  case hy6 => (intro W hW; have r0 := hW.row.c0; have r1 := hW.row.c1; have r2 := hW.row.c2; clear hW; go_simp; try with_reducible rfl)
  (try simp only [Act.put, List.setIfInBounds_toArray, List.set_cons_zero, List.set_cons_succ])
  refine callH (i := 5) { dst := some 26, op := Go.Op.call { callee := Go.Callee.value (Go.Operand.func 7), args := #[Go.Operand.tmp 25], argTypes := #[28] }, type := 31, pos := "law.go:41", after := #[{ on := 4, ground := Go.Ground.data }, { on := 3, ground := Go.Ground.chain }, { on := 3, ground := Go.Ground.guard }], guard := some (3, true) } (by kernel_rfl) rfl rfl (fun K hK => ?_)
  go_simp
  refine (HT _).mono ?_
  rintro e v1 ⟨s1, s2, c1, c2, rfl, a1, a2, m0⟩
  have m1 := hH.up m0
  clear m0 HT
  clear hH
  refine hK.out _ _ m1 (fun hH => ?_)
  clear hK K
  (try simp only [Act.put, List.setIfInBounds_toArray, List.set_cons_zero, List.set_cons_succ])
  refine callH (i := 7) { dst := some 28, op := Go.Op.call { callee := Go.Callee.value (Go.Operand.func 41), args := #[Go.Operand.tmp 26, Go.Operand.tmp 27], argTypes := #[31, 31] }, type := 4, pos := "law.go:41", after := #[{ on := 5, ground := Go.Ground.data }, { on := 6, ground := Go.Ground.data }, { on := 5, ground := Go.Ground.chain }, { on := 3, ground := Go.Ground.guard }], guard := some (3, true) } (by kernel_rfl) rfl rfl (fun K hK => ?_)
  go_simp
  refine (rsame_yes no bl sl s1 s2 s3 s4 c1 c2 c3 c4 HL.out.1 HL.out.2 _ a1.src a2.src (h3.below m1.bel (Nat.le_refl _)) (h4.below m1.bel (Nat.le_refl _))).mono ?_
  rintro e v2 ⟨rfl, m2⟩
  have m3 := m1.up m2
  clear m2
  clear hH
  refine hK.out _ _ m3 (fun hH => ?_)
  clear hK K
  (try simp only [Act.put, List.setIfInBounds_toArray, List.set_cons_zero, List.set_cons_succ])
  refine takeH (i := 8) (dst := some 29) (v := ?v7) rfl rfl (by kernel_rfl) (by kernel_rfl) (by kernel_rfl) (fun _ _ _ h => h) rfl ?hy7 hH rfl ?rest7
  case hy7 => (intro W hW; have r0 := hW.row.c0; have r1 := hW.row.c1; have r2 := hW.row.c2; clear hW; go_simp; try with_reducible rfl)
  (try simp only [Act.put, List.setIfInBounds_toArray, List.set_cons_zero, List.set_cons_succ])
  refine takeH (i := 9) (dst := some 8) (v := ?v8) rfl rfl (by kernel_rfl) (by kernel_rfl) (by kernel_rfl) (fun _ _ _ h => h) rfl ?hy8 hH rfl ?rest8
  case hy8 => (intro W hW; have r0 := hW.row.c0; have r1 := hW.row.c1; have r2 := hW.row.c2; clear hW; go_simp; try with_reducible rfl)
  (try simp only [Act.put, List.setIfInBounds_toArray, List.set_cons_zero, List.set_cons_succ])
  refine wpAnyH_done (by kernel_rfl) ?_ _
  clear hH
  have HM : Hid _ := m3.bel
  go_wp2
  go_ret
  exact ⟨rfl, HM.out⟩
end Go.Proofs.Ytfbbdpapnegmcaa
