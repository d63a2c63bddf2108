/- leveelaw08.known. -/
import Derived.Test.YtabmogeicpphoaaJ12
import Derived.Test.YtabmogeicpphoaaJ14
namespace Go.Proofs.Ytabmogeicpphoaa
open Go.RowKit
def kE : Ent := ⟨5, false, [97]⟩
def zer256 : List UInt8 := List.replicate 256 0
theorem zer256_length : zer256.length = 256 := List.length_replicate
def kB : List UInt8 := elayTX zer256 3 kE
theorem kE_rt : rtE kE = true := by decide +kernel
theorem kE_six : (layE kE).take 6 = [5, 0, 0, 1, 97, 0] := by decide +kernel
theorem kB_err : elayTE 256 3 kE = 0 := by decide +kernel
theorem kB_length : kB.length = 256 := by decide +kernel
theorem kB_find : findL kB [97] = 3 := by decide +kernel
theorem kB_room : roomL kB = 0 := by decide +kernel
theorem kB_name : nmB [97] = true := by decide +kernel
theorem kB_dots : nmB [46, 46] = false := by decide +kernel
theorem exec_build_two {ev : Operand → Value} {oi : Oper} {w : World} {x0 x2 : Operand} {a : Int} {s : List UInt8} (ho : oi.op = .build 48 #[(0, x0), (2, x2)])
    (e0 : ev x0 = .int .i64 a) (e2 : ev x2 = .string (str s)) :
    (execOp ev oi).run Try.prog w = .ok (.value (.agg (eA ⟨a, false, s⟩))) w := by
  have h : (Instr.build 48 #[(0, .int .i64 a), (2, .string (str s))]).run Try.prog w = .ok (.agg (eA ⟨a, false, s⟩)) w := run_build w 48 _ _ (by kernel_rfl)
  unfold execOp
  simp only [ho, List.map_toArray, List.map_cons, List.map_nil, e0, e2, Sem.run_bind, h, Result.andThen_ok]
  rfl
theorem wpList_build_two {ops : Array Oper} {rest : List Oper} {op : Oper} {a : Act} {w : World} {Q : Exit → Act → World → Prop} (hgd : op.guard = none) {x0 x2 : Operand} {k : Int} {s : List UInt8} (ho : op.op = .build 48 #[(0, x0), (2, x2)])
    (e0 : a.eval x0 = .int .i64 k) (e2 : a.eval x2 = .string (str s))
    (h : wpList Try.prog ops Q rest (a.put op.dst (.agg (eA ⟨k, false, s⟩))) w) : wpList Try.prog ops Q (op :: rest) a w :=
  wpList_plain hgd fun K hK => by
    unfold Oper.wp
    rw [exec_build_two ho e0 e2]
    exact hK _ _ h
structure KE (w0 : World) (G : Nat) (W : World) : Prop where
  b : Below w0.heap.size w0 W
  ent : EntAt W w0.heap.size kE
  blk : Blk W G 80 (layE kE)
theorem KE.up {w0 W W' : World} {G : Nat} (h : KE w0 G W) (hb : Below W.heap.size W W') : KE w0 G W' :=
  ⟨h.b.trans (hb.mono h.b.size), h.ent.up hb, h.blk.below hb h.blk.lt⟩
set_option maxRecDepth 100000 in
set_option maxHeartbeats 8000000 in
theorem eknown_any (w : World) : Calls Try.prog 36 #[] w fun e w' => e = .returned (.bool true) ∧ Below w.heap.size w w' := by
  have hz := zeroE
  have HN : Hid (EntAt (w.alloc (.cells (eA zent) 48)) w.heap.size zent) := ent_new w zent
  have HNB : Hid (Below w.heap.size w (w.alloc (.cells (eA zent) 48))) := (Below.refl _ _).alloc (Nat.le_refl _) _
  have PY := eput_yes kE kE_rt
  have HLN : Hid ((layE kE).length = 32) := layE_length (rtE_enR kE_rt).nm
  go_enter Try.func36, Try.ntmps36
  go_upto_region 2 with (first | ((with_reducible show wpList _ _ _ ({ dst := _, op := Op.build 48 _, type := _, pos := _, after := _, guard := _ } :: _) _ _); refine wpList_build_two (s := [97]) rfl rfl rfl rfl ?_) | ((with_reducible show wpList _ _ _ ({ dst := _, op := Op.store 48 _ _, type := _, pos := _, after := _, guard := _ } :: _) _ _); refine wpList_store_ent rfl _ _ rfl (HN.out) rfl rfl ?_; intro w1 H1 b1 z1))
  have HB1 : Hid (Below w.heap.size w w1) := HNB.out.trans b1.bel
  have HI1 : Hid (EntAt w1 w.heap.size kE) := H1
  clear HN HNB b1 z1 H1 hz
  go_wp2_with (first | ((with_reducible show wpList _ _ _ ({ dst := _, op := Op.load 48 _, type := _, pos := _, after := _, guard := _ } :: _) _ _); refine wpList_load_ent rfl _ rfl (HI1.out) rfl ?_))
  refine (PY _).mono ?_
  rintro e w2 ⟨G, rfl, hg2, hG2, h2⟩
  have KK : Hid (KE w G w2) := ⟨HB1.out.trans (h2.mono HB1.out.size), HI1.out.up h2, hg2⟩
  clear HI1 HB1 PY hg2 h2
  go_upto_region 3 with fail
  have mk : ∀ W : World, (Instr.makeSlice 25 (.int .i64 256) (.int .i64 256)).run Try.prog W = .ok (.slice (some ⟨W.heap.size, 0, none⟩) 256 256) (W.alloc (.cells (bvs zer256).toArray 5)) := fun W => make_any W 256 256 (by omega) (by omega)
  have HLY : Hid (∀ W Q, Blk W Q 5 zer256 → Calls Try.prog 46 #[.slice (some ⟨Q, 0, none⟩) 256 256, .int .i64 3, .agg (eA kE)] W fun e w' => ∃ v, e = .returned (.tuple #[v, .int .i64 0]) ∧ Own w' W.heap.size v kB ∧ Below W.heap.size W w') := by
    intro W Q hq
    have ha := hq.arg (by rw [zer256_length]; omega) (by rw [zer256_length]; omega)
    have h := dlayT_any (some ⟨Q, 0, none⟩) _ zer256 3 kE W ha
    rw [zer256_length, kB_err] at h
    exact h
  have gd := KK.out.up (Below.refl _ _).drew
  refine wp_region_held_drew (S := (fun W => KE w G W)) (by kernel_rfl) gd (fun hH => ?_)
  refine takeH (i := 1) (dst := some 14) (v := ?v1) rfl rfl (by kernel_rfl) (by kernel_rfl) (by kernel_rfl) (fun _ _ _ h => h) rfl ?hy1 hH rfl ?rest1
  case hy1 => (intro W hW; refine exec_load_ent (x := Operand.tmp 1) hW.ent ?_ ?_ <;> rfl)
  (try simp only [Act.put, List.setIfInBounds_toArray, List.set_cons_zero, List.set_cons_succ])
  refine callH (i := 0) { dst := some 13, op := Go.Op.makeSlice 25 (Go.Operand.const (Go.Value.int Go.IntKind.i64 256)) (Go.Operand.const (Go.Value.int Go.IntKind.i64 256)), type := 25, pos := "law.go:15", after := #[], guard := none } (by kernel_rfl) rfl rfl (fun K hK => ?_)
  go_simp
  clear hH
  refine hK.out _ _ ((KK.out.up ((Below.refl _ _).alloc (Nat.le_refl _) _)).up (Below.refl _ _).drew) (fun hH => ?_)
  clear hK K
  (try simp only [Act.put, List.setIfInBounds_toArray, List.set_cons_zero, List.set_cons_succ])
  refine callH (i := 2) { dst := some 15, op := Go.Op.call { callee := Go.Callee.value (Go.Operand.func 46), args := #[Go.Operand.tmp 13, Go.Operand.const (Go.Value.int Go.IntKind.i64 3), Go.Operand.tmp 14], argTypes := #[25, 3, 48] }, type := 27, pos := "law.go:15", after := #[{ on := 0, ground := Go.Ground.data }, { on := 1, ground := Go.Ground.data }], guard := none } (by kernel_rfl) rfl rfl (fun K hK => ?_)
  go_simp
  refine (HLY.out (w2.alloc (.cells (bvs zer256).toArray 5)).drew w2.heap.size (show Blk (w2.alloc (.cells (bvs zer256).toArray 5)) _ _ _ from heap_alloc_new w2 _)).mono ?_
  rintro r w5 ⟨v, rfl, ho, h5⟩
  have g5 := ((KK.out.up ((Below.refl _ _).alloc (Nat.le_refl _) _)).up (Below.refl _ _).drew).up h5
  obtain ⟨ao, cap, rfl, ha5⟩ := ho.arg (by rw [kB_length]; omega)
  simp only [kB_length] at *
  have G5 : Hid (KE w G w5) := g5
  have A5 : Hid (Arg w5 ao cap kB) := ha5
  clear ho h5 ha5 gd g5
  clear hH
  refine hK.out _ _ G5.out (fun hH => ?_)
  clear hK K
  (try simp only [Act.put, List.setIfInBounds_toArray, List.set_cons_zero, List.set_cons_succ])
  refine takeH (i := 3) (dst := some 12) (v := ?v2) rfl rfl (by kernel_rfl) (by kernel_rfl) (by kernel_rfl) (fun _ _ _ h => h) rfl ?hy2 hH rfl ?rest2
  case hy2 => (intro W hW; (try dsimp only at hW); go_simp; try with_reducible rfl)
  (try simp only [Act.put, List.setIfInBounds_toArray, List.set_cons_zero, List.set_cons_succ])
  refine takeH (i := 4) (dst := some 16) (v := ?v3) rfl rfl (by kernel_rfl) (by kernel_rfl) (by kernel_rfl) (fun _ _ _ h => h) rfl ?hy3 hH rfl ?rest3
  case hy3 => (intro W hW; (try dsimp only at hW); go_simp; try with_reducible rfl)
  (try simp only [Act.put, List.setIfInBounds_toArray, List.set_cons_zero, List.set_cons_succ])
  refine takeH (i := 5) (dst := some 17) (v := ?v4) rfl rfl (by kernel_rfl) (by kernel_rfl) (by kernel_rfl) (fun _ _ _ h => h) rfl ?hy4 hH rfl ?rest4
  case hy4 => (intro W hW; (try dsimp only at hW); go_simp; try with_reducible rfl)
  (try simp only [Act.put, List.setIfInBounds_toArray, List.set_cons_zero, List.set_cons_succ])
  refine takeH (i := 6) (dst := some 4) (v := ?v5) rfl rfl (by kernel_rfl) (by kernel_rfl) (by kernel_rfl) (fun _ _ _ h => h) rfl ?hy5 hH rfl ?rest5
  case hy5 => (intro W hW; (try dsimp only at hW); go_simp; try with_reducible rfl)
  (try simp only [Act.put, List.setIfInBounds_toArray, List.set_cons_zero, List.set_cons_succ])
  refine takeH (i := 7) (dst := some 5) (v := ?v6) rfl rfl (by kernel_rfl) (by kernel_rfl) (by kernel_rfl) (fun _ _ _ h => h) rfl ?hy6 hH rfl ?rest6
  case hy6 => (intro W hW; (try dsimp only at hW); go_simp; try with_reducible rfl)
  (try simp only [Act.put, List.setIfInBounds_toArray, List.set_cons_zero, List.set_cons_succ])
  refine wpAnyH_done (by kernel_rfl) ?_ _
  clear hH
  have hs6 := slice_to G 0 32 32 6 6 rfl (by omega) (by omega)
  have hcv : ∀ W, KE w G W → Sem.run Try.prog (convert 25 9 (.slice (some ⟨G, 0, none⟩) 6 32)) W = .ok (.string { data := #[5, 0, 0, 1, 97, 0] }) W := fun W h => by
    have hs : Src W (some ⟨G, 0, none⟩) ((layE kE).take 6) := h.blk.src.pre 6
    rw [kE_six] at hs
    exact conv_str hs 6 32 rfl
  have hc5 := hcv w5 G5.out
  have FD := fun W (h : Arg W ao cap kB) => find_in ao cap kB [97] W h
  simp only [kB_length, kB_find] at FD
  have RM := fun W (h : Arg W ao cap kB) => room_in ao cap kB W h
  simp only [kB_length, kB_room] at RM
  have NA := dname_any [97]
  rw [kB_name] at NA
  have NB := dname_any [46, 46]
  rw [kB_dots] at NB
  clear hcv
  go_wp2_with fail
  refine (FD w5 A5.out).mono ?_
  rintro r w6 ⟨rfl, h6⟩
  have B6 : Hid (Below w.heap.size w w6) := G5.out.b.trans (h6.mono G5.out.b.size)
  have A6 : Hid (Arg w6 ao cap kB) := A5.out.below h6 (Nat.le_refl _)
  clear hc5 hs6 G5 A5 h6 FD mk KK
  go_wp2_with fail
  refine (RM w6 A6.out).mono ?_
  rintro r w7 ⟨rfl, h7⟩
  have B7 : Hid (Below w.heap.size w w7) := B6.out.trans (h7.mono B6.out.size)
  clear h7 RM A6 B6
  go_wp2_with fail
  refine (NA w7).mono ?_
  rintro r w8 ⟨rfl, h8⟩
  have B8 : Hid (Below w.heap.size w w8) := B7.out.trans (h8.mono B7.out.size)
  clear h8 NA B7
  go_wp2_with fail
  refine (NB w8).mono ?_
  rintro r w9 ⟨rfl, h9⟩
  have B9 : Hid (Below w.heap.size w w9) := B8.out.trans (h9.mono B8.out.size)
  clear h9 NB B8
  go_wp2_with fail
  go_ret
  exact ⟨rfl, B9.out⟩
end Go.Proofs.Ytabmogeicpphoaa
