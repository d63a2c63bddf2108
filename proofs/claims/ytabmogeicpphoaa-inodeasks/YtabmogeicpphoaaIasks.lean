/- leveelaw07.InodeAsks: the walk. -/
import Derived.Test.YtabmogeicpphoaaRwithin
namespace Go.Proofs.Ytabmogeicpphoaa
open Go.RowKit
structure AS (w0 : World) (a i n : Int) (t : Ino) (W : World) : Prop where
  lies : Lies w0 w0.heap.size a i n W
  ino : InoAt W (w0.heap.size + 1) t
theorem AS.up {w0 W W' : World} {a i n : Int} {t : Ino} (h : AS w0 a i n t W) (hb : Below W.heap.size W W') : AS w0 a i n t W' := ⟨lies_up h.lies hb, h.ino.up hb⟩
set_option maxRecDepth 100000 in
set_option maxHeartbeats 4000000 in
theorem inodeAsks_any (a i n : Int) (t : Ino) (w : World) (hn : t.ns.length = 8) (hs : t.s ≤ 9223372036854775807) (hwn : ∀ x ∈ t.ns, (Lit.int .i64 x).wf = true) :
    Calls Try.prog 4 #[.agg #[.int .i64 a, .int .i64 i, .int .i64 n], .agg (iA t)] w fun e w' => e = .returned (.bool true) ∧ Below w.heap.size w w' := by
  have hb0 : Below w.heap.size w ((w.alloc (.cells #[.int .i64 a, .int .i64 i, .int .i64 n] 37)).alloc (.cells (iA t) 24)) := ((Below.refl _ _).alloc (Nat.le_refl _) _).alloc (by simp) _
  have HI0 : InoAt ((w.alloc (.cells #[.int .i64 a, .int .i64 i, .int .i64 n] 37)).alloc (.cells (iA t) 24)) (w.heap.size + 1) t := by
    have := ino_new (w.alloc (.cells #[.int .i64 a, .int .i64 i, .int .i64 n] 37)) t hn
    rw [show (w.alloc (.cells #[.int .i64 a, .int .i64 i, .int .i64 n] 37)).heap.size = w.heap.size + 1 by simp] at this
    exact this
  have HA0 : Hid (AS w a i n t ((w.alloc (.cells #[.int .i64 a, .int .i64 i, .int .i64 n] 37)).alloc (.cells (iA t) 24))) := ⟨⟨by go_simp, by go_simp, by go_simp, hb0⟩, HI0⟩
  have BL := blocks_any t hn hs
  have RB := rblocks_any t hn hs
  have NM := names_any t hn
  have RN := rnames_any t hn
  have WI1 := within_iany a i n t hn (fun x hx => hwn x (List.mem_filter.1 hx).1)
  have WI2 := rwithin_any a i n t hn
  have KN := iknown_any
  have HLN : Hid ((nz t.ns).length ≤ 8) := by have := nz_len t.ns; show _ ≤ _; omega
  clear hb0 HI0 hn hs hwn
  generalize nz t.ns = N at *
  generalize blkN t.s = BN at *
  generalize wiB a i n N = WB at *
  have hNN : (N == N) = true := by simp
  have hln := HLN.out
  go_enter Try.func4, Try.ntmps4
  go_upto_region 1 with fail
  have gd := HA0.out.up (Below.refl _ _).drew
  clear HA0
  refine wp_region_held_drew (S := (fun W => AS w a i n t W)) (by kernel_rfl) gd (fun hH => ?_)
  refine takeH (i := 0) (dst := some 5) (v := ?v1) rfl rfl (by kernel_rfl) (by kernel_rfl) (by kernel_rfl) (fun _ _ _ h => h) rfl ?hy1 hH rfl ?rest1
  case hy1 => (intro W hW; refine exec_load_ino (x := Operand.tmp 3) hW.ino ?_ ?_ <;> rfl)
  (try simp only [Act.put, List.setIfInBounds_toArray, List.set_cons_zero, List.set_cons_succ])
  refine takeH (i := 2) (dst := some 7) (v := ?v2) rfl rfl (by kernel_rfl) (by kernel_rfl) (by kernel_rfl) (fun _ _ _ h => h) rfl ?hy2 hH rfl ?rest2
  case hy2 => (intro W hW; refine exec_load_ino (x := Operand.tmp 3) hW.ino ?_ ?_ <;> rfl)
  (try simp only [Act.put, List.setIfInBounds_toArray, List.set_cons_zero, List.set_cons_succ])
  refine callH (i := 1) { dst := some 6, op := Go.Op.call { callee := Go.Callee.value (Go.Operand.func 18), args := #[Go.Operand.tmp 5], argTypes := #[24] }, type := 3, pos := "law.go:40", after := #[{ on := 0, ground := Go.Ground.data }], guard := none } (by kernel_rfl) rfl rfl (fun K hK => ?_)
  go_simp
  refine (BL _).mono ?_
  rintro e v1 ⟨rfl, k1⟩
  have m1 := gd.up k1
  clear k1
  clear hH
  refine hK.out _ _ m1 (fun hH => ?_)
  clear hK K
  (try simp only [Act.put, List.setIfInBounds_toArray, List.set_cons_zero, List.set_cons_succ])
  refine callH (i := 3) { dst := some 8, op := Go.Op.call { callee := Go.Callee.value (Go.Operand.func 19), args := #[Go.Operand.tmp 7], argTypes := #[24] }, type := 3, pos := "law.go:40", after := #[{ on := 2, ground := Go.Ground.data }, { on := 1, ground := Go.Ground.chain }], guard := none } (by kernel_rfl) rfl rfl (fun K hK => ?_)
  go_simp
  refine (RB _).mono ?_
  rintro e v2 ⟨rfl, k2⟩
  have m2 := m1.up k2
  clear k2
  clear hH
  refine hK.out _ _ m2 (fun hH => ?_)
  clear hK K
  (try simp only [Act.put, List.setIfInBounds_toArray, List.set_cons_zero, List.set_cons_succ])
  refine takeH (i := 4) (dst := some 9) (v := ?v3) rfl rfl (by kernel_rfl) (by kernel_rfl) (by kernel_rfl) (fun _ _ _ h => h) rfl ?hy3 hH rfl ?rest3
  case hy3 => (intro W hW; have q0 := hW.lies.1; have q1 := hW.lies.2.1; have q2 := hW.lies.2.2.1; clear hW; go_simp; try with_reducible rfl)
  (try simp only [Act.put, List.setIfInBounds_toArray, List.set_cons_zero, List.set_cons_succ])
  refine takeH (i := 5) (dst := some 10) (v := ?v4) rfl rfl (by kernel_rfl) (by kernel_rfl) (by kernel_rfl) (fun _ _ _ h => h) rfl ?hy4 hH rfl ?rest4
  case hy4 => (intro W hW; have q0 := hW.lies.1; have q1 := hW.lies.2.1; have q2 := hW.lies.2.2.1; clear hW; go_simp; try with_reducible rfl)
  (try simp only [Act.put, List.setIfInBounds_toArray, List.set_cons_zero, List.set_cons_succ])
  refine takeH (i := 6) (dst := some 11) (v := ?v5) rfl rfl (by kernel_rfl) (by kernel_rfl) (by kernel_rfl) (fun _ _ _ h => h) rfl ?hy5 hH rfl ?rest5
  case hy5 => (intro W hW; refine exec_load_ino (x := Operand.tmp 3) hW.ino ?_ ?_ <;> rfl)
  (try simp only [Act.put, List.setIfInBounds_toArray, List.set_cons_zero, List.set_cons_succ])
  refine takeH (i := 8) (dst := some 13) (v := ?v6) rfl rfl (by kernel_rfl) (by kernel_rfl) (by kernel_rfl) (fun _ _ _ h => h) rfl ?hy6 hH rfl ?rest6
  case hy6 => (intro W hW; refine exec_load_ino (x := Operand.tmp 3) hW.ino ?_ ?_ <;> rfl)
  (try simp only [Act.put, List.setIfInBounds_toArray, List.set_cons_zero, List.set_cons_succ])
  refine callH (i := 7) { dst := some 12, op := Go.Op.call { callee := Go.Callee.value (Go.Operand.func 21), args := #[Go.Operand.tmp 11], argTypes := #[24] }, type := 40, pos := "law.go:40", after := #[{ on := 6, ground := Go.Ground.data }, { on := 5, ground := Go.Ground.chain }, { on := 5, ground := Go.Ground.guard }], guard := some (5, true) } (by kernel_rfl) rfl rfl (fun K hK => ?_)
  go_simp
  refine (NM _).mono ?_
  rintro e v3 ⟨x3, rfl, o3, k3⟩
  obtain ⟨a3, c3, rfl, s3, _, _, _⟩ := o3.form
  have m3 := m2.up k3
  clear k3 o3
  clear hH
  refine hK.out _ _ m3 (fun hH => ?_)
  clear hK K
  (try simp only [Act.put, List.setIfInBounds_toArray, List.set_cons_zero, List.set_cons_succ])
  refine callH (i := 9) { dst := some 14, op := Go.Op.call { callee := Go.Callee.value (Go.Operand.func 22), args := #[Go.Operand.tmp 13], argTypes := #[24] }, type := 40, pos := "law.go:40", after := #[{ on := 8, ground := Go.Ground.data }, { on := 7, ground := Go.Ground.chain }, { on := 5, ground := Go.Ground.guard }], guard := some (5, true) } (by kernel_rfl) rfl rfl (fun K hK => ?_)
  go_simp
  refine (RN _).mono ?_
  rintro e v4 ⟨x4, rfl, o4, k4⟩
  obtain ⟨a4, c4, rfl, s4, _, _, _⟩ := o4.form
  have m4 := m3.up k4
  have s3' := s3.below k4 (Nat.le_refl _)
  clear k4 o4 s3
  clear hH
  refine hK.out _ _ m4 (fun hH => ?_)
  clear hK K
  (try simp only [Act.put, List.setIfInBounds_toArray, List.set_cons_zero, List.set_cons_succ])
  refine callH (i := 10) { dst := some 15, op := Go.Op.call { callee := Go.Callee.value (Go.Operand.func 20), args := #[Go.Operand.tmp 12, Go.Operand.tmp 14], argTypes := #[40, 40] }, type := 4, pos := "law.go:40", after := #[{ on := 7, ground := Go.Ground.data }, { on := 9, ground := Go.Ground.data }, { on := 9, ground := Go.Ground.chain }, { on := 5, ground := Go.Ground.guard }], guard := some (5, true) } (by kernel_rfl) rfl rfl (fun K hK => ?_)
  go_simp
  refine (ints_any a3 a4 N N c3 c4 _ s3' s4 (by omega) (by omega)).mono ?_
  rintro e v5 ⟨rfl, k5⟩
  rw [hNN]
  have m5 := m4.up k5
  clear k5 s3' s4
  clear hH
  refine hK.out _ _ m5 (fun hH => ?_)
  clear hK K
  (try simp only [Act.put, List.setIfInBounds_toArray, List.set_cons_zero, List.set_cons_succ])
  refine takeH (i := 11) (dst := some 16) (v := ?v7) rfl rfl (by kernel_rfl) (by kernel_rfl) (by kernel_rfl) (fun _ _ _ h => h) rfl ?hy7 hH rfl ?rest7
  case hy7 => (intro W hW; have q0 := hW.lies.1; have q1 := hW.lies.2.1; have q2 := hW.lies.2.2.1; clear hW; go_simp; try with_reducible rfl)
  (try simp only [Act.put, List.setIfInBounds_toArray, List.set_cons_zero, List.set_cons_succ])
  refine takeH (i := 12) (dst := some 17) (v := ?v8) rfl rfl (by kernel_rfl) (by kernel_rfl) (by kernel_rfl) (fun _ _ _ h => h) rfl ?hy8 hH rfl ?rest8
  case hy8 => (intro W hW; have q0 := hW.lies.1; have q1 := hW.lies.2.1; have q2 := hW.lies.2.2.1; clear hW; go_simp; try with_reducible rfl)
  (try simp only [Act.put, List.setIfInBounds_toArray, List.set_cons_zero, List.set_cons_succ])
  refine takeH (i := 13) (dst := some 18) (v := ?v9) rfl rfl (by kernel_rfl) (by kernel_rfl) (by kernel_rfl) (fun _ _ _ h => h) rfl ?hy9 hH rfl ?rest9
  case hy9 => (intro W hW; have q0 := hW.lies.1; have q1 := hW.lies.2.1; have q2 := hW.lies.2.2.1; clear hW; go_simp; try with_reducible rfl)
  (try simp only [Act.put, List.setIfInBounds_toArray, List.set_cons_zero, List.set_cons_succ])
  refine takeH (i := 14) (dst := some 19) (v := ?v10) rfl rfl (by kernel_rfl) (by kernel_rfl) (by kernel_rfl) (fun _ _ _ h => h) rfl ?hy10 hH rfl ?rest10
  case hy10 => (intro W hW; refine exec_load_ino (x := Operand.tmp 3) hW.ino ?_ ?_ <;> rfl)
  (try simp only [Act.put, List.setIfInBounds_toArray, List.set_cons_zero, List.set_cons_succ])
  refine takeH (i := 16) (dst := some 21) (v := ?v11) rfl rfl (by kernel_rfl) (by kernel_rfl) (by kernel_rfl) (fun _ _ _ h => h) rfl ?hy11 hH rfl ?rest11
  case hy11 => (intro W hW; have q0 := hW.lies.1; have q1 := hW.lies.2.1; have q2 := hW.lies.2.2.1; clear hW; go_simp; try with_reducible rfl)
  (try simp only [Act.put, List.setIfInBounds_toArray, List.set_cons_zero, List.set_cons_succ])
  refine takeH (i := 17) (dst := some 22) (v := ?v12) rfl rfl (by kernel_rfl) (by kernel_rfl) (by kernel_rfl) (fun _ _ _ h => h) rfl ?hy12 hH rfl ?rest12
  case hy12 => (intro W hW; refine exec_load_ino (x := Operand.tmp 3) hW.ino ?_ ?_ <;> rfl)
  (try simp only [Act.put, List.setIfInBounds_toArray, List.set_cons_zero, List.set_cons_succ])
  refine callH (i := 15) { dst := some 20, op := Go.Op.call { callee := Go.Callee.value (Go.Operand.func 23), args := #[Go.Operand.tmp 18, Go.Operand.tmp 19], argTypes := #[37, 24] }, type := 4, pos := "law.go:40", after := #[{ on := 13, ground := Go.Ground.data }, { on := 14, ground := Go.Ground.data }, { on := 12, ground := Go.Ground.chain }, { on := 12, ground := Go.Ground.guard }], guard := some (12, true) } (by kernel_rfl) rfl rfl (fun K hK => ?_)
  go_simp
  refine (WI1 _).mono ?_
  rintro e v6 ⟨rfl, k6⟩
  have m6 := m5.up k6
  clear k6
  clear hH
  refine hK.out _ _ m6 (fun hH => ?_)
  clear hK K
  (try simp only [Act.put, List.setIfInBounds_toArray, List.set_cons_zero, List.set_cons_succ])
  refine callH (i := 18) { dst := some 23, op := Go.Op.call { callee := Go.Callee.value (Go.Operand.func 24), args := #[Go.Operand.tmp 21, Go.Operand.tmp 22], argTypes := #[37, 24] }, type := 4, pos := "law.go:40", after := #[{ on := 16, ground := Go.Ground.data }, { on := 17, ground := Go.Ground.data }, { on := 15, ground := Go.Ground.chain }, { on := 12, ground := Go.Ground.guard }], guard := some (12, true) } (by kernel_rfl) rfl rfl (fun K hK => ?_)
  go_simp
  refine (WI2 _).mono ?_
  rintro e v7 ⟨rfl, k7⟩
  have m7 := m6.up k7
  clear k7
  clear hH
  refine hK.out _ _ m7 (fun hH => ?_)
  clear hK K
  (try simp only [Act.put, List.setIfInBounds_toArray, List.set_cons_zero, List.set_cons_succ])
  refine takeH (i := 19) (dst := some 24) (v := ?v13) rfl rfl (by kernel_rfl) (by kernel_rfl) (by kernel_rfl) (fun _ _ _ h => h) rfl ?hy13 hH rfl ?rest13
  case hy13 => (intro W hW; have q0 := hW.lies.1; have q1 := hW.lies.2.1; have q2 := hW.lies.2.2.1; clear hW; go_simp; try with_reducible rfl)
  (try simp only [Act.put, List.setIfInBounds_toArray, List.set_cons_zero, List.set_cons_succ])
  refine takeH (i := 20) (dst := some 25) (v := ?v14) rfl rfl (by kernel_rfl) (by kernel_rfl) (by kernel_rfl) (fun _ _ _ h => h) rfl ?hy14 hH rfl ?rest14
  case hy14 => (intro W hW; have q0 := hW.lies.1; have q1 := hW.lies.2.1; have q2 := hW.lies.2.2.1; clear hW; go_simp; try with_reducible rfl)
  (try simp only [Act.put, List.setIfInBounds_toArray, List.set_cons_zero, List.set_cons_succ])
  refine takeH (i := 21) (dst := some 26) (v := ?v15) rfl rfl (by kernel_rfl) (by kernel_rfl) (by kernel_rfl) (fun _ _ _ h => h) rfl ?hy15 hH rfl ?rest15
  case hy15 => (intro W hW; have q0 := hW.lies.1; have q1 := hW.lies.2.1; have q2 := hW.lies.2.2.1; clear hW; go_simp; try with_reducible rfl)
  (try simp only [Act.put, List.setIfInBounds_toArray, List.set_cons_zero, List.set_cons_succ])
  refine callH (i := 22) { dst := some 27, op := Go.Op.call { callee := Go.Callee.value (Go.Operand.func 17), args := #[], argTypes := #[] }, type := 4, pos := "law.go:40", after := #[{ on := 21, ground := Go.Ground.chain }, { on := 21, ground := Go.Ground.guard }], guard := some (21, true) } (by kernel_rfl) rfl rfl (fun K hK => ?_)
  go_simp
  refine (KN _).mono ?_
  rintro e v8 ⟨rfl, k8⟩
  have m8 := m7.up k8
  clear k8
  clear hH
  refine hK.out _ _ m8 (fun hH => ?_)
  clear hK K
  (try simp only [Act.put, List.setIfInBounds_toArray, List.set_cons_zero, List.set_cons_succ])
  refine takeH (i := 23) (dst := some 28) (v := ?v16) rfl rfl (by kernel_rfl) (by kernel_rfl) (by kernel_rfl) (fun _ _ _ h => h) rfl ?hy16 hH rfl ?rest16
  case hy16 => (intro W hW; have q0 := hW.lies.1; have q1 := hW.lies.2.1; have q2 := hW.lies.2.2.1; clear hW; go_simp; try with_reducible rfl)
  (try simp only [Act.put, List.setIfInBounds_toArray, List.set_cons_zero, List.set_cons_succ])
  refine takeH (i := 24) (dst := some 4) (v := ?v17) rfl rfl (by kernel_rfl) (by kernel_rfl) (by kernel_rfl) (fun _ _ _ h => h) rfl ?hy17 hH rfl ?rest17
  case hy17 => (intro W hW; have q0 := hW.lies.1; have q1 := hW.lies.2.1; have q2 := hW.lies.2.2.1; clear hW; go_simp; try with_reducible rfl)
  (try simp only [Act.put, List.setIfInBounds_toArray, List.set_cons_zero, List.set_cons_succ])
  refine wpAnyH_done (by kernel_rfl) ?_ _
  clear hH
  have HB := m8.lies.2.2.2
  go_wp2
  go_ret
  exact ⟨rfl, HB⟩
end Go.Proofs.Ytabmogeicpphoaa
