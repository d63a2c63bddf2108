/- leveeref04.Next. -/
import Derived.Test.YtjdfkbpadhndlaaDoorRefChoose
namespace Go.Proofs.YtjdfkbpadhndlaaDoor
open Go.RowKit
structure NxR (w0 : World) (g a i n x y z : Int) (w : World) : Prop where
  two : Two w0 g a i n x y z w
  r : ∃ y0 y1 y2 y3, Row4 w (w0.heap.size + 1 + 1) 25 y0 y1 y2 y3
theorem NxR.up {w0 w w' : World} {g a i n x y z : Int} (h : NxR w0 g a i n x y z w) (hb : Below w.heap.size w w') : NxR w0 g a i n x y z w' := by
  obtain ⟨y0, y1, y2, y3, hr⟩ := h.r
  exact ⟨h.two.up hb, y0, y1, y2, y3, hr.up hb⟩
theorem nxr0 (g a i n x y z : Int) (w : World) : NxR w g a i n x y z (((w.alloc (.cells #[.int .i64 g, .int .i64 a, .int .i64 i, .int .i64 n] 25)).alloc (.cells #[.int .i64 x, .int .i64 y, .int .i64 z] 23)).alloc (.cells #[.int .i64 0, .int .i64 0, .int .i64 0, .int .i64 0] 25)) := by
  have z2 : ((w.alloc (.cells #[.int .i64 g, .int .i64 a, .int .i64 i, .int .i64 n] 25)).alloc (.cells #[.int .i64 x, .int .i64 y, .int .i64 z] 23)).heap.size = w.heap.size + 1 + 1 := by show ((w.heap.push _).push _).size = _; simp
  have h := heap_alloc_new ((w.alloc (.cells #[.int .i64 g, .int .i64 a, .int .i64 i, .int .i64 n] 25)).alloc (.cells #[.int .i64 x, .int .i64 y, .int .i64 z] 23)) (.cells #[.int .i64 0, .int .i64 0, .int .i64 0, .int .i64 0] 25)
  rw [z2] at h
  exact ⟨(two0 g a i n x y z w).up ((Below.refl _ _).alloc (Nat.le_refl _) _), 0, 0, 0, 0, h⟩
set_option maxHeartbeats 2000000 in
theorem rnext_no (g a i n x y z : Int) (w : World) (h1 : okS g a i n = false) :
    Calls Tryd.prog 19 #[.agg #[.int .i64 g, .int .i64 a, .int .i64 i, .int .i64 n], .agg #[.int .i64 x, .int .i64 y, .int .i64 z]] w fun e w' => e = .returned (.tuple #[.agg #[.int .i64 0, .int .i64 0, .int .i64 0, .int .i64 0], .int .i64 0, .int .i64 1]) ∧ Below w.heap.size w w' := by
  have RT := rsright_any g a i n
  rw [h1] at RT
  have N0 : Hid (NxR w g a i n x y z (((w.alloc (.cells #[.int .i64 g, .int .i64 a, .int .i64 i, .int .i64 n] 25)).alloc (.cells #[.int .i64 x, .int .i64 y, .int .i64 z] 23)).alloc (.cells #[.int .i64 0, .int .i64 0, .int .i64 0, .int .i64 0] 25))) := nxr0 g a i n x y z w
  go_enter Tryd.func19, Tryd.ntmps19
  go_wp2_with fail
  refine (RT _).mono ?_
  rintro e w2 ⟨rfl, hb2⟩
  have N2 : Hid (NxR w g a i n x y z w2) := N0.out.up hb2
  obtain ⟨y0, y1, y2, y3, hr⟩ := N2.out.r
  have r0 := hr.c0
  have r1 := hr.c1
  have r2 := hr.c2
  have r3 := hr.c3
  have f0 := hr.fr 0
  have f1 := hr.fr 1
  have f2 := hr.fr 2
  have f3 := hr.fr 3
  have HRR : Hid _ := hr.set 0 0 0 0
  have HBB : Hid _ := below_set4 N2.out.two.b (show w.heap.size ≤ w.heap.size + 1 + 1 by omega) (.int .i64 0) (.int .i64 0) (.int .i64 0) (.int .i64 0)
  clear hr
  go_wp2
  refine bodyPost_ret (results_rsup3 rfl _ _ (w.heap.size + 1 + 1) 0 0 0 0 rfl HRR.out) rfl ?_
  exact ⟨rfl, HBB.out⟩
set_option maxHeartbeats 2000000 in
theorem rnext_geo (g a i n x y z : Int) (w : World) (h1 : okS g a i n = true) (h2 : okB x y z = false) :
    Calls Tryd.prog 19 #[.agg #[.int .i64 g, .int .i64 a, .int .i64 i, .int .i64 n], .agg #[.int .i64 x, .int .i64 y, .int .i64 z]] w fun e w' => e = .returned (.tuple #[.agg #[.int .i64 0, .int .i64 0, .int .i64 0, .int .i64 0], .int .i64 0, .int .i64 1]) ∧ Below w.heap.size w w' := by
  have RT := rsright_any g a i n
  rw [h1] at RT
  have R2 := rsright_bool x y z
  rw [h2] at R2
  have N0 : Hid (NxR w g a i n x y z (((w.alloc (.cells #[.int .i64 g, .int .i64 a, .int .i64 i, .int .i64 n] 25)).alloc (.cells #[.int .i64 x, .int .i64 y, .int .i64 z] 23)).alloc (.cells #[.int .i64 0, .int .i64 0, .int .i64 0, .int .i64 0] 25))) := nxr0 g a i n x y z w
  go_enter Tryd.func19, Tryd.ntmps19
  go_wp2_with fail
  refine (RT _).mono ?_
  rintro e w1 ⟨rfl, hb1⟩
  have N1 : Hid (NxR w g a i n x y z w1) := N0.out.up hb1
  have q0 := N1.out.two.q0
  have q1 := N1.out.two.q1
  have q2 := N1.out.two.q2
  go_wp2_with fail
  refine (R2 _).mono ?_
  rintro e w2 ⟨rfl, hb2⟩
  have N2 : Hid (NxR w g a i n x y z w2) := N1.out.up hb2
  clear q0 q1 q2
  obtain ⟨y0, y1, y2, y3, hr⟩ := N2.out.r
  have r0 := hr.c0
  have r1 := hr.c1
  have r2 := hr.c2
  have r3 := hr.c3
  have f0 := hr.fr 0
  have f1 := hr.fr 1
  have f2 := hr.fr 2
  have f3 := hr.fr 3
  have HRR : Hid _ := hr.set 0 0 0 0
  have HBB : Hid _ := below_set4 N2.out.two.b (show w.heap.size ≤ w.heap.size + 1 + 1 by omega) (.int .i64 0) (.int .i64 0) (.int .i64 0) (.int .i64 0)
  clear hr
  go_wp2
  refine bodyPost_ret (results_rsup3 rfl _ _ (w.heap.size + 1 + 1) 0 0 0 0 rfl HRR.out) rfl ?_
  exact ⟨rfl, HBB.out⟩
set_option maxHeartbeats 2000000 in
theorem rnext_max (a i n x y z : Int) (w : World) (h1 : okS 4611686018427387904 a i n = true) (h2 : okB x y z = true) :
    Calls Tryd.prog 19 #[.agg #[.int .i64 4611686018427387904, .int .i64 a, .int .i64 i, .int .i64 n], .agg #[.int .i64 x, .int .i64 y, .int .i64 z]] w fun e w' => e = .returned (.tuple #[.agg #[.int .i64 0, .int .i64 0, .int .i64 0, .int .i64 0], .int .i64 0, .int .i64 1]) ∧ Below w.heap.size w w' := by
  have RT := rsright_any 4611686018427387904 a i n
  rw [h1] at RT
  have R2 := rsright_bool x y z
  rw [h2] at R2
  have N0 : Hid _ := nxr0 4611686018427387904 a i n x y z w
  go_enter Tryd.func19, Tryd.ntmps19
  go_wp2_with fail
  refine (RT _).mono ?_
  rintro e w1 ⟨rfl, hb1⟩
  have N1 : Hid (NxR w 4611686018427387904 a i n x y z w1) := N0.out.up hb1
  have q0 := N1.out.two.q0
  have q1 := N1.out.two.q1
  have q2 := N1.out.two.q2
  go_wp2_with fail
  refine (R2 _).mono ?_
  rintro e w2 ⟨rfl, hb2⟩
  have N2 : Hid (NxR w 4611686018427387904 a i n x y z w2) := N1.out.up hb2
  clear q0 q1 q2
  have s0 := N2.out.two.s.c0
  have s1 := N2.out.two.s.c1
  have s2 := N2.out.two.s.c2
  have s3 := N2.out.two.s.c3
  obtain ⟨y0, y1, y2, y3, hr⟩ := N2.out.r
  have r0 := hr.c0
  have r1 := hr.c1
  have r2 := hr.c2
  have r3 := hr.c3
  have f0 := hr.fr 0
  have f1 := hr.fr 1
  have f2 := hr.fr 2
  have f3 := hr.fr 3
  have HRR : Hid _ := hr.set 0 0 0 0
  have HBB : Hid _ := below_set4 N2.out.two.b (show w.heap.size ≤ w.heap.size + 1 + 1 by omega) (.int .i64 0) (.int .i64 0) (.int .i64 0) (.int .i64 0)
  clear hr
  go_wp2
  refine bodyPost_ret (results_rsup3 rfl _ _ (w.heap.size + 1 + 1) 0 0 0 0 rfl HRR.out) rfl ?_
  exact ⟨rfl, HBB.out⟩
attribute [local go_sem] wrapI
set_option maxRecDepth 100000 in
set_option maxHeartbeats 4000000 in
theorem rnext_ok (g a i n x y z : Int) (w : World) (h1 : okS g a i n = true) (h2 : okS (g + 1) x y z = true) :
    Calls Tryd.prog 19 #[.agg #[.int .i64 g, .int .i64 a, .int .i64 i, .int .i64 n], .agg #[.int .i64 x, .int .i64 y, .int .i64 z]] w fun e w' => e = .returned (.tuple #[.agg #[.int .i64 (g + 1), .int .i64 x, .int .i64 y, .int .i64 z], .int .i64 ((g + 1) % 2), .int .i64 0]) ∧ Below w.heap.size w w' := by
  have RT := rsright_any g a i n
  rw [h1] at RT
  obtain ⟨u1, u2, _⟩ := okS_iff.1 h1
  obtain ⟨u3, u4, u5⟩ := okS_iff.1 h2
  have R2 := rsright_bool x y z
  rw [show okB x y z = true from u5] at R2
  have hne : (g == 4611686018427387904) = false := beq_eq_false_iff_ne.2 (by omega)
  have i64 : In64 (g + 1) := ⟨by omega⟩
  have htm : Int.tmod (g + 1) 2 = (g + 1) % 2 := Int.tmod_eq_emod_of_nonneg (by omega)
  have i2 : In64 ((g + 1) % 2) := ⟨by omega⟩
  have N0 : Hid (NxR w g a i n x y z (((w.alloc (.cells #[.int .i64 g, .int .i64 a, .int .i64 i, .int .i64 n] 25)).alloc (.cells #[.int .i64 x, .int .i64 y, .int .i64 z] 23)).alloc (.cells #[.int .i64 0, .int .i64 0, .int .i64 0, .int .i64 0] 25))) := nxr0 g a i n x y z w
  go_enter Tryd.func19, Tryd.ntmps19
  go_wp2_with fail
  refine (RT _).mono ?_
  rintro e w1 ⟨rfl, hb1⟩
  have N1 : Hid (NxR w g a i n x y z w1) := N0.out.up hb1
  have q0 := N1.out.two.q0
  have q1 := N1.out.two.q1
  have q2 := N1.out.two.q2
  go_wp2_with fail
  refine (R2 _).mono ?_
  rintro e w2 ⟨rfl, hb2⟩
  have N2 : Hid (NxR w g a i n x y z w2) := N1.out.up hb2
  clear q0 q1 q2
  have s0 := N2.out.two.s.c0
  have s1 := N2.out.two.s.c1
  have s2 := N2.out.two.s.c2
  have s3 := N2.out.two.s.c3
  have hd : NxR w g a i n x y z w2.drew := N2.out.up (Below.refl _ _).drew
  go_wp2_with fail
  clear s0 s1 s2 s3
  refine wp_region_held_drew (S := (fun w' => NxR w g a i n x y z w')) (by kernel_rfl) hd (fun hH => ?_)
  clear hd
  generalize w2.drew = wd at hH ⊢
  refine takeH (i := 0) (dst := some 21) (v := ?v1) rfl rfl (by kernel_rfl) (by kernel_rfl) (by kernel_rfl) (fun _ _ _ h => h) rfl ?hy1 hH rfl ?rest1
  case hy1 => (intro W hW; have q0 := hW.two.s.c0; have q1 := hW.two.s.c1; have q2 := hW.two.s.c2; have q3 := hW.two.s.c3; have y0 := hW.two.q0; have y1 := hW.two.q1; have y2 := hW.two.q2; clear hW; go_simp; try with_reducible rfl)
  (try simp only [Act.put, List.setIfInBounds_toArray, List.set_cons_zero, List.set_cons_succ])
  refine takeH (i := 1) (dst := some 22) (v := ?v2) rfl rfl (by kernel_rfl) (by kernel_rfl) (by kernel_rfl) (fun _ _ _ h => h) rfl ?hy2 hH rfl ?rest2
  case hy2 => (intro W hW; have q0 := hW.two.s.c0; have q1 := hW.two.s.c1; have q2 := hW.two.s.c2; have q3 := hW.two.s.c3; have y0 := hW.two.q0; have y1 := hW.two.q1; have y2 := hW.two.q2; clear hW; go_simp; try with_reducible rfl)
  (try simp only [Act.put, List.setIfInBounds_toArray, List.set_cons_zero, List.set_cons_succ])
  refine takeH (i := 2) (dst := some 23) (v := ?v3) rfl rfl (by kernel_rfl) (by kernel_rfl) (by kernel_rfl) (fun _ _ _ h => h) rfl ?hy3 hH rfl ?rest3
  case hy3 => (intro W hW; have q0 := hW.two.s.c0; have q1 := hW.two.s.c1; have q2 := hW.two.s.c2; have q3 := hW.two.s.c3; have y0 := hW.two.q0; have y1 := hW.two.q1; have y2 := hW.two.q2; clear hW; go_simp; try with_reducible rfl)
  (try simp only [Act.put, List.setIfInBounds_toArray, List.set_cons_zero, List.set_cons_succ])
  refine takeH (i := 3) (dst := some 24) (v := ?v4) rfl rfl (by kernel_rfl) (by kernel_rfl) (by kernel_rfl) (fun _ _ _ h => h) rfl ?hy4 hH rfl ?rest4
  case hy4 => (intro W hW; have q0 := hW.two.s.c0; have q1 := hW.two.s.c1; have q2 := hW.two.s.c2; have q3 := hW.two.s.c3; have y0 := hW.two.q0; have y1 := hW.two.q1; have y2 := hW.two.q2; clear hW; go_simp; try with_reducible rfl)
  (try simp only [Act.put, List.setIfInBounds_toArray, List.set_cons_zero, List.set_cons_succ])
  refine takeH (i := 4) (dst := some 25) (v := ?v5) rfl rfl (by kernel_rfl) (by kernel_rfl) (by kernel_rfl) (fun _ _ _ h => h) rfl ?hy5 hH rfl ?rest5
  case hy5 => (intro W hW; have q0 := hW.two.s.c0; have q1 := hW.two.s.c1; have q2 := hW.two.s.c2; have q3 := hW.two.s.c3; have y0 := hW.two.q0; have y1 := hW.two.q1; have y2 := hW.two.q2; clear hW; go_simp; try with_reducible rfl)
  (try simp only [Act.put, List.setIfInBounds_toArray, List.set_cons_zero, List.set_cons_succ])
  refine takeH (i := 5) (dst := some 26) (v := ?v6) rfl rfl (by kernel_rfl) (by kernel_rfl) (by kernel_rfl) (fun _ _ _ h => h) rfl ?hy6 hH rfl ?rest6
  case hy6 => (intro W hW; have q0 := hW.two.s.c0; have q1 := hW.two.s.c1; have q2 := hW.two.s.c2; have q3 := hW.two.s.c3; have y0 := hW.two.q0; have y1 := hW.two.q1; have y2 := hW.two.q2; clear hW; go_simp; try with_reducible rfl)
  (try simp only [Act.put, List.setIfInBounds_toArray, List.set_cons_zero, List.set_cons_succ])
  refine takeH (i := 6) (dst := some 27) (v := ?v7) rfl rfl (by kernel_rfl) (by kernel_rfl) (by kernel_rfl) (fun _ _ _ h => h) rfl ?hy7 hH rfl ?rest7
  case hy7 => (intro W hW; have q0 := hW.two.s.c0; have q1 := hW.two.s.c1; have q2 := hW.two.s.c2; have q3 := hW.two.s.c3; have y0 := hW.two.q0; have y1 := hW.two.q1; have y2 := hW.two.q2; clear hW; go_simp; try with_reducible rfl)
  (try simp only [Act.put, List.setIfInBounds_toArray, List.set_cons_zero, List.set_cons_succ])
  refine takeH (i := 7) (dst := some 28) (v := ?v8) rfl rfl (by kernel_rfl) (by kernel_rfl) (by kernel_rfl) (fun _ _ _ h => h) rfl ?hy8 hH rfl ?rest8
  case hy8 => (intro W hW; have q0 := hW.two.s.c0; have q1 := hW.two.s.c1; have q2 := hW.two.s.c2; have q3 := hW.two.s.c3; have y0 := hW.two.q0; have y1 := hW.two.q1; have y2 := hW.two.q2; clear hW; go_simp; try with_reducible rfl)
  (try simp only [Act.put, List.setIfInBounds_toArray, List.set_cons_zero, List.set_cons_succ])
  refine takeH (i := 8) (dst := some 29) (v := ?v9) rfl rfl (by kernel_rfl) (by kernel_rfl) (by kernel_rfl) (fun _ _ _ h => h) rfl ?hy9 hH rfl ?rest9
  case hy9 => (intro W hW; have q0 := hW.two.s.c0; have q1 := hW.two.s.c1; have q2 := hW.two.s.c2; have q3 := hW.two.s.c3; have y0 := hW.two.q0; have y1 := hW.two.q1; have y2 := hW.two.q2; clear hW; go_simp; try with_reducible rfl)
  (try simp only [Act.put, List.setIfInBounds_toArray, List.set_cons_zero, List.set_cons_succ])
  obtain ⟨dt, y0, y1, y2, y3, dr⟩ := hH
  have r0 := dr.c0
  have r1 := dr.c1
  have r2 := dr.c2
  have r3 := dr.c3
  have f0 := dr.fr 0
  have f1 := dr.fr 1
  have f2 := dr.fr 2
  have f3 := dr.fr 3
  have dR := dr.set (g + 1) x y z
  have dT := dt.set4 (show w.heap.size + 1 < w.heap.size + 1 + 1 by omega) (.int .i64 (g + 1)) (.int .i64 x) (.int .i64 y) (.int .i64 z)
  have dS : NxR w g a i n x y z _ := ⟨dT, _, _, _, _, dR⟩
  have hH := dS
  clear dr dt
  refine callH (i := 9) { dst := none, op := Go.Op.store 25 (Go.Operand.tmp 4) (Go.Operand.tmp 25), type := 0, pos := "ref.go:80", after := #[{ on := 4, ground := Go.Ground.data }, { on := 0, ground := Go.Ground.phase }, { on := 1, ground := Go.Ground.phase }, { on := 2, ground := Go.Ground.phase }, { on := 3, ground := Go.Ground.phase }, { on := 4, ground := Go.Ground.phase }, { on := 5, ground := Go.Ground.textOnly Go.Departure.lateStores }, { on := 6, ground := Go.Ground.textOnly Go.Departure.lateStores }, { on := 7, ground := Go.Ground.textOnly Go.Departure.lateStores }, { on := 8, ground := Go.Ground.textOnly Go.Departure.lateStores }], guard := none } (by kernel_rfl) rfl rfl (fun K hK => ?_)
  go_simp
  clear hH
  refine hK.out _ _ dS (fun hH => ?_)
  clear hK K
  (try simp only [Act.put, List.setIfInBounds_toArray, List.set_cons_zero, List.set_cons_succ])
  refine takeH (i := 10) (dst := some 5) (v := ?v10) rfl rfl (by kernel_rfl) (by kernel_rfl) (by kernel_rfl) (fun _ _ _ h => h) rfl ?hy10 hH rfl ?rest10
  case hy10 => (intro W hW; have q0 := hW.two.s.c0; have q1 := hW.two.s.c1; have q2 := hW.two.s.c2; have q3 := hW.two.s.c3; have y0 := hW.two.q0; have y1 := hW.two.q1; have y2 := hW.two.q2; clear hW; go_simp; try with_reducible rfl)
  (try simp only [Act.put, List.setIfInBounds_toArray, List.set_cons_zero, List.set_cons_succ])
  refine takeH (i := 11) (dst := some 6) (v := ?v11) rfl rfl (by kernel_rfl) (by kernel_rfl) (by kernel_rfl) (fun _ _ _ h => h) rfl ?hy11 hH rfl ?rest11
  case hy11 => (intro W hW; have q0 := hW.two.s.c0; have q1 := hW.two.s.c1; have q2 := hW.two.s.c2; have q3 := hW.two.s.c3; have y0 := hW.two.q0; have y1 := hW.two.q1; have y2 := hW.two.q2; clear hW; go_simp; try with_reducible rfl)
  (try simp only [Act.put, List.setIfInBounds_toArray, List.set_cons_zero, List.set_cons_succ])
  refine wpAnyH_done (by kernel_rfl) ?_ _
  clear hH
  go_wp2
  refine bodyPost_ret (results_rsup3 rfl _ _ (w.heap.size + 1 + 1) (g + 1) x y z rfl dR) rfl ?_
  exact ⟨rfl, dT.b⟩
theorem rnext_nog (g a i n x y z : Int) (w : World) (h1 : okS g a i n = true) (h2 : okS (g + 1) x y z = false) :
    Calls Tryd.prog 19 #[.agg #[.int .i64 g, .int .i64 a, .int .i64 i, .int .i64 n], .agg #[.int .i64 x, .int .i64 y, .int .i64 z]] w fun e w' => e = .returned (.tuple #[.agg #[.int .i64 0, .int .i64 0, .int .i64 0, .int .i64 0], .int .i64 0, .int .i64 1]) ∧ Below w.heap.size w w' := by
  obtain ⟨u1, u2, _⟩ := okS_iff.1 h1
  cases h3 : okB x y z
  · exact rnext_geo g a i n x y z w h1 h3
  · obtain rfl : g = 4611686018427387904 := by
      rcases Int.lt_or_le g 4611686018427387904 with h | h
      · have : okS (g + 1) x y z = true := okS_iff.2 ⟨by omega, by omega, h3⟩
        rw [this] at h2; cases h2
      · omega
    exact rnext_max a i n x y z w h1 h3
end Go.Proofs.YtjdfkbpadhndlaaDoor
