/- The walk of leveelaw09.PtrWays. -/
import Derived.Test.YtohidgfeainlfaaGiv
namespace Go.Proofs.Ytohidgfeainlfaa
open Go.RowKit
attribute [local go_sem] wrapI decF decT
/-- What lies there ahead of the comparison: two ways. -/
structure WW (w0 : World) (p q : Nat) (x1 x2 x3 x4 : Int) (W : World) : Prop where
  x : LiesW w0 p x1 x2 x3 x4 W
  y : LiesW w0 q x1 x2 x3 x4 W
theorem WW.up {w0 W W' : World} {p q : Nat} {x1 x2 x3 x4 : Int} (h : WW w0 p q x1 x2 x3 x4 W) (hb : Below W.heap.size W W') : WW w0 p q x1 x2 x3 x4 W' := ⟨h.x.up hb, h.y.up hb⟩
theorem LiesW.drew {w0 w : World} {p : Nat} {d a b c : Int} (h : LiesW w0 p d a b c w) : LiesW w0 p d a b c w.drew := ⟨h.c0, h.c1, h.c2, h.c3, h.b.drew⟩
theorem WW.drew {w0 W : World} {p q : Nat} {x1 x2 x3 x4 : Int} (h : WW w0 p q x1 x2 x3 x4 W) : WW w0 p q x1 x2 x3 x4 W.drew := ⟨h.x.drew, h.y.drew⟩
set_option maxRecDepth 100000 in
set_option maxHeartbeats 4000000 in
theorem ptrWays_any (n d a b c o k : Int) (w : World) : Calls Try.prog 3 #[.int .i64 n, .agg (wayA d a b c), .int .i64 o, .int .i64 k] w fun e w' => e = .returned (.bool true) ∧ Below w.heap.size w w' := by
  have KN := pknown_any
  have O1 := of_any n
  have O2 := rof_any n
  have GV := given_any d a b c
  have B1 := back_any d a b c
  have B2 := rback_any d a b c
  have S1 := span_any o k
  have S2 := rspan_any o k
  have N1 := need_any o k
  have N2 := rneed_any o k
  generalize ofD n = x1 at *
  generalize ofA n = x2 at *
  generalize ofB n = x3 at *
  generalize ofC n = x4 at *
  generalize ofE n = x5 at *
  have TK := taken_any x1 x2 x3 x4
  generalize bkV d a b c = y1 at *
  generalize bkE d a b c = y2 at *
  generalize sp1 o k = z1 at *
  generalize sp2 o k = z2 at *
  generalize ndV o k = z3 at *
  have HW0 : Hid (LiesW w w.heap.size d a b c (w.alloc (.cells (wayA d a b c) 23))) := liesW_new w d a b c _
  go_enter Try.func3, Try.ntmps3
  go_wp2_with fail
  refine (O1 _).mono ?_
  clear O1
  rintro e w1 ⟨rfl, hb1⟩
  have HW1 : Hid (LiesW w w.heap.size d a b c w1) := HW0.out.up hb1
  have HX1 : Hid (LiesW w w1.heap.size x1 x2 x3 x4 (w1.alloc (.cells (wayA x1 x2 x3 x4) 24))) := by
    have h := liesW_new w1 x1 x2 x3 x4 24
    exact ⟨h.c0, h.c1, h.c2, h.c3, (HW1.out.alloc _).b⟩
  have HW2 : Hid (LiesW w w.heap.size d a b c (w1.alloc (.cells (wayA x1 x2 x3 x4) 24))) := HW1.out.alloc _
  clear HW0 HW1 hb1
  go_wp2_with fail
  refine (O2 _).mono ?_
  clear O2
  rintro e w2 ⟨rfl, hb2⟩
  have HX2 : Hid (LiesW w w1.heap.size x1 x2 x3 x4 (w2.alloc (.cells (wayA x1 x2 x3 x4) 23))) := (HX1.out.up hb2).alloc _
  have HW3 : Hid (LiesW w w.heap.size d a b c (w2.alloc (.cells (wayA x1 x2 x3 x4) 23))) := (HW2.out.up hb2).alloc _
  have HY2 : Hid (LiesW w w2.heap.size x1 x2 x3 x4 (w2.alloc (.cells (wayA x1 x2 x3 x4) 23))) := by
    have h := liesW_new w2 x1 x2 x3 x4 23
    exact ⟨h.c0, h.c1, h.c2, h.c3, HX2.out.b⟩
  have hl1 : w1.heap.size < w2.heap.size := (HX1.out.up hb2).lt
  have hl2 : w.heap.size < w2.heap.size := (HW2.out.up hb2).lt
  clear HX1 HW2 hb2
  have c0 := HW3.out.c0
  have c1 := HW3.out.c1
  have c2 := HW3.out.c2
  have c3 := HW3.out.c3
  go_wp2_with fail
  refine (GV _).mono ?_
  clear GV c0 c1 c2 c3
  rintro e w3 ⟨rfl, hb3⟩
  go_wp2_with fail
  refine (B1 _).mono ?_
  clear B1
  rintro e w4 ⟨rfl, hb4⟩
  have HX4 : Hid (LiesW w w1.heap.size x1 x2 x3 x4 w4) := (HX2.out.up hb3).up hb4
  have HY4 : Hid (LiesW w w2.heap.size x1 x2 x3 x4 w4) := (HY2.out.up hb3).up hb4
  have HW4 : Hid (LiesW w w.heap.size d a b c w4) := (HW3.out.up hb3).up hb4
  clear HX2 HY2 HW3 hb3 hb4
  have c0 := HW4.out.c0
  have c1 := HW4.out.c1
  have c2 := HW4.out.c2
  have c3 := HW4.out.c3
  go_wp2_with fail
  refine (B2 _).mono ?_
  clear B2 c0 c1 c2 c3
  rintro e w5 ⟨rfl, hb5⟩
  have HM : Hid (WW w w1.heap.size w2.heap.size x1 x2 x3 x4 w5) := ⟨HX4.out.up hb5, HY4.out.up hb5⟩
  clear HX4 HY4 HW4 hb5
  go_wp2_with (first | (go_at_call 11; refine (S1 _).mono ?_; rintro e w6 ⟨rfl, rfl⟩) | (go_at_call 12; refine (S2 _).mono ?_; rintro e w6 ⟨rfl, rfl⟩))
  refine wp_region_held_drew (S := (fun W => WW w w1.heap.size w2.heap.size x1 x2 x3 x4 W)) (by kernel_rfl) (HM.out.drew) (fun hH => ?_)
  refine takeH (i := 0) (dst := some 54) (v := ?v1) rfl rfl (by kernel_rfl) (by kernel_rfl) (by kernel_rfl) (fun _ _ _ h => h) rfl ?hy1 hH rfl ?rest1
  case hy1 => (intro W hW; obtain ⟨⟨a0, a1, a2, a3, _⟩, b0, b1, b2, b3, _⟩ := hW; go_simp; try with_reducible rfl)
  (try simp only [Act.put, List.setIfInBounds_toArray, List.set_cons_zero, List.set_cons_succ])
  refine takeH (i := 2) (dst := some 56) (v := ?v2) rfl rfl (by kernel_rfl) (by kernel_rfl) (by kernel_rfl) (fun _ _ _ h => h) rfl ?hy2 hH rfl ?rest2
  case hy2 => (intro W hW; obtain ⟨⟨a0, a1, a2, a3, _⟩, b0, b1, b2, b3, _⟩ := hW; go_simp; try with_reducible rfl)
  (try simp only [Act.put, List.setIfInBounds_toArray, List.set_cons_zero, List.set_cons_succ])
  refine callH (i := 1) { dst := some 55, op := Go.Op.call { callee := Go.Callee.value (Go.Operand.func 13), args := #[Go.Operand.tmp 54], argTypes := #[24] }, type := 23, pos := "law.go:33", after := #[{ on := 0, ground := Go.Ground.data }], guard := none } (by kernel_rfl) rfl rfl (fun K hK => ?_)
  go_simp
  refine (TK _).mono ?_
  rintro e v1 ⟨rfl, k1⟩
  have m1 := hH.up k1
  clear k1
  clear hH
  refine hK.out _ _ m1 (fun hH => ?_)
  clear hK K
  (try simp only [Act.put, List.setIfInBounds_toArray, List.set_cons_zero, List.set_cons_succ])
  refine takeH (i := 3) (dst := some 57) (v := ?v3) rfl rfl (by kernel_rfl) (by kernel_rfl) (by kernel_rfl) (fun _ _ _ h => h) rfl ?hy3 hH rfl ?rest3
  case hy3 => (intro W hW; obtain ⟨⟨a0, a1, a2, a3, _⟩, b0, b1, b2, b3, _⟩ := hW; go_simp; try with_reducible rfl)
  (try simp only [Act.put, List.setIfInBounds_toArray, List.set_cons_zero, List.set_cons_succ])
  refine takeH (i := 4) (dst := some 58) (v := ?v4) rfl rfl (by kernel_rfl) (by kernel_rfl) (by kernel_rfl) (fun _ _ _ h => h) rfl ?hy4 hH rfl ?rest4
  case hy4 => (intro W hW; obtain ⟨⟨a0, a1, a2, a3, _⟩, b0, b1, b2, b3, _⟩ := hW; go_simp; try with_reducible rfl)
  (try simp only [Act.put, List.setIfInBounds_toArray, List.set_cons_zero, List.set_cons_succ])
  refine takeH (i := 5) (dst := some 59) (v := ?v5) rfl rfl (by kernel_rfl) (by kernel_rfl) (by kernel_rfl) (fun _ _ _ h => h) rfl ?hy5 hH rfl ?rest5
  case hy5 => (intro W hW; obtain ⟨⟨a0, a1, a2, a3, _⟩, b0, b1, b2, b3, _⟩ := hW; go_simp; try with_reducible rfl)
  (try simp only [Act.put, List.setIfInBounds_toArray, List.set_cons_zero, List.set_cons_succ])
  refine takeH (i := 6) (dst := some 60) (v := ?v6) rfl rfl (by kernel_rfl) (by kernel_rfl) (by kernel_rfl) (fun _ _ _ h => h) rfl ?hy6 hH rfl ?rest6
  case hy6 => (intro W hW; obtain ⟨⟨a0, a1, a2, a3, _⟩, b0, b1, b2, b3, _⟩ := hW; go_simp; try with_reducible rfl)
  (try simp only [Act.put, List.setIfInBounds_toArray, List.set_cons_zero, List.set_cons_succ])
  refine takeH (i := 7) (dst := some 61) (v := ?v7) rfl rfl (by kernel_rfl) (by kernel_rfl) (by kernel_rfl) (fun _ _ _ h => h) rfl ?hy7 hH rfl ?rest7
  case hy7 => (intro W hW; obtain ⟨⟨a0, a1, a2, a3, _⟩, b0, b1, b2, b3, _⟩ := hW; go_simp; try with_reducible rfl)
  (try simp only [Act.put, List.setIfInBounds_toArray, List.set_cons_zero, List.set_cons_succ])
  refine takeH (i := 8) (dst := some 62) (v := ?v8) rfl rfl (by kernel_rfl) (by kernel_rfl) (by kernel_rfl) (fun _ _ _ h => h) rfl ?hy8 hH rfl ?rest8
  case hy8 => (intro W hW; obtain ⟨⟨a0, a1, a2, a3, _⟩, b0, b1, b2, b3, _⟩ := hW; go_simp; try with_reducible rfl)
  (try simp only [Act.put, List.setIfInBounds_toArray, List.set_cons_zero, List.set_cons_succ])
  refine takeH (i := 9) (dst := some 63) (v := ?v9) rfl rfl (by kernel_rfl) (by kernel_rfl) (by kernel_rfl) (fun _ _ _ h => h) rfl ?hy9 hH rfl ?rest9
  case hy9 => (intro W hW; obtain ⟨⟨a0, a1, a2, a3, _⟩, b0, b1, b2, b3, _⟩ := hW; go_simp; try with_reducible rfl)
  (try simp only [Act.put, List.setIfInBounds_toArray, List.set_cons_zero, List.set_cons_succ])
  refine takeH (i := 10) (dst := some 64) (v := ?v10) rfl rfl (by kernel_rfl) (by kernel_rfl) (by kernel_rfl) (fun _ _ _ h => h) rfl ?hy10 hH rfl ?rest10
  case hy10 => (intro W hW; obtain ⟨⟨a0, a1, a2, a3, _⟩, b0, b1, b2, b3, _⟩ := hW; go_simp; try with_reducible rfl)
  (try simp only [Act.put, List.setIfInBounds_toArray, List.set_cons_zero, List.set_cons_succ])
  refine takeH (i := 11) (dst := some 65) (v := ?v11) rfl rfl (by kernel_rfl) (by kernel_rfl) (by kernel_rfl) (fun _ _ _ h => h) rfl ?hy11 hH rfl ?rest11
  case hy11 => (intro W hW; obtain ⟨⟨a0, a1, a2, a3, _⟩, b0, b1, b2, b3, _⟩ := hW; go_simp; try with_reducible rfl)
  (try simp only [Act.put, List.setIfInBounds_toArray, List.set_cons_zero, List.set_cons_succ])
  refine takeH (i := 12) (dst := some 66) (v := ?v12) rfl rfl (by kernel_rfl) (by kernel_rfl) (by kernel_rfl) (fun _ _ _ h => h) rfl ?hy12 hH rfl ?rest12
  case hy12 => (intro W hW; obtain ⟨⟨a0, a1, a2, a3, _⟩, b0, b1, b2, b3, _⟩ := hW; go_simp; try with_reducible rfl)
  (try simp only [Act.put, List.setIfInBounds_toArray, List.set_cons_zero, List.set_cons_succ])
  refine takeH (i := 13) (dst := some 67) (v := ?v13) rfl rfl (by kernel_rfl) (by kernel_rfl) (by kernel_rfl) (fun _ _ _ h => h) rfl ?hy13 hH rfl ?rest13
  case hy13 => (intro W hW; obtain ⟨⟨a0, a1, a2, a3, _⟩, b0, b1, b2, b3, _⟩ := hW; go_simp; try with_reducible rfl)
  (try simp only [Act.put, List.setIfInBounds_toArray, List.set_cons_zero, List.set_cons_succ])
  refine takeH (i := 14) (dst := some 68) (v := ?v14) rfl rfl (by kernel_rfl) (by kernel_rfl) (by kernel_rfl) (fun _ _ _ h => h) rfl ?hy14 hH rfl ?rest14
  case hy14 => (intro W hW; obtain ⟨⟨a0, a1, a2, a3, _⟩, b0, b1, b2, b3, _⟩ := hW; go_simp; try with_reducible rfl)
  (try simp only [Act.put, List.setIfInBounds_toArray, List.set_cons_zero, List.set_cons_succ])
  refine takeH (i := 15) (dst := some 69) (v := ?v15) rfl rfl (by kernel_rfl) (by kernel_rfl) (by kernel_rfl) (fun _ _ _ h => h) rfl ?hy15 hH rfl ?rest15
  case hy15 => (intro W hW; obtain ⟨⟨a0, a1, a2, a3, _⟩, b0, b1, b2, b3, _⟩ := hW; go_simp; try with_reducible rfl)
  (try simp only [Act.put, List.setIfInBounds_toArray, List.set_cons_zero, List.set_cons_succ])
  refine takeH (i := 16) (dst := some 70) (v := ?v16) rfl rfl (by kernel_rfl) (by kernel_rfl) (by kernel_rfl) (fun _ _ _ h => h) rfl ?hy16 hH rfl ?rest16
  case hy16 => (intro W hW; obtain ⟨⟨a0, a1, a2, a3, _⟩, b0, b1, b2, b3, _⟩ := hW; go_simp; try with_reducible rfl)
  (try simp only [Act.put, List.setIfInBounds_toArray, List.set_cons_zero, List.set_cons_succ])
  refine takeH (i := 17) (dst := some 71) (v := ?v17) rfl rfl (by kernel_rfl) (by kernel_rfl) (by kernel_rfl) (fun _ _ _ h => h) rfl ?hy17 hH rfl ?rest17
  case hy17 => (intro W hW; obtain ⟨⟨a0, a1, a2, a3, _⟩, b0, b1, b2, b3, _⟩ := hW; go_simp; try with_reducible rfl)
  (try simp only [Act.put, List.setIfInBounds_toArray, List.set_cons_zero, List.set_cons_succ])
  refine takeH (i := 18) (dst := some 72) (v := ?v18) rfl rfl (by kernel_rfl) (by kernel_rfl) (by kernel_rfl) (fun _ _ _ h => h) rfl ?hy18 hH rfl ?rest18
  case hy18 => (intro W hW; obtain ⟨⟨a0, a1, a2, a3, _⟩, b0, b1, b2, b3, _⟩ := hW; go_simp; try with_reducible rfl)
  (try simp only [Act.put, List.setIfInBounds_toArray, List.set_cons_zero, List.set_cons_succ])
  refine takeH (i := 19) (dst := some 73) (v := ?v19) rfl rfl (by kernel_rfl) (by kernel_rfl) (by kernel_rfl) (fun _ _ _ h => h) rfl ?hy19 hH rfl ?rest19
  case hy19 => (intro W hW; obtain ⟨⟨a0, a1, a2, a3, _⟩, b0, b1, b2, b3, _⟩ := hW; go_simp; try with_reducible rfl)
  (try simp only [Act.put, List.setIfInBounds_toArray, List.set_cons_zero, List.set_cons_succ])
  refine takeH (i := 20) (dst := some 74) (v := ?v20) rfl rfl (by kernel_rfl) (by kernel_rfl) (by kernel_rfl) (fun _ _ _ h => h) rfl ?hy20 hH rfl ?rest20
  case hy20 => (intro W hW; obtain ⟨⟨a0, a1, a2, a3, _⟩, b0, b1, b2, b3, _⟩ := hW; go_simp; try with_reducible rfl)
  (try simp only [Act.put, List.setIfInBounds_toArray, List.set_cons_zero, List.set_cons_succ])
  refine takeH (i := 21) (dst := some 75) (v := ?v21) rfl rfl (by kernel_rfl) (by kernel_rfl) (by kernel_rfl) (fun _ _ _ h => h) rfl ?hy21 hH rfl ?rest21
  case hy21 => (intro W hW; obtain ⟨⟨a0, a1, a2, a3, _⟩, b0, b1, b2, b3, _⟩ := hW; go_simp; try with_reducible rfl)
  (try simp only [Act.put, List.setIfInBounds_toArray, List.set_cons_zero, List.set_cons_succ])
  refine takeH (i := 22) (dst := some 76) (v := ?v22) rfl rfl (by kernel_rfl) (by kernel_rfl) (by kernel_rfl) (fun _ _ _ h => h) rfl ?hy22 hH rfl ?rest22
  case hy22 => (intro W hW; obtain ⟨⟨a0, a1, a2, a3, _⟩, b0, b1, b2, b3, _⟩ := hW; go_simp; try with_reducible rfl)
  (try simp only [Act.put, List.setIfInBounds_toArray, List.set_cons_zero, List.set_cons_succ])
  refine takeH (i := 23) (dst := some 77) (v := ?v23) rfl rfl (by kernel_rfl) (by kernel_rfl) (by kernel_rfl) (fun _ _ _ h => h) rfl ?hy23 hH rfl ?rest23
  case hy23 => (intro W hW; obtain ⟨⟨a0, a1, a2, a3, _⟩, b0, b1, b2, b3, _⟩ := hW; go_simp; try with_reducible rfl)
  (try simp only [Act.put, List.setIfInBounds_toArray, List.set_cons_zero, List.set_cons_succ])
  refine takeH (i := 24) (dst := some 78) (v := ?v24) rfl rfl (by kernel_rfl) (by kernel_rfl) (by kernel_rfl) (fun _ _ _ h => h) rfl ?hy24 hH rfl ?rest24
  case hy24 => (intro W hW; obtain ⟨⟨a0, a1, a2, a3, _⟩, b0, b1, b2, b3, _⟩ := hW; go_simp; try with_reducible rfl)
  (try simp only [Act.put, List.setIfInBounds_toArray, List.set_cons_zero, List.set_cons_succ])
  refine takeH (i := 25) (dst := some 79) (v := ?v25) rfl rfl (by kernel_rfl) (by kernel_rfl) (by kernel_rfl) (fun _ _ _ h => h) rfl ?hy25 hH rfl ?rest25
  case hy25 => (intro W hW; obtain ⟨⟨a0, a1, a2, a3, _⟩, b0, b1, b2, b3, _⟩ := hW; go_simp; try with_reducible rfl)
  (try simp only [Act.put, List.setIfInBounds_toArray, List.set_cons_zero, List.set_cons_succ])
  refine takeH (i := 26) (dst := some 80) (v := ?v26) rfl rfl (by kernel_rfl) (by kernel_rfl) (by kernel_rfl) (fun _ _ _ h => h) rfl ?hy26 hH rfl ?rest26
  case hy26 => (intro W hW; obtain ⟨⟨a0, a1, a2, a3, _⟩, b0, b1, b2, b3, _⟩ := hW; go_simp; try with_reducible rfl)
  (try simp only [Act.put, List.setIfInBounds_toArray, List.set_cons_zero, List.set_cons_succ])
  refine takeH (i := 27) (dst := some 81) (v := ?v27) rfl rfl (by kernel_rfl) (by kernel_rfl) (by kernel_rfl) (fun _ _ _ h => h) rfl ?hy27 hH rfl ?rest27
  case hy27 => (intro W hW; obtain ⟨⟨a0, a1, a2, a3, _⟩, b0, b1, b2, b3, _⟩ := hW; go_simp; try with_reducible rfl)
  (try simp only [Act.put, List.setIfInBounds_toArray, List.set_cons_zero, List.set_cons_succ])
  refine takeH (i := 28) (dst := some 82) (v := ?v28) rfl rfl (by kernel_rfl) (by kernel_rfl) (by kernel_rfl) (fun _ _ _ h => h) rfl ?hy28 hH rfl ?rest28
  case hy28 => (intro W hW; obtain ⟨⟨a0, a1, a2, a3, _⟩, b0, b1, b2, b3, _⟩ := hW; go_simp; try with_reducible rfl)
  (try simp only [Act.put, List.setIfInBounds_toArray, List.set_cons_zero, List.set_cons_succ])
  refine takeH (i := 29) (dst := some 83) (v := ?v29) rfl rfl (by kernel_rfl) (by kernel_rfl) (by kernel_rfl) (fun _ _ _ h => h) rfl ?hy29 hH rfl ?rest29
  case hy29 => (intro W hW; obtain ⟨⟨a0, a1, a2, a3, _⟩, b0, b1, b2, b3, _⟩ := hW; go_simp; try with_reducible rfl)
  (try simp only [Act.put, List.setIfInBounds_toArray, List.set_cons_zero, List.set_cons_succ])
  refine takeH (i := 30) (dst := some 84) (v := ?v30) rfl rfl (by kernel_rfl) (by kernel_rfl) (by kernel_rfl) (fun _ _ _ h => h) rfl ?hy30 hH rfl ?rest30
  case hy30 => (intro W hW; obtain ⟨⟨a0, a1, a2, a3, _⟩, b0, b1, b2, b3, _⟩ := hW; go_simp; try with_reducible rfl)
  (try simp only [Act.put, List.setIfInBounds_toArray, List.set_cons_zero, List.set_cons_succ])
  refine takeH (i := 31) (dst := some 85) (v := ?v31) rfl rfl (by kernel_rfl) (by kernel_rfl) (by kernel_rfl) (fun _ _ _ h => h) rfl ?hy31 hH rfl ?rest31
  case hy31 => (intro W hW; obtain ⟨⟨a0, a1, a2, a3, _⟩, b0, b1, b2, b3, _⟩ := hW; go_simp; try with_reducible rfl)
  (try simp only [Act.put, List.setIfInBounds_toArray, List.set_cons_zero, List.set_cons_succ])
  refine takeH (i := 33) (dst := some 87) (v := ?v32) rfl rfl (by kernel_rfl) (by kernel_rfl) (by kernel_rfl) (fun _ _ _ h => h) rfl ?hy32 hH rfl ?rest32
  case hy32 => (intro W hW; obtain ⟨⟨a0, a1, a2, a3, _⟩, b0, b1, b2, b3, _⟩ := hW; go_simp; try with_reducible rfl)
  (try simp only [Act.put, List.setIfInBounds_toArray, List.set_cons_zero, List.set_cons_succ])
  refine takeH (i := 34) (dst := some 88) (v := ?v33) rfl rfl (by kernel_rfl) (by kernel_rfl) (by kernel_rfl) (fun _ _ _ h => h) rfl ?hy33 hH rfl ?rest33
  case hy33 => (intro W hW; obtain ⟨⟨a0, a1, a2, a3, _⟩, b0, b1, b2, b3, _⟩ := hW; go_simp; try with_reducible rfl)
  (try simp only [Act.put, List.setIfInBounds_toArray, List.set_cons_zero, List.set_cons_succ])
  refine callH (i := 32) { dst := some 86, op := Go.Op.call { callee := Go.Callee.value (Go.Operand.func 14), args := #[Go.Operand.tmp 84, Go.Operand.tmp 85], argTypes := #[2, 3] }, type := 3, pos := "law.go:33", after := #[{ on := 30, ground := Go.Ground.data }, { on := 31, ground := Go.Ground.data }, { on := 29, ground := Go.Ground.chain }, { on := 29, ground := Go.Ground.guard }], guard := some (29, true) } (by kernel_rfl) rfl rfl (fun K hK => ?_)
  go_simp
  refine (N1 _).mono ?_
  rintro e v32 ⟨rfl, k32⟩
  subst k32
  have m32 := m1
  clear hH
  refine hK.out _ _ m32 (fun hH => ?_)
  clear hK K
  (try simp only [Act.put, List.setIfInBounds_toArray, List.set_cons_zero, List.set_cons_succ])
  refine callH (i := 35) { dst := some 89, op := Go.Op.call { callee := Go.Callee.value (Go.Operand.func 15), args := #[Go.Operand.tmp 87, Go.Operand.tmp 88], argTypes := #[2, 3] }, type := 3, pos := "law.go:33", after := #[{ on := 33, ground := Go.Ground.data }, { on := 34, ground := Go.Ground.data }, { on := 32, ground := Go.Ground.chain }, { on := 29, ground := Go.Ground.guard }], guard := some (29, true) } (by kernel_rfl) rfl rfl (fun K hK => ?_)
  go_simp
  refine (N2 _).mono ?_
  rintro e v35 ⟨rfl, k35⟩
  subst k35
  have m35 := m1
  clear hH
  refine hK.out _ _ m35 (fun hH => ?_)
  clear hK K
  (try simp only [Act.put, List.setIfInBounds_toArray, List.set_cons_zero, List.set_cons_succ])
  refine takeH (i := 36) (dst := some 90) (v := ?v34) rfl rfl (by kernel_rfl) (by kernel_rfl) (by kernel_rfl) (fun _ _ _ h => h) rfl ?hy34 hH rfl ?rest34
  case hy34 => (intro W hW; obtain ⟨⟨a0, a1, a2, a3, _⟩, b0, b1, b2, b3, _⟩ := hW; go_simp; try with_reducible rfl)
  (try simp only [Act.put, List.setIfInBounds_toArray, List.set_cons_zero, List.set_cons_succ])
  refine takeH (i := 37) (dst := some 91) (v := ?v35) rfl rfl (by kernel_rfl) (by kernel_rfl) (by kernel_rfl) (fun _ _ _ h => h) rfl ?hy35 hH rfl ?rest35
  case hy35 => (intro W hW; obtain ⟨⟨a0, a1, a2, a3, _⟩, b0, b1, b2, b3, _⟩ := hW; go_simp; try with_reducible rfl)
  (try simp only [Act.put, List.setIfInBounds_toArray, List.set_cons_zero, List.set_cons_succ])
  refine takeH (i := 38) (dst := some 92) (v := ?v36) rfl rfl (by kernel_rfl) (by kernel_rfl) (by kernel_rfl) (fun _ _ _ h => h) rfl ?hy36 hH rfl ?rest36
  case hy36 => (intro W hW; obtain ⟨⟨a0, a1, a2, a3, _⟩, b0, b1, b2, b3, _⟩ := hW; go_simp; try with_reducible rfl)
  (try simp only [Act.put, List.setIfInBounds_toArray, List.set_cons_zero, List.set_cons_succ])
  refine callH (i := 39) { dst := some 93, op := Go.Op.call { callee := Go.Callee.value (Go.Operand.func 16), args := #[], argTypes := #[] }, type := 4, pos := "law.go:33", after := #[{ on := 38, ground := Go.Ground.chain }, { on := 38, ground := Go.Ground.guard }], guard := some (38, true) } (by kernel_rfl) rfl rfl (fun K hK => ?_)
  go_simp
  refine (KN _).mono ?_
  rintro e v39 ⟨rfl, k39⟩
  have m39 := hH.up k39
  clear k39
  clear hH
  refine hK.out _ _ m39 (fun hH => ?_)
  clear hK K
  (try simp only [Act.put, List.setIfInBounds_toArray, List.set_cons_zero, List.set_cons_succ])
  refine takeH (i := 40) (dst := some 94) (v := ?v37) rfl rfl (by kernel_rfl) (by kernel_rfl) (by kernel_rfl) (fun _ _ _ h => h) rfl ?hy37 hH rfl ?rest37
  case hy37 => (intro W hW; obtain ⟨⟨a0, a1, a2, a3, _⟩, b0, b1, b2, b3, _⟩ := hW; go_simp; try with_reducible rfl)
  (try simp only [Act.put, List.setIfInBounds_toArray, List.set_cons_zero, List.set_cons_succ])
  refine takeH (i := 41) (dst := some 8) (v := ?v38) rfl rfl (by kernel_rfl) (by kernel_rfl) (by kernel_rfl) (fun _ _ _ h => h) rfl ?hy38 hH rfl ?rest38
  case hy38 => (intro W hW; obtain ⟨⟨a0, a1, a2, a3, _⟩, b0, b1, b2, b3, _⟩ := hW; go_simp; try with_reducible rfl)
  (try simp only [Act.put, List.setIfInBounds_toArray, List.set_cons_zero, List.set_cons_succ])
  refine wpAnyH_done (by kernel_rfl) ?_ _
  clear hH
  go_wp2
  go_ret
  exact ⟨rfl, m39.x.b⟩
end Go.Proofs.Ytohidgfeainlfaa
