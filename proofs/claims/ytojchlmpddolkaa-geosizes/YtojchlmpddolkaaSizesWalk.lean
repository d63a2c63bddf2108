/- The walk of leveelaw03.GeoSizes. -/
import Derived.Test.YtojchlmpddolkaaRfit
namespace Go.Proofs.Ytojchlmpddolkaa
open Go.RowKit
theorem Lies.below {w0 w w' : World} {p : Nat} {a i n : Int} (hL : Lies w0 p a i n w) (h2 : Below w.heap.size w w') : Lies w0 p a i n w' :=
  ⟨(h2.cell (p := ⟨p, 0, none⟩) (block_lt_of_cell hL.1)).trans hL.1, (h2.cell (p := ⟨p, 1, none⟩) (block_lt_of_cell hL.2.1)).trans hL.2.1, (h2.cell (p := ⟨p, 2, none⟩) (block_lt_of_cell hL.2.2.1)).trans hL.2.2.1, hL.2.2.2.trans (h2.mono hL.2.2.2.size)⟩
/-- The shape that was given, and the two answers of Fit, in memory. -/
structure Szs (w0 : World) (px py : Nat) (a i n x' y' z' : Int) (w : World) : Prop where
  l : Lies w0 w0.heap.size a i n w
  x : Row3 w px x' y' z'
  y : Row3 w py x' y' z'
theorem Szs.below {w0 w w' : World} {px py : Nat} {a i n x' y' z' : Int} (h : Szs w0 px py a i n x' y' z' w) (hb : Below w.heap.size w w') : Szs w0 px py a i n x' y' z' w' :=
  ⟨Lies.below h.l hb, h.x.below hb h.x.lt, h.y.below hb h.y.lt⟩
attribute [local go_sem] wrapI decF decT
set_option maxHeartbeats 8000000 in
theorem sizes_walk (a i n k bl : Int) (w : World) :
    Calls Try.prog 3 #[.agg #[.int .i64 a, .int .i64 i, .int .i64 n], .int .i64 k, .int .i64 bl] w fun e w' => e = .returned (.bool true) ∧ Below w.heap.size w w' := by
  have hb : Below w.heap.size w (w.alloc (.cells #[.int .i64 a, .int .i64 i, .int .i64 n] 23)) := (Below.refl _ _).alloc (Nat.le_refl _) _
  have L0 : Lies w w.heap.size a i n (w.alloc (.cells #[.int .i64 a, .int .i64 i, .int .i64 n] 23)) := ⟨by go_simp, by go_simp, by go_simp, hb⟩
  have KN := known_any
  have HD := Head_any a i n k
  have RH := rHead_any a i n k
  have RG := range_any a i n k
  have RRG := rrange_any a i n k
  have FT := fit_any a i n bl
  have RF := rfit_any a i n bl
  have RT := right_any a i n
  have RR := rright_any a i n
  have SZ := size_any a i n
  have RZ := rsize_any a i n
  have SL := slots_any a i n
  have RL := rslots_any a i n
  have TB := tables_any a i n
  have RB := rtables_any a i n
  generalize fitX a (fitM a i bl 16) = X at FT RF
  generalize fitX i (fitM a i bl 16) = Y at FT RF
  generalize fitE (fitM a i bl 16) = E at FT RF
  generalize ((fitM a i bl 16 : Nat) : Int) = Z at FT RF
  generalize (if okG a i n then 2 + n * a else 0) = zs at SZ RZ
  generalize (if okG a i n then n * i else 0) = zl at SL RL
  generalize (if okG a i n then i / 4 else 0) = zt at TB RB
  go_enter Try.func3, Try.ntmps3
  go_wp2_with (first | (go_at_call 7; refine (keep3 w.heap.size a i n w ?_ (HD _)).mono ?_; (first | exact L0 | exact ⟨k0, k1, k2, kb⟩); (try clear k0 k1 k2 kb); rintro e w1 ⟨rfl, k0, k1, k2, kb⟩) | (go_at_call 8; refine (keep3 w.heap.size a i n w ?_ (RH _)).mono ?_; (first | exact L0 | exact ⟨k0, k1, k2, kb⟩); (try clear k0 k1 k2 kb); rintro e w1 ⟨rfl, k0, k1, k2, kb⟩) | (go_at_call 9; refine (keep3 w.heap.size a i n w ?_ (RG _)).mono ?_; (first | exact L0 | exact ⟨k0, k1, k2, kb⟩); (try clear k0 k1 k2 kb); rintro e w1 ⟨rfl, k0, k1, k2, kb⟩) | (go_at_call 10; refine (keep3 w.heap.size a i n w ?_ (RRG _)).mono ?_; (first | exact L0 | exact ⟨k0, k1, k2, kb⟩); (try clear k0 k1 k2 kb); rintro e w1 ⟨rfl, k0, k1, k2, kb⟩))
  refine (keep3 w.heap.size a i n w ⟨k0, k1, k2, kb⟩ (FT _)).mono ?_
  clear k0 k1 k2 kb
  rintro e w1 ⟨rfl, k0, k1, k2, kb⟩
  have hx : Row3 (w1.alloc (.cells #[.int .i64 X, .int .i64 Y, .int .i64 Z] 23)) w1.heap.size X Y Z := heap_alloc_new _ _
  have hx1 : Below w1.heap.size w1 (w1.alloc (.cells #[.int .i64 X, .int .i64 Y, .int .i64 Z] 23)) := (Below.refl _ _).alloc (Nat.le_refl _) _
  have L1 := Lies.below (p := w.heap.size) (a := a) (i := i) (n := n) ⟨k0, k1, k2, kb⟩ hx1
  clear k0 k1 k2 kb L0
  have HHX : Hid (Row3 (w1.alloc (.cells #[.int .i64 X, .int .i64 Y, .int .i64 Z] 23)) w1.heap.size X Y Z) := hx
  have HL1 : Hid (Lies w w.heap.size a i n (w1.alloc (.cells #[.int .i64 X, .int .i64 Y, .int .i64 Z] 23))) := L1
  obtain ⟨j0, j1, j2, _⟩ := L1
  clear hx
  go_wp2_with fail
  clear j0 j1 j2
  refine (RF _).mono ?_
  rintro e w2 ⟨rfl, hb2⟩
  have HX : Hid (Row3 w2 w1.heap.size X Y Z) := HHX.out.below hb2 HHX.out.lt
  have HL : Hid (Lies w w.heap.size a i n w2) := Lies.below HL1.out hb2
  have hal : Below w2.heap.size w2 (w2.alloc (.cells #[.int .i64 X, .int .i64 Y, .int .i64 Z] 23)) := (Below.refl _ _).alloc (Nat.le_refl _) _
  have HB : Hid (Szs w w1.heap.size w2.heap.size a i n X Y Z (w2.alloc (.cells #[.int .i64 X, .int .i64 Y, .int .i64 Z] 23)).drew) :=
    (⟨Lies.below HL.out hal, HX.out.below hal HX.out.lt, heap_alloc_new _ _⟩ : Szs w w1.heap.size w2.heap.size a i n X Y Z (w2.alloc (.cells #[.int .i64 X, .int .i64 Y, .int .i64 Z] 23))).below (Below.refl _ _).drew
  clear hx1 HHX HL1 hal HX HL hb2 hb FT RF HD RH RG RRG
  go_wp2_with fail
  have hbd := HB.out
  clear HB
  generalize w1.heap.size = px at *
  generalize w2.heap.size = py at *
  refine wp_region_held_drew (S := (fun w' => Szs w px py a i n X Y Z w')) (by kernel_rfl) hbd (fun hH => ?_)
  refine takeH (i := 0) (dst := some 55) (v := ?v1) rfl rfl (by kernel_rfl) (by kernel_rfl) (by kernel_rfl) (fun _ _ _ h => h) rfl ?hy1 hH rfl ?rest1
  case hy1 => (intro W hW; have q0 := hW.l.1; have q1 := hW.l.2.1; have q2 := hW.l.2.2.1; have x0 := hW.x.c0; have x1 := hW.x.c1; have x2 := hW.x.c2; have y0 := hW.y.c0; have y1 := hW.y.c1; have y2 := hW.y.c2; clear hW; go_simp; try with_reducible rfl)
  (try simp only [Act.put, List.setIfInBounds_toArray, List.set_cons_zero, List.set_cons_succ])
  refine takeH (i := 2) (dst := some 57) (v := ?v2) rfl rfl (by kernel_rfl) (by kernel_rfl) (by kernel_rfl) (fun _ _ _ h => h) rfl ?hy2 hH rfl ?rest2
  case hy2 => (intro W hW; have q0 := hW.l.1; have q1 := hW.l.2.1; have q2 := hW.l.2.2.1; have x0 := hW.x.c0; have x1 := hW.x.c1; have x2 := hW.x.c2; have y0 := hW.y.c0; have y1 := hW.y.c1; have y2 := hW.y.c2; clear hW; go_simp; try with_reducible rfl)
  (try simp only [Act.put, List.setIfInBounds_toArray, List.set_cons_zero, List.set_cons_succ])
  refine callH (i := 1) { dst := some 56, op := Go.Op.call { callee := Go.Callee.value (Go.Operand.func 13), args := #[Go.Operand.tmp 55], argTypes := #[23] }, type := 4, pos := "law.go:28", after := #[{ on := 0, ground := Go.Ground.data }], guard := none } (by kernel_rfl) rfl rfl (fun K hK => ?_)
  go_simp
  refine (RT _).mono ?_
  rintro e v1 ⟨rfl, b1⟩
  have m1 := hH.below b1
  clear hH
  refine hK.out _ _ m1 (fun hH => ?_)
  clear hK K
  (try simp only [Act.put, List.setIfInBounds_toArray, List.set_cons_zero, List.set_cons_succ])
  refine callH (i := 3) { dst := some 58, op := Go.Op.call { callee := Go.Callee.value (Go.Operand.func 14), args := #[Go.Operand.tmp 57], argTypes := #[23] }, type := 4, pos := "law.go:28", after := #[{ on := 2, ground := Go.Ground.data }, { on := 1, ground := Go.Ground.chain }], guard := none } (by kernel_rfl) rfl rfl (fun K hK => ?_)
  go_simp
  refine (RR _).mono ?_
  rintro e v3 ⟨rfl, b3⟩
  have m3 := hH.below b3
  clear hH
  refine hK.out _ _ m3 (fun hH => ?_)
  clear hK K
  (try simp only [Act.put, List.setIfInBounds_toArray, List.set_cons_zero, List.set_cons_succ])
  refine takeH (i := 4) (dst := some 59) (v := ?v3) rfl rfl (by kernel_rfl) (by kernel_rfl) (by kernel_rfl) (fun _ _ _ h => h) rfl ?hy3 hH rfl ?rest3
  case hy3 => (intro W hW; have q0 := hW.l.1; have q1 := hW.l.2.1; have q2 := hW.l.2.2.1; have x0 := hW.x.c0; have x1 := hW.x.c1; have x2 := hW.x.c2; have y0 := hW.y.c0; have y1 := hW.y.c1; have y2 := hW.y.c2; clear hW; go_simp; try with_reducible rfl)
  (try simp only [Act.put, List.setIfInBounds_toArray, List.set_cons_zero, List.set_cons_succ])
  refine takeH (i := 5) (dst := some 60) (v := ?v4) rfl rfl (by kernel_rfl) (by kernel_rfl) (by kernel_rfl) (fun _ _ _ h => h) rfl ?hy4 hH rfl ?rest4
  case hy4 => (intro W hW; have q0 := hW.l.1; have q1 := hW.l.2.1; have q2 := hW.l.2.2.1; have x0 := hW.x.c0; have x1 := hW.x.c1; have x2 := hW.x.c2; have y0 := hW.y.c0; have y1 := hW.y.c1; have y2 := hW.y.c2; clear hW; go_simp; try with_reducible rfl)
  (try simp only [Act.put, List.setIfInBounds_toArray, List.set_cons_zero, List.set_cons_succ])
  refine takeH (i := 6) (dst := some 61) (v := ?v5) rfl rfl (by kernel_rfl) (by kernel_rfl) (by kernel_rfl) (fun _ _ _ h => h) rfl ?hy5 hH rfl ?rest5
  case hy5 => (intro W hW; have q0 := hW.l.1; have q1 := hW.l.2.1; have q2 := hW.l.2.2.1; have x0 := hW.x.c0; have x1 := hW.x.c1; have x2 := hW.x.c2; have y0 := hW.y.c0; have y1 := hW.y.c1; have y2 := hW.y.c2; clear hW; go_simp; try with_reducible rfl)
  (try simp only [Act.put, List.setIfInBounds_toArray, List.set_cons_zero, List.set_cons_succ])
  refine takeH (i := 8) (dst := some 63) (v := ?v6) rfl rfl (by kernel_rfl) (by kernel_rfl) (by kernel_rfl) (fun _ _ _ h => h) rfl ?hy6 hH rfl ?rest6
  case hy6 => (intro W hW; have q0 := hW.l.1; have q1 := hW.l.2.1; have q2 := hW.l.2.2.1; have x0 := hW.x.c0; have x1 := hW.x.c1; have x2 := hW.x.c2; have y0 := hW.y.c0; have y1 := hW.y.c1; have y2 := hW.y.c2; clear hW; go_simp; try with_reducible rfl)
  (try simp only [Act.put, List.setIfInBounds_toArray, List.set_cons_zero, List.set_cons_succ])
  refine callH (i := 7) { dst := some 62, op := Go.Op.call { callee := Go.Callee.value (Go.Operand.func 15), args := #[Go.Operand.tmp 61], argTypes := #[23] }, type := 3, pos := "law.go:28", after := #[{ on := 6, ground := Go.Ground.data }, { on := 5, ground := Go.Ground.chain }, { on := 5, ground := Go.Ground.guard }], guard := some (5, true) } (by kernel_rfl) rfl rfl (fun K hK => ?_)
  go_simp
  refine (SZ _).mono ?_
  rintro e v7 ⟨rfl, b7⟩
  have m7 := hH.below b7
  clear hH
  refine hK.out _ _ m7 (fun hH => ?_)
  clear hK K
  (try simp only [Act.put, List.setIfInBounds_toArray, List.set_cons_zero, List.set_cons_succ])
  refine callH (i := 9) { dst := some 64, op := Go.Op.call { callee := Go.Callee.value (Go.Operand.func 16), args := #[Go.Operand.tmp 63], argTypes := #[23] }, type := 3, pos := "law.go:28", after := #[{ on := 8, ground := Go.Ground.data }, { on := 7, ground := Go.Ground.chain }, { on := 5, ground := Go.Ground.guard }], guard := some (5, true) } (by kernel_rfl) rfl rfl (fun K hK => ?_)
  go_simp
  refine (RZ _).mono ?_
  rintro e v9 ⟨rfl, b9⟩
  have m9 := hH.below b9
  clear hH
  refine hK.out _ _ m9 (fun hH => ?_)
  clear hK K
  (try simp only [Act.put, List.setIfInBounds_toArray, List.set_cons_zero, List.set_cons_succ])
  refine takeH (i := 10) (dst := some 65) (v := ?v7) rfl rfl (by kernel_rfl) (by kernel_rfl) (by kernel_rfl) (fun _ _ _ h => h) rfl ?hy7 hH rfl ?rest7
  case hy7 => (intro W hW; have q0 := hW.l.1; have q1 := hW.l.2.1; have q2 := hW.l.2.2.1; have x0 := hW.x.c0; have x1 := hW.x.c1; have x2 := hW.x.c2; have y0 := hW.y.c0; have y1 := hW.y.c1; have y2 := hW.y.c2; clear hW; go_simp; try with_reducible rfl)
  (try simp only [Act.put, List.setIfInBounds_toArray, List.set_cons_zero, List.set_cons_succ])
  refine takeH (i := 11) (dst := some 66) (v := ?v8) rfl rfl (by kernel_rfl) (by kernel_rfl) (by kernel_rfl) (fun _ _ _ h => h) rfl ?hy8 hH rfl ?rest8
  case hy8 => (intro W hW; have q0 := hW.l.1; have q1 := hW.l.2.1; have q2 := hW.l.2.2.1; have x0 := hW.x.c0; have x1 := hW.x.c1; have x2 := hW.x.c2; have y0 := hW.y.c0; have y1 := hW.y.c1; have y2 := hW.y.c2; clear hW; go_simp; try with_reducible rfl)
  (try simp only [Act.put, List.setIfInBounds_toArray, List.set_cons_zero, List.set_cons_succ])
  refine takeH (i := 12) (dst := some 67) (v := ?v9) rfl rfl (by kernel_rfl) (by kernel_rfl) (by kernel_rfl) (fun _ _ _ h => h) rfl ?hy9 hH rfl ?rest9
  case hy9 => (intro W hW; have q0 := hW.l.1; have q1 := hW.l.2.1; have q2 := hW.l.2.2.1; have x0 := hW.x.c0; have x1 := hW.x.c1; have x2 := hW.x.c2; have y0 := hW.y.c0; have y1 := hW.y.c1; have y2 := hW.y.c2; clear hW; go_simp; try with_reducible rfl)
  (try simp only [Act.put, List.setIfInBounds_toArray, List.set_cons_zero, List.set_cons_succ])
  refine takeH (i := 13) (dst := some 68) (v := ?v10) rfl rfl (by kernel_rfl) (by kernel_rfl) (by kernel_rfl) (fun _ _ _ h => h) rfl ?hy10 hH rfl ?rest10
  case hy10 => (intro W hW; have q0 := hW.l.1; have q1 := hW.l.2.1; have q2 := hW.l.2.2.1; have x0 := hW.x.c0; have x1 := hW.x.c1; have x2 := hW.x.c2; have y0 := hW.y.c0; have y1 := hW.y.c1; have y2 := hW.y.c2; clear hW; go_simp; try with_reducible rfl)
  (try simp only [Act.put, List.setIfInBounds_toArray, List.set_cons_zero, List.set_cons_succ])
  refine takeH (i := 15) (dst := some 70) (v := ?v11) rfl rfl (by kernel_rfl) (by kernel_rfl) (by kernel_rfl) (fun _ _ _ h => h) rfl ?hy11 hH rfl ?rest11
  case hy11 => (intro W hW; have q0 := hW.l.1; have q1 := hW.l.2.1; have q2 := hW.l.2.2.1; have x0 := hW.x.c0; have x1 := hW.x.c1; have x2 := hW.x.c2; have y0 := hW.y.c0; have y1 := hW.y.c1; have y2 := hW.y.c2; clear hW; go_simp; try with_reducible rfl)
  (try simp only [Act.put, List.setIfInBounds_toArray, List.set_cons_zero, List.set_cons_succ])
  refine callH (i := 14) { dst := some 69, op := Go.Op.call { callee := Go.Callee.value (Go.Operand.func 17), args := #[Go.Operand.tmp 68], argTypes := #[23] }, type := 3, pos := "law.go:28", after := #[{ on := 13, ground := Go.Ground.data }, { on := 12, ground := Go.Ground.chain }, { on := 12, ground := Go.Ground.guard }], guard := some (12, true) } (by kernel_rfl) rfl rfl (fun K hK => ?_)
  go_simp
  refine (SL _).mono ?_
  rintro e v14 ⟨rfl, b14⟩
  have m14 := hH.below b14
  clear hH
  refine hK.out _ _ m14 (fun hH => ?_)
  clear hK K
  (try simp only [Act.put, List.setIfInBounds_toArray, List.set_cons_zero, List.set_cons_succ])
  refine callH (i := 16) { dst := some 71, op := Go.Op.call { callee := Go.Callee.value (Go.Operand.func 18), args := #[Go.Operand.tmp 70], argTypes := #[23] }, type := 3, pos := "law.go:28", after := #[{ on := 15, ground := Go.Ground.data }, { on := 14, ground := Go.Ground.chain }, { on := 12, ground := Go.Ground.guard }], guard := some (12, true) } (by kernel_rfl) rfl rfl (fun K hK => ?_)
  go_simp
  refine (RL _).mono ?_
  rintro e v16 ⟨rfl, b16⟩
  have m16 := hH.below b16
  clear hH
  refine hK.out _ _ m16 (fun hH => ?_)
  clear hK K
  (try simp only [Act.put, List.setIfInBounds_toArray, List.set_cons_zero, List.set_cons_succ])
  refine takeH (i := 17) (dst := some 72) (v := ?v12) rfl rfl (by kernel_rfl) (by kernel_rfl) (by kernel_rfl) (fun _ _ _ h => h) rfl ?hy12 hH rfl ?rest12
  case hy12 => (intro W hW; have q0 := hW.l.1; have q1 := hW.l.2.1; have q2 := hW.l.2.2.1; have x0 := hW.x.c0; have x1 := hW.x.c1; have x2 := hW.x.c2; have y0 := hW.y.c0; have y1 := hW.y.c1; have y2 := hW.y.c2; clear hW; go_simp; try with_reducible rfl)
  (try simp only [Act.put, List.setIfInBounds_toArray, List.set_cons_zero, List.set_cons_succ])
  refine takeH (i := 18) (dst := some 73) (v := ?v13) rfl rfl (by kernel_rfl) (by kernel_rfl) (by kernel_rfl) (fun _ _ _ h => h) rfl ?hy13 hH rfl ?rest13
  case hy13 => (intro W hW; have q0 := hW.l.1; have q1 := hW.l.2.1; have q2 := hW.l.2.2.1; have x0 := hW.x.c0; have x1 := hW.x.c1; have x2 := hW.x.c2; have y0 := hW.y.c0; have y1 := hW.y.c1; have y2 := hW.y.c2; clear hW; go_simp; try with_reducible rfl)
  (try simp only [Act.put, List.setIfInBounds_toArray, List.set_cons_zero, List.set_cons_succ])
  refine takeH (i := 19) (dst := some 74) (v := ?v14) rfl rfl (by kernel_rfl) (by kernel_rfl) (by kernel_rfl) (fun _ _ _ h => h) rfl ?hy14 hH rfl ?rest14
  case hy14 => (intro W hW; have q0 := hW.l.1; have q1 := hW.l.2.1; have q2 := hW.l.2.2.1; have x0 := hW.x.c0; have x1 := hW.x.c1; have x2 := hW.x.c2; have y0 := hW.y.c0; have y1 := hW.y.c1; have y2 := hW.y.c2; clear hW; go_simp; try with_reducible rfl)
  (try simp only [Act.put, List.setIfInBounds_toArray, List.set_cons_zero, List.set_cons_succ])
  refine takeH (i := 20) (dst := some 75) (v := ?v15) rfl rfl (by kernel_rfl) (by kernel_rfl) (by kernel_rfl) (fun _ _ _ h => h) rfl ?hy15 hH rfl ?rest15
  case hy15 => (intro W hW; have q0 := hW.l.1; have q1 := hW.l.2.1; have q2 := hW.l.2.2.1; have x0 := hW.x.c0; have x1 := hW.x.c1; have x2 := hW.x.c2; have y0 := hW.y.c0; have y1 := hW.y.c1; have y2 := hW.y.c2; clear hW; go_simp; try with_reducible rfl)
  (try simp only [Act.put, List.setIfInBounds_toArray, List.set_cons_zero, List.set_cons_succ])
  refine takeH (i := 22) (dst := some 77) (v := ?v16) rfl rfl (by kernel_rfl) (by kernel_rfl) (by kernel_rfl) (fun _ _ _ h => h) rfl ?hy16 hH rfl ?rest16
  case hy16 => (intro W hW; have q0 := hW.l.1; have q1 := hW.l.2.1; have q2 := hW.l.2.2.1; have x0 := hW.x.c0; have x1 := hW.x.c1; have x2 := hW.x.c2; have y0 := hW.y.c0; have y1 := hW.y.c1; have y2 := hW.y.c2; clear hW; go_simp; try with_reducible rfl)
  (try simp only [Act.put, List.setIfInBounds_toArray, List.set_cons_zero, List.set_cons_succ])
  refine callH (i := 21) { dst := some 76, op := Go.Op.call { callee := Go.Callee.value (Go.Operand.func 19), args := #[Go.Operand.tmp 75], argTypes := #[23] }, type := 3, pos := "law.go:28", after := #[{ on := 20, ground := Go.Ground.data }, { on := 19, ground := Go.Ground.chain }, { on := 19, ground := Go.Ground.guard }], guard := some (19, true) } (by kernel_rfl) rfl rfl (fun K hK => ?_)
  go_simp
  refine (TB _).mono ?_
  rintro e v21 ⟨rfl, b21⟩
  have m21 := hH.below b21
  clear hH
  refine hK.out _ _ m21 (fun hH => ?_)
  clear hK K
  (try simp only [Act.put, List.setIfInBounds_toArray, List.set_cons_zero, List.set_cons_succ])
  refine callH (i := 23) { dst := some 78, op := Go.Op.call { callee := Go.Callee.value (Go.Operand.func 20), args := #[Go.Operand.tmp 77], argTypes := #[23] }, type := 3, pos := "law.go:28", after := #[{ on := 22, ground := Go.Ground.data }, { on := 21, ground := Go.Ground.chain }, { on := 19, ground := Go.Ground.guard }], guard := some (19, true) } (by kernel_rfl) rfl rfl (fun K hK => ?_)
  go_simp
  refine (RB _).mono ?_
  rintro e v23 ⟨rfl, b23⟩
  have m23 := hH.below b23
  clear hH
  refine hK.out _ _ m23 (fun hH => ?_)
  clear hK K
  (try simp only [Act.put, List.setIfInBounds_toArray, List.set_cons_zero, List.set_cons_succ])
  refine takeH (i := 24) (dst := some 79) (v := ?v17) rfl rfl (by kernel_rfl) (by kernel_rfl) (by kernel_rfl) (fun _ _ _ h => h) rfl ?hy17 hH rfl ?rest17
  case hy17 => (intro W hW; have q0 := hW.l.1; have q1 := hW.l.2.1; have q2 := hW.l.2.2.1; have x0 := hW.x.c0; have x1 := hW.x.c1; have x2 := hW.x.c2; have y0 := hW.y.c0; have y1 := hW.y.c1; have y2 := hW.y.c2; clear hW; go_simp; try with_reducible rfl)
  (try simp only [Act.put, List.setIfInBounds_toArray, List.set_cons_zero, List.set_cons_succ])
  refine takeH (i := 25) (dst := some 80) (v := ?v18) rfl rfl (by kernel_rfl) (by kernel_rfl) (by kernel_rfl) (fun _ _ _ h => h) rfl ?hy18 hH rfl ?rest18
  case hy18 => (intro W hW; have q0 := hW.l.1; have q1 := hW.l.2.1; have q2 := hW.l.2.2.1; have x0 := hW.x.c0; have x1 := hW.x.c1; have x2 := hW.x.c2; have y0 := hW.y.c0; have y1 := hW.y.c1; have y2 := hW.y.c2; clear hW; go_simp; try with_reducible rfl)
  (try simp only [Act.put, List.setIfInBounds_toArray, List.set_cons_zero, List.set_cons_succ])
  refine takeH (i := 26) (dst := some 81) (v := ?v19) rfl rfl (by kernel_rfl) (by kernel_rfl) (by kernel_rfl) (fun _ _ _ h => h) rfl ?hy19 hH rfl ?rest19
  case hy19 => (intro W hW; have q0 := hW.l.1; have q1 := hW.l.2.1; have q2 := hW.l.2.2.1; have x0 := hW.x.c0; have x1 := hW.x.c1; have x2 := hW.x.c2; have y0 := hW.y.c0; have y1 := hW.y.c1; have y2 := hW.y.c2; clear hW; go_simp; try with_reducible rfl)
  (try simp only [Act.put, List.setIfInBounds_toArray, List.set_cons_zero, List.set_cons_succ])
  refine takeH (i := 27) (dst := some 82) (v := ?v20) rfl rfl (by kernel_rfl) (by kernel_rfl) (by kernel_rfl) (fun _ _ _ h => h) rfl ?hy20 hH rfl ?rest20
  case hy20 => (intro W hW; have q0 := hW.l.1; have q1 := hW.l.2.1; have q2 := hW.l.2.2.1; have x0 := hW.x.c0; have x1 := hW.x.c1; have x2 := hW.x.c2; have y0 := hW.y.c0; have y1 := hW.y.c1; have y2 := hW.y.c2; clear hW; go_simp; try with_reducible rfl)
  (try simp only [Act.put, List.setIfInBounds_toArray, List.set_cons_zero, List.set_cons_succ])
  refine takeH (i := 28) (dst := some 83) (v := ?v21) rfl rfl (by kernel_rfl) (by kernel_rfl) (by kernel_rfl) (fun _ _ _ h => h) rfl ?hy21 hH rfl ?rest21
  case hy21 => (intro W hW; have q0 := hW.l.1; have q1 := hW.l.2.1; have q2 := hW.l.2.2.1; have x0 := hW.x.c0; have x1 := hW.x.c1; have x2 := hW.x.c2; have y0 := hW.y.c0; have y1 := hW.y.c1; have y2 := hW.y.c2; clear hW; go_simp; try with_reducible rfl)
  (try simp only [Act.put, List.setIfInBounds_toArray, List.set_cons_zero, List.set_cons_succ])
  refine takeH (i := 29) (dst := some 84) (v := ?v22) rfl rfl (by kernel_rfl) (by kernel_rfl) (by kernel_rfl) (fun _ _ _ h => h) rfl ?hy22 hH rfl ?rest22
  case hy22 => (intro W hW; have q0 := hW.l.1; have q1 := hW.l.2.1; have q2 := hW.l.2.2.1; have x0 := hW.x.c0; have x1 := hW.x.c1; have x2 := hW.x.c2; have y0 := hW.y.c0; have y1 := hW.y.c1; have y2 := hW.y.c2; clear hW; go_simp; try with_reducible rfl)
  (try simp only [Act.put, List.setIfInBounds_toArray, List.set_cons_zero, List.set_cons_succ])
  refine takeH (i := 30) (dst := some 85) (v := ?v23) rfl rfl (by kernel_rfl) (by kernel_rfl) (by kernel_rfl) (fun _ _ _ h => h) rfl ?hy23 hH rfl ?rest23
  case hy23 => (intro W hW; have q0 := hW.l.1; have q1 := hW.l.2.1; have q2 := hW.l.2.2.1; have x0 := hW.x.c0; have x1 := hW.x.c1; have x2 := hW.x.c2; have y0 := hW.y.c0; have y1 := hW.y.c1; have y2 := hW.y.c2; clear hW; go_simp; try with_reducible rfl)
  (try simp only [Act.put, List.setIfInBounds_toArray, List.set_cons_zero, List.set_cons_succ])
  refine takeH (i := 31) (dst := some 86) (v := ?v24) rfl rfl (by kernel_rfl) (by kernel_rfl) (by kernel_rfl) (fun _ _ _ h => h) rfl ?hy24 hH rfl ?rest24
  case hy24 => (intro W hW; have q0 := hW.l.1; have q1 := hW.l.2.1; have q2 := hW.l.2.2.1; have x0 := hW.x.c0; have x1 := hW.x.c1; have x2 := hW.x.c2; have y0 := hW.y.c0; have y1 := hW.y.c1; have y2 := hW.y.c2; clear hW; go_simp; try with_reducible rfl)
  (try simp only [Act.put, List.setIfInBounds_toArray, List.set_cons_zero, List.set_cons_succ])
  refine takeH (i := 32) (dst := some 87) (v := ?v25) rfl rfl (by kernel_rfl) (by kernel_rfl) (by kernel_rfl) (fun _ _ _ h => h) rfl ?hy25 hH rfl ?rest25
  case hy25 => (intro W hW; have q0 := hW.l.1; have q1 := hW.l.2.1; have q2 := hW.l.2.2.1; have x0 := hW.x.c0; have x1 := hW.x.c1; have x2 := hW.x.c2; have y0 := hW.y.c0; have y1 := hW.y.c1; have y2 := hW.y.c2; clear hW; go_simp; try with_reducible rfl)
  (try simp only [Act.put, List.setIfInBounds_toArray, List.set_cons_zero, List.set_cons_succ])
  refine takeH (i := 33) (dst := some 88) (v := ?v26) rfl rfl (by kernel_rfl) (by kernel_rfl) (by kernel_rfl) (fun _ _ _ h => h) rfl ?hy26 hH rfl ?rest26
  case hy26 => (intro W hW; have q0 := hW.l.1; have q1 := hW.l.2.1; have q2 := hW.l.2.2.1; have x0 := hW.x.c0; have x1 := hW.x.c1; have x2 := hW.x.c2; have y0 := hW.y.c0; have y1 := hW.y.c1; have y2 := hW.y.c2; clear hW; go_simp; try with_reducible rfl)
  (try simp only [Act.put, List.setIfInBounds_toArray, List.set_cons_zero, List.set_cons_succ])
  refine takeH (i := 34) (dst := some 89) (v := ?v27) rfl rfl (by kernel_rfl) (by kernel_rfl) (by kernel_rfl) (fun _ _ _ h => h) rfl ?hy27 hH rfl ?rest27
  case hy27 => (intro W hW; have q0 := hW.l.1; have q1 := hW.l.2.1; have q2 := hW.l.2.2.1; have x0 := hW.x.c0; have x1 := hW.x.c1; have x2 := hW.x.c2; have y0 := hW.y.c0; have y1 := hW.y.c1; have y2 := hW.y.c2; clear hW; go_simp; try with_reducible rfl)
  (try simp only [Act.put, List.setIfInBounds_toArray, List.set_cons_zero, List.set_cons_succ])
  refine takeH (i := 35) (dst := some 90) (v := ?v28) rfl rfl (by kernel_rfl) (by kernel_rfl) (by kernel_rfl) (fun _ _ _ h => h) rfl ?hy28 hH rfl ?rest28
  case hy28 => (intro W hW; have q0 := hW.l.1; have q1 := hW.l.2.1; have q2 := hW.l.2.2.1; have x0 := hW.x.c0; have x1 := hW.x.c1; have x2 := hW.x.c2; have y0 := hW.y.c0; have y1 := hW.y.c1; have y2 := hW.y.c2; clear hW; go_simp; try with_reducible rfl)
  (try simp only [Act.put, List.setIfInBounds_toArray, List.set_cons_zero, List.set_cons_succ])
  refine takeH (i := 36) (dst := some 91) (v := ?v29) rfl rfl (by kernel_rfl) (by kernel_rfl) (by kernel_rfl) (fun _ _ _ h => h) rfl ?hy29 hH rfl ?rest29
  case hy29 => (intro W hW; have q0 := hW.l.1; have q1 := hW.l.2.1; have q2 := hW.l.2.2.1; have x0 := hW.x.c0; have x1 := hW.x.c1; have x2 := hW.x.c2; have y0 := hW.y.c0; have y1 := hW.y.c1; have y2 := hW.y.c2; clear hW; go_simp; try with_reducible rfl)
  (try simp only [Act.put, List.setIfInBounds_toArray, List.set_cons_zero, List.set_cons_succ])
  refine takeH (i := 37) (dst := some 92) (v := ?v30) rfl rfl (by kernel_rfl) (by kernel_rfl) (by kernel_rfl) (fun _ _ _ h => h) rfl ?hy30 hH rfl ?rest30
  case hy30 => (intro W hW; have q0 := hW.l.1; have q1 := hW.l.2.1; have q2 := hW.l.2.2.1; have x0 := hW.x.c0; have x1 := hW.x.c1; have x2 := hW.x.c2; have y0 := hW.y.c0; have y1 := hW.y.c1; have y2 := hW.y.c2; clear hW; go_simp; try with_reducible rfl)
  (try simp only [Act.put, List.setIfInBounds_toArray, List.set_cons_zero, List.set_cons_succ])
  refine takeH (i := 38) (dst := some 93) (v := ?v31) rfl rfl (by kernel_rfl) (by kernel_rfl) (by kernel_rfl) (fun _ _ _ h => h) rfl ?hy31 hH rfl ?rest31
  case hy31 => (intro W hW; have q0 := hW.l.1; have q1 := hW.l.2.1; have q2 := hW.l.2.2.1; have x0 := hW.x.c0; have x1 := hW.x.c1; have x2 := hW.x.c2; have y0 := hW.y.c0; have y1 := hW.y.c1; have y2 := hW.y.c2; clear hW; go_simp; try with_reducible rfl)
  (try simp only [Act.put, List.setIfInBounds_toArray, List.set_cons_zero, List.set_cons_succ])
  refine takeH (i := 39) (dst := some 94) (v := ?v32) rfl rfl (by kernel_rfl) (by kernel_rfl) (by kernel_rfl) (fun _ _ _ h => h) rfl ?hy32 hH rfl ?rest32
  case hy32 => (intro W hW; have q0 := hW.l.1; have q1 := hW.l.2.1; have q2 := hW.l.2.2.1; have x0 := hW.x.c0; have x1 := hW.x.c1; have x2 := hW.x.c2; have y0 := hW.y.c0; have y1 := hW.y.c1; have y2 := hW.y.c2; clear hW; go_simp; try with_reducible rfl)
  (try simp only [Act.put, List.setIfInBounds_toArray, List.set_cons_zero, List.set_cons_succ])
  refine takeH (i := 40) (dst := some 95) (v := ?v33) rfl rfl (by kernel_rfl) (by kernel_rfl) (by kernel_rfl) (fun _ _ _ h => h) rfl ?hy33 hH rfl ?rest33
  case hy33 => (intro W hW; have q0 := hW.l.1; have q1 := hW.l.2.1; have q2 := hW.l.2.2.1; have x0 := hW.x.c0; have x1 := hW.x.c1; have x2 := hW.x.c2; have y0 := hW.y.c0; have y1 := hW.y.c1; have y2 := hW.y.c2; clear hW; go_simp; try with_reducible rfl)
  (try simp only [Act.put, List.setIfInBounds_toArray, List.set_cons_zero, List.set_cons_succ])
  refine takeH (i := 41) (dst := some 96) (v := ?v34) rfl rfl (by kernel_rfl) (by kernel_rfl) (by kernel_rfl) (fun _ _ _ h => h) rfl ?hy34 hH rfl ?rest34
  case hy34 => (intro W hW; have q0 := hW.l.1; have q1 := hW.l.2.1; have q2 := hW.l.2.2.1; have x0 := hW.x.c0; have x1 := hW.x.c1; have x2 := hW.x.c2; have y0 := hW.y.c0; have y1 := hW.y.c1; have y2 := hW.y.c2; clear hW; go_simp; try with_reducible rfl)
  (try simp only [Act.put, List.setIfInBounds_toArray, List.set_cons_zero, List.set_cons_succ])
  refine takeH (i := 42) (dst := some 97) (v := ?v35) rfl rfl (by kernel_rfl) (by kernel_rfl) (by kernel_rfl) (fun _ _ _ h => h) rfl ?hy35 hH rfl ?rest35
  case hy35 => (intro W hW; have q0 := hW.l.1; have q1 := hW.l.2.1; have q2 := hW.l.2.2.1; have x0 := hW.x.c0; have x1 := hW.x.c1; have x2 := hW.x.c2; have y0 := hW.y.c0; have y1 := hW.y.c1; have y2 := hW.y.c2; clear hW; go_simp; try with_reducible rfl)
  (try simp only [Act.put, List.setIfInBounds_toArray, List.set_cons_zero, List.set_cons_succ])
  refine takeH (i := 43) (dst := some 98) (v := ?v36) rfl rfl (by kernel_rfl) (by kernel_rfl) (by kernel_rfl) (fun _ _ _ h => h) rfl ?hy36 hH rfl ?rest36
  case hy36 => (intro W hW; have q0 := hW.l.1; have q1 := hW.l.2.1; have q2 := hW.l.2.2.1; have x0 := hW.x.c0; have x1 := hW.x.c1; have x2 := hW.x.c2; have y0 := hW.y.c0; have y1 := hW.y.c1; have y2 := hW.y.c2; clear hW; go_simp; try with_reducible rfl)
  (try simp only [Act.put, List.setIfInBounds_toArray, List.set_cons_zero, List.set_cons_succ])
  refine takeH (i := 44) (dst := some 99) (v := ?v37) rfl rfl (by kernel_rfl) (by kernel_rfl) (by kernel_rfl) (fun _ _ _ h => h) rfl ?hy37 hH rfl ?rest37
  case hy37 => (intro W hW; have q0 := hW.l.1; have q1 := hW.l.2.1; have q2 := hW.l.2.2.1; have x0 := hW.x.c0; have x1 := hW.x.c1; have x2 := hW.x.c2; have y0 := hW.y.c0; have y1 := hW.y.c1; have y2 := hW.y.c2; clear hW; go_simp; try with_reducible rfl)
  (try simp only [Act.put, List.setIfInBounds_toArray, List.set_cons_zero, List.set_cons_succ])
  refine takeH (i := 45) (dst := some 100) (v := ?v38) rfl rfl (by kernel_rfl) (by kernel_rfl) (by kernel_rfl) (fun _ _ _ h => h) rfl ?hy38 hH rfl ?rest38
  case hy38 => (intro W hW; have q0 := hW.l.1; have q1 := hW.l.2.1; have q2 := hW.l.2.2.1; have x0 := hW.x.c0; have x1 := hW.x.c1; have x2 := hW.x.c2; have y0 := hW.y.c0; have y1 := hW.y.c1; have y2 := hW.y.c2; clear hW; go_simp; try with_reducible rfl)
  (try simp only [Act.put, List.setIfInBounds_toArray, List.set_cons_zero, List.set_cons_succ])
  refine takeH (i := 46) (dst := some 101) (v := ?v39) rfl rfl (by kernel_rfl) (by kernel_rfl) (by kernel_rfl) (fun _ _ _ h => h) rfl ?hy39 hH rfl ?rest39
  case hy39 => (intro W hW; have q0 := hW.l.1; have q1 := hW.l.2.1; have q2 := hW.l.2.2.1; have x0 := hW.x.c0; have x1 := hW.x.c1; have x2 := hW.x.c2; have y0 := hW.y.c0; have y1 := hW.y.c1; have y2 := hW.y.c2; clear hW; go_simp; try with_reducible rfl)
  (try simp only [Act.put, List.setIfInBounds_toArray, List.set_cons_zero, List.set_cons_succ])
  refine takeH (i := 47) (dst := some 102) (v := ?v40) rfl rfl (by kernel_rfl) (by kernel_rfl) (by kernel_rfl) (fun _ _ _ h => h) rfl ?hy40 hH rfl ?rest40
  case hy40 => (intro W hW; have q0 := hW.l.1; have q1 := hW.l.2.1; have q2 := hW.l.2.2.1; have x0 := hW.x.c0; have x1 := hW.x.c1; have x2 := hW.x.c2; have y0 := hW.y.c0; have y1 := hW.y.c1; have y2 := hW.y.c2; clear hW; go_simp; try with_reducible rfl)
  (try simp only [Act.put, List.setIfInBounds_toArray, List.set_cons_zero, List.set_cons_succ])
  refine takeH (i := 48) (dst := some 103) (v := ?v41) rfl rfl (by kernel_rfl) (by kernel_rfl) (by kernel_rfl) (fun _ _ _ h => h) rfl ?hy41 hH rfl ?rest41
  case hy41 => (intro W hW; have q0 := hW.l.1; have q1 := hW.l.2.1; have q2 := hW.l.2.2.1; have x0 := hW.x.c0; have x1 := hW.x.c1; have x2 := hW.x.c2; have y0 := hW.y.c0; have y1 := hW.y.c1; have y2 := hW.y.c2; clear hW; go_simp; try with_reducible rfl)
  (try simp only [Act.put, List.setIfInBounds_toArray, List.set_cons_zero, List.set_cons_succ])
  refine takeH (i := 49) (dst := some 104) (v := ?v42) rfl rfl (by kernel_rfl) (by kernel_rfl) (by kernel_rfl) (fun _ _ _ h => h) rfl ?hy42 hH rfl ?rest42
  case hy42 => (intro W hW; have q0 := hW.l.1; have q1 := hW.l.2.1; have q2 := hW.l.2.2.1; have x0 := hW.x.c0; have x1 := hW.x.c1; have x2 := hW.x.c2; have y0 := hW.y.c0; have y1 := hW.y.c1; have y2 := hW.y.c2; clear hW; go_simp; try with_reducible rfl)
  (try simp only [Act.put, List.setIfInBounds_toArray, List.set_cons_zero, List.set_cons_succ])
  refine takeH (i := 50) (dst := some 105) (v := ?v43) rfl rfl (by kernel_rfl) (by kernel_rfl) (by kernel_rfl) (fun _ _ _ h => h) rfl ?hy43 hH rfl ?rest43
  case hy43 => (intro W hW; have q0 := hW.l.1; have q1 := hW.l.2.1; have q2 := hW.l.2.2.1; have x0 := hW.x.c0; have x1 := hW.x.c1; have x2 := hW.x.c2; have y0 := hW.y.c0; have y1 := hW.y.c1; have y2 := hW.y.c2; clear hW; go_simp; try with_reducible rfl)
  (try simp only [Act.put, List.setIfInBounds_toArray, List.set_cons_zero, List.set_cons_succ])
  refine takeH (i := 51) (dst := some 106) (v := ?v44) rfl rfl (by kernel_rfl) (by kernel_rfl) (by kernel_rfl) (fun _ _ _ h => h) rfl ?hy44 hH rfl ?rest44
  case hy44 => (intro W hW; have q0 := hW.l.1; have q1 := hW.l.2.1; have q2 := hW.l.2.2.1; have x0 := hW.x.c0; have x1 := hW.x.c1; have x2 := hW.x.c2; have y0 := hW.y.c0; have y1 := hW.y.c1; have y2 := hW.y.c2; clear hW; go_simp; try with_reducible rfl)
  (try simp only [Act.put, List.setIfInBounds_toArray, List.set_cons_zero, List.set_cons_succ])
  refine takeH (i := 52) (dst := some 107) (v := ?v45) rfl rfl (by kernel_rfl) (by kernel_rfl) (by kernel_rfl) (fun _ _ _ h => h) rfl ?hy45 hH rfl ?rest45
  case hy45 => (intro W hW; have q0 := hW.l.1; have q1 := hW.l.2.1; have q2 := hW.l.2.2.1; have x0 := hW.x.c0; have x1 := hW.x.c1; have x2 := hW.x.c2; have y0 := hW.y.c0; have y1 := hW.y.c1; have y2 := hW.y.c2; clear hW; go_simp; try with_reducible rfl)
  (try simp only [Act.put, List.setIfInBounds_toArray, List.set_cons_zero, List.set_cons_succ])
  refine takeH (i := 53) (dst := some 108) (v := ?v46) rfl rfl (by kernel_rfl) (by kernel_rfl) (by kernel_rfl) (fun _ _ _ h => h) rfl ?hy46 hH rfl ?rest46
  case hy46 => (intro W hW; have q0 := hW.l.1; have q1 := hW.l.2.1; have q2 := hW.l.2.2.1; have x0 := hW.x.c0; have x1 := hW.x.c1; have x2 := hW.x.c2; have y0 := hW.y.c0; have y1 := hW.y.c1; have y2 := hW.y.c2; clear hW; go_simp; try with_reducible rfl)
  (try simp only [Act.put, List.setIfInBounds_toArray, List.set_cons_zero, List.set_cons_succ])
  refine takeH (i := 54) (dst := some 109) (v := ?v47) rfl rfl (by kernel_rfl) (by kernel_rfl) (by kernel_rfl) (fun _ _ _ h => h) rfl ?hy47 hH rfl ?rest47
  case hy47 => (intro W hW; have q0 := hW.l.1; have q1 := hW.l.2.1; have q2 := hW.l.2.2.1; have x0 := hW.x.c0; have x1 := hW.x.c1; have x2 := hW.x.c2; have y0 := hW.y.c0; have y1 := hW.y.c1; have y2 := hW.y.c2; clear hW; go_simp; try with_reducible rfl)
  (try simp only [Act.put, List.setIfInBounds_toArray, List.set_cons_zero, List.set_cons_succ])
  refine takeH (i := 55) (dst := some 110) (v := ?v48) rfl rfl (by kernel_rfl) (by kernel_rfl) (by kernel_rfl) (fun _ _ _ h => h) rfl ?hy48 hH rfl ?rest48
  case hy48 => (intro W hW; have q0 := hW.l.1; have q1 := hW.l.2.1; have q2 := hW.l.2.2.1; have x0 := hW.x.c0; have x1 := hW.x.c1; have x2 := hW.x.c2; have y0 := hW.y.c0; have y1 := hW.y.c1; have y2 := hW.y.c2; clear hW; go_simp; try with_reducible rfl)
  (try simp only [Act.put, List.setIfInBounds_toArray, List.set_cons_zero, List.set_cons_succ])
  refine takeH (i := 56) (dst := some 111) (v := ?v49) rfl rfl (by kernel_rfl) (by kernel_rfl) (by kernel_rfl) (fun _ _ _ h => h) rfl ?hy49 hH rfl ?rest49
  case hy49 => (intro W hW; have q0 := hW.l.1; have q1 := hW.l.2.1; have q2 := hW.l.2.2.1; have x0 := hW.x.c0; have x1 := hW.x.c1; have x2 := hW.x.c2; have y0 := hW.y.c0; have y1 := hW.y.c1; have y2 := hW.y.c2; clear hW; go_simp; try with_reducible rfl)
  (try simp only [Act.put, List.setIfInBounds_toArray, List.set_cons_zero, List.set_cons_succ])
  refine callH (i := 57) { dst := some 112, op := Go.Op.call { callee := Go.Callee.value (Go.Operand.func 21), args := #[], argTypes := #[] }, type := 4, pos := "law.go:28", after := #[{ on := 56, ground := Go.Ground.chain }, { on := 56, ground := Go.Ground.guard }], guard := some (56, true) } (by kernel_rfl) rfl rfl (fun K hK => ?_)
  go_simp
  refine (KN _).mono ?_
  rintro e v57 ⟨rfl, b57⟩
  have m57 := hH.below b57
  clear hH
  refine hK.out _ _ m57 (fun hH => ?_)
  clear hK K
  (try simp only [Act.put, List.setIfInBounds_toArray, List.set_cons_zero, List.set_cons_succ])
  refine takeH (i := 58) (dst := some 113) (v := ?v50) rfl rfl (by kernel_rfl) (by kernel_rfl) (by kernel_rfl) (fun _ _ _ h => h) rfl ?hy50 hH rfl ?rest50
  case hy50 => (intro W hW; have q0 := hW.l.1; have q1 := hW.l.2.1; have q2 := hW.l.2.2.1; have x0 := hW.x.c0; have x1 := hW.x.c1; have x2 := hW.x.c2; have y0 := hW.y.c0; have y1 := hW.y.c1; have y2 := hW.y.c2; clear hW; go_simp; try with_reducible rfl)
  (try simp only [Act.put, List.setIfInBounds_toArray, List.set_cons_zero, List.set_cons_succ])
  refine takeH (i := 59) (dst := some 6) (v := ?v51) rfl rfl (by kernel_rfl) (by kernel_rfl) (by kernel_rfl) (fun _ _ _ h => h) rfl ?hy51 hH rfl ?rest51
  case hy51 => (intro W hW; have q0 := hW.l.1; have q1 := hW.l.2.1; have q2 := hW.l.2.2.1; have x0 := hW.x.c0; have x1 := hW.x.c1; have x2 := hW.x.c2; have y0 := hW.y.c0; have y1 := hW.y.c1; have y2 := hW.y.c2; clear hW; go_simp; try with_reducible rfl)
  (try simp only [Act.put, List.setIfInBounds_toArray, List.set_cons_zero, List.set_cons_succ])
  refine wpAnyH_done (by kernel_rfl) ?_ _
  clear hH
  go_wp2
  go_ret
  exact ⟨rfl, m57.l.2.2.2⟩
end Go.Proofs.Ytojchlmpddolkaa
