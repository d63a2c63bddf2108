/- leveelaw07.InodeBytes: the walk. -/
import Derived.Test.YtabmogeicpphoaaJ6
namespace Go.Proofs.Ytabmogeicpphoaa
open Go.RowKit
theorem exec_neq_ino {ev : Operand → Value} {oi : Oper} {X Y : Operand} {w : World} {i j : Ino} (hi : i.ns.length = 8) (hj : j.ns.length = 8) {b : Bool} (hb : (!eqI i j) = b) (ho : oi.op = .binOp .neq 24 X Y 24) (eX : ev X = .agg (iA i)) (eY : ev Y = .agg (iA j)) :
    (execOp ev oi).run Try.prog w = .ok (.value (.bool b)) w := by
  subst hb
  have hg : ∀ A B (w : World), (eqGuard .neq 24 X Y (.agg A) (.agg B)).run Try.prog w = .ok () w := fun A B w => run_eqGuard_agg w .neq 24 X Y A B (by kernel_rfl)
  unfold execOp
  simp only [ho, eX, eY]
  simp [hg, run_neq_struct, run_eq_ino hi hj, Result.andThen]
theorem eqI_refl (i : Ino) : (!eqI i i) = false := by rw [show eqI i i = true from eqI_iff.2 rfl]; rfl
/-- What lies there ahead of the comparison. -/
structure BW (w0 : World) (i : Ino) (sp : Option Addr) (cap : Nat) (l : List UInt8) (sx : Option Addr) (cx : Nat) (sy : Option Addr) (cy g p q : Nat) (W : World) : Prop where
  b : Below w0.heap.size w0 W
  ino : InoAt W w0.heap.size i
  x : Arg W sx cx (putX i)
  y : Arg W sy cy (putX i)
  own : Blk W g 5 (l ++ a5)
  arg : Arg W sp cap l
  p : InoAt W p (getV l)
  q : InoAt W q (getV l)
theorem BW.up {w0 W W' : World} {i : Ino} {sp sx sy : Option Addr} {cap cx cy g p q : Nat} {l : List UInt8} (h : BW w0 i sp cap l sx cx sy cy g p q W) (hb : Below W.heap.size W W') : BW w0 i sp cap l sx cx sy cy g p q W' :=
  ⟨h.b.trans (hb.mono h.b.size), h.ino.up hb, h.x.below hb (Nat.le_refl _), h.y.below hb (Nat.le_refl _), h.own.below hb h.own.lt, h.arg.below hb (Nat.le_refl _), h.p.up hb, h.q.up hb⟩
theorem lent_arg {W : World} {g : Nat} {l : List UInt8} (h : Blk W g 5 (l ++ a5)) (hl : l.length ≤ 140737488355328) : Arg W (some ⟨g, 0, none⟩) (l.length + 8) l := by
  refine .inr ⟨g, 0, rfl, by omega, by omega, by omega, hl, ?_⟩
  have := h.src.pre l.length
  rw [List.take_left' rfl] at this
  exact this
set_option maxRecDepth 100000 in
set_option maxHeartbeats 8000000 in
theorem inodeBytes_any (i : Ino) (sp : Option Addr) (cap : Nat) (l : List UInt8) (w : World) (hn : i.ns.length = 8) (ha : Arg w sp cap l) :
    Calls Try.prog 3 #[.agg (iA i), .slice sp l.length cap] w fun e w' => e = .returned (.bool true) ∧ Below w.heap.size w w' := by
  have la := ha.len
  have hz := zeroI
  have HX0 : Hid _ := PI.start w i hn
  have PA := iput_any i hn
  have RA := rput7_any i hn
  have RT := iright_any i hn
  have RR := rright7_any i hn
  have HN : Hid (i.ns.length = 8) := hn
  have HP : Hid ((getV l).ns.length = 8) := getV_length l
  have HXL : Hid ((putX i).length ≤ 64) := putX_le hn
  have HA : Hid (Arg w sp cap l) := ha
  clear hn ha
  go_enter Try.func3, Try.ntmps3
  go_wp2_with (first | ((with_reducible show wpList _ _ _ ({ dst := _, op := Op.load 24 _, type := _, pos := _, after := _, guard := _ } :: _) _ _); refine wpList_load_ino rfl _ rfl (HX0.out.ino) rfl ?_))
  refine (PA _).mono ?_
  rintro e w1 ⟨sx, cx, rfl, hx1, _, h1⟩
  have HX1 : Hid (PI w i w1) := HX0.out.up h1
  have HPX1 : Hid (Arg w1 sx cx (putX i)) := hx1
  clear HX0 PA hx1 h1
  go_wp2_with (first | ((with_reducible show wpList _ _ _ ({ dst := _, op := Op.load 24 _, type := _, pos := _, after := _, guard := _ } :: _) _ _); refine wpList_load_ino rfl _ rfl (HX1.out.ino) rfl ?_))
  refine (RA _).mono ?_
  rintro e w2 ⟨sy, cy, rfl, hy2, _, h2⟩
  have HX2 : Hid (PI w i w2) := HX1.out.up h2
  have HPX2 : Hid (Arg w2 sx cx (putX i)) := HPX1.out.below h2 (Nat.le_refl _)
  have HPY2 : Hid (Arg w2 sy cy (putX i)) := hy2
  clear HX1 HPX1 RA hy2 h2
  have LT := lent_any sp cap l w2 (HA.out.below HX2.out.b (Nat.le_refl _))
  go_wp2_with fail
  refine LT.mono ?_
  rintro e w3 ⟨g, rfl, hg3, hG3, h3⟩
  have HX3 : Hid (PI w i w3) := HX2.out.up h3
  have HPX3 : Hid (Arg w3 sx cx (putX i)) := HPX2.out.below h3 (Nat.le_refl _)
  have HPY3 : Hid (Arg w3 sy cy (putX i)) := HPY2.out.below h3 (Nat.le_refl _)
  have HO3 : Hid (Blk w3 g 5 (l ++ a5)) := hg3
  clear HX2 HPX2 HPY2 LT hg3 h3
  have GT := iget_any (some ⟨g, 0, none⟩) (l.length + 8) l w3 (lent_arg HO3.out (by omega))
  go_wp2_with fail
  refine GT.mono ?_
  rintro e w4 ⟨rfl, h4⟩
  have HX4 : Hid (PI w i w4) := HX3.out.up h4
  have HPX4 : Hid (Arg w4 sx cx (putX i)) := HPX3.out.below h4 (Nat.le_refl _)
  have HPY4 : Hid (Arg w4 sy cy (putX i)) := HPY3.out.below h4 (Nat.le_refl _)
  have HO4 : Hid (Blk w4 g 5 (l ++ a5)) := HO3.out.below h4 HO3.out.lt
  clear HX3 HPX3 HPY3 HO3 GT h4
  have HZ : Hid (InoAt (w4.alloc (.cells (iA zino) 24)) w4.heap.size zino) := ino_new w4 zino rfl
  have HZB : Hid (Below w4.heap.size w4 (w4.alloc (.cells (iA zino) 24))) := (Below.refl _ _).alloc (Nat.le_refl _) _
  go_upto_region 5 with (first | ((with_reducible show wpList _ _ _ ({ dst := _, op := Op.store 24 _ _, type := _, pos := _, after := _, guard := _ } :: _) _ _); refine wpList_store_ino rfl _ _ rfl (HZ.out) HP.out rfl rfl ?_; intro w5 H5 b5 z5))
  have h5 : Below w4.heap.size w4 w5 := HZB.out.trans b5
  have HX5 : Hid (PI w i w5) := HX4.out.up h5
  have HPX5 : Hid (Arg w5 sx cx (putX i)) := HPX4.out.below h5 (Nat.le_refl _)
  have HPY5 : Hid (Arg w5 sy cy (putX i)) := HPY4.out.below h5 (Nat.le_refl _)
  have HO5 : Hid (Blk w5 g 5 (l ++ a5)) := HO4.out.below h5 HO4.out.lt
  have HI5 : Hid (InoAt w5 w4.heap.size (getV l)) := H5
  clear HX4 HPX4 HPY4 HO4 HZ HZB h5 H5 b5 z5
  have RG := rget7_any sp cap l w5 (HA.out.below HX5.out.b (Nat.le_refl _))
  go_wp2_with fail
  refine RG.mono ?_
  rintro e w6 ⟨rfl, h6⟩
  have HX6 : Hid (PI w i w6) := HX5.out.up h6
  have HPX6 : Hid (Arg w6 sx cx (putX i)) := HPX5.out.below h6 (Nat.le_refl _)
  have HPY6 : Hid (Arg w6 sy cy (putX i)) := HPY5.out.below h6 (Nat.le_refl _)
  have HO6 : Hid (Blk w6 g 5 (l ++ a5)) := HO5.out.below h6 HO5.out.lt
  have HI6 : Hid (InoAt w6 w4.heap.size (getV l)) := HI5.out.up h6
  clear HX5 HPX5 HPY5 HO5 HI5 RG h6
  have HZ : Hid (InoAt (w6.alloc (.cells (iA zino) 24)) w6.heap.size zino) := ino_new w6 zino rfl
  have HZB : Hid (Below w6.heap.size w6 (w6.alloc (.cells (iA zino) 24))) := (Below.refl _ _).alloc (Nat.le_refl _) _
  go_upto_region 6 with (first | ((with_reducible show wpList _ _ _ ({ dst := _, op := Op.store 24 _ _, type := _, pos := _, after := _, guard := _ } :: _) _ _); refine wpList_store_ino rfl _ _ rfl (HZ.out) HP.out rfl rfl ?_; intro w7 H7 b7 z7))
  have h7 : Below w6.heap.size w6 w7 := HZB.out.trans b7
  have bw : BW w i sp cap l sx cx sy cy g w4.heap.size w6.heap.size w7 := ⟨(HX6.out.up h7).b, (HX6.out.up h7).ino, HPX6.out.below h7 (Nat.le_refl _), HPY6.out.below h7 (Nat.le_refl _), HO6.out.below h7 HO6.out.lt, HA.out.below (HX6.out.up h7).b (Nat.le_refl _), HI6.out.up h7, H7⟩
  have gd := bw.up (Below.refl _ _).drew
  clear HX6 HPX6 HPY6 HO6 HI6 HZ HZB h7 H7 b7 z7 bw HA
  have hss : ((str (putX i)).toList == (str (putX i)).toList) = true := by simp
  generalize hE : putE i = E at *
  generalize hRB : rtB i = RB at *
  generalize hGE : getE l = GE at *
  refine wp_region_held_drew (S := (fun W => BW w i sp cap l sx cx sy cy g w4.heap.size w6.heap.size W)) (by kernel_rfl) gd (fun hH => ?_)
  refine takeH (i := 0) (dst := some 38) (v := ?v1) rfl rfl (by kernel_rfl) (by kernel_rfl) (by kernel_rfl) (fun _ _ _ h => h) rfl ?hy1 hH rfl ?rest1
  case hy1 => (intro W hW; clear hW; go_simp; try with_reducible rfl)
  (try simp only [Act.put, List.setIfInBounds_toArray, List.set_cons_zero, List.set_cons_succ])
  refine takeH (i := 1) (dst := some 39) (v := ?v2) rfl rfl (by kernel_rfl) (by kernel_rfl) (by kernel_rfl) (fun _ _ _ h => h) rfl ?hy2 hH rfl ?rest2
  case hy2 => (intro W hW; have kx := conv_str hW.x.src (putX i).length cx rfl; clear hW; go_simp; try with_reducible rfl)
  (try simp only [Act.put, List.setIfInBounds_toArray, List.set_cons_zero, List.set_cons_succ])
  refine takeH (i := 2) (dst := some 40) (v := ?v3) rfl rfl (by kernel_rfl) (by kernel_rfl) (by kernel_rfl) (fun _ _ _ h => h) rfl ?hy3 hH rfl ?rest3
  case hy3 => (intro W hW; clear hW; go_simp; try with_reducible rfl)
  (try simp only [Act.put, List.setIfInBounds_toArray, List.set_cons_zero, List.set_cons_succ])
  refine takeH (i := 3) (dst := some 41) (v := ?v4) rfl rfl (by kernel_rfl) (by kernel_rfl) (by kernel_rfl) (fun _ _ _ h => h) rfl ?hy4 hH rfl ?rest4
  case hy4 => (intro W hW; have kx := conv_str hW.y.src (putX i).length cy rfl; clear hW; go_simp; try with_reducible rfl)
  (try simp only [Act.put, List.setIfInBounds_toArray, List.set_cons_zero, List.set_cons_succ])
  refine takeH (i := 4) (dst := some 42) (v := ?v5) rfl rfl (by kernel_rfl) (by kernel_rfl) (by kernel_rfl) (fun _ _ _ h => h) rfl ?hy5 hH rfl ?rest5
  case hy5 => (intro W hW; clear hW; go_simp; try with_reducible rfl)
  (try simp only [Act.put, List.setIfInBounds_toArray, List.set_cons_zero, List.set_cons_succ])
  refine takeH (i := 5) (dst := some 43) (v := ?v6) rfl rfl (by kernel_rfl) (by kernel_rfl) (by kernel_rfl) (fun _ _ _ h => h) rfl ?hy6 hH rfl ?rest6
  case hy6 => (intro W hW; clear hW; go_simp; try with_reducible rfl)
  (try simp only [Act.put, List.setIfInBounds_toArray, List.set_cons_zero, List.set_cons_succ])
  refine takeH (i := 6) (dst := some 44) (v := ?v7) rfl rfl (by kernel_rfl) (by kernel_rfl) (by kernel_rfl) (fun _ _ _ h => h) rfl ?hy7 hH rfl ?rest7
  case hy7 => (intro W hW; clear hW; go_simp; try with_reducible rfl)
  (try simp only [Act.put, List.setIfInBounds_toArray, List.set_cons_zero, List.set_cons_succ])
  refine takeH (i := 7) (dst := some 45) (v := ?v8) rfl rfl (by kernel_rfl) (by kernel_rfl) (by kernel_rfl) (fun _ _ _ h => h) rfl ?hy8 hH rfl ?rest8
  case hy8 => (intro W hW; clear hW; go_simp; try with_reducible rfl)
  (try simp only [Act.put, List.setIfInBounds_toArray, List.set_cons_zero, List.set_cons_succ])
  refine takeH (i := 8) (dst := some 46) (v := ?v9) rfl rfl (by kernel_rfl) (by kernel_rfl) (by kernel_rfl) (fun _ _ _ h => h) rfl ?hy9 hH rfl ?rest9
  case hy9 => (intro W hW; clear hW; go_simp; try with_reducible rfl)
  (try simp only [Act.put, List.setIfInBounds_toArray, List.set_cons_zero, List.set_cons_succ])
  refine takeH (i := 9) (dst := some 47) (v := ?v10) rfl rfl (by kernel_rfl) (by kernel_rfl) (by kernel_rfl) (fun _ _ _ h => h) rfl ?hy10 hH rfl ?rest10
  case hy10 => (intro W hW; clear hW; go_simp; try with_reducible rfl)
  (try simp only [Act.put, List.setIfInBounds_toArray, List.set_cons_zero, List.set_cons_succ])
  refine takeH (i := 10) (dst := some 48) (v := ?v11) rfl rfl (by kernel_rfl) (by kernel_rfl) (by kernel_rfl) (fun _ _ _ h => h) rfl ?hy11 hH rfl ?rest11
  case hy11 => (intro W hW; clear hW; go_simp; try with_reducible rfl)
  (try simp only [Act.put, List.setIfInBounds_toArray, List.set_cons_zero, List.set_cons_succ])
  refine takeH (i := 11) (dst := some 49) (v := ?v12) rfl rfl (by kernel_rfl) (by kernel_rfl) (by kernel_rfl) (fun _ _ _ h => h) rfl ?hy12 hH rfl ?rest12
  case hy12 => (intro W hW; refine exec_load_ino (x := Operand.tmp 10) hW.p ?_ ?_ <;> rfl)
  (try simp only [Act.put, List.setIfInBounds_toArray, List.set_cons_zero, List.set_cons_succ])
  refine takeH (i := 12) (dst := some 50) (v := ?v13) rfl rfl (by kernel_rfl) (by kernel_rfl) (by kernel_rfl) (fun _ _ _ h => h) rfl ?hy13 hH rfl ?rest13
  case hy13 => (intro W hW; refine exec_load_ino (x := Operand.tmp 12) hW.q ?_ ?_ <;> rfl)
  (try simp only [Act.put, List.setIfInBounds_toArray, List.set_cons_zero, List.set_cons_succ])
  refine takeH (i := 13) (dst := some 51) (v := ?v14) rfl rfl (by kernel_rfl) (by kernel_rfl) (by kernel_rfl) (fun _ _ _ h => h) rfl ?hy14 hH rfl ?rest14
  case hy14 => (intro W hW; refine exec_neq_ino (X := Operand.tmp 49) (Y := Operand.tmp 50) HP.out HP.out (eqI_refl _) ?_ ?_ ?_ <;> rfl)
  (try simp only [Act.put, List.setIfInBounds_toArray, List.set_cons_zero, List.set_cons_succ])
  refine takeH (i := 14) (dst := some 52) (v := ?v15) rfl rfl (by kernel_rfl) (by kernel_rfl) (by kernel_rfl) (fun _ _ _ h => h) rfl ?hy15 hH rfl ?rest15
  case hy15 => (intro W hW; clear hW; go_simp; try with_reducible rfl)
  (try simp only [Act.put, List.setIfInBounds_toArray, List.set_cons_zero, List.set_cons_succ])
  refine takeH (i := 15) (dst := some 53) (v := ?v16) rfl rfl (by kernel_rfl) (by kernel_rfl) (by kernel_rfl) (fun _ _ _ h => h) rfl ?hy16 hH rfl ?rest16
  case hy16 => (intro W hW; clear hW; go_simp; try with_reducible rfl)
  (try simp only [Act.put, List.setIfInBounds_toArray, List.set_cons_zero, List.set_cons_succ])
  refine takeH (i := 16) (dst := some 54) (v := ?v17) rfl rfl (by kernel_rfl) (by kernel_rfl) (by kernel_rfl) (fun _ _ _ h => h) rfl ?hy17 hH rfl ?rest17
  case hy17 => (intro W hW; clear hW; go_simp; try with_reducible rfl)
  (try simp only [Act.put, List.setIfInBounds_toArray, List.set_cons_zero, List.set_cons_succ])
  refine takeH (i := 17) (dst := some 55) (v := ?v18) rfl rfl (by kernel_rfl) (by kernel_rfl) (by kernel_rfl) (fun _ _ _ h => h) rfl ?hy18 hH rfl ?rest18
  case hy18 => (intro W hW; clear hW; go_simp; try with_reducible rfl)
  (try simp only [Act.put, List.setIfInBounds_toArray, List.set_cons_zero, List.set_cons_succ])
  refine takeH (i := 18) (dst := some 56) (v := ?v19) rfl rfl (by kernel_rfl) (by kernel_rfl) (by kernel_rfl) (fun _ _ _ h => h) rfl ?hy19 hH rfl ?rest19
  case hy19 => (intro W hW; clear hW; go_simp; try with_reducible rfl)
  (try simp only [Act.put, List.setIfInBounds_toArray, List.set_cons_zero, List.set_cons_succ])
  refine takeH (i := 19) (dst := some 57) (v := ?v20) rfl rfl (by kernel_rfl) (by kernel_rfl) (by kernel_rfl) (fun _ _ _ h => h) rfl ?hy20 hH rfl ?rest20
  case hy20 => (intro W hW; clear hW; go_simp; try with_reducible rfl)
  (try simp only [Act.put, List.setIfInBounds_toArray, List.set_cons_zero, List.set_cons_succ])
  refine takeH (i := 20) (dst := some 58) (v := ?v21) rfl rfl (by kernel_rfl) (by kernel_rfl) (by kernel_rfl) (fun _ _ _ h => h) rfl ?hy21 hH rfl ?rest21
  case hy21 => (intro W hW; clear hW; go_simp; try with_reducible rfl)
  (try simp only [Act.put, List.setIfInBounds_toArray, List.set_cons_zero, List.set_cons_succ])
  refine takeH (i := 21) (dst := some 59) (v := ?v22) rfl rfl (by kernel_rfl) (by kernel_rfl) (by kernel_rfl) (fun _ _ _ h => h) rfl ?hy22 hH rfl ?rest22
  case hy22 => (intro W hW; refine exec_load_ino (x := Operand.tmp 2) hW.ino ?_ ?_ <;> rfl)
  (try simp only [Act.put, List.setIfInBounds_toArray, List.set_cons_zero, List.set_cons_succ])
  refine takeH (i := 23) (dst := some 61) (v := ?v23) rfl rfl (by kernel_rfl) (by kernel_rfl) (by kernel_rfl) (fun _ _ _ h => h) rfl ?hy23 hH rfl ?rest23
  case hy23 => (intro W hW; refine exec_load_ino (x := Operand.tmp 2) hW.ino ?_ ?_ <;> rfl)
  (try simp only [Act.put, List.setIfInBounds_toArray, List.set_cons_zero, List.set_cons_succ])
  refine callH (i := 22) { dst := some 60, op := Go.Op.call { callee := Go.Callee.value (Go.Operand.func 14), args := #[Go.Operand.tmp 59], argTypes := #[24] }, type := 4, pos := "law.go:28", after := #[{ on := 21, ground := Go.Ground.data }, { on := 20, ground := Go.Ground.chain }, { on := 20, ground := Go.Ground.guard }], guard := some (20, false) } (by kernel_rfl) rfl rfl (fun K hK => ?_)
  go_simp
  refine (RT _).mono ?_
  rintro e v1 ⟨rfl, k1⟩
  have m1 := gd.up k1
  clear k1
  clear hH
  refine hK.out _ _ m1 (fun hH => ?_)
  clear hK K
  (try simp only [Act.put, List.setIfInBounds_toArray, List.set_cons_zero, List.set_cons_succ])
  refine callH (i := 24) { dst := some 62, op := Go.Op.call { callee := Go.Callee.value (Go.Operand.func 15), args := #[Go.Operand.tmp 61], argTypes := #[24] }, type := 4, pos := "law.go:28", after := #[{ on := 23, ground := Go.Ground.data }, { on := 22, ground := Go.Ground.chain }, { on := 20, ground := Go.Ground.guard }], guard := some (20, false) } (by kernel_rfl) rfl rfl (fun K hK => ?_)
  go_simp
  refine (RR _).mono ?_
  rintro e v2 ⟨rfl, k2⟩
  have m2 := m1.up k2
  clear k2
  clear hH
  refine hK.out _ _ m2 (fun hH => ?_)
  clear hK K
  (try simp only [Act.put, List.setIfInBounds_toArray, List.set_cons_zero, List.set_cons_succ])
  refine takeH (i := 25) (dst := some 63) (v := ?v24) rfl rfl (by kernel_rfl) (by kernel_rfl) (by kernel_rfl) (fun _ _ _ h => h) rfl ?hy24 hH rfl ?rest24
  case hy24 => (intro W hW; clear hW; go_simp; try with_reducible rfl)
  (try simp only [Act.put, List.setIfInBounds_toArray, List.set_cons_zero, List.set_cons_succ])
  refine takeH (i := 26) (dst := some 64) (v := ?v25) rfl rfl (by kernel_rfl) (by kernel_rfl) (by kernel_rfl) (fun _ _ _ h => h) rfl ?hy25 hH rfl ?rest25
  case hy25 => (intro W hW; clear hW; go_simp; try with_reducible rfl)
  (try simp only [Act.put, List.setIfInBounds_toArray, List.set_cons_zero, List.set_cons_succ])
  refine takeH (i := 27) (dst := some 65) (v := ?v26) rfl rfl (by kernel_rfl) (by kernel_rfl) (by kernel_rfl) (fun _ _ _ h => h) rfl ?hy26 hH rfl ?rest26
  case hy26 => (intro W hW; clear hW; go_simp; try with_reducible rfl)
  (try simp only [Act.put, List.setIfInBounds_toArray, List.set_cons_zero, List.set_cons_succ])
  refine takeH (i := 28) (dst := some 66) (v := ?v27) rfl rfl (by kernel_rfl) (by kernel_rfl) (by kernel_rfl) (fun _ _ _ h => h) rfl ?hy27 hH rfl ?rest27
  case hy27 => (intro W hW; clear hW; go_simp; try with_reducible rfl)
  (try simp only [Act.put, List.setIfInBounds_toArray, List.set_cons_zero, List.set_cons_succ])
  refine takeH (i := 29) (dst := some 67) (v := ?v28) rfl rfl (by kernel_rfl) (by kernel_rfl) (by kernel_rfl) (fun _ _ _ h => h) rfl ?hy28 hH rfl ?rest28
  case hy28 => (intro W hW; clear hW; go_simp; try with_reducible rfl)
  (try simp only [Act.put, List.setIfInBounds_toArray, List.set_cons_zero, List.set_cons_succ])
  refine callH (i := 30) { dst := some 68, op := Go.Op.call { callee := Go.Callee.value (Go.Operand.func 16), args := #[Go.Operand.tmp 66, Go.Operand.tmp 67], argTypes := #[25, 25] }, type := 4, pos := "law.go:28", after := #[{ on := 28, ground := Go.Ground.data }, { on := 29, ground := Go.Ground.data }, { on := 27, ground := Go.Ground.chain }, { on := 27, ground := Go.Ground.guard }], guard := some (27, false) } (by kernel_rfl) rfl rfl (fun K hK => ?_)
  go_simp
  refine (kept_any g sp cap l _ m2.own m2.arg).mono ?_
  rintro e v3 ⟨rfl, k3⟩
  have m3 := m2.up k3
  clear k3
  clear hH
  refine hK.out _ _ m3 (fun hH => ?_)
  clear hK K
  (try simp only [Act.put, List.setIfInBounds_toArray, List.set_cons_zero, List.set_cons_succ])
  refine takeH (i := 31) (dst := some 69) (v := ?v29) rfl rfl (by kernel_rfl) (by kernel_rfl) (by kernel_rfl) (fun _ _ _ h => h) rfl ?hy29 hH rfl ?rest29
  case hy29 => (intro W hW; clear hW; go_simp; try with_reducible rfl)
  (try simp only [Act.put, List.setIfInBounds_toArray, List.set_cons_zero, List.set_cons_succ])
  refine takeH (i := 32) (dst := some 70) (v := ?v30) rfl rfl (by kernel_rfl) (by kernel_rfl) (by kernel_rfl) (fun _ _ _ h => h) rfl ?hy30 hH rfl ?rest30
  case hy30 => (intro W hW; clear hW; go_simp; try with_reducible rfl)
  (try simp only [Act.put, List.setIfInBounds_toArray, List.set_cons_zero, List.set_cons_succ])
  refine wpAnyH_done (by kernel_rfl) ?_ _
  clear hH
  have HM : Hid _ := m3
  clear m1 m2 m3 gd
  subst hE
  cases hr : rtB i
  · rw [show putE i = 1 by unfold putE; rw [hr]; rfl]
    go_wp2_with fail
    refine (iknown_any _).mono ?_
    rintro e v9 ⟨rfl, k9⟩
    go_wp2
    go_ret
    exact ⟨rfl, (HM.out.up k9).b⟩
  · have hpx : putX i = layI i := by unfold putX; rw [hr]; rfl
    obtain ⟨g1, g2⟩ := get_lay HN.out hr
    have GT := iget_any sx cx (putX i) v3 HM.out.x
    rw [hpx, g1, g2, ← hpx] at GT
    clear g1 g2 hpx
    rw [show putE i = 0 by unfold putE; rw [hr]; rfl]
    clear hr
    go_wp2_with fail
    refine GT.mono ?_
    rintro e v4 ⟨rfl, k4⟩
    have HM4 : Hid _ := HM.out.up k4
    clear HM GT k4
    have HZ : Hid (InoAt (v4.alloc (.cells (iA zino) 24)) v4.heap.size zino) := ino_new v4 zino rfl
    have HZB : Hid (Below v4.heap.size v4 (v4.alloc (.cells (iA zino) 24))) := (Below.refl _ _).alloc (Nat.le_refl _) _
    go_upto_region 11 with (first | ((with_reducible show wpList _ _ _ ({ dst := _, op := Op.store 24 _ _, type := _, pos := _, after := _, guard := _ } :: _) _ _); refine wpList_store_ino rfl _ _ rfl (HZ.out) HN.out rfl rfl ?_; intro v5 H5 b5 z5))
    have h5 : Below v4.heap.size v4 v5 := HZB.out.trans b5
    have HM5 : Hid _ := HM4.out.up h5
    have HI5 : Hid _ := H5
    clear HM4 HZ HZB h5 H5 b5 z5
    have HEQ : Hid (eqI i i = true) := eqI_iff.2 rfl
    go_wp2_with (first | ((with_reducible show wpList _ _ _ ({ dst := _, op := Op.load 24 _, type := _, pos := _, after := _, guard := _ } :: _) _ _); refine wpList_load_ino rfl _ rfl (HI5.out) rfl ?_) | ((with_reducible show wpList _ _ _ ({ dst := _, op := Op.load 24 _, type := _, pos := _, after := _, guard := _ } :: _) _ _); refine wpList_load_ino rfl _ rfl (HM5.out.ino) rfl ?_) | ((with_reducible show wpList _ _ _ ({ dst := _, op := Op.binOp BinOp.eql 24 _ _ 24, type := _, pos := _, after := _, guard := _ } :: _) _ _); refine wpList_eq_ino rfl _ _ rfl rfl rfl HN.out HN.out HEQ.out ?_))
    refine (iknown_any _).mono ?_
    rintro e v9 ⟨rfl, k9⟩
    go_wp2
    go_ret
    exact ⟨rfl, (HM5.out.up k9).b⟩
end Go.Proofs.Ytabmogeicpphoaa
