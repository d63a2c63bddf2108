/- inode.Get. -/
import Derived.Test.YtkiifmnmeikdlaaGreatDoorJCBound6
import Derived.Deep.DeepCutAuto
import Derived.Deep.QuietTactic
import Derived.BigQuiet
import Derived.Deep.MidRow
import Derived.Deep.WholeRow
namespace Go.Proofs.YtkiifmnmeikdlaaGreatDoor
open Go.RowKit
set_option maxRecDepth 100000
theorem exec_load_64 {ev : Operand → Value} {oi : Oper} {x : Operand} {w : World} {b o : Nat} {l : List UInt8} (H : Src w (some ⟨b, o, none⟩) l) (hl : l.length = 64) (ho : oi.op = .load 111 x) (hx : ev x = .pointer (some ⟨b, o, none⟩)) :
    (execOp ev oi).run Tryz.prog w = .ok (.value (.agg (bvs l).toArray)) w := by
  unfold execOp
  simp only [ho, hx, Instr.loadAt, Instr.sureAddr, Sem.run_bind, Sem.run_pure, Result.andThen_ok, run_loadVar_mid w b o 111 (bvs l) _ (src_range H) Tryz.underlying111 rfl (by rw [Tryz.sz111, bvs_length, hl])]
theorem run_neq_64 {x y : List UInt8} (hx : x.length = 64) (hy : y.length = 64) (w : World) : (binOp .neq 111 (.agg (bvs x).toArray) (.agg (bvs y).toArray)).run Tryz.prog w = .ok (.bool (!(x == y))) w := by
  rw [run_neq_struct, show (Op.equalIn 10000 111 (.agg (bvs x).toArray) (.agg (bvs y).toArray)).run Tryz.prog w = .ok (x == y) w from run_equalIn_bytes w 9998 111 5 64 Tryz.underlying111 Tryz.underlying5 size5 x y hx hy]
  rfl
theorem exec_neq_64 {ev : Operand → Value} {oi : Oper} {X Y : Operand} {w : World} {x y : List UInt8} (hx : x.length = 64) (hy : y.length = 64) {b : Bool} (hb : (!(x == y)) = b) (ho : oi.op = .binOp .neq 111 X Y 111) (eX : ev X = .agg (bvs x).toArray) (eY : ev Y = .agg (bvs y).toArray) :
    (execOp ev oi).run Tryz.prog w = .ok (.value (.bool b)) w := by
  subst hb
  have hg : ∀ A B (w : World), (eqGuard .neq 111 X Y (.agg A) (.agg B)).run Tryz.prog w = .ok () w := fun A B w => run_eqGuard_agg w .neq 111 X Y A B (by kernel_rfl)
  unfold execOp
  simp only [ho, eX, eY]
  simp [hg, run_neq_64 hx hy, Result.andThen]
/-- What Get has laid. -/
structure GI (w0 : World) (bb off : Nat) (l : List UInt8) (q : Nat) (W : World) : Prop where
  b : Below w0.heap.size w0 W
  res : InoAt W w0.heap.size zino
  ino : InoAt W q (rdII l)
  src : Src W (some ⟨bb, off, none⟩) l
theorem GI.up {w0 W W' : World} {bb off q : Nat} {l : List UInt8} (h : GI w0 bb off l q W) (hb : Below W.heap.size W W') : GI w0 bb off l q W' :=
  ⟨h.b.trans (hb.mono h.b.size), h.res.up hb, h.ino.up hb, h.src.below hb (Nat.le_refl _)⟩
set_option maxHeartbeats 4000000 in
theorem iget_size (sp : Option Addr) (n cap : Nat) (hn : ¬ (n : Int) = 64) (w : World) :
    Calls Tryz.prog 85 #[.slice sp n cap] w fun e w' => e = .returned (.tuple #[.agg (iA zino), .int .i64 4]) ∧ Below w.heap.size w w' := by
  have hz := zeroI
  have HB : Hid (Below w.heap.size w (w.alloc (.cells (iA zino) 30))) := (Below.refl _ _).alloc (Nat.le_refl _) _
  have HI : Hid (InoAt (w.alloc (.cells (iA zino) 30)) w.heap.size zino) := ino_new w zino rfl
  go_enter Tryz.func85, Tryz.ntmps85
  go_wp2_with (first | ((with_reducible show wpList _ _ _ ({ dst := _, op := Op.store 30 _ _, type := _, pos := _, after := _, guard := _ } :: _) _ _); refine wpList_store_ino rfl _ _ rfl (HI.out) rfl rfl rfl ?_; intro w4 H4 b4 z4))
  exact bodyPost_ret (results_ino rfl _ H4 rfl) rfl ⟨rfl, HB.out.trans b4⟩
/-- Are the bytes those of an inode? -/
def formI (l : List UInt8) : Bool := rtB (rdII l) && (layI (rdII l) == l)
set_option maxRecDepth 100000 in
set_option maxHeartbeats 4000000 in
theorem iget_bad (bb off cap : Nat) (l : List UInt8) (hl : l.length = 64) (hr : rtB (rdII l) = false) (w : World) (hsrc : Src w (some ⟨bb, off, none⟩) l) (hc : (64 : Int) ≤ cap) (hm : (cap : Int) ≤ 9223372036854775807) :
    Calls Tryz.prog 85 #[.slice (some ⟨bb, off, none⟩) 64 cap] w fun e w' => e = .returned (.tuple #[.agg (iA zino), .int .i64 8]) ∧ Below w.heap.size w w' := by
  have hz := zeroI
  have HB : Hid (Below w.heap.size w (w.alloc (.cells (iA zino) 30))) := (Below.refl _ _).alloc (Nat.le_refl _) _
  have HI : Hid (InoAt (w.alloc (.cells (iA zino) 30)) w.heap.size zino) := ino_new w zino rfl
  have RD := fun W (h : Src W (some ⟨bb, off, none⟩) l) (hb : bb < W.heap.size) => iread_any bb off cap l hl W h hb hc hm
  have GR := iright_any (rdII l) (rdI_length l)
  have HSR : Hid (Src w (some ⟨bb, off, none⟩) l) := hsrc
  have hbb : bb < w.heap.size := by
    obtain ⟨b', off', h1, h2, _⟩ := hsrc.at' (by omega)
    cases h1; exact h2
  rw [hr] at GR
  clear hsrc
  go_enter Tryz.func85, Tryz.ntmps85
  go_wp2_with fail
  refine (RD _ (HSR.out.below HB.out (Nat.le_refl _)) (by have := HB.out.size; omega)).mono ?_
  rintro e w2 ⟨rfl, h2⟩
  have HI2 : Hid (InoAt w2 w.heap.size zino) := HI.out.up h2
  have HB2 : Hid (Below w.heap.size w w2) := HB.out.trans (h2.mono HB.out.size)
  have hl2 := HI2.out.lt
  clear RD HI HB h2
  have HN : Hid (InoAt (w2.alloc (.cells (iA zino) 30)) w2.heap.size zino) := ino_new w2 zino rfl
  have HNB : Hid (Below w2.heap.size w2 (w2.alloc (.cells (iA zino) 30))) := (Below.refl _ _).alloc (Nat.le_refl _) _
  have HRL : Hid ((rdII l).ns.length = 8) := rdI_length l
  go_wp2_with (first | ((with_reducible show wpList _ _ _ ({ dst := _, op := Op.store 30 _ _, type := _, pos := _, after := _, guard := _ } :: _) _ _); refine wpList_store_ino rfl _ _ rfl (HN.out) HRL.out rfl rfl ?_; intro w3 H3 b3 z3))
  have f3 : Below w2.heap.size w2 w3 := HNB.out.trans b3
  have fw : Below w.heap.size w w3 := HB2.out.trans (f3.mono HB2.out.size)
  have g3 : GI w bb off l w2.heap.size w3 := ⟨fw, HI2.out.below f3 hl2, H3, HSR.out.below fw (Nat.le_refl _)⟩
  have gd := g3.up (Below.refl _ _).drew
  clear f3 fw g3 H3 b3 z3 HN HNB HI2 HB2 HSR
  refine wp_region_held_drew (S := (fun W => GI w bb off l w2.heap.size W)) (by kernel_rfl) gd (fun hH => ?_)
  refine takeH (i := 0) (dst := some 11) (v := ?v1) rfl rfl (by kernel_rfl) (by kernel_rfl) (by kernel_rfl) (fun _ _ _ h => h) rfl ?hy1 hH rfl ?rest1
  case hy1 => (intro W hW; refine exec_load_ino (x := Operand.tmp 4) hW.ino ?_ ?_ <;> rfl)
  (try simp only [Act.put, List.setIfInBounds_toArray, List.set_cons_zero, List.set_cons_succ])
  refine callH (i := 1) { dst := some 12, op := Go.Op.call { callee := Go.Callee.value (Go.Operand.func 54), args := #[Go.Operand.tmp 11], argTypes := #[30] }, type := 4, pos := "inode.go:94", after := #[{ on := 0, ground := Go.Ground.data }], guard := none } (by kernel_rfl) rfl rfl (fun K hK => ?_)
  go_simp
  refine (GR _).mono ?_
  rintro e v1 ⟨rfl, n1⟩
  have m1 := gd.up n1
  clear n1
  clear hH
  refine hK.out _ _ m1 (fun hH => ?_)
  clear hK K
  (try simp only [Act.put, List.setIfInBounds_toArray, List.set_cons_zero, List.set_cons_succ])
  refine takeH (i := 2) (dst := some 13) (v := ?v2) rfl rfl (by kernel_rfl) (by kernel_rfl) (by kernel_rfl) (fun _ _ _ h => h) rfl ?hy2 hH rfl ?rest2
  case hy2 => (intro W hW; clear hW; go_simp; try with_reducible rfl)
  (try simp only [Act.put, List.setIfInBounds_toArray, List.set_cons_zero, List.set_cons_succ])
  refine takeH (i := 3) (dst := some 14) (v := ?v3) rfl rfl (by kernel_rfl) (by kernel_rfl) (by kernel_rfl) (fun _ _ _ h => h) rfl ?hy3 hH rfl ?rest3
  case hy3 => (intro W hW; clear hW; go_simp; try with_reducible rfl)
  (try simp only [Act.put, List.setIfInBounds_toArray, List.set_cons_zero, List.set_cons_succ])
  refine takeU (i := 4) (dst := some 15) rfl rfl (by kernel_rfl) (by kernel_rfl) (by kernel_rfl) (fun _ _ _ h => h) rfl hH rfl ?_
  (try simp only [Act.put, List.setIfInBounds_toArray, List.set_cons_zero, List.set_cons_succ])
  refine takeU (i := 5) (dst := some 16) rfl rfl (by kernel_rfl) (by kernel_rfl) (by kernel_rfl) (fun _ _ _ h => h) rfl hH rfl ?_
  (try simp only [Act.put, List.setIfInBounds_toArray, List.set_cons_zero, List.set_cons_succ])
  refine takeU (i := 6) (dst := some 17) rfl rfl (by kernel_rfl) (by kernel_rfl) (by kernel_rfl) (fun _ _ _ h => h) rfl hH rfl ?_
  (try simp only [Act.put, List.setIfInBounds_toArray, List.set_cons_zero, List.set_cons_succ])
  refine takeU (i := 7) (dst := some 18) rfl rfl (by kernel_rfl) (by kernel_rfl) (by kernel_rfl) (fun _ _ _ h => h) rfl hH rfl ?_
  (try simp only [Act.put, List.setIfInBounds_toArray, List.set_cons_zero, List.set_cons_succ])
  refine takeU (i := 8) (dst := some 19) rfl rfl (by kernel_rfl) (by kernel_rfl) (by kernel_rfl) (fun _ _ _ h => h) rfl hH rfl ?_
  (try simp only [Act.put, List.setIfInBounds_toArray, List.set_cons_zero, List.set_cons_succ])
  refine takeU (i := 9) (dst := some 20) rfl rfl (by kernel_rfl) (by kernel_rfl) (by kernel_rfl) (fun _ _ _ h => h) rfl hH rfl ?_
  (try simp only [Act.put, List.setIfInBounds_toArray, List.set_cons_zero, List.set_cons_succ])
  refine takeH (i := 10) (dst := some 21) (v := ?v4) rfl rfl (by kernel_rfl) (by kernel_rfl) (by kernel_rfl) (fun _ _ _ h => h) rfl ?hy4 hH rfl ?rest4
  case hy4 => (intro W hW; clear hW; go_simp; try with_reducible rfl)
  (try simp only [Act.put, List.setIfInBounds_toArray, List.set_cons_zero, List.set_cons_succ])
  refine wpAnyH_done (by kernel_rfl) ?_ _
  clear hH
  have HM : Hid _ := m1
  clear m1 gd
  go_wp2_with (first | ((with_reducible show wpList _ _ _ ({ dst := _, op := Op.store 30 _ _, type := _, pos := _, after := _, guard := _ } :: _) _ _); refine wpList_store_ino rfl _ _ rfl (HM.out.res) rfl rfl rfl ?_; intro w7 H7 b7 z7))
  exact bodyPost_ret (results_ino rfl _ H7 rfl) rfl ⟨rfl, HM.out.b.trans b7⟩
set_option maxRecDepth 100000 in
set_option maxHeartbeats 4000000 in
theorem iget_form (bb off cap : Nat) (l : List UInt8) (hl : l.length = 64) (hr : rtB (rdII l) = true) (hne : (layI (rdII l) == l) = false) (w : World) (hsrc : Src w (some ⟨bb, off, none⟩) l) (hc : (64 : Int) ≤ cap) (hm : (cap : Int) ≤ 9223372036854775807) :
    Calls Tryz.prog 85 #[.slice (some ⟨bb, off, none⟩) 64 cap] w fun e w' => e = .returned (.tuple #[.agg (iA zino), .int .i64 8]) ∧ Below w.heap.size w w' := by
  have hz := zeroI
  have HB : Hid (Below w.heap.size w (w.alloc (.cells (iA zino) 30))) := (Below.refl _ _).alloc (Nat.le_refl _) _
  have HI : Hid (InoAt (w.alloc (.cells (iA zino) 30)) w.heap.size zino) := ino_new w zino rfl
  have RD := fun W (h : Src W (some ⟨bb, off, none⟩) l) (hb : bb < W.heap.size) => iread_any bb off cap l hl W h hb hc hm
  have GR := iright_any (rdII l) (rdI_length l)
  have HSR : Hid (Src w (some ⟨bb, off, none⟩) l) := hsrc
  have hbb : bb < w.heap.size := by
    obtain ⟨b', off', h1, h2, _⟩ := hsrc.at' (by omega)
    cases h1; exact h2
  rw [hr] at GR
  have LA := fun W => ilay_any (rdII l) (rdI_length l) (rtB_inR hr) W
  have HBL : Hid ((layI (rdII l)).length = 64) := layI_length (rdI_length l)
  have HNE : Hid ((!(layI (rdII l) == l)) = true) := by rw [show (layI (rdII l) == l) = false from hne]; rfl
  clear hne
  have hat : ∀ w, (Instr.arrayAt 111 (.slice (some ⟨bb, off, none⟩) 64 cap)).run Tryz.prog w = .ok (.pointer (some ⟨bb, off, none⟩)) w := fun w => run_arrayAt w 111 _ 64 _ 64 cap Tryz.underlying111 (Nat.le_refl _)
  clear hsrc
  go_enter Tryz.func85, Tryz.ntmps85
  go_wp2_with fail
  refine (RD _ (HSR.out.below HB.out (Nat.le_refl _)) (by have := HB.out.size; omega)).mono ?_
  rintro e w2 ⟨rfl, h2⟩
  have HI2 : Hid (InoAt w2 w.heap.size zino) := HI.out.up h2
  have HB2 : Hid (Below w.heap.size w w2) := HB.out.trans (h2.mono HB.out.size)
  have hl2 := HI2.out.lt
  clear RD HI HB h2
  have HN : Hid (InoAt (w2.alloc (.cells (iA zino) 30)) w2.heap.size zino) := ino_new w2 zino rfl
  have HNB : Hid (Below w2.heap.size w2 (w2.alloc (.cells (iA zino) 30))) := (Below.refl _ _).alloc (Nat.le_refl _) _
  have HRL : Hid ((rdII l).ns.length = 8) := rdI_length l
  go_wp2_with (first | ((with_reducible show wpList _ _ _ ({ dst := _, op := Op.store 30 _ _, type := _, pos := _, after := _, guard := _ } :: _) _ _); refine wpList_store_ino rfl _ _ rfl (HN.out) HRL.out rfl rfl ?_; intro w3 H3 b3 z3))
  have f3 : Below w2.heap.size w2 w3 := HNB.out.trans b3
  have fw : Below w.heap.size w w3 := HB2.out.trans (f3.mono HB2.out.size)
  have g3 : GI w bb off l w2.heap.size w3 := ⟨fw, HI2.out.below f3 hl2, H3, HSR.out.below fw (Nat.le_refl _)⟩
  have gd := g3.up (Below.refl _ _).drew
  clear f3 fw g3 H3 b3 z3 HN HNB HI2 HB2 HSR
  refine wp_region_held_drew (S := (fun W => GI w bb off l w2.heap.size W)) (by kernel_rfl) gd (fun hH => ?_)
  refine takeH (i := 0) (dst := some 11) (v := ?v5) rfl rfl (by kernel_rfl) (by kernel_rfl) (by kernel_rfl) (fun _ _ _ h => h) rfl ?hy5 hH rfl ?rest5
  case hy5 => (intro W hW; refine exec_load_ino (x := Operand.tmp 4) hW.ino ?_ ?_ <;> rfl)
  (try simp only [Act.put, List.setIfInBounds_toArray, List.set_cons_zero, List.set_cons_succ])
  refine callH (i := 1) { dst := some 12, op := Go.Op.call { callee := Go.Callee.value (Go.Operand.func 54), args := #[Go.Operand.tmp 11], argTypes := #[30] }, type := 4, pos := "inode.go:94", after := #[{ on := 0, ground := Go.Ground.data }], guard := none } (by kernel_rfl) rfl rfl (fun K hK => ?_)
  go_simp
  refine (GR _).mono ?_
  rintro e v1 ⟨rfl, n1⟩
  have m1 := gd.up n1
  clear n1
  clear hH
  refine hK.out _ _ m1 (fun hH => ?_)
  clear hK K
  (try simp only [Act.put, List.setIfInBounds_toArray, List.set_cons_zero, List.set_cons_succ])
  refine takeH (i := 2) (dst := some 13) (v := ?v6) rfl rfl (by kernel_rfl) (by kernel_rfl) (by kernel_rfl) (fun _ _ _ h => h) rfl ?hy6 hH rfl ?rest6
  case hy6 => (intro W hW; clear hW; go_simp; try with_reducible rfl)
  (try simp only [Act.put, List.setIfInBounds_toArray, List.set_cons_zero, List.set_cons_succ])
  refine takeH (i := 3) (dst := some 14) (v := ?v7) rfl rfl (by kernel_rfl) (by kernel_rfl) (by kernel_rfl) (fun _ _ _ h => h) rfl ?hy7 hH rfl ?rest7
  case hy7 => (intro W hW; clear hW; go_simp; try with_reducible rfl)
  (try simp only [Act.put, List.setIfInBounds_toArray, List.set_cons_zero, List.set_cons_succ])
  refine takeH (i := 4) (dst := some 15) (v := ?v8) rfl rfl (by kernel_rfl) (by kernel_rfl) (by kernel_rfl) (fun _ _ _ h => h) rfl ?hy8 hH rfl ?rest8
  case hy8 => (intro W hW; refine exec_load_ino (x := Operand.tmp 4) hW.ino ?_ ?_ <;> rfl)
  (try simp only [Act.put, List.setIfInBounds_toArray, List.set_cons_zero, List.set_cons_succ])
  refine takeH (i := 6) (dst := some 17) (v := ?v9) rfl rfl (by kernel_rfl) (by kernel_rfl) (by kernel_rfl) (fun _ _ _ h => h) rfl ?hy9 hH rfl ?rest9
  case hy9 => (intro W hW; clear hW; go_simp; try with_reducible rfl)
  (try simp only [Act.put, List.setIfInBounds_toArray, List.set_cons_zero, List.set_cons_succ])
  refine takeH (i := 7) (dst := some 18) (v := ?v10) rfl rfl (by kernel_rfl) (by kernel_rfl) (by kernel_rfl) (fun _ _ _ h => h) rfl ?hy10 hH rfl ?rest10
  case hy10 => (intro W hW; clear hW; go_simp; try with_reducible rfl)
  (try simp only [Act.put, List.setIfInBounds_toArray, List.set_cons_zero, List.set_cons_succ])
  refine takeH (i := 8) (dst := some 19) (v := ?v11) rfl rfl (by kernel_rfl) (by kernel_rfl) (by kernel_rfl) (fun _ _ _ h => h) rfl ?hy11 hH rfl ?rest11
  case hy11 => (intro W hW; refine exec_load_64 (x := Operand.tmp 18) hW.src hl ?_ ?_ <;> rfl)
  (try simp only [Act.put, List.setIfInBounds_toArray, List.set_cons_zero, List.set_cons_succ])
  refine callH (i := 5) { dst := some 16, op := Go.Op.call { callee := Go.Callee.value (Go.Operand.func 55), args := #[Go.Operand.tmp 15], argTypes := #[30] }, type := 111, pos := "inode.go:94", after := #[{ on := 4, ground := Go.Ground.data }, { on := 3, ground := Go.Ground.chain }, { on := 3, ground := Go.Ground.guard }], guard := some (3, false) } (by kernel_rfl) rfl rfl (fun K hK => ?_)
  go_simp
  refine (LA _).mono ?_
  rintro e v2 ⟨rfl, n2⟩
  have m2 := m1.up n2
  clear n2
  clear hH
  refine hK.out _ _ m2 (fun hH => ?_)
  clear hK K
  (try simp only [Act.put, List.setIfInBounds_toArray, List.set_cons_zero, List.set_cons_succ])
  refine takeH (i := 9) (dst := some 20) (v := ?v12) rfl rfl (by kernel_rfl) (by kernel_rfl) (by kernel_rfl) (fun _ _ _ h => h) rfl ?hy12 hH rfl ?rest12
  case hy12 => (intro W hW; refine exec_neq_64 (X := Operand.tmp 16) (Y := Operand.tmp 19) HBL.out hl HNE.out ?_ ?_ ?_ <;> rfl)
  (try simp only [Act.put, List.setIfInBounds_toArray, List.set_cons_zero, List.set_cons_succ])
  refine takeH (i := 10) (dst := some 21) (v := ?v13) rfl rfl (by kernel_rfl) (by kernel_rfl) (by kernel_rfl) (fun _ _ _ h => h) rfl ?hy13 hH rfl ?rest13
  case hy13 => (intro W hW; clear hW; go_simp; try with_reducible rfl)
  (try simp only [Act.put, List.setIfInBounds_toArray, List.set_cons_zero, List.set_cons_succ])
  refine wpAnyH_done (by kernel_rfl) ?_ _
  clear hH
  have HM : Hid _ := m2
  clear m2 gd m1
  go_wp2_with (first | ((with_reducible show wpList _ _ _ ({ dst := _, op := Op.store 30 _ _, type := _, pos := _, after := _, guard := _ } :: _) _ _); refine wpList_store_ino rfl _ _ rfl (HM.out.res) rfl rfl rfl ?_; intro w7 H7 b7 z7))
  exact bodyPost_ret (results_ino rfl _ H7 rfl) rfl ⟨rfl, HM.out.b.trans b7⟩
set_option maxRecDepth 100000 in
set_option maxHeartbeats 4000000 in
theorem iget_ok (bb off cap : Nat) (l : List UInt8) (hl : l.length = 64) (hr : rtB (rdII l) = true) (hne : (layI (rdII l) == l) = true) (w : World) (hsrc : Src w (some ⟨bb, off, none⟩) l) (hc : (64 : Int) ≤ cap) (hm : (cap : Int) ≤ 9223372036854775807) :
    Calls Tryz.prog 85 #[.slice (some ⟨bb, off, none⟩) 64 cap] w fun e w' => e = .returned (.tuple #[.agg (iA (rdII l)), .int .i64 0]) ∧ Below w.heap.size w w' := by
  have hz := zeroI
  have HB : Hid (Below w.heap.size w (w.alloc (.cells (iA zino) 30))) := (Below.refl _ _).alloc (Nat.le_refl _) _
  have HI : Hid (InoAt (w.alloc (.cells (iA zino) 30)) w.heap.size zino) := ino_new w zino rfl
  have RD := fun W (h : Src W (some ⟨bb, off, none⟩) l) (hb : bb < W.heap.size) => iread_any bb off cap l hl W h hb hc hm
  have GR := iright_any (rdII l) (rdI_length l)
  have HSR : Hid (Src w (some ⟨bb, off, none⟩) l) := hsrc
  have hbb : bb < w.heap.size := by
    obtain ⟨b', off', h1, h2, _⟩ := hsrc.at' (by omega)
    cases h1; exact h2
  rw [hr] at GR
  have LA := fun W => ilay_any (rdII l) (rdI_length l) (rtB_inR hr) W
  have HBL : Hid ((layI (rdII l)).length = 64) := layI_length (rdI_length l)
  have HNE : Hid ((!(layI (rdII l) == l)) = false) := by rw [show (layI (rdII l) == l) = true from hne]; rfl
  clear hne
  have hat : ∀ w, (Instr.arrayAt 111 (.slice (some ⟨bb, off, none⟩) 64 cap)).run Tryz.prog w = .ok (.pointer (some ⟨bb, off, none⟩)) w := fun w => run_arrayAt w 111 _ 64 _ 64 cap Tryz.underlying111 (Nat.le_refl _)
  clear hsrc
  go_enter Tryz.func85, Tryz.ntmps85
  go_wp2_with fail
  refine (RD _ (HSR.out.below HB.out (Nat.le_refl _)) (by have := HB.out.size; omega)).mono ?_
  rintro e w2 ⟨rfl, h2⟩
  have HI2 : Hid (InoAt w2 w.heap.size zino) := HI.out.up h2
  have HB2 : Hid (Below w.heap.size w w2) := HB.out.trans (h2.mono HB.out.size)
  have hl2 := HI2.out.lt
  clear RD HI HB h2
  have HN : Hid (InoAt (w2.alloc (.cells (iA zino) 30)) w2.heap.size zino) := ino_new w2 zino rfl
  have HNB : Hid (Below w2.heap.size w2 (w2.alloc (.cells (iA zino) 30))) := (Below.refl _ _).alloc (Nat.le_refl _) _
  have HRL : Hid ((rdII l).ns.length = 8) := rdI_length l
  go_wp2_with (first | ((with_reducible show wpList _ _ _ ({ dst := _, op := Op.store 30 _ _, type := _, pos := _, after := _, guard := _ } :: _) _ _); refine wpList_store_ino rfl _ _ rfl (HN.out) HRL.out rfl rfl ?_; intro w3 H3 b3 z3))
  have f3 : Below w2.heap.size w2 w3 := HNB.out.trans b3
  have fw : Below w.heap.size w w3 := HB2.out.trans (f3.mono HB2.out.size)
  have g3 : GI w bb off l w2.heap.size w3 := ⟨fw, HI2.out.below f3 hl2, H3, HSR.out.below fw (Nat.le_refl _)⟩
  have gd := g3.up (Below.refl _ _).drew
  clear f3 fw g3 H3 b3 z3 HN HNB HI2 HB2 HSR
  refine wp_region_held_drew (S := (fun W => GI w bb off l w2.heap.size W)) (by kernel_rfl) gd (fun hH => ?_)
  refine takeH (i := 0) (dst := some 11) (v := ?v14) rfl rfl (by kernel_rfl) (by kernel_rfl) (by kernel_rfl) (fun _ _ _ h => h) rfl ?hy14 hH rfl ?rest14
  case hy14 => (intro W hW; refine exec_load_ino (x := Operand.tmp 4) hW.ino ?_ ?_ <;> rfl)
  (try simp only [Act.put, List.setIfInBounds_toArray, List.set_cons_zero, List.set_cons_succ])
  refine callH (i := 1) { dst := some 12, op := Go.Op.call { callee := Go.Callee.value (Go.Operand.func 54), args := #[Go.Operand.tmp 11], argTypes := #[30] }, type := 4, pos := "inode.go:94", after := #[{ on := 0, ground := Go.Ground.data }], guard := none } (by kernel_rfl) rfl rfl (fun K hK => ?_)
  go_simp
  refine (GR _).mono ?_
  rintro e v1 ⟨rfl, n1⟩
  have m1 := gd.up n1
  clear n1
  clear hH
  refine hK.out _ _ m1 (fun hH => ?_)
  clear hK K
  (try simp only [Act.put, List.setIfInBounds_toArray, List.set_cons_zero, List.set_cons_succ])
  refine takeH (i := 2) (dst := some 13) (v := ?v15) rfl rfl (by kernel_rfl) (by kernel_rfl) (by kernel_rfl) (fun _ _ _ h => h) rfl ?hy15 hH rfl ?rest15
  case hy15 => (intro W hW; clear hW; go_simp; try with_reducible rfl)
  (try simp only [Act.put, List.setIfInBounds_toArray, List.set_cons_zero, List.set_cons_succ])
  refine takeH (i := 3) (dst := some 14) (v := ?v16) rfl rfl (by kernel_rfl) (by kernel_rfl) (by kernel_rfl) (fun _ _ _ h => h) rfl ?hy16 hH rfl ?rest16
  case hy16 => (intro W hW; clear hW; go_simp; try with_reducible rfl)
  (try simp only [Act.put, List.setIfInBounds_toArray, List.set_cons_zero, List.set_cons_succ])
  refine takeH (i := 4) (dst := some 15) (v := ?v17) rfl rfl (by kernel_rfl) (by kernel_rfl) (by kernel_rfl) (fun _ _ _ h => h) rfl ?hy17 hH rfl ?rest17
  case hy17 => (intro W hW; refine exec_load_ino (x := Operand.tmp 4) hW.ino ?_ ?_ <;> rfl)
  (try simp only [Act.put, List.setIfInBounds_toArray, List.set_cons_zero, List.set_cons_succ])
  refine takeH (i := 6) (dst := some 17) (v := ?v18) rfl rfl (by kernel_rfl) (by kernel_rfl) (by kernel_rfl) (fun _ _ _ h => h) rfl ?hy18 hH rfl ?rest18
  case hy18 => (intro W hW; clear hW; go_simp; try with_reducible rfl)
  (try simp only [Act.put, List.setIfInBounds_toArray, List.set_cons_zero, List.set_cons_succ])
  refine takeH (i := 7) (dst := some 18) (v := ?v19) rfl rfl (by kernel_rfl) (by kernel_rfl) (by kernel_rfl) (fun _ _ _ h => h) rfl ?hy19 hH rfl ?rest19
  case hy19 => (intro W hW; clear hW; go_simp; try with_reducible rfl)
  (try simp only [Act.put, List.setIfInBounds_toArray, List.set_cons_zero, List.set_cons_succ])
  refine takeH (i := 8) (dst := some 19) (v := ?v20) rfl rfl (by kernel_rfl) (by kernel_rfl) (by kernel_rfl) (fun _ _ _ h => h) rfl ?hy20 hH rfl ?rest20
  case hy20 => (intro W hW; refine exec_load_64 (x := Operand.tmp 18) hW.src hl ?_ ?_ <;> rfl)
  (try simp only [Act.put, List.setIfInBounds_toArray, List.set_cons_zero, List.set_cons_succ])
  refine callH (i := 5) { dst := some 16, op := Go.Op.call { callee := Go.Callee.value (Go.Operand.func 55), args := #[Go.Operand.tmp 15], argTypes := #[30] }, type := 111, pos := "inode.go:94", after := #[{ on := 4, ground := Go.Ground.data }, { on := 3, ground := Go.Ground.chain }, { on := 3, ground := Go.Ground.guard }], guard := some (3, false) } (by kernel_rfl) rfl rfl (fun K hK => ?_)
  go_simp
  refine (LA _).mono ?_
  rintro e v2 ⟨rfl, n2⟩
  have m2 := m1.up n2
  clear n2
  clear hH
  refine hK.out _ _ m2 (fun hH => ?_)
  clear hK K
  (try simp only [Act.put, List.setIfInBounds_toArray, List.set_cons_zero, List.set_cons_succ])
  refine takeH (i := 9) (dst := some 20) (v := ?v21) rfl rfl (by kernel_rfl) (by kernel_rfl) (by kernel_rfl) (fun _ _ _ h => h) rfl ?hy21 hH rfl ?rest21
  case hy21 => (intro W hW; refine exec_neq_64 (X := Operand.tmp 16) (Y := Operand.tmp 19) HBL.out hl HNE.out ?_ ?_ ?_ <;> rfl)
  (try simp only [Act.put, List.setIfInBounds_toArray, List.set_cons_zero, List.set_cons_succ])
  refine takeH (i := 10) (dst := some 21) (v := ?v22) rfl rfl (by kernel_rfl) (by kernel_rfl) (by kernel_rfl) (fun _ _ _ h => h) rfl ?hy22 hH rfl ?rest22
  case hy22 => (intro W hW; clear hW; go_simp; try with_reducible rfl)
  (try simp only [Act.put, List.setIfInBounds_toArray, List.set_cons_zero, List.set_cons_succ])
  refine wpAnyH_done (by kernel_rfl) ?_ _
  clear hH
  have HM : Hid _ := m2
  clear m2 gd m1
  go_wp2_with (first | ((with_reducible show wpList _ _ _ ({ dst := _, op := Op.load 30 _, type := _, pos := _, after := _, guard := _ } :: _) _ _); refine wpList_load_ino rfl _ rfl (HM.out.ino) rfl ?_) | ((with_reducible show wpList _ _ _ ({ dst := _, op := Op.store 30 _ _, type := _, pos := _, after := _, guard := _ } :: _) _ _); refine wpList_store_ino rfl _ _ rfl (HM.out.res) HRL.out rfl rfl ?_; intro w7 H7 b7 z7))
  exact bodyPost_ret (results_ino rfl _ H7 rfl) rfl ⟨rfl, HM.out.b.trans b7⟩
/-- What Get answers. -/
def getI (l : List UInt8) : Ino := if formI l then rdII l else zino
def getEI (l : List UInt8) : Int := if l.length = 64 then (if formI l then 0 else 8) else 4
def getV (l : List UInt8) : Ino := if l.length = 64 then getI l else zino
theorem getV_length (l : List UInt8) : (getV l).ns.length = 8 := by
  unfold getV getI
  split
  · split
    · exact rdI_length l
    · rfl
  · rfl
theorem iget_any (sp : Option Addr) (cap : Nat) (l : List UInt8) (w : World) (ha : Arg w sp cap l) :
    Calls Tryz.prog 85 #[.slice sp l.length cap] w fun e w' => e = .returned (.tuple #[.agg (iA (getV l)), .int .i64 (getEI l)]) ∧ Below w.heap.size w w' := by
  by_cases hl : l.length = 64
  · have la := ha.len
    obtain ⟨b, off, rfl, _, _⟩ := ha.src.at' (by omega)
    unfold getV getEI getI
    rw [if_pos hl, if_pos hl]
    cases hr : rtB (rdII l)
    · rw [show formI l = false by unfold formI; rw [hr]; rfl]
      have := iget_bad b off cap l hl hr w ha.src (by omega) (by omega)
      rw [hl]
      exact this
    · cases hne : (layI (rdII l) == l)
      · rw [show formI l = false by unfold formI; rw [hr, hne]; rfl]
        have := iget_form b off cap l hl hr hne w ha.src (by omega) (by omega)
        rw [hl]
        exact this
      · rw [show formI l = true by unfold formI; rw [hr, hne]; rfl]
        have := iget_ok b off cap l hl hr hne w ha.src (by omega) (by omega)
        rw [hl]
        exact this
  · unfold getV getEI
    rw [if_neg hl, if_neg hl]
    exact iget_size sp l.length cap (by omega) w
end Go.Proofs.YtkiifmnmeikdlaaGreatDoor
/- leveeref01.Bytes, leveeref01.Get; append. -/
namespace Go.Proofs.YtkiifmnmeikdlaaGreatDoor
open Go.RowKit
set_option maxRecDepth 100000
attribute [local go_sem] wrapU
/-- 'append' onto bytes that leave no room, whosever they are: new memory. -/
theorem append_new {w : World} {base b off : Nat} {l m : List UInt8} {sp : Option Addr} (ty : TypeId) (cap c : Nat) (h : Src w (some ⟨b, off, none⟩) l) (hs : Src w sp m) (hm : 0 < m.length) (hcap : cap < l.length + m.length) (hbase : base ≤ w.heap.size) (hb : l.length + m.length ≤ 140737488355328) :
    ∃ v' w', (Builtin.append_ #[42, 42] ty #[.slice (some ⟨b, off, none⟩) l.length cap, .slice sp m.length c]).run Tryz.prog w = .ok v' w' ∧ Own w' base v' (l ++ m) ∧ Below base w w' := by
  obtain ⟨i0, hi, hz0, hz1, hz2⟩ := info_parts Tryz.info5
  obtain ⟨b2, off2, rfl, _, hc2⟩ := hs.at' hm
  have cs : ∀ (bb oo : Nat) (x : List UInt8), (∀ j, (hj : j < x.length) → w.cell? ⟨bb, oo + j, none⟩ = some (bv x[j])) → ∀ j u, (bvs x)[j]? = some u → w.cell? ((⟨bb, oo, none⟩ : Addr).add j) = some u := by
    intro bb oo x hx j u hj
    have hjl : j < x.length := by
      rcases Nat.lt_or_ge j x.length with h | h
      · exact h
      · rw [List.getElem?_eq_none (by rw [bvs_length]; exact h)] at hj; cases hj
    rw [addr_add, hx j hjl, ← hj]; simp [bvs, hjl]
  have hl1 : ∀ j, (hj : j < l.length) → w.cell? ⟨b, off + j, none⟩ = some (bv l[j]) := fun j hj => h.cell j hj
  have hr := run_append_grow (P := Tryz.prog) w 42 ty 5 i0 _ Tryz.underlying42 hi hz0 ⟨b, off, none⟩ l.length cap (bvs l) (by rw [bvs_length, hz1, Nat.mul_one]) (cs b off l hl1) ⟨b2, off2, none⟩ m.length c (bvs m) (by rw [bvs_length, hz1, Nat.mul_one]) (cs b2 off2 m hc2) hcap (by omega) (growslice_fits (by omega) (by rw [hz2]; omega))
  have hge := grownCap_ge w (l.length + m.length) cap 5
  have hcm : grownCap w (l.length + m.length) cap 5 ≤ maxLen := grownCap_le_maxLen w _ cap 5 (by unfold maxLen; omega)
  refine ⟨_, _, hr, ⟨by rw [bvs_length]; simp, .inr ⟨w.heap.size, _, _, by rw [List.length_append], hbase, heap_alloc_new w.drew _, by rw [List.length_append]; exact hge, hcm, ?_, ?_⟩⟩, ?_⟩
  · simp only [Array.size_append, List.size_toArray, size_zeroCells, bvs_length]
    show l.length + m.length + (grownCap w (l.length + m.length) cap 5 - (l.length + m.length)) * 1 = _
    omega
  · rw [Array.toList_append, Array.toList_append, bvs_append, show (bvs l).toArray.toList ++ (bvs m).toArray.toList = bvs l ++ bvs m from rfl, show (l ++ m).length * 1 = (bvs l ++ bvs m).length by simp [bvs_length]]
    exact List.take_left
  · exact (Below.refl _ _).drew.alloc hbase _
theorem wpList_append_new {w : World} {ops : Array Oper} {rest : List Oper} {o : Oper} {a : Act} {Q : Exit → Act → World → Prop} (hgd : o.guard = none) (s x : Operand)
    (ho : o.op = .call { callee := .builtin .append, args := #[s, x], argTypes := #[42, 42] }) (base : Nat) (l m : List UInt8) (b off cap : Nat) (hs : a.eval s = .slice (some ⟨b, off, none⟩) l.length cap) (sp : Option Addr) (n c : Nat) (hx : a.eval x = .slice sp n c) (hn : n = m.length)
    (hown : Src w (some ⟨b, off, none⟩) l) (hsrc : Src w sp m) (hm : 0 < m.length) (hcap : cap < l.length + m.length) (hbase : base ≤ w.heap.size) (hb : l.length + m.length ≤ 140737488355328)
    (h : ∀ v' w', Own w' base v' (l ++ m) → Below base w w' → wpList Tryz.prog ops Q rest (a.put o.dst v') w') : wpList Tryz.prog ops Q (o :: rest) a w := by
  subst hn
  refine wpList_plain hgd fun K hK => ?_
  obtain ⟨v', w', hrun, h1, h2⟩ := append_new o.type cap c hown hsrc hm hcap hbase hb
  unfold Oper.wp execOp
  simp only [ho, resolve, invoke, builtin]
  simp [hs, hx, hrun, Result.andThen]
  exact hK _ _ (h v' w' h1 h2)
theorem Own.mono {w : World} {base b' : Nat} {v : Value} {l : List UInt8} (h : Own w base v l) (hb : b' ≤ base) : Own w b' v l := by
  obtain ⟨h1, h2⟩ := h
  refine ⟨h1, ?_⟩
  rcases h2 with h2 | ⟨g, cap, cur, hv, hg, rest⟩
  · exact .inl h2
  · exact .inr ⟨g, cap, cur, hv, by omega, rest⟩
end Go.Proofs.YtkiifmnmeikdlaaGreatDoor
/- leveeref07.Right. -/
namespace Go.Proofs.YtkiifmnmeikdlaaGreatDoor
open Go.RowKit
set_option maxRecDepth 100000
/-- The first conditions of the document's Right. -/
def b4 (K L S D : Int) : Bool := decide (1 ≤ K ∧ K ≤ 3 ∧ 0 ≤ L ∧ L ≤ 1000 ∧ 0 ≤ S ∧ S ≤ 1066496 ∧ 1 ≤ D ∧ D ≤ 4611686018427387904)
def b5 (K S : Int) : Bool := decide ((K ≠ 2 ∨ S % 256 = 0) ∧ (K ≠ 3 ∨ (1 ≤ S ∧ S ≤ 255)))
end Go.Proofs.YtkiifmnmeikdlaaGreatDoor
/- leveeref07.Put. -/
namespace Go.Proofs.YtkiifmnmeikdlaaGreatDoor
open Go.RowKit
set_option maxRecDepth 100000
/-- An inode lies behind what there was. -/
structure PI (w0 : World) (i : Ino) (W : World) : Prop where
  b : Below w0.heap.size w0 W
  ino : InoAt W w0.heap.size i
theorem PI.up {w0 W W' : World} {i : Ino} (h : PI w0 i W) (hb : Below W.heap.size W W') : PI w0 i W' := ⟨h.b.trans (hb.mono h.b.size), h.ino.up hb⟩
theorem PI.start (w : World) (i : Ino) (hn : i.ns.length = 8) : PI w i (w.alloc (.cells (iA i) 30)) := ⟨(Below.refl _ _).alloc (Nat.le_refl _) _, ino_new w i hn⟩
attribute [local go_sem] wrapU
end Go.Proofs.YtkiifmnmeikdlaaGreatDoor
/- Slices of numbers: append; Ints. -/
namespace Go.Proofs.YtkiifmnmeikdlaaGreatDoor
open Go.RowKit
set_option maxRecDepth 100000
/-- From the address sp on lie the numbers l. -/
def SrcI (w : World) (sp : Option Addr) (l : List Int) : Prop :=
  l = [] ∨ ∃ b off, sp = some ⟨b, off, none⟩ ∧ b < w.heap.size ∧ ∀ j, j < l.length → w.cell? ⟨b, off + j, none⟩ = some (.int .i64 (l.getD j 0))
theorem SrcI.nil (w : World) (sp : Option Addr) : SrcI w sp [] := .inl rfl
end Go.Proofs.YtkiifmnmeikdlaaGreatDoor
/- leveelaw07.known. -/
namespace Go.Proofs.YtkiifmnmeikdlaaGreatDoor
open Go.RowKit
set_option maxRecDepth 100000
theorem Blk.arg {w : World} {g : Nat} {t : TypeId} {l : List UInt8} (h : Blk w g t l) (h0 : 0 < l.length) (hl : l.length ≤ 140737488355328) : Arg w (some ⟨g, 0, none⟩) l.length l :=
  .inr ⟨g, 0, rfl, h0, Nat.le_refl _, by omega, hl, h.src⟩
end Go.Proofs.YtkiifmnmeikdlaaGreatDoor
/- Get of Put is the inode. -/
namespace Go.Proofs.YtkiifmnmeikdlaaGreatDoor
open Go.RowKit
set_option maxRecDepth 100000
/-- What Put answers. -/
def putX (i : Ino) : List UInt8 := if rtB i then layI i else []
def putE (i : Ino) : Int := if rtB i then 0 else 1
theorem iput_any (i : Ino) (hn : i.ns.length = 8) (w : World) :
    Calls Tryz.prog 29 #[.agg (iA i)] w fun e w' => ∃ sp cap, e = .returned (.tuple #[.slice sp (putX i).length cap, .int .i64 (putE i)]) ∧ Arg w' sp cap (putX i) ∧ (∀ b o, sp = some ⟨b, o, none⟩ → w.heap.size ≤ b) ∧ Below w.heap.size w w' := by
  unfold putX putE
  cases hr : rtB i
  · refine (iput_no i hn hr w).mono ?_
    rintro e w' ⟨rfl, hb⟩
    exact ⟨none, 0, rfl, .inl ⟨rfl, by simp⟩, (fun _ _ h => by cases h), hb⟩
  · refine (iput_yes i hn hr w).mono ?_
    rintro e w' ⟨G, rfl, hg, hG, hb⟩
    have hl := layI_length hn
    refine ⟨some ⟨G, 0, none⟩, 64, ?_, ?_, (fun b o h => by cases h; exact hG), hb⟩
    · rw [if_pos rfl, if_pos rfl, hl]
    · have := hg.arg (by omega) (by omega)
      rw [hl] at this
      exact this
end Go.Proofs.YtkiifmnmeikdlaaGreatDoor
/- num.Lay, leveeref01.Lay, leveeref01.Spoil. -/
namespace Go.Proofs.YtkiifmnmeikdlaaGreatDoor
open Go.RowKit
set_option maxRecDepth 100000
/-- May n bytes be taken from the place 'from' on, of so many? -/
def inB (len : Nat) (f n : Int) : Bool := decide (0 ≤ f) && decide (0 ≤ n) && decide (f ≤ len) && decide (n ≤ len - f)
set_option maxHeartbeats 1000000 in
theorem within_any (sp : Option Addr) (len cap : Nat) (f n : Int) (w : World) (hl : (len : Int) ≤ 140737488355328) (hf : -9223372036854775808 ≤ f ∧ f ≤ 9223372036854775807) :
    Calls Tryz.prog 166 #[.slice sp len cap, .int .i64 f, .int .i64 n] w fun e w' => e = .returned (.bool (inB len f n)) ∧ w' = w := by
  by_cases h1 : 0 ≤ f
  · by_cases h2 : 0 ≤ n
    · by_cases h3 : f ≤ len
      · go_enter Tryz.func166, Tryz.ntmps166
        go_wp2
        all_goals (go_ret; refine ⟨?_, rfl⟩; simp [inB, h1, h2, h3]; try omega)
      · go_enter Tryz.func166, Tryz.ntmps166
        go_wp2
        all_goals (go_ret; refine ⟨?_, rfl⟩; simp [inB, h1, h2]; omega)
    · go_enter Tryz.func166, Tryz.ntmps166
      go_wp2
      all_goals (go_ret; refine ⟨?_, rfl⟩; simp [inB, h1]; omega)
  · go_enter Tryz.func166, Tryz.ntmps166
    go_wp2
    all_goals (go_ret; refine ⟨?_, rfl⟩; simp [inB]; omega)
def errR (ok : Bool) : Int := if ok then 0 else 3
/-- What Lay answers. -/
def layLI (l : List UInt8) (f : Int) (c : List UInt8) : List UInt8 := if inB l.length f c.length then l.take f.toNat ++ c ++ l.drop (f.toNat + c.length) else []
set_option maxHeartbeats 1000000 in
theorem lay_any (sp sc : Option Addr) (l c : List UInt8) (cap cc : Nat) (f : Int) (w : World) (hs : Src w sp l) (hsc : Src w sc c) (hl : l.length ≤ 140737488355328) (hcl : c.length ≤ 140737488355328) (hf : -9223372036854775808 ≤ f ∧ f ≤ 9223372036854775807) :
    Calls Tryz.prog 136 #[.slice sp l.length cap, .int .i64 f, .slice sc c.length cc] w fun e w' => ∃ v, e = .returned (.tuple #[v, .int .i64 (errR (inB l.length f c.length))]) ∧ Own w' w.heap.size v (layLI l f c) ∧ Below w.heap.size w w' := by
  cases hin : inB l.length f c.length with
  | false =>
    go_enter Tryz.func136, Tryz.ntmps136
    go_wp2_with fail
    refine (within_any _ _ _ _ _ _ (by omega) hf).mono ?_
    rintro e w1 ⟨rfl, rfl⟩
    rw [hin]
    go_wp2
    go_ret2
    refine ⟨_, rfl, ?_, Below.refl _ _⟩
    rw [layLI, hin]; exact Own.nil _ _
  | true =>
    have hin' := hin
    simp [inB] at hin'
    obtain ⟨F, rfl⟩ := Int.eq_ofNat_of_zero_le hin'.1.1
    have hL : layLI l F c = l.take F ++ c ++ l.drop (F + c.length) := by rw [layLI, hin]; simp
    have hLl : (layLI l F c).length = l.length := by rw [hL]; simp; omega
    have hmk := make_any w l.length l.length (Nat.le_refl _) (by omega)
    have hg0 : Blk (w.alloc (.cells (bvs (List.replicate l.length 0)).toArray 5)) w.heap.size 5 (List.replicate l.length 0) := heap_alloc_new _ _
    have hb0 : Below w.heap.size w (w.alloc (.cells (bvs (List.replicate l.length 0)).toArray 5)) := (Below.refl _ _).alloc (Nat.le_refl _) _
    obtain ⟨w1, hrun, hg1, hb1, hz1⟩ := copy_any (off := 0) (dLen := l.length) l.length l.length cap hg0 (hs.below hb0 (Nat.le_refl _)) rfl (by simp)
    have e1 : List.take 0 (List.replicate l.length (0 : UInt8)) ++ l.take l.length ++ List.drop (0 + min l.length l.length) (List.replicate l.length 0) = l := by simp
    rw [e1] at hg1
    rw [Nat.min_self] at hrun
    have hb2 := hb0.trans hb1
    have hsc1 := hsc.below hb2 (Nat.le_refl _)
    have hlt := hg1.lt
    rcases (show (F : Int) = l.length ∨ (F : Int) < l.length by omega) with hc | hc
    · have hc0 : c = [] := List.eq_nil_of_length_eq_zero (by omega)
      have hF : F = l.length := by omega
      have hown : Own w1 w.heap.size (.slice (some ⟨w.heap.size, 0, none⟩) l.length l.length) (layLI l F c) := by
        have := hg1.own (Nat.le_refl _) hl
        rw [hL, hc0, hF]; simpa using this
      have hcn := run_copy_none (P := Tryz.prog) w1 42 42 3 5 (some ⟨w.heap.size, 0, none⟩) sc 0 0 c.length cc Tryz.underlying42 Tryz.elem1 (by simp)
      subst hF
      clear hc hc0 hL hLl e1 hg1 hg0
      go_enter Tryz.func136, Tryz.ntmps136
      go_wp2_with fail
      refine (within_any _ _ _ _ _ _ (by omega) hf).mono ?_
      rintro e w2 ⟨rfl, rfl⟩
      rw [hin]
      go_wp2
      go_ret2
      exact ⟨_, rfl, hown, hb2⟩
    · obtain ⟨w2, hrun2, hg2, hb3, hz2⟩ := copy_any (off := F) (dLen := l.length - F) (l.length - F) c.length cc hg1 hsc1 rfl (by omega)
      have hown : Own w2 w.heap.size (.slice (some ⟨w.heap.size, 0, none⟩) l.length l.length) (layLI l F c) := by
        have e2 : l.take F ++ c.take (l.length - F) ++ l.drop (F + min c.length (l.length - F)) = layLI l F c := by
          rw [hL, List.take_of_length_le (l := c) (by omega), Nat.min_eq_left (by omega)]
        rw [e2] at hg2
        have := hg2.own (Nat.le_refl _) (by omega)
        rw [hLl] at this; exact this
      clear hL hLl e1 hg1 hg0 hg2
      go_enter Tryz.func136, Tryz.ntmps136
      go_wp2_with fail
      refine (within_any _ _ _ _ _ _ (by omega) hf).mono ?_
      rintro e w3 ⟨rfl, rfl⟩
      rw [hin]
      go_wp2
      go_ret2
      exact ⟨_, rfl, hown, hb2.trans hb3⟩
end Go.Proofs.YtkiifmnmeikdlaaGreatDoor
/- inode.start, Read, Lay, and the document's. -/
namespace Go.Proofs.YtkiifmnmeikdlaaGreatDoor
open Go.RowKit
set_option maxRecDepth 100000
/-- The error of a place of a block. -/
def stE (n : Nat) (p : Int) : Int := if n = 256 then (if 0 ≤ p ∧ p < 4 then 0 else 3) else 4
def stP (n : Nat) (p : Int) : Int := if n = 256 then (if 0 ≤ p ∧ p < 4 then p * 64 else 0) else 0
set_option maxHeartbeats 1000000 in
theorem start_any (sp : Option Addr) (n cap : Nat) (p : Int) (w : World) :
    Calls Tryz.prog 84 #[.slice sp n cap, .int .i64 p] w fun e w' => e = .returned (.tuple #[.int .i64 (stP n p), .int .i64 (stE n p)]) ∧ w' = w := by
  unfold stP stE
  by_cases hn : (n : Int) = 256
  · have hn' : n = 256 := by omega
    rw [if_pos hn', if_pos hn']
    clear hn'
    by_cases h0 : p < 0
    · rw [if_neg (by omega), if_neg (by omega)]
      go_enter Tryz.func84, Tryz.ntmps84
      go_wp2
      go_ret2
      exact ⟨rfl, rfl⟩
    by_cases h1 : 4 ≤ p
    · rw [if_neg (by omega), if_neg (by omega)]
      go_enter Tryz.func84, Tryz.ntmps84
      go_wp2
      go_ret2
      exact ⟨rfl, rfl⟩
    · rw [if_pos (by omega), if_pos (by omega)]
      go_enter Tryz.func84, Tryz.ntmps84
      go_wp2
      go_ret2
      exact ⟨rfl, rfl⟩
  · have hn' : ¬ n = 256 := by omega
    rw [if_neg hn', if_neg hn']
    clear hn'
    go_enter Tryz.func84, Tryz.ntmps84
    go_wp2
    go_ret2
    exact ⟨rfl, rfl⟩
theorem Arg.part {w : World} {b off cap : Nat} {l : List UInt8} (h : Arg w (some ⟨b, off, none⟩) cap l) (o k : Nat) (h0 : 0 < k) (hl : o + k ≤ l.length) : Arg w (some ⟨b, off + o, none⟩) (cap - o) ((l.drop o).take k) := by
  have la := h.len
  have hs := h.src.part o k (by omega) hl
  exact .inr ⟨b, off + o, rfl, by omega, by simp; omega, by omega, by simp; omega, hs⟩
set_option maxHeartbeats 4000000 in
theorem ireadT_ok (b off cap : Nat) (l : List UInt8) (P : Nat) (hl : l.length = 256) (hP : (P : Int) < 4) (w : World) (ha : Arg w (some ⟨b, off, none⟩) cap l) :
    Calls Tryz.prog 49 #[.slice (some ⟨b, off, none⟩) 256 cap, .int .i64 (P : Int)] w fun e w' => e = .returned (.tuple #[.agg (iA (getV ((l.drop (64 * P)).take 64))), .int .i64 (getEI ((l.drop (64 * P)).take 64))]) ∧ Below w.heap.size w w' := by
  have la := ha.len
  have hz := zeroI
  have HB : Hid (Below w.heap.size w (w.alloc (.cells (iA zino) 30))) := (Below.refl _ _).alloc (Nat.le_refl _) _
  have HI : Hid (InoAt (w.alloc (.cells (iA zino) 30)) w.heap.size zino) := ino_new w zino rfl
  have hsl := slice_sl b off 256 cap (64 * P) 64 ((P : Int) * 64) ((P : Int) * 64 + 64) (by omega) (by omega) (by omega) (by omega)
  have GT := fun W (h : Below w.heap.size w W) => iget_any (some ⟨b, off + 64 * P, none⟩) (cap - 64 * P) ((l.drop (64 * P)).take 64) W ((ha.part (64 * P) 64 (by omega) (by omega)).below h (Nat.le_refl _))
  rw [show ((l.drop (64 * P)).take 64).length = 64 by simp [hl]; omega] at GT
  have HL : Hid ((getV ((l.drop (64 * P)).take 64)).ns.length = 8) := getV_length _
  generalize getV ((l.drop (64 * P)).take 64) = X at *
  generalize getEI ((l.drop (64 * P)).take 64) = E at *
  clear ha
  have ST := start_any (some ⟨b, off, none⟩) 256 cap (P : Int)
  rw [show stP 256 (P : Int) = (P : Int) * 64 by unfold stP; rw [if_pos rfl, if_pos (by omega)], show stE 256 (P : Int) = 0 by unfold stE; rw [if_pos rfl, if_pos (by omega)]] at ST
  go_enter Tryz.func49, Tryz.ntmps49
  go_wp2_with fail
  refine (ST _).mono ?_
  rintro e w1 ⟨rfl, hw1⟩
  rw [hw1]
  clear hw1 w1 ST
  go_wp2_with fail
  refine (GT _ HB.out).mono ?_
  rintro e w2 ⟨rfl, h2⟩
  have HI2 : Hid _ := HI.out.up h2
  have HB2 : Hid (Below w.heap.size w w2) := HB.out.trans (h2.mono HB.out.size)
  clear HI HB GT h2
  go_wp2_with (first | ((with_reducible show wpList _ _ _ ({ dst := _, op := Op.store 30 _ _, type := _, pos := _, after := _, guard := _ } :: _) _ _); refine wpList_store_ino rfl _ _ rfl (HI2.out) HL.out rfl rfl ?_; intro w4 H4 b4 z4))
  exact bodyPost_ret (results_ino rfl _ H4 rfl) rfl ⟨rfl, HB2.out.trans b4⟩
end Go.Proofs.YtkiifmnmeikdlaaGreatDoor
/- inode.Lay, leveeref07.Lay. -/
namespace Go.Proofs.YtkiifmnmeikdlaaGreatDoor
open Go.RowKit
set_option maxRecDepth 100000
theorem in_tab (P : Nat) (hP : (P : Int) < 4) (f : Int) (hf : f = (P : Int) * 64) : inB 256 f 64 = true := by
  unfold inB; simp; omega
theorem layL_at (l c : List UInt8) (P : Nat) (hl : l.length = 256) (hc : c.length = 64) (hP : (P : Int) < 4) (f : Int) (hf : f = (P : Int) * 64) : layLI l f c = layAt l (64 * P) c := by
  unfold layLI layAt
  rw [hl, hc, show ((64 : Nat) : Int) = 64 from rfl, in_tab P hP f hf, if_pos rfl, hf, show ((P : Int) * 64).toNat = 64 * P by omega]
set_option maxHeartbeats 4000000 in
theorem ilayT_bad (sp : Option Addr) (cap : Nat) (P : Nat) (i : Ino) (hn : i.ns.length = 8) (hP : (P : Int) < 4) (hr : rtB i = false) (w : World) :
    Calls Tryz.prog 108 #[.slice sp 256 cap, .int .i64 (P : Int), .agg (iA i)] w fun e w' => e = .returned (.tuple #[.slice none 0 0, .int .i64 1]) ∧ Below w.heap.size w w' := by
  have HX : Hid _ := PI.start w i hn
  have PN := iput_no i hn hr
  have ST := start_any sp 256 cap (P : Int)
  rw [show stP 256 (P : Int) = (P : Int) * 64 by unfold stP; rw [if_pos rfl, if_pos (by omega)], show stE 256 (P : Int) = 0 by unfold stE; rw [if_pos rfl, if_pos (by omega)]] at ST
  go_enter Tryz.func108, Tryz.ntmps108
  go_wp2_with fail
  refine (ST _).mono ?_
  rintro e w1 ⟨rfl, hw1⟩
  rw [hw1]
  clear hw1 w1 ST
  go_wp2_with (first | ((with_reducible show wpList _ _ _ ({ dst := _, op := Op.load 30 _, type := _, pos := _, after := _, guard := _ } :: _) _ _); refine wpList_load_ino rfl _ rfl (HX.out.ino) rfl ?_))
  refine (PN _).mono ?_
  rintro e w2 ⟨rfl, h2⟩
  have HB := (HX.out.up h2).b
  go_wp2
  go_ret2
  exact ⟨rfl, HB⟩
set_option maxHeartbeats 4000000 in
theorem ilayT_ok (sp : Option Addr) (cap : Nat) (l : List UInt8) (P : Nat) (i : Ino) (hn : i.ns.length = 8) (hl : l.length = 256) (hP : (P : Int) < 4) (hr : rtB i = true) (w : World) (ha : Arg w sp cap l) :
    Calls Tryz.prog 108 #[.slice sp 256 cap, .int .i64 (P : Int), .agg (iA i)] w fun e w' => ∃ v, e = .returned (.tuple #[v, .int .i64 0]) ∧ Own w' w.heap.size v (layAt l (64 * P) (layI i)) ∧ Below w.heap.size w w' := by
  have HX : Hid _ := PI.start w i hn
  have PY := iput_any i hn
  have hli := layI_length hn
  rw [show putX i = layI i by unfold putX; rw [hr]; rfl, show putE i = 0 by unfold putE; rw [hr]; rfl, hli] at PY
  have HLE : Hid _ := layL_at l (layI i) P hl hli hP ((P : Int) * 64) (by omega)
  have HIN := in_tab P hP ((P : Int) * 64) (by omega)
  have HLY : Hid (∀ W (sc : Option Addr) (cc : Nat), Below w.heap.size w W → Arg W sc cc (layI i) → Calls Tryz.prog 136 #[.slice sp 256 cap, .int .i64 ((P : Int) * 64), .slice sc 64 cc] W fun e w' => ∃ v, e = .returned (.tuple #[v, .int .i64 0]) ∧ Own w' W.heap.size v (layAt l (64 * P) (layI i)) ∧ Below W.heap.size W w') := by
    intro W sc cc hW hc
    have h := lay_any sp sc l (layI i) cap cc ((P : Int) * 64) W (ha.src.below hW (Nat.le_refl _)) hc.src (by omega) (by omega) (by omega)
    rw [hl, hli, show ((64 : Nat) : Int) = 64 from rfl, HIN, HLE.out] at h
    exact h
  clear hr ha hl HLE hli HIN
  have ST := start_any sp 256 cap (P : Int)
  rw [show stP 256 (P : Int) = (P : Int) * 64 by unfold stP; rw [if_pos rfl, if_pos (by omega)], show stE 256 (P : Int) = 0 by unfold stE; rw [if_pos rfl, if_pos (by omega)]] at ST
  go_enter Tryz.func108, Tryz.ntmps108
  go_wp2_with fail
  refine (ST _).mono ?_
  rintro e w1 ⟨rfl, hw1⟩
  rw [hw1]
  clear hw1 w1 ST
  go_wp2_with (first | ((with_reducible show wpList _ _ _ ({ dst := _, op := Op.load 30 _, type := _, pos := _, after := _, guard := _ } :: _) _ _); refine wpList_load_ino rfl _ rfl (HX.out.ino) rfl ?_))
  refine (PY _).mono ?_
  rintro e w2 ⟨sc, cc, rfl, hc, _, h2⟩
  have HB2 : Hid (Below w.heap.size w w2) := (HX.out.up h2).b
  have HC2 : Hid (Arg w2 sc cc (layI i)) := hc
  clear HX PY hc h2
  go_wp2_with fail
  refine (HLY.out _ sc cc HB2.out HC2.out).mono ?_
  rintro e w3 ⟨v, rfl, ho, h3⟩
  have hB := HB2.out.trans (h3.mono HB2.out.size)
  go_wp2
  go_ret2
  exact ⟨_, rfl, ho.mono HB2.out.size, hB⟩
end Go.Proofs.YtkiifmnmeikdlaaGreatDoor
/- A disk in memory: what its cells hold, and what of it stands behind writes elsewhere. -/
namespace Go.Proofs.YtkiifmnmeikdlaaGreatDoor
open Go.RowKit
set_option maxRecDepth 100000
/-- The disk at block p, of n blocks: its row of blocks at q; of block i the safe bytes sf i, the slice of its writes vs i, the writes ws i. -/
structure DiskAt (w : World) (base p n : Nat) (en : Bool) (lf : Int) (sf : Nat → List UInt8) (ws : Nat → List (List UInt8)) (q : Nat) (vs : Nat → Value) : Prop where
  pb : base ≤ p
  qb : base ≤ q
  pq : p ≠ q
  nn : n ≤ 4096
  c0 : ∃ c : Nat, n ≤ c ∧ (c : Int) ≤ 9223372036854775807 ∧ w.cell? ⟨p, 0, none⟩ = some (.slice (some ⟨q, 0, none⟩) n c)
  c1 : w.cell? ⟨p, 1, none⟩ = some (.bool en)
  c2 : w.cell? ⟨p, 2, none⟩ = some (.int .i64 lf)
  fp : ∀ o, w.frozen? ⟨p, o, none⟩ = false
  fq : ∀ o, w.frozen? ⟨q, o, none⟩ = false
  ql : q < w.heap.size
  row : ∀ i, i < n → w.rangeAt q (i * 257) (bvs (sf i)) ∧ (sf i).length = 256 ∧ w.cell? ⟨q, i * 257 + 256, none⟩ = some (vs i)
  wr : ∀ i, i < n → w.ownsRow base 147 256 (vs i) (ws i).length ((ws i).flatMap bvs) ∧ (∀ x ∈ ws i, x.length = 256) ∧ (vs i).ownBlock ≠ some p ∧ (vs i).ownBlock ≠ some q
  ap : ∀ i j, i < n → j < n → i ≠ j → (vs i).ownBlock = none ∨ (vs i).ownBlock ≠ (vs j).ownBlock
theorem owns_below {w w' : World} {base B e size : Nat} {v : Value} {n : Nat} {xs : List Value} (h : w.ownsRow base e size v n xs) (hb : Below B w w') (hB : w.heap.size ≤ B) : w'.ownsRow base e size v n xs := by
  obtain ⟨h1, h2⟩ := h
  refine ⟨h1, ?_⟩
  rcases h2 with h2 | ⟨g, cap, cur, hv, hg, hh, r⟩
  · exact .inl h2
  · have hlt : g < w.heap.size := (Array.getElem?_eq_some_iff.1 hh).1
    exact .inr ⟨g, cap, cur, hv, hg, by rw [hb.block g (by omega)]; exact hh, r⟩
theorem range_below {w w' : World} {b o : Nat} {cs : List Value} (h : w.rangeAt b o cs) {B : Nat} (hb : Below B w w') (hB : b < B) : w'.rangeAt b o cs := fun j v hv => (hb.cell (p := ⟨b, o + j, none⟩) hB).trans (h j v hv)
theorem DiskAt.pl {w : World} {base p n : Nat} {en : Bool} {lf : Int} {sf : Nat → List UInt8} {ws : Nat → List (List UInt8)} {q : Nat} {vs : Nat → Value} (h : DiskAt w base p n en lf sf ws q vs) : p < w.heap.size := h.c0.elim fun _ hc => block_lt_of_cell hc.2.2
theorem DiskAt.below {w w' : World} {base p n : Nat} {en : Bool} {lf : Int} {sf : Nat → List UInt8} {ws : Nat → List (List UInt8)} {q : Nat} {vs : Nat → Value} (h : DiskAt w base p n en lf sf ws q vs) {B : Nat} (hb : Below B w w') (hB : w.heap.size ≤ B) : DiskAt w' base p n en lf sf ws q vs := by
  have hp := h.pl
  have hq := h.ql
  exact {
    pb := h.pb, qb := h.qb, pq := h.pq, nn := h.nn,
    c0 := h.c0.imp fun _ hc => ⟨hc.1, hc.2.1, (hb.cell (p := ⟨p, 0, none⟩) (show p < B by omega)).trans hc.2.2⟩,
    c1 := (hb.cell (p := ⟨p, 1, none⟩) (show p < B by omega)).trans h.c1,
    c2 := (hb.cell (p := ⟨p, 2, none⟩) (show p < B by omega)).trans h.c2,
    fp := fun o => (hb.frozen (p := ⟨p, o, none⟩) (show p < B by omega)).trans (h.fp o),
    fq := fun o => (hb.frozen (p := ⟨q, o, none⟩) (show q < B by omega)).trans (h.fq o),
    ql := by have := hb.size; omega,
    row := fun i hi => ⟨range_below (h.row i hi).1 hb (by omega), (h.row i hi).2.1, (hb.cell (p := ⟨q, i * 257 + 256, none⟩) (show q < B by omega)).trans (h.row i hi).2.2⟩,
    wr := fun i hi => ⟨owns_below (h.wr i hi).1 hb hB, (h.wr i hi).2⟩,
    ap := h.ap }
section
variable {w : World} {base p n : Nat} {en : Bool} {lf : Int} {sf : Nat → List UInt8} {ws : Nat → List (List UInt8)} {q : Nat} {vs : Nat → Value}
set_option maxHeartbeats 1000000 in
theorem find_any (h : DiskAt w base p n en lf sf ws q vs) (b : Nat) (hb : b < n) :
    Calls Tryz.prog 81 #[.pointer (some ⟨p, 0, none⟩), .int .i64 (b : Int)] w fun e w' => e = .returned (.tuple #[.pointer (some ⟨q, b * 257, none⟩), .int .i64 0]) ∧ w' = w := by
  have hn := h.nn
  obtain ⟨cq, hcq1, hcq2, c0⟩ := h.c0
  have hb' : (b : Int) < n := by omega
  have hn' : (n : Int) ≤ 4096 := by omega
  clear h
  go_enter Tryz.func81, Tryz.ntmps81
  go_wp2
  go_ret2
  exact ⟨rfl, rfl⟩
set_option maxHeartbeats 1000000 in
theorem len_any (h : DiskAt w base p n en lf sf ws q vs) :
    Calls Tryz.prog 22 #[.pointer (some ⟨p, 0, none⟩)] w fun e w' => e = .returned (.int .i64 (n : Int)) ∧ w' = w := by
  obtain ⟨cq, hcq1, hcq2, c0⟩ := h.c0
  clear h
  go_enter Tryz.func22, Tryz.ntmps22
  go_wp2
  go_ret
  exact ⟨rfl, rfl⟩
theorem DiskAt.len (h : DiskAt w base p n en lf sf ws q vs) (b : Nat) (hb : b < n) : ∃ ao cap, vs b = .slice ao (ws b).length cap := by
  obtain ⟨_, h2⟩ := (h.wr b hb).1
  rcases h2 with ⟨h2, h3⟩ | ⟨g, cap, _, hv, _⟩
  · exact ⟨none, 0, by rw [h2, h3]⟩
  · exact ⟨_, cap, hv⟩
set_option maxHeartbeats 1000000 in
theorem writes_any (h : DiskAt w base p n en lf sf ws q vs) (b : Nat) (hb : b < n) :
    Calls Tryz.prog 122 #[.pointer (some ⟨p, 0, none⟩), .int .i64 (b : Int)] w fun e w' => e = .returned (.int .i64 ((ws b).length : Int)) ∧ w' = w := by
  obtain ⟨ao, cap, hv⟩ := h.len b hb
  have cw := (h.row b hb).2.2
  rw [hv] at cw
  have FIND := find_any h b hb
  clear h hv
  go_enter Tryz.func122, Tryz.ntmps122
  go_wp2_with fail
  refine FIND.mono ?_
  rintro e w1 ⟨rfl, rfl⟩
  clear FIND
  go_wp2
  go_ret
  exact ⟨rfl, rfl⟩
set_option maxHeartbeats 1000000 in
theorem stopped_any (h : DiskAt w base p n en lf sf ws q vs) :
    Calls Tryz.prog 146 #[.pointer (some ⟨p, 0, none⟩)] w fun e w' => e = .returned (.bool (en && (lf == 0))) ∧ w' = w := by
  have c1 := h.c1
  have c2 := h.c2
  clear h
  cases en with
  | false =>
    go_enter Tryz.func146, Tryz.ntmps146
    go_wp2
    go_ret
    exact ⟨rfl, rfl⟩
  | true =>
    go_enter Tryz.func146, Tryz.ntmps146
    go_wp2
    go_ret
    exact ⟨rfl, rfl⟩
end
end Go.Proofs.YtkiifmnmeikdlaaGreatDoor
/- block.last, Disk.goes, block.settle. -/
namespace Go.Proofs.YtkiifmnmeikdlaaGreatDoor
open Go.RowKit
set_option maxRecDepth 100000
theorem Tryz.zero147 : ∃ Z : Array Value, (∀ w, (zeroValue 147).run Tryz.prog w = .ok (.agg Z) w) ∧ Z.size = 256 ∧ (Tryz.prog.info? 147).map (·.size) = some 256 ∧ Hid (Z = (bvs (List.replicate 256 0)).toArray) := by
  have h : (Tryz.prog.info? 147).map (fun i => (i.zero, i.size)) = some (some (.agg (bvs (List.replicate 256 0)).toArray), 256) := by kernel_rfl
  obtain ⟨h1, h2⟩ := zero_of_info h
  exact ⟨_, h1, by rw [List.size_toArray, bvs_length, List.length_replicate], h2, rfl⟩
/-- What block i reads as. -/
def lastOf (sf : List UInt8) : List (List UInt8) → List UInt8
  | [] => sf
  | x :: r => (x :: r).getLast (by simp)
/-- The store of a whole array into a block that is known whole. -/
theorem wpList_store_blk {ops : Array Oper} {rest : List Oper} {op : Oper} {a : Act} {w : World} {Q : Exit → Act → World → Prop} (hgd : op.guard = none) (x y : Operand) (ho : op.op = .store 147 x y)
    (g : Nat) (cur : Array Value) (s : List UInt8) (hx : a.eval x = .pointer (some ⟨g, 0, none⟩)) (hy : a.eval y = .agg (bvs s).toArray)
    (hg : w.heap[g]? = some (.cells cur 147 (0, 0))) (hc : cur.size = 256) (hs : s.length = 256) (B : Nat) (w0 : World) (hb : Below B w0 w) (hB : B ≤ g)
    (h : ∀ w', Blk w' g 147 s → Below B w0 w' → Below g w w' → w'.heap.size = w.heap.size → wpList Tryz.prog ops Q rest (a.put op.dst undef) w') : wpList Tryz.prog ops Q (op :: rest) a w := by
  obtain ⟨Z, _, _, hinfo, _⟩ := Tryz.zero147
  refine wpList_plain hgd fun K hK => ?_
  have hsz : (bvs s).toArray.size = 256 := by rw [List.size_toArray, bvs_length, hs]
  have hrun := run_storeVar_row (P := Tryz.prog) w g 147 147 cur (bvs s).toArray hg (by rw [hinfo, hsz]) (by rw [hc, hsz]) (all_oneCell_toArray (bvs_one _))
  unfold Oper.wp execOp
  simp only [ho, hx, hy, Instr.storeAt, Instr.sureAddr, Sem.run_bind, Sem.run_pure, Result.andThen_ok, hrun]
  exact hK _ _ (h _ (setRow_heap w g _ _ 147 _ hg) (below_setRow hb hB _) (below_setRow (Below.refl _ _) (Nat.le_refl _) _) (by simp))
/-- The load of a whole array out of the middle of a block. -/
theorem wpList_load_img {ops : Array Oper} {rest : List Oper} {op : Oper} {a : Act} {w : World} {Q : Exit → Act → World → Prop} (hgd : op.guard = none) (x : Operand) (ho : op.op = .load 147 x)
    (b o : Nat) (hx : a.eval x = .pointer (some ⟨b, o, none⟩)) (s : List UInt8) (hc : w.rangeAt b o (bvs s)) (hs : s.length = 256)
    (h : wpList Tryz.prog ops Q rest (a.put op.dst (.agg (bvs s).toArray)) w) : wpList Tryz.prog ops Q (op :: rest) a w := by
  obtain ⟨Z, _, _, hinfo, _⟩ := Tryz.zero147
  exact wpList_load_mid hgd 147 x ho b o hx _ _ hc Tryz.underlying147 rfl (by rw [hinfo, bvs_length, hs]) h
theorem lastOf_length {sf : List UInt8} {ws : List (List UInt8)} (h1 : sf.length = 256) (h2 : ∀ x ∈ ws, x.length = 256) : (lastOf sf ws).length = 256 := by
  cases ws with
  | nil => exact h1
  | cons x r => exact h2 _ (List.getLast_mem _)
theorem flat_at : ∀ (ws : List (List UInt8)) (j : Nat) (h : j < ws.length), (∀ x ∈ ws, x.length = 256) → ((ws.flatMap bvs).drop (j * 256)).take 256 = bvs ws[j]
  | x :: r, 0, _, hl => by
    have := hl x (by simp)
    simp [List.flatMap_cons, bvs_length, this]
  | x :: r, j + 1, h, hl => by
    have hx := hl x (by simp)
    rw [List.flatMap_cons, Nat.add_mul, Nat.one_mul, Nat.add_comm, List.drop_append, List.drop_eq_nil_of_le (by rw [bvs_length]; omega), List.nil_append, bvs_length, hx, Nat.add_sub_cancel_left]
    exact flat_at r j (by simpa using h) (fun y hy => hl y (by simp [hy]))
theorem range_take {w : World} {b o : Nat} {cs : List Value} (h : w.rangeAt b o cs) (k n : Nat) : w.rangeAt b (o + k) ((cs.drop k).take n) := fun j v hv => by
  have hj : j < ((cs.drop k).take n).length := (List.getElem?_eq_some_iff.1 hv).1
  rw [List.getElem?_take] at hv
  split at hv
  · rw [List.getElem?_drop] at hv
    rw [Nat.add_assoc]; exact h (k + j) v hv
  · cases hv
/-- Where write j of a block lies. -/
theorem write_at {w : World} {base : Nat} {v : Value} {ws : List (List UInt8)} (h : w.ownsRow base 147 256 v ws.length (ws.flatMap bvs)) (hl : ∀ x ∈ ws, x.length = 256) (h0 : 0 < ws.length) :
    ∃ g cap, v = .slice (some ⟨g, 0, none⟩) ws.length cap ∧ base ≤ g ∧ g < w.heap.size ∧ ws.length ≤ cap ∧ cap ≤ maxLen ∧ ∀ j, (hj : j < ws.length) → w.rangeAt g (j * 256) (bvs ws[j]) := by
  have h' := h
  obtain ⟨h1, h2⟩ := h
  rcases h2 with ⟨_, h3⟩ | ⟨g, cap, cur, rfl, hg, hh, hn, hm, hs, hx⟩
  · omega
  · refine ⟨g, cap, rfl, hg, (Array.getElem?_eq_some_iff.1 hh).1, hn, hm, fun j hj => ?_⟩
    rw [← flat_at ws j hj hl]
    have hr : w.rangeAt g 0 (ws.flatMap bvs) := fun k u hu => by
      have hk : k < (ws.flatMap bvs).length := (List.getElem?_eq_some_iff.1 hu).1
      rw [Nat.zero_add, World.ownsRow.cellAt h' k (by omega)]; exact hu
    have := range_take hr (j * 256) 256
    rwa [Nat.zero_add] at this
set_option maxHeartbeats 1000000 in
set_option maxRecDepth 100000 in
theorem last_raw0 (w : World) (q o cap : Nat) (ao : Option Addr) (sf : List UInt8) (hr : w.rangeAt q o (bvs sf)) (hlen : sf.length = 256) (cw : w.cell? ⟨q, o + 256, none⟩ = some (.slice ao 0 cap)) (hq : q < w.heap.size) :
    Calls Tryz.prog 82 #[.pointer (some ⟨q, o, none⟩)] w fun e w' => e = .returned (.agg (bvs sf).toArray) ∧ Below w.heap.size w w' := by
  obtain ⟨Z, hz, hzs, hinfo, HZ⟩ := Tryz.zero147
  clear HZ
  have hb0 : Below w.heap.size w (w.alloc (.cells Z 147)) := (Below.refl _ _).alloc (Nat.le_refl _) _
  have HR := World.rangeAt_alloc hr (.cells Z 147)
  clear hr
  go_enter Tryz.func82, Tryz.ntmps82
  go_wp2_with (first | ((with_reducible show wpList _ _ _ ({ dst := _, op := Op.load 147 _, type := _, pos := _, after := _, guard := _ } :: _) _ _); refine wpList_load_img rfl (.tmp 21) rfl q o rfl sf HR hlen ?_) | ((with_reducible show wpList _ _ _ ({ dst := _, op := Op.store 147 _ _, type := _, pos := _, after := _, guard := _ } :: _) _ _); refine wpList_store_blk rfl (.tmp 2) (.tmp 22) rfl w.heap.size Z sf rfl rfl (heap_alloc_new _ _) hzs hlen w.heap.size w hb0 (Nat.le_refl _) ?_; intro w1 hg1 hb1 hx1 hy1; clear hx1 hy1))
  exact bodyPost_ret (v := .agg (bvs sf).toArray) (results_cell_row rfl _ _ w.heap.size 147 _ _ _ rfl hg1 Tryz.underlying147 rfl (by rw [hinfo, List.size_toArray, bvs_length, hlen])) rfl ⟨rfl, hb1⟩
set_option maxHeartbeats 1000000 in
set_option maxRecDepth 100000 in
theorem last_rawS (w : World) (q o g m cap : Nat) (y : List UInt8) (hr : w.rangeAt g (m * 256) (bvs y)) (hll : y.length = 256) (cw : w.cell? ⟨q, o + 256, none⟩ = some (.slice (some ⟨g, 0, none⟩) (m + 1) cap)) (hq : q < w.heap.size) (hln : (m : Int) + 1 ≤ 9223372036854775807) :
    Calls Tryz.prog 82 #[.pointer (some ⟨q, o, none⟩)] w fun e w' => e = .returned (.agg (bvs y).toArray) ∧ Below w.heap.size w w' := by
  obtain ⟨Z, hz, hzs, hinfo, HZ⟩ := Tryz.zero147
  clear HZ
  have hb0 : Below w.heap.size w (w.alloc (.cells Z 147)) := (Below.refl _ _).alloc (Nat.le_refl _) _
  have HR := World.rangeAt_alloc hr (.cells Z 147)
  clear hr
  go_enter Tryz.func82, Tryz.ntmps82
  go_wp2_with (first | ((with_reducible show wpList _ _ _ ({ dst := _, op := Op.load 147 _, type := _, pos := _, after := _, guard := _ } :: _) _ _); refine wpList_load_img rfl (.tmp 17) rfl g (m * 256) rfl y HR hll ?_) | ((with_reducible show wpList _ _ _ ({ dst := _, op := Op.store 147 _ _, type := _, pos := _, after := _, guard := _ } :: _) _ _); refine wpList_store_blk rfl (.tmp 2) (.tmp 18) rfl w.heap.size Z y rfl rfl (heap_alloc_new _ _) hzs hll w.heap.size w hb0 (Nat.le_refl _) ?_; intro w1 hg1 hb1 hx1 hy1; clear hx1 hy1))
  exact bodyPost_ret (v := .agg (bvs y).toArray) (results_cell_row rfl _ _ w.heap.size 147 _ _ _ rfl hg1 Tryz.underlying147 rfl (by rw [hinfo, List.size_toArray, bvs_length, hll])) rfl ⟨rfl, hb1⟩
theorem lastOf_snoc (sf : List UInt8) (ws : List (List UInt8)) (j : Nat) (h : j < ws.length) : lastOf sf (ws.take (j + 1)) = ws[j] := by
  have hne : ws.take (j + 1) ≠ [] := by intro e; have := congrArg List.length e; rw [List.length_take, List.length_nil] at this; omega
  cases hw : ws.take (j + 1) with
  | nil => exact absurd hw hne
  | cons x r =>
    show (x :: r).getLast _ = _
    have e1 : (x :: r).length = j + 1 := by rw [← hw]; simp; omega
    have e2 : (x :: r).getLast (by simp) = (x :: r)[j]'(by omega) := by rw [List.getLast_eq_getElem]; congr 1; omega
    rw [e2]
    have e3 : (ws.take (j + 1))[j]'(by simp; omega) = ws[j] := by simp
    rw [← e3]; congr 1; exact hw.symm
/-- A change of some cells of block q alone; new blocks may be there. -/
structure Edit (w w' : World) (q o len : Nat) : Prop where
  os : w'.os = w.os
  tape : w'.tape = w.tape
  output : w'.output = w.output
  size : w.heap.size ≤ w'.heap.size
  block : ∀ k, k < w.heap.size → k ≠ q → w'.heap[k]? = w.heap[k]?
  cell : ∀ o', (o' < o ∨ o + len ≤ o') → w'.cell? ⟨q, o', none⟩ = w.cell? ⟨q, o', none⟩
  frozen : ∀ o', w'.frozen? ⟨q, o', none⟩ = w.frozen? ⟨q, o', none⟩
theorem Edit.trans {a b c : World} {q o len : Nat} (h : Edit a b q o len) (k : Edit b c q o len) : Edit a c q o len :=
  ⟨k.os.trans h.os, k.tape.trans h.tape, k.output.trans h.output, Nat.le_trans h.size k.size, fun i hi hq => (k.block i (Nat.lt_of_lt_of_le hi h.size) hq).trans (h.block i hi hq), fun o' ho => (k.cell o' ho).trans (h.cell o' ho), fun o' => (k.frozen o').trans (h.frozen o')⟩
theorem Edit.below {a b : World} {q o len : Nat} (h : Edit a b q o len) {B : Nat} (hB : B ≤ q) (hs : B ≤ a.heap.size) : Below B a b :=
  ⟨h.os, h.tape, h.output, h.size, fun k hk => h.block k (by omega) (by omega)⟩
theorem edit_below {a b : World} {q : Nat} (o len : Nat) (h : Below a.heap.size a b) (hq : q < a.heap.size) : Edit a b q o len :=
  ⟨h.os, h.tape, h.output, h.size, fun k hk _ => h.block k hk, fun o' _ => h.cell (p := ⟨q, o', none⟩) hq, fun o' => h.frozen (p := ⟨q, o', none⟩) hq⟩
theorem edit_setCell (w : World) (q o len x : Nat) (u : Value) (h1 : o ≤ x) (h2 : x < o + len) : Edit w (w.setCell ⟨q, x, none⟩ u) q o len :=
  ⟨rfl, rfl, rfl, by simp [World.setCell], fun k _ hk => heap_setCell_other w ⟨q, x, none⟩ k u hk, fun o' ho => World.cell?_setCell_other _ _ _ _ (by intro e; cases e; omega), fun o' => by simp⟩
theorem heap_setCells (b : Nat) : ∀ (vs : List Value) (o : Nat) (w : World), (w.setCells b o vs).heap.size = w.heap.size ∧ (w.setCells b o vs).os = w.os ∧ (w.setCells b o vs).tape = w.tape ∧ (w.setCells b o vs).output = w.output ∧ ∀ k, k ≠ b → (w.setCells b o vs).heap[k]? = w.heap[k]?
  | [], _, _ => ⟨rfl, rfl, rfl, rfl, fun _ _ => rfl⟩
  | v :: r, o, w => by
    rw [World.setCells]
    obtain ⟨h1, h2, h3, h4, h5⟩ := heap_setCells b r (o + 1) (w.setCell ⟨b, o, none⟩ v)
    exact ⟨h1.trans (by simp [World.setCell]), h2, h3, h4, fun k hk => (h5 k hk).trans (heap_setCell_other w ⟨b, o, none⟩ k v hk)⟩
theorem edit_setCells (w : World) (q o : Nat) (vs : List Value) : Edit w (w.setCells q o vs) q o vs.length := by
  obtain ⟨h1, h2, h3, h4, h5⟩ := heap_setCells q vs o w
  exact ⟨h2, h3, h4, by omega, fun k _ hk => h5 k hk, fun o' ho => World.cell?_setCells_out q vs o w ⟨q, o', none⟩ (fun _ _ => ho), fun o' => World.frozen?_setCells q vs o w ⟨q, o', none⟩⟩
theorem Edit.wide {a b : World} {q o len : Nat} (h : Edit a b q o len) {o2 len2 : Nat} (h1 : o2 ≤ o) (h2 : o + len ≤ o2 + len2) : Edit a b q o2 len2 :=
  ⟨h.os, h.tape, h.output, h.size, h.block, fun o' ho => h.cell o' (by omega), h.frozen⟩
/-- The store of a whole array into the middle of a block. -/
theorem wpList_store_img {ops : Array Oper} {rest : List Oper} {op : Oper} {a : Act} {w : World} {Q : Exit → Act → World → Prop} (hgd : op.guard = none) (x y : Operand) (ho : op.op = .store 147 x y)
    (q o : Nat) (s s0 : List UInt8) (hx : a.eval x = .pointer (some ⟨q, o, none⟩)) (hy : a.eval y = .agg (bvs s).toArray)
    (hr : w.rangeAt q o (bvs s0)) (hs0 : s0.length = 256) (hf : ∀ k, w.frozen? ⟨q, k, none⟩ = false) (hs : s.length = 256)
    (h : ∀ w', w'.rangeAt q o (bvs s) → Edit w w' q o 256 → wpList Tryz.prog ops Q rest (a.put op.dst undef) w') : wpList Tryz.prog ops Q (op :: rest) a w := by
  obtain ⟨Z, _, _, hinfo, _⟩ := Tryz.zero147
  have ht : w.there q o (bvs s).length := fun j hj => by
    rw [bvs_length, hs] at hj
    exact ⟨hr.isSome j (by rw [bvs_length, hs0]; exact hj), hf _⟩
  have hed := edit_setCells w q o (bvs s)
  rw [bvs_length, hs] at hed
  refine wpList_store_mid hgd 147 x y ho q o (bvs s).toArray hx hy (by rw [List.size_toArray]; exact ht) (by rw [hinfo, List.size_toArray, bvs_length, hs]) (all_oneCell_toArray (bvs_one _)) ?_
  exact h _ (World.rangeAt_setCells_same w q o (bvs s) ht) hed
def upd {α : Type} (f : Nat → α) (i : Nat) (x : α) : Nat → α := fun j => if j = i then x else f j
theorem upd_same {α : Type} (f : Nat → α) (i : Nat) (x : α) : upd f i x i = x := by simp [upd]
theorem upd_other {α : Type} (f : Nat → α) (i : Nat) (x : α) {j : Nat} (h : j ≠ i) : upd f i x j = f j := by simp [upd, h]
section
variable {w : World} {base p n : Nat} {en : Bool} {lf : Int} {sf : Nat → List UInt8} {ws : Nat → List (List UInt8)} {q : Nat} {vs : Nat → Value}
theorem last_any (h : DiskAt w base p n en lf sf ws q vs) (i : Nat) (hi : i < n) :
    Calls Tryz.prog 82 #[.pointer (some ⟨q, i * 257, none⟩)] w fun e w' => e = .returned (.agg (bvs (lastOf (sf i) (ws i))).toArray) ∧ Below w.heap.size w w' := by
  obtain ⟨hr, hlen, cw⟩ := h.row i hi
  obtain ⟨hw, hwl, _⟩ := h.wr i hi
  by_cases h0 : (ws i).length = 0
  · have h0' : ws i = [] := List.eq_nil_of_length_eq_zero h0
    obtain ⟨ao, cap, hv⟩ := h.len i hi
    rw [hv, h0] at cw
    rw [h0']
    exact last_raw0 w q (i * 257) cap ao (sf i) hr hlen cw h.ql
  · obtain ⟨g, cap, hv, hg, hgl, hnc, hcm, hat⟩ := write_at hw hwl (by omega)
    rw [hv] at cw
    have hk : (ws i).length - 1 < (ws i).length := by omega
    have e : lastOf (sf i) (ws i) = (ws i)[(ws i).length - 1] := by
      have := lastOf_snoc (sf i) (ws i) ((ws i).length - 1) hk
      rwa [List.take_of_length_le (by omega)] at this
    rw [e]
    have e2 : (ws i).length = (ws i).length - 1 + 1 := by omega
    rw [e2] at cw
    exact last_rawS w q (i * 257) g ((ws i).length - 1) cap _ (hat _ hk) (hwl _ (List.getElem_mem hk)) cw h.ql (by unfold maxLen at hcm; omega)
/-- Block i of the disk is another one; all else stands. -/
theorem DiskAt.setQ (h : DiskAt w base p n en lf sf ws q vs) (i : Nat) (hi : i < n) {w' : World} {s' : List UInt8} {v' : Value} {ws' : List (List UInt8)}
    (hsz : w.heap.size ≤ w'.heap.size) (hgr : ∀ k, k < w.heap.size → k ≠ q → some k ≠ (vs i).ownBlock → w'.heap[k]? = w.heap[k]?)
    (hcell : ∀ o', (o' < i * 257 ∨ i * 257 + 257 ≤ o') → w'.cell? ⟨q, o', none⟩ = w.cell? ⟨q, o', none⟩) (hfq : ∀ o, w'.frozen? ⟨q, o, none⟩ = false)
    (h1 : w'.rangeAt q (i * 257) (bvs s')) (h2 : s'.length = 256) (h3 : w'.cell? ⟨q, i * 257 + 256, none⟩ = some v')
    (h4 : w'.ownsRow base 147 256 v' ws'.length (ws'.flatMap bvs)) (h5 : ∀ x ∈ ws', x.length = 256) (h6 : v'.ownBlock ≠ some p) (h7 : v'.ownBlock ≠ some q)
    (h8 : ∀ j, j < n → j ≠ i → v'.ownBlock = none ∨ v'.ownBlock ≠ (vs j).ownBlock) :
    DiskAt w' base p n en lf (upd sf i s') (upd ws i ws') q (upd vs i v') := by
  have hp := h.pl
  have hq := h.ql
  have hbp : w'.heap[p]? = w.heap[p]? := hgr p hp h.pq (fun e => (h.wr i hi).2.2.1 e.symm)
  exact {
    pb := h.pb, qb := h.qb, pq := h.pq, nn := h.nn,
    c0 := h.c0.imp fun _ hc => ⟨hc.1, hc.2.1, (World.cell?_of_block (a := ⟨p, 0, none⟩) hbp).trans hc.2.2⟩,
    c1 := (World.cell?_of_block (a := ⟨p, 1, none⟩) hbp).trans h.c1,
    c2 := (World.cell?_of_block (a := ⟨p, 2, none⟩) hbp).trans h.c2,
    fp := fun o => (World.frozen?_of_block (a := ⟨p, o, none⟩) hbp).trans (h.fp o),
    fq := hfq,
    ql := by omega,
    row := fun j hj => by
      by_cases hji : j = i
      · subst hji; rw [upd_same, upd_same]; exact ⟨h1, h2, h3⟩
      · rw [upd_other _ _ _ hji, upd_other _ _ _ hji]
        obtain ⟨r1, r2, r3⟩ := h.row j hj
        refine ⟨fun k v hv => ?_, r2, ?_⟩
        · have hk : k < (bvs (sf j)).length := (List.getElem?_eq_some_iff.1 hv).1
          rw [bvs_length, r2] at hk
          rw [hcell (j * 257 + k) (by omega)]; exact r1 k v hv
        · rw [hcell (j * 257 + 256) (by omega)]; exact r3,
    wr := fun j hj => by
      by_cases hji : j = i
      · subst hji; rw [upd_same, upd_same]; exact ⟨h4, h5, h6, h7⟩
      · rw [upd_other _ _ _ hji, upd_other _ _ _ hji]
        obtain ⟨⟨o1, o2⟩, o3, o4, o5⟩ := h.wr j hj
        refine ⟨⟨o1, ?_⟩, o3, o4, o5⟩
        rcases o2 with o2 | ⟨g, cap, cur, hv, hg, hh, r⟩
        · exact .inl o2
        · refine .inr ⟨g, cap, cur, hv, hg, ?_, r⟩
          have hlt : g < w.heap.size := (Array.getElem?_eq_some_iff.1 hh).1
          have hob : (vs j).ownBlock = some g := by rw [hv]; rfl
          rw [hgr g hlt (fun e => o5 (by rw [hob, e])) (fun e => ?_)]
          · exact hh
          · rcases h.ap j i hj hi hji with e1 | e1
            · rw [hob] at e1; cases e1
            · exact e1 (hob.trans e),
    ap := fun j k hj hk hjk => by
      by_cases hji : j = i
      · subst hji
        rw [upd_same, upd_other _ _ _ (fun e => hjk e.symm)]
        exact h8 k hk (fun e => hjk e.symm)
      · rw [upd_other _ _ _ hji]
        by_cases hki : k = i
        · subst hki
          rw [upd_same]
          rcases h8 j hj hji with e | e
          · cases hvo : (vs j).ownBlock with
            | none => exact .inl rfl
            | some g => right; rw [e]; intro e2; cases e2
          · exact .inr (fun e2 => e e2.symm)
        · rw [upd_other _ _ _ hki]; exact h.ap j k hj hk hjk }
end
end Go.Proofs.YtkiifmnmeikdlaaGreatDoor
/- Disk.goes, block.settle. -/
namespace Go.Proofs.YtkiifmnmeikdlaaGreatDoor
open Go.RowKit
set_option maxRecDepth 100000
section
variable {w : World} {base p n : Nat} {en : Bool} {lf : Int} {sf : Nat → List UInt8} {ws : Nat → List (List UInt8)} {q : Nat} {vs : Nat → Value}
/-- A store into the disk's own struct. -/
theorem DiskAt.setP (h : DiskAt w base p n en lf sf ws q vs) {w' : World} {en' : Bool} {lf' : Int} (hsz : w'.heap.size = w.heap.size) (hgr : ∀ k, k ≠ p → w'.heap[k]? = w.heap[k]?)
    (h0 : w'.cell? ⟨p, 0, none⟩ = w.cell? ⟨p, 0, none⟩) (h1 : w'.cell? ⟨p, 1, none⟩ = some (.bool en')) (h2 : w'.cell? ⟨p, 2, none⟩ = some (.int .i64 lf')) (hf : ∀ o, w'.frozen? ⟨p, o, none⟩ = false) :
    DiskAt w' base p n en' lf' sf ws q vs := by
  have hbq : w'.heap[q]? = w.heap[q]? := hgr q (fun e => h.pq e.symm)
  exact {
    pb := h.pb, qb := h.qb, pq := h.pq, nn := h.nn, c0 := h.c0.imp fun _ hc => ⟨hc.1, hc.2.1, h0.trans hc.2.2⟩, c1 := h1, c2 := h2, fp := hf,
    fq := fun o => (World.frozen?_of_block (a := ⟨q, o, none⟩) hbq).trans (h.fq o),
    ql := by rw [hsz]; exact h.ql,
    row := fun i hi => ⟨fun j v hv => (World.cell?_of_block (a := ⟨q, i * 257 + j, none⟩) hbq).trans ((h.row i hi).1 j v hv), (h.row i hi).2.1, (World.cell?_of_block (a := ⟨q, i * 257 + 256, none⟩) hbq).trans (h.row i hi).2.2⟩,
    wr := fun j hj => by
      obtain ⟨⟨o1, o2⟩, o3, o4, o5⟩ := h.wr j hj
      refine ⟨⟨o1, ?_⟩, o3, o4, o5⟩
      rcases o2 with o2 | ⟨g, cap, cur, hv, hg, hh, r⟩
      · exact .inl o2
      · exact .inr ⟨g, cap, cur, hv, hg, by rw [hgr g (fun e => o4 (by rw [hv, ← e]; rfl))]; exact hh, r⟩,
    ap := h.ap }
theorem DiskAt.setLeft (h : DiskAt w base p n en lf sf ws q vs) (x : Int) : DiskAt (w.setCell ⟨p, 2, none⟩ (.int .i64 x)) base p n en x sf ws q vs :=
  h.setP (by simp [World.setCell]) (fun k hk => heap_setCell_other w ⟨p, 2, none⟩ k _ hk) (World.cell?_setCell_other _ _ _ _ (by simp)) ((World.cell?_setCell_other _ _ _ _ (by simp)).trans h.c1) (World.cell?_setCell_same _ _ _ h.c2) (fun o => by simpa using h.fp o)
/-- Does a call take place? -/
def goesB (en : Bool) (lf : Int) : Bool := !(en && (lf == 0))
def goesL (en : Bool) (lf : Int) : Int := if en && !(lf == 0) then lf - 1 else lf
set_option maxHeartbeats 1000000 in
theorem goes_any (h : DiskAt w base p n en lf sf ws q vs) (hl : 0 ≤ lf ∧ lf ≤ 9223372036854775807) :
    Calls Tryz.prog 119 #[.pointer (some ⟨p, 0, none⟩)] w fun e w' => e = .returned (.bool (goesB en lf)) ∧ DiskAt w' base p n en (goesL en lf) sf ws q vs ∧ Below base w w' ∧ w'.heap.size = w.heap.size ∧ ∀ k, k ≠ p → w'.heap[k]? = w.heap[k]? := by
  have ST := stopped_any h
  cases hen : en with
  | false =>
    subst hen
    go_enter Tryz.func119, Tryz.ntmps119
    go_wp2_with fail
    refine ST.mono ?_
    rintro e w1 ⟨rfl, rfl⟩
    have c1 := h.c1
    clear ST
    go_wp2
    go_ret
    exact ⟨rfl, h, Below.refl _ _, rfl, fun _ _ => rfl⟩
  | true =>
    subst hen
    cases hz : (lf == 0) with
    | true =>
      rw [hz] at ST
      go_enter Tryz.func119, Tryz.ntmps119
      go_wp2_with fail
      refine ST.mono ?_
      rintro e w1 ⟨rfl, rfl⟩
      clear ST
      go_wp2
      go_ret
      refine ⟨by simp [goesB, hz], ?_, Below.refl _ _, rfl, fun _ _ => rfl⟩
      rw [show goesL true lf = lf from by simp [goesL, hz]]; exact h
    | false =>
      rw [hz] at ST
      have hl1 : 1 ≤ lf := by have := beq_eq_false_iff_ne.1 hz; omega
      have hS := h.setLeft (lf - 1)
      have hB : Below base w (w.setCell ⟨p, 2, none⟩ (.int .i64 (lf - 1))) := (Below.refl _ _).setCell h.pb _
      have hZ : (w.setCell ⟨p, 2, none⟩ (.int .i64 (lf - 1))).heap.size = w.heap.size := by simp [World.setCell]
      have hK : ∀ k, k ≠ p → (w.setCell ⟨p, 2, none⟩ (.int .i64 (lf - 1))).heap[k]? = w.heap[k]? := fun k hk => heap_setCell_other w ⟨p, 2, none⟩ k _ hk
      have c1 := h.c1
      have c2 := h.c2
      have f2 := h.fp 2
      go_enter Tryz.func119, Tryz.ntmps119
      go_wp2_with fail
      refine ST.mono ?_
      rintro e w1 ⟨rfl, rfl⟩
      clear ST
      go_wp2
      go_ret
      refine ⟨by simp [goesB, hz], ?_, hB, hZ, hK⟩
      rw [show goesL true lf = lf - 1 from by simp [goesL, hz]]; exact hS
theorem range_edit {w w' : World} {q o len b o2 : Nat} {cs : List Value} (he : Edit w w' q o len) (h : w.rangeAt b o2 cs) (hb : b < w.heap.size) (hap : b ≠ q ∨ o2 + cs.length ≤ o ∨ o + len ≤ o2) : w'.rangeAt b o2 cs := fun j v hv => by
  have hj : j < cs.length := (List.getElem?_eq_some_iff.1 hv).1
  by_cases hq : b = q
  · subst hq
    rw [he.cell (o2 + j) (by omega)]; exact h j v hv
  · rw [World.cell?_of_block (a := ⟨b, o2 + j, none⟩) (he.block b hb hq)]; exact h j v hv
theorem DiskAt.settled (h : DiskAt w base p n en lf sf ws q vs) (i : Nat) (hi : i < n) {w' : World} {s' : List UInt8} (he : Edit w w' q (i * 257) 257) (h1 : w'.rangeAt q (i * 257) (bvs s')) (h2 : s'.length = 256) (h3 : w'.cell? ⟨q, i * 257 + 256, none⟩ = some (.slice none 0 0)) :
    DiskAt w' base p n en lf (upd sf i s') (upd ws i []) q (upd vs i (.slice none 0 0)) :=
  h.setQ i hi he.size (fun k hk hkq _ => he.block k hk hkq) he.cell (fun o => (he.frozen o).trans (h.fq o)) h1 h2 h3 (World.ownsRow_nil _ _ _ _) (by simp) (by simp [Value.ownBlock]) (by simp [Value.ownBlock]) (fun j _ _ => .inl rfl)
set_option maxHeartbeats 1000000 in
set_option maxRecDepth 100000 in
theorem settle_0 (h : DiskAt w base p n en lf sf ws q vs) (i : Nat) (hi : i < n) :
    Calls Tryz.prog 121 #[.pointer (some ⟨q, i * 257, none⟩), .int .i64 0] w fun e w' => e = .returned (.tuple #[]) ∧ DiskAt w' base p n en lf (upd sf i (sf i)) (upd ws i []) q (upd vs i (.slice none 0 0)) ∧ Edit w w' q (i * 257) 257 := by
  obtain ⟨hr, hlen, cw⟩ := h.row i hi
  obtain ⟨ao, cap, hv⟩ := h.len i hi
  rw [hv] at cw
  have hq := h.ql
  have fq := h.fq (i * 257 + 256)
  have E1 := edit_setCell w q (i * 257) 257 (i * 257 + 256) (.slice ao 0 0) (by omega) (by omega)
  have C1 : (w.setCell ⟨q, i * 257 + 256, none⟩ (.slice ao 0 0)).cell? ⟨q, i * 257 + 256, none⟩ = some (.slice ao 0 0) := World.cell?_setCell_same _ _ _ cw
  obtain ⟨w1, HW⟩ : ∃ w1, Hid (w1 = w.setCell ⟨q, i * 257 + 256, none⟩ (.slice ao 0 0)) := ⟨_, rfl⟩
  rw [← HW.out] at E1 C1
  have R1 : w1.rangeAt q (i * 257) (bvs (sf i)) := by
    rw [HW.out]; exact range_edit (edit_setCell w q (i * 257 + 256) 1 (i * 257 + 256) _ (by omega) (by omega)) hr hq (by rw [bvs_length, hlen]; omega)
  have hs1 := E1.size
  have LAST := last_raw0 w1 q (i * 257) 0 ao (sf i) R1 hlen C1 (by omega)
  go_enter Tryz.func121, Tryz.ntmps121
  go_wp2_with fail
  rw [show w.setCell ⟨q, i * 257 + 256, none⟩ (.slice ao 0 0) = w1 from HW.out.symm]
  refine LAST.mono ?_
  rintro e w2 ⟨rfl, hb2⟩
  have E2 : Edit w w2 q (i * 257) 257 := E1.trans (edit_below _ _ hb2 (by omega))
  have R2 : w2.rangeAt q (i * 257) (bvs (sf i)) := range_below R1 hb2 (by omega)
  have C2 : w2.cell? ⟨q, i * 257 + 256, none⟩ = some (.slice ao 0 0) := (hb2.cell (p := ⟨q, i * 257 + 256, none⟩) (show q < w1.heap.size by omega)).trans C1
  have F2 : ∀ k, w2.frozen? ⟨q, k, none⟩ = false := fun k => (E2.frozen k).trans (h.fq k)
  clear LAST C1 R1 cw fq
  go_wp2_with (first | ((with_reducible show wpList _ _ _ ({ dst := _, op := Op.store 147 _ _, type := _, pos := _, after := _, guard := _ } :: _) _ _); refine wpList_store_img rfl (.tmp 18) (.tmp 16) rfl q (i * 257) (sf i) (sf i) rfl rfl R2 hlen F2 hlen ?_; intro w3 R3 E3; have C3 := (E3.cell (i * 257 + 256) (by omega)).trans C2; have F3 := (E3.frozen (i * 257 + 256)).trans (F2 _)))
  have E4 := edit_setCell w3 q (i * 257) 257 (i * 257 + 256) (.slice none 0 0) (by omega) (by omega)
  have E := (E2.trans (E3.wide (o2 := i * 257) (len2 := 257) (Nat.le_refl _) (by omega))).trans E4
  have hs3 := E3.size
  have hs2 := E2.size
  have R4 : (w3.setCell ⟨q, i * 257 + 256, none⟩ (.slice none 0 0)).rangeAt q (i * 257) (bvs (sf i)) := range_edit (edit_setCell w3 q (i * 257 + 256) 1 (i * 257 + 256) _ (by omega) (by omega)) R3 (by omega) (by rw [bvs_length, hlen]; omega)
  have C4 : (w3.setCell ⟨q, i * 257 + 256, none⟩ (.slice none 0 0)).cell? ⟨q, i * 257 + 256, none⟩ = some (.slice none 0 0) := World.cell?_setCell_same _ _ _ C3
  go_end0
  exact ⟨rfl, h.settled i hi E R4 hlen C4, E⟩
set_option maxHeartbeats 1000000 in
set_option maxRecDepth 100000 in
theorem settle_S (h : DiskAt w base p n en lf sf ws q vs) (i : Nat) (hi : i < n) (m : Nat) (hm : m < (ws i).length) :
    Calls Tryz.prog 121 #[.pointer (some ⟨q, i * 257, none⟩), .int .i64 ((m : Int) + 1)] w fun e w' => e = .returned (.tuple #[]) ∧ DiskAt w' base p n en lf (upd sf i (ws i)[m]) (upd ws i []) q (upd vs i (.slice none 0 0)) ∧ Edit w w' q (i * 257) 257 := by
  obtain ⟨hr, hlen, cw⟩ := h.row i hi
  obtain ⟨hwo, hwl, _, hnq⟩ := h.wr i hi
  obtain ⟨g, cap, hv, hg, hgl, hnc, hcm, hat⟩ := write_at hwo hwl (by omega)
  rw [hv] at cw
  have hgq : g ≠ q := fun e => hnq (by rw [hv, e]; rfl)
  have hy := hwl _ (List.getElem_mem hm)
  have hRy := hat m hm
  have hmc : (m : Int) + 1 ≤ cap := by omega
  have hcm' : (cap : Int) ≤ 9223372036854775807 := by unfold maxLen at hcm; omega
  generalize (ws i)[m] = y at *
  have hq := h.ql
  have fq := h.fq (i * 257 + 256)
  have E1 := edit_setCell w q (i * 257) 257 (i * 257 + 256) (.slice (some ⟨g, 0, none⟩) (m + 1) (m + 1)) (by omega) (by omega)
  have C1 : (w.setCell ⟨q, i * 257 + 256, none⟩ (.slice (some ⟨g, 0, none⟩) (m + 1) (m + 1))).cell? ⟨q, i * 257 + 256, none⟩ = some (.slice (some ⟨g, 0, none⟩) (m + 1) (m + 1)) := World.cell?_setCell_same _ _ _ cw
  obtain ⟨w1, HW⟩ : ∃ w1, Hid (w1 = w.setCell ⟨q, i * 257 + 256, none⟩ (.slice (some ⟨g, 0, none⟩) (m + 1) (m + 1))) := ⟨_, rfl⟩
  rw [← HW.out] at E1 C1
  have R1 : w1.rangeAt q (i * 257) (bvs (sf i)) := by
    rw [HW.out]; exact range_edit (edit_setCell w q (i * 257 + 256) 1 (i * 257 + 256) _ (by omega) (by omega)) hr hq (by rw [bvs_length, hlen]; omega)
  have hs1 := E1.size
  have RY : w1.rangeAt g (m * 256) (bvs y) := range_edit E1 hRy hgl (.inl hgq)
  have LAST := last_rawS w1 q (i * 257) g m (m + 1) y RY hy C1 (by omega) (by omega)
  clear hat hRy
  go_enter Tryz.func121, Tryz.ntmps121
  go_wp2_with fail
  rw [show w.setCell ⟨q, i * 257 + 256, none⟩ (.slice (some ⟨g, 0, none⟩) (m + 1) (m + 1)) = w1 from HW.out.symm]
  refine LAST.mono ?_
  rintro e w2 ⟨rfl, hb2⟩
  have E2 : Edit w w2 q (i * 257) 257 := E1.trans (edit_below _ _ hb2 (by omega))
  have R2 : w2.rangeAt q (i * 257) (bvs (sf i)) := range_below R1 hb2 (by omega)
  have C2 : w2.cell? ⟨q, i * 257 + 256, none⟩ = some (.slice (some ⟨g, 0, none⟩) (m + 1) (m + 1)) := (hb2.cell (p := ⟨q, i * 257 + 256, none⟩) (show q < w1.heap.size by omega)).trans C1
  have F2 : ∀ k, w2.frozen? ⟨q, k, none⟩ = false := fun k => (E2.frozen k).trans (h.fq k)
  clear LAST C1 R1 cw fq
  go_wp2_with (first | ((with_reducible show wpList _ _ _ ({ dst := _, op := Op.store 147 _ _, type := _, pos := _, after := _, guard := _ } :: _) _ _); refine wpList_store_img rfl (.tmp 18) (.tmp 16) rfl q (i * 257) y (sf i) rfl rfl R2 hlen F2 hy ?_; intro w3 R3 E3; have C3 := (E3.cell (i * 257 + 256) (by omega)).trans C2; have F3 := (E3.frozen (i * 257 + 256)).trans (F2 _)))
  have E4 := edit_setCell w3 q (i * 257) 257 (i * 257 + 256) (.slice none 0 0) (by omega) (by omega)
  have E := (E2.trans (E3.wide (o2 := i * 257) (len2 := 257) (Nat.le_refl _) (by omega))).trans E4
  have hs3 := E3.size
  have hs2 := E2.size
  have R4 : (w3.setCell ⟨q, i * 257 + 256, none⟩ (.slice none 0 0)).rangeAt q (i * 257) (bvs y) := range_edit (edit_setCell w3 q (i * 257 + 256) 1 (i * 257 + 256) _ (by omega) (by omega)) R3 (by omega) (by rw [bvs_length, hy]; omega)
  have C4 : (w3.setCell ⟨q, i * 257 + 256, none⟩ (.slice none 0 0)).cell? ⟨q, i * 257 + 256, none⟩ = some (.slice none 0 0) := World.cell?_setCell_same _ _ _ C3
  go_end0
  exact ⟨rfl, h.settled i hi E R4 hy C4, E⟩
theorem settle_any (h : DiskAt w base p n en lf sf ws q vs) (i : Nat) (hi : i < n) (m : Nat) (hm : m ≤ (ws i).length) :
    Calls Tryz.prog 121 #[.pointer (some ⟨q, i * 257, none⟩), .int .i64 (m : Int)] w fun e w' => e = .returned (.tuple #[]) ∧ DiskAt w' base p n en lf (upd sf i (lastOf (sf i) ((ws i).take m))) (upd ws i []) q (upd vs i (.slice none 0 0)) ∧ Edit w w' q (i * 257) 257 := by
  cases m with
  | zero => exact settle_0 h i hi
  | succ m =>
    rw [lastOf_snoc (sf i) (ws i) m (by omega)]
    exact settle_S h i hi m (by omega)
end
end Go.Proofs.YtkiifmnmeikdlaaGreatDoor
/- An array made of a slice, a slice of one array. -/
namespace Go.Proofs.YtkiifmnmeikdlaaGreatDoor
open Go.RowKit
set_option maxRecDepth 100000
theorem arr_at (b o c : Nat) (w : World) : (Instr.arrayAt 147 (.slice (some ⟨b, o, none⟩) 256 c)).run Tryz.prog w = .ok (.pointer (some ⟨b, o, none⟩)) w := by kernel_rfl
theorem fold_set : ∀ (l : List Value) (k : Nat) (cs : Array Value), k + l.length ≤ cs.size → ((l.zipIdx k).foldl (fun cs p => cs.setIfInBounds (0 * 256 + p.2) p.1) cs).toList = cs.toList.take k ++ l ++ cs.toList.drop (k + l.length)
  | [], k, cs, _ => by simp
  | v :: r, k, cs, h => by
    simp only [List.zipIdx_cons, List.foldl_cons]
    have ih := fold_set r (k + 1) (cs.setIfInBounds (0 * 256 + k) v) (by simp at h ⊢; omega)
    rw [ih, Array.toList_setIfInBounds]
    have e := list_seg_step cs.toList k v r (by simp at h ⊢; omega)
    simpa [Nat.add_assoc, Nat.add_comm, Nat.add_left_comm] using e
theorem fill_img (A C : Array Value) (h1 : A.size = 256) (h2 : C.size = 256) : Instr.fill (fun i => some (i * 256, 256)) C [(0, .agg A)] = some A := by
  have h3 : (Value.agg A).cells = A := rfl
  have hf : A.zipIdx.foldl (fun cs (x : Value × Nat) => cs.setIfInBounds (0 * 256 + x.2) x.1) C = A := by
    apply Array.toList_inj.1
    have := fold_set A.toList 0 C (by simp [h1, h2])
    rw [List.take_zero, List.nil_append, List.drop_eq_nil_of_le (by simp [h1, h2]), List.append_nil] at this
    rw [← this]
    congr 1
    rw [← Array.foldl_toList, Array.toList_zipIdx]
  unfold Instr.fill
  simp only [h3, h1, h2]
  simp only [Instr.fill]
  rw [if_neg (by simp)]
  exact congrArg some hf
theorem build_img (d : List UInt8) (hd : d.length = 256) (w : World) : (Instr.buildSlice 193 1 #[(0, .agg (bvs d).toArray)]).run Tryz.prog w = .ok (.slice (some ⟨w.heap.size, 0, none⟩) 1 1) (w.alloc (.cells (bvs d).toArray 147)) := by
  obtain ⟨Z, hz, hzs, hinfo, HZ⟩ := Tryz.zero147
  clear HZ
  have hA : (bvs d).toArray.size = 256 := by rw [List.size_toArray, bvs_length, hd]
  generalize (bvs d).toArray = A at *
  have hso : (sizeOf 147).run Tryz.prog w = .ok 256 w := by
    cases hq : Tryz.prog.info? 147 with
    | none => simp [hq] at hinfo
    | some i0 =>
      have hi : i0.size = 256 := by simpa [hq] using hinfo
      simp [sizeOf, typeInfo, hq, hi]
  have hfi := fill_img A ((Array.range (1 * 256)).map (Z[· % Z.size]!)) hA (by simp)
  unfold Instr.buildSlice
  simp only [Sem.run_bind, run_underlying Tryz.underlying193, Result.andThen_ok, hso]
  rw [if_neg (by omega), if_neg (by omega)]
  simp only [Sem.run_bind, hz, Result.andThen_ok, Sem.run_pure, show (Value.agg Z).cells = Z from rfl]
  rw [show [(0, Value.agg A)] = (#[(0, Value.agg A)] : Array (Nat × Value)).toList from rfl] at hfi
  rw [hfi]
  simp [newRow]
end Go.Proofs.YtkiifmnmeikdlaaGreatDoor
