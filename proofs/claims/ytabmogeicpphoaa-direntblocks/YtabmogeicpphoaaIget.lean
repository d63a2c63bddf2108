/- inode.Get. -/
import Derived.Test.YtabmogeicpphoaaIread
namespace Go.Proofs.Ytabmogeicpphoaa
open Go.RowKit
theorem src_range {w : World} {b o : Nat} {l : List UInt8} (h : Src w (some ⟨b, o, none⟩) l) : w.rangeAt b o (bvs l) := fun j v hv => by
  have hj : j < (bvs l).length := (List.getElem?_eq_some_iff.1 hv).1
  rw [bvs_length] at hj
  rw [h.cell j hj]
  simpa [bvs, hj] using hv
theorem exec_load_64 {ev : Operand → Value} {oi : Oper} {x : Operand} {w : World} {b o : Nat} {l : List UInt8} (H : Src w (some ⟨b, o, none⟩) l) (hl : l.length = 64) (ho : oi.op = .load 64 x) (hx : ev x = .pointer (some ⟨b, o, none⟩)) :
    (execOp ev oi).run Try.prog w = .ok (.value (.agg (bvs l).toArray)) w := by
  unfold execOp
  simp only [ho, hx, Instr.loadAt, Instr.sureAddr, Sem.run_bind, Sem.run_pure, Result.andThen_ok, run_loadVar_mid w b o 64 (bvs l) _ (src_range H) Try.underlying64 rfl (by rw [Try.sz64, bvs_length, hl])]
theorem run_neq_64 {x y : List UInt8} (hx : x.length = 64) (hy : y.length = 64) (w : World) : (binOp .neq 64 (.agg (bvs x).toArray) (.agg (bvs y).toArray)).run Try.prog w = .ok (.bool (!(x == y))) w := by
  rw [run_neq_struct, show (Op.equalIn 10000 64 (.agg (bvs x).toArray) (.agg (bvs y).toArray)).run Try.prog w = .ok (x == y) w from run_equalIn_bytes w 9998 64 5 64 Try.underlying64 Try.underlying5 size5 x y hx hy]
  rfl
theorem exec_neq_64 {ev : Operand → Value} {oi : Oper} {X Y : Operand} {w : World} {x y : List UInt8} (hx : x.length = 64) (hy : y.length = 64) {b : Bool} (hb : (!(x == y)) = b) (ho : oi.op = .binOp .neq 64 X Y 64) (eX : ev X = .agg (bvs x).toArray) (eY : ev Y = .agg (bvs y).toArray) :
    (execOp ev oi).run Try.prog w = .ok (.value (.bool b)) w := by
  subst hb
  have hg : ∀ A B (w : World), (eqGuard .neq 64 X Y (.agg A) (.agg B)).run Try.prog w = .ok () w := fun A B w => run_eqGuard_agg w .neq 64 X Y A B (by kernel_rfl)
  unfold execOp
  simp only [ho, eX, eY]
  simp [hg, run_neq_64 hx hy, Result.andThen]
/-- What Get has laid. -/
structure GI (w0 : World) (bb off : Nat) (l : List UInt8) (q : Nat) (W : World) : Prop where
  b : Below w0.heap.size w0 W
  res : InoAt W w0.heap.size zino
  ino : InoAt W q (rdI l)
  src : Src W (some ⟨bb, off, none⟩) l
theorem GI.up {w0 W W' : World} {bb off q : Nat} {l : List UInt8} (h : GI w0 bb off l q W) (hb : Below W.heap.size W W') : GI w0 bb off l q W' :=
  ⟨h.b.trans (hb.mono h.b.size), h.res.up hb, h.ino.up hb, h.src.below hb (Nat.le_refl _)⟩
set_option maxHeartbeats 4000000 in
theorem iget_size (sp : Option Addr) (n cap : Nat) (hn : ¬ (n : Int) = 64) (w : World) :
    Calls Try.prog 12 #[.slice sp n cap] w fun e w' => e = .returned (.tuple #[.agg (iA zino), .int .i64 4]) ∧ Below w.heap.size w w' := by
  have hz := zeroI
  have HB : Hid (Below w.heap.size w (w.alloc (.cells (iA zino) 24))) := (Below.refl _ _).alloc (Nat.le_refl _) _
  have HI : Hid (InoAt (w.alloc (.cells (iA zino) 24)) w.heap.size zino) := ino_new w zino rfl
  go_enter Try.func12, Try.ntmps12
  go_wp2_with (first | ((with_reducible show wpList _ _ _ ({ dst := _, op := Op.store 24 _ _, type := _, pos := _, after := _, guard := _ } :: _) _ _); refine wpList_store_ino rfl _ _ rfl (HI.out) rfl rfl rfl ?_; intro w4 H4 b4 z4))
  exact bodyPost_ret (results_ino rfl _ H4 rfl) rfl ⟨rfl, HB.out.trans b4⟩
/-- Are the bytes those of an inode? -/
def formI (l : List UInt8) : Bool := rtB (rdI l) && (layI (rdI l) == l)
set_option maxRecDepth 100000 in
set_option maxHeartbeats 4000000 in
theorem iget_bad (bb off cap : Nat) (l : List UInt8) (hl : l.length = 64) (hr : rtB (rdI l) = false) (w : World) (hsrc : Src w (some ⟨bb, off, none⟩) l) (hc : (64 : Int) ≤ cap) (hm : (cap : Int) ≤ 9223372036854775807) :
    Calls Try.prog 12 #[.slice (some ⟨bb, off, none⟩) 64 cap] w fun e w' => e = .returned (.tuple #[.agg (iA zino), .int .i64 8]) ∧ Below w.heap.size w w' := by
  have hz := zeroI
  have HB : Hid (Below w.heap.size w (w.alloc (.cells (iA zino) 24))) := (Below.refl _ _).alloc (Nat.le_refl _) _
  have HI : Hid (InoAt (w.alloc (.cells (iA zino) 24)) w.heap.size zino) := ino_new w zino rfl
  have RD := fun W (h : Src W (some ⟨bb, off, none⟩) l) (hb : bb < W.heap.size) => iread_any bb off cap l hl W h hb hc hm
  have GR := iright_any (rdI l) (rdI_length l)
  have HSR : Hid (Src w (some ⟨bb, off, none⟩) l) := hsrc
  have hbb : bb < w.heap.size := by
    obtain ⟨b', off', h1, h2, _⟩ := hsrc.at' (by omega)
    cases h1; exact h2
  rw [hr] at GR
  clear hsrc
  go_enter Try.func12, Try.ntmps12
  go_wp2_with fail
  refine (RD _ (HSR.out.below HB.out (Nat.le_refl _)) (by have := HB.out.size; omega)).mono ?_
  rintro e w2 ⟨rfl, h2⟩
  have HI2 : Hid (InoAt w2 w.heap.size zino) := HI.out.up h2
  have HB2 : Hid (Below w.heap.size w w2) := HB.out.trans (h2.mono HB.out.size)
  have hl2 := HI2.out.lt
  clear RD HI HB h2
  have HN : Hid (InoAt (w2.alloc (.cells (iA zino) 24)) w2.heap.size zino) := ino_new w2 zino rfl
  have HNB : Hid (Below w2.heap.size w2 (w2.alloc (.cells (iA zino) 24))) := (Below.refl _ _).alloc (Nat.le_refl _) _
  have HRL : Hid ((rdI l).ns.length = 8) := rdI_length l
  go_wp2_with (first | ((with_reducible show wpList _ _ _ ({ dst := _, op := Op.store 24 _ _, type := _, pos := _, after := _, guard := _ } :: _) _ _); refine wpList_store_ino rfl _ _ rfl (HN.out) HRL.out rfl rfl ?_; intro w3 H3 b3 z3))
  have f3 : Below w2.heap.size w2 w3 := HNB.out.trans b3
  have fw : Below w.heap.size w w3 := HB2.out.trans (f3.mono HB2.out.size)
  have g3 : GI w bb off l w2.heap.size w3 := ⟨fw, HI2.out.below f3 hl2, H3, HSR.out.below fw (Nat.le_refl _)⟩
  have gd := g3.up (Below.refl _ _).drew
  clear f3 fw g3 H3 b3 z3 HN HNB HI2 HB2 HSR
  refine wp_region_held_drew (S := (fun W => GI w bb off l w2.heap.size W)) (by kernel_rfl) gd (fun hH => ?_)
  refine takeH (i := 0) (dst := some 11) (v := ?v1) rfl rfl (by kernel_rfl) (by kernel_rfl) (by kernel_rfl) (fun _ _ _ h => h) rfl ?hy1 hH rfl ?rest1
  case hy1 => (intro W hW; refine exec_load_ino (x := Operand.tmp 4) hW.ino ?_ ?_ <;> rfl)
  (try simp only [Act.put, List.setIfInBounds_toArray, List.set_cons_zero, List.set_cons_succ])
  refine callH (i := 1) { dst := some 12, op := Go.Op.call { callee := Go.Callee.value (Go.Operand.func 14), args := #[Go.Operand.tmp 11], argTypes := #[24] }, type := 4, pos := "inode.go:94", after := #[{ on := 0, ground := Go.Ground.data }], guard := none } (by kernel_rfl) rfl rfl (fun K hK => ?_)
  go_simp
  refine (GR _).mono ?_
  rintro e v1 ⟨rfl, n1⟩
  have m1 := gd.up n1
  clear n1
  clear hH
  refine hK.out _ _ m1 (fun hH => ?_)
  clear hK K
  (try simp only [Act.put, List.setIfInBounds_toArray, List.set_cons_zero, List.set_cons_succ])
  refine takeH (i := 2) (dst := some 13) (v := ?v2) rfl rfl (by kernel_rfl) (by kernel_rfl) (by kernel_rfl) (fun _ _ _ h => h) rfl ?hy2 hH rfl ?rest2
  case hy2 => (intro W hW; clear hW; go_simp; try with_reducible rfl)
  (try simp only [Act.put, List.setIfInBounds_toArray, List.set_cons_zero, List.set_cons_succ])
  refine takeH (i := 3) (dst := some 14) (v := ?v3) rfl rfl (by kernel_rfl) (by kernel_rfl) (by kernel_rfl) (fun _ _ _ h => h) rfl ?hy3 hH rfl ?rest3
  case hy3 => (intro W hW; clear hW; go_simp; try with_reducible rfl)
  (try simp only [Act.put, List.setIfInBounds_toArray, List.set_cons_zero, List.set_cons_succ])
  refine takeU (i := 4) (dst := some 15) rfl rfl (by kernel_rfl) (by kernel_rfl) (by kernel_rfl) (fun _ _ _ h => h) rfl hH rfl ?_
  (try simp only [Act.put, List.setIfInBounds_toArray, List.set_cons_zero, List.set_cons_succ])
  refine takeU (i := 5) (dst := some 16) rfl rfl (by kernel_rfl) (by kernel_rfl) (by kernel_rfl) (fun _ _ _ h => h) rfl hH rfl ?_
  (try simp only [Act.put, List.setIfInBounds_toArray, List.set_cons_zero, List.set_cons_succ])
  refine takeU (i := 6) (dst := some 17) rfl rfl (by kernel_rfl) (by kernel_rfl) (by kernel_rfl) (fun _ _ _ h => h) rfl hH rfl ?_
  (try simp only [Act.put, List.setIfInBounds_toArray, List.set_cons_zero, List.set_cons_succ])
  refine takeU (i := 7) (dst := some 18) rfl rfl (by kernel_rfl) (by kernel_rfl) (by kernel_rfl) (fun _ _ _ h => h) rfl hH rfl ?_
  (try simp only [Act.put, List.setIfInBounds_toArray, List.set_cons_zero, List.set_cons_succ])
  refine takeU (i := 8) (dst := some 19) rfl rfl (by kernel_rfl) (by kernel_rfl) (by kernel_rfl) (fun _ _ _ h => h) rfl hH rfl ?_
  (try simp only [Act.put, List.setIfInBounds_toArray, List.set_cons_zero, List.set_cons_succ])
  refine takeU (i := 9) (dst := some 20) rfl rfl (by kernel_rfl) (by kernel_rfl) (by kernel_rfl) (fun _ _ _ h => h) rfl hH rfl ?_
  (try simp only [Act.put, List.setIfInBounds_toArray, List.set_cons_zero, List.set_cons_succ])
  refine takeH (i := 10) (dst := some 21) (v := ?v4) rfl rfl (by kernel_rfl) (by kernel_rfl) (by kernel_rfl) (fun _ _ _ h => h) rfl ?hy4 hH rfl ?rest4
  case hy4 => (intro W hW; clear hW; go_simp; try with_reducible rfl)
  (try simp only [Act.put, List.setIfInBounds_toArray, List.set_cons_zero, List.set_cons_succ])
  refine wpAnyH_done (by kernel_rfl) ?_ _
  clear hH
  have HM : Hid _ := m1
  clear m1 gd
  go_wp2_with (first | ((with_reducible show wpList _ _ _ ({ dst := _, op := Op.store 24 _ _, type := _, pos := _, after := _, guard := _ } :: _) _ _); refine wpList_store_ino rfl _ _ rfl (HM.out.res) rfl rfl rfl ?_; intro w7 H7 b7 z7))
  exact bodyPost_ret (results_ino rfl _ H7 rfl) rfl ⟨rfl, HM.out.b.trans b7⟩
set_option maxRecDepth 100000 in
set_option maxHeartbeats 4000000 in
theorem iget_form (bb off cap : Nat) (l : List UInt8) (hl : l.length = 64) (hr : rtB (rdI l) = true) (hne : (layI (rdI l) == l) = false) (w : World) (hsrc : Src w (some ⟨bb, off, none⟩) l) (hc : (64 : Int) ≤ cap) (hm : (cap : Int) ≤ 9223372036854775807) :
    Calls Try.prog 12 #[.slice (some ⟨bb, off, none⟩) 64 cap] w fun e w' => e = .returned (.tuple #[.agg (iA zino), .int .i64 8]) ∧ Below w.heap.size w w' := by
  have hz := zeroI
  have HB : Hid (Below w.heap.size w (w.alloc (.cells (iA zino) 24))) := (Below.refl _ _).alloc (Nat.le_refl _) _
  have HI : Hid (InoAt (w.alloc (.cells (iA zino) 24)) w.heap.size zino) := ino_new w zino rfl
  have RD := fun W (h : Src W (some ⟨bb, off, none⟩) l) (hb : bb < W.heap.size) => iread_any bb off cap l hl W h hb hc hm
  have GR := iright_any (rdI l) (rdI_length l)
  have HSR : Hid (Src w (some ⟨bb, off, none⟩) l) := hsrc
  have hbb : bb < w.heap.size := by
    obtain ⟨b', off', h1, h2, _⟩ := hsrc.at' (by omega)
    cases h1; exact h2
  rw [hr] at GR
  have LA := fun W => ilay_any (rdI l) (rdI_length l) (rtB_inR hr) W
  have HBL : Hid ((layI (rdI l)).length = 64) := layI_length (rdI_length l)
  have HNE : Hid ((!(layI (rdI l) == l)) = true) := by rw [show (layI (rdI l) == l) = false from hne]; rfl
  clear hne
  have hat : ∀ w, (Instr.arrayAt 64 (.slice (some ⟨bb, off, none⟩) 64 cap)).run Try.prog w = .ok (.pointer (some ⟨bb, off, none⟩)) w := fun w => run_arrayAt w 64 _ 64 _ 64 cap Try.underlying64 (Nat.le_refl _)
  clear hsrc
  go_enter Try.func12, Try.ntmps12
  go_wp2_with fail
  refine (RD _ (HSR.out.below HB.out (Nat.le_refl _)) (by have := HB.out.size; omega)).mono ?_
  rintro e w2 ⟨rfl, h2⟩
  have HI2 : Hid (InoAt w2 w.heap.size zino) := HI.out.up h2
  have HB2 : Hid (Below w.heap.size w w2) := HB.out.trans (h2.mono HB.out.size)
  have hl2 := HI2.out.lt
  clear RD HI HB h2
  have HN : Hid (InoAt (w2.alloc (.cells (iA zino) 24)) w2.heap.size zino) := ino_new w2 zino rfl
  have HNB : Hid (Below w2.heap.size w2 (w2.alloc (.cells (iA zino) 24))) := (Below.refl _ _).alloc (Nat.le_refl _) _
  have HRL : Hid ((rdI l).ns.length = 8) := rdI_length l
  go_wp2_with (first | ((with_reducible show wpList _ _ _ ({ dst := _, op := Op.store 24 _ _, type := _, pos := _, after := _, guard := _ } :: _) _ _); refine wpList_store_ino rfl _ _ rfl (HN.out) HRL.out rfl rfl ?_; intro w3 H3 b3 z3))
  have f3 : Below w2.heap.size w2 w3 := HNB.out.trans b3
  have fw : Below w.heap.size w w3 := HB2.out.trans (f3.mono HB2.out.size)
  have g3 : GI w bb off l w2.heap.size w3 := ⟨fw, HI2.out.below f3 hl2, H3, HSR.out.below fw (Nat.le_refl _)⟩
  have gd := g3.up (Below.refl _ _).drew
  clear f3 fw g3 H3 b3 z3 HN HNB HI2 HB2 HSR
  refine wp_region_held_drew (S := (fun W => GI w bb off l w2.heap.size W)) (by kernel_rfl) gd (fun hH => ?_)
  refine takeH (i := 0) (dst := some 11) (v := ?v5) rfl rfl (by kernel_rfl) (by kernel_rfl) (by kernel_rfl) (fun _ _ _ h => h) rfl ?hy5 hH rfl ?rest5
  case hy5 => (intro W hW; refine exec_load_ino (x := Operand.tmp 4) hW.ino ?_ ?_ <;> rfl)
  (try simp only [Act.put, List.setIfInBounds_toArray, List.set_cons_zero, List.set_cons_succ])
  refine callH (i := 1) { dst := some 12, op := Go.Op.call { callee := Go.Callee.value (Go.Operand.func 14), args := #[Go.Operand.tmp 11], argTypes := #[24] }, type := 4, pos := "inode.go:94", after := #[{ on := 0, ground := Go.Ground.data }], guard := none } (by kernel_rfl) rfl rfl (fun K hK => ?_)
  go_simp
  refine (GR _).mono ?_
  rintro e v1 ⟨rfl, n1⟩
  have m1 := gd.up n1
  clear n1
  clear hH
  refine hK.out _ _ m1 (fun hH => ?_)
  clear hK K
  (try simp only [Act.put, List.setIfInBounds_toArray, List.set_cons_zero, List.set_cons_succ])
  refine takeH (i := 2) (dst := some 13) (v := ?v6) rfl rfl (by kernel_rfl) (by kernel_rfl) (by kernel_rfl) (fun _ _ _ h => h) rfl ?hy6 hH rfl ?rest6
  case hy6 => (intro W hW; clear hW; go_simp; try with_reducible rfl)
  (try simp only [Act.put, List.setIfInBounds_toArray, List.set_cons_zero, List.set_cons_succ])
  refine takeH (i := 3) (dst := some 14) (v := ?v7) rfl rfl (by kernel_rfl) (by kernel_rfl) (by kernel_rfl) (fun _ _ _ h => h) rfl ?hy7 hH rfl ?rest7
  case hy7 => (intro W hW; clear hW; go_simp; try with_reducible rfl)
  (try simp only [Act.put, List.setIfInBounds_toArray, List.set_cons_zero, List.set_cons_succ])
  refine takeH (i := 4) (dst := some 15) (v := ?v8) rfl rfl (by kernel_rfl) (by kernel_rfl) (by kernel_rfl) (fun _ _ _ h => h) rfl ?hy8 hH rfl ?rest8
  case hy8 => (intro W hW; refine exec_load_ino (x := Operand.tmp 4) hW.ino ?_ ?_ <;> rfl)
  (try simp only [Act.put, List.setIfInBounds_toArray, List.set_cons_zero, List.set_cons_succ])
  refine takeH (i := 6) (dst := some 17) (v := ?v9) rfl rfl (by kernel_rfl) (by kernel_rfl) (by kernel_rfl) (fun _ _ _ h => h) rfl ?hy9 hH rfl ?rest9
  case hy9 => (intro W hW; clear hW; go_simp; try with_reducible rfl)
  (try simp only [Act.put, List.setIfInBounds_toArray, List.set_cons_zero, List.set_cons_succ])
  refine takeH (i := 7) (dst := some 18) (v := ?v10) rfl rfl (by kernel_rfl) (by kernel_rfl) (by kernel_rfl) (fun _ _ _ h => h) rfl ?hy10 hH rfl ?rest10
  case hy10 => (intro W hW; clear hW; go_simp; try with_reducible rfl)
  (try simp only [Act.put, List.setIfInBounds_toArray, List.set_cons_zero, List.set_cons_succ])
  refine takeH (i := 8) (dst := some 19) (v := ?v11) rfl rfl (by kernel_rfl) (by kernel_rfl) (by kernel_rfl) (fun _ _ _ h => h) rfl ?hy11 hH rfl ?rest11
  case hy11 => (intro W hW; refine exec_load_64 (x := Operand.tmp 18) hW.src hl ?_ ?_ <;> rfl)
  (try simp only [Act.put, List.setIfInBounds_toArray, List.set_cons_zero, List.set_cons_succ])
  refine callH (i := 5) { dst := some 16, op := Go.Op.call { callee := Go.Callee.value (Go.Operand.func 48), args := #[Go.Operand.tmp 15], argTypes := #[24] }, type := 64, pos := "inode.go:94", after := #[{ on := 4, ground := Go.Ground.data }, { on := 3, ground := Go.Ground.chain }, { on := 3, ground := Go.Ground.guard }], guard := some (3, false) } (by kernel_rfl) rfl rfl (fun K hK => ?_)
  go_simp
  refine (LA _).mono ?_
  rintro e v2 ⟨rfl, n2⟩
  have m2 := m1.up n2
  clear n2
  clear hH
  refine hK.out _ _ m2 (fun hH => ?_)
  clear hK K
  (try simp only [Act.put, List.setIfInBounds_toArray, List.set_cons_zero, List.set_cons_succ])
  refine takeH (i := 9) (dst := some 20) (v := ?v12) rfl rfl (by kernel_rfl) (by kernel_rfl) (by kernel_rfl) (fun _ _ _ h => h) rfl ?hy12 hH rfl ?rest12
  case hy12 => (intro W hW; refine exec_neq_64 (X := Operand.tmp 16) (Y := Operand.tmp 19) HBL.out hl HNE.out ?_ ?_ ?_ <;> rfl)
  (try simp only [Act.put, List.setIfInBounds_toArray, List.set_cons_zero, List.set_cons_succ])
  refine takeH (i := 10) (dst := some 21) (v := ?v13) rfl rfl (by kernel_rfl) (by kernel_rfl) (by kernel_rfl) (fun _ _ _ h => h) rfl ?hy13 hH rfl ?rest13
  case hy13 => (intro W hW; clear hW; go_simp; try with_reducible rfl)
  (try simp only [Act.put, List.setIfInBounds_toArray, List.set_cons_zero, List.set_cons_succ])
  refine wpAnyH_done (by kernel_rfl) ?_ _
  clear hH
  have HM : Hid _ := m2
  clear m2 gd m1
  go_wp2_with (first | ((with_reducible show wpList _ _ _ ({ dst := _, op := Op.store 24 _ _, type := _, pos := _, after := _, guard := _ } :: _) _ _); refine wpList_store_ino rfl _ _ rfl (HM.out.res) rfl rfl rfl ?_; intro w7 H7 b7 z7))
  exact bodyPost_ret (results_ino rfl _ H7 rfl) rfl ⟨rfl, HM.out.b.trans b7⟩
set_option maxRecDepth 100000 in
set_option maxHeartbeats 4000000 in
theorem iget_ok (bb off cap : Nat) (l : List UInt8) (hl : l.length = 64) (hr : rtB (rdI l) = true) (hne : (layI (rdI l) == l) = true) (w : World) (hsrc : Src w (some ⟨bb, off, none⟩) l) (hc : (64 : Int) ≤ cap) (hm : (cap : Int) ≤ 9223372036854775807) :
    Calls Try.prog 12 #[.slice (some ⟨bb, off, none⟩) 64 cap] w fun e w' => e = .returned (.tuple #[.agg (iA (rdI l)), .int .i64 0]) ∧ Below w.heap.size w w' := by
  have hz := zeroI
  have HB : Hid (Below w.heap.size w (w.alloc (.cells (iA zino) 24))) := (Below.refl _ _).alloc (Nat.le_refl _) _
  have HI : Hid (InoAt (w.alloc (.cells (iA zino) 24)) w.heap.size zino) := ino_new w zino rfl
  have RD := fun W (h : Src W (some ⟨bb, off, none⟩) l) (hb : bb < W.heap.size) => iread_any bb off cap l hl W h hb hc hm
  have GR := iright_any (rdI l) (rdI_length l)
  have HSR : Hid (Src w (some ⟨bb, off, none⟩) l) := hsrc
  have hbb : bb < w.heap.size := by
    obtain ⟨b', off', h1, h2, _⟩ := hsrc.at' (by omega)
    cases h1; exact h2
  rw [hr] at GR
  have LA := fun W => ilay_any (rdI l) (rdI_length l) (rtB_inR hr) W
  have HBL : Hid ((layI (rdI l)).length = 64) := layI_length (rdI_length l)
  have HNE : Hid ((!(layI (rdI l) == l)) = false) := by rw [show (layI (rdI l) == l) = true from hne]; rfl
  clear hne
  have hat : ∀ w, (Instr.arrayAt 64 (.slice (some ⟨bb, off, none⟩) 64 cap)).run Try.prog w = .ok (.pointer (some ⟨bb, off, none⟩)) w := fun w => run_arrayAt w 64 _ 64 _ 64 cap Try.underlying64 (Nat.le_refl _)
  clear hsrc
  go_enter Try.func12, Try.ntmps12
  go_wp2_with fail
  refine (RD _ (HSR.out.below HB.out (Nat.le_refl _)) (by have := HB.out.size; omega)).mono ?_
  rintro e w2 ⟨rfl, h2⟩
  have HI2 : Hid (InoAt w2 w.heap.size zino) := HI.out.up h2
  have HB2 : Hid (Below w.heap.size w w2) := HB.out.trans (h2.mono HB.out.size)
  have hl2 := HI2.out.lt
  clear RD HI HB h2
  have HN : Hid (InoAt (w2.alloc (.cells (iA zino) 24)) w2.heap.size zino) := ino_new w2 zino rfl
  have HNB : Hid (Below w2.heap.size w2 (w2.alloc (.cells (iA zino) 24))) := (Below.refl _ _).alloc (Nat.le_refl _) _
  have HRL : Hid ((rdI l).ns.length = 8) := rdI_length l
  go_wp2_with (first | ((with_reducible show wpList _ _ _ ({ dst := _, op := Op.store 24 _ _, type := _, pos := _, after := _, guard := _ } :: _) _ _); refine wpList_store_ino rfl _ _ rfl (HN.out) HRL.out rfl rfl ?_; intro w3 H3 b3 z3))
  have f3 : Below w2.heap.size w2 w3 := HNB.out.trans b3
  have fw : Below w.heap.size w w3 := HB2.out.trans (f3.mono HB2.out.size)
  have g3 : GI w bb off l w2.heap.size w3 := ⟨fw, HI2.out.below f3 hl2, H3, HSR.out.below fw (Nat.le_refl _)⟩
  have gd := g3.up (Below.refl _ _).drew
  clear f3 fw g3 H3 b3 z3 HN HNB HI2 HB2 HSR
  refine wp_region_held_drew (S := (fun W => GI w bb off l w2.heap.size W)) (by kernel_rfl) gd (fun hH => ?_)
  refine takeH (i := 0) (dst := some 11) (v := ?v14) rfl rfl (by kernel_rfl) (by kernel_rfl) (by kernel_rfl) (fun _ _ _ h => h) rfl ?hy14 hH rfl ?rest14
  case hy14 => (intro W hW; refine exec_load_ino (x := Operand.tmp 4) hW.ino ?_ ?_ <;> rfl)
  (try simp only [Act.put, List.setIfInBounds_toArray, List.set_cons_zero, List.set_cons_succ])
  refine callH (i := 1) { dst := some 12, op := Go.Op.call { callee := Go.Callee.value (Go.Operand.func 14), args := #[Go.Operand.tmp 11], argTypes := #[24] }, type := 4, pos := "inode.go:94", after := #[{ on := 0, ground := Go.Ground.data }], guard := none } (by kernel_rfl) rfl rfl (fun K hK => ?_)
  go_simp
  refine (GR _).mono ?_
  rintro e v1 ⟨rfl, n1⟩
  have m1 := gd.up n1
  clear n1
  clear hH
  refine hK.out _ _ m1 (fun hH => ?_)
  clear hK K
  (try simp only [Act.put, List.setIfInBounds_toArray, List.set_cons_zero, List.set_cons_succ])
  refine takeH (i := 2) (dst := some 13) (v := ?v15) rfl rfl (by kernel_rfl) (by kernel_rfl) (by kernel_rfl) (fun _ _ _ h => h) rfl ?hy15 hH rfl ?rest15
  case hy15 => (intro W hW; clear hW; go_simp; try with_reducible rfl)
  (try simp only [Act.put, List.setIfInBounds_toArray, List.set_cons_zero, List.set_cons_succ])
  refine takeH (i := 3) (dst := some 14) (v := ?v16) rfl rfl (by kernel_rfl) (by kernel_rfl) (by kernel_rfl) (fun _ _ _ h => h) rfl ?hy16 hH rfl ?rest16
  case hy16 => (intro W hW; clear hW; go_simp; try with_reducible rfl)
  (try simp only [Act.put, List.setIfInBounds_toArray, List.set_cons_zero, List.set_cons_succ])
  refine takeH (i := 4) (dst := some 15) (v := ?v17) rfl rfl (by kernel_rfl) (by kernel_rfl) (by kernel_rfl) (fun _ _ _ h => h) rfl ?hy17 hH rfl ?rest17
  case hy17 => (intro W hW; refine exec_load_ino (x := Operand.tmp 4) hW.ino ?_ ?_ <;> rfl)
  (try simp only [Act.put, List.setIfInBounds_toArray, List.set_cons_zero, List.set_cons_succ])
  refine takeH (i := 6) (dst := some 17) (v := ?v18) rfl rfl (by kernel_rfl) (by kernel_rfl) (by kernel_rfl) (fun _ _ _ h => h) rfl ?hy18 hH rfl ?rest18
  case hy18 => (intro W hW; clear hW; go_simp; try with_reducible rfl)
  (try simp only [Act.put, List.setIfInBounds_toArray, List.set_cons_zero, List.set_cons_succ])
  refine takeH (i := 7) (dst := some 18) (v := ?v19) rfl rfl (by kernel_rfl) (by kernel_rfl) (by kernel_rfl) (fun _ _ _ h => h) rfl ?hy19 hH rfl ?rest19
  case hy19 => (intro W hW; clear hW; go_simp; try with_reducible rfl)
  (try simp only [Act.put, List.setIfInBounds_toArray, List.set_cons_zero, List.set_cons_succ])
  refine takeH (i := 8) (dst := some 19) (v := ?v20) rfl rfl (by kernel_rfl) (by kernel_rfl) (by kernel_rfl) (fun _ _ _ h => h) rfl ?hy20 hH rfl ?rest20
  case hy20 => (intro W hW; refine exec_load_64 (x := Operand.tmp 18) hW.src hl ?_ ?_ <;> rfl)
  (try simp only [Act.put, List.setIfInBounds_toArray, List.set_cons_zero, List.set_cons_succ])
  refine callH (i := 5) { dst := some 16, op := Go.Op.call { callee := Go.Callee.value (Go.Operand.func 48), args := #[Go.Operand.tmp 15], argTypes := #[24] }, type := 64, pos := "inode.go:94", after := #[{ on := 4, ground := Go.Ground.data }, { on := 3, ground := Go.Ground.chain }, { on := 3, ground := Go.Ground.guard }], guard := some (3, false) } (by kernel_rfl) rfl rfl (fun K hK => ?_)
  go_simp
  refine (LA _).mono ?_
  rintro e v2 ⟨rfl, n2⟩
  have m2 := m1.up n2
  clear n2
  clear hH
  refine hK.out _ _ m2 (fun hH => ?_)
  clear hK K
  (try simp only [Act.put, List.setIfInBounds_toArray, List.set_cons_zero, List.set_cons_succ])
  refine takeH (i := 9) (dst := some 20) (v := ?v21) rfl rfl (by kernel_rfl) (by kernel_rfl) (by kernel_rfl) (fun _ _ _ h => h) rfl ?hy21 hH rfl ?rest21
  case hy21 => (intro W hW; refine exec_neq_64 (X := Operand.tmp 16) (Y := Operand.tmp 19) HBL.out hl HNE.out ?_ ?_ ?_ <;> rfl)
  (try simp only [Act.put, List.setIfInBounds_toArray, List.set_cons_zero, List.set_cons_succ])
  refine takeH (i := 10) (dst := some 21) (v := ?v22) rfl rfl (by kernel_rfl) (by kernel_rfl) (by kernel_rfl) (fun _ _ _ h => h) rfl ?hy22 hH rfl ?rest22
  case hy22 => (intro W hW; clear hW; go_simp; try with_reducible rfl)
  (try simp only [Act.put, List.setIfInBounds_toArray, List.set_cons_zero, List.set_cons_succ])
  refine wpAnyH_done (by kernel_rfl) ?_ _
  clear hH
  have HM : Hid _ := m2
  clear m2 gd m1
  go_wp2_with (first | ((with_reducible show wpList _ _ _ ({ dst := _, op := Op.load 24 _, type := _, pos := _, after := _, guard := _ } :: _) _ _); refine wpList_load_ino rfl _ rfl (HM.out.ino) rfl ?_) | ((with_reducible show wpList _ _ _ ({ dst := _, op := Op.store 24 _ _, type := _, pos := _, after := _, guard := _ } :: _) _ _); refine wpList_store_ino rfl _ _ rfl (HM.out.res) HRL.out rfl rfl ?_; intro w7 H7 b7 z7))
  exact bodyPost_ret (results_ino rfl _ H7 rfl) rfl ⟨rfl, HM.out.b.trans b7⟩
/-- What Get answers. -/
def getI (l : List UInt8) : Ino := if formI l then rdI l else zino
def getE (l : List UInt8) : Int := if l.length = 64 then (if formI l then 0 else 8) else 4
def getV (l : List UInt8) : Ino := if l.length = 64 then getI l else zino
theorem getV_length (l : List UInt8) : (getV l).ns.length = 8 := by
  unfold getV getI
  split
  · split
    · exact rdI_length l
    · rfl
  · rfl
theorem iget_any (sp : Option Addr) (cap : Nat) (l : List UInt8) (w : World) (ha : Arg w sp cap l) :
    Calls Try.prog 12 #[.slice sp l.length cap] w fun e w' => e = .returned (.tuple #[.agg (iA (getV l)), .int .i64 (getE l)]) ∧ Below w.heap.size w w' := by
  by_cases hl : l.length = 64
  · have la := ha.len
    obtain ⟨b, off, rfl, _, _⟩ := ha.src.at' (by omega)
    unfold getV getE getI
    rw [if_pos hl, if_pos hl]
    cases hr : rtB (rdI l)
    · rw [show formI l = false by unfold formI; rw [hr]; rfl]
      have := iget_bad b off cap l hl hr w ha.src (by omega) (by omega)
      rw [hl]
      exact this
    · cases hne : (layI (rdI l) == l)
      · rw [show formI l = false by unfold formI; rw [hr, hne]; rfl]
        have := iget_form b off cap l hl hr hne w ha.src (by omega) (by omega)
        rw [hl]
        exact this
      · rw [show formI l = true by unfold formI; rw [hr, hne]; rfl]
        have := iget_ok b off cap l hl hr hne w ha.src (by omega) (by omega)
        rw [hl]
        exact this
  · unfold getV getE
    rw [if_neg hl, if_neg hl]
    exact iget_size sp l.length cap (by omega) w
end Go.Proofs.Ytabmogeicpphoaa
