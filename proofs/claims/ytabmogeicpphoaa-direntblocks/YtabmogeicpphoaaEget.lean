/- dirent.Get. -/
import Derived.Test.YtabmogeicpphoaaEread
namespace Go.Proofs.Ytabmogeicpphoaa
open Go.RowKit
/-- What Get has laid. -/
structure GE (w0 : World) (bb off : Nat) (l : List UInt8) (q : Nat) (W : World) : Prop where
  b : Below w0.heap.size w0 W
  res : EntAt W w0.heap.size zent
  ent : EntAt W q (rdE l)
  src : Src W (some ⟨bb, off, none⟩) l
theorem GE.up {w0 W W' : World} {bb off q : Nat} {l : List UInt8} (h : GE w0 bb off l q W) (hb : Below W.heap.size W W') : GE w0 bb off l q W' :=
  ⟨h.b.trans (hb.mono h.b.size), h.res.up hb, h.ent.up hb, h.src.below hb (Nat.le_refl _)⟩
set_option maxHeartbeats 4000000 in
theorem eget_size (sp : Option Addr) (n cap : Nat) (hn : ¬ (n : Int) = 32) (w : World) :
    Calls Try.prog 32 #[.slice sp n cap] w fun r w' => r = .returned (.tuple #[.agg (eA zent), .int .i64 4]) ∧ Below w.heap.size w w' := by
  have hz := zeroE
  have HB : Hid (Below w.heap.size w (w.alloc (.cells (eA zent) 48))) := (Below.refl _ _).alloc (Nat.le_refl _) _
  have HI : Hid (EntAt (w.alloc (.cells (eA zent) 48)) w.heap.size zent) := ent_new w zent
  go_enter Try.func32, Try.ntmps32
  go_wp2_with (first | ((with_reducible show wpList _ _ _ ({ dst := _, op := Op.store 48 _ _, type := _, pos := _, after := _, guard := _ } :: _) _ _); refine wpList_store_ent rfl _ _ rfl (HI.out) rfl rfl ?_; intro w4 H4 b4 z4))
  exact bodyPost_ret (results_ent rfl _ H4 rfl) rfl ⟨rfl, HB.out.trans b4.bel⟩
/-- Are the bytes those of an entry? -/
def formE (l : List UInt8) : Bool := rtE (rdE l) && (layE (rdE l) == l)
set_option maxRecDepth 100000 in
set_option maxHeartbeats 4000000 in
theorem eget_bad (bb off cap : Nat) (l : List UInt8) (hl : l.length = 32) (hr : rtE (rdE l) = false) (w : World) (hsrc : Src w (some ⟨bb, off, none⟩) l) (hc : (32 : Int) ≤ cap) (hm : (cap : Int) ≤ 9223372036854775807) :
    Calls Try.prog 32 #[.slice (some ⟨bb, off, none⟩) 32 cap] w fun r w' => r = .returned (.tuple #[.agg (eA zent), .int .i64 8]) ∧ Below w.heap.size w w' := by
  have hz := zeroE
  have HB : Hid (Below w.heap.size w (w.alloc (.cells (eA zent) 48))) := (Below.refl _ _).alloc (Nat.le_refl _) _
  have HI : Hid (EntAt (w.alloc (.cells (eA zent) 48)) w.heap.size zent) := ent_new w zent
  have RD := fun W (h : Src W (some ⟨bb, off, none⟩) l) => eread_any bb off cap l hl W h hc hm
  have GR := eright_any (rdE l)
  have HSR : Hid (Src w (some ⟨bb, off, none⟩) l) := hsrc
  have hbb : bb < w.heap.size := by
    obtain ⟨b', off', h1, h2, _⟩ := hsrc.at' (by omega)
    cases h1; exact h2
  rw [hr] at GR
  clear hsrc
  go_enter Try.func32, Try.ntmps32
  go_wp2_with fail
  refine (RD _ (HSR.out.below HB.out (Nat.le_refl _))).mono ?_
  rintro r w2 ⟨rfl, h2⟩
  have HI2 : Hid (EntAt w2 w.heap.size zent) := HI.out.up h2
  have HB2 : Hid (Below w.heap.size w w2) := HB.out.trans (h2.mono HB.out.size)
  have hl2 := HI2.out.lt
  clear RD HI HB h2
  have HN : Hid (EntAt (w2.alloc (.cells (eA zent) 48)) w2.heap.size zent) := ent_new w2 zent
  have HNB : Hid (Below w2.heap.size w2 (w2.alloc (.cells (eA zent) 48))) := (Below.refl _ _).alloc (Nat.le_refl _) _
  go_wp2_with (first | ((with_reducible show wpList _ _ _ ({ dst := _, op := Op.store 48 _ _, type := _, pos := _, after := _, guard := _ } :: _) _ _); refine wpList_store_ent rfl _ _ rfl (HN.out) rfl rfl ?_; intro w3 H3 b3 z3))
  have f3 : Below w2.heap.size w2 w3 := HNB.out.trans b3.bel
  have fw : Below w.heap.size w w3 := HB2.out.trans (f3.mono HB2.out.size)
  have g3 : GE w bb off l w2.heap.size w3 := ⟨fw, HI2.out.below f3 hl2, H3, HSR.out.below fw (Nat.le_refl _)⟩
  have gd := g3.up (Below.refl _ _).drew
  clear f3 fw g3 H3 b3 z3 HN HNB HI2 HB2 HSR
  refine wp_region_held_drew (S := (fun W => GE w bb off l w2.heap.size W)) (by kernel_rfl) gd (fun hH => ?_)
  refine takeH (i := 0) (dst := some 11) (v := ?v1) rfl rfl (by kernel_rfl) (by kernel_rfl) (by kernel_rfl) (fun _ _ _ h => h) rfl ?hy1 hH rfl ?rest1
  case hy1 => (intro W hW; refine exec_load_ent (x := Operand.tmp 4) hW.ent ?_ ?_ <;> rfl)
  (try simp only [Act.put, List.setIfInBounds_toArray, List.set_cons_zero, List.set_cons_succ])
  refine callH (i := 1) { dst := some 12, op := Go.Op.call { callee := Go.Callee.value (Go.Operand.func 61), args := #[Go.Operand.tmp 11], argTypes := #[48] }, type := 4, pos := "dirent.go:69", after := #[{ on := 0, ground := Go.Ground.data }], guard := none } (by kernel_rfl) rfl rfl (fun K hK => ?_)
  go_simp
  refine (GR _).mono ?_
  rintro r v1 ⟨rfl, n1⟩
  have m1 := gd.up n1
  clear n1
  clear hH
  refine hK.out _ _ m1 (fun hH => ?_)
  clear hK K
  (try simp only [Act.put, List.setIfInBounds_toArray, List.set_cons_zero, List.set_cons_succ])
  refine takeH (i := 2) (dst := some 13) (v := ?v2) rfl rfl (by kernel_rfl) (by kernel_rfl) (by kernel_rfl) (fun _ _ _ h => h) rfl ?hy2 hH rfl ?rest2
  case hy2 => (intro W hW; clear hW; go_simp; try with_reducible rfl)
  (try simp only [Act.put, List.setIfInBounds_toArray, List.set_cons_zero, List.set_cons_succ])
  refine takeH (i := 3) (dst := some 14) (v := ?v3) rfl rfl (by kernel_rfl) (by kernel_rfl) (by kernel_rfl) (fun _ _ _ h => h) rfl ?hy3 hH rfl ?rest3
  case hy3 => (intro W hW; clear hW; go_simp; try with_reducible rfl)
  (try simp only [Act.put, List.setIfInBounds_toArray, List.set_cons_zero, List.set_cons_succ])
  refine takeU (i := 4) (dst := some 15) rfl rfl (by kernel_rfl) (by kernel_rfl) (by kernel_rfl) (fun _ _ _ h => h) rfl hH rfl ?_
  (try simp only [Act.put, List.setIfInBounds_toArray, List.set_cons_zero, List.set_cons_succ])
  refine takeU (i := 5) (dst := some 16) rfl rfl (by kernel_rfl) (by kernel_rfl) (by kernel_rfl) (fun _ _ _ h => h) rfl hH rfl ?_
  (try simp only [Act.put, List.setIfInBounds_toArray, List.set_cons_zero, List.set_cons_succ])
  refine takeU (i := 6) (dst := some 17) rfl rfl (by kernel_rfl) (by kernel_rfl) (by kernel_rfl) (fun _ _ _ h => h) rfl hH rfl ?_
  (try simp only [Act.put, List.setIfInBounds_toArray, List.set_cons_zero, List.set_cons_succ])
  refine takeU (i := 7) (dst := some 18) rfl rfl (by kernel_rfl) (by kernel_rfl) (by kernel_rfl) (fun _ _ _ h => h) rfl hH rfl ?_
  (try simp only [Act.put, List.setIfInBounds_toArray, List.set_cons_zero, List.set_cons_succ])
  refine takeU (i := 8) (dst := some 19) rfl rfl (by kernel_rfl) (by kernel_rfl) (by kernel_rfl) (fun _ _ _ h => h) rfl hH rfl ?_
  (try simp only [Act.put, List.setIfInBounds_toArray, List.set_cons_zero, List.set_cons_succ])
  refine takeU (i := 9) (dst := some 20) rfl rfl (by kernel_rfl) (by kernel_rfl) (by kernel_rfl) (fun _ _ _ h => h) rfl hH rfl ?_
  (try simp only [Act.put, List.setIfInBounds_toArray, List.set_cons_zero, List.set_cons_succ])
  refine takeH (i := 10) (dst := some 21) (v := ?v4) rfl rfl (by kernel_rfl) (by kernel_rfl) (by kernel_rfl) (fun _ _ _ h => h) rfl ?hy4 hH rfl ?rest4
  case hy4 => (intro W hW; clear hW; go_simp; try with_reducible rfl)
  (try simp only [Act.put, List.setIfInBounds_toArray, List.set_cons_zero, List.set_cons_succ])
  refine wpAnyH_done (by kernel_rfl) ?_ _
  clear hH
  have HM : Hid _ := m1
  clear m1 gd
  go_wp2_with (first | ((with_reducible show wpList _ _ _ ({ dst := _, op := Op.store 48 _ _, type := _, pos := _, after := _, guard := _ } :: _) _ _); refine wpList_store_ent rfl _ _ rfl (HM.out.res) rfl rfl ?_; intro w7 H7 b7 z7))
  exact bodyPost_ret (results_ent rfl _ H7 rfl) rfl ⟨rfl, HM.out.b.trans b7.bel⟩
set_option maxRecDepth 100000 in
set_option maxHeartbeats 4000000 in
theorem eget_form (bb off cap : Nat) (l : List UInt8) (hl : l.length = 32) (hr : rtE (rdE l) = true) (hne : (layE (rdE l) == l) = false) (w : World) (hsrc : Src w (some ⟨bb, off, none⟩) l) (hc : (32 : Int) ≤ cap) (hm : (cap : Int) ≤ 9223372036854775807) :
    Calls Try.prog 32 #[.slice (some ⟨bb, off, none⟩) 32 cap] w fun r w' => r = .returned (.tuple #[.agg (eA zent), .int .i64 8]) ∧ Below w.heap.size w w' := by
  have hz := zeroE
  have HB : Hid (Below w.heap.size w (w.alloc (.cells (eA zent) 48))) := (Below.refl _ _).alloc (Nat.le_refl _) _
  have HI : Hid (EntAt (w.alloc (.cells (eA zent) 48)) w.heap.size zent) := ent_new w zent
  have RD := fun W (h : Src W (some ⟨bb, off, none⟩) l) => eread_any bb off cap l hl W h hc hm
  have GR := eright_any (rdE l)
  have HSR : Hid (Src w (some ⟨bb, off, none⟩) l) := hsrc
  have hbb : bb < w.heap.size := by
    obtain ⟨b', off', h1, h2, _⟩ := hsrc.at' (by omega)
    cases h1; exact h2
  rw [hr] at GR
  have LA := fun W => elay_any (rdE l) (rtE_enR hr) W
  have HBL : Hid ((layE (rdE l)).length = 32) := layE_length (rtE_enR hr).nm
  have HNE : Hid ((!(layE (rdE l) == l)) = true) := by rw [show (layE (rdE l) == l) = false from hne]; rfl
  clear hne
  have hat : ∀ w, (Instr.arrayAt 80 (.slice (some ⟨bb, off, none⟩) 32 cap)).run Try.prog w = .ok (.pointer (some ⟨bb, off, none⟩)) w := fun w => run_arrayAt w 80 _ 32 _ 32 cap Try.underlying80 (Nat.le_refl _)
  clear hsrc
  go_enter Try.func32, Try.ntmps32
  go_wp2_with fail
  refine (RD _ (HSR.out.below HB.out (Nat.le_refl _))).mono ?_
  rintro r w2 ⟨rfl, h2⟩
  have HI2 : Hid (EntAt w2 w.heap.size zent) := HI.out.up h2
  have HB2 : Hid (Below w.heap.size w w2) := HB.out.trans (h2.mono HB.out.size)
  have hl2 := HI2.out.lt
  clear RD HI HB h2
  have HN : Hid (EntAt (w2.alloc (.cells (eA zent) 48)) w2.heap.size zent) := ent_new w2 zent
  have HNB : Hid (Below w2.heap.size w2 (w2.alloc (.cells (eA zent) 48))) := (Below.refl _ _).alloc (Nat.le_refl _) _
  go_wp2_with (first | ((with_reducible show wpList _ _ _ ({ dst := _, op := Op.store 48 _ _, type := _, pos := _, after := _, guard := _ } :: _) _ _); refine wpList_store_ent rfl _ _ rfl (HN.out) rfl rfl ?_; intro w3 H3 b3 z3))
  have f3 : Below w2.heap.size w2 w3 := HNB.out.trans b3.bel
  have fw : Below w.heap.size w w3 := HB2.out.trans (f3.mono HB2.out.size)
  have g3 : GE w bb off l w2.heap.size w3 := ⟨fw, HI2.out.below f3 hl2, H3, HSR.out.below fw (Nat.le_refl _)⟩
  have gd := g3.up (Below.refl _ _).drew
  clear f3 fw g3 H3 b3 z3 HN HNB HI2 HB2 HSR
  refine wp_region_held_drew (S := (fun W => GE w bb off l w2.heap.size W)) (by kernel_rfl) gd (fun hH => ?_)
  refine takeH (i := 0) (dst := some 11) (v := ?v5) rfl rfl (by kernel_rfl) (by kernel_rfl) (by kernel_rfl) (fun _ _ _ h => h) rfl ?hy5 hH rfl ?rest5
  case hy5 => (intro W hW; refine exec_load_ent (x := Operand.tmp 4) hW.ent ?_ ?_ <;> rfl)
  (try simp only [Act.put, List.setIfInBounds_toArray, List.set_cons_zero, List.set_cons_succ])
  refine callH (i := 1) { dst := some 12, op := Go.Op.call { callee := Go.Callee.value (Go.Operand.func 61), args := #[Go.Operand.tmp 11], argTypes := #[48] }, type := 4, pos := "dirent.go:69", after := #[{ on := 0, ground := Go.Ground.data }], guard := none } (by kernel_rfl) rfl rfl (fun K hK => ?_)
  go_simp
  refine (GR _).mono ?_
  rintro r v1 ⟨rfl, n1⟩
  have m1 := gd.up n1
  clear n1
  clear hH
  refine hK.out _ _ m1 (fun hH => ?_)
  clear hK K
  (try simp only [Act.put, List.setIfInBounds_toArray, List.set_cons_zero, List.set_cons_succ])
  refine takeH (i := 2) (dst := some 13) (v := ?v6) rfl rfl (by kernel_rfl) (by kernel_rfl) (by kernel_rfl) (fun _ _ _ h => h) rfl ?hy6 hH rfl ?rest6
  case hy6 => (intro W hW; clear hW; go_simp; try with_reducible rfl)
  (try simp only [Act.put, List.setIfInBounds_toArray, List.set_cons_zero, List.set_cons_succ])
  refine takeH (i := 3) (dst := some 14) (v := ?v7) rfl rfl (by kernel_rfl) (by kernel_rfl) (by kernel_rfl) (fun _ _ _ h => h) rfl ?hy7 hH rfl ?rest7
  case hy7 => (intro W hW; clear hW; go_simp; try with_reducible rfl)
  (try simp only [Act.put, List.setIfInBounds_toArray, List.set_cons_zero, List.set_cons_succ])
  refine takeH (i := 4) (dst := some 15) (v := ?v8) rfl rfl (by kernel_rfl) (by kernel_rfl) (by kernel_rfl) (fun _ _ _ h => h) rfl ?hy8 hH rfl ?rest8
  case hy8 => (intro W hW; refine exec_load_ent (x := Operand.tmp 4) hW.ent ?_ ?_ <;> rfl)
  (try simp only [Act.put, List.setIfInBounds_toArray, List.set_cons_zero, List.set_cons_succ])
  refine takeH (i := 6) (dst := some 17) (v := ?v9) rfl rfl (by kernel_rfl) (by kernel_rfl) (by kernel_rfl) (fun _ _ _ h => h) rfl ?hy9 hH rfl ?rest9
  case hy9 => (intro W hW; clear hW; go_simp; try with_reducible rfl)
  (try simp only [Act.put, List.setIfInBounds_toArray, List.set_cons_zero, List.set_cons_succ])
  refine takeH (i := 7) (dst := some 18) (v := ?v10) rfl rfl (by kernel_rfl) (by kernel_rfl) (by kernel_rfl) (fun _ _ _ h => h) rfl ?hy10 hH rfl ?rest10
  case hy10 => (intro W hW; clear hW; go_simp; try with_reducible rfl)
  (try simp only [Act.put, List.setIfInBounds_toArray, List.set_cons_zero, List.set_cons_succ])
  refine takeH (i := 8) (dst := some 19) (v := ?v11) rfl rfl (by kernel_rfl) (by kernel_rfl) (by kernel_rfl) (fun _ _ _ h => h) rfl ?hy11 hH rfl ?rest11
  case hy11 => (intro W hW; refine exec_load_32 (x := Operand.tmp 18) hW.src hl ?_ ?_ <;> rfl)
  (try simp only [Act.put, List.setIfInBounds_toArray, List.set_cons_zero, List.set_cons_succ])
  refine callH (i := 5) { dst := some 16, op := Go.Op.call { callee := Go.Callee.value (Go.Operand.func 62), args := #[Go.Operand.tmp 15], argTypes := #[48] }, type := 80, pos := "dirent.go:69", after := #[{ on := 4, ground := Go.Ground.data }, { on := 3, ground := Go.Ground.chain }, { on := 3, ground := Go.Ground.guard }], guard := some (3, false) } (by kernel_rfl) rfl rfl (fun K hK => ?_)
  go_simp
  refine (LA _).mono ?_
  rintro r v2 ⟨rfl, n2⟩
  have m2 := m1.up n2
  clear n2
  clear hH
  refine hK.out _ _ m2 (fun hH => ?_)
  clear hK K
  (try simp only [Act.put, List.setIfInBounds_toArray, List.set_cons_zero, List.set_cons_succ])
  refine takeH (i := 9) (dst := some 20) (v := ?v12) rfl rfl (by kernel_rfl) (by kernel_rfl) (by kernel_rfl) (fun _ _ _ h => h) rfl ?hy12 hH rfl ?rest12
  case hy12 => (intro W hW; refine exec_neq_32 (X := Operand.tmp 16) (Y := Operand.tmp 19) HBL.out hl HNE.out ?_ ?_ ?_ <;> rfl)
  (try simp only [Act.put, List.setIfInBounds_toArray, List.set_cons_zero, List.set_cons_succ])
  refine takeH (i := 10) (dst := some 21) (v := ?v13) rfl rfl (by kernel_rfl) (by kernel_rfl) (by kernel_rfl) (fun _ _ _ h => h) rfl ?hy13 hH rfl ?rest13
  case hy13 => (intro W hW; clear hW; go_simp; try with_reducible rfl)
  (try simp only [Act.put, List.setIfInBounds_toArray, List.set_cons_zero, List.set_cons_succ])
  refine wpAnyH_done (by kernel_rfl) ?_ _
  clear hH
  have HM : Hid _ := m2
  clear m2 gd m1
  go_wp2_with (first | ((with_reducible show wpList _ _ _ ({ dst := _, op := Op.store 48 _ _, type := _, pos := _, after := _, guard := _ } :: _) _ _); refine wpList_store_ent rfl _ _ rfl (HM.out.res) rfl rfl ?_; intro w7 H7 b7 z7))
  exact bodyPost_ret (results_ent rfl _ H7 rfl) rfl ⟨rfl, HM.out.b.trans b7.bel⟩
set_option maxRecDepth 100000 in
set_option maxHeartbeats 4000000 in
theorem eget_ok (bb off cap : Nat) (l : List UInt8) (hl : l.length = 32) (hr : rtE (rdE l) = true) (hne : (layE (rdE l) == l) = true) (w : World) (hsrc : Src w (some ⟨bb, off, none⟩) l) (hc : (32 : Int) ≤ cap) (hm : (cap : Int) ≤ 9223372036854775807) :
    Calls Try.prog 32 #[.slice (some ⟨bb, off, none⟩) 32 cap] w fun r w' => r = .returned (.tuple #[.agg (eA (rdE l)), .int .i64 0]) ∧ Below w.heap.size w w' := by
  have hz := zeroE
  have HB : Hid (Below w.heap.size w (w.alloc (.cells (eA zent) 48))) := (Below.refl _ _).alloc (Nat.le_refl _) _
  have HI : Hid (EntAt (w.alloc (.cells (eA zent) 48)) w.heap.size zent) := ent_new w zent
  have RD := fun W (h : Src W (some ⟨bb, off, none⟩) l) => eread_any bb off cap l hl W h hc hm
  have GR := eright_any (rdE l)
  have HSR : Hid (Src w (some ⟨bb, off, none⟩) l) := hsrc
  have hbb : bb < w.heap.size := by
    obtain ⟨b', off', h1, h2, _⟩ := hsrc.at' (by omega)
    cases h1; exact h2
  rw [hr] at GR
  have LA := fun W => elay_any (rdE l) (rtE_enR hr) W
  have HBL : Hid ((layE (rdE l)).length = 32) := layE_length (rtE_enR hr).nm
  have HNE : Hid ((!(layE (rdE l) == l)) = false) := by rw [show (layE (rdE l) == l) = true from hne]; rfl
  clear hne
  have hat : ∀ w, (Instr.arrayAt 80 (.slice (some ⟨bb, off, none⟩) 32 cap)).run Try.prog w = .ok (.pointer (some ⟨bb, off, none⟩)) w := fun w => run_arrayAt w 80 _ 32 _ 32 cap Try.underlying80 (Nat.le_refl _)
  clear hsrc
  go_enter Try.func32, Try.ntmps32
  go_wp2_with fail
  refine (RD _ (HSR.out.below HB.out (Nat.le_refl _))).mono ?_
  rintro r w2 ⟨rfl, h2⟩
  have HI2 : Hid (EntAt w2 w.heap.size zent) := HI.out.up h2
  have HB2 : Hid (Below w.heap.size w w2) := HB.out.trans (h2.mono HB.out.size)
  have hl2 := HI2.out.lt
  clear RD HI HB h2
  have HN : Hid (EntAt (w2.alloc (.cells (eA zent) 48)) w2.heap.size zent) := ent_new w2 zent
  have HNB : Hid (Below w2.heap.size w2 (w2.alloc (.cells (eA zent) 48))) := (Below.refl _ _).alloc (Nat.le_refl _) _
  go_wp2_with (first | ((with_reducible show wpList _ _ _ ({ dst := _, op := Op.store 48 _ _, type := _, pos := _, after := _, guard := _ } :: _) _ _); refine wpList_store_ent rfl _ _ rfl (HN.out) rfl rfl ?_; intro w3 H3 b3 z3))
  have f3 : Below w2.heap.size w2 w3 := HNB.out.trans b3.bel
  have fw : Below w.heap.size w w3 := HB2.out.trans (f3.mono HB2.out.size)
  have g3 : GE w bb off l w2.heap.size w3 := ⟨fw, HI2.out.below f3 hl2, H3, HSR.out.below fw (Nat.le_refl _)⟩
  have gd := g3.up (Below.refl _ _).drew
  clear f3 fw g3 H3 b3 z3 HN HNB HI2 HB2 HSR
  refine wp_region_held_drew (S := (fun W => GE w bb off l w2.heap.size W)) (by kernel_rfl) gd (fun hH => ?_)
  refine takeH (i := 0) (dst := some 11) (v := ?v14) rfl rfl (by kernel_rfl) (by kernel_rfl) (by kernel_rfl) (fun _ _ _ h => h) rfl ?hy14 hH rfl ?rest14
  case hy14 => (intro W hW; refine exec_load_ent (x := Operand.tmp 4) hW.ent ?_ ?_ <;> rfl)
  (try simp only [Act.put, List.setIfInBounds_toArray, List.set_cons_zero, List.set_cons_succ])
  refine callH (i := 1) { dst := some 12, op := Go.Op.call { callee := Go.Callee.value (Go.Operand.func 61), args := #[Go.Operand.tmp 11], argTypes := #[48] }, type := 4, pos := "dirent.go:69", after := #[{ on := 0, ground := Go.Ground.data }], guard := none } (by kernel_rfl) rfl rfl (fun K hK => ?_)
  go_simp
  refine (GR _).mono ?_
  rintro r v1 ⟨rfl, n1⟩
  have m1 := gd.up n1
  clear n1
  clear hH
  refine hK.out _ _ m1 (fun hH => ?_)
  clear hK K
  (try simp only [Act.put, List.setIfInBounds_toArray, List.set_cons_zero, List.set_cons_succ])
  refine takeH (i := 2) (dst := some 13) (v := ?v15) rfl rfl (by kernel_rfl) (by kernel_rfl) (by kernel_rfl) (fun _ _ _ h => h) rfl ?hy15 hH rfl ?rest15
  case hy15 => (intro W hW; clear hW; go_simp; try with_reducible rfl)
  (try simp only [Act.put, List.setIfInBounds_toArray, List.set_cons_zero, List.set_cons_succ])
  refine takeH (i := 3) (dst := some 14) (v := ?v16) rfl rfl (by kernel_rfl) (by kernel_rfl) (by kernel_rfl) (fun _ _ _ h => h) rfl ?hy16 hH rfl ?rest16
  case hy16 => (intro W hW; clear hW; go_simp; try with_reducible rfl)
  (try simp only [Act.put, List.setIfInBounds_toArray, List.set_cons_zero, List.set_cons_succ])
  refine takeH (i := 4) (dst := some 15) (v := ?v17) rfl rfl (by kernel_rfl) (by kernel_rfl) (by kernel_rfl) (fun _ _ _ h => h) rfl ?hy17 hH rfl ?rest17
  case hy17 => (intro W hW; refine exec_load_ent (x := Operand.tmp 4) hW.ent ?_ ?_ <;> rfl)
  (try simp only [Act.put, List.setIfInBounds_toArray, List.set_cons_zero, List.set_cons_succ])
  refine takeH (i := 6) (dst := some 17) (v := ?v18) rfl rfl (by kernel_rfl) (by kernel_rfl) (by kernel_rfl) (fun _ _ _ h => h) rfl ?hy18 hH rfl ?rest18
  case hy18 => (intro W hW; clear hW; go_simp; try with_reducible rfl)
  (try simp only [Act.put, List.setIfInBounds_toArray, List.set_cons_zero, List.set_cons_succ])
  refine takeH (i := 7) (dst := some 18) (v := ?v19) rfl rfl (by kernel_rfl) (by kernel_rfl) (by kernel_rfl) (fun _ _ _ h => h) rfl ?hy19 hH rfl ?rest19
  case hy19 => (intro W hW; clear hW; go_simp; try with_reducible rfl)
  (try simp only [Act.put, List.setIfInBounds_toArray, List.set_cons_zero, List.set_cons_succ])
  refine takeH (i := 8) (dst := some 19) (v := ?v20) rfl rfl (by kernel_rfl) (by kernel_rfl) (by kernel_rfl) (fun _ _ _ h => h) rfl ?hy20 hH rfl ?rest20
  case hy20 => (intro W hW; refine exec_load_32 (x := Operand.tmp 18) hW.src hl ?_ ?_ <;> rfl)
  (try simp only [Act.put, List.setIfInBounds_toArray, List.set_cons_zero, List.set_cons_succ])
  refine callH (i := 5) { dst := some 16, op := Go.Op.call { callee := Go.Callee.value (Go.Operand.func 62), args := #[Go.Operand.tmp 15], argTypes := #[48] }, type := 80, pos := "dirent.go:69", after := #[{ on := 4, ground := Go.Ground.data }, { on := 3, ground := Go.Ground.chain }, { on := 3, ground := Go.Ground.guard }], guard := some (3, false) } (by kernel_rfl) rfl rfl (fun K hK => ?_)
  go_simp
  refine (LA _).mono ?_
  rintro r v2 ⟨rfl, n2⟩
  have m2 := m1.up n2
  clear n2
  clear hH
  refine hK.out _ _ m2 (fun hH => ?_)
  clear hK K
  (try simp only [Act.put, List.setIfInBounds_toArray, List.set_cons_zero, List.set_cons_succ])
  refine takeH (i := 9) (dst := some 20) (v := ?v21) rfl rfl (by kernel_rfl) (by kernel_rfl) (by kernel_rfl) (fun _ _ _ h => h) rfl ?hy21 hH rfl ?rest21
  case hy21 => (intro W hW; refine exec_neq_32 (X := Operand.tmp 16) (Y := Operand.tmp 19) HBL.out hl HNE.out ?_ ?_ ?_ <;> rfl)
  (try simp only [Act.put, List.setIfInBounds_toArray, List.set_cons_zero, List.set_cons_succ])
  refine takeH (i := 10) (dst := some 21) (v := ?v22) rfl rfl (by kernel_rfl) (by kernel_rfl) (by kernel_rfl) (fun _ _ _ h => h) rfl ?hy22 hH rfl ?rest22
  case hy22 => (intro W hW; clear hW; go_simp; try with_reducible rfl)
  (try simp only [Act.put, List.setIfInBounds_toArray, List.set_cons_zero, List.set_cons_succ])
  refine wpAnyH_done (by kernel_rfl) ?_ _
  clear hH
  have HM : Hid _ := m2
  clear m2 gd m1
  go_wp2_with (first | ((with_reducible show wpList _ _ _ ({ dst := _, op := Op.load 48 _, type := _, pos := _, after := _, guard := _ } :: _) _ _); refine wpList_load_ent rfl _ rfl (HM.out.ent) rfl ?_) | ((with_reducible show wpList _ _ _ ({ dst := _, op := Op.store 48 _ _, type := _, pos := _, after := _, guard := _ } :: _) _ _); refine wpList_store_ent rfl _ _ rfl (HM.out.res) rfl rfl ?_; intro w7 H7 b7 z7))
  exact bodyPost_ret (results_ent rfl _ H7 rfl) rfl ⟨rfl, HM.out.b.trans b7.bel⟩
/-- What Get answers. -/
def egetI (l : List UInt8) : Ent := if formE l then rdE l else zent
def egetE (l : List UInt8) : Int := if l.length = 32 then (if formE l then 0 else 8) else 4
def egetV (l : List UInt8) : Ent := if l.length = 32 then egetI l else zent
theorem eget_any (sp : Option Addr) (cap : Nat) (l : List UInt8) (w : World) (ha : Arg w sp cap l) :
    Calls Try.prog 32 #[.slice sp l.length cap] w fun r w' => r = .returned (.tuple #[.agg (eA (egetV l)), .int .i64 (egetE l)]) ∧ Below w.heap.size w w' := by
  by_cases hl : l.length = 32
  · have la := ha.len
    obtain ⟨b, off, rfl, _, _⟩ := ha.src.at' (by omega)
    unfold egetV egetE egetI
    rw [if_pos hl, if_pos hl]
    cases hr : rtE (rdE l)
    · rw [show formE l = false by unfold formE; rw [hr]; rfl]
      have := eget_bad b off cap l hl hr w ha.src (by omega) (by omega)
      rw [hl]
      exact this
    · cases hne : (layE (rdE l) == l)
      · rw [show formE l = false by unfold formE; rw [hr, hne]; rfl]
        have := eget_form b off cap l hl hr hne w ha.src (by omega) (by omega)
        rw [hl]
        exact this
      · rw [show formE l = true by unfold formE; rw [hr, hne]; rfl]
        have := eget_ok b off cap l hl hr hne w ha.src (by omega) (by omega)
        rw [hl]
        exact this
  · unfold egetV egetE
    rw [if_neg hl, if_neg hl]
    exact eget_size sp l.length cap (by omega) w
end Go.Proofs.Ytabmogeicpphoaa
