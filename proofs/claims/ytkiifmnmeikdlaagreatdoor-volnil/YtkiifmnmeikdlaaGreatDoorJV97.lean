/- vol.chosen. -/
import Derived.Test.YtkiifmnmeikdlaaGreatDoorJV54
namespace Go.Proofs.YtkiifmnmeikdlaaGreatDoor
open Go.RowKit
set_option maxRecDepth 100000
theorem Tab.fr {w w' : World} (h : Tab w) {S : Nat → Prop} (hf : Fr S w w') (hS : ¬ S 0) : Tab w' := fun i hi => (fr_cell hf (a := ⟨0, i, none⟩) (block_lt_of_cell (h i hi)) hS).trans (h i hi)
/-- What chosen has laid: the two places hold v0 and v1. -/
structure CH (w0 : World) (base p : Nat) (C : Nat → List UInt8) (k : Nat) (D : Nat → Prop) (v0 v1 : Value) (W : World) : Prop where
  b : Below w0.heap.size w0 W
  r : Row4 W w0.heap.size 58 0 0 0 0
  m : W.heap[w0.heap.size + 1]? = some (.cells #[v0, v1] 92 (0, 0))
  d : DW W base p C k D
  l : ∀ j, D j → j < w0.heap.size
section
variable {w0 W W' : World} {base p k : Nat} {C : Nat → List UInt8} {D : Nat → Prop} {v0 v1 : Value}
theorem CH.ml (h : CH w0 base p C k D v0 v1 W) : w0.heap.size + 1 < W.heap.size := (Array.getElem?_eq_some_iff.1 h.m).1
theorem CH.c0 (h : CH w0 base p C k D v0 v1 W) : W.cell? ⟨w0.heap.size + 1, 0, none⟩ = some v0 := by rw [cell_of_row _ _ _ _ _ _ h.m]; rfl
theorem CH.c1 (h : CH w0 base p C k D v0 v1 W) : W.cell? ⟨w0.heap.size + 1, 1, none⟩ = some v1 := by rw [cell_of_row _ _ _ _ _ _ h.m]; rfl
theorem CH.f (h : CH w0 base p C k D v0 v1 W) (o : Nat) : W.frozen? ⟨w0.heap.size + 1, o, none⟩ = false := frozen_of_row _ _ _ _ _ h.m
theorem CH.up (h : CH w0 base p C k D v0 v1 W) (hb : Below W.heap.size W W') : CH w0 base p C k D v0 v1 W' :=
  ⟨h.b.trans (hb.mono h.b.size), h.r.up hb, (hb.block _ h.ml).trans h.m, h.d.up hb, h.l⟩
theorem CH.fr (h : CH w0 base p C k D v0 v1 W) {q : Nat} (hf : Fr (fun j => j = q) W W') (hq : w0.heap.size + 2 ≤ q) : CH w0 base p C k D v0 v1 W' := by
  have z := h.ml
  exact ⟨h.b.trans (hf.below (by omega) (fun j e => by omega)), (hf.blk _ (by omega) (by omega)).trans h.r, (hf.blk _ z (by omega)).trans h.m, h.d.fr hf (fun j hj e => by have := h.l j hj; omega), h.l⟩
theorem CH.put0 (h : CH w0 base p C k D v0 v1 W) (v : Value) : CH w0 base p C k D v v1 (W.setCell ⟨w0.heap.size + 1, 0, none⟩ v) := by
  have z := h.ml
  have hm := heap_setCell_same W (w0.heap.size + 1) 0 _ _ v h.m
  have hf : Fr (fun j => j = w0.heap.size + 1) W (W.setCell ⟨w0.heap.size + 1, 0, none⟩ v) := (Fr.refl _ _).setCell _ _ _ rfl
  exact ⟨h.b.trans (hf.below (by omega) (fun j e => by omega)), (hf.blk _ (by omega) (by omega)).trans h.r, by rw [hm]; rfl, h.d.fr hf (fun j hj e => by have := h.l j hj; omega), h.l⟩
theorem CH.put1 (h : CH w0 base p C k D v0 v1 W) (v : Value) : CH w0 base p C k D v0 v (W.setCell ⟨w0.heap.size + 1, 1, none⟩ v) := by
  have z := h.ml
  have hm := heap_setCell_same W (w0.heap.size + 1) 1 _ _ v h.m
  have hf : Fr (fun j => j = w0.heap.size + 1) W (W.setCell ⟨w0.heap.size + 1, 1, none⟩ v) := (Fr.refl _ _).setCell _ _ _ rfl
  exact ⟨h.b.trans (hf.below (by omega) (fun j e => by omega)), (hf.blk _ (by omega) (by omega)).trans h.r, by rw [hm]; rfl, h.d.fr hf (fun j hj e => by have := h.l j hj; omega), h.l⟩
end
theorem fr_set4 (W : World) (q : Nat) (u v x y : Value) : Fr (fun j => j = q) W ((((W.setCell ⟨q, 0, none⟩ u).setCell ⟨q, 1, none⟩ v).setCell ⟨q, 2, none⟩ x).setCell ⟨q, 3, none⟩ y) :=
  ((((Fr.refl (fun j => j = q) W).setCell q _ _ rfl).setCell q _ _ rfl).setCell q _ _ rfl).setCell q _ _ rfl
theorem Src.fr {w w' : World} {g : Nat} {l : List UInt8} (h : Src w (some ⟨g, 0, none⟩) l) {S : Nat → Prop} (hf : Fr S w w') (hS : ¬ S g) : Src w' (some ⟨g, 0, none⟩) l := by
  rcases h with h | ⟨b, off, e, hb, hc⟩
  · exact .inl h
  · cases e
    exact .inr ⟨g, 0, rfl, Nat.lt_of_lt_of_le hb hf.size, fun j hj => (fr_cell hf (a := ⟨g, 0 + j, none⟩) hb hS).trans (hc j hj)⟩
theorem says_of {w : World} {g : Nat} {l : List UInt8} (hl : l.length = 256) (hs : Src w (some ⟨g, 0, none⟩) l) (ht : Tab w) : Says w (.slice (some ⟨g, 0, none⟩) 256 256) l := fun W hb =>
  sget_any g 0 256 l hl W (hs.below hb (Nat.le_refl _)) (ht.below hb (block_lt_of_cell (ht 0 (by omega)))) (by omega) (by omega)
set_option maxHeartbeats 8000000 in
theorem chosen_any {w : World} {base p k : Nat} {C : Nat → List UInt8} {D : Nat → Prop} (h : DW w base p C k D) (ht : Tab w) (h0 : C 0 = zeros) (h1 : C 1 = supL) :
    Calls Tryz.prog 19 #[.pointer (some ⟨p, 0, none⟩)] w fun e w' => e = .returned (.tuple #[.agg #[.int .i64 1, .int .i64 16, .int .i64 8, .int .i64 2], .int .i64 0]) ∧ Below w.heap.size w w' := by
  obtain ⟨w1, hw1⟩ : ∃ w1, (w.alloc (.cells #[.int .i64 0, .int .i64 0, .int .i64 0, .int .i64 0] 58)).alloc (.cells #[.slice none 0 0, .slice none 0 0] 92) = w1 := ⟨_, rfl⟩
  have hb1 : Below w.heap.size w w1 := by rw [← hw1]; exact ((Below.refl _ _).alloc (Nat.le_refl _) _).alloc (by simp) _
  have HC1 : Hid (CH w base p C k D (.slice none 0 0) (.slice none 0 0) w1) := ⟨hb1, by rw [← hw1]; exact heap_alloc2_old _ _ _, by rw [← hw1]; exact heap_alloc2_new _ _ _, h.up hb1, fun j hj => (h.lt hj).1⟩
  have HT : Hid (Tab w) := ht
  have HC : Hid (C 0 = zeros ∧ C 1 = supL) := ⟨h0, h1⟩
  have RD := dw_read HC1.out.d 0 (by omega)
  rw [h0, show ((0 : Nat) : Int) = 0 from rfl] at RD
  have c0 := HC1.out.c0
  have f0 := HC1.out.f 0
  clear h ht h0 h1 hb1
  go_enter Tryz.func19, Tryz.ntmps19
  go_wp2_with fail
  refine wp_loop_rounds 3 ?_
  rw [rounds_succ]
  go_wp2_with fail
  refine RD.mono ?_
  clear RD c0 f0
  rintro e w2 ⟨g0, rfl, hB2, hg2, h2⟩
  have H2 : Hid (CH w base p C k D (.slice none 0 0) (.slice none 0 0) w2) := HC1.out.up h2
  have HG0 : Hid (Src w2 (some ⟨g0, 0, none⟩) zeros ∧ w.heap.size + 2 ≤ g0) := ⟨hB2.src, by have := HC1.out.ml; omega⟩
  have c0 := H2.out.c0
  have f0 := H2.out.f 0
  have H3 : Hid (CH w base p C k D (.slice (some ⟨g0, 0, none⟩) 256 256) (.slice none 0 0) (w2.setCell ⟨w.heap.size + 1, 0, none⟩ (.slice (some ⟨g0, 0, none⟩) 256 256))) := H2.out.put0 _
  have HG3 : Hid (Src (w2.setCell ⟨w.heap.size + 1, 0, none⟩ (.slice (some ⟨g0, 0, none⟩) 256 256)) (some ⟨g0, 0, none⟩) zeros) := HG0.out.1.fr (S := fun j => j = w.heap.size + 1) ((Fr.refl _ _).setCell _ _ _ rfl) (by have := HG0.out.2; omega)
  clear hB2 hg2 h2 HC1 hw1
  go_wp2_with fail
  rw [rounds_succ]
  generalize w2.setCell ⟨w.heap.size + 1, 0, none⟩ (.slice (some ⟨g0, 0, none⟩) 256 256) = w3 at *
  have RD := dw_read H3.out.d 1 (by omega)
  rw [HC.out.2, show ((1 : Nat) : Int) = 1 from rfl] at RD
  clear c0 f0 H2
  have c1 := H3.out.c1
  have f1 := H3.out.f 1
  go_wp2_with fail
  refine RD.mono ?_
  clear RD c1 f1
  rintro e w4 ⟨g1, rfl, hB4, hg4, h4⟩
  have H4 : Hid (CH w base p C k D (.slice (some ⟨g0, 0, none⟩) 256 256) (.slice none 0 0) w4) := H3.out.up h4
  have HG4 : Hid (Src w4 (some ⟨g0, 0, none⟩) zeros) := HG3.out.below h4 (Nat.le_refl _)
  have HG1 : Hid (Src w4 (some ⟨g1, 0, none⟩) supL ∧ w.heap.size + 2 ≤ g1) := ⟨hB4.src, by have := H3.out.ml; omega⟩
  have c1 := H4.out.c1
  have f1 := H4.out.f 1
  have H5 : Hid (CH w base p C k D (.slice (some ⟨g0, 0, none⟩) 256 256) (.slice (some ⟨g1, 0, none⟩) 256 256) (w4.setCell ⟨w.heap.size + 1, 1, none⟩ (.slice (some ⟨g1, 0, none⟩) 256 256))) := H4.out.put1 _
  have HG5 : Hid (Src (w4.setCell ⟨w.heap.size + 1, 1, none⟩ (.slice (some ⟨g1, 0, none⟩) 256 256)) (some ⟨g0, 0, none⟩) zeros) := HG4.out.fr (S := fun j => j = w.heap.size + 1) ((Fr.refl _ _).setCell _ _ _ rfl) (by have := HG0.out.2; omega)
  have HG6 : Hid (Src (w4.setCell ⟨w.heap.size + 1, 1, none⟩ (.slice (some ⟨g1, 0, none⟩) 256 256)) (some ⟨g1, 0, none⟩) supL) := HG1.out.1.fr (S := fun j => j = w.heap.size + 1) ((Fr.refl _ _).setCell _ _ _ rfl) (by have := HG1.out.2; omega)
  clear hB4 hg4 h4 H3 HG3
  go_wp2_with fail
  rw [rounds_succ]
  generalize w4.setCell ⟨w.heap.size + 1, 1, none⟩ (.slice (some ⟨g1, 0, none⟩) 256 256) = w5 at *
  clear c1 f1 H4 HG4 HG0 HG1
  go_upto_region 7 with fail
  have gd : CH w base p C k D (.slice (some ⟨g0, 0, none⟩) 256 256) (.slice (some ⟨g1, 0, none⟩) 256 256) w5.drew := H5.out.up (Below.refl _ _).drew
  have HS : Hid (Src w5.drew (some ⟨g0, 0, none⟩) zeros ∧ Src w5.drew (some ⟨g1, 0, none⟩) supL) := ⟨HG5.out.below (Below.refl _ _).drew (Nat.le_refl _), HG6.out.below (Below.refl _ _).drew (Nat.le_refl _)⟩
  clear H5 HG5 HG6
  refine wp_region_held_drew (S := (fun W => CH w base p C k D (.slice (some ⟨g0, 0, none⟩) 256 256) (.slice (some ⟨g1, 0, none⟩) 256 256) W)) (by kernel_rfl) gd (fun hH => ?_)
  generalize w5.drew = w6 at *
  have H6 : Hid (CH w base p C k D (.slice (some ⟨g0, 0, none⟩) 256 256) (.slice (some ⟨g1, 0, none⟩) 256 256) w6) := gd
  have HTW : Hid (∀ W, Below w6.heap.size w6 W → Says W (.slice (some ⟨g0, 0, none⟩) 256 256) zeros ∧ Says W (.slice (some ⟨g1, 0, none⟩) 256 256) supL) := fun W hb =>
    have hT : Tab W := HT.out.below (gd.b.trans (hb.mono gd.b.size)) (block_lt_of_cell (HT.out 0 (by omega)))
    ⟨says_of zeros_length (HS.out.1.below hb (Nat.le_refl _)) hT, says_of sup_len (HS.out.2.below hb (Nat.le_refl _)) hT⟩
  clear gd HS HT
  refine takeH (i := 0) (dst := some 22) (v := ?v1) rfl rfl (by kernel_rfl) (by kernel_rfl) (by kernel_rfl) (fun _ _ _ h => h) rfl ?hy1 hH rfl ?rest1
  case hy1 => (intro W hW; clear hW; go_simp; try with_reducible rfl)
  (try simp only [Act.put, List.setIfInBounds_toArray, List.set_cons_zero, List.set_cons_succ])
  refine takeH (i := 2) (dst := some 24) (v := ?v2) rfl rfl (by kernel_rfl) (by kernel_rfl) (by kernel_rfl) (fun _ _ _ h => h) rfl ?hy2 hH rfl ?rest2
  case hy2 => (intro W hW; clear hW; go_simp; try with_reducible rfl)
  (try simp only [Act.put, List.setIfInBounds_toArray, List.set_cons_zero, List.set_cons_succ])
  refine takeH (i := 4) (dst := some 26) (v := ?v3) rfl rfl (by kernel_rfl) (by kernel_rfl) (by kernel_rfl) (fun _ _ _ h => h) rfl ?hy3 hH rfl ?rest3
  case hy3 => (intro W hW; clear hW; go_simp; try with_reducible rfl)
  (try simp only [Act.put, List.setIfInBounds_toArray, List.set_cons_zero, List.set_cons_succ])
  refine takeH (i := 1) (dst := some 23) (v := ?v4) rfl rfl (by kernel_rfl) (by kernel_rfl) (by kernel_rfl) (fun _ _ _ h => h) rfl ?hy4 hH rfl ?rest4
  case hy4 => (intro W hW; have e0 := hW.c0; have e1 := hW.c1; clear hW; go_simp; try with_reducible rfl)
  (try simp only [Act.put, List.setIfInBounds_toArray, List.set_cons_zero, List.set_cons_succ])
  refine takeH (i := 3) (dst := some 25) (v := ?v5) rfl rfl (by kernel_rfl) (by kernel_rfl) (by kernel_rfl) (fun _ _ _ h => h) rfl ?hy5 hH rfl ?rest5
  case hy5 => (intro W hW; have e0 := hW.c0; have e1 := hW.c1; clear hW; go_simp; try with_reducible rfl)
  (try simp only [Act.put, List.setIfInBounds_toArray, List.set_cons_zero, List.set_cons_succ])
  refine callH2 (i := 5) (j := 11) { dst := some 27, op := Go.Op.call { callee := Go.Callee.value (Go.Operand.func 22), args := #[Go.Operand.tmp 26], argTypes := #[56] }, type := 3, pos := "vol.go:60", after := #[{ on := 4, ground := Go.Ground.data }], guard := none } { dst := some 6, op := Go.Op.alloc 58, type := 0, pos := "vol.go:60", after := #[], guard := none } (by kernel_rfl) rfl rfl rfl rfl (fun K hK => ?_) (fun K hK => ?_)
  · go_simp
    have LN := dw_len H6.out.d
    refine LN.mono ?_
    clear LN
    rintro e v6 ⟨rfl, hv⟩
    obtain rfl : w6 = v6 := hv.symm
    clear hH
    refine hK.out _ _ H6.out (fun hH => ?_)
    clear hK K
    (try simp only [Act.put, List.setIfInBounds_toArray, List.set_cons_zero, List.set_cons_succ])
    refine callH2 (i := 6) (j := 11) { dst := some 28, op := Go.Op.call { callee := Go.Callee.value (Go.Operand.func 46), args := #[Go.Operand.tmp 23, Go.Operand.tmp 25, Go.Operand.tmp 27], argTypes := #[42, 42, 3] }, type := 85, pos := "vol.go:60", after := #[{ on := 1, ground := Go.Ground.data }, { on := 3, ground := Go.Ground.data }, { on := 5, ground := Go.Ground.data }, { on := 5, ground := Go.Ground.chain }], guard := none } { dst := some 6, op := Go.Op.alloc 58, type := 0, pos := "vol.go:60", after := #[], guard := none } (by kernel_rfl) rfl rfl rfl rfl (fun K hK => ?_) (fun K hK => ?_)
    · go_simp
      have HB0 : Hid (Below w6.heap.size w6 w6) := Below.refl _ _
      have CO := choose_any (some ⟨g0, 0, none⟩) (some ⟨g1, 0, none⟩) 256 256 256 256 zeros supL 34 w6 (HTW.out w6 HB0.out).1 (HTW.out w6 HB0.out).2
      rw [sup_choose, show chE (1, 16, 8, 2) = 0 from rfl] at CO
      dsimp only at CO
      refine CO.mono ?_
      clear CO
      rintro e w7 ⟨rfl, hb⟩
      have HX : Hid (CH w base p C k D (.slice (some ⟨g0, 0, none⟩) 256 256) (.slice (some ⟨g1, 0, none⟩) 256 256) w7) := H6.out.up hb
      clear hH
      refine hK.out _ _ HX.out (fun hH => ?_)
      clear hK K
      (try simp only [Act.put, List.setIfInBounds_toArray, List.set_cons_zero, List.set_cons_succ])
      refine takeH (i := 7) (dst := some 21) (v := ?v6) rfl rfl (by kernel_rfl) (by kernel_rfl) (by kernel_rfl) (fun _ _ _ h => h) rfl ?hy6 hH rfl ?rest6
      case hy6 => (intro W hW; clear hW; go_simp; try with_reducible rfl)
      (try simp only [Act.put, List.setIfInBounds_toArray, List.set_cons_zero, List.set_cons_succ])
      refine takeH (i := 8) (dst := some 29) (v := ?v7) rfl rfl (by kernel_rfl) (by kernel_rfl) (by kernel_rfl) (fun _ _ _ h => h) rfl ?hy7 hH rfl ?rest7
      case hy7 => (intro W hW; clear hW; go_simp; try with_reducible rfl)
      (try simp only [Act.put, List.setIfInBounds_toArray, List.set_cons_zero, List.set_cons_succ])
      refine takeH (i := 9) (dst := some 30) (v := ?v8) rfl rfl (by kernel_rfl) (by kernel_rfl) (by kernel_rfl) (fun _ _ _ h => h) rfl ?hy8 hH rfl ?rest8
      case hy8 => (intro W hW; clear hW; go_simp; try with_reducible rfl)
      (try simp only [Act.put, List.setIfInBounds_toArray, List.set_cons_zero, List.set_cons_succ])
      refine takeH (i := 10) (dst := some 31) (v := ?v9) rfl rfl (by kernel_rfl) (by kernel_rfl) (by kernel_rfl) (fun _ _ _ h => h) rfl ?hy9 hH rfl ?rest9
      case hy9 => (intro W hW; clear hW; go_simp; try with_reducible rfl)
      (try simp only [Act.put, List.setIfInBounds_toArray, List.set_cons_zero, List.set_cons_succ])
      have HN : Hid (CH w base p C k D (.slice (some ⟨g0, 0, none⟩) 256 256) (.slice (some ⟨g1, 0, none⟩) 256 256) (w7.alloc (.cells #[.int .i64 0, .int .i64 0, .int .i64 0, .int .i64 0] 58))) := HX.out.up ((Below.refl _ _).alloc (Nat.le_refl _) _)
      have HR : Hid (Row4 (w7.alloc (.cells #[.int .i64 0, .int .i64 0, .int .i64 0, .int .i64 0] 58)) w7.heap.size 58 0 0 0 0) := heap_alloc_new _ _
      have HQ : Hid (w.heap.size + 2 ≤ w7.heap.size) := HX.out.ml
      refine callH (i := 11) { dst := some 6, op := Go.Op.alloc 58, type := 0, pos := "vol.go:60", after := #[], guard := none } (by kernel_rfl) rfl rfl (fun K hK => ?_)
      go_simp
      clear hH
      refine hK.out _ _ HN.out (fun hH => ?_)
      clear hK K
      (try simp only [Act.put, List.setIfInBounds_toArray, List.set_cons_zero, List.set_cons_succ])
      generalize w7.alloc (.cells #[.int .i64 0, .int .i64 0, .int .i64 0, .int .i64 0] 58) = w8 at *
      have m0 := HR.out.c0
      have m1 := HR.out.c1
      have m2 := HR.out.c2
      have m3 := HR.out.c3
      have f0 := HR.out.fr 0
      have f1 := HR.out.fr 1
      have f2 := HR.out.fr 2
      have f3 := HR.out.fr 3
      have HY : Hid (CH w base p C k D (.slice (some ⟨g0, 0, none⟩) 256 256) (.slice (some ⟨g1, 0, none⟩) 256 256) ((((w8.setCell ⟨w7.heap.size, 0, none⟩ (.int .i64 1)).setCell ⟨w7.heap.size, 1, none⟩ (.int .i64 16)).setCell ⟨w7.heap.size, 2, none⟩ (.int .i64 8)).setCell ⟨w7.heap.size, 3, none⟩ (.int .i64 2))) := HN.out.fr (fr_set4 _ _ _ _ _ _) HQ.out
      have HZ : Hid (Row4 ((((w8.setCell ⟨w7.heap.size, 0, none⟩ (.int .i64 1)).setCell ⟨w7.heap.size, 1, none⟩ (.int .i64 16)).setCell ⟨w7.heap.size, 2, none⟩ (.int .i64 8)).setCell ⟨w7.heap.size, 3, none⟩ (.int .i64 2)) w7.heap.size 58 1 16 8 2) := HR.out.set 1 16 8 2
      refine callH (i := 12) { dst := none, op := Go.Op.store 58 (Go.Operand.tmp 6) (Go.Operand.tmp 29), type := 0, pos := "vol.go:60", after := #[{ on := 11, ground := Go.Ground.data }, { on := 8, ground := Go.Ground.data }, { on := 6, ground := Go.Ground.chain }, { on := 0, ground := Go.Ground.phase }, { on := 1, ground := Go.Ground.phase }, { on := 2, ground := Go.Ground.phase }, { on := 3, ground := Go.Ground.phase }, { on := 4, ground := Go.Ground.phase }, { on := 5, ground := Go.Ground.phase }, { on := 6, ground := Go.Ground.phase }, { on := 7, ground := Go.Ground.phase }, { on := 8, ground := Go.Ground.phase }, { on := 9, ground := Go.Ground.textOnly Go.Departure.lateStores }, { on := 10, ground := Go.Ground.textOnly Go.Departure.lateStores }, { on := 11, ground := Go.Ground.phase }], guard := none } (by kernel_rfl) rfl rfl (fun K hK => ?_)
      go_simp
      clear hH
      refine hK.out _ _ HY.out (fun hH => ?_)
      clear hK K
      (try simp only [Act.put])
      generalize (((w8.setCell ⟨w7.heap.size, 0, none⟩ (.int .i64 1)).setCell ⟨w7.heap.size, 1, none⟩ (.int .i64 16)).setCell ⟨w7.heap.size, 2, none⟩ (.int .i64 8)).setCell ⟨w7.heap.size, 3, none⟩ (.int .i64 2) = w9 at *
      clear m0 m1 m2 m3 f0 f1 f2 f3
      refine takeH (i := 13) (dst := some 7) (v := ?v10) rfl rfl (by kernel_rfl) (by kernel_rfl) (by kernel_rfl) (fun _ _ _ h => h) rfl ?hy10 hH rfl ?rest10
      case hy10 => (intro W hW; clear hW; go_simp; try with_reducible rfl)
      (try simp only [Act.put, List.setIfInBounds_toArray, List.set_cons_zero, List.set_cons_succ])
      refine takeH (i := 14) (dst := some 8) (v := ?v11) rfl rfl (by kernel_rfl) (by kernel_rfl) (by kernel_rfl) (fun _ _ _ h => h) rfl ?hy11 hH rfl ?rest11
      case hy11 => (intro W hW; clear hW; go_simp; try with_reducible rfl)
      (try simp only [Act.put, List.setIfInBounds_toArray, List.set_cons_zero, List.set_cons_succ])
      refine wpAnyH_done (by kernel_rfl) ?_ _
      clear hH
      have m0 := HZ.out.c0
      have m1 := HZ.out.c1
      have m2 := HZ.out.c2
      have m3 := HZ.out.c3
      have r0 := HY.out.r.c0
      have r1 := HY.out.r.c1
      have r2 := HY.out.r.c2
      have r3 := HY.out.r.c3
      have f0 := HY.out.r.fr 0
      have f1 := HY.out.r.fr 1
      have f2 := HY.out.r.fr 2
      have f3 := HY.out.r.fr 3
      have HE : Hid (Row4 ((((w9.setCell ⟨w.heap.size, 0, none⟩ (.int .i64 1)).setCell ⟨w.heap.size, 1, none⟩ (.int .i64 16)).setCell ⟨w.heap.size, 2, none⟩ (.int .i64 8)).setCell ⟨w.heap.size, 3, none⟩ (.int .i64 2)) w.heap.size 58 1 16 8 2) := HY.out.r.set 1 16 8 2
      have HB : Hid (Below w.heap.size w ((((w9.setCell ⟨w.heap.size, 0, none⟩ (.int .i64 1)).setCell ⟨w.heap.size, 1, none⟩ (.int .i64 16)).setCell ⟨w.heap.size, 2, none⟩ (.int .i64 8)).setCell ⟨w.heap.size, 3, none⟩ (.int .i64 2))) := below_set4 HY.out.b (Nat.le_refl _) _ _ _ _
      go_wp2
      exact bodyPost_ret (results_sup rfl _ _ _ _ _ _ _ rfl HE.out) rfl ⟨rfl, HB.out⟩
    · 
      have HBN : Hid (Below w6.heap.size w6 (w6.alloc (.cells #[.int .i64 0, .int .i64 0, .int .i64 0, .int .i64 0] 58))) := (Below.refl _ _).alloc (Nat.le_refl _) _
      have HN : Hid (CH w base p C k D (.slice (some ⟨g0, 0, none⟩) 256 256) (.slice (some ⟨g1, 0, none⟩) 256 256) (w6.alloc (.cells #[.int .i64 0, .int .i64 0, .int .i64 0, .int .i64 0] 58))) := H6.out.up HBN.out
      have HR : Hid (Row4 (w6.alloc (.cells #[.int .i64 0, .int .i64 0, .int .i64 0, .int .i64 0] 58)) w6.heap.size 58 0 0 0 0) := heap_alloc_new _ _
      have HQ : Hid (w.heap.size + 2 ≤ w6.heap.size) := H6.out.ml
      go_simp
      clear hH
      refine hK.out _ _ HN.out (fun hH => ?_)
      clear hK K
      (try simp only [Act.put, List.setIfInBounds_toArray, List.set_cons_zero, List.set_cons_succ])
      generalize w6.alloc (.cells #[.int .i64 0, .int .i64 0, .int .i64 0, .int .i64 0] 58) = w7 at *
      refine callH (i := 6) { dst := some 28, op := Go.Op.call { callee := Go.Callee.value (Go.Operand.func 46), args := #[Go.Operand.tmp 23, Go.Operand.tmp 25, Go.Operand.tmp 27], argTypes := #[42, 42, 3] }, type := 85, pos := "vol.go:60", after := #[{ on := 1, ground := Go.Ground.data }, { on := 3, ground := Go.Ground.data }, { on := 5, ground := Go.Ground.data }, { on := 5, ground := Go.Ground.chain }], guard := none } (by kernel_rfl) rfl rfl (fun K hK => ?_)
      go_simp
      have CO := choose_any (some ⟨g0, 0, none⟩) (some ⟨g1, 0, none⟩) 256 256 256 256 zeros supL 34 w7 (HTW.out w7 HBN.out).1 (HTW.out w7 HBN.out).2
      rw [sup_choose, show chE (1, 16, 8, 2) = 0 from rfl] at CO
      dsimp only at CO
      refine CO.mono ?_
      clear CO
      rintro e w8 ⟨rfl, hb⟩
      have HR8 : Hid (Row4 w8 w6.heap.size 58 0 0 0 0) := HR.out.up hb
      have HX : Hid (CH w base p C k D (.slice (some ⟨g0, 0, none⟩) 256 256) (.slice (some ⟨g1, 0, none⟩) 256 256) w8) := HN.out.up hb
      clear hH
      refine hK.out _ _ HX.out (fun hH => ?_)
      clear hK K
      (try simp only [Act.put, List.setIfInBounds_toArray, List.set_cons_zero, List.set_cons_succ])
      refine takeH (i := 7) (dst := some 21) (v := ?v12) rfl rfl (by kernel_rfl) (by kernel_rfl) (by kernel_rfl) (fun _ _ _ h => h) rfl ?hy12 hH rfl ?rest12
      case hy12 => (intro W hW; clear hW; go_simp; try with_reducible rfl)
      (try simp only [Act.put, List.setIfInBounds_toArray, List.set_cons_zero, List.set_cons_succ])
      refine takeH (i := 8) (dst := some 29) (v := ?v13) rfl rfl (by kernel_rfl) (by kernel_rfl) (by kernel_rfl) (fun _ _ _ h => h) rfl ?hy13 hH rfl ?rest13
      case hy13 => (intro W hW; clear hW; go_simp; try with_reducible rfl)
      (try simp only [Act.put, List.setIfInBounds_toArray, List.set_cons_zero, List.set_cons_succ])
      refine takeH (i := 9) (dst := some 30) (v := ?v14) rfl rfl (by kernel_rfl) (by kernel_rfl) (by kernel_rfl) (fun _ _ _ h => h) rfl ?hy14 hH rfl ?rest14
      case hy14 => (intro W hW; clear hW; go_simp; try with_reducible rfl)
      (try simp only [Act.put, List.setIfInBounds_toArray, List.set_cons_zero, List.set_cons_succ])
      refine takeH (i := 10) (dst := some 31) (v := ?v15) rfl rfl (by kernel_rfl) (by kernel_rfl) (by kernel_rfl) (fun _ _ _ h => h) rfl ?hy15 hH rfl ?rest15
      case hy15 => (intro W hW; clear hW; go_simp; try with_reducible rfl)
      (try simp only [Act.put, List.setIfInBounds_toArray, List.set_cons_zero, List.set_cons_succ])
      have m0 := HR8.out.c0
      have m1 := HR8.out.c1
      have m2 := HR8.out.c2
      have m3 := HR8.out.c3
      have f0 := HR8.out.fr 0
      have f1 := HR8.out.fr 1
      have f2 := HR8.out.fr 2
      have f3 := HR8.out.fr 3
      have HY : Hid (CH w base p C k D (.slice (some ⟨g0, 0, none⟩) 256 256) (.slice (some ⟨g1, 0, none⟩) 256 256) ((((w8.setCell ⟨w6.heap.size, 0, none⟩ (.int .i64 1)).setCell ⟨w6.heap.size, 1, none⟩ (.int .i64 16)).setCell ⟨w6.heap.size, 2, none⟩ (.int .i64 8)).setCell ⟨w6.heap.size, 3, none⟩ (.int .i64 2))) := HX.out.fr (fr_set4 _ _ _ _ _ _) HQ.out
      have HZ : Hid (Row4 ((((w8.setCell ⟨w6.heap.size, 0, none⟩ (.int .i64 1)).setCell ⟨w6.heap.size, 1, none⟩ (.int .i64 16)).setCell ⟨w6.heap.size, 2, none⟩ (.int .i64 8)).setCell ⟨w6.heap.size, 3, none⟩ (.int .i64 2)) w6.heap.size 58 1 16 8 2) := HR8.out.set 1 16 8 2
      refine callH (i := 12) { dst := none, op := Go.Op.store 58 (Go.Operand.tmp 6) (Go.Operand.tmp 29), type := 0, pos := "vol.go:60", after := #[{ on := 11, ground := Go.Ground.data }, { on := 8, ground := Go.Ground.data }, { on := 6, ground := Go.Ground.chain }, { on := 0, ground := Go.Ground.phase }, { on := 1, ground := Go.Ground.phase }, { on := 2, ground := Go.Ground.phase }, { on := 3, ground := Go.Ground.phase }, { on := 4, ground := Go.Ground.phase }, { on := 5, ground := Go.Ground.phase }, { on := 6, ground := Go.Ground.phase }, { on := 7, ground := Go.Ground.phase }, { on := 8, ground := Go.Ground.phase }, { on := 9, ground := Go.Ground.textOnly Go.Departure.lateStores }, { on := 10, ground := Go.Ground.textOnly Go.Departure.lateStores }, { on := 11, ground := Go.Ground.phase }], guard := none } (by kernel_rfl) rfl rfl (fun K hK => ?_)
      go_simp
      clear hH
      refine hK.out _ _ HY.out (fun hH => ?_)
      clear hK K
      (try simp only [Act.put])
      generalize (((w8.setCell ⟨w6.heap.size, 0, none⟩ (.int .i64 1)).setCell ⟨w6.heap.size, 1, none⟩ (.int .i64 16)).setCell ⟨w6.heap.size, 2, none⟩ (.int .i64 8)).setCell ⟨w6.heap.size, 3, none⟩ (.int .i64 2) = w9 at *
      clear m0 m1 m2 m3 f0 f1 f2 f3
      refine takeH (i := 13) (dst := some 7) (v := ?v16) rfl rfl (by kernel_rfl) (by kernel_rfl) (by kernel_rfl) (fun _ _ _ h => h) rfl ?hy16 hH rfl ?rest16
      case hy16 => (intro W hW; clear hW; go_simp; try with_reducible rfl)
      (try simp only [Act.put, List.setIfInBounds_toArray, List.set_cons_zero, List.set_cons_succ])
      refine takeH (i := 14) (dst := some 8) (v := ?v17) rfl rfl (by kernel_rfl) (by kernel_rfl) (by kernel_rfl) (fun _ _ _ h => h) rfl ?hy17 hH rfl ?rest17
      case hy17 => (intro W hW; clear hW; go_simp; try with_reducible rfl)
      (try simp only [Act.put, List.setIfInBounds_toArray, List.set_cons_zero, List.set_cons_succ])
      refine wpAnyH_done (by kernel_rfl) ?_ _
      clear hH
      have m0 := HZ.out.c0
      have m1 := HZ.out.c1
      have m2 := HZ.out.c2
      have m3 := HZ.out.c3
      have r0 := HY.out.r.c0
      have r1 := HY.out.r.c1
      have r2 := HY.out.r.c2
      have r3 := HY.out.r.c3
      have f0 := HY.out.r.fr 0
      have f1 := HY.out.r.fr 1
      have f2 := HY.out.r.fr 2
      have f3 := HY.out.r.fr 3
      have HE : Hid (Row4 ((((w9.setCell ⟨w.heap.size, 0, none⟩ (.int .i64 1)).setCell ⟨w.heap.size, 1, none⟩ (.int .i64 16)).setCell ⟨w.heap.size, 2, none⟩ (.int .i64 8)).setCell ⟨w.heap.size, 3, none⟩ (.int .i64 2)) w.heap.size 58 1 16 8 2) := HY.out.r.set 1 16 8 2
      have HB : Hid (Below w.heap.size w ((((w9.setCell ⟨w.heap.size, 0, none⟩ (.int .i64 1)).setCell ⟨w.heap.size, 1, none⟩ (.int .i64 16)).setCell ⟨w.heap.size, 2, none⟩ (.int .i64 8)).setCell ⟨w.heap.size, 3, none⟩ (.int .i64 2))) := below_set4 HY.out.b (Nat.le_refl _) _ _ _ _
      go_wp2
      exact bodyPost_ret (results_sup rfl _ _ _ _ _ _ _ rfl HE.out) rfl ⟨rfl, HB.out⟩
  · 
    have HBN : Hid (Below w6.heap.size w6 (w6.alloc (.cells #[.int .i64 0, .int .i64 0, .int .i64 0, .int .i64 0] 58))) := (Below.refl _ _).alloc (Nat.le_refl _) _
    have HN : Hid (CH w base p C k D (.slice (some ⟨g0, 0, none⟩) 256 256) (.slice (some ⟨g1, 0, none⟩) 256 256) (w6.alloc (.cells #[.int .i64 0, .int .i64 0, .int .i64 0, .int .i64 0] 58))) := H6.out.up HBN.out
    have HR : Hid (Row4 (w6.alloc (.cells #[.int .i64 0, .int .i64 0, .int .i64 0, .int .i64 0] 58)) w6.heap.size 58 0 0 0 0) := heap_alloc_new _ _
    have HQ : Hid (w.heap.size + 2 ≤ w6.heap.size) := H6.out.ml
    go_simp
    clear hH
    refine hK.out _ _ HN.out (fun hH => ?_)
    clear hK K
    (try simp only [Act.put, List.setIfInBounds_toArray, List.set_cons_zero, List.set_cons_succ])
    generalize w6.alloc (.cells #[.int .i64 0, .int .i64 0, .int .i64 0, .int .i64 0] 58) = w7 at *
    refine callH (i := 5) { dst := some 27, op := Go.Op.call { callee := Go.Callee.value (Go.Operand.func 22), args := #[Go.Operand.tmp 26], argTypes := #[56] }, type := 3, pos := "vol.go:60", after := #[{ on := 4, ground := Go.Ground.data }], guard := none } (by kernel_rfl) rfl rfl (fun K hK => ?_)
    go_simp
    have LN := dw_len HN.out.d
    refine LN.mono ?_
    clear LN
    rintro e v7 ⟨rfl, hv⟩
    obtain rfl : w7 = v7 := hv.symm
    clear hH
    refine hK.out _ _ HN.out (fun hH => ?_)
    clear hK K
    (try simp only [Act.put, List.setIfInBounds_toArray, List.set_cons_zero, List.set_cons_succ])
    refine callH (i := 6) { dst := some 28, op := Go.Op.call { callee := Go.Callee.value (Go.Operand.func 46), args := #[Go.Operand.tmp 23, Go.Operand.tmp 25, Go.Operand.tmp 27], argTypes := #[42, 42, 3] }, type := 85, pos := "vol.go:60", after := #[{ on := 1, ground := Go.Ground.data }, { on := 3, ground := Go.Ground.data }, { on := 5, ground := Go.Ground.data }, { on := 5, ground := Go.Ground.chain }], guard := none } (by kernel_rfl) rfl rfl (fun K hK => ?_)
    go_simp
    have CO := choose_any (some ⟨g0, 0, none⟩) (some ⟨g1, 0, none⟩) 256 256 256 256 zeros supL 34 w7 (HTW.out w7 HBN.out).1 (HTW.out w7 HBN.out).2
    rw [sup_choose, show chE (1, 16, 8, 2) = 0 from rfl] at CO
    dsimp only at CO
    refine CO.mono ?_
    clear CO
    rintro e w8 ⟨rfl, hb⟩
    have HR8 : Hid (Row4 w8 w6.heap.size 58 0 0 0 0) := HR.out.up hb
    have HX : Hid (CH w base p C k D (.slice (some ⟨g0, 0, none⟩) 256 256) (.slice (some ⟨g1, 0, none⟩) 256 256) w8) := HN.out.up hb
    clear hH
    refine hK.out _ _ HX.out (fun hH => ?_)
    clear hK K
    (try simp only [Act.put, List.setIfInBounds_toArray, List.set_cons_zero, List.set_cons_succ])
    refine takeH (i := 7) (dst := some 21) (v := ?v18) rfl rfl (by kernel_rfl) (by kernel_rfl) (by kernel_rfl) (fun _ _ _ h => h) rfl ?hy18 hH rfl ?rest18
    case hy18 => (intro W hW; clear hW; go_simp; try with_reducible rfl)
    (try simp only [Act.put, List.setIfInBounds_toArray, List.set_cons_zero, List.set_cons_succ])
    refine takeH (i := 8) (dst := some 29) (v := ?v19) rfl rfl (by kernel_rfl) (by kernel_rfl) (by kernel_rfl) (fun _ _ _ h => h) rfl ?hy19 hH rfl ?rest19
    case hy19 => (intro W hW; clear hW; go_simp; try with_reducible rfl)
    (try simp only [Act.put, List.setIfInBounds_toArray, List.set_cons_zero, List.set_cons_succ])
    refine takeH (i := 9) (dst := some 30) (v := ?v20) rfl rfl (by kernel_rfl) (by kernel_rfl) (by kernel_rfl) (fun _ _ _ h => h) rfl ?hy20 hH rfl ?rest20
    case hy20 => (intro W hW; clear hW; go_simp; try with_reducible rfl)
    (try simp only [Act.put, List.setIfInBounds_toArray, List.set_cons_zero, List.set_cons_succ])
    refine takeH (i := 10) (dst := some 31) (v := ?v21) rfl rfl (by kernel_rfl) (by kernel_rfl) (by kernel_rfl) (fun _ _ _ h => h) rfl ?hy21 hH rfl ?rest21
    case hy21 => (intro W hW; clear hW; go_simp; try with_reducible rfl)
    (try simp only [Act.put, List.setIfInBounds_toArray, List.set_cons_zero, List.set_cons_succ])
    have m0 := HR8.out.c0
    have m1 := HR8.out.c1
    have m2 := HR8.out.c2
    have m3 := HR8.out.c3
    have f0 := HR8.out.fr 0
    have f1 := HR8.out.fr 1
    have f2 := HR8.out.fr 2
    have f3 := HR8.out.fr 3
    have HY : Hid (CH w base p C k D (.slice (some ⟨g0, 0, none⟩) 256 256) (.slice (some ⟨g1, 0, none⟩) 256 256) ((((w8.setCell ⟨w6.heap.size, 0, none⟩ (.int .i64 1)).setCell ⟨w6.heap.size, 1, none⟩ (.int .i64 16)).setCell ⟨w6.heap.size, 2, none⟩ (.int .i64 8)).setCell ⟨w6.heap.size, 3, none⟩ (.int .i64 2))) := HX.out.fr (fr_set4 _ _ _ _ _ _) HQ.out
    have HZ : Hid (Row4 ((((w8.setCell ⟨w6.heap.size, 0, none⟩ (.int .i64 1)).setCell ⟨w6.heap.size, 1, none⟩ (.int .i64 16)).setCell ⟨w6.heap.size, 2, none⟩ (.int .i64 8)).setCell ⟨w6.heap.size, 3, none⟩ (.int .i64 2)) w6.heap.size 58 1 16 8 2) := HR8.out.set 1 16 8 2
    refine callH (i := 12) { dst := none, op := Go.Op.store 58 (Go.Operand.tmp 6) (Go.Operand.tmp 29), type := 0, pos := "vol.go:60", after := #[{ on := 11, ground := Go.Ground.data }, { on := 8, ground := Go.Ground.data }, { on := 6, ground := Go.Ground.chain }, { on := 0, ground := Go.Ground.phase }, { on := 1, ground := Go.Ground.phase }, { on := 2, ground := Go.Ground.phase }, { on := 3, ground := Go.Ground.phase }, { on := 4, ground := Go.Ground.phase }, { on := 5, ground := Go.Ground.phase }, { on := 6, ground := Go.Ground.phase }, { on := 7, ground := Go.Ground.phase }, { on := 8, ground := Go.Ground.phase }, { on := 9, ground := Go.Ground.textOnly Go.Departure.lateStores }, { on := 10, ground := Go.Ground.textOnly Go.Departure.lateStores }, { on := 11, ground := Go.Ground.phase }], guard := none } (by kernel_rfl) rfl rfl (fun K hK => ?_)
    go_simp
    clear hH
    refine hK.out _ _ HY.out (fun hH => ?_)
    clear hK K
    (try simp only [Act.put])
    generalize (((w8.setCell ⟨w6.heap.size, 0, none⟩ (.int .i64 1)).setCell ⟨w6.heap.size, 1, none⟩ (.int .i64 16)).setCell ⟨w6.heap.size, 2, none⟩ (.int .i64 8)).setCell ⟨w6.heap.size, 3, none⟩ (.int .i64 2) = w9 at *
    clear m0 m1 m2 m3 f0 f1 f2 f3
    refine takeH (i := 13) (dst := some 7) (v := ?v22) rfl rfl (by kernel_rfl) (by kernel_rfl) (by kernel_rfl) (fun _ _ _ h => h) rfl ?hy22 hH rfl ?rest22
    case hy22 => (intro W hW; clear hW; go_simp; try with_reducible rfl)
    (try simp only [Act.put, List.setIfInBounds_toArray, List.set_cons_zero, List.set_cons_succ])
    refine takeH (i := 14) (dst := some 8) (v := ?v23) rfl rfl (by kernel_rfl) (by kernel_rfl) (by kernel_rfl) (fun _ _ _ h => h) rfl ?hy23 hH rfl ?rest23
    case hy23 => (intro W hW; clear hW; go_simp; try with_reducible rfl)
    (try simp only [Act.put, List.setIfInBounds_toArray, List.set_cons_zero, List.set_cons_succ])
    refine wpAnyH_done (by kernel_rfl) ?_ _
    clear hH
    have m0 := HZ.out.c0
    have m1 := HZ.out.c1
    have m2 := HZ.out.c2
    have m3 := HZ.out.c3
    have r0 := HY.out.r.c0
    have r1 := HY.out.r.c1
    have r2 := HY.out.r.c2
    have r3 := HY.out.r.c3
    have f0 := HY.out.r.fr 0
    have f1 := HY.out.r.fr 1
    have f2 := HY.out.r.fr 2
    have f3 := HY.out.r.fr 3
    have HE : Hid (Row4 ((((w9.setCell ⟨w.heap.size, 0, none⟩ (.int .i64 1)).setCell ⟨w.heap.size, 1, none⟩ (.int .i64 16)).setCell ⟨w.heap.size, 2, none⟩ (.int .i64 8)).setCell ⟨w.heap.size, 3, none⟩ (.int .i64 2)) w.heap.size 58 1 16 8 2) := HY.out.r.set 1 16 8 2
    have HB : Hid (Below w.heap.size w ((((w9.setCell ⟨w.heap.size, 0, none⟩ (.int .i64 1)).setCell ⟨w.heap.size, 1, none⟩ (.int .i64 16)).setCell ⟨w.heap.size, 2, none⟩ (.int .i64 8)).setCell ⟨w.heap.size, 3, none⟩ (.int .i64 2))) := below_set4 HY.out.b (Nat.le_refl _) _ _ _ _
    go_wp2
    exact bodyPost_ret (results_sup rfl _ _ _ _ _ _ _ rfl HE.out) rfl ⟨rfl, HB.out⟩
end Go.Proofs.YtkiifmnmeikdlaaGreatDoor
/- vol.formed and vol.greatest. -/
namespace Go.Proofs.YtkiifmnmeikdlaaGreatDoor
open Go.RowKit
set_option maxRecDepth 100000
/-- A disk, and the shape in a box. -/
structure FO (w0 : World) (base p : Nat) (C : Nat → List UInt8) (k : Nat) (D : Nat → Prop) (W : World) : Prop where
  b : Below w0.heap.size w0 W
  g : Shp W w0.heap.size
  d : DW W base p C k D
theorem FO.up {w0 W W' : World} {base p k : Nat} {C : Nat → List UInt8} {D : Nat → Prop} (h : FO w0 base p C k D W) (hb : Below W.heap.size W W') : FO w0 base p C k D W' := ⟨h.b.trans (hb.mono h.b.size), h.g.up hb, h.d.up hb⟩
theorem FO.start {w : World} {base p k : Nat} {C : Nat → List UInt8} {D : Nat → Prop} (h : DW w base p C k D) : FO w base p C k D (w.alloc (.cells #[.int .i64 16, .int .i64 8, .int .i64 2] 23)) :=
  have hb : Below w.heap.size w (w.alloc (.cells #[.int .i64 16, .int .i64 8, .int .i64 2] 23)) := (Below.refl _ _).alloc (Nat.le_refl _) _
  ⟨hb, shp_new w, h.up hb⟩
set_option maxHeartbeats 8000000 in
theorem formed_any {w : World} {base p k : Nat} {C : Nat → List UInt8} {D : Nat → Prop} (h : DW w base p C k D) (h0 : C 2 = hdrL 0) (h1 : C 18 = hdrL 1) (ht : Tabs34 C) :
    Calls Tryz.prog 20 #[.pointer (some ⟨p, 0, none⟩), .agg #[.int .i64 16, .int .i64 8, .int .i64 2]] w fun e w' => e = .returned (.bool true) ∧ Below w.heap.size w w' := by
  have F1 := FO.start h
  have hz := zero28
  have hzi := zeroI
  generalize hw1 : w.alloc (.cells #[.int .i64 16, .int .i64 8, .int .i64 2] 23) = w1 at *
  have HF1 : Hid (FO w base p C k D w1) := F1
  have H0 : Hid (C 2 = hdrL 0 ∧ C 18 = hdrL 1 ∧ Tabs34 C) := ⟨h0, h1, ht⟩
  have c0 := F1.g.c0
  have c1 := F1.g.c1
  have c2 := F1.g.c2
  clear h F1 h0 h1 ht
  go_enter Tryz.func20, Tryz.ntmps20
  go_wp2_with fail
  refine wp_loop_rounds 3 ?_
  rw [rounds_succ]
  have HD := head_disk HF1.out.d 0 (by omega) H0.out.1
  rw [show ((0 : Nat) : Int) = 0 from rfl] at HD
  go_wp2_with fail
  refine HD.mono ?_
  clear HD c0 c1 c2
  rintro e a2 ⟨rfl, h2⟩
  have HFa : Hid (FO w base p C k D a2) := HF1.out.up h2
  have HL1 : Hid ((rdB (hdrL 0)).length = 16) := rdB_length (hdr_len 0 (by omega))
  have HL2 : Hid ((rdS (hdrL 0)).length = 8) := rdS_length (hdr_len 0 (by omega))
  have HNW : Hid (HeadAt (a2.alloc (.cells (hA 0 z16 z8) 38)) a2.heap.size 0 z16 z8) := head_new a2 0 z16 z8 rfl rfl
  have HNB : Hid (Below a2.heap.size a2 (a2.alloc (.cells (hA 0 z16 z8) 38))) := (Below.refl _ _).alloc (Nat.le_refl _) _
  clear h2 HF1
  go_upto_region 5 with (first | ((with_reducible show wpList _ _ _ ({ dst := _, op := Op.store 38 _ _, type := _, pos := _, after := _, guard := _ } :: _) _ _); refine wpList_store_head rfl _ _ rfl (HNW.out) HL1.out HL2.out rfl rfl ?_; intro b2 H3 n3 z3))
  have HF2 : Hid (FO w base p C k D b2) := HFa.out.up (HNB.out.trans n3)
  have hc := H3.c0
  clear H3 n3 z3 HNW HNB HFa HL1 HL2
  have c0 := HF2.out.g.c0
  have c1 := HF2.out.g.c1
  have c2 := HF2.out.g.c2
  go_wp2_with fail
  clear hc
  rw [rounds_succ]
  have HD := head_disk HF2.out.d 1 (by omega) H0.out.2.1
  rw [show ((1 : Nat) : Int) = 1 from rfl] at HD
  go_wp2_with fail
  refine HD.mono ?_
  clear HD c0 c1 c2
  rintro e a3 ⟨rfl, h2⟩
  have HFa : Hid (FO w base p C k D a3) := HF2.out.up h2
  have HL1 : Hid ((rdB (hdrL 1)).length = 16) := rdB_length (hdr_len 1 (by omega))
  have HL2 : Hid ((rdS (hdrL 1)).length = 8) := rdS_length (hdr_len 1 (by omega))
  have HNW : Hid (HeadAt (a3.alloc (.cells (hA 0 z16 z8) 38)) a3.heap.size 0 z16 z8) := head_new a3 0 z16 z8 rfl rfl
  have HNB : Hid (Below a3.heap.size a3 (a3.alloc (.cells (hA 0 z16 z8) 38))) := (Below.refl _ _).alloc (Nat.le_refl _) _
  clear h2 HF2
  go_upto_region 5 with (first | ((with_reducible show wpList _ _ _ ({ dst := _, op := Op.store 38 _ _, type := _, pos := _, after := _, guard := _ } :: _) _ _); refine wpList_store_head rfl _ _ rfl (HNW.out) HL1.out HL2.out rfl rfl ?_; intro b3 H3 n3 z3))
  have HF3 : Hid (FO w base p C k D b3) := HFa.out.up (HNB.out.trans n3)
  have hc := H3.c0
  clear H3 n3 z3 HNW HNB HFa HL1 HL2
  have c0 := HF3.out.g.c0
  have c1 := HF3.out.g.c1
  have c2 := HF3.out.g.c2
  go_wp2_with fail
  clear hc
  rw [rounds_succ]
  have TH := thing_disk HF3.out.d H0.out.2.2 1 (by omega)
  rw [show inoS ((1 : Nat) : Int) = rootI from rfl, show ((1 : Nat) : Int) = 1 from rfl] at TH
  go_wp2_with fail
  refine TH.mono ?_
  clear TH c0 c1 c2
  rintro e a4 ⟨rfl, h4⟩
  have HF4 : Hid (FO w base p C k D a4) := HF3.out.up h4
  have HNW : Hid (InoAt (a4.alloc (.cells (iA zino) 30)) a4.heap.size zino) := ino_new a4 zino rfl
  have HNB : Hid (Below a4.heap.size a4 (a4.alloc (.cells (iA zino) 30))) := (Below.refl _ _).alloc (Nat.le_refl _) _
  have HRL : Hid (rootI.ns.length = 8) := rfl
  clear h4 HF3
  go_upto_region 9 with (first | ((with_reducible show wpList _ _ _ ({ dst := _, op := Op.store 30 _ _, type := _, pos := _, after := _, guard := _ } :: _) _ _); refine wpList_store_ino rfl _ _ rfl (HNW.out) HRL.out rfl rfl ?_; intro w5 H5 b5 z5))
  have HF5 : Hid (FO w base p C k D w5) := HF4.out.up (HNB.out.trans b5)
  have hc : w5.cell? ⟨a4.heap.size, 0, none⟩ = some (.int .i64 2) := H5.c0
  clear H5 b5 z5 HNW HNB HF4
  go_wp2
  go_ret
  exact ⟨rfl, HF5.out.b⟩
/-- The greatest number of the first s slots. -/
def mst (s : Nat) : Int := if s ≤ 1 then 0 else 1
theorem mst_next (s : Nat) : mst (s + 1) = max (mst s) (inoS (s : Int)).d := by
  unfold mst inoS
  by_cases h1 : s = 1
  · subst h1; rfl
  · rw [if_neg (show ¬ (s : Int) = 1 by omega)]
    by_cases h0 : s = 0
    · subst h0; rfl
    · rw [if_neg (by omega), if_neg (by omega)]; rfl
set_option maxHeartbeats 8000000 in
theorem greatest_any {w : World} {base p k : Nat} {C : Nat → List UInt8} {D : Nat → Prop} (h : DW w base p C k D) (ht : Tabs34 C) :
    Calls Tryz.prog 24 #[.pointer (some ⟨p, 0, none⟩), .agg #[.int .i64 16, .int .i64 8, .int .i64 2]] w fun e w' => e = .returned (.int .i64 1) ∧ Below w.heap.size w w' := by
  have F1 := FO.start h
  have hzi := zeroI
  generalize hw1 : w.alloc (.cells #[.int .i64 16, .int .i64 8, .int .i64 2] 23) = w1 at *
  have HF1 : Hid (FO w base p C k D w1) := F1
  have H0 : Hid (Tabs34 C) := ht
  have SL := slots_any 16 8 2 w1
  rw [if_pos okV, show (2 : Int) * 8 = 16 from rfl] at SL
  have c0 := F1.g.c0
  have c1 := F1.g.c1
  have c2 := F1.g.c2
  clear h F1 ht
  go_enter Tryz.func24, Tryz.ntmps24
  go_wp2_with fail
  refine SL.mono ?_
  clear SL c0 c1 c2
  rintro e w2 ⟨rfl, h2⟩
  have HF2 : Hid (FO w base p C k D w2) := HF1.out.up h2
  clear h2 HF1 hw1
  go_wp2_with fail
  go_loopw [5, 11] (fun m t wr => ∃ s : Nat, s ≤ 16 ∧ t = .int .i64 s ∧ m = .int .i64 (mst s) ∧ Hid (FO w base p C k D wr)) (fun _ t _ => 16 - (Go.RowKit.intOf t).toNat)
  case atStart => exact ⟨0, by omega, rfl, rfl, HF2⟩
  case round =>
    clear HF2
    obtain ⟨s, hs, rfl, rfl, HF⟩ := hrel
    by_cases hlt : (s : Int) < 16
    · have TH := thing_disk HF.out.d H0.out s (by omega)
      have HI : Hid (mst (s + 1) = max (mst s) (inoS (s : Int)).d) := mst_next s
      have HRL : Hid ((inoS (s : Int)).ns.length = 8) := by unfold inoS; split <;> rfl
      have c0 := HF.out.g.c0
      have c1 := HF.out.g.c1
      have c2 := HF.out.g.c2
      go_wp2_with fail
      refine TH.mono ?_
      clear TH c0 c1 c2
      rintro e a4 ⟨rfl, h4⟩
      have HF4 : Hid (FO w base p C k D a4) := HF.out.up h4
      have HNW : Hid (InoAt (a4.alloc (.cells (iA zino) 30)) a4.heap.size zino) := ino_new a4 zino rfl
      have HNB : Hid (Below a4.heap.size a4 (a4.alloc (.cells (iA zino) 30))) := (Below.refl _ _).alloc (Nat.le_refl _) _
      clear h4 HF
      go_upto_region 6 with (first | ((with_reducible show wpList _ _ _ ({ dst := _, op := Op.store 30 _ _, type := _, pos := _, after := _, guard := _ } :: _) _ _); refine wpList_store_ino rfl _ _ rfl (HNW.out) HRL.out rfl rfl ?_; intro w5 H5 b5 z5))
      have HF5 : Hid (FO w base p C k D w5) := HF4.out.up (HNB.out.trans b5)
      have hc := H5.c3
      generalize (inoS (s : Int)).d = id at *
      generalize mst s = m at *
      clear H5 b5 z5 HNW HNB HF4
      go_wp2
      go_roundw
      case rel => exact ⟨s + 1, by omega, by go_num, by rw [HI.out], HF5⟩
      case measure => simp [Go.RowKit.intOf]; omega
    · obtain rfl : s = 16 := by omega
      have HM : Hid (mst 16 = 1) := rfl
      go_wp2
      go_ret
      exact ⟨by rw [HM.out]; rfl, HF.out.b⟩
end Go.Proofs.YtkiifmnmeikdlaaGreatDoor
/- vol.Mount. -/
namespace Go.Proofs.YtkiifmnmeikdlaaGreatDoor
open Go.RowKit
set_option maxRecDepth 100000
theorem fmt_0 (C : Nat → List UInt8) : fmtC C 0 = zeros := by simp [fmtC, cF, upd]
theorem fmt_1 (C : Nat → List UInt8) : fmtC C 1 = supL := by simp [fmtC, upd]
theorem fmt_2 (C : Nat → List UInt8) : fmtC C 2 = hdrL 0 := by simp [fmtC, cF, upd, frL]
theorem fmt_18 (C : Nat → List UInt8) : fmtC C 18 = hdrL 1 := by simp [fmtC, cF, upd, frL]
theorem fmt_t (C : Nat → List UInt8) : Tabs34 (fmtC C) := fun s hs => by
  rcases (show 3 + s / 8 * 16 + s % 8 / 4 = 3 ∨ 3 + s / 8 * 16 + s % 8 / 4 = 4 ∨ 3 + s / 8 * 16 + s % 8 / 4 = 19 ∨ 3 + s / 8 * 16 + s % 8 / 4 = 20 by omega) with e | e | e | e <;> rw [e] <;> simp [fmtC, cF, upd, frL]
set_option maxHeartbeats 1000000 in
theorem pnew_any (w : World) : Calls Tryz.prog 23 #[] w fun e w' => e = .returned (.pointer (some ⟨w.heap.size, 0, none⟩)) ∧ Below w.heap.size w w' := by
  go_enter Tryz.func23, Tryz.ntmps23
  go_wp2
  go_ret
  exact ⟨rfl, (Below.refl _ _).alloc (Nat.le_refl _) _⟩
/-- A volume that is mounted, of which nothing was changed. -/
structure VM (w : World) (base : Nat) (C : Nat → List UInt8) (v sp wk cm bm : Nat) (σ : CSt) : Prop where
  row : w.heap[v]? = some (.cells #[.int .i64 1, .int .i64 16, .int .i64 8, .int .i64 2, .pointer (some ⟨sp, 0, none⟩), .pointer (some ⟨wk, 0, none⟩), .int .i64 2] 68 (0, 0))
  pm : PM w base (newS sp cm bm σ) (fun _ => [])
  pl : PL (newS sp cm bm σ) (fun _ => []) [] 0
  rd : ∀ i, lst σ i = C i
  dn : σ.dn = 34
  L : σ.L = []
  no : ¬ Ak (newS sp cm bm σ) v
set_option maxHeartbeats 8000000 in
theorem mount_any {w : World} {base p : Nat} {C : Nat → List UInt8} {D : Nat → Prop} (h : DW w base p C 0 D) (ht : Tab w) (h0 : C 0 = zeros) (h1 : C 1 = supL) (h2 : C 2 = hdrL 0) (h18 : C 18 = hdrL 1) (hT : Tabs34 C) :
    Calls Tryz.prog 4 #[.pointer (some ⟨p, 0, none⟩)] w fun e w' => ∃ v sp wk cm bm σ, e = .returned (.tuple #[.pointer (some ⟨v, 0, none⟩), .int .i64 0]) ∧ VM w' base C v sp wk cm bm σ ∧ w.heap.size ≤ v ∧ Below w.heap.size w w' := by
  have CO := chosen_any h ht h0 h1
  have HH : Hid (C 2 = hdrL 0 ∧ C 18 = hdrL 1 ∧ Tabs34 C) := ⟨h2, h18, hT⟩
  have HD : Hid (DW w base p C 0 D) := h
  clear h ht h0 h1 h2 h18 hT
  go_enter Tryz.func4, Tryz.ntmps4
  go_wp2_with fail
  refine CO.mono ?_
  clear CO
  rintro e w1 ⟨rfl, hb1⟩
  have hba : Below w1.heap.size w1 (w1.alloc (.cells #[.int .i64 1, .int .i64 16, .int .i64 8, .int .i64 2] 58)) := (Below.refl _ _).alloc (Nat.le_refl _) _
  have HR : Hid (Row4 (w1.alloc (.cells #[.int .i64 1, .int .i64 16, .int .i64 8, .int .i64 2] 58)) w1.heap.size 58 1 16 8 2) := heap_alloc_new _ _
  have HD2 : Hid (DW (w1.alloc (.cells #[.int .i64 1, .int .i64 16, .int .i64 8, .int .i64 2] 58)) base p C 0 D) := (HD.out.up hb1).up hba
  have HB2 : Hid (Below w.heap.size w (w1.alloc (.cells #[.int .i64 1, .int .i64 16, .int .i64 8, .int .i64 2] 58))) := hb1.trans (hba.mono hb1.size)
  have HZ1 : Hid (w.heap.size ≤ w1.heap.size) := hb1.size
  have r1 := HR.out.c1
  have r2 := HR.out.c2
  have r3 := HR.out.c3
  clear hb1 hba HD
  go_wp2_with fail
  generalize w1.alloc (.cells #[.int .i64 1, .int .i64 16, .int .i64 8, .int .i64 2] 58) = w2 at *
  refine (formed_any HD2.out HH.out.1 HH.out.2.1 HH.out.2.2).mono ?_
  clear r1 r2 r3
  rintro e w3 ⟨rfl, hb3⟩
  have HR3 : Hid (Row4 w3 w1.heap.size 58 1 16 8 2) := HR.out.up hb3
  have HD3 : Hid (DW w3 base p C 0 D) := HD2.out.up hb3
  have HB3 : Hid (Below w.heap.size w w3) := HB2.out.trans (hb3.mono HB2.out.size)
  clear hb3 HR HD2 HB2
  have LN := dw_len HD3.out
  go_wp2_with fail
  refine LN.mono ?_
  clear LN
  rintro e w3' ⟨rfl, hw3⟩
  obtain rfl : w3 = w3' := hw3.symm
  obtain ⟨sf, ws, q, vs, hDA, hl, hw, hDk⟩ := HD3.out
  have hws : ws = fun _ => [] := funext fun i => List.eq_nil_of_length_eq_zero (Nat.le_zero.1 (hw i))
  have OP := popn_any hDA 34 (by omega) (by omega)
  rw [show ((34 : Nat) : Int) = 34 from rfl] at OP
  have HWS : Hid (ws = fun _ => []) := hws
  have HL : Hid (∀ i, lastOf (sf i) (ws i) = C i) := hl
  clear hDA hl hw hDk hws
  go_wp2_with fail
  refine OP.mono ?_
  clear OP
  rintro e w4 ⟨sp, cm, bm, cp, mb, rfl, hPM, hb4⟩
  have HPM : Hid (PM w4 base (newS sp cm bm ⟨cp, mb, 0, .slice none 0 0, 34, [], p, 34, q, false, 0, sf, ws, vs⟩) (fun _ => [])) := hPM
  have HPL : Hid (PL (newS sp cm bm ⟨cp, mb, 0, .slice none 0 0, 34, [], p, 34, q, false, 0, sf, ws, vs⟩) (fun _ => []) [] 0) := PL.made rfl ⟨by show 34 ≤ 34; omega, by show 34 ≤ 4096; omega⟩ ⟨rfl, rfl⟩ rfl HWS.out
  have HR4 : Hid (Row4 w4 w1.heap.size 58 1 16 8 2) := HR3.out.up hb4
  have HD4 : Hid (DW w4 base p C 0 D) := HD3.out.up hb4
  have HB4 : Hid (Below w.heap.size w w4) := HB3.out.trans (hb4.mono HB3.out.size)
  clear hPM hb4 HR3 HD3 HB3
  go_upto_region 11 with fail
  have gd : Row4 w4.drew w1.heap.size 58 1 16 8 2 := HR4.out.up (Below.refl _ _).drew
  have HBd : Hid (Below w4.heap.size w4 w4.drew) := (Below.refl _ _).drew
  refine wp_region_held_drew (S := (fun W => Row4 W w1.heap.size 58 1 16 8 2)) (by kernel_rfl) gd (fun hH => ?_)
  generalize w4.drew = wd at *
  have hbu : ∀ W, (Instr.build 68 #[(0, .agg #[.int .i64 1, .int .i64 16, .int .i64 8, .int .i64 2]), (1, .pointer (some ⟨sp, 0, none⟩)), (2, .pointer (some ⟨wd.heap.size, 0, none⟩)), (3, .int .i64 2)]).run Tryz.prog W = .ok (.agg #[.int .i64 1, .int .i64 16, .int .i64 8, .int .i64 2, .pointer (some ⟨sp, 0, none⟩), .pointer (some ⟨wd.heap.size, 0, none⟩), .int .i64 2]) W := fun W => Go.run_build W 68 _ _ (by kernel_rfl)
  refine takeH (i := 0) (dst := some 32) (v := ?v1) rfl rfl (by kernel_rfl) (by kernel_rfl) (by kernel_rfl) (fun _ _ _ h => h) rfl ?hy1 hH rfl ?rest1
  case hy1 => (intro W hW; have e0 := hW.c0; have e1 := hW.c1; have e2 := hW.c2; have e3 := hW.c3; clear hW; go_simp; try with_reducible rfl)
  (try simp only [Act.put, List.setIfInBounds_toArray, List.set_cons_zero, List.set_cons_succ])
  refine takeH (i := 1) (dst := some 33) (v := ?v2) rfl rfl (by kernel_rfl) (by kernel_rfl) (by kernel_rfl) (fun _ _ _ h => h) rfl ?hy2 hH rfl ?rest2
  case hy2 => (intro W hW; (try dsimp only at hW); go_simp; try with_reducible rfl)
  (try simp only [Act.put, List.setIfInBounds_toArray, List.set_cons_zero, List.set_cons_succ])
  refine takeH (i := 3) (dst := some 35) (v := ?v3) rfl rfl (by kernel_rfl) (by kernel_rfl) (by kernel_rfl) (fun _ _ _ h => h) rfl ?hy3 hH rfl ?rest3
  case hy3 => (intro W hW; (try dsimp only at hW); go_simp; try with_reducible rfl)
  (try simp only [Act.put, List.setIfInBounds_toArray, List.set_cons_zero, List.set_cons_succ])
  refine takeH (i := 4) (dst := some 36) (v := ?v4) rfl rfl (by kernel_rfl) (by kernel_rfl) (by kernel_rfl) (fun _ _ _ h => h) rfl ?hy4 hH rfl ?rest4
  case hy4 => (intro W hW; (try dsimp only at hW); go_simp; try with_reducible rfl)
  (try simp only [Act.put, List.setIfInBounds_toArray, List.set_cons_zero, List.set_cons_succ])
  refine takeH (i := 5) (dst := some 37) (v := ?v5) rfl rfl (by kernel_rfl) (by kernel_rfl) (by kernel_rfl) (fun _ _ _ h => h) rfl ?hy5 hH rfl ?rest5
  case hy5 => (intro W hW; have e0 := hW.c0; have e1 := hW.c1; have e2 := hW.c2; have e3 := hW.c3; clear hW; go_simp; try with_reducible rfl)
  (try simp only [Act.put, List.setIfInBounds_toArray, List.set_cons_zero, List.set_cons_succ])
  refine callH (i := 2) { dst := some 34, op := Go.Op.call { callee := Go.Callee.value (Go.Operand.func 23), args := #[], argTypes := #[] }, type := 51, pos := "vol.go:51", after := #[], guard := none } (by kernel_rfl) rfl rfl (fun K hK => ?_)
  go_simp
  refine (pnew_any _).mono ?_
  rintro e w6 ⟨rfl, hb6⟩
  have HB6 : Hid (Below w4.heap.size w4 w6) := HBd.out.trans (hb6.mono HBd.out.size)
  have HR6 : Hid (Row4 w6 w1.heap.size 58 1 16 8 2) := HR4.out.up HB6.out
  have GR := greatest_any (HD4.out.up HB6.out) HH.out.2.2
  clear hb6
  clear hH
  refine hK.out _ _ HR6.out (fun hH => ?_)
  clear hK K
  (try simp only [Act.put, List.setIfInBounds_toArray, List.set_cons_zero, List.set_cons_succ])
  refine callH (i := 6) { dst := some 38, op := Go.Op.call { callee := Go.Callee.value (Go.Operand.func 24), args := #[Go.Operand.tmp 35, Go.Operand.tmp 37], argTypes := #[56, 23] }, type := 2, pos := "vol.go:51", after := #[{ on := 3, ground := Go.Ground.data }, { on := 5, ground := Go.Ground.data }, { on := 2, ground := Go.Ground.chain }], guard := none } (by kernel_rfl) rfl rfl (fun K hK => ?_)
  go_simp
  refine GR.mono ?_
  clear GR
  rintro e w7 ⟨rfl, hb7⟩
  have HB7 : Hid (Below w4.heap.size w4 w7) := HB6.out.trans (hb7.mono HB6.out.size)
  have HR7 : Hid (Row4 w7 w1.heap.size 58 1 16 8 2) := HR4.out.up HB7.out
  clear hb7
  clear hH
  refine hK.out _ _ HR7.out (fun hH => ?_)
  clear hK K
  (try simp only [Act.put, List.setIfInBounds_toArray, List.set_cons_zero, List.set_cons_succ])
  refine takeH (i := 7) (dst := some 39) (v := ?v6) rfl rfl (by kernel_rfl) (by kernel_rfl) (by kernel_rfl) (fun _ _ _ h => h) rfl ?hy6 hH rfl ?rest6
  case hy6 => (intro W hW; (try dsimp only at hW); go_simp; try with_reducible rfl)
  (try simp only [Act.put, List.setIfInBounds_toArray, List.set_cons_zero, List.set_cons_succ])
  refine takeH (i := 8) (dst := some 40) (v := ?v7) rfl rfl (by kernel_rfl) (by kernel_rfl) (by kernel_rfl) (fun _ _ _ h => h) rfl ?hy7 hH rfl ?rest7
  case hy7 => (intro W hW; (try dsimp only at hW); go_simp; try with_reducible rfl)
  (try simp only [Act.put, List.setIfInBounds_toArray, List.set_cons_zero, List.set_cons_succ])
  have hb8 : Below w7.heap.size w7 (w7.alloc (.cells #[.int .i64 1, .int .i64 16, .int .i64 8, .int .i64 2, .pointer (some ⟨sp, 0, none⟩), .pointer (some ⟨wd.heap.size, 0, none⟩), .int .i64 2] 68)) := (Below.refl _ _).alloc (Nat.le_refl _) _
  have HB8 : Hid (Below w4.heap.size w4 (w7.alloc (.cells #[.int .i64 1, .int .i64 16, .int .i64 8, .int .i64 2, .pointer (some ⟨sp, 0, none⟩), .pointer (some ⟨wd.heap.size, 0, none⟩), .int .i64 2] 68))) := HB7.out.trans (hb8.mono HB7.out.size)
  have HR8 : Hid (Row4 (w7.alloc (.cells #[.int .i64 1, .int .i64 16, .int .i64 8, .int .i64 2, .pointer (some ⟨sp, 0, none⟩), .pointer (some ⟨wd.heap.size, 0, none⟩), .int .i64 2] 68)) w1.heap.size 58 1 16 8 2) := HR4.out.up HB8.out
  have HV8 : Hid ((w7.alloc (.cells #[.int .i64 1, .int .i64 16, .int .i64 8, .int .i64 2, .pointer (some ⟨sp, 0, none⟩), .pointer (some ⟨wd.heap.size, 0, none⟩), .int .i64 2] 68)).heap[w7.heap.size]? = some (.cells #[.int .i64 1, .int .i64 16, .int .i64 8, .int .i64 2, .pointer (some ⟨sp, 0, none⟩), .pointer (some ⟨wd.heap.size, 0, none⟩), .int .i64 2] 68 (0, 0))) := heap_alloc_new _ _
  clear hb8 hbu
  refine callH (i := 9) { dst := some 41, op := Go.Op.box 68 (Go.Operand.tmp 40), type := 24, pos := "vol.go:51", after := #[{ on := 8, ground := Go.Ground.data }], guard := none } (by kernel_rfl) rfl rfl (fun K hK => ?_)
  go_simp
  clear hH
  refine hK.out _ _ HR8.out (fun hH => ?_)
  clear hK K
  (try simp only [Act.put, List.setIfInBounds_toArray, List.set_cons_zero, List.set_cons_succ])
  refine takeH (i := 10) (dst := some 2) (v := ?v8) rfl rfl (by kernel_rfl) (by kernel_rfl) (by kernel_rfl) (fun _ _ _ h => h) rfl ?hy8 hH rfl ?rest8
  case hy8 => (intro W hW; (try dsimp only at hW); go_simp; try with_reducible rfl)
  (try simp only [Act.put, List.setIfInBounds_toArray, List.set_cons_zero, List.set_cons_succ])
  refine takeH (i := 11) (dst := some 3) (v := ?v9) rfl rfl (by kernel_rfl) (by kernel_rfl) (by kernel_rfl) (fun _ _ _ h => h) rfl ?hy9 hH rfl ?rest9
  case hy9 => (intro W hW; (try dsimp only at hW); go_simp; try with_reducible rfl)
  (try simp only [Act.put, List.setIfInBounds_toArray, List.set_cons_zero, List.set_cons_succ])
  refine wpAnyH_done (by kernel_rfl) ?_ _
  clear hH
  go_wp2
  go_ret2
  have hz : w4.heap.size ≤ w7.heap.size := HB7.out.size
  exact ⟨w7.heap.size, sp, wd.heap.size, cm, bm, _, rfl, ⟨HV8.out, HPM.out.up HB8.out, HPL.out, HL.out, rfl, rfl, fun hA => by have := HPM.out.lt hA; omega⟩, Nat.le_trans HB4.out.size hz, HB4.out.trans (HB8.out.mono HB4.out.size)⟩
end Go.Proofs.YtkiifmnmeikdlaaGreatDoor
/- A volume that is not there. -/
namespace Go.Proofs.YtkiifmnmeikdlaaGreatDoor
open Go.RowKit
set_option maxRecDepth 100000
set_option maxHeartbeats 1000000 in
theorem absent_nil (w : World) : Calls Tryz.prog 25 #[.pointer none] w fun e w' => e = .returned (.bool true) ∧ w' = w := by
  go_enter Tryz.func25, Tryz.ntmps25
  go_wp2
  go_ret
  exact ⟨rfl, rfl⟩
set_option maxHeartbeats 1000000 in
theorem mount_nil (w : World) : Calls Tryz.prog 4 #[.pointer none] w fun e w' => e = .returned (.tuple #[.pointer none, .int .i64 2]) ∧ w' = w := by
  go_enter Tryz.func4, Tryz.ntmps4
  go_wp2
  go_ret2
  exact ⟨rfl, rfl⟩
set_option maxHeartbeats 1000000 in
theorem gen_nil (w : World) : Calls Tryz.prog 13 #[.pointer none] w fun e w' => e = .returned (.int .i64 0) ∧ w' = w := by
  have AB := fun W => absent_nil W
  go_enter Tryz.func13, Tryz.ntmps13
  go_wp2_with (first | (go_at_call 25; refine (AB _).mono ?_; rintro r w1 ⟨rfl, hw1⟩; obtain rfl : w = w1 := hw1.symm))
  go_ret
  exact ⟨rfl, rfl⟩
set_option maxHeartbeats 1000000 in
theorem store_nil (w : World) : Calls Tryz.prog 14 #[.pointer none] w fun e w' => e = .returned (.pointer none) ∧ w' = w := by
  have AB := fun W => absent_nil W
  go_enter Tryz.func14, Tryz.ntmps14
  go_wp2_with (first | (go_at_call 25; refine (AB _).mono ?_; rintro r w1 ⟨rfl, hw1⟩; obtain rfl : w = w1 := hw1.symm))
  go_ret
  exact ⟨rfl, rfl⟩
set_option maxHeartbeats 1000000 in
theorem work_nil (w : World) : Calls Tryz.prog 15 #[.pointer none] w fun e w' => e = .returned (.pointer none) ∧ w' = w := by
  have AB := fun W => absent_nil W
  go_enter Tryz.func15, Tryz.ntmps15
  go_wp2_with (first | (go_at_call 25; refine (AB _).mono ?_; rintro r w1 ⟨rfl, hw1⟩; obtain rfl : w = w1 := hw1.symm))
  go_ret
  exact ⟨rfl, rfl⟩
set_option maxHeartbeats 1000000 in
theorem newid_nil (w : World) : Calls Tryz.prog 11 #[.pointer none] w fun e w' => e = .returned (.tuple #[.int .i64 0, .int .i64 2]) ∧ w' = w := by
  have AB := fun W => absent_nil W
  go_enter Tryz.func11, Tryz.ntmps11
  go_wp2_with (first | (go_at_call 25; refine (AB _).mono ?_; rintro r w1 ⟨rfl, hw1⟩; obtain rfl : w = w1 := hw1.symm))
  go_ret2
  exact ⟨rfl, rfl⟩
theorem results_geo1 {fn : Func} {q : Tmp} (h : fn.results = #[.cell q 23]) (tmps : Array Value) {w : World} {p : Nat} {a i n : Int} (H : w.heap[p]? = some (.cells #[.int .i64 a, .int .i64 i, .int .i64 n] 23 (0, 0))) (hp : tmps.getD q undef = .pointer (some ⟨p, 0, none⟩)) :
    (results fn tmps).run Tryz.prog w = .ok (.agg #[.int .i64 a, .int .i64 i, .int .i64 n]) w := by
  rw [results_cellV h, hp]
  simp [asAddr, run_loadVar_row w p 23 23 _ _ _ H Tryz.underlying23 rfl (by kernel_rfl), Result.andThen]
/-- Three cells that are laid anew. -/
theorem set3 {w : World} {p : Nat} {x y z : Int} (h : w.heap[p]? = some (.cells #[.int .i64 x, .int .i64 y, .int .i64 z] 23 (0, 0))) (a i n : Int) :
    (((w.setCell ⟨p, 0, none⟩ (.int .i64 a)).setCell ⟨p, 1, none⟩ (.int .i64 i)).setCell ⟨p, 2, none⟩ (.int .i64 n)).heap[p]? = some (.cells #[.int .i64 a, .int .i64 i, .int .i64 n] 23 (0, 0)) := by
  have h0 := heap_setCell_same w p 0 _ _ (.int .i64 a) h
  have h1 := heap_setCell_same _ p 1 _ _ (.int .i64 i) h0
  have h2 := heap_setCell_same _ p 2 _ _ (.int .i64 n) h1
  rw [h2]; rfl
set_option maxHeartbeats 1000000 in
theorem geo_nil (w : World) : Calls Tryz.prog 12 #[.pointer none] w fun e w' => e = .returned (.agg #[.int .i64 0, .int .i64 0, .int .i64 0]) ∧ Below w.heap.size w w' := by
  have AB := fun W => absent_nil W
  obtain ⟨w1, hw1⟩ : ∃ w1, w.alloc (.cells #[.int .i64 0, .int .i64 0, .int .i64 0] 23) = w1 := ⟨_, rfl⟩
  have hr : w1.heap[w.heap.size]? = some (.cells #[.int .i64 0, .int .i64 0, .int .i64 0] 23 (0, 0)) := by rw [← hw1]; exact heap_alloc_new _ _
  have hb : Below w.heap.size w w1 := by rw [← hw1]; exact (Below.refl _ _).alloc (Nat.le_refl _) _
  have HR : Hid (_ = _) := set3 hr 0 0 0
  have HB : Hid (Below w.heap.size w (((w1.setCell ⟨w.heap.size, 0, none⟩ (.int .i64 0)).setCell ⟨w.heap.size, 1, none⟩ (.int .i64 0)).setCell ⟨w.heap.size, 2, none⟩ (.int .i64 0))) := ((hb.setCell (p := ⟨w.heap.size, 0, none⟩) (Nat.le_refl _) _).setCell (p := ⟨w.heap.size, 1, none⟩) (Nat.le_refl _) _).setCell (p := ⟨w.heap.size, 2, none⟩) (Nat.le_refl _) _
  have hbz : ∀ W, (Instr.build 23 #[]).run Tryz.prog W = .ok (.agg #[.int .i64 0, .int .i64 0, .int .i64 0]) W := fun W => Go.run_build W 23 _ _ (by kernel_rfl)
  have c0 : w1.cell? ⟨w.heap.size, 0, none⟩ = some (.int .i64 0) := by rw [cell_of_row _ _ _ _ _ _ hr]; rfl
  have c1 : w1.cell? ⟨w.heap.size, 1, none⟩ = some (.int .i64 0) := by rw [cell_of_row _ _ _ _ _ _ hr]; rfl
  have c2 : w1.cell? ⟨w.heap.size, 2, none⟩ = some (.int .i64 0) := by rw [cell_of_row _ _ _ _ _ _ hr]; rfl
  have f0 : w1.frozen? ⟨w.heap.size, 0, none⟩ = false := frozen_of_row _ _ _ _ _ hr
  have f1 : w1.frozen? ⟨w.heap.size, 1, none⟩ = false := frozen_of_row _ _ _ _ _ hr
  have f2 : w1.frozen? ⟨w.heap.size, 2, none⟩ = false := frozen_of_row _ _ _ _ _ hr
  clear hr hb
  go_enter Tryz.func12, Tryz.ntmps12
  go_wp2_with (first | (go_at_call 25; refine (AB _).mono ?_; rintro r w2 ⟨rfl, hw2⟩; obtain rfl : w1 = w2 := hw2.symm))
  exact bodyPost_ret (results_geo1 rfl _ HR.out rfl) rfl ⟨rfl, HB.out⟩
set_option maxHeartbeats 2000000 in
theorem inode_nil (n : Int) (w : World) : Calls Tryz.prog 5 #[.pointer none, .int .i64 n] w fun e w' => e = .returned (.tuple #[.agg (iA zino), .int .i64 2]) ∧ Below w.heap.size w w' := by
  have AB := fun W => absent_nil W
  have hz := zeroI
  have HN : Hid (InoAt (w.alloc (.cells (iA zino) 30)) w.heap.size zino) := ino_new w zino rfl
  have HNB : Hid (Below w.heap.size w (w.alloc (.cells (iA zino) 30))) := (Below.refl _ _).alloc (Nat.le_refl _) _
  have hbz : ∀ W, (Instr.build 30 #[]).run Tryz.prog W = .ok (.agg (iA zino)) W := fun W => Go.run_build W 30 _ _ (by kernel_rfl)
  go_enter Tryz.func5, Tryz.ntmps5
  go_wp2_with (first | (go_at_call 25; refine (AB _).mono ?_; rintro r w2 ⟨rfl, hw2⟩; rw [hw2]; clear hw2 w2) | ((with_reducible show wpList _ _ _ ({ dst := _, op := Op.store 30 _ _, type := _, pos := _, after := _, guard := _ } :: _) _ _); refine wpList_store_ino rfl _ _ rfl (HN.out) rfl rfl rfl ?_; intro w1 H1 b1 z1))
  exact bodyPost_ret (results_ino rfl _ H1 rfl) rfl ⟨rfl, HNB.out.trans b1⟩
set_option maxHeartbeats 2000000 in
theorem vhead_nil (n : Int) (w : World) : Calls Tryz.prog 7 #[.pointer none, .int .i64 n] w fun e w' => e = .returned (.tuple #[.agg (hA 0 z16 z8), .int .i64 2]) ∧ Below w.heap.size w w' := by
  have AB := fun W => absent_nil W
  have hz := zero28
  have HN : Hid (HeadAt (w.alloc (.cells (hA 0 z16 z8) 38)) w.heap.size 0 z16 z8) := head_new w 0 z16 z8 rfl rfl
  have HNB : Hid (Below w.heap.size w (w.alloc (.cells (hA 0 z16 z8) 38))) := (Below.refl _ _).alloc (Nat.le_refl _) _
  have hbz : ∀ W, (Instr.build 38 #[]).run Tryz.prog W = .ok (.agg (hA 0 z16 z8)) W := fun W => Go.run_build W 38 _ _ (by kernel_rfl)
  go_enter Tryz.func7, Tryz.ntmps7
  go_wp2_with (first | (go_at_call 25; refine (AB _).mono ?_; rintro r w2 ⟨rfl, hw2⟩; rw [hw2]; clear hw2 w2) | ((with_reducible show wpList _ _ _ ({ dst := _, op := Op.store 38 _ _, type := _, pos := _, after := _, guard := _ } :: _) _ _); refine wpList_store_head rfl _ _ rfl (HN.out) rfl rfl rfl rfl ?_; intro w1 H1 b1 z1))
  exact bodyPost_ret (results_head rfl _ H1 rfl) rfl ⟨rfl, HNB.out.trans b1⟩
set_option maxHeartbeats 2000000 in
theorem setinode_nil (n : Int) (w : World) : Calls Tryz.prog 6 #[.pointer none, .int .i64 n, .agg (iA zino), .slice none 0 0] w fun e w' => e = .returned (.tuple #[.int .i64 0, .int .i64 2]) ∧ Below w.heap.size w w' := by
  have AB := fun W => absent_nil W
  have HNB : Hid (Below w.heap.size w (w.alloc (.cells (iA zino) 30))) := (Below.refl _ _).alloc (Nat.le_refl _) _
  go_enter Tryz.func6, Tryz.ntmps6
  go_wp2_with (first | (go_at_call 25; refine (AB _).mono ?_; rintro r w2 ⟨rfl, hw2⟩; rw [hw2]; clear hw2 w2))
  go_ret2
  exact ⟨rfl, HNB.out⟩
set_option maxHeartbeats 2000000 in
theorem sethead_nil (n : Int) (w : World) : Calls Tryz.prog 8 #[.pointer none, .int .i64 n, .agg (hA 0 z16 z8), .slice none 0 0] w fun e w' => e = .returned (.tuple #[.int .i64 0, .int .i64 2]) ∧ Below w.heap.size w w' := by
  have AB := fun W => absent_nil W
  have HNB : Hid (Below w.heap.size w (w.alloc (.cells (hA 0 z16 z8) 38))) := (Below.refl _ _).alloc (Nat.le_refl _) _
  go_enter Tryz.func8, Tryz.ntmps8
  go_wp2_with (first | (go_at_call 25; refine (AB _).mono ?_; rintro r w2 ⟨rfl, hw2⟩; rw [hw2]; clear hw2 w2))
  go_ret2
  exact ⟨rfl, HNB.out⟩
set_option maxHeartbeats 2000000 in
theorem reach_nil (n : Int) (w : World) : Calls Tryz.prog 34 #[.pointer none, .int .i64 n] w fun e w' => e = .returned (.int .i64 2) ∧ w' = w := by
  have AB := fun W => absent_nil W
  go_enter Tryz.func34, Tryz.ntmps34
  go_wp2_with (first | (go_at_call 25; refine (AB _).mono ?_; rintro r w1 ⟨rfl, hw1⟩; obtain rfl : w = w1 := hw1.symm))
  go_ret
  exact ⟨rfl, rfl⟩
set_option maxHeartbeats 2000000 in
theorem data_nil (n : Int) (w : World) : Calls Tryz.prog 9 #[.pointer none, .int .i64 n] w fun e w' => e = .returned (.tuple #[.slice none 0 0, .int .i64 2]) ∧ w' = w := by
  have AB := fun W => reach_nil n W
  go_enter Tryz.func9, Tryz.ntmps9
  go_wp2_with (first | (go_at_call 34; refine (AB _).mono ?_; rintro r w1 ⟨rfl, hw1⟩; obtain rfl : w = w1 := hw1.symm))
  go_ret2
  exact ⟨rfl, rfl⟩
set_option maxHeartbeats 2000000 in
theorem setdata_nil (n : Int) (sp : Option Addr) (len cap : Nat) (w : World) : Calls Tryz.prog 10 #[.pointer none, .int .i64 n, .int .i64 0, .slice sp len cap, .slice none 0 0] w fun e w' => e = .returned (.tuple #[.int .i64 0, .int .i64 2]) ∧ w' = w := by
  have AB := fun W => reach_nil n W
  go_enter Tryz.func10, Tryz.ntmps10
  go_wp2_with (first | (go_at_call 34; refine (AB _).mono ?_; rintro r w1 ⟨rfl, hw1⟩; obtain rfl : w = w1 := hw1.symm))
  go_ret2
  exact ⟨rfl, rfl⟩
end Go.Proofs.YtkiifmnmeikdlaaGreatDoor
/- A volume that is mounted: what it answers; Prepare and Switch of none. -/
namespace Go.Proofs.YtkiifmnmeikdlaaGreatDoor
open Go.RowKit
set_option maxRecDepth 100000
set_option maxHeartbeats 2000000 in
theorem switch_nil (a i n : Int) (w : World) : Calls Tryz.prog 17 #[.pointer none, .agg #[.int .i64 a, .int .i64 i, .int .i64 n]] w fun e w' => e = .returned (.int .i64 2) ∧ Below w.heap.size w w' := by
  have AB := fun W => absent_nil W
  have HNB : Hid (Below w.heap.size w (w.alloc (.cells #[.int .i64 a, .int .i64 i, .int .i64 n] 23))) := (Below.refl _ _).alloc (Nat.le_refl _) _
  go_enter Tryz.func17, Tryz.ntmps17
  go_wp2_with (first | (go_at_call 25; refine (AB _).mono ?_; rintro r w2 ⟨rfl, hw2⟩; rw [hw2]; clear hw2 w2))
  go_ret
  exact ⟨rfl, HNB.out⟩
theorem results_int1 {fn : Func} {q : Tmp} (h : fn.results = #[.cell q 25]) (tmps : Array Value) {w : World} {p : Nat} {a : Int} (H : w.heap[p]? = some (.cells #[.int .i64 a] 25 (0, 0))) (hp : tmps.getD q undef = .pointer (some ⟨p, 0, none⟩)) :
    (results fn tmps).run Tryz.prog w = .ok (.int .i64 a) w := by
  have hc : w.cell? ⟨p, 0, none⟩ = some (.int .i64 a) := by rw [cell_of_row _ _ _ _ _ _ H]; rfl
  rw [results_cellV h, hp]
  simp [asAddr, go_sem, hc, Result.andThen]
set_option maxHeartbeats 2000000 in
theorem prepare_nil (a i n : Int) (w : World) : Calls Tryz.prog 16 #[.pointer none, .agg #[.int .i64 a, .int .i64 i, .int .i64 n]] w fun e w' => e = .returned (.int .i64 2) ∧ Below w.heap.size w w' := by
  have AB := fun W => absent_nil W
  obtain ⟨w2, hw2⟩ : ∃ w2, (w.alloc (.cells #[.pointer none] 24)).alloc (.cells #[.int .i64 a, .int .i64 i, .int .i64 n] 23) = w2 := ⟨_, rfl⟩
  obtain ⟨w1, hw1⟩ : ∃ w1, w2.alloc (.cells #[.int .i64 0] 25) = w1 := ⟨_, rfl⟩
  have z2 : w2.heap.size = w.heap.size + 2 := by rw [← hw2]; simp
  have hb2 : Below w.heap.size w w2 := by rw [← hw2]; exact ((Below.refl _ _).alloc (Nat.le_refl _) _).alloc (by simp) _
  have hb1 : Below w2.heap.size w2 w1 := by rw [← hw1]; exact (Below.refl _ _).alloc (Nat.le_refl _) _
  have hp : w1.cell? ⟨w.heap.size, 0, none⟩ = some (.pointer none) := by
    rw [hb1.cell (p := ⟨w.heap.size, 0, none⟩) (by show w.heap.size < _; omega), cell_of_row _ _ _ _ _ _ (show w2.heap[w.heap.size]? = some (.cells #[.pointer none] 24 (0, 0)) by rw [← hw2]; exact heap_alloc2_old _ _ _)]; rfl
  have hr : w1.heap[w.heap.size + 2]? = some (.cells #[.int .i64 0] 25 (0, 0)) := by rw [← z2, ← hw1]; exact heap_alloc_new _ _
  have hc : w1.cell? ⟨w.heap.size + 2, 0, none⟩ = some (.int .i64 0) := by rw [cell_of_row _ _ _ _ _ _ hr]; rfl
  have hf : w1.frozen? ⟨w.heap.size + 2, 0, none⟩ = false := frozen_of_row _ _ _ _ _ hr
  have HR : Hid ((w1.setCell ⟨w.heap.size + 2, 0, none⟩ (.int .i64 2)).heap[w.heap.size + 2]? = some (.cells #[.int .i64 2] 25 (0, 0))) := by
    show _ = _
    rw [heap_setCell_same w1 (w.heap.size + 2) 0 _ _ (.int .i64 2) hr]; rfl
  have HB : Hid (Below w.heap.size w (w1.setCell ⟨w.heap.size + 2, 0, none⟩ (.int .i64 2))) := (hb2.trans (hb1.mono hb2.size)).setCell (p := ⟨w.heap.size + 2, 0, none⟩) (by show w.heap.size ≤ w.heap.size + 2; omega) _
  clear hb2 hb1 hr
  go_enter Tryz.func16, Tryz.ntmps16
  go_wp2_with (first | (go_at_call 25; refine (AB _).mono ?_; rintro r w3 ⟨rfl, hw3⟩; rw [hw3]; clear hw3 w3))
  exact bodyPost_ret (results_int1 rfl _ HR.out rfl) rfl ⟨rfl, HB.out⟩
end Go.Proofs.YtkiifmnmeikdlaaGreatDoor
/- A volume that is mounted: what it answers. -/
namespace Go.Proofs.YtkiifmnmeikdlaaGreatDoor
open Go.RowKit
set_option maxRecDepth 100000
section
variable {w w' : World} {base : Nat} {C : Nat → List UInt8} {v sp wk cm bm : Nat} {σ : CSt}
theorem VM.lt (h : VM w base C v sp wk cm bm σ) : v < w.heap.size := (Array.getElem?_eq_some_iff.1 h.row).1
theorem VM.up (h : VM w base C v sp wk cm bm σ) (hb : Below w.heap.size w w') : VM w' base C v sp wk cm bm σ := { h with row := (hb.block _ h.lt).trans h.row, pm := h.pm.up hb }
theorem VM.c1 (h : VM w base C v sp wk cm bm σ) : w.cell? ⟨v, 1, none⟩ = some (.int .i64 16) := by rw [cell_of_row _ _ _ _ _ _ h.row]; rfl
theorem VM.c2 (h : VM w base C v sp wk cm bm σ) : w.cell? ⟨v, 2, none⟩ = some (.int .i64 8) := by rw [cell_of_row _ _ _ _ _ _ h.row]; rfl
theorem VM.c3 (h : VM w base C v sp wk cm bm σ) : w.cell? ⟨v, 3, none⟩ = some (.int .i64 2) := by rw [cell_of_row _ _ _ _ _ _ h.row]; rfl
theorem VM.c4 (h : VM w base C v sp wk cm bm σ) : w.cell? ⟨v, 4, none⟩ = some (.pointer (some ⟨sp, 0, none⟩)) := by rw [cell_of_row _ _ _ _ _ _ h.row]; rfl
set_option maxHeartbeats 1000000 in
theorem absent_any (p4 : w.cell? ⟨v, 4, none⟩ = some (.pointer (some ⟨sp, 0, none⟩))) : Calls Tryz.prog 25 #[.pointer (some ⟨v, 0, none⟩)] w fun e w' => e = .returned (.bool false) ∧ w' = w := by
  go_enter Tryz.func25, Tryz.ntmps25
  go_wp2
  go_ret
  exact ⟨rfl, rfl⟩
set_option maxHeartbeats 1000000 in
theorem gen_any (p0 : w.cell? ⟨v, 0, none⟩ = some (.int .i64 1)) (p4 : w.cell? ⟨v, 4, none⟩ = some (.pointer (some ⟨sp, 0, none⟩))) : Calls Tryz.prog 13 #[.pointer (some ⟨v, 0, none⟩)] w fun e w' => e = .returned (.int .i64 1) ∧ w' = w := by
  have AB := absent_any p4
  go_enter Tryz.func13, Tryz.ntmps13
  go_wp2_with (first | (go_at_call 25; refine AB.mono ?_; rintro r w1 ⟨rfl, hw1⟩; obtain rfl : w = w1 := hw1.symm))
  go_ret
  exact ⟨rfl, rfl⟩
set_option maxHeartbeats 1000000 in
theorem newid_any (p4 : w.cell? ⟨v, 4, none⟩ = some (.pointer (some ⟨sp, 0, none⟩))) (p6 : w.cell? ⟨v, 6, none⟩ = some (.int .i64 2)) (f6 : w.frozen? ⟨v, 6, none⟩ = false) : Calls Tryz.prog 11 #[.pointer (some ⟨v, 0, none⟩)] w fun e w' => e = .returned (.tuple #[.int .i64 2, .int .i64 0]) ∧ w' = w.setCell ⟨v, 6, none⟩ (.int .i64 3) := by
  have AB := absent_any p4
  go_enter Tryz.func11, Tryz.ntmps11
  go_wp2_with (first | (go_at_call 25; refine AB.mono ?_; rintro r w1 ⟨rfl, hw1⟩; obtain rfl : w = w1 := hw1.symm))
  go_ret2
  exact ⟨rfl, rfl⟩
set_option maxHeartbeats 1000000 in
theorem geo_any (h : VM w base C v sp wk cm bm σ) : Calls Tryz.prog 12 #[.pointer (some ⟨v, 0, none⟩)] w fun e w' => e = .returned (.agg #[.int .i64 16, .int .i64 8, .int .i64 2]) ∧ Below w.heap.size w w' := by
  obtain ⟨w1, hw1⟩ : ∃ w1, w.alloc (.cells #[.int .i64 0, .int .i64 0, .int .i64 0] 23) = w1 := ⟨_, rfl⟩
  have hr : w1.heap[w.heap.size]? = some (.cells #[.int .i64 0, .int .i64 0, .int .i64 0] 23 (0, 0)) := by rw [← hw1]; exact heap_alloc_new _ _
  have hb : Below w.heap.size w w1 := by rw [← hw1]; exact (Below.refl _ _).alloc (Nat.le_refl _) _
  have h1 := h.up hb
  have AB := absent_any h1.c4
  have HR : Hid (_ = _) := set3 hr 16 8 2
  have HB : Hid (Below w.heap.size w (((w1.setCell ⟨w.heap.size, 0, none⟩ (.int .i64 16)).setCell ⟨w.heap.size, 1, none⟩ (.int .i64 8)).setCell ⟨w.heap.size, 2, none⟩ (.int .i64 2))) := ((hb.setCell (p := ⟨w.heap.size, 0, none⟩) (Nat.le_refl _) _).setCell (p := ⟨w.heap.size, 1, none⟩) (Nat.le_refl _) _).setCell (p := ⟨w.heap.size, 2, none⟩) (Nat.le_refl _) _
  have p1 := h1.c1
  have p2 := h1.c2
  have p3 := h1.c3
  have c0 : w1.cell? ⟨w.heap.size, 0, none⟩ = some (.int .i64 0) := by rw [cell_of_row _ _ _ _ _ _ hr]; rfl
  have c1 : w1.cell? ⟨w.heap.size, 1, none⟩ = some (.int .i64 0) := by rw [cell_of_row _ _ _ _ _ _ hr]; rfl
  have c2 : w1.cell? ⟨w.heap.size, 2, none⟩ = some (.int .i64 0) := by rw [cell_of_row _ _ _ _ _ _ hr]; rfl
  have f0 : w1.frozen? ⟨w.heap.size, 0, none⟩ = false := frozen_of_row _ _ _ _ _ hr
  have f1 : w1.frozen? ⟨w.heap.size, 1, none⟩ = false := frozen_of_row _ _ _ _ _ hr
  have f2 : w1.frozen? ⟨w.heap.size, 2, none⟩ = false := frozen_of_row _ _ _ _ _ hr
  clear hr hb h h1
  go_enter Tryz.func12, Tryz.ntmps12
  go_wp2_with (first | (go_at_call 25; refine AB.mono ?_; rintro r w2 ⟨rfl, hw2⟩; obtain rfl : w1 = w2 := hw2.symm))
  exact bodyPost_ret (results_geo1 rfl _ HR.out rfl) rfl ⟨rfl, HB.out⟩
/-- The store's Read, of a volume of which nothing was changed. -/
theorem vread_any (h : VM w base C v sp wk cm bm σ) (i : Nat) (hi : i < 34) (hl : (C i).length = 256) :
    Calls Tryz.prog 27 #[.pointer (some ⟨sp, 0, none⟩), .int .i64 (i : Int)] w fun e w' => ∃ g c, e = .returned (.tuple #[.slice (some ⟨g, 0, none⟩) 256 c, .int .i64 0]) ∧ Arg w' (some ⟨g, 0, none⟩) c (C i) ∧ ∃ s', PRun base (newS sp cm bm σ) w s' (fun _ => []) w' := by
  refine (pread_any h.pm h.pl (by omega) i (by show i < σ.dn; rw [h.dn]; exact hi)).mono ?_
  rintro e w' ⟨x, d, pn, σ', rfl, hd, hO, hl2, hR, _, _, _⟩
  have hd' : (d, pn) = (ent σ.L i).getD (lst σ i, 0) := hd
  rw [h.L] at hd'
  obtain rfl : d = C i := by rw [← h.rd i]; exact congrArg Prod.fst hd'
  obtain ⟨g, cap, e1, hg, _⟩ := hO.at0V (by omega)
  obtain ⟨ao, cap', e2, ha⟩ := hO.arg (by omega)
  subst e1
  obtain ⟨e3, e4⟩ : some ⟨g, 0, none⟩ = ao ∧ cap = cap' := by simpa using e2
  subst e3 e4
  rw [hl]
  exact ⟨g, cap, rfl, ha, _, hR⟩
end
set_option maxHeartbeats 8000000 in
theorem inode_any {w : World} {base : Nat} {C : Nat → List UInt8} {v sp wk cm bm : Nat} {σ : CSt} (h : VM w base C v sp wk cm bm σ) (hC : C 3 = tabL 3) :
    Calls Tryz.prog 5 #[.pointer (some ⟨v, 0, none⟩), .int .i64 1] w fun e w' => e = .returned (.tuple #[.agg (iA rootI), .int .i64 0]) ∧ w'.heap[v]? = w.heap[v]? ∧ Below base w w' := by
  obtain ⟨w1, hw1⟩ : ∃ w1, w.alloc (.cells (iA zino) 30) = w1 := ⟨_, rfl⟩
  have hb1 : Below w.heap.size w w1 := by rw [← hw1]; exact (Below.refl _ _).alloc (Nat.le_refl _) _
  have hz := zeroI
  have h1 := h.up hb1
  have AB := absent_any h1.c4
  have HI1 : Hid (InoAt w1 w.heap.size zino) := by rw [← hw1]; exact ino_new w zino rfl
  have H0 : Hid (VM w base C v sp wk cm bm σ) := h
  have H1 : Hid (VM w1 base C v sp wk cm bm σ) := h1
  have HB1 : Hid (Below w.heap.size w w1) := hb1
  have HC : Hid (C 3 = tabL 3) := hC
  have HN : Hid (rootI.ns.length = 8) := rfl
  have HBS : Hid (base ≤ w.heap.size) := by
    have h2 := (h.pm.cs.mbb)
    have h3 := h.pm.cs.map.lt
    show base ≤ w.heap.size
    omega
  clear hb1 h h1 hC
  go_enter Tryz.func5, Tryz.ntmps5
  go_upto_region 3 with (first | (go_at_call 25; refine AB.mono ?_; rintro r w2 ⟨rfl, hw2⟩; obtain rfl : w1 = w2 := hw2.symm))
  clear AB
  have gd : VM w1.drew base C v sp wk cm bm σ := H1.out.up (Below.refl _ _).drew
  have HB2 : Hid (Below w.heap.size w w1.drew) := HB1.out.trans ((Below.refl _ _).drew.mono HB1.out.size)
  have HI2 : Hid (InoAt w1.drew w.heap.size zino) := HI1.out.drew
  refine wp_region_held_drew (S := (fun W => W.cell? ⟨v, 4, none⟩ = some (.pointer (some ⟨sp, 0, none⟩)))) (by kernel_rfl) gd.c4 (fun hH => ?_)
  generalize w1.drew = wd at *
  have HV : Hid (VM wd base C v sp wk cm bm σ) := gd
  have GE := geo_any gd
  clear gd H1
  refine takeH (i := 0) (dst := some 9) (v := ?v1) rfl rfl (by kernel_rfl) (by kernel_rfl) (by kernel_rfl) (fun _ _ _ h => h) rfl ?hy1 hH rfl ?rest1
  case hy1 => (intro W hW; (try dsimp only at hW); go_simp; try with_reducible rfl)
  (try simp only [Act.put, List.setIfInBounds_toArray, List.set_cons_zero, List.set_cons_succ])
  refine takeH (i := 1) (dst := some 10) (v := ?v2) rfl rfl (by kernel_rfl) (by kernel_rfl) (by kernel_rfl) (fun _ _ _ h => h) rfl ?hy2 hH rfl ?rest2
  case hy2 => (intro W hW; (try dsimp only at hW); go_simp; try with_reducible rfl)
  (try simp only [Act.put, List.setIfInBounds_toArray, List.set_cons_zero, List.set_cons_succ])
  refine takeH (i := 2) (dst := some 11) (v := ?v3) rfl rfl (by kernel_rfl) (by kernel_rfl) (by kernel_rfl) (fun _ _ _ h => h) rfl ?hy3 hH rfl ?rest3
  case hy3 => (intro W hW; (try dsimp only at hW); go_simp; try with_reducible rfl)
  (try simp only [Act.put, List.setIfInBounds_toArray, List.set_cons_zero, List.set_cons_succ])
  refine takeH (i := 3) (dst := some 12) (v := ?v4) rfl rfl (by kernel_rfl) (by kernel_rfl) (by kernel_rfl) (fun _ _ _ h => h) rfl ?hy4 hH rfl ?rest4
  case hy4 => (intro W hW; have e0 := hW; clear hW; go_simp; try with_reducible rfl)
  (try simp only [Act.put, List.setIfInBounds_toArray, List.set_cons_zero, List.set_cons_succ])
  refine takeH (i := 4) (dst := some 13) (v := ?v5) rfl rfl (by kernel_rfl) (by kernel_rfl) (by kernel_rfl) (fun _ _ _ h => h) rfl ?hy5 hH rfl ?rest5
  case hy5 => (intro W hW; (try dsimp only at hW); go_simp; try with_reducible rfl)
  (try simp only [Act.put, List.setIfInBounds_toArray, List.set_cons_zero, List.set_cons_succ])
  refine takeH (i := 5) (dst := some 14) (v := ?v6) rfl rfl (by kernel_rfl) (by kernel_rfl) (by kernel_rfl) (fun _ _ _ h => h) rfl ?hy6 hH rfl ?rest6
  case hy6 => (intro W hW; (try dsimp only at hW); go_simp; try with_reducible rfl)
  (try simp only [Act.put, List.setIfInBounds_toArray, List.set_cons_zero, List.set_cons_succ])
  refine takeH (i := 7) (dst := some 16) (v := ?v7) rfl rfl (by kernel_rfl) (by kernel_rfl) (by kernel_rfl) (fun _ _ _ h => h) rfl ?hy7 hH rfl ?rest7
  case hy7 => (intro W hW; (try dsimp only at hW); go_simp; try with_reducible rfl)
  (try simp only [Act.put, List.setIfInBounds_toArray, List.set_cons_zero, List.set_cons_succ])
  refine callH (i := 6) { dst := some 15, op := Go.Op.call { callee := Go.Callee.value (Go.Operand.func 12), args := #[Go.Operand.tmp 14], argTypes := #[24] }, type := 23, pos := "vol.go:158", after := #[{ on := 5, ground := Go.Ground.data }], guard := none } (by kernel_rfl) rfl rfl (fun K hK => ?_)
  go_simp
  refine GE.mono ?_
  clear GE
  rintro e w3 ⟨rfl, h3⟩
  have H3 : Hid (VM w3 base C v sp wk cm bm σ) := HV.out.up h3
  have HB3 : Hid (Below w.heap.size w w3) := HB2.out.trans (h3.mono HB2.out.size)
  have HI3 : Hid (InoAt w3 w.heap.size zino) := HI2.out.up h3
  have TH := thing_gen 27 (.pointer (some ⟨sp, 0, none⟩)) 1 3 1 (C 3) rootI (by rw [placeV_b (by omega)]; rfl) (by rw [placeV_p (by omega)]; rfl) (placeV_e (by omega)) (by omega) (by rw [HC.out]; exact tab_len 3) (by rw [HC.out]; exact tabR_v 1 (by omega)) (by rw [HC.out]; exact tabR_e 1 (by omega)) rfl w3 (fun W w' => ∃ s', PRun base (newS sp cm bm σ) W s' (fun _ => []) w') (fun W hb => vread_any (H3.out.up hb) 3 (by omega) (by rw [HC.out]; exact tab_len 3)) (fun W w' hb hr => by
    obtain ⟨s', hr⟩ := hr
    exact ⟨hr.fr.size, fun j hj hl => hr.fr.blk j hl fun hA => by have := H3.out.pm.lt hA; omega⟩) (enters_of Tryz.func27 (by kernel_rfl) rfl)
  clear h3
  clear hH
  refine hK.out _ _ H3.out.c4 (fun hH => ?_)
  clear hK K
  (try simp only [Act.put, List.setIfInBounds_toArray, List.set_cons_zero, List.set_cons_succ])
  refine callH (i := 8) { dst := some 17, op := Go.Op.call { callee := Go.Callee.value (Go.Operand.func 26), args := #[Go.Operand.tmp 13, Go.Operand.tmp 15, Go.Operand.tmp 16], argTypes := #[107, 23, 3] }, type := 31, pos := "vol.go:158", after := #[{ on := 4, ground := Go.Ground.data }, { on := 6, ground := Go.Ground.data }, { on := 7, ground := Go.Ground.data }, { on := 6, ground := Go.Ground.chain }], guard := none } (by kernel_rfl) rfl rfl (fun K hK => ?_)
  go_simp
  refine TH.mono ?_
  clear TH
  rintro e w5 ⟨rfl, W1, wa, hbA, hzA, ⟨s', hrA⟩, hfA⟩
  have hv5 : w5.heap[v]? = w.heap[v]? := by
    have l0 := H0.out.lt
    have l3 := HB3.out.size
    have l1 := hbA.size
    have l2 := hrA.fr.size
    rw [hfA.blk v (by omega) (by omega), hrA.fr.blk v (by omega) H3.out.no, hbA.block v (by omega), HB3.out.block v l0]
  have hi5 : InoAt w5 w.heap.size zino := by
    have l0 := HI3.out.lt
    have l1 := hbA.size
    have l2 := hrA.fr.size
    have l3 := HB3.out.size
    refine ⟨?_, rfl⟩
    rw [hfA.blk _ (by omega) (by omega), hrA.fr.blk _ (by omega) (fun hA => by have := H0.out.pm.lt hA; omega), hbA.block _ (by omega)]
    exact HI3.out.row
  have hb5 : Below base w w5 := by
    have l3 := HB3.out.size
    have l1 := hbA.size
    have l4 := HBS.out
    have l5 := hrA.be
    have e1 : Below base w W1 := (HB3.out.mono l4).trans (hbA.mono (by omega))
    have l6 := l5.size
    exact (e1.trans l5).trans (hfA.below (by omega) (fun j e => by omega))
  have HV5 : Hid (w5.heap[v]? = w.heap[v]?) := hv5
  have HI5 : Hid (InoAt w5 w.heap.size zino) := hi5
  have HB5 : Hid (Below base w w5) := hb5
  have HC5 : Hid (w5.cell? ⟨v, 4, none⟩ = some (.pointer (some ⟨sp, 0, none⟩))) := (World.cell?_of_block (a := ⟨v, 4, none⟩) hv5).trans H0.out.c4
  clear hv5 hi5 hb5 hbA hzA hrA hfA
  clear hH
  refine hK.out _ _ HC5.out (fun hH => ?_)
  clear hK K
  (try simp only [Act.put, List.setIfInBounds_toArray, List.set_cons_zero, List.set_cons_succ])
  refine takeH (i := 9) (dst := some 18) (v := ?v8) rfl rfl (by kernel_rfl) (by kernel_rfl) (by kernel_rfl) (fun _ _ _ h => h) rfl ?hy8 hH rfl ?rest8
  case hy8 => (intro W hW; (try dsimp only at hW); go_simp; try with_reducible rfl)
  (try simp only [Act.put, List.setIfInBounds_toArray, List.set_cons_zero, List.set_cons_succ])
  refine takeH (i := 10) (dst := some 19) (v := ?v9) rfl rfl (by kernel_rfl) (by kernel_rfl) (by kernel_rfl) (fun _ _ _ h => h) rfl ?hy9 hH rfl ?rest9
  case hy9 => (intro W hW; (try dsimp only at hW); go_simp; try with_reducible rfl)
  (try simp only [Act.put, List.setIfInBounds_toArray, List.set_cons_zero, List.set_cons_succ])
  refine callH (i := 11) { dst := none, op := Go.Op.store 30 (Go.Operand.tmp 4) (Go.Operand.tmp 18), type := 0, pos := "vol.go:158", after := #[{ on := 9, ground := Go.Ground.data }, { on := 8, ground := Go.Ground.chain }, { on := 0, ground := Go.Ground.phase }, { on := 1, ground := Go.Ground.phase }, { on := 2, ground := Go.Ground.phase }, { on := 3, ground := Go.Ground.phase }, { on := 4, ground := Go.Ground.phase }, { on := 5, ground := Go.Ground.phase }, { on := 6, ground := Go.Ground.phase }, { on := 7, ground := Go.Ground.phase }, { on := 8, ground := Go.Ground.phase }, { on := 9, ground := Go.Ground.phase }, { on := 10, ground := Go.Ground.phase }], guard := none } (by kernel_rfl) rfl rfl (fun K hK => ?_)
  rw [if_pos (by rfl)]
  refine wp_store_ino _ _ rfl HI5.out HN.out rfl rfl ?_
  intro w6 H6 b6 z6
  have HV6 : Hid (w6.heap[v]? = w.heap[v]?) := (b6.block v H0.out.lt).trans HV5.out
  have HC6 : Hid (w6.cell? ⟨v, 4, none⟩ = some (.pointer (some ⟨sp, 0, none⟩))) := (World.cell?_of_block (a := ⟨v, 4, none⟩) HV6.out).trans H0.out.c4
  have HB6 : Hid (Below base w w6) := HB5.out.trans (b6.mono HBS.out)
  have HI6 : Hid (InoAt w6 w.heap.size rootI) := H6
  clear H6 b6 z6
  clear hH
  refine hK.out _ _ HC6.out (fun hH => ?_)
  clear hK K
  (try simp only [Act.put])
  refine takeH (i := 12) (dst := some 5) (v := ?v10) rfl rfl (by kernel_rfl) (by kernel_rfl) (by kernel_rfl) (fun _ _ _ h => h) rfl ?hy10 hH rfl ?rest10
  case hy10 => (intro W hW; (try dsimp only at hW); go_simp; try with_reducible rfl)
  (try simp only [Act.put, List.setIfInBounds_toArray, List.set_cons_zero, List.set_cons_succ])
  refine wpAnyH_done (by kernel_rfl) ?_ _
  clear hH
  go_wp2
  exact bodyPost_ret (results_ino rfl _ HI6.out rfl) rfl ⟨rfl, HV6.out, HB6.out⟩
end Go.Proofs.YtkiifmnmeikdlaaGreatDoor
/- leveelaw13.known. -/
namespace Go.Proofs.YtkiifmnmeikdlaaGreatDoor
open Go.RowKit
set_option maxRecDepth 100000
set_option maxHeartbeats 8000000 in
theorem known13_any (w : World) (ht : Tab w) : Calls Tryz.prog 18 #[] w fun e w' => e = .returned (.bool true) ∧ Below w.heap.size w w' := by
  have NW := dw_new w
  have HT : Hid (Tab w) := ht
  have H0 : Hid (0 < w.heap.size) := block_lt_of_cell (ht 0 (by omega))
  have hz := zeroI
  have hbu : ∀ W, (Instr.build 23 #[(0, .int .i64 16), (1, .int .i64 8), (2, .int .i64 2)]).run Tryz.prog W = .ok (.agg #[.int .i64 16, .int .i64 8, .int .i64 2]) W := fun W => Go.run_build W 23 _ _ (by kernel_rfl)
  clear ht
  go_enter Tryz.func18, Tryz.ntmps18
  go_wp2_with fail
  refine NW.mono ?_
  clear NW
  rintro e w1 ⟨p, D, rfl, hD1, hb1⟩
  have FM := format_any hD1 (by omega) (HT.out.below hb1 H0.out)
  have HD1 : Hid (DW w1 w.heap.size p (fun _ => zer) 0 D) := hD1
  have HB1 : Hid (Below w.heap.size w w1) := hb1
  clear hD1 hb1
  go_wp2_with fail
  refine FM.mono ?_
  clear FM
  rintro e w2 ⟨rfl, D2, hD2, _, hf2⟩
  have hT2 : Tab w2 := (HT.out.below HB1.out H0.out).fr hf2 (fun c => by have := (HD1.out.lt c).2; have := H0.out; omega)
  have HB2 : Hid (Below w.heap.size w w2) := HB1.out.trans (hf2.below HB1.out.size (fun j hj => (HD1.out.lt hj).2))
  have MO := mount_any hD2 hT2 (fmt_0 _) (fmt_1 _) (fmt_2 _) (fmt_18 _) (fmt_t _)
  clear hD2 hf2 hT2 HD1 HB1 HT hbu
  go_wp2_with fail
  refine MO.mono ?_
  clear MO
  rintro e w3 ⟨v, sp, wk, cm, bm, σ, rfl, hV3, hv3, hb3⟩
  have HB3 : Hid (Below w.heap.size w w3) := HB2.out.trans (hb3.mono HB2.out.size)
  have IN := inode_any hV3 (fmt_t _ 0 (by omega))
  have HV3 : Hid (VM w3 w.heap.size (fmtC fun _ => zer) v sp wk cm bm σ) := hV3
  have HVW : Hid (w.heap.size ≤ v) := Nat.le_trans HB2.out.size hv3
  clear hV3 hv3 hb3 HB2
  go_wp2_with fail
  refine IN.mono ?_
  clear IN
  rintro e w4 ⟨rfl, hv4, hb4⟩
  have HR4 : Hid (w4.heap[v]? = some (.cells #[.int .i64 1, .int .i64 16, .int .i64 8, .int .i64 2, .pointer (some ⟨sp, 0, none⟩), .pointer (some ⟨wk, 0, none⟩), .int .i64 2] 68 (0, 0))) := hv4.trans HV3.out.row
  have HB4 : Hid (Below w.heap.size w w4) := HB3.out.trans hb4
  have HNW : Hid (InoAt (w4.alloc (.cells (iA zino) 30)) w4.heap.size zino) := ino_new w4 zino rfl
  have HNB : Hid (Below w4.heap.size w4 (w4.alloc (.cells (iA zino) 30))) := (Below.refl _ _).alloc (Nat.le_refl _) _
  have HRL : Hid (rootI.ns.length = 8) := rfl
  clear hv4 hb4 HB3 HV3
  go_upto_region 7 with (first | ((with_reducible show wpList _ _ _ ({ dst := _, op := Op.store 30 _ _, type := _, pos := _, after := _, guard := _ } :: _) _ _); refine wpList_store_ino rfl _ _ rfl (HNW.out) HRL.out rfl rfl ?_; intro w5 H5 b5 z5))
  have l4 : v < w4.heap.size := (Array.getElem?_eq_some_iff.1 HR4.out).1
  have hB5 := HNB.out.trans b5
  have r5 := (hB5.block v l4).trans HR4.out
  have p0 : w5.cell? ⟨v, 0, none⟩ = some (.int .i64 1) := by rw [cell_of_row _ _ _ _ _ _ r5]; rfl
  have p4 : w5.cell? ⟨v, 4, none⟩ = some (.pointer (some ⟨sp, 0, none⟩)) := by rw [cell_of_row _ _ _ _ _ _ r5]; rfl
  have p6 : w5.cell? ⟨v, 6, none⟩ = some (.int .i64 2) := by rw [cell_of_row _ _ _ _ _ _ r5]; rfl
  have f6 : w5.frozen? ⟨v, 6, none⟩ = false := frozen_of_row _ _ _ _ _ r5
  have NI := newid_any p4 p6 f6
  have hfs : Fr (fun j => j = v) w5 (w5.setCell ⟨v, 6, none⟩ (.int .i64 3)) := (Fr.refl _ _).setCell _ _ _ rfl
  have r6 := heap_setCell_same w5 v 6 _ _ (.int .i64 3) r5
  have q0 : (w5.setCell ⟨v, 6, none⟩ (.int .i64 3)).cell? ⟨v, 0, none⟩ = some (.int .i64 1) := by rw [cell_of_row _ _ _ _ _ _ r6]; rfl
  have q4 : (w5.setCell ⟨v, 6, none⟩ (.int .i64 3)).cell? ⟨v, 4, none⟩ = some (.pointer (some ⟨sp, 0, none⟩)) := by rw [cell_of_row _ _ _ _ _ _ r6]; rfl
  have i5 : (w5.setCell ⟨v, 6, none⟩ (.int .i64 3)).heap[w4.heap.size]? = some (.cells (iA rootI) 30 (0, 0)) := (hfs.blk _ H5.lt (by omega)).trans H5.row
  have HI6 : Hid (InoAt (w5.setCell ⟨v, 6, none⟩ (.int .i64 3)) w4.heap.size rootI) := ⟨i5, rfl⟩
  have GN := gen_any q0 q4
  have k0 := HI6.out.c0
  have k3 := HI6.out.c3
  have HB6 : Hid (Below w.heap.size w (w5.setCell ⟨v, 6, none⟩ (.int .i64 3))) := (HB4.out.trans (hB5.mono HB4.out.size)).setCell (p := ⟨v, 6, none⟩) HVW.out _
  clear p0 p4 p6 f6 hfs r6 q0 q4 i5 r5 hB5 l4 H5 b5 z5 HNW HNB HB4 HR4
  generalize w5.setCell ⟨v, 6, none⟩ (.int .i64 3) = w6 at *
  go_wp2_with fail
  refine NI.mono ?_
  clear NI
  rintro e w6' ⟨rfl, hw6⟩
  obtain rfl : w6 = w6' := hw6.symm
  go_wp2_with fail
  refine GN.mono ?_
  rintro e w7 ⟨rfl, hw7⟩
  obtain rfl : w6 = w7 := hw7.symm
  go_wp2
  go_ret
  exact ⟨rfl, HB6.out⟩
end Go.Proofs.YtkiifmnmeikdlaaGreatDoor
