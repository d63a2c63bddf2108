/- The walk of leveelaw04.SuperNext, first part. -/
import Derived.Test.YtjdfkbpadhndlaaDoorTurnedWalk
import Derived.Deep.Cut
namespace Go.Proofs.YtjdfkbpadhndlaaDoor
open Go.RowKit
theorem callH2 {P : Program} {ops : Array Oper} {md : Region.Mode} {Q : Exit → Act → World → Prop} {S : World → Prop} {i j : Nat} (oi oj : Oper) {fuel : Nat} {listed l2 l3 : Array Bool} {a : Act} {w : World} (hr : Region.ready md ops listed = [i, j]) (hi : ops[i]? = some oi) (hj : ops[j]? = some oj) (hl2 : listed.setIfInBounds i true = l2) (hl3 : listed.setIfInBounds j true = l3)
    (h1 : ∀ K : Act → World → Prop, Shut (∀ a w, S w → (S w → wpAnyH P md ops Q S fuel l2 a w) → K a w) → if Region.wanted oi (yielded ops a.tmps) = true then Oper.wp P oi a w K Q else K (a.put oi.dst undef) w)
    (h2 : ∀ K : Act → World → Prop, Shut (∀ a w, S w → (S w → wpAnyH P md ops Q S fuel l3 a w) → K a w) → if Region.wanted oj (yielded ops a.tmps) = true then Oper.wp P oj a w K Q else K (a.put oj.dst undef) w) : wpAnyH P md ops Q S (fuel + 1) listed a w :=
  wpAnyH_ready hr (by simp) (AllReadyH.cons hi (fun K hK => h1 K (by rw [← hl2]; exact hK)) (AllReadyH.cons hj (fun K hK => h2 K (by rw [← hl3]; exact hK)) AllReadyH.nil))
/-- The law's two arguments that are structs, in memory. -/
structure Two (w0 : World) (g a i n x y z : Int) (w : World) : Prop where
  s : Row4 w w0.heap.size 25 g a i n
  q : w.heap[w0.heap.size + 1]? = some (.cells #[.int .i64 x, .int .i64 y, .int .i64 z] 23)
  b : Below w0.heap.size w0 w
theorem Two.up {w0 w w' : World} {g a i n x y z : Int} (h : Two w0 g a i n x y z w) (hb : Below w.heap.size w w') : Two w0 g a i n x y z w' :=
  ⟨h.s.up hb, (hb.block _ (Array.getElem?_eq_some_iff.1 h.q).1).trans h.q, h.b.trans (hb.mono h.b.size)⟩
theorem Two.lt {w0 w : World} {g a i n x y z : Int} (h : Two w0 g a i n x y z w) : w0.heap.size + 1 < w.heap.size := (Array.getElem?_eq_some_iff.1 h.q).1
theorem Two.q0 {w0 w : World} {g a i n x y z : Int} (h : Two w0 g a i n x y z w) : w.cell? ⟨w0.heap.size + 1, 0, none⟩ = some (.int .i64 x) := by rw [cell_of_row w _ 0 _ _ _ h.q]; rfl
theorem Two.q1 {w0 w : World} {g a i n x y z : Int} (h : Two w0 g a i n x y z w) : w.cell? ⟨w0.heap.size + 1, 1, none⟩ = some (.int .i64 y) := by rw [cell_of_row w _ 1 _ _ _ h.q]; rfl
theorem Two.q2 {w0 w : World} {g a i n x y z : Int} (h : Two w0 g a i n x y z w) : w.cell? ⟨w0.heap.size + 1, 2, none⟩ = some (.int .i64 z) := by rw [cell_of_row w _ 2 _ _ _ h.q]; rfl
theorem Two.set4 {w0 w : World} {g a i n x y z : Int} (h : Two w0 g a i n x y z w) {P : Nat} (hP : w0.heap.size + 1 < P) (u v s t : Value) : Two w0 g a i n x y z ((((w.setCell ⟨P, 0, none⟩ u).setCell ⟨P, 1, none⟩ v).setCell ⟨P, 2, none⟩ s).setCell ⟨P, 3, none⟩ t) :=
  ⟨h.s.other (by omega) _ _ _ _, by
    rw [heap_setCell_other _ ⟨P, 3, none⟩ _ t (by show _ ≠ P; omega), heap_setCell_other _ ⟨P, 2, none⟩ _ s (by show _ ≠ P; omega), heap_setCell_other _ ⟨P, 1, none⟩ _ v (by show _ ≠ P; omega), heap_setCell_other _ ⟨P, 0, none⟩ _ u (by show _ ≠ P; omega)]; exact h.q, below_set4 h.b (by omega) _ _ _ _⟩
theorem two0 (g a i n x y z : Int) (w : World) : Two w g a i n x y z ((w.alloc (.cells #[.int .i64 g, .int .i64 a, .int .i64 i, .int .i64 n] 25)).alloc (.cells #[.int .i64 x, .int .i64 y, .int .i64 z] 23)) := ⟨heap_alloc2_old _ _ _, heap_alloc2_new _ _ _, two_allocs _ _ _⟩
set_option maxRecDepth 100000 in
set_option maxHeartbeats 8000000 in
theorem nextw_bad (g a i n x y z k c : Int) (w : World) (ht : Tab w) (NX : ∀ W, Calls Tryd.prog 18 #[.agg #[.int .i64 g, .int .i64 a, .int .i64 i, .int .i64 n], .agg #[.int .i64 x, .int .i64 y, .int .i64 z]] W fun e w' => e = .returned (.tuple #[.agg #[.int .i64 0, .int .i64 0, .int .i64 0, .int .i64 0], .int .i64 0, .int .i64 1]) ∧ Below W.heap.size W w') :
    Calls Tryd.prog 6 #[.agg #[.int .i64 g, .int .i64 a, .int .i64 i, .int .i64 n], .agg #[.int .i64 x, .int .i64 y, .int .i64 z], .int .i64 k, .int .u8 c] w fun e w' => e = .returned (.bool true) ∧ Below w.heap.size w w' := by
  have hw0 : 0 < w.heap.size := block_lt_of_cell (ht 0 (by omega))
  have GV := given_any g a i n
  have hd : Two w g a i n x y z ((w.alloc (.cells #[.int .i64 g, .int .i64 a, .int .i64 i, .int .i64 n] 25)).alloc (.cells #[.int .i64 x, .int .i64 y, .int .i64 z] 23)).drew := (two0 g a i n x y z w).up (Below.refl _ _).drew
  have hsz0 : ((w.alloc (.cells #[.int .i64 g, .int .i64 a, .int .i64 i, .int .i64 n] 25)).alloc (.cells #[.int .i64 x, .int .i64 y, .int .i64 z] 23)).drew.heap.size = w.heap.size + 1 + 1 := by show ((w.heap.push _).push _).size = _; simp
  go_enter Tryd.func6, Tryd.ntmps6
  go_wp2_with fail
  go_cut [9, 10, 11] from 25 (fun s9 s10 s11 wc => ∃ P, s9 = .pointer (some ⟨P, 0, none⟩) ∧ s10 = .int .i64 0 ∧ s11 = .int .i64 1 ∧ Two w g a i n x y z wc)
  case first =>
    refine wp_region_held_drew (S := (fun w' => Two w g a i n x y z w')) (by kernel_rfl) hd (fun hH => ?_)
    refine takeH (i := 0) (dst := some 26) (v := ?v1001) rfl rfl (by kernel_rfl) (by kernel_rfl) (by kernel_rfl) (fun _ _ _ h => h) rfl ?hy1001 hH rfl ?rest1001
    case hy1001 => (intro W hW; have q0 := hW.s.c0; have q1 := hW.s.c1; have q2 := hW.s.c2; have q3 := hW.s.c3; have y0 := hW.q0; have y1 := hW.q1; have y2 := hW.q2; clear hW; go_simp; try with_reducible rfl)
    (try simp only [Act.put, List.setIfInBounds_toArray, List.set_cons_zero, List.set_cons_succ])
    refine takeH (i := 2) (dst := some 28) (v := ?v1002) rfl rfl (by kernel_rfl) (by kernel_rfl) (by kernel_rfl) (fun _ _ _ h => h) rfl ?hy1002 hH rfl ?rest1002
    case hy1002 => (intro W hW; have q0 := hW.s.c0; have q1 := hW.s.c1; have q2 := hW.s.c2; have q3 := hW.s.c3; have y0 := hW.q0; have y1 := hW.q1; have y2 := hW.q2; clear hW; go_simp; try with_reducible rfl)
    (try simp only [Act.put, List.setIfInBounds_toArray, List.set_cons_zero, List.set_cons_succ])
    refine callH2 (i := 1) (j := 8) { dst := some 27, op := Go.Op.call { callee := Go.Callee.value (Go.Operand.func 8), args := #[Go.Operand.tmp 26], argTypes := #[25] }, type := 30, pos := "law.go:76", after := #[{ on := 0, ground := Go.Ground.data }], guard := none } { dst := some 9, op := Go.Op.alloc 30, type := 0, pos := "law.go:76", after := #[], guard := none } (by kernel_rfl) rfl rfl rfl rfl (fun K hK => ?_) (fun K hK => ?_)
    · go_simp
      refine (GV _).mono ?_
      rintro e v1003 ⟨rfl, b1003⟩
      have d1003 := hH.up b1003
      clear hH
      refine hK.out _ _ d1003 (fun hH => ?_)
      clear hK K
      (try simp only [Act.put, List.setIfInBounds_toArray, List.set_cons_zero, List.set_cons_succ])
      refine callH2 (i := 3) (j := 8) { dst := some 29, op := Go.Op.call { callee := Go.Callee.value (Go.Operand.func 18), args := #[Go.Operand.tmp 27, Go.Operand.tmp 28], argTypes := #[30, 23] }, type := 42, pos := "law.go:76", after := #[{ on := 1, ground := Go.Ground.data }, { on := 2, ground := Go.Ground.data }, { on := 1, ground := Go.Ground.chain }], guard := none } { dst := some 9, op := Go.Op.alloc 30, type := 0, pos := "law.go:76", after := #[], guard := none } (by kernel_rfl) rfl rfl rfl rfl (fun K hK => ?_) (fun K hK => ?_)
      · go_simp
        refine (NX _).mono ?_
        rintro e v1004 ⟨rfl, b1004⟩
        have d1004 := hH.up b1004
        clear hH
        refine hK.out _ _ d1004 (fun hH => ?_)
        clear hK K
        (try simp only [Act.put, List.setIfInBounds_toArray, List.set_cons_zero, List.set_cons_succ])
        refine takeH (i := 4) (dst := some 25) (v := ?v1005) rfl rfl (by kernel_rfl) (by kernel_rfl) (by kernel_rfl) (fun _ _ _ h => h) rfl ?hy1005 hH rfl ?rest1005
        case hy1005 => (intro W hW; have q0 := hW.s.c0; have q1 := hW.s.c1; have q2 := hW.s.c2; have q3 := hW.s.c3; have y0 := hW.q0; have y1 := hW.q1; have y2 := hW.q2; clear hW; go_simp; try with_reducible rfl)
        (try simp only [Act.put, List.setIfInBounds_toArray, List.set_cons_zero, List.set_cons_succ])
        refine takeH (i := 5) (dst := some 30) (v := ?v1006) rfl rfl (by kernel_rfl) (by kernel_rfl) (by kernel_rfl) (fun _ _ _ h => h) rfl ?hy1006 hH rfl ?rest1006
        case hy1006 => (intro W hW; have q0 := hW.s.c0; have q1 := hW.s.c1; have q2 := hW.s.c2; have q3 := hW.s.c3; have y0 := hW.q0; have y1 := hW.q1; have y2 := hW.q2; clear hW; go_simp; try with_reducible rfl)
        (try simp only [Act.put, List.setIfInBounds_toArray, List.set_cons_zero, List.set_cons_succ])
        refine takeH (i := 6) (dst := some 31) (v := ?v1007) rfl rfl (by kernel_rfl) (by kernel_rfl) (by kernel_rfl) (fun _ _ _ h => h) rfl ?hy1007 hH rfl ?rest1007
        case hy1007 => (intro W hW; have q0 := hW.s.c0; have q1 := hW.s.c1; have q2 := hW.s.c2; have q3 := hW.s.c3; have y0 := hW.q0; have y1 := hW.q1; have y2 := hW.q2; clear hW; go_simp; try with_reducible rfl)
        (try simp only [Act.put, List.setIfInBounds_toArray, List.set_cons_zero, List.set_cons_succ])
        refine takeH (i := 7) (dst := some 32) (v := ?v1008) rfl rfl (by kernel_rfl) (by kernel_rfl) (by kernel_rfl) (fun _ _ _ h => h) rfl ?hy1008 hH rfl ?rest1008
        case hy1008 => (intro W hW; have q0 := hW.s.c0; have q1 := hW.s.c1; have q2 := hW.s.c2; have q3 := hW.s.c3; have y0 := hW.q0; have y1 := hW.q1; have y2 := hW.q2; clear hW; go_simp; try with_reducible rfl)
        (try simp only [Act.put, List.setIfInBounds_toArray, List.set_cons_zero, List.set_cons_succ])
        refine callH (i := 8) { dst := some 9, op := Go.Op.alloc 30, type := 0, pos := "law.go:76", after := #[], guard := none } (by kernel_rfl) rfl rfl (fun K hK => ?_)
        go_simp
        have al1009 : Below v1004.heap.size v1004 (v1004.alloc (.cells #[.int .i64 0, .int .i64 0, .int .i64 0, .int .i64 0] 30)) := (Below.refl _ _).alloc (Nat.le_refl _) _
        have hPL := hH.lt
        have d1009 := hH.up al1009
        have row1009 : Row4 (v1004.alloc (.cells #[.int .i64 0, .int .i64 0, .int .i64 0, .int .i64 0] 30)) v1004.heap.size 30 0 0 0 0 := heap_alloc_new _ _
        clear al1009
        obtain ⟨nw1009, hnw1009⟩ : ∃ nw, Hid (nw = v1004.alloc (.cells #[.int .i64 0, .int .i64 0, .int .i64 0, .int .i64 0] 30)) := ⟨_, rfl⟩
        rw [← hnw1009.out] at d1009 row1009 ⊢
        clear hH
        refine hK.out _ _ d1009 (fun hH => ?_)
        clear hK K
        (try simp only [Act.put, List.setIfInBounds_toArray, List.set_cons_zero, List.set_cons_succ])
        have r0 := row1009.c0
        have r1 := row1009.c1
        have r2 := row1009.c2
        have r3 := row1009.c3
        have f0 := row1009.fr 0
        have f1 := row1009.fr 1
        have f2 := row1009.fr 2
        have f3 := row1009.fr 3
        have hPl := hPL
        have dS := hH.set4 hPl (.int .i64 0) (.int .i64 0) (.int .i64 0) (.int .i64 0)
        have dR := row1009.set 0 0 0 0
        refine callH (i := 9) { dst := none, op := Go.Op.store 30 (Go.Operand.tmp 9) (Go.Operand.tmp 30), type := 0, pos := "law.go:76", after := #[{ on := 8, ground := Go.Ground.data }, { on := 5, ground := Go.Ground.data }, { on := 3, ground := Go.Ground.chain }, { on := 0, ground := Go.Ground.phase }, { on := 1, ground := Go.Ground.phase }, { on := 2, ground := Go.Ground.phase }, { on := 3, ground := Go.Ground.phase }, { on := 4, ground := Go.Ground.phase }, { on := 5, ground := Go.Ground.phase }, { on := 6, ground := Go.Ground.textOnly Go.Departure.lateStores }, { on := 7, ground := Go.Ground.textOnly Go.Departure.lateStores }, { on := 8, ground := Go.Ground.phase }], guard := none } (by kernel_rfl) rfl rfl (fun K hK => ?_)
        go_simp
        clear hH
        refine hK.out _ _ dS (fun hH => ?_)
        clear hK K
        (try simp only [Act.put, List.setIfInBounds_toArray, List.set_cons_zero, List.set_cons_succ])
        refine takeH (i := 10) (dst := some 10) (v := ?v1010) rfl rfl (by kernel_rfl) (by kernel_rfl) (by kernel_rfl) (fun _ _ _ h => h) rfl ?hy1010 hH rfl ?rest1010
        case hy1010 => (intro W hW; have q0 := hW.s.c0; have q1 := hW.s.c1; have q2 := hW.s.c2; have q3 := hW.s.c3; have y0 := hW.q0; have y1 := hW.q1; have y2 := hW.q2; clear hW; go_simp; try with_reducible rfl)
        (try simp only [Act.put, List.setIfInBounds_toArray, List.set_cons_zero, List.set_cons_succ])
        refine takeH (i := 11) (dst := some 11) (v := ?v1011) rfl rfl (by kernel_rfl) (by kernel_rfl) (by kernel_rfl) (fun _ _ _ h => h) rfl ?hy1011 hH rfl ?rest1011
        case hy1011 => (intro W hW; have q0 := hW.s.c0; have q1 := hW.s.c1; have q2 := hW.s.c2; have q3 := hW.s.c3; have y0 := hW.q0; have y1 := hW.q1; have y2 := hW.q2; clear hW; go_simp; try with_reducible rfl)
        (try simp only [Act.put, List.setIfInBounds_toArray, List.set_cons_zero, List.set_cons_succ])
        refine wpAnyH_done (by kernel_rfl) ?_ _
        go_wp2_with fail
        go_meet
        case rel => exact ⟨_, rfl, rfl, rfl, dS⟩
      · go_simp
        have al1012 : Below v1003.heap.size v1003 (v1003.alloc (.cells #[.int .i64 0, .int .i64 0, .int .i64 0, .int .i64 0] 30)) := (Below.refl _ _).alloc (Nat.le_refl _) _
        have hPL := hH.lt
        have d1012 := hH.up al1012
        have row1012 : Row4 (v1003.alloc (.cells #[.int .i64 0, .int .i64 0, .int .i64 0, .int .i64 0] 30)) v1003.heap.size 30 0 0 0 0 := heap_alloc_new _ _
        clear al1012
        obtain ⟨nw1012, hnw1012⟩ : ∃ nw, Hid (nw = v1003.alloc (.cells #[.int .i64 0, .int .i64 0, .int .i64 0, .int .i64 0] 30)) := ⟨_, rfl⟩
        rw [← hnw1012.out] at d1012 row1012 ⊢
        clear hH
        refine hK.out _ _ d1012 (fun hH => ?_)
        clear hK K
        (try simp only [Act.put, List.setIfInBounds_toArray, List.set_cons_zero, List.set_cons_succ])
        refine callH (i := 3) { dst := some 29, op := Go.Op.call { callee := Go.Callee.value (Go.Operand.func 18), args := #[Go.Operand.tmp 27, Go.Operand.tmp 28], argTypes := #[30, 23] }, type := 42, pos := "law.go:76", after := #[{ on := 1, ground := Go.Ground.data }, { on := 2, ground := Go.Ground.data }, { on := 1, ground := Go.Ground.chain }], guard := none } (by kernel_rfl) rfl rfl (fun K hK => ?_)
        go_simp
        refine (NX _).mono ?_
        rintro e v1013 ⟨rfl, b1013⟩
        have d1013 := hH.up b1013
        have row1013 := row1012.up b1013
        clear hH
        refine hK.out _ _ d1013 (fun hH => ?_)
        clear hK K
        (try simp only [Act.put, List.setIfInBounds_toArray, List.set_cons_zero, List.set_cons_succ])
        refine takeH (i := 4) (dst := some 25) (v := ?v1014) rfl rfl (by kernel_rfl) (by kernel_rfl) (by kernel_rfl) (fun _ _ _ h => h) rfl ?hy1014 hH rfl ?rest1014
        case hy1014 => (intro W hW; have q0 := hW.s.c0; have q1 := hW.s.c1; have q2 := hW.s.c2; have q3 := hW.s.c3; have y0 := hW.q0; have y1 := hW.q1; have y2 := hW.q2; clear hW; go_simp; try with_reducible rfl)
        (try simp only [Act.put, List.setIfInBounds_toArray, List.set_cons_zero, List.set_cons_succ])
        refine takeH (i := 5) (dst := some 30) (v := ?v1015) rfl rfl (by kernel_rfl) (by kernel_rfl) (by kernel_rfl) (fun _ _ _ h => h) rfl ?hy1015 hH rfl ?rest1015
        case hy1015 => (intro W hW; have q0 := hW.s.c0; have q1 := hW.s.c1; have q2 := hW.s.c2; have q3 := hW.s.c3; have y0 := hW.q0; have y1 := hW.q1; have y2 := hW.q2; clear hW; go_simp; try with_reducible rfl)
        (try simp only [Act.put, List.setIfInBounds_toArray, List.set_cons_zero, List.set_cons_succ])
        refine takeH (i := 6) (dst := some 31) (v := ?v1016) rfl rfl (by kernel_rfl) (by kernel_rfl) (by kernel_rfl) (fun _ _ _ h => h) rfl ?hy1016 hH rfl ?rest1016
        case hy1016 => (intro W hW; have q0 := hW.s.c0; have q1 := hW.s.c1; have q2 := hW.s.c2; have q3 := hW.s.c3; have y0 := hW.q0; have y1 := hW.q1; have y2 := hW.q2; clear hW; go_simp; try with_reducible rfl)
        (try simp only [Act.put, List.setIfInBounds_toArray, List.set_cons_zero, List.set_cons_succ])
        refine takeH (i := 7) (dst := some 32) (v := ?v1017) rfl rfl (by kernel_rfl) (by kernel_rfl) (by kernel_rfl) (fun _ _ _ h => h) rfl ?hy1017 hH rfl ?rest1017
        case hy1017 => (intro W hW; have q0 := hW.s.c0; have q1 := hW.s.c1; have q2 := hW.s.c2; have q3 := hW.s.c3; have y0 := hW.q0; have y1 := hW.q1; have y2 := hW.q2; clear hW; go_simp; try with_reducible rfl)
        (try simp only [Act.put, List.setIfInBounds_toArray, List.set_cons_zero, List.set_cons_succ])
        have r0 := row1013.c0
        have r1 := row1013.c1
        have r2 := row1013.c2
        have r3 := row1013.c3
        have f0 := row1013.fr 0
        have f1 := row1013.fr 1
        have f2 := row1013.fr 2
        have f3 := row1013.fr 3
        have hPl := hPL
        have dS := hH.set4 hPl (.int .i64 0) (.int .i64 0) (.int .i64 0) (.int .i64 0)
        have dR := row1013.set 0 0 0 0
        refine callH (i := 9) { dst := none, op := Go.Op.store 30 (Go.Operand.tmp 9) (Go.Operand.tmp 30), type := 0, pos := "law.go:76", after := #[{ on := 8, ground := Go.Ground.data }, { on := 5, ground := Go.Ground.data }, { on := 3, ground := Go.Ground.chain }, { on := 0, ground := Go.Ground.phase }, { on := 1, ground := Go.Ground.phase }, { on := 2, ground := Go.Ground.phase }, { on := 3, ground := Go.Ground.phase }, { on := 4, ground := Go.Ground.phase }, { on := 5, ground := Go.Ground.phase }, { on := 6, ground := Go.Ground.textOnly Go.Departure.lateStores }, { on := 7, ground := Go.Ground.textOnly Go.Departure.lateStores }, { on := 8, ground := Go.Ground.phase }], guard := none } (by kernel_rfl) rfl rfl (fun K hK => ?_)
        go_simp
        clear hH
        refine hK.out _ _ dS (fun hH => ?_)
        clear hK K
        (try simp only [Act.put, List.setIfInBounds_toArray, List.set_cons_zero, List.set_cons_succ])
        refine takeH (i := 10) (dst := some 10) (v := ?v1018) rfl rfl (by kernel_rfl) (by kernel_rfl) (by kernel_rfl) (fun _ _ _ h => h) rfl ?hy1018 hH rfl ?rest1018
        case hy1018 => (intro W hW; have q0 := hW.s.c0; have q1 := hW.s.c1; have q2 := hW.s.c2; have q3 := hW.s.c3; have y0 := hW.q0; have y1 := hW.q1; have y2 := hW.q2; clear hW; go_simp; try with_reducible rfl)
        (try simp only [Act.put, List.setIfInBounds_toArray, List.set_cons_zero, List.set_cons_succ])
        refine takeH (i := 11) (dst := some 11) (v := ?v1019) rfl rfl (by kernel_rfl) (by kernel_rfl) (by kernel_rfl) (fun _ _ _ h => h) rfl ?hy1019 hH rfl ?rest1019
        case hy1019 => (intro W hW; have q0 := hW.s.c0; have q1 := hW.s.c1; have q2 := hW.s.c2; have q3 := hW.s.c3; have y0 := hW.q0; have y1 := hW.q1; have y2 := hW.q2; clear hW; go_simp; try with_reducible rfl)
        (try simp only [Act.put, List.setIfInBounds_toArray, List.set_cons_zero, List.set_cons_succ])
        refine wpAnyH_done (by kernel_rfl) ?_ _
        go_wp2_with fail
        go_meet
        case rel => exact ⟨_, rfl, rfl, rfl, dS⟩
    · go_simp
      have al1020 : Below ((w.alloc (.cells #[.int .i64 g, .int .i64 a, .int .i64 i, .int .i64 n] 25)).alloc (.cells #[.int .i64 x, .int .i64 y, .int .i64 z] 23)).drew.heap.size ((w.alloc (.cells #[.int .i64 g, .int .i64 a, .int .i64 i, .int .i64 n] 25)).alloc (.cells #[.int .i64 x, .int .i64 y, .int .i64 z] 23)).drew (((w.alloc (.cells #[.int .i64 g, .int .i64 a, .int .i64 i, .int .i64 n] 25)).alloc (.cells #[.int .i64 x, .int .i64 y, .int .i64 z] 23)).drew.alloc (.cells #[.int .i64 0, .int .i64 0, .int .i64 0, .int .i64 0] 30)) := (Below.refl _ _).alloc (Nat.le_refl _) _
      have hPL := hH.lt
      have d1020 := hH.up al1020
      have row1020 : Row4 (((w.alloc (.cells #[.int .i64 g, .int .i64 a, .int .i64 i, .int .i64 n] 25)).alloc (.cells #[.int .i64 x, .int .i64 y, .int .i64 z] 23)).drew.alloc (.cells #[.int .i64 0, .int .i64 0, .int .i64 0, .int .i64 0] 30)) (w.heap.size + 1 + 1) 30 0 0 0 0 := by have h9 := heap_alloc_new ((w.alloc (.cells #[.int .i64 g, .int .i64 a, .int .i64 i, .int .i64 n] 25)).alloc (.cells #[.int .i64 x, .int .i64 y, .int .i64 z] 23)).drew (.cells #[.int .i64 0, .int .i64 0, .int .i64 0, .int .i64 0] 30); rw [hsz0] at h9; exact h9
      rw [hsz0] at hPL
      clear hH
      refine hK.out _ _ d1020 (fun hH => ?_)
      clear hK K
      (try simp only [Act.put, List.setIfInBounds_toArray, List.set_cons_zero, List.set_cons_succ])
      refine callH (i := 1) { dst := some 27, op := Go.Op.call { callee := Go.Callee.value (Go.Operand.func 8), args := #[Go.Operand.tmp 26], argTypes := #[25] }, type := 30, pos := "law.go:76", after := #[{ on := 0, ground := Go.Ground.data }], guard := none } (by kernel_rfl) rfl rfl (fun K hK => ?_)
      go_simp
      refine (GV _).mono ?_
      rintro e v1021 ⟨rfl, b1021⟩
      have d1021 := hH.up b1021
      have row1021 := row1020.up b1021
      clear hH
      refine hK.out _ _ d1021 (fun hH => ?_)
      clear hK K
      (try simp only [Act.put, List.setIfInBounds_toArray, List.set_cons_zero, List.set_cons_succ])
      refine callH (i := 3) { dst := some 29, op := Go.Op.call { callee := Go.Callee.value (Go.Operand.func 18), args := #[Go.Operand.tmp 27, Go.Operand.tmp 28], argTypes := #[30, 23] }, type := 42, pos := "law.go:76", after := #[{ on := 1, ground := Go.Ground.data }, { on := 2, ground := Go.Ground.data }, { on := 1, ground := Go.Ground.chain }], guard := none } (by kernel_rfl) rfl rfl (fun K hK => ?_)
      go_simp
      refine (NX _).mono ?_
      rintro e v1022 ⟨rfl, b1022⟩
      have d1022 := hH.up b1022
      have row1022 := row1021.up b1022
      clear hH
      refine hK.out _ _ d1022 (fun hH => ?_)
      clear hK K
      (try simp only [Act.put, List.setIfInBounds_toArray, List.set_cons_zero, List.set_cons_succ])
      refine takeH (i := 4) (dst := some 25) (v := ?v1023) rfl rfl (by kernel_rfl) (by kernel_rfl) (by kernel_rfl) (fun _ _ _ h => h) rfl ?hy1023 hH rfl ?rest1023
      case hy1023 => (intro W hW; have q0 := hW.s.c0; have q1 := hW.s.c1; have q2 := hW.s.c2; have q3 := hW.s.c3; have y0 := hW.q0; have y1 := hW.q1; have y2 := hW.q2; clear hW; go_simp; try with_reducible rfl)
      (try simp only [Act.put, List.setIfInBounds_toArray, List.set_cons_zero, List.set_cons_succ])
      refine takeH (i := 5) (dst := some 30) (v := ?v1024) rfl rfl (by kernel_rfl) (by kernel_rfl) (by kernel_rfl) (fun _ _ _ h => h) rfl ?hy1024 hH rfl ?rest1024
      case hy1024 => (intro W hW; have q0 := hW.s.c0; have q1 := hW.s.c1; have q2 := hW.s.c2; have q3 := hW.s.c3; have y0 := hW.q0; have y1 := hW.q1; have y2 := hW.q2; clear hW; go_simp; try with_reducible rfl)
      (try simp only [Act.put, List.setIfInBounds_toArray, List.set_cons_zero, List.set_cons_succ])
      refine takeH (i := 6) (dst := some 31) (v := ?v1025) rfl rfl (by kernel_rfl) (by kernel_rfl) (by kernel_rfl) (fun _ _ _ h => h) rfl ?hy1025 hH rfl ?rest1025
      case hy1025 => (intro W hW; have q0 := hW.s.c0; have q1 := hW.s.c1; have q2 := hW.s.c2; have q3 := hW.s.c3; have y0 := hW.q0; have y1 := hW.q1; have y2 := hW.q2; clear hW; go_simp; try with_reducible rfl)
      (try simp only [Act.put, List.setIfInBounds_toArray, List.set_cons_zero, List.set_cons_succ])
      refine takeH (i := 7) (dst := some 32) (v := ?v1026) rfl rfl (by kernel_rfl) (by kernel_rfl) (by kernel_rfl) (fun _ _ _ h => h) rfl ?hy1026 hH rfl ?rest1026
      case hy1026 => (intro W hW; have q0 := hW.s.c0; have q1 := hW.s.c1; have q2 := hW.s.c2; have q3 := hW.s.c3; have y0 := hW.q0; have y1 := hW.q1; have y2 := hW.q2; clear hW; go_simp; try with_reducible rfl)
      (try simp only [Act.put, List.setIfInBounds_toArray, List.set_cons_zero, List.set_cons_succ])
      have r0 := row1022.c0
      have r1 := row1022.c1
      have r2 := row1022.c2
      have r3 := row1022.c3
      have f0 := row1022.fr 0
      have f1 := row1022.fr 1
      have f2 := row1022.fr 2
      have f3 := row1022.fr 3
      have hPl := hPL
      have dS := hH.set4 hPl (.int .i64 0) (.int .i64 0) (.int .i64 0) (.int .i64 0)
      have dR := row1022.set 0 0 0 0
      refine callH (i := 9) { dst := none, op := Go.Op.store 30 (Go.Operand.tmp 9) (Go.Operand.tmp 30), type := 0, pos := "law.go:76", after := #[{ on := 8, ground := Go.Ground.data }, { on := 5, ground := Go.Ground.data }, { on := 3, ground := Go.Ground.chain }, { on := 0, ground := Go.Ground.phase }, { on := 1, ground := Go.Ground.phase }, { on := 2, ground := Go.Ground.phase }, { on := 3, ground := Go.Ground.phase }, { on := 4, ground := Go.Ground.phase }, { on := 5, ground := Go.Ground.phase }, { on := 6, ground := Go.Ground.textOnly Go.Departure.lateStores }, { on := 7, ground := Go.Ground.textOnly Go.Departure.lateStores }, { on := 8, ground := Go.Ground.phase }], guard := none } (by kernel_rfl) rfl rfl (fun K hK => ?_)
      go_simp
      clear hH
      refine hK.out _ _ dS (fun hH => ?_)
      clear hK K
      (try simp only [Act.put, List.setIfInBounds_toArray, List.set_cons_zero, List.set_cons_succ])
      refine takeH (i := 10) (dst := some 10) (v := ?v1027) rfl rfl (by kernel_rfl) (by kernel_rfl) (by kernel_rfl) (fun _ _ _ h => h) rfl ?hy1027 hH rfl ?rest1027
      case hy1027 => (intro W hW; have q0 := hW.s.c0; have q1 := hW.s.c1; have q2 := hW.s.c2; have q3 := hW.s.c3; have y0 := hW.q0; have y1 := hW.q1; have y2 := hW.q2; clear hW; go_simp; try with_reducible rfl)
      (try simp only [Act.put, List.setIfInBounds_toArray, List.set_cons_zero, List.set_cons_succ])
      refine takeH (i := 11) (dst := some 11) (v := ?v1028) rfl rfl (by kernel_rfl) (by kernel_rfl) (by kernel_rfl) (fun _ _ _ h => h) rfl ?hy1028 hH rfl ?rest1028
      case hy1028 => (intro W hW; have q0 := hW.s.c0; have q1 := hW.s.c1; have q2 := hW.s.c2; have q3 := hW.s.c3; have y0 := hW.q0; have y1 := hW.q1; have y2 := hW.q2; clear hW; go_simp; try with_reducible rfl)
      (try simp only [Act.put, List.setIfInBounds_toArray, List.set_cons_zero, List.set_cons_succ])
      refine wpAnyH_done (by kernel_rfl) ?_ _
      go_wp2_with fail
      go_meet
      case rel => exact ⟨_, rfl, rfl, rfl, dS⟩
  case rest =>
    obtain ⟨P, rfl, rfl, rfl, hT⟩ := hcut
    have KN := sknown_any wc (ht.below hT.b hw0)
    have HB : Hid _ := hT.b
    clear hT hd NX GV
    go_wp2_with fail
    refine KN.mono ?_
    rintro e w4 ⟨rfl, hb4⟩
    go_wp2
    go_ret
    exact ⟨rfl, HB.out.trans (hb4.mono HB.out.size)⟩
end Go.Proofs.YtjdfkbpadhndlaaDoor
