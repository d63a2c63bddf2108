/- super.Next. -/
import Derived.Test.YtjdfkbpadhndlaaDoorChoose
namespace Go.Proofs.YtjdfkbpadhndlaaDoor
open Go.RowKit
structure Nx (w0 : World) (g a i n h x y z : Int) (w : World) : Prop where
  s : Row4 w w0.heap.size 30 g a i n
  r : ∃ y0 y1 y2 y3, Row4 w (w0.heap.size + 1 + 1) 30 y0 y1 y2 y3
  x' : Row4 w (w0.heap.size + 1 + 1 + 1) 30 h x y z
  b : Below w0.heap.size w0 w
theorem Nx.up {w0 w w' : World} {g a i n h x y z : Int} (hN : Nx w0 g a i n h x y z w) (hb : Below w.heap.size w w') : Nx w0 g a i n h x y z w' := by
  obtain ⟨y0, y1, y2, y3, hr⟩ := hN.r
  exact ⟨hN.s.up hb, ⟨y0, y1, y2, y3, hr.up hb⟩, hN.x'.up hb, hN.b.trans (hb.mono hN.b.size)⟩
theorem below_alloc {w0 w : World} {B : Nat} (h : Below B w0 w) (hB : B ≤ w0.heap.size) (o : Obj) : Below B w0 (w.alloc o) := h.alloc (by have := h.size; omega) o
theorem four (w : World) (A B C E : Obj) : ((((w.alloc A).alloc B).alloc C).alloc E).heap[w.heap.size]? = some A ∧ ((((w.alloc A).alloc B).alloc C).alloc E).heap[w.heap.size + 1 + 1]? = some C ∧ ((((w.alloc A).alloc B).alloc C).alloc E).heap[w.heap.size + 1 + 1 + 1]? = some E := by
  have s1 : ∀ (v : World) (o : Obj), (v.alloc o).heap.size = v.heap.size + 1 := fun v o => by show (v.heap.push o).size = _; simp
  refine ⟨?_, ?_, ?_⟩
  · exact (heap_alloc_old _ _ (by rw [s1, s1, s1]; omega)).trans ((heap_alloc_old _ _ (by rw [s1, s1]; omega)).trans ((heap_alloc_old _ _ (by rw [s1]; omega)).trans (heap_alloc_new _ _)))
  · have h := heap_alloc_new ((w.alloc A).alloc B) C
    rw [s1, s1] at h
    exact (heap_alloc_old _ _ (by rw [s1, s1, s1]; omega)).trans h
  · have h := heap_alloc_new (((w.alloc A).alloc B).alloc C) E
    rw [s1, s1, s1] at h
    exact h
theorem nx0 (g a i n h x y z : Int) (w : World) : Nx w g a i n h x y z ((((w.alloc (.cells #[.int .i64 g, .int .i64 a, .int .i64 i, .int .i64 n] 30)).alloc (.cells #[.int .i64 x, .int .i64 y, .int .i64 z] 23)).alloc (.cells #[.int .i64 0, .int .i64 0, .int .i64 0, .int .i64 0] 30)).alloc (.cells #[.int .i64 h, .int .i64 x, .int .i64 y, .int .i64 z] 30)) := by
  refine ⟨?_, ⟨0, 0, 0, 0, ?_⟩, ?_, below_alloc (below_alloc (below_alloc (below_alloc (Below.refl _ _) (Nat.le_refl _) _) (Nat.le_refl _) _) (Nat.le_refl _) _) (Nat.le_refl _) _⟩
  · exact (four _ _ _ _ _).1
  · exact (four _ _ _ _ _).2.1
  · exact (four _ _ _ _ _).2.2
set_option maxHeartbeats 2000000 in
theorem next_no (g a i n x y z : Int) (w : World) (hg : -9223372036854775808 ≤ g ∧ g ≤ 9223372036854775807) (h1 : okS g a i n = false) :
    Calls Tryd.prog 18 #[.agg #[.int .i64 g, .int .i64 a, .int .i64 i, .int .i64 n], .agg #[.int .i64 x, .int .i64 y, .int .i64 z]] w fun e w' => e = .returned (.tuple #[.agg #[.int .i64 0, .int .i64 0, .int .i64 0, .int .i64 0], .int .i64 0, .int .i64 1]) ∧ Below w.heap.size w w' := by
  have RT := sright_any g a i n
  rw [h1] at RT
  by_cases hgm : g = 9223372036854775807
  · subst hgm
    have N0 : Hid _ := nx0 9223372036854775807 a i n (wrap64 9223372036854775808) x y z w
    go_enter Tryd.func18, Tryd.ntmps18
    go_wp2_with fail
    refine (RT _).mono ?_
    rintro e w2 ⟨rfl, hb2⟩
    have N2 : Hid (Nx w 9223372036854775807 a i n (wrap64 9223372036854775808) x y z w2) := N0.out.up hb2
    obtain ⟨y0, y1, y2, y3, hr⟩ := N2.out.r
    have r0 := hr.c0
    have r1 := hr.c1
    have r2 := hr.c2
    have r3 := hr.c3
    have f0 := hr.fr 0
    have f1 := hr.fr 1
    have f2 := hr.fr 2
    have f3 := hr.fr 3
    have HRR : Hid _ := hr.set 0 0 0 0
    have HBB : Hid _ := below_set4 N2.out.b (show w.heap.size ≤ w.heap.size + 1 + 1 by omega) (.int .i64 0) (.int .i64 0) (.int .i64 0) (.int .i64 0)
    clear hr
    go_wp2
    refine bodyPost_ret (results_sup3 rfl _ _ (w.heap.size + 1 + 1) 0 0 0 0 rfl HRR.out) rfl ?_
    exact ⟨rfl, HBB.out⟩
  have N0 : Hid _ := nx0 g a i n (g + 1) x y z w
  go_enter Tryd.func18, Tryd.ntmps18
  go_wp2_with fail
  refine (RT _).mono ?_
  rintro e w2 ⟨rfl, hb2⟩
  have N2 : Hid (Nx w g a i n (g + 1) x y z w2) := N0.out.up hb2
  obtain ⟨y0, y1, y2, y3, hr⟩ := N2.out.r
  have r0 := hr.c0
  have r1 := hr.c1
  have r2 := hr.c2
  have r3 := hr.c3
  have f0 := hr.fr 0
  have f1 := hr.fr 1
  have f2 := hr.fr 2
  have f3 := hr.fr 3
  have HRR : Hid _ := hr.set 0 0 0 0
  have HBB : Hid _ := below_set4 N2.out.b (show w.heap.size ≤ w.heap.size + 1 + 1 by omega) (.int .i64 0) (.int .i64 0) (.int .i64 0) (.int .i64 0)
  clear hr
  go_wp2
  refine bodyPost_ret (results_sup3 rfl _ _ (w.heap.size + 1 + 1) 0 0 0 0 rfl HRR.out) rfl ?_
  exact ⟨rfl, HBB.out⟩
set_option maxHeartbeats 2000000 in
theorem next_nog (g a i n x y z : Int) (w : World) (h1 : okS g a i n = true) (h2 : okS (g + 1) x y z = false) :
    Calls Tryd.prog 18 #[.agg #[.int .i64 g, .int .i64 a, .int .i64 i, .int .i64 n], .agg #[.int .i64 x, .int .i64 y, .int .i64 z]] w fun e w' => e = .returned (.tuple #[.agg #[.int .i64 0, .int .i64 0, .int .i64 0, .int .i64 0], .int .i64 0, .int .i64 1]) ∧ Below w.heap.size w w' := by
  have RT := sright_any g a i n
  rw [h1] at RT
  have R2 := sright_any (g + 1) x y z
  rw [h2] at R2
  obtain ⟨q1, q2, _⟩ := okS_iff.1 h1
  have N0 : Hid _ := nx0 g a i n (g + 1) x y z w
  go_enter Tryd.func18, Tryd.ntmps18
  go_wp2_with fail
  refine (RT _).mono ?_
  rintro e w1 ⟨rfl, hb1⟩
  have N1 : Hid (Nx w g a i n (g + 1) x y z w1) := N0.out.up hb1
  have x0 := N1.out.x'.c0
  have x1 := N1.out.x'.c1
  have x2 := N1.out.x'.c2
  have x3 := N1.out.x'.c3
  go_wp2_with fail
  refine (R2 _).mono ?_
  rintro e w2 ⟨rfl, hb2⟩
  have N2 : Hid (Nx w g a i n (g + 1) x y z w2) := N1.out.up hb2
  clear x0 x1 x2 x3
  obtain ⟨y0, y1, y2, y3, hr⟩ := N2.out.r
  have r0 := hr.c0
  have r1 := hr.c1
  have r2 := hr.c2
  have r3 := hr.c3
  have f0 := hr.fr 0
  have f1 := hr.fr 1
  have f2 := hr.fr 2
  have f3 := hr.fr 3
  have HRR : Hid _ := hr.set 0 0 0 0
  have HBB : Hid _ := below_set4 N2.out.b (show w.heap.size ≤ w.heap.size + 1 + 1 by omega) (.int .i64 0) (.int .i64 0) (.int .i64 0) (.int .i64 0)
  clear hr
  go_wp2
  refine bodyPost_ret (results_sup3 rfl _ _ (w.heap.size + 1 + 1) 0 0 0 0 rfl HRR.out) rfl ?_
  exact ⟨rfl, HBB.out⟩
set_option maxHeartbeats 2000000 in
theorem next_ok (g a i n x y z : Int) (w : World) (h1 : okS g a i n = true) (h2 : okS (g + 1) x y z = true) :
    Calls Tryd.prog 18 #[.agg #[.int .i64 g, .int .i64 a, .int .i64 i, .int .i64 n], .agg #[.int .i64 x, .int .i64 y, .int .i64 z]] w fun e w' => e = .returned (.tuple #[.agg #[.int .i64 (g + 1), .int .i64 x, .int .i64 y, .int .i64 z], .int .i64 ((g + 1) % 2), .int .i64 0]) ∧ Below w.heap.size w w' := by
  have RT := sright_any g a i n
  rw [h1] at RT
  have R2 := sright_any (g + 1) x y z
  rw [h2] at R2
  obtain ⟨q1, q2, _⟩ := okS_iff.1 h1
  have PL := fun W => splace_any (g + 1) x y z W (by omega)
  have N0 : Hid _ := nx0 g a i n (g + 1) x y z w
  go_enter Tryd.func18, Tryd.ntmps18
  go_wp2_with fail
  refine (RT _).mono ?_
  rintro e w1 ⟨rfl, hb1⟩
  have N1 : Hid (Nx w g a i n (g + 1) x y z w1) := N0.out.up hb1
  have x0 := N1.out.x'.c0
  have x1 := N1.out.x'.c1
  have x2 := N1.out.x'.c2
  have x3 := N1.out.x'.c3
  go_wp2_with fail
  refine (R2 _).mono ?_
  rintro e w2 ⟨rfl, hb2⟩
  have hd : Nx w g a i n (g + 1) x y z w2.drew := (N1.out.up hb2).up (Below.refl _ _).drew
  clear x0 x1 x2 x3
  go_wp2_with fail
  refine wp_region_held_drew (S := (fun w' => Nx w g a i n (g + 1) x y z w')) (by kernel_rfl) hd (fun hH => ?_)
  refine takeH (i := 0) (dst := some 22) (v := ?v1) rfl rfl (by kernel_rfl) (by kernel_rfl) (by kernel_rfl) (fun _ _ _ h => h) rfl ?hy1 hH rfl ?rest1
  case hy1 => (intro W hW; have q0 := hW.x'.c0; have q1' := hW.x'.c1; have q2' := hW.x'.c2; have q3 := hW.x'.c3; clear hW; go_simp; try with_reducible rfl)
  (try simp only [Act.put, List.setIfInBounds_toArray, List.set_cons_zero, List.set_cons_succ])
  refine takeH (i := 1) (dst := some 23) (v := ?v2) rfl rfl (by kernel_rfl) (by kernel_rfl) (by kernel_rfl) (fun _ _ _ h => h) rfl ?hy2 hH rfl ?rest2
  case hy2 => (intro W hW; have q0 := hW.x'.c0; have q1' := hW.x'.c1; have q2' := hW.x'.c2; have q3 := hW.x'.c3; clear hW; go_simp; try with_reducible rfl)
  (try simp only [Act.put, List.setIfInBounds_toArray, List.set_cons_zero, List.set_cons_succ])
  refine callH (i := 2) { dst := some 24, op := Go.Op.call { callee := Go.Callee.value (Go.Operand.func 32), args := #[Go.Operand.tmp 23], argTypes := #[30] }, type := 3, pos := "super.go:114", after := #[{ on := 1, ground := Go.Ground.data }], guard := none } (by kernel_rfl) rfl rfl (fun K hK => ?_)
  go_simp
  refine (PL _).mono ?_
  rintro e v1 ⟨rfl, b1⟩
  have d1 := hH.up b1
  clear hH
  refine hK.out _ _ d1 (fun hH => ?_)
  clear hK K
  (try simp only [Act.put, List.setIfInBounds_toArray, List.set_cons_zero, List.set_cons_succ])
  obtain ⟨ds, ⟨y0, y1, y2, y3, dr⟩, dx, db⟩ := d1
  have r0 := dr.c0
  have r1 := dr.c1
  have r2 := dr.c2
  have r3 := dr.c3
  have f0 := dr.fr 0
  have f1 := dr.fr 1
  have f2 := dr.fr 2
  have f3 := dr.fr 3
  have dR := dr.set (g + 1) x y z
  have dB := below_set4 db (show w.heap.size ≤ w.heap.size + 1 + 1 by omega) (.int .i64 (g + 1)) (.int .i64 x) (.int .i64 y) (.int .i64 z)
  have dS : Nx w g a i n (g + 1) x y z _ := ⟨ds.other (show w.heap.size ≠ w.heap.size + 1 + 1 by omega) (.int .i64 (g + 1)) (.int .i64 x) (.int .i64 y) (.int .i64 z), ⟨_, _, _, _, dR⟩, dx.other (by omega) _ _ _ _, dB⟩
  clear dr dx ds
  refine callH (i := 3) { dst := none, op := Go.Op.store 30 (Go.Operand.tmp 4) (Go.Operand.tmp 22), type := 0, pos := "super.go:114", after := #[{ on := 0, ground := Go.Ground.data }, { on := 2, ground := Go.Ground.chain }, { on := 0, ground := Go.Ground.phase }, { on := 1, ground := Go.Ground.textOnly Go.Departure.lateStores }, { on := 2, ground := Go.Ground.textOnly Go.Departure.lateStoresUnsure }], guard := none } (by kernel_rfl) rfl rfl (fun K hK => ?_)
  go_simp
  clear hH
  refine hK.out _ _ dS (fun hH => ?_)
  clear hK K
  (try simp only [Act.put, List.setIfInBounds_toArray, List.set_cons_zero, List.set_cons_succ])
  refine takeH (i := 4) (dst := some 5) (v := ?v3) rfl rfl (by kernel_rfl) (by kernel_rfl) (by kernel_rfl) (fun _ _ _ h => h) rfl ?hy3 hH rfl ?rest3
  case hy3 => (intro W hW; have q0 := hW.x'.c0; have q1' := hW.x'.c1; have q2' := hW.x'.c2; have q3 := hW.x'.c3; clear hW; go_simp; try with_reducible rfl)
  (try simp only [Act.put, List.setIfInBounds_toArray, List.set_cons_zero, List.set_cons_succ])
  refine takeH (i := 5) (dst := some 6) (v := ?v4) rfl rfl (by kernel_rfl) (by kernel_rfl) (by kernel_rfl) (fun _ _ _ h => h) rfl ?hy4 hH rfl ?rest4
  case hy4 => (intro W hW; have q0 := hW.x'.c0; have q1' := hW.x'.c1; have q2' := hW.x'.c2; have q3 := hW.x'.c3; clear hW; go_simp; try with_reducible rfl)
  (try simp only [Act.put, List.setIfInBounds_toArray, List.set_cons_zero, List.set_cons_succ])
  refine wpAnyH_done (by kernel_rfl) ?_ _
  clear hH
  go_wp2
  refine bodyPost_ret (results_sup3 rfl _ _ (w.heap.size + 1 + 1) (g + 1) x y z rfl dR) rfl ?_
  exact ⟨rfl, dB⟩
end Go.Proofs.YtjdfkbpadhndlaaDoor
