/- leveeref06.Fresh. -/
import Derived.Test.YtfbbdpapnegmcaaRsame
import Derived.Deep.DeepCutAuto
namespace Go.Proofs.Ytfbbdpapnegmcaa
open Go.RowKit
theorem callH3 {P : Program} {ops : Array Oper} {md : Region.Mode} {Q : Exit → Act → World → Prop} {S : World → Prop} {i j m : Nat} (oi oj om : Oper) {fuel : Nat} {listed l2 l3 l4 : Array Bool} {a : Act} {w : World} (hr : Region.ready md ops listed = [i, j, m]) (hi : ops[i]? = some oi) (hj : ops[j]? = some oj) (hm : ops[m]? = some om) (hl2 : listed.setIfInBounds i true = l2) (hl3 : listed.setIfInBounds j true = l3) (hl4 : listed.setIfInBounds m true = l4)
    (h1 : ∀ K : Act → World → Prop, Shut (∀ a w, S w → (S w → wpAnyH P md ops Q S fuel l2 a w) → K a w) → if Region.wanted oi (yielded ops a.tmps) = true then Oper.wp P oi a w K Q else K (a.put oi.dst undef) w)
    (h2 : ∀ K : Act → World → Prop, Shut (∀ a w, S w → (S w → wpAnyH P md ops Q S fuel l3 a w) → K a w) → if Region.wanted oj (yielded ops a.tmps) = true then Oper.wp P oj a w K Q else K (a.put oj.dst undef) w)
    (h3 : ∀ K : Act → World → Prop, Shut (∀ a w, S w → (S w → wpAnyH P md ops Q S fuel l4 a w) → K a w) → if Region.wanted om (yielded ops a.tmps) = true then Oper.wp P om a w K Q else K (a.put om.dst undef) w) : wpAnyH P md ops Q S (fuel + 1) listed a w :=
  wpAnyH_ready hr (by simp) (AllReadyH.cons hi (fun K hK => h1 K (by rw [← hl2]; exact hK)) (AllReadyH.cons hj (fun K hK => h2 K (by rw [← hl3]; exact hK)) (AllReadyH.cons hm (fun K hK => h3 K (by rw [← hl4]; exact hK)) AllReadyH.nil)))
theorem rset_arg (sp : Option Addr) (l : List UInt8) (n cap k : Nat) (on : Bool) (W : World) (ha : Arg W sp cap l) (hn : l.length = n) (hk : k < 8 * n) :
    Calls Try.prog 40 #[.slice sp n cap, .int .i64 k, .bool on] W fun e w' => ∃ g2 cap2, e = .returned (.tuple #[.slice (some ⟨g2, 0, none⟩) n cap2, .int .i64 0]) ∧ Arg w' (some ⟨g2, 0, none⟩) cap2 (setb l k on) ∧ W.heap.size ≤ g2 ∧ Below W.heap.size W w' := by
  have la := ha.len
  have h := rset_yes sp l cap k on W ha (by omega)
  rw [hn] at h
  refine h.mono ?_
  rintro e w' ⟨v, h1, h2, h3⟩
  have hl2 : (setb l k on).length = n := by rw [setb_length]; exact hn
  obtain ⟨g, cap2, rfl, hg, _, harg⟩ := h2.at0 (by omega) (by omega)
  rw [hl2] at h1
  exact ⟨g, cap2, h1, harg, hg, h3⟩
theorem XW.low {w0 W W' : World} {a i n : Int} {x y z : Value} (h : XW w0 a i n x y z W) {B : Nat} (hb : Below B W W') (hB : w0.heap.size + 1 < B) : XW w0 a i n x y z W' :=
  ⟨⟨(hb.cell (p := ⟨w0.heap.size, 0, none⟩) (show w0.heap.size < B by omega)).trans h.geo.1, (hb.cell (p := ⟨w0.heap.size, 1, none⟩) (show w0.heap.size < B by omega)).trans h.geo.2.1, (hb.cell (p := ⟨w0.heap.size, 2, none⟩) (show w0.heap.size < B by omega)).trans h.geo.2.2.1, h.geo.2.2.2.trans (hb.mono (by omega))⟩, h.head.below hb hB⟩
theorem Blk.arg {w : World} {g n : Nat} {l : List UInt8} (h : Blk w g 5 l) (hn : l.length = n) (h0 : 0 < n) (hm : n ≤ 1000) : Arg w (some ⟨g, 0, none⟩) n l :=
  .inr ⟨g, 0, rfl, h0, by omega, by omega, by omega, h.src⟩
/-- What Fresh has laid. -/
structure FQ (w0 : World) (a i n no : Int) (q g1 c1 g2 c2 : Nat) (bl sl : List UInt8) (W : World) : Prop where
  x : XW w0 a i n (.int .i64 0) (.slice none 0 0) (.slice none 0 0) W
  row : Row3 W q 31 (.int .i64 no) (.slice (some ⟨g1, 0, none⟩) 16 c1) (.slice (some ⟨g2, 0, none⟩) 8 c2)
  ab : Arg W (some ⟨g1, 0, none⟩) c1 bl
  asl : Arg W (some ⟨g2, 0, none⟩) c2 sl
  hq : w0.heap.size + 1 < q
  n1 : g1 ≠ q
  n2 : g2 ≠ q
  m1 : w0.heap.size + 1 < g1
  m2 : w0.heap.size + 1 < g2
section
variable {w0 W W' : World} {a i n no : Int} {q g1 c1 g2 c2 : Nat} {bl sl : List UInt8}
theorem FQ.up (h : FQ w0 a i n no q g1 c1 g2 c2 bl sl W) (hb : Below W.heap.size W W') : FQ w0 a i n no q g1 c1 g2 c2 bl sl W' :=
  ⟨h.x.up hb, h.row.up hb, h.ab.below hb (Nat.le_refl _), h.asl.below hb (Nat.le_refl _), h.hq, h.n1, h.n2, h.m1, h.m2⟩
theorem FQ.set1 (h : FQ w0 a i n no q g1 c1 g2 c2 bl sl W) {g3 c3 : Nat} {bl2 : List UInt8} (A : Arg W (some ⟨g3, 0, none⟩) c3 bl2) (n3 : g3 ≠ q) (m3 : w0.heap.size + 1 < g3) : FQ w0 a i n no q g3 c3 g2 c2 bl2 sl (W.setCell ⟨q, 1, none⟩ (.slice (some ⟨g3, 0, none⟩) 16 c3)) :=
  ⟨h.x.low ((Below.refl q W).setCell (p := ⟨q, 1, none⟩) (Nat.le_refl _) _) h.hq, h.row.set1 _, A.other (q := q) (by intro b off e; cases e; exact n3) _ _, h.asl.other (q := q) (by intro b off e; cases e; exact h.n2) _ _, h.hq, n3, h.n2, m3, h.m2⟩
theorem FQ.set2 (h : FQ w0 a i n no q g1 c1 g2 c2 bl sl W) {g3 c3 : Nat} {sl2 : List UInt8} (A : Arg W (some ⟨g3, 0, none⟩) c3 sl2) (n3 : g3 ≠ q) (m3 : w0.heap.size + 1 < g3) : FQ w0 a i n no q g1 c1 g3 c3 bl sl2 (W.setCell ⟨q, 2, none⟩ (.slice (some ⟨g3, 0, none⟩) 8 c3)) :=
  ⟨h.x.low ((Below.refl q W).setCell (p := ⟨q, 2, none⟩) (Nat.le_refl _) _) h.hq, h.row.set2 _, h.ab.other (q := q) (by intro b off e; cases e; exact h.n1) _ _, A.other (q := q) (by intro b off e; cases e; exact n3) _ _, h.hq, h.n1, n3, h.m1, m3⟩
theorem FQ.mk3 {y1 y2 y3 : Value} (x : XW w0 a i n (.int .i64 0) (.slice none 0 0) (.slice none 0 0) W) (row : Row3 W q 31 y1 y2 y3) (b1 : Blk W g1 5 z16) (b2 : Blk W g2 5 z8) (hq : w0.heap.size + 1 < q) (n1 : g1 ≠ q) (n2 : g2 ≠ q) (m1 : w0.heap.size + 1 < g1) (m2 : w0.heap.size + 1 < g2) :
    FQ w0 a i n no q g1 16 g2 8 z16 z8 (((W.setCell ⟨q, 0, none⟩ (.int .i64 no)).setCell ⟨q, 1, none⟩ (.slice (some ⟨g1, 0, none⟩) 16 16)).setCell ⟨q, 2, none⟩ (.slice (some ⟨g2, 0, none⟩) 8 8)) := by
  have hn1 : ∀ b off, some (⟨g1, 0, none⟩ : Addr) = some ⟨b, off, none⟩ → b ≠ q := by intro b off e; cases e; exact n1
  have hn2 : ∀ b off, some (⟨g2, 0, none⟩ : Addr) = some ⟨b, off, none⟩ → b ≠ q := by intro b off e; cases e; exact n2
  exact ⟨x.low (below_set3 (Below.refl q W) (Nat.le_refl _) _ _ _) hq, row.set _ _ _, (((b1.arg (n := 16) rfl (by omega) (by omega)).other hn1 _ _).other hn1 _ _).other hn1 _ _, (((b2.arg (n := 8) rfl (by omega) (by omega)).other hn2 _ _).other hn2 _ _).other hn2 _ _, hq, n1, n2, m1, m2⟩
end
attribute [local go_sem] wrapI
set_option maxHeartbeats 16000000 in
theorem rfresh_any (a i n no : Int) (w : World) :
    Calls Try.prog 14 #[.agg #[.int .i64 a, .int .i64 i, .int .i64 n], .int .i64 no] w fun e w' => Below w.heap.size w w' ∧ ((numB a i n no = false ∧ e = .returned (.tuple #[.agg #[.int .i64 0, .slice none 0 0, .slice none 0 0], .int .i64 1])) ∨ (numB a i n no = true ∧ ∃ g1 c1 g2 c2, e = .returned (.tuple #[.agg #[.int .i64 no, .slice (some ⟨g1, 0, none⟩) 16 c1, .slice (some ⟨g2, 0, none⟩) 8 c2], .int .i64 0]) ∧ Arg w' (some ⟨g1, 0, none⟩) c1 (fillb z16 (kbl i)) ∧ Arg w' (some ⟨g2, 0, none⟩) c2 (fillb z8 (ksl no)) ∧ w.heap.size < g1 ∧ w.heap.size < g2)) := by
  have HX0 : Hid _ := XW.start w a i n (.int .i64 0) (.slice none 0 0) (.slice none 0 0)
  have RR := rright_any a i n
  obtain ⟨w1, hw1⟩ : ∃ w1, (w.alloc (.cells #[.int .i64 a, .int .i64 i, .int .i64 n] 23)).alloc (.cells #[.int .i64 0, .slice none 0 0, .slice none 0 0] 31) = w1 := ⟨_, rfl⟩
  rw [hw1] at HX0
  have mk16 : ∀ W : World, (Instr.makeSlice 24 (.int .i64 16) (.int .i64 16)).run Try.prog W = .ok (.slice (some ⟨W.heap.size, 0, none⟩) 16 16) (W.alloc (.cells (bvs z16).toArray 5)) := fun W => make_any W 16 16 (by omega) (by omega)
  have mk8 : ∀ W : World, (Instr.makeSlice 24 (.int .i64 8) (.int .i64 8)).run Try.prog W = .ok (.slice (some ⟨W.heap.size, 0, none⟩) 8 8) (W.alloc (.cells (bvs z8).toArray 5)) := fun W => make_any W 8 8 (by omega) (by omega)
  go_enter Try.func14, Try.ntmps14
  go_upto_region 1 with fail
  clear hw1
  go_cut [6] (fun s6 wc => ∃ q g1 g2, s6 = .pointer (some ⟨q, 0, none⟩) ∧ FQ w a i n no q g1 16 g2 8 z16 z8 wc)
  case first =>
    have X1 := HX0.out.up (Below.refl _ _).drew
    refine wp_region_held_drew (S := (fun W => XW w a i n (.int .i64 0) (.slice none 0 0) (.slice none 0 0) W)) (by kernel_rfl) X1 (fun hH => ?_)
    generalize w1.drew = wd at *
    refine takeH (i := 0) (dst := some 9) (v := ?vq1) rfl rfl (by kernel_rfl) (by kernel_rfl) (by kernel_rfl) (fun _ _ _ h => h) rfl ?hyq1 hH rfl ?restq1
    case hyq1 => (intro W hW; clear hW; go_simp; try with_reducible rfl)
    (try simp only [Act.put, List.setIfInBounds_toArray, List.set_cons_zero, List.set_cons_succ])
    refine callH3 (i := 1) (j := 2) (m := 4) { dst := some 10, op := Go.Op.makeSlice 24 (Go.Operand.const (Go.Value.int Go.IntKind.i64 16)) (Go.Operand.const (Go.Value.int Go.IntKind.i64 16)), type := 24, pos := "ref.go:39", after := #[], guard := none } { dst := some 11, op := Go.Op.makeSlice 24 (Go.Operand.const (Go.Value.int Go.IntKind.i64 8)) (Go.Operand.const (Go.Value.int Go.IntKind.i64 8)), type := 24, pos := "ref.go:39", after := #[], guard := none } { dst := some 6, op := Go.Op.alloc 31, type := 0, pos := "ref.go:39", after := #[], guard := none } (by kernel_rfl) rfl rfl rfl rfl rfl rfl (fun K hK => ?_) (fun K hK => ?_) (fun K hK => ?_)
    · go_simp
      have al2 : Below wd.heap.size wd (wd.alloc (.cells (bvs z16).toArray 5)) := (Below.refl _ _).alloc (Nat.le_refl _) _
      have n2 : Blk (wd.alloc (.cells (bvs z16).toArray 5)) wd.heap.size 5 z16 := heap_alloc_new _ _
      have x2 := X1.up al2
      have hz2 := X1.head.lt
      clear hH
      refine hK.out _ _ x2 (fun hH => ?_)
      clear hK K
      (try simp only [Act.put, List.setIfInBounds_toArray, List.set_cons_zero, List.set_cons_succ])
      clear al2
      generalize wd.alloc (.cells (bvs z16).toArray 5) = v2 at *
      refine callH2 (i := 2) (j := 4) { dst := some 11, op := Go.Op.makeSlice 24 (Go.Operand.const (Go.Value.int Go.IntKind.i64 8)) (Go.Operand.const (Go.Value.int Go.IntKind.i64 8)), type := 24, pos := "ref.go:39", after := #[], guard := none } { dst := some 6, op := Go.Op.alloc 31, type := 0, pos := "ref.go:39", after := #[], guard := none } (by kernel_rfl) rfl rfl rfl rfl (fun K hK => ?_) (fun K hK => ?_)
      · go_simp
        have al3 : Below v2.heap.size v2 (v2.alloc (.cells (bvs z8).toArray 5)) := (Below.refl _ _).alloc (Nat.le_refl _) _
        have n3 : Blk (v2.alloc (.cells (bvs z8).toArray 5)) v2.heap.size 5 z8 := heap_alloc_new _ _
        have x3 := x2.up al3
        have hz3 := x2.head.lt
        have l3_1 := n2.lt
        have f3_1 := n2.below al3 n2.lt
        clear hH
        refine hK.out _ _ x3 (fun hH => ?_)
        clear hK K
        (try simp only [Act.put, List.setIfInBounds_toArray, List.set_cons_zero, List.set_cons_succ])
        clear al3
        generalize v2.alloc (.cells (bvs z8).toArray 5) = v3 at *
        refine takeH (i := 3) (dst := some 12) (v := ?vq4) rfl rfl (by kernel_rfl) (by kernel_rfl) (by kernel_rfl) (fun _ _ _ h => h) rfl ?hyq4 hH rfl ?restq4
        case hyq4 => (intro W hW; clear hW; go_simp; try with_reducible rfl)
        (try simp only [Act.put, List.setIfInBounds_toArray, List.set_cons_zero, List.set_cons_succ])
        refine callH (i := 4) { dst := some 6, op := Go.Op.alloc 31, type := 0, pos := "ref.go:39", after := #[], guard := none } (by kernel_rfl) rfl rfl (fun K hK => ?_)
        go_simp
        have al5 : Below v3.heap.size v3 (v3.alloc (.cells #[.int .i64 0, .slice none 0 0, .slice none 0 0] 31)) := (Below.refl _ _).alloc (Nat.le_refl _) _
        have n5 : Row3 (v3.alloc (.cells #[.int .i64 0, .slice none 0 0, .slice none 0 0] 31)) v3.heap.size 31 (.int .i64 0) (.slice none 0 0) (.slice none 0 0) := heap_alloc_new _ _
        have x5 := x3.up al5
        have hz5 := x3.head.lt
        have l5_1 := f3_1.lt
        have f5_1 := f3_1.below al5 f3_1.lt
        have l5_2 := n3.lt
        have f5_2 := n3.below al5 n3.lt
        clear hH
        refine hK.out _ _ x5 (fun hH => ?_)
        clear hK K
        (try simp only [Act.put, List.setIfInBounds_toArray, List.set_cons_zero, List.set_cons_succ])
        clear al5
        generalize v3.alloc (.cells #[.int .i64 0, .slice none 0 0, .slice none 0 0] 31) = v5 at *
        refine callH (i := 5) { dst := none, op := Go.Op.store 31 (Go.Operand.tmp 6) (Go.Operand.tmp 12), type := 0, pos := "ref.go:39", after := #[{ on := 4, ground := Go.Ground.data }, { on := 3, ground := Go.Ground.data }, { on := 0, ground := Go.Ground.phase }, { on := 1, ground := Go.Ground.phase }, { on := 2, ground := Go.Ground.phase }, { on := 3, ground := Go.Ground.phase }, { on := 4, ground := Go.Ground.phase }], guard := none } (by kernel_rfl) rfl rfl (fun K hK => ?_)
        have c0 := n5.c0; have c1 := n5.c1; have c2 := n5.c2; have f0 := n5.fz 0; have f1 := n5.fz 1; have f2 := n5.fz 2
        go_simp
        have Z := FQ.mk3 (no := no) x5 n5 f5_1 f5_2 (by omega) (by omega) (by omega) (by omega) (by omega)
        clear hH c0 c1 c2 f0 f1 f2
        refine hK.out _ _ Z.x (fun hH => ?_)
        clear hK K
        (try simp only [Act.put, List.setIfInBounds_toArray, List.set_cons_zero, List.set_cons_succ])
        refine wpAnyH_done (by kernel_rfl) ?_ _
        clear hH
        go_wp2_with fail
        go_meet
        case rel => exact ⟨_, _, _, rfl, Z⟩
      · go_simp
        have al6 : Below v2.heap.size v2 (v2.alloc (.cells #[.int .i64 0, .slice none 0 0, .slice none 0 0] 31)) := (Below.refl _ _).alloc (Nat.le_refl _) _
        have n6 : Row3 (v2.alloc (.cells #[.int .i64 0, .slice none 0 0, .slice none 0 0] 31)) v2.heap.size 31 (.int .i64 0) (.slice none 0 0) (.slice none 0 0) := heap_alloc_new _ _
        have x6 := x2.up al6
        have hz6 := x2.head.lt
        have l6_1 := n2.lt
        have f6_1 := n2.below al6 n2.lt
        clear hH
        refine hK.out _ _ x6 (fun hH => ?_)
        clear hK K
        (try simp only [Act.put, List.setIfInBounds_toArray, List.set_cons_zero, List.set_cons_succ])
        clear al6
        generalize v2.alloc (.cells #[.int .i64 0, .slice none 0 0, .slice none 0 0] 31) = v6 at *
        refine callH (i := 2) { dst := some 11, op := Go.Op.makeSlice 24 (Go.Operand.const (Go.Value.int Go.IntKind.i64 8)) (Go.Operand.const (Go.Value.int Go.IntKind.i64 8)), type := 24, pos := "ref.go:39", after := #[], guard := none } (by kernel_rfl) rfl rfl (fun K hK => ?_)
        go_simp
        have al7 : Below v6.heap.size v6 (v6.alloc (.cells (bvs z8).toArray 5)) := (Below.refl _ _).alloc (Nat.le_refl _) _
        have n7 : Blk (v6.alloc (.cells (bvs z8).toArray 5)) v6.heap.size 5 z8 := heap_alloc_new _ _
        have x7 := x6.up al7
        have hz7 := x6.head.lt
        have l7_1 := f6_1.lt
        have f7_1 := f6_1.below al7 f6_1.lt
        have l7_4 := n6.lt
        have f7_4 := n6.up al7
        clear hH
        refine hK.out _ _ x7 (fun hH => ?_)
        clear hK K
        (try simp only [Act.put, List.setIfInBounds_toArray, List.set_cons_zero, List.set_cons_succ])
        clear al7
        generalize v6.alloc (.cells (bvs z8).toArray 5) = v7 at *
        refine takeH (i := 3) (dst := some 12) (v := ?vq8) rfl rfl (by kernel_rfl) (by kernel_rfl) (by kernel_rfl) (fun _ _ _ h => h) rfl ?hyq8 hH rfl ?restq8
        case hyq8 => (intro W hW; clear hW; go_simp; try with_reducible rfl)
        (try simp only [Act.put, List.setIfInBounds_toArray, List.set_cons_zero, List.set_cons_succ])
        refine callH (i := 5) { dst := none, op := Go.Op.store 31 (Go.Operand.tmp 6) (Go.Operand.tmp 12), type := 0, pos := "ref.go:39", after := #[{ on := 4, ground := Go.Ground.data }, { on := 3, ground := Go.Ground.data }, { on := 0, ground := Go.Ground.phase }, { on := 1, ground := Go.Ground.phase }, { on := 2, ground := Go.Ground.phase }, { on := 3, ground := Go.Ground.phase }, { on := 4, ground := Go.Ground.phase }], guard := none } (by kernel_rfl) rfl rfl (fun K hK => ?_)
        have c0 := f7_4.c0; have c1 := f7_4.c1; have c2 := f7_4.c2; have f0 := f7_4.fz 0; have f1 := f7_4.fz 1; have f2 := f7_4.fz 2
        go_simp
        have Z := FQ.mk3 (no := no) x7 f7_4 f7_1 n7 (by omega) (by omega) (by omega) (by omega) (by omega)
        clear hH c0 c1 c2 f0 f1 f2
        refine hK.out _ _ Z.x (fun hH => ?_)
        clear hK K
        (try simp only [Act.put, List.setIfInBounds_toArray, List.set_cons_zero, List.set_cons_succ])
        refine wpAnyH_done (by kernel_rfl) ?_ _
        clear hH
        go_wp2_with fail
        go_meet
        case rel => exact ⟨_, _, _, rfl, Z⟩
    · go_simp
      have al9 : Below wd.heap.size wd (wd.alloc (.cells (bvs z8).toArray 5)) := (Below.refl _ _).alloc (Nat.le_refl _) _
      have n9 : Blk (wd.alloc (.cells (bvs z8).toArray 5)) wd.heap.size 5 z8 := heap_alloc_new _ _
      have x9 := X1.up al9
      have hz9 := X1.head.lt
      clear hH
      refine hK.out _ _ x9 (fun hH => ?_)
      clear hK K
      (try simp only [Act.put, List.setIfInBounds_toArray, List.set_cons_zero, List.set_cons_succ])
      clear al9
      generalize wd.alloc (.cells (bvs z8).toArray 5) = v9 at *
      refine callH2 (i := 1) (j := 4) { dst := some 10, op := Go.Op.makeSlice 24 (Go.Operand.const (Go.Value.int Go.IntKind.i64 16)) (Go.Operand.const (Go.Value.int Go.IntKind.i64 16)), type := 24, pos := "ref.go:39", after := #[], guard := none } { dst := some 6, op := Go.Op.alloc 31, type := 0, pos := "ref.go:39", after := #[], guard := none } (by kernel_rfl) rfl rfl rfl rfl (fun K hK => ?_) (fun K hK => ?_)
      · go_simp
        have al10 : Below v9.heap.size v9 (v9.alloc (.cells (bvs z16).toArray 5)) := (Below.refl _ _).alloc (Nat.le_refl _) _
        have n10 : Blk (v9.alloc (.cells (bvs z16).toArray 5)) v9.heap.size 5 z16 := heap_alloc_new _ _
        have x10 := x9.up al10
        have hz10 := x9.head.lt
        have l10_2 := n9.lt
        have f10_2 := n9.below al10 n9.lt
        clear hH
        refine hK.out _ _ x10 (fun hH => ?_)
        clear hK K
        (try simp only [Act.put, List.setIfInBounds_toArray, List.set_cons_zero, List.set_cons_succ])
        clear al10
        generalize v9.alloc (.cells (bvs z16).toArray 5) = v10 at *
        refine takeH (i := 3) (dst := some 12) (v := ?vq11) rfl rfl (by kernel_rfl) (by kernel_rfl) (by kernel_rfl) (fun _ _ _ h => h) rfl ?hyq11 hH rfl ?restq11
        case hyq11 => (intro W hW; clear hW; go_simp; try with_reducible rfl)
        (try simp only [Act.put, List.setIfInBounds_toArray, List.set_cons_zero, List.set_cons_succ])
        refine callH (i := 4) { dst := some 6, op := Go.Op.alloc 31, type := 0, pos := "ref.go:39", after := #[], guard := none } (by kernel_rfl) rfl rfl (fun K hK => ?_)
        go_simp
        have al12 : Below v10.heap.size v10 (v10.alloc (.cells #[.int .i64 0, .slice none 0 0, .slice none 0 0] 31)) := (Below.refl _ _).alloc (Nat.le_refl _) _
        have n12 : Row3 (v10.alloc (.cells #[.int .i64 0, .slice none 0 0, .slice none 0 0] 31)) v10.heap.size 31 (.int .i64 0) (.slice none 0 0) (.slice none 0 0) := heap_alloc_new _ _
        have x12 := x10.up al12
        have hz12 := x10.head.lt
        have l12_2 := f10_2.lt
        have f12_2 := f10_2.below al12 f10_2.lt
        have l12_1 := n10.lt
        have f12_1 := n10.below al12 n10.lt
        clear hH
        refine hK.out _ _ x12 (fun hH => ?_)
        clear hK K
        (try simp only [Act.put, List.setIfInBounds_toArray, List.set_cons_zero, List.set_cons_succ])
        clear al12
        generalize v10.alloc (.cells #[.int .i64 0, .slice none 0 0, .slice none 0 0] 31) = v12 at *
        refine callH (i := 5) { dst := none, op := Go.Op.store 31 (Go.Operand.tmp 6) (Go.Operand.tmp 12), type := 0, pos := "ref.go:39", after := #[{ on := 4, ground := Go.Ground.data }, { on := 3, ground := Go.Ground.data }, { on := 0, ground := Go.Ground.phase }, { on := 1, ground := Go.Ground.phase }, { on := 2, ground := Go.Ground.phase }, { on := 3, ground := Go.Ground.phase }, { on := 4, ground := Go.Ground.phase }], guard := none } (by kernel_rfl) rfl rfl (fun K hK => ?_)
        have c0 := n12.c0; have c1 := n12.c1; have c2 := n12.c2; have f0 := n12.fz 0; have f1 := n12.fz 1; have f2 := n12.fz 2
        go_simp
        have Z := FQ.mk3 (no := no) x12 n12 f12_1 f12_2 (by omega) (by omega) (by omega) (by omega) (by omega)
        clear hH c0 c1 c2 f0 f1 f2
        refine hK.out _ _ Z.x (fun hH => ?_)
        clear hK K
        (try simp only [Act.put, List.setIfInBounds_toArray, List.set_cons_zero, List.set_cons_succ])
        refine wpAnyH_done (by kernel_rfl) ?_ _
        clear hH
        go_wp2_with fail
        go_meet
        case rel => exact ⟨_, _, _, rfl, Z⟩
      · go_simp
        have al13 : Below v9.heap.size v9 (v9.alloc (.cells #[.int .i64 0, .slice none 0 0, .slice none 0 0] 31)) := (Below.refl _ _).alloc (Nat.le_refl _) _
        have n13 : Row3 (v9.alloc (.cells #[.int .i64 0, .slice none 0 0, .slice none 0 0] 31)) v9.heap.size 31 (.int .i64 0) (.slice none 0 0) (.slice none 0 0) := heap_alloc_new _ _
        have x13 := x9.up al13
        have hz13 := x9.head.lt
        have l13_2 := n9.lt
        have f13_2 := n9.below al13 n9.lt
        clear hH
        refine hK.out _ _ x13 (fun hH => ?_)
        clear hK K
        (try simp only [Act.put, List.setIfInBounds_toArray, List.set_cons_zero, List.set_cons_succ])
        clear al13
        generalize v9.alloc (.cells #[.int .i64 0, .slice none 0 0, .slice none 0 0] 31) = v13 at *
        refine callH (i := 1) { dst := some 10, op := Go.Op.makeSlice 24 (Go.Operand.const (Go.Value.int Go.IntKind.i64 16)) (Go.Operand.const (Go.Value.int Go.IntKind.i64 16)), type := 24, pos := "ref.go:39", after := #[], guard := none } (by kernel_rfl) rfl rfl (fun K hK => ?_)
        go_simp
        have al14 : Below v13.heap.size v13 (v13.alloc (.cells (bvs z16).toArray 5)) := (Below.refl _ _).alloc (Nat.le_refl _) _
        have n14 : Blk (v13.alloc (.cells (bvs z16).toArray 5)) v13.heap.size 5 z16 := heap_alloc_new _ _
        have x14 := x13.up al14
        have hz14 := x13.head.lt
        have l14_2 := f13_2.lt
        have f14_2 := f13_2.below al14 f13_2.lt
        have l14_4 := n13.lt
        have f14_4 := n13.up al14
        clear hH
        refine hK.out _ _ x14 (fun hH => ?_)
        clear hK K
        (try simp only [Act.put, List.setIfInBounds_toArray, List.set_cons_zero, List.set_cons_succ])
        clear al14
        generalize v13.alloc (.cells (bvs z16).toArray 5) = v14 at *
        refine takeH (i := 3) (dst := some 12) (v := ?vq15) rfl rfl (by kernel_rfl) (by kernel_rfl) (by kernel_rfl) (fun _ _ _ h => h) rfl ?hyq15 hH rfl ?restq15
        case hyq15 => (intro W hW; clear hW; go_simp; try with_reducible rfl)
        (try simp only [Act.put, List.setIfInBounds_toArray, List.set_cons_zero, List.set_cons_succ])
        refine callH (i := 5) { dst := none, op := Go.Op.store 31 (Go.Operand.tmp 6) (Go.Operand.tmp 12), type := 0, pos := "ref.go:39", after := #[{ on := 4, ground := Go.Ground.data }, { on := 3, ground := Go.Ground.data }, { on := 0, ground := Go.Ground.phase }, { on := 1, ground := Go.Ground.phase }, { on := 2, ground := Go.Ground.phase }, { on := 3, ground := Go.Ground.phase }, { on := 4, ground := Go.Ground.phase }], guard := none } (by kernel_rfl) rfl rfl (fun K hK => ?_)
        have c0 := f14_4.c0; have c1 := f14_4.c1; have c2 := f14_4.c2; have f0 := f14_4.fz 0; have f1 := f14_4.fz 1; have f2 := f14_4.fz 2
        go_simp
        have Z := FQ.mk3 (no := no) x14 f14_4 n14 f14_2 (by omega) (by omega) (by omega) (by omega) (by omega)
        clear hH c0 c1 c2 f0 f1 f2
        refine hK.out _ _ Z.x (fun hH => ?_)
        clear hK K
        (try simp only [Act.put, List.setIfInBounds_toArray, List.set_cons_zero, List.set_cons_succ])
        refine wpAnyH_done (by kernel_rfl) ?_ _
        clear hH
        go_wp2_with fail
        go_meet
        case rel => exact ⟨_, _, _, rfl, Z⟩
    · go_simp
      have al16 : Below wd.heap.size wd (wd.alloc (.cells #[.int .i64 0, .slice none 0 0, .slice none 0 0] 31)) := (Below.refl _ _).alloc (Nat.le_refl _) _
      have n16 : Row3 (wd.alloc (.cells #[.int .i64 0, .slice none 0 0, .slice none 0 0] 31)) wd.heap.size 31 (.int .i64 0) (.slice none 0 0) (.slice none 0 0) := heap_alloc_new _ _
      have x16 := X1.up al16
      have hz16 := X1.head.lt
      clear hH
      refine hK.out _ _ x16 (fun hH => ?_)
      clear hK K
      (try simp only [Act.put, List.setIfInBounds_toArray, List.set_cons_zero, List.set_cons_succ])
      clear al16
      generalize wd.alloc (.cells #[.int .i64 0, .slice none 0 0, .slice none 0 0] 31) = v16 at *
      refine callH2 (i := 1) (j := 2) { dst := some 10, op := Go.Op.makeSlice 24 (Go.Operand.const (Go.Value.int Go.IntKind.i64 16)) (Go.Operand.const (Go.Value.int Go.IntKind.i64 16)), type := 24, pos := "ref.go:39", after := #[], guard := none } { dst := some 11, op := Go.Op.makeSlice 24 (Go.Operand.const (Go.Value.int Go.IntKind.i64 8)) (Go.Operand.const (Go.Value.int Go.IntKind.i64 8)), type := 24, pos := "ref.go:39", after := #[], guard := none } (by kernel_rfl) rfl rfl rfl rfl (fun K hK => ?_) (fun K hK => ?_)
      · go_simp
        have al17 : Below v16.heap.size v16 (v16.alloc (.cells (bvs z16).toArray 5)) := (Below.refl _ _).alloc (Nat.le_refl _) _
        have n17 : Blk (v16.alloc (.cells (bvs z16).toArray 5)) v16.heap.size 5 z16 := heap_alloc_new _ _
        have x17 := x16.up al17
        have hz17 := x16.head.lt
        have l17_4 := n16.lt
        have f17_4 := n16.up al17
        clear hH
        refine hK.out _ _ x17 (fun hH => ?_)
        clear hK K
        (try simp only [Act.put, List.setIfInBounds_toArray, List.set_cons_zero, List.set_cons_succ])
        clear al17
        generalize v16.alloc (.cells (bvs z16).toArray 5) = v17 at *
        refine callH (i := 2) { dst := some 11, op := Go.Op.makeSlice 24 (Go.Operand.const (Go.Value.int Go.IntKind.i64 8)) (Go.Operand.const (Go.Value.int Go.IntKind.i64 8)), type := 24, pos := "ref.go:39", after := #[], guard := none } (by kernel_rfl) rfl rfl (fun K hK => ?_)
        go_simp
        have al18 : Below v17.heap.size v17 (v17.alloc (.cells (bvs z8).toArray 5)) := (Below.refl _ _).alloc (Nat.le_refl _) _
        have n18 : Blk (v17.alloc (.cells (bvs z8).toArray 5)) v17.heap.size 5 z8 := heap_alloc_new _ _
        have x18 := x17.up al18
        have hz18 := x17.head.lt
        have l18_4 := f17_4.lt
        have f18_4 := f17_4.up al18
        have l18_1 := n17.lt
        have f18_1 := n17.below al18 n17.lt
        clear hH
        refine hK.out _ _ x18 (fun hH => ?_)
        clear hK K
        (try simp only [Act.put, List.setIfInBounds_toArray, List.set_cons_zero, List.set_cons_succ])
        clear al18
        generalize v17.alloc (.cells (bvs z8).toArray 5) = v18 at *
        refine takeH (i := 3) (dst := some 12) (v := ?vq19) rfl rfl (by kernel_rfl) (by kernel_rfl) (by kernel_rfl) (fun _ _ _ h => h) rfl ?hyq19 hH rfl ?restq19
        case hyq19 => (intro W hW; clear hW; go_simp; try with_reducible rfl)
        (try simp only [Act.put, List.setIfInBounds_toArray, List.set_cons_zero, List.set_cons_succ])
        refine callH (i := 5) { dst := none, op := Go.Op.store 31 (Go.Operand.tmp 6) (Go.Operand.tmp 12), type := 0, pos := "ref.go:39", after := #[{ on := 4, ground := Go.Ground.data }, { on := 3, ground := Go.Ground.data }, { on := 0, ground := Go.Ground.phase }, { on := 1, ground := Go.Ground.phase }, { on := 2, ground := Go.Ground.phase }, { on := 3, ground := Go.Ground.phase }, { on := 4, ground := Go.Ground.phase }], guard := none } (by kernel_rfl) rfl rfl (fun K hK => ?_)
        have c0 := f18_4.c0; have c1 := f18_4.c1; have c2 := f18_4.c2; have f0 := f18_4.fz 0; have f1 := f18_4.fz 1; have f2 := f18_4.fz 2
        go_simp
        have Z := FQ.mk3 (no := no) x18 f18_4 f18_1 n18 (by omega) (by omega) (by omega) (by omega) (by omega)
        clear hH c0 c1 c2 f0 f1 f2
        refine hK.out _ _ Z.x (fun hH => ?_)
        clear hK K
        (try simp only [Act.put, List.setIfInBounds_toArray, List.set_cons_zero, List.set_cons_succ])
        refine wpAnyH_done (by kernel_rfl) ?_ _
        clear hH
        go_wp2_with fail
        go_meet
        case rel => exact ⟨_, _, _, rfl, Z⟩
      · go_simp
        have al20 : Below v16.heap.size v16 (v16.alloc (.cells (bvs z8).toArray 5)) := (Below.refl _ _).alloc (Nat.le_refl _) _
        have n20 : Blk (v16.alloc (.cells (bvs z8).toArray 5)) v16.heap.size 5 z8 := heap_alloc_new _ _
        have x20 := x16.up al20
        have hz20 := x16.head.lt
        have l20_4 := n16.lt
        have f20_4 := n16.up al20
        clear hH
        refine hK.out _ _ x20 (fun hH => ?_)
        clear hK K
        (try simp only [Act.put, List.setIfInBounds_toArray, List.set_cons_zero, List.set_cons_succ])
        clear al20
        generalize v16.alloc (.cells (bvs z8).toArray 5) = v20 at *
        refine callH (i := 1) { dst := some 10, op := Go.Op.makeSlice 24 (Go.Operand.const (Go.Value.int Go.IntKind.i64 16)) (Go.Operand.const (Go.Value.int Go.IntKind.i64 16)), type := 24, pos := "ref.go:39", after := #[], guard := none } (by kernel_rfl) rfl rfl (fun K hK => ?_)
        go_simp
        have al21 : Below v20.heap.size v20 (v20.alloc (.cells (bvs z16).toArray 5)) := (Below.refl _ _).alloc (Nat.le_refl _) _
        have n21 : Blk (v20.alloc (.cells (bvs z16).toArray 5)) v20.heap.size 5 z16 := heap_alloc_new _ _
        have x21 := x20.up al21
        have hz21 := x20.head.lt
        have l21_4 := f20_4.lt
        have f21_4 := f20_4.up al21
        have l21_2 := n20.lt
        have f21_2 := n20.below al21 n20.lt
        clear hH
        refine hK.out _ _ x21 (fun hH => ?_)
        clear hK K
        (try simp only [Act.put, List.setIfInBounds_toArray, List.set_cons_zero, List.set_cons_succ])
        clear al21
        generalize v20.alloc (.cells (bvs z16).toArray 5) = v21 at *
        refine takeH (i := 3) (dst := some 12) (v := ?vq22) rfl rfl (by kernel_rfl) (by kernel_rfl) (by kernel_rfl) (fun _ _ _ h => h) rfl ?hyq22 hH rfl ?restq22
        case hyq22 => (intro W hW; clear hW; go_simp; try with_reducible rfl)
        (try simp only [Act.put, List.setIfInBounds_toArray, List.set_cons_zero, List.set_cons_succ])
        refine callH (i := 5) { dst := none, op := Go.Op.store 31 (Go.Operand.tmp 6) (Go.Operand.tmp 12), type := 0, pos := "ref.go:39", after := #[{ on := 4, ground := Go.Ground.data }, { on := 3, ground := Go.Ground.data }, { on := 0, ground := Go.Ground.phase }, { on := 1, ground := Go.Ground.phase }, { on := 2, ground := Go.Ground.phase }, { on := 3, ground := Go.Ground.phase }, { on := 4, ground := Go.Ground.phase }], guard := none } (by kernel_rfl) rfl rfl (fun K hK => ?_)
        have c0 := f21_4.c0; have c1 := f21_4.c1; have c2 := f21_4.c2; have f0 := f21_4.fz 0; have f1 := f21_4.fz 1; have f2 := f21_4.fz 2
        go_simp
        have Z := FQ.mk3 (no := no) x21 f21_4 n21 f21_2 (by omega) (by omega) (by omega) (by omega) (by omega)
        clear hH c0 c1 c2 f0 f1 f2
        refine hK.out _ _ Z.x (fun hH => ?_)
        clear hK K
        (try simp only [Act.put, List.setIfInBounds_toArray, List.set_cons_zero, List.set_cons_succ])
        refine wpAnyH_done (by kernel_rfl) ?_ _
        clear hH
        go_wp2_with fail
        go_meet
        case rel => exact ⟨_, _, _, rfl, Z⟩
  case rest =>
    obtain ⟨q, g1, g2, rfl, Z1⟩ := hcut
    have HZ1 : Hid _ := Z1
    have q0 := Z1.x.geo.1; have q1 := Z1.x.geo.2.1; have q2 := Z1.x.geo.2.2.1
    clear Z1 mk16 mk8 HX0
    go_wp2_with fail
    refine (RR _).mono ?_
    rintro e w2 ⟨rfl, h2⟩
    have Z2 := HZ1.out.up h2
    clear RR HZ1 h2 q0 q1 q2
    have HZ2 : Hid _ := Z2
    have q0 := Z2.x.geo.1; have q1 := Z2.x.geo.2.1; have q2 := Z2.x.geo.2.2.1; have s0 := Z2.x.head.c0; have s1 := Z2.x.head.c1; have s2 := Z2.x.head.c2; have f0 := Z2.x.head.fz 0; have f1 := Z2.x.head.fz 1; have f2 := Z2.x.head.fz 2
    clear Z2
    cases hnb : numB a i n no
    · have hcs : okB a i n = false ∨ (okB a i n = true ∧ no < 0) ∨ (okB a i n = true ∧ ¬ no < 0 ∧ n ≤ no) := by
        unfold numB at hnb
        cases hok : okB a i n
        · exact .inl rfl
        · rw [hok, Bool.true_and, Bool.and_eq_false_iff] at hnb
          simp only [decide_eq_false_iff_not] at hnb
          by_cases h : no < 0
          · exact .inr (.inl ⟨rfl, h⟩)
          · exact .inr (.inr ⟨rfl, h, by omega⟩)
      have HNB : Hid (numB a i n no = false) := hnb
      clear hnb
      rcases hcs with hok | ⟨hok, hn0⟩ | ⟨hok, hn0, hn1⟩
      all_goals
        rw [hok]
        clear hok
        go_wp2_with fail
        exact bodyPost_ret (results_r3 rfl _ _ (w.heap.size + 1) _ _ _ rfl (HZ2.out.x.head.set _ _ _)) rfl ⟨below_set3 HZ2.out.x.geo.2.2.2 (by omega) _ _ _, .inl ⟨HNB.out, rfl⟩⟩
    · obtain ⟨hgok, hn0, hn1⟩ := numB_ok hnb
      have hok : okB a i n = true := hgok
      obtain ⟨ke, kl⟩ := kbl_of hgok
      have hbx := hgok.box
      have k2 := ksl_le no
      have HKS : Hid ((no = 0 ∧ ksl no = 2) ∨ (¬ no = 0 ∧ ksl no = 0)) := by
        show _ ∨ _
        unfold ksl
        by_cases h : no = 0
        · rw [if_pos h]; exact .inl ⟨h, rfl⟩
        · rw [if_neg h]; exact .inr ⟨h, rfl⟩
      have HNB : Hid (numB a i n no = true) := hnb
      have hn0' : ¬ no < 0 := by omega
      have hn1' : ¬ n ≤ no := by omega
      rw [hok]
      clear hok hgok hn0 hn1 hnb q0 q1 q2 s0 s1 s2 f0 f1 f2
      have q0 := HZ2.out.x.geo.1; have q1 := HZ2.out.x.geo.2.1; have q2 := HZ2.out.x.geo.2.2.1
      generalize hlo : kbl i = lo at *
      generalize hls : ksl no = l2 at *
      have HLO : Hid (kbl i = lo) := hlo
      have HLS : Hid (ksl no = l2) := hls
      clear hlo hls
      go_wp2_with fail
      go_loopw [7] (fun s wr => ∃ (k g1 c1 : Nat), k ≤ lo ∧ s = .int .i64 k ∧ Hid (FQ w a i n no q g1 c1 g2 8 (fillb z16 k) z8 wr)) (fun s _ => lo - (intOf s).toNat)
      case atStart => exact ⟨0, _, _, by omega, rfl, HZ2⟩
      case round =>
        obtain ⟨k, g1, c1, hk, rfl, HF⟩ := hrel
        clear HZ2 q0 q1 q2
        have q0 := HF.out.x.geo.1; have q1 := HF.out.x.geo.2.1; have q2 := HF.out.x.geo.2.2.1; have r1 := HF.out.row.c1
        by_cases hlt : (k : Int) < 1 + i / 4
        · have SE := rset_arg (some ⟨g1, 0, none⟩) (fillb z16 k) 16 c1 k true wr HF.out.ab (fillb_length z16 k) (by omega)
          go_wp2_with fail
          refine SE.mono ?_
          rintro e w3 ⟨g3, c3, rfl, a3, hg3, h3⟩
          have Z3 := HF.out.up h3
          have lq := HF.out.row.lt
          have lx := HF.out.x.head.lt
          have HS : Hid (FQ w a i n no q g3 c3 g2 8 (setb (fillb z16 k) k true) z8 (w3.setCell ⟨q, 1, none⟩ (.slice (some ⟨g3, 0, none⟩) 16 c3))) := Z3.set1 a3 (by omega) (by omega)
          have r3 := Z3.row.c1; have f3 := Z3.row.fz 1
          clear SE q0 q1 q2 r1 Z3 a3 h3 HF
          go_wp2_with fail
          go_round
          case rel => exact ⟨k + 1, g3, c3, by omega, by go_num, HS⟩
          case measure => simp [intOf]; omega
        · obtain rfl : k = lo := by omega
          go_wp2_with fail
          go_loopw [8] (fun s wr => ∃ (t g2 c2 : Nat), t ≤ l2 ∧ s = .int .i64 t ∧ Hid (FQ w a i n no q g1 c1 g2 c2 (fillb z16 k) (fillb z8 t) wr)) (fun s _ => l2 - (intOf s).toNat)
          case atStart => exact ⟨0, _, _, by omega, rfl, HF⟩
          case round =>
            obtain ⟨t, g2, c2, ht, rfl, HG⟩ := hrel
            clear HF q0 q1 q2 r1
            have q0 := HG.out.row.c0; have q1 := HG.out.row.c1; have q2 := HG.out.row.c2
            by_cases hlt2 : t < l2
            · obtain ⟨hz, hl2⟩ : no = 0 ∧ l2 = 2 := by
                rcases HKS.out with h | ⟨_, h⟩
                · exact h
                · omega
              have hz0 : (no == 0) = true := by simpa using hz
              have SE := rset_arg (some ⟨g2, 0, none⟩) (fillb z8 t) 8 c2 t true wr HG.out.asl (fillb_length z8 t) (by omega)
              have hlt3 : (t : Int) < 2 := by omega
              clear hz
              go_wp2_with fail
              refine SE.mono ?_
              rintro e w3 ⟨g3, c3, rfl, a3, hg3, h3⟩
              have Z3 := HG.out.up h3
              have lq := HG.out.row.lt
              have lx := HG.out.x.head.lt
              have HS : Hid (FQ w a i n no q g1 c1 g3 c3 (fillb z16 k) (setb (fillb z8 t) t true) (w3.setCell ⟨q, 2, none⟩ (.slice (some ⟨g3, 0, none⟩) 8 c3))) := Z3.set2 a3 (by omega) (by omega)
              have r3 := Z3.row.c2; have f3 := Z3.row.fz 2
              clear SE q0 q1 q2 Z3 a3 h3 HG
              go_wp2_with fail
              go_round
              case rel => exact ⟨t + 1, g3, c3, by omega, by go_num, HS⟩
              case measure => simp [intOf]; omega
            · obtain rfl : t = l2 := by omega
              have s0 := HG.out.x.head.c0; have s1 := HG.out.x.head.c1; have s2 := HG.out.x.head.c2; have f0 := HG.out.x.head.fz 0; have f1 := HG.out.x.head.fz 1; have f2 := HG.out.x.head.fz 2
              have m1 := HG.out.m1; have m2 := HG.out.m2
              have hcs : ((t : Int) < 2 ∧ (no == 0) = false) ∨ ¬ (t : Int) < 2 := by
                rcases HKS.out with ⟨_, h⟩ | ⟨h1, h2⟩
                · exact .inr (by omega)
                · exact .inl ⟨by omega, by simpa using h1⟩
              clear hlt2
              have hne1 : ∀ b off, some (⟨g1, 0, none⟩ : Addr) = some ⟨b, off, none⟩ → b ≠ w.heap.size + 1 := by intro b off e; cases e; omega
              have hne2 : ∀ b off, some (⟨g2, 0, none⟩ : Addr) = some ⟨b, off, none⟩ → b ≠ w.heap.size + 1 := by intro b off e; cases e; omega
              have HR : Hid (Arg _ _ _ _ ∧ Arg _ _ _ _) := ⟨((HG.out.ab.other hne1 0 (.int .i64 no)).other hne1 1 (.slice (some ⟨g1, 0, none⟩) 16 c1)).other hne1 2 (.slice (some ⟨g2, 0, none⟩) 8 c2), ((HG.out.asl.other hne2 0 (.int .i64 no)).other hne2 1 (.slice (some ⟨g1, 0, none⟩) 16 c1)).other hne2 2 (.slice (some ⟨g2, 0, none⟩) 8 c2)⟩
              clear hne1 hne2
              rcases hcs with ⟨h1, h2⟩ | h1
              all_goals
                go_wp2_with fail
                exact bodyPost_ret (results_r3 rfl _ _ (w.heap.size + 1) _ _ _ rfl (HG.out.x.head.set _ _ _)) rfl ⟨below_set3 HG.out.x.geo.2.2.2 (by omega) _ _ _, .inr ⟨HNB.out, g1, c1, g2, c2, rfl, by rw [HLO.out]; exact HR.out.1, by rw [HLS.out]; exact HR.out.2, by omega, by omega⟩⟩
end Go.Proofs.Ytfbbdpapnegmcaa
