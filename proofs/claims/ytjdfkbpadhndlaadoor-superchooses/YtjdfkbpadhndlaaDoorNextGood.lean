/- The walk of leveelaw04.SuperNext, second part: Next answers. -/
import Derived.Test.YtjdfkbpadhndlaaDoorNextBad
namespace Go.Proofs.YtjdfkbpadhndlaaDoor
open Go.RowKit
attribute [local go_sem] wrapI
theorem rsize_ok {a i n : Int} (h : okG a i n) (w : World) : Calls Tryd.prog 21 #[.agg #[.int .i64 a, .int .i64 i, .int .i64 n]] w fun e w' => e = .returned (.int .i64 (2 + n * a)) ∧ Below w.heap.size w w' := by
  have h2 := rsize_any a i n w; rw [if_pos h] at h2; exact h2
theorem choose_new {la lb : List UInt8} {bl : Int} (ha : getE la = 0) (pa : rdG la % 2 = 0) (sa : 2 + (rdN la : Int) * rdA la ≤ bl) (h : rdG lb < rdG la) : chooseB la lb bl = (rdG la, (rdA la : Int), (rdI la : Int), (rdN la : Int)) := by
  have t1 : takes la 0 bl (0, 0, 0, 0) = true := by
    have := (okS_iff.1 (getE_ok ha)).1
    simp [takes, ha, pa, sa]; omega
  have t2 : takes lb 1 bl (nextB la 0 bl (0, 0, 0, 0)) = false := by
    rw [nextB_yes t1]; simp [takes]; omega
  rw [chooseB, nextB_no t2, nextB_yes t1]
theorem choose_second {la lb : List UInt8} {bl : Int} (ha : getE la ≠ 0) (hb : getE lb = 0) (pb : rdG lb % 2 = 1) (sb : 2 + (rdN lb : Int) * rdA lb ≤ bl) : chooseB la lb bl = (rdG lb, (rdA lb : Int), (rdI lb : Int), (rdN lb : Int)) := by
  have t1 : takes la 0 bl (0, 0, 0, 0) = false := by simp [takes, ha]
  have t2 : takes lb 1 bl (nextB la 0 bl (0, 0, 0, 0)) = true := by
    have := (okS_iff.1 (getE_ok hb)).1
    rw [nextB_no t1]; simp [takes, hb, pb, sb]; omega
  rw [chooseB, nextB_yes t2]
/-- The block of the two slices. -/
def RowL (w : World) (L : Nat) (u v : Value) : Prop := ∃ T, w.heap[L]? = some (.cells #[u, v] T)
theorem RowL.lt {w : World} {L : Nat} {u v : Value} (h : RowL w L u v) : L < w.heap.size := by obtain ⟨T, h⟩ := h; exact (Array.getElem?_eq_some_iff.1 h).1
theorem RowL.up {w w' : World} {L : Nat} {u v : Value} (h : RowL w L u v) (hb : Below w.heap.size w w') : RowL w' L u v := by
  have hl := h.lt; obtain ⟨T, h⟩ := h; exact ⟨T, (hb.block _ hl).trans h⟩
theorem RowL.c0 {w : World} {L : Nat} {u v : Value} (h : RowL w L u v) : w.cell? ⟨L, 0, none⟩ = some u := by obtain ⟨T, h⟩ := h; rw [cell_of_row w _ 0 _ _ _ h]; rfl
theorem RowL.c1 {w : World} {L : Nat} {u v : Value} (h : RowL w L u v) : w.cell? ⟨L, 1, none⟩ = some v := by obtain ⟨T, h⟩ := h; rw [cell_of_row w _ 1 _ _ _ h]; rfl
theorem RowL.fr {w : World} {L : Nat} {u v : Value} (h : RowL w L u v) (j : Nat) : w.frozen? ⟨L, j, none⟩ = false := by obtain ⟨T, h⟩ := h; exact frozen_of_row w _ _ _ _ h
theorem RowL.set0 {w : World} {L : Nat} {u v : Value} (h : RowL w L u v) (x : Value) : RowL (w.setCell ⟨L, 0, none⟩ x) L x v := by
  obtain ⟨T, h⟩ := h; exact ⟨T, by rw [heap_setCell_same w L 0 _ _ x h]; rfl⟩
theorem RowL.set1 {w : World} {L : Nat} {u v : Value} (h : RowL w L u v) (x : Value) : RowL (w.setCell ⟨L, 1, none⟩ x) L u x := by
  obtain ⟨T, h⟩ := h; exact ⟨T, by rw [heap_setCell_same w L 1 _ _ x h]; rfl⟩
theorem RowL.other {w : World} {L G j : Nat} {u v : Value} (h : RowL w L u v) (hne : L ≠ G) (x : Value) : RowL (w.setCell ⟨G, j, none⟩ x) L u v := by
  obtain ⟨T, h⟩ := h; exact ⟨T, (heap_setCell_other w ⟨G, j, none⟩ L x hne).trans h⟩
theorem Blk.other {w : World} {L G j : Nat} {t : TypeId} {l : List UInt8} (h : Blk w L t l) (hne : L ≠ G) (x : Value) : Blk (w.setCell ⟨G, j, none⟩ x) L t l :=
  (heap_setCell_other w ⟨G, j, none⟩ L x hne).trans h
theorem Two.other {w0 w : World} {g a i n x y z : Int} (h : Two w0 g a i n x y z w) {G j : Nat} (hG : w0.heap.size + 1 < G) (v : Value) : Two w0 g a i n x y z (w.setCell ⟨G, j, none⟩ v) :=
  ⟨h.s.putb (by omega) _, (heap_setCell_other w ⟨G, j, none⟩ _ v (by show _ ≠ G; omega)).trans h.q, h.b.setCell (p := ⟨G, j, none⟩) (by show w0.heap.size ≤ G; omega) _⟩
theorem make_two {w0 w : World} {g a i n h x y z : Int} {P : Nat} (hT : Two w0 g a i n x y z w) (hR : Row4 w P 30 h x y z) : ∃ w1 L, (Instr.makeSlice 51 (.int .i64 2) (.int .i64 2)).run Tryd.prog w = .ok (.slice (some ⟨L, 0, none⟩) 2 2) w1 ∧ Hid (Two w0 g a i n x y z w1) ∧ Hid (Row4 w1 P 30 h x y z) ∧ Hid (RowL w1 L (.slice none 0 0) (.slice none 0 0)) ∧ P < L := by
  have hmk : ∀ wx : World, (Instr.makeSlice 51 (.int .i64 2) (.int .i64 2)).run Tryd.prog wx = .ok (.slice (some ⟨wx.heap.size, 0, none⟩) 2 2) (wx.alloc (.cells #[.slice none 0 0, .slice none 0 0] 26)) := fun _ => by kernel_rfl
  have al : Below w.heap.size w (w.alloc (.cells #[.slice none 0 0, .slice none 0 0] 26)) := (Below.refl _ _).alloc (Nat.le_refl _) _
  exact ⟨_, _, hmk w, hT.up al, hR.up al, ⟨26, heap_alloc_new _ _⟩, hR.lt⟩
theorem count_two (p : Int) (hp : p = 0 ∨ p = 1) (w : World) : Calls Tryd.prog 20 #[.int .i64 p, .int .i64 2] w fun e w' => e = .returned (.int .i64 p) ∧ w' = w := by
  rcases hp with rfl | rfl
  · go_enter Tryd.func20, Tryd.ntmps20
    go_wp2
    go_ret
    exact ⟨rfl, rfl⟩
  · go_enter Tryd.func20, Tryd.ntmps20
    go_wp2
    go_ret
    exact ⟨rfl, rfl⟩
/-- What lies in memory while the law goes on. -/
structure Big (w0 : World) (g a i n h x y z : Int) (P L A B : Nat) (la lb : List UInt8) (w : World) : Prop where
  two : Two w0 g a i n x y z w
  t : Row4 w P 30 h x y z
  l : RowL w L (.slice (some ⟨A, 0, none⟩) 256 256) (.slice (some ⟨B, 0, none⟩) 256 256)
  a : Blk w A 55 la
  b : Blk w B 55 lb
theorem Big.up {w0 w w' : World} {g a i n h x y z : Int} {P L A B : Nat} {la lb : List UInt8} (H : Big w0 g a i n h x y z P L A B la lb w) (hb : Below w.heap.size w w') : Big w0 g a i n h x y z P L A B la lb w' :=
  ⟨H.two.up hb, H.t.up hb, H.l.up hb, H.a.up hb, H.b.up hb⟩
/-- Q is none of the blocks. -/
structure Apart (w0 : World) (P L A B Q : Nat) : Prop where
  o : w0.heap.size + 1 < Q
  p : P ≠ Q
  l : L ≠ Q
  a : A ≠ Q
  b : B ≠ Q
theorem Big.lt {w0 w : World} {g a i n h x y z : Int} {P L A B : Nat} {la lb : List UInt8} (H : Big w0 g a i n h x y z P L A B la lb w) : Apart w0 P L A B w.heap.size :=
  ⟨H.two.lt, Nat.ne_of_lt H.t.lt, Nat.ne_of_lt H.l.lt, Nat.ne_of_lt H.a.lt, Nat.ne_of_lt H.b.lt⟩
theorem Big.set4 {w0 w : World} {g a i n h x y z : Int} {P L A B : Nat} {la lb : List UInt8} (H : Big w0 g a i n h x y z P L A B la lb w) {Q : Nat} (q : Apart w0 P L A B Q) (u v s t : Value) : Big w0 g a i n h x y z P L A B la lb ((((w.setCell ⟨Q, 0, none⟩ u).setCell ⟨Q, 1, none⟩ v).setCell ⟨Q, 2, none⟩ s).setCell ⟨Q, 3, none⟩ t) :=
  ⟨H.two.set4 q.o _ _ _ _, H.t.other q.p _ _ _ _, (((H.l.other q.l _).other q.l _).other q.l _).other q.l _, (((H.a.other q.a _).other q.a _).other q.a _).other q.a _, (((H.b.other q.b _).other q.b _).other q.b _).other q.b _⟩
theorem Big.putA {w0 w : World} {g a i n h x y z : Int} {P L A B : Nat} {la lb : List UInt8} (H : Big w0 g a i n h x y z P L A B la lb w) (h1 : w0.heap.size + 1 < A) (h2 : P ≠ A) (h3 : L ≠ A) (h4 : B ≠ A) (m : Nat) (c : UInt8) : Big w0 g a i n h x y z P L A B (la.set m c) lb (w.setCell ⟨A, m, none⟩ (bv c)) :=
  ⟨H.two.other h1 _, H.t.putb h2 _, H.l.other h3 _, H.a.store m c, H.b.other h4 _⟩
theorem Big.putB {w0 w : World} {g a i n h x y z : Int} {P L A B : Nat} {la lb : List UInt8} (H : Big w0 g a i n h x y z P L A B la lb w) (h1 : w0.heap.size + 1 < B) (h2 : P ≠ B) (h3 : L ≠ B) (h4 : A ≠ B) (m : Nat) (c : UInt8) : Big w0 g a i n h x y z P L A B la (lb.set m c) (w.setCell ⟨B, m, none⟩ (bv c)) :=
  ⟨H.two.other h1 _, H.t.putb h2 _, H.l.other h3 _, H.a.other h4 _, H.b.store m c⟩
theorem Big.chooses {w0 w : World} {g a i n h x y z : Int} {P L A B : Nat} {la lb : List UInt8} (ht : Tab w0) (H : Big w0 g a i n h x y z P L A B la lb w) (hla : la.length = 256) (hlb : lb.length = 256) (bl G X Y Z : Int) (hc : chooseB la lb bl = (G, X, Y, Z)) (p : Int) (hp : G % 2 = p) (hG : G ≠ 0) :
    Calls Tryd.prog 16 #[.slice (some ⟨A, 0, none⟩) 256 256, .slice (some ⟨B, 0, none⟩) 256 256, .int .i64 bl] w fun e w' => e = .returned (.tuple #[.agg #[.int .i64 G, .int .i64 X, .int .i64 Y, .int .i64 Z], .int .i64 p, .int .i64 0]) ∧ Below w.heap.size w w' := by
  have hT := ht.below H.two.b (block_lt_of_cell (ht 0 (by omega)))
  have h9 := choose_any (some ⟨A, 0, none⟩) (some ⟨B, 0, none⟩) 256 256 256 256 la lb bl w (H.a.says hla hT) (H.b.says hlb hT)
  rw [hc, show chE (G, X, Y, Z) = 0 from if_neg hG] at h9
  rw [← hp]; exact h9
theorem ch_odd {g a i n h x y z : Nat} (hok : okS g a i n = true) (hok2 : okS h x y z = true) (hh : h = g + 1) (hp : h % 2 = 1) {S1 S2 : Int} (h1 : S1 = 2 + (z : Int) * x) (h2 : S2 = 2 + (n : Int) * a) : chooseB (putL g a i n) (putL h x y z) (S1 + S2) = ((h : Int), (x : Int), (y : Int), (z : Int)) := by
  obtain ⟨a1, a2, a3, a4, a5⟩ := get_put g a i n hok
  obtain ⟨b1, b2, b3, b4, b5⟩ := get_put h x y z hok2
  have p1 := (okS_iff.1 hok).2.2.prod
  have p2 := (okS_iff.1 hok2).2.2.prod
  rw [choose_both a5 b5 (by rw [a1]; omega) (by rw [b1]; omega) (by rw [a4, a2]; omega) (by rw [b4, b2]; omega) (by rw [a1, b1]; omega), b1, b2, b3, b4]
theorem ch_odd2 {g a i n h : Nat} (hok : okS g a i n = true) (hh : h = g + 1) (hp : h % 2 = 1) {S1 S2 : Int} {l : List UInt8} (hl : getE l ≠ 0) (h1 : 0 ≤ S1) (h2 : S2 = 2 + (n : Int) * a) : chooseB (putL g a i n) l (S1 + S2) = ((g : Int), (a : Int), (i : Int), (n : Int)) := by
  obtain ⟨a1, a2, a3, a4, a5⟩ := get_put g a i n hok
  rw [choose_first a5 hl (by rw [a1]; omega) (by rw [a4, a2]; omega), a1, a2, a3, a4]
theorem ch_even {g a i n h x y z : Nat} (hok : okS g a i n = true) (hok2 : okS h x y z = true) (hh : h = g + 1) (hp : h % 2 = 0) {S1 S2 : Int} (h1 : S1 = 2 + (z : Int) * x) (h2 : S2 = 2 + (n : Int) * a) : chooseB (putL h x y z) (putL g a i n) (S1 + S2) = ((h : Int), (x : Int), (y : Int), (z : Int)) := by
  obtain ⟨a1, a2, a3, a4, a5⟩ := get_put g a i n hok
  obtain ⟨b1, b2, b3, b4, b5⟩ := get_put h x y z hok2
  have p1 := (okS_iff.1 hok).2.2.prod
  have p2 := (okS_iff.1 hok2).2.2.prod
  rw [choose_new b5 (by rw [b1]; omega) (by rw [b4, b2]; omega) (by rw [a1, b1]; omega), b1, b2, b3, b4]
theorem ch_even2 {g a i n h : Nat} (hok : okS g a i n = true) (hh : h = g + 1) (hp : h % 2 = 0) {S1 S2 : Int} {l : List UInt8} (hl : getE l ≠ 0) (h1 : 0 ≤ S1) (h2 : S2 = 2 + (n : Int) * a) : chooseB l (putL g a i n) (S1 + S2) = ((g : Int), (a : Int), (i : Int), (n : Int)) := by
  obtain ⟨a1, a2, a3, a4, a5⟩ := get_put g a i n hok
  rw [choose_second hl a5 (by rw [a1]; omega) (by rw [a4, a2]; omega), a1, a2, a3, a4]
set_option maxRecDepth 100000 in
set_option maxHeartbeats 8000000 in
theorem nextw_odd (g a i n h x y z : Nat) (k : Int) (c : UInt8) (w : World) (ht : Tab w) (hk : -9223372036854775808 ≤ k ∧ k ≤ 9223372036854775807) (hok : okS g a i n = true) (hok2 : okS h x y z = true) (hh : Hid (h = g + 1)) (hpar : Hid (h % 2 = 1)) (NX : ∀ W, Calls Tryd.prog 18 #[.agg #[.int .i64 (g : Int), .int .i64 (a : Int), .int .i64 (i : Int), .int .i64 (n : Int)], .agg #[.int .i64 (x : Int), .int .i64 (y : Int), .int .i64 (z : Int)]] W fun e w' => e = .returned (.tuple #[.agg #[.int .i64 (h : Int), .int .i64 (x : Int), .int .i64 (y : Int), .int .i64 (z : Int)], .int .i64 1, .int .i64 0]) ∧ Below W.heap.size W w') :
    Calls Tryd.prog 6 #[.agg #[.int .i64 (g : Int), .int .i64 (a : Int), .int .i64 (i : Int), .int .i64 (n : Int)], .agg #[.int .i64 (x : Int), .int .i64 (y : Int), .int .i64 (z : Int)], .int .i64 k, .int .u8 (c.toNat : Int)] w fun e w' => e = .returned (.bool true) ∧ Below w.heap.size w w' := by
  have hw0 : 0 < w.heap.size := block_lt_of_cell (ht 0 (by omega))
  have GV := given_any g a i n
  have hd : Two w g a i n x y z ((w.alloc (.cells #[.int .i64 (g : Int), .int .i64 (a : Int), .int .i64 (i : Int), .int .i64 (n : Int)] 25)).alloc (.cells #[.int .i64 (x : Int), .int .i64 (y : Int), .int .i64 (z : Int)] 23)).drew := (two0 g a i n x y z w).up (Below.refl _ _).drew
  have hsz0 : ((w.alloc (.cells #[.int .i64 (g : Int), .int .i64 (a : Int), .int .i64 (i : Int), .int .i64 (n : Int)] 25)).alloc (.cells #[.int .i64 (x : Int), .int .i64 (y : Int), .int .i64 (z : Int)] 23)).drew.heap.size = w.heap.size + 1 + 1 := by show ((w.heap.push _).push _).size = _; simp
  go_enter Tryd.func6, Tryd.ntmps6
  go_wp2_with fail
  go_cut [9, 10, 11] from 25 (fun s9 s10 s11 wc => ∃ P, s9 = .pointer (some ⟨P, 0, none⟩) ∧ s10 = .int .i64 1 ∧ s11 = .int .i64 0 ∧ Two w g a i n x y z wc ∧ Row4 wc P 30 h x y z ∧ w.heap.size + 1 < P)
  case first =>
    refine wp_region_held_drew (S := (fun w' => Two w g a i n x y z w')) (by kernel_rfl) hd (fun hH => ?_)
    refine takeH (i := 0) (dst := some 26) (v := ?v1001) rfl rfl (by kernel_rfl) (by kernel_rfl) (by kernel_rfl) (fun _ _ _ h => h) rfl ?hy1001 hH rfl ?rest1001
    case hy1001 => (intro W hW; have q0 := hW.s.c0; have q1 := hW.s.c1; have q2 := hW.s.c2; have q3 := hW.s.c3; have y0 := hW.q0; have y1 := hW.q1; have y2 := hW.q2; clear hW; go_simp; try with_reducible rfl)
    (try simp only [Act.put, List.setIfInBounds_toArray, List.set_cons_zero, List.set_cons_succ])
    refine takeH (i := 2) (dst := some 28) (v := ?v1002) rfl rfl (by kernel_rfl) (by kernel_rfl) (by kernel_rfl) (fun _ _ _ h => h) rfl ?hy1002 hH rfl ?rest1002
    case hy1002 => (intro W hW; have q0 := hW.s.c0; have q1 := hW.s.c1; have q2 := hW.s.c2; have q3 := hW.s.c3; have y0 := hW.q0; have y1 := hW.q1; have y2 := hW.q2; clear hW; go_simp; try with_reducible rfl)
    (try simp only [Act.put, List.setIfInBounds_toArray, List.set_cons_zero, List.set_cons_succ])
    refine callH2 (i := 1) (j := 8) { dst := some 27, op := Go.Op.call { callee := Go.Callee.value (Go.Operand.func 8), args := #[Go.Operand.tmp 26], argTypes := #[25] }, type := 30, pos := "law.go:76", after := #[{ on := 0, ground := Go.Ground.data }], guard := none } { dst := some 9, op := Go.Op.alloc 30, type := 0, pos := "law.go:76", after := #[], guard := none } (by kernel_rfl) rfl rfl rfl rfl (fun K hK => ?_) (fun K hK => ?_)
    · go_simp
      refine (GV _).mono ?_
      rintro e v1003 ⟨rfl, b1003⟩
      have d1003 := hH.up b1003
      clear hH
      refine hK.out _ _ d1003 (fun hH => ?_)
      clear hK K
      (try simp only [Act.put, List.setIfInBounds_toArray, List.set_cons_zero, List.set_cons_succ])
      refine callH2 (i := 3) (j := 8) { dst := some 29, op := Go.Op.call { callee := Go.Callee.value (Go.Operand.func 18), args := #[Go.Operand.tmp 27, Go.Operand.tmp 28], argTypes := #[30, 23] }, type := 42, pos := "law.go:76", after := #[{ on := 1, ground := Go.Ground.data }, { on := 2, ground := Go.Ground.data }, { on := 1, ground := Go.Ground.chain }], guard := none } { dst := some 9, op := Go.Op.alloc 30, type := 0, pos := "law.go:76", after := #[], guard := none } (by kernel_rfl) rfl rfl rfl rfl (fun K hK => ?_) (fun K hK => ?_)
      · go_simp
        refine (NX _).mono ?_
        rintro e v1004 ⟨rfl, b1004⟩
        have d1004 := hH.up b1004
        clear hH
        refine hK.out _ _ d1004 (fun hH => ?_)
        clear hK K
        (try simp only [Act.put, List.setIfInBounds_toArray, List.set_cons_zero, List.set_cons_succ])
        refine takeH (i := 4) (dst := some 25) (v := ?v1005) rfl rfl (by kernel_rfl) (by kernel_rfl) (by kernel_rfl) (fun _ _ _ h => h) rfl ?hy1005 hH rfl ?rest1005
        case hy1005 => (intro W hW; have q0 := hW.s.c0; have q1 := hW.s.c1; have q2 := hW.s.c2; have q3 := hW.s.c3; have y0 := hW.q0; have y1 := hW.q1; have y2 := hW.q2; clear hW; go_simp; try with_reducible rfl)
        (try simp only [Act.put, List.setIfInBounds_toArray, List.set_cons_zero, List.set_cons_succ])
        refine takeH (i := 5) (dst := some 30) (v := ?v1006) rfl rfl (by kernel_rfl) (by kernel_rfl) (by kernel_rfl) (fun _ _ _ h => h) rfl ?hy1006 hH rfl ?rest1006
        case hy1006 => (intro W hW; have q0 := hW.s.c0; have q1 := hW.s.c1; have q2 := hW.s.c2; have q3 := hW.s.c3; have y0 := hW.q0; have y1 := hW.q1; have y2 := hW.q2; clear hW; go_simp; try with_reducible rfl)
        (try simp only [Act.put, List.setIfInBounds_toArray, List.set_cons_zero, List.set_cons_succ])
        refine takeH (i := 6) (dst := some 31) (v := ?v1007) rfl rfl (by kernel_rfl) (by kernel_rfl) (by kernel_rfl) (fun _ _ _ h => h) rfl ?hy1007 hH rfl ?rest1007
        case hy1007 => (intro W hW; have q0 := hW.s.c0; have q1 := hW.s.c1; have q2 := hW.s.c2; have q3 := hW.s.c3; have y0 := hW.q0; have y1 := hW.q1; have y2 := hW.q2; clear hW; go_simp; try with_reducible rfl)
        (try simp only [Act.put, List.setIfInBounds_toArray, List.set_cons_zero, List.set_cons_succ])
        refine takeH (i := 7) (dst := some 32) (v := ?v1008) rfl rfl (by kernel_rfl) (by kernel_rfl) (by kernel_rfl) (fun _ _ _ h => h) rfl ?hy1008 hH rfl ?rest1008
        case hy1008 => (intro W hW; have q0 := hW.s.c0; have q1 := hW.s.c1; have q2 := hW.s.c2; have q3 := hW.s.c3; have y0 := hW.q0; have y1 := hW.q1; have y2 := hW.q2; clear hW; go_simp; try with_reducible rfl)
        (try simp only [Act.put, List.setIfInBounds_toArray, List.set_cons_zero, List.set_cons_succ])
        refine callH (i := 8) { dst := some 9, op := Go.Op.alloc 30, type := 0, pos := "law.go:76", after := #[], guard := none } (by kernel_rfl) rfl rfl (fun K hK => ?_)
        go_simp
        have al1009 : Below v1004.heap.size v1004 (v1004.alloc (.cells #[.int .i64 0, .int .i64 0, .int .i64 0, .int .i64 0] 30)) := (Below.refl _ _).alloc (Nat.le_refl _) _
        have hPL := hH.lt
        have d1009 := hH.up al1009
        have row1009 : Row4 (v1004.alloc (.cells #[.int .i64 0, .int .i64 0, .int .i64 0, .int .i64 0] 30)) v1004.heap.size 30 0 0 0 0 := heap_alloc_new _ _
        clear al1009
        obtain ⟨nw1009, hnw1009⟩ : ∃ nw, Hid (nw = v1004.alloc (.cells #[.int .i64 0, .int .i64 0, .int .i64 0, .int .i64 0] 30)) := ⟨_, rfl⟩
        rw [← hnw1009.out] at d1009 row1009 ⊢
        clear hH
        refine hK.out _ _ d1009 (fun hH => ?_)
        clear hK K
        (try simp only [Act.put, List.setIfInBounds_toArray, List.set_cons_zero, List.set_cons_succ])
        have r0 := row1009.c0
        have r1 := row1009.c1
        have r2 := row1009.c2
        have r3 := row1009.c3
        have f0 := row1009.fr 0
        have f1 := row1009.fr 1
        have f2 := row1009.fr 2
        have f3 := row1009.fr 3
        have hPl := hPL
        have dS := hH.set4 hPl (.int .i64 h) (.int .i64 x) (.int .i64 y) (.int .i64 z)
        have dR := row1009.set h x y z
        refine callH (i := 9) { dst := none, op := Go.Op.store 30 (Go.Operand.tmp 9) (Go.Operand.tmp 30), type := 0, pos := "law.go:76", after := #[{ on := 8, ground := Go.Ground.data }, { on := 5, ground := Go.Ground.data }, { on := 3, ground := Go.Ground.chain }, { on := 0, ground := Go.Ground.phase }, { on := 1, ground := Go.Ground.phase }, { on := 2, ground := Go.Ground.phase }, { on := 3, ground := Go.Ground.phase }, { on := 4, ground := Go.Ground.phase }, { on := 5, ground := Go.Ground.phase }, { on := 6, ground := Go.Ground.textOnly Go.Departure.lateStores }, { on := 7, ground := Go.Ground.textOnly Go.Departure.lateStores }, { on := 8, ground := Go.Ground.phase }], guard := none } (by kernel_rfl) rfl rfl (fun K hK => ?_)
        go_simp
        clear hH
        refine hK.out _ _ dS (fun hH => ?_)
        clear hK K
        (try simp only [Act.put, List.setIfInBounds_toArray, List.set_cons_zero, List.set_cons_succ])
        refine takeH (i := 10) (dst := some 10) (v := ?v1010) rfl rfl (by kernel_rfl) (by kernel_rfl) (by kernel_rfl) (fun _ _ _ h => h) rfl ?hy1010 hH rfl ?rest1010
        case hy1010 => (intro W hW; have q0 := hW.s.c0; have q1 := hW.s.c1; have q2 := hW.s.c2; have q3 := hW.s.c3; have y0 := hW.q0; have y1 := hW.q1; have y2 := hW.q2; clear hW; go_simp; try with_reducible rfl)
        (try simp only [Act.put, List.setIfInBounds_toArray, List.set_cons_zero, List.set_cons_succ])
        refine takeH (i := 11) (dst := some 11) (v := ?v1011) rfl rfl (by kernel_rfl) (by kernel_rfl) (by kernel_rfl) (fun _ _ _ h => h) rfl ?hy1011 hH rfl ?rest1011
        case hy1011 => (intro W hW; have q0 := hW.s.c0; have q1 := hW.s.c1; have q2 := hW.s.c2; have q3 := hW.s.c3; have y0 := hW.q0; have y1 := hW.q1; have y2 := hW.q2; clear hW; go_simp; try with_reducible rfl)
        (try simp only [Act.put, List.setIfInBounds_toArray, List.set_cons_zero, List.set_cons_succ])
        refine wpAnyH_done (by kernel_rfl) ?_ _
        go_wp2_with fail
        go_meet
        case rel => exact ⟨_, rfl, rfl, rfl, dS, dR, hPl⟩
      · go_simp
        have al1012 : Below v1003.heap.size v1003 (v1003.alloc (.cells #[.int .i64 0, .int .i64 0, .int .i64 0, .int .i64 0] 30)) := (Below.refl _ _).alloc (Nat.le_refl _) _
        have hPL := hH.lt
        have d1012 := hH.up al1012
        have row1012 : Row4 (v1003.alloc (.cells #[.int .i64 0, .int .i64 0, .int .i64 0, .int .i64 0] 30)) v1003.heap.size 30 0 0 0 0 := heap_alloc_new _ _
        clear al1012
        obtain ⟨nw1012, hnw1012⟩ : ∃ nw, Hid (nw = v1003.alloc (.cells #[.int .i64 0, .int .i64 0, .int .i64 0, .int .i64 0] 30)) := ⟨_, rfl⟩
        rw [← hnw1012.out] at d1012 row1012 ⊢
        clear hH
        refine hK.out _ _ d1012 (fun hH => ?_)
        clear hK K
        (try simp only [Act.put, List.setIfInBounds_toArray, List.set_cons_zero, List.set_cons_succ])
        refine callH (i := 3) { dst := some 29, op := Go.Op.call { callee := Go.Callee.value (Go.Operand.func 18), args := #[Go.Operand.tmp 27, Go.Operand.tmp 28], argTypes := #[30, 23] }, type := 42, pos := "law.go:76", after := #[{ on := 1, ground := Go.Ground.data }, { on := 2, ground := Go.Ground.data }, { on := 1, ground := Go.Ground.chain }], guard := none } (by kernel_rfl) rfl rfl (fun K hK => ?_)
        go_simp
        refine (NX _).mono ?_
        rintro e v1013 ⟨rfl, b1013⟩
        have d1013 := hH.up b1013
        have row1013 := row1012.up b1013
        clear hH
        refine hK.out _ _ d1013 (fun hH => ?_)
        clear hK K
        (try simp only [Act.put, List.setIfInBounds_toArray, List.set_cons_zero, List.set_cons_succ])
        refine takeH (i := 4) (dst := some 25) (v := ?v1014) rfl rfl (by kernel_rfl) (by kernel_rfl) (by kernel_rfl) (fun _ _ _ h => h) rfl ?hy1014 hH rfl ?rest1014
        case hy1014 => (intro W hW; have q0 := hW.s.c0; have q1 := hW.s.c1; have q2 := hW.s.c2; have q3 := hW.s.c3; have y0 := hW.q0; have y1 := hW.q1; have y2 := hW.q2; clear hW; go_simp; try with_reducible rfl)
        (try simp only [Act.put, List.setIfInBounds_toArray, List.set_cons_zero, List.set_cons_succ])
        refine takeH (i := 5) (dst := some 30) (v := ?v1015) rfl rfl (by kernel_rfl) (by kernel_rfl) (by kernel_rfl) (fun _ _ _ h => h) rfl ?hy1015 hH rfl ?rest1015
        case hy1015 => (intro W hW; have q0 := hW.s.c0; have q1 := hW.s.c1; have q2 := hW.s.c2; have q3 := hW.s.c3; have y0 := hW.q0; have y1 := hW.q1; have y2 := hW.q2; clear hW; go_simp; try with_reducible rfl)
        (try simp only [Act.put, List.setIfInBounds_toArray, List.set_cons_zero, List.set_cons_succ])
        refine takeH (i := 6) (dst := some 31) (v := ?v1016) rfl rfl (by kernel_rfl) (by kernel_rfl) (by kernel_rfl) (fun _ _ _ h => h) rfl ?hy1016 hH rfl ?rest1016
        case hy1016 => (intro W hW; have q0 := hW.s.c0; have q1 := hW.s.c1; have q2 := hW.s.c2; have q3 := hW.s.c3; have y0 := hW.q0; have y1 := hW.q1; have y2 := hW.q2; clear hW; go_simp; try with_reducible rfl)
        (try simp only [Act.put, List.setIfInBounds_toArray, List.set_cons_zero, List.set_cons_succ])
        refine takeH (i := 7) (dst := some 32) (v := ?v1017) rfl rfl (by kernel_rfl) (by kernel_rfl) (by kernel_rfl) (fun _ _ _ h => h) rfl ?hy1017 hH rfl ?rest1017
        case hy1017 => (intro W hW; have q0 := hW.s.c0; have q1 := hW.s.c1; have q2 := hW.s.c2; have q3 := hW.s.c3; have y0 := hW.q0; have y1 := hW.q1; have y2 := hW.q2; clear hW; go_simp; try with_reducible rfl)
        (try simp only [Act.put, List.setIfInBounds_toArray, List.set_cons_zero, List.set_cons_succ])
        have r0 := row1013.c0
        have r1 := row1013.c1
        have r2 := row1013.c2
        have r3 := row1013.c3
        have f0 := row1013.fr 0
        have f1 := row1013.fr 1
        have f2 := row1013.fr 2
        have f3 := row1013.fr 3
        have hPl := hPL
        have dS := hH.set4 hPl (.int .i64 h) (.int .i64 x) (.int .i64 y) (.int .i64 z)
        have dR := row1013.set h x y z
        refine callH (i := 9) { dst := none, op := Go.Op.store 30 (Go.Operand.tmp 9) (Go.Operand.tmp 30), type := 0, pos := "law.go:76", after := #[{ on := 8, ground := Go.Ground.data }, { on := 5, ground := Go.Ground.data }, { on := 3, ground := Go.Ground.chain }, { on := 0, ground := Go.Ground.phase }, { on := 1, ground := Go.Ground.phase }, { on := 2, ground := Go.Ground.phase }, { on := 3, ground := Go.Ground.phase }, { on := 4, ground := Go.Ground.phase }, { on := 5, ground := Go.Ground.phase }, { on := 6, ground := Go.Ground.textOnly Go.Departure.lateStores }, { on := 7, ground := Go.Ground.textOnly Go.Departure.lateStores }, { on := 8, ground := Go.Ground.phase }], guard := none } (by kernel_rfl) rfl rfl (fun K hK => ?_)
        go_simp
        clear hH
        refine hK.out _ _ dS (fun hH => ?_)
        clear hK K
        (try simp only [Act.put, List.setIfInBounds_toArray, List.set_cons_zero, List.set_cons_succ])
        refine takeH (i := 10) (dst := some 10) (v := ?v1018) rfl rfl (by kernel_rfl) (by kernel_rfl) (by kernel_rfl) (fun _ _ _ h => h) rfl ?hy1018 hH rfl ?rest1018
        case hy1018 => (intro W hW; have q0 := hW.s.c0; have q1 := hW.s.c1; have q2 := hW.s.c2; have q3 := hW.s.c3; have y0 := hW.q0; have y1 := hW.q1; have y2 := hW.q2; clear hW; go_simp; try with_reducible rfl)
        (try simp only [Act.put, List.setIfInBounds_toArray, List.set_cons_zero, List.set_cons_succ])
        refine takeH (i := 11) (dst := some 11) (v := ?v1019) rfl rfl (by kernel_rfl) (by kernel_rfl) (by kernel_rfl) (fun _ _ _ h => h) rfl ?hy1019 hH rfl ?rest1019
        case hy1019 => (intro W hW; have q0 := hW.s.c0; have q1 := hW.s.c1; have q2 := hW.s.c2; have q3 := hW.s.c3; have y0 := hW.q0; have y1 := hW.q1; have y2 := hW.q2; clear hW; go_simp; try with_reducible rfl)
        (try simp only [Act.put, List.setIfInBounds_toArray, List.set_cons_zero, List.set_cons_succ])
        refine wpAnyH_done (by kernel_rfl) ?_ _
        go_wp2_with fail
        go_meet
        case rel => exact ⟨_, rfl, rfl, rfl, dS, dR, hPl⟩
    · go_simp
      have al1020 : Below ((w.alloc (.cells #[.int .i64 (g : Int), .int .i64 (a : Int), .int .i64 (i : Int), .int .i64 (n : Int)] 25)).alloc (.cells #[.int .i64 (x : Int), .int .i64 (y : Int), .int .i64 (z : Int)] 23)).drew.heap.size ((w.alloc (.cells #[.int .i64 (g : Int), .int .i64 (a : Int), .int .i64 (i : Int), .int .i64 (n : Int)] 25)).alloc (.cells #[.int .i64 (x : Int), .int .i64 (y : Int), .int .i64 (z : Int)] 23)).drew (((w.alloc (.cells #[.int .i64 (g : Int), .int .i64 (a : Int), .int .i64 (i : Int), .int .i64 (n : Int)] 25)).alloc (.cells #[.int .i64 (x : Int), .int .i64 (y : Int), .int .i64 (z : Int)] 23)).drew.alloc (.cells #[.int .i64 0, .int .i64 0, .int .i64 0, .int .i64 0] 30)) := (Below.refl _ _).alloc (Nat.le_refl _) _
      have hPL := hH.lt
      have d1020 := hH.up al1020
      have row1020 : Row4 (((w.alloc (.cells #[.int .i64 (g : Int), .int .i64 (a : Int), .int .i64 (i : Int), .int .i64 (n : Int)] 25)).alloc (.cells #[.int .i64 (x : Int), .int .i64 (y : Int), .int .i64 (z : Int)] 23)).drew.alloc (.cells #[.int .i64 0, .int .i64 0, .int .i64 0, .int .i64 0] 30)) (w.heap.size + 1 + 1) 30 0 0 0 0 := by have h9 := heap_alloc_new ((w.alloc (.cells #[.int .i64 (g : Int), .int .i64 (a : Int), .int .i64 (i : Int), .int .i64 (n : Int)] 25)).alloc (.cells #[.int .i64 (x : Int), .int .i64 (y : Int), .int .i64 (z : Int)] 23)).drew (.cells #[.int .i64 0, .int .i64 0, .int .i64 0, .int .i64 0] 30); rw [hsz0] at h9; exact h9
      rw [hsz0] at hPL
      clear hH
      refine hK.out _ _ d1020 (fun hH => ?_)
      clear hK K
      (try simp only [Act.put, List.setIfInBounds_toArray, List.set_cons_zero, List.set_cons_succ])
      refine callH (i := 1) { dst := some 27, op := Go.Op.call { callee := Go.Callee.value (Go.Operand.func 8), args := #[Go.Operand.tmp 26], argTypes := #[25] }, type := 30, pos := "law.go:76", after := #[{ on := 0, ground := Go.Ground.data }], guard := none } (by kernel_rfl) rfl rfl (fun K hK => ?_)
      go_simp
      refine (GV _).mono ?_
      rintro e v1021 ⟨rfl, b1021⟩
      have d1021 := hH.up b1021
      have row1021 := row1020.up b1021
      clear hH
      refine hK.out _ _ d1021 (fun hH => ?_)
      clear hK K
      (try simp only [Act.put, List.setIfInBounds_toArray, List.set_cons_zero, List.set_cons_succ])
      refine callH (i := 3) { dst := some 29, op := Go.Op.call { callee := Go.Callee.value (Go.Operand.func 18), args := #[Go.Operand.tmp 27, Go.Operand.tmp 28], argTypes := #[30, 23] }, type := 42, pos := "law.go:76", after := #[{ on := 1, ground := Go.Ground.data }, { on := 2, ground := Go.Ground.data }, { on := 1, ground := Go.Ground.chain }], guard := none } (by kernel_rfl) rfl rfl (fun K hK => ?_)
      go_simp
      refine (NX _).mono ?_
      rintro e v1022 ⟨rfl, b1022⟩
      have d1022 := hH.up b1022
      have row1022 := row1021.up b1022
      clear hH
      refine hK.out _ _ d1022 (fun hH => ?_)
      clear hK K
      (try simp only [Act.put, List.setIfInBounds_toArray, List.set_cons_zero, List.set_cons_succ])
      refine takeH (i := 4) (dst := some 25) (v := ?v1023) rfl rfl (by kernel_rfl) (by kernel_rfl) (by kernel_rfl) (fun _ _ _ h => h) rfl ?hy1023 hH rfl ?rest1023
      case hy1023 => (intro W hW; have q0 := hW.s.c0; have q1 := hW.s.c1; have q2 := hW.s.c2; have q3 := hW.s.c3; have y0 := hW.q0; have y1 := hW.q1; have y2 := hW.q2; clear hW; go_simp; try with_reducible rfl)
      (try simp only [Act.put, List.setIfInBounds_toArray, List.set_cons_zero, List.set_cons_succ])
      refine takeH (i := 5) (dst := some 30) (v := ?v1024) rfl rfl (by kernel_rfl) (by kernel_rfl) (by kernel_rfl) (fun _ _ _ h => h) rfl ?hy1024 hH rfl ?rest1024
      case hy1024 => (intro W hW; have q0 := hW.s.c0; have q1 := hW.s.c1; have q2 := hW.s.c2; have q3 := hW.s.c3; have y0 := hW.q0; have y1 := hW.q1; have y2 := hW.q2; clear hW; go_simp; try with_reducible rfl)
      (try simp only [Act.put, List.setIfInBounds_toArray, List.set_cons_zero, List.set_cons_succ])
      refine takeH (i := 6) (dst := some 31) (v := ?v1025) rfl rfl (by kernel_rfl) (by kernel_rfl) (by kernel_rfl) (fun _ _ _ h => h) rfl ?hy1025 hH rfl ?rest1025
      case hy1025 => (intro W hW; have q0 := hW.s.c0; have q1 := hW.s.c1; have q2 := hW.s.c2; have q3 := hW.s.c3; have y0 := hW.q0; have y1 := hW.q1; have y2 := hW.q2; clear hW; go_simp; try with_reducible rfl)
      (try simp only [Act.put, List.setIfInBounds_toArray, List.set_cons_zero, List.set_cons_succ])
      refine takeH (i := 7) (dst := some 32) (v := ?v1026) rfl rfl (by kernel_rfl) (by kernel_rfl) (by kernel_rfl) (fun _ _ _ h => h) rfl ?hy1026 hH rfl ?rest1026
      case hy1026 => (intro W hW; have q0 := hW.s.c0; have q1 := hW.s.c1; have q2 := hW.s.c2; have q3 := hW.s.c3; have y0 := hW.q0; have y1 := hW.q1; have y2 := hW.q2; clear hW; go_simp; try with_reducible rfl)
      (try simp only [Act.put, List.setIfInBounds_toArray, List.set_cons_zero, List.set_cons_succ])
      have r0 := row1022.c0
      have r1 := row1022.c1
      have r2 := row1022.c2
      have r3 := row1022.c3
      have f0 := row1022.fr 0
      have f1 := row1022.fr 1
      have f2 := row1022.fr 2
      have f3 := row1022.fr 3
      have hPl := hPL
      have dS := hH.set4 hPl (.int .i64 h) (.int .i64 x) (.int .i64 y) (.int .i64 z)
      have dR := row1022.set h x y z
      refine callH (i := 9) { dst := none, op := Go.Op.store 30 (Go.Operand.tmp 9) (Go.Operand.tmp 30), type := 0, pos := "law.go:76", after := #[{ on := 8, ground := Go.Ground.data }, { on := 5, ground := Go.Ground.data }, { on := 3, ground := Go.Ground.chain }, { on := 0, ground := Go.Ground.phase }, { on := 1, ground := Go.Ground.phase }, { on := 2, ground := Go.Ground.phase }, { on := 3, ground := Go.Ground.phase }, { on := 4, ground := Go.Ground.phase }, { on := 5, ground := Go.Ground.phase }, { on := 6, ground := Go.Ground.textOnly Go.Departure.lateStores }, { on := 7, ground := Go.Ground.textOnly Go.Departure.lateStores }, { on := 8, ground := Go.Ground.phase }], guard := none } (by kernel_rfl) rfl rfl (fun K hK => ?_)
      go_simp
      clear hH
      refine hK.out _ _ dS (fun hH => ?_)
      clear hK K
      (try simp only [Act.put, List.setIfInBounds_toArray, List.set_cons_zero, List.set_cons_succ])
      refine takeH (i := 10) (dst := some 10) (v := ?v1027) rfl rfl (by kernel_rfl) (by kernel_rfl) (by kernel_rfl) (fun _ _ _ h => h) rfl ?hy1027 hH rfl ?rest1027
      case hy1027 => (intro W hW; have q0 := hW.s.c0; have q1 := hW.s.c1; have q2 := hW.s.c2; have q3 := hW.s.c3; have y0 := hW.q0; have y1 := hW.q1; have y2 := hW.q2; clear hW; go_simp; try with_reducible rfl)
      (try simp only [Act.put, List.setIfInBounds_toArray, List.set_cons_zero, List.set_cons_succ])
      refine takeH (i := 11) (dst := some 11) (v := ?v1028) rfl rfl (by kernel_rfl) (by kernel_rfl) (by kernel_rfl) (fun _ _ _ h => h) rfl ?hy1028 hH rfl ?rest1028
      case hy1028 => (intro W hW; have q0 := hW.s.c0; have q1 := hW.s.c1; have q2 := hW.s.c2; have q3 := hW.s.c3; have y0 := hW.q0; have y1 := hW.q1; have y2 := hW.q2; clear hW; go_simp; try with_reducible rfl)
      (try simp only [Act.put, List.setIfInBounds_toArray, List.set_cons_zero, List.set_cons_succ])
      refine wpAnyH_done (by kernel_rfl) ?_ _
      go_wp2_with fail
      go_meet
      case rel => exact ⟨_, rfl, rfl, rfl, dS, dR, hPl⟩
  case rest =>
    obtain ⟨P, rfl, rfl, rfl, hT, hR, hPl⟩ := hcut
    obtain ⟨w1, L, hmk, HT1, HR1, HL1, hPL⟩ := make_two hT hR
    have c0 := HT1.out.s.c0
    have c1 := HT1.out.s.c1
    have c2 := HT1.out.s.c2
    have c3 := HT1.out.s.c3
    clear hT hR NX hd hsz0
    go_wp2_with fail
    clear c0 c1 c2 c3 hmk
    refine (GV _).mono ?_
    rintro e w2 ⟨rfl, hb2⟩
    have HT2 : Hid (Two w g a i n x y z w2) := HT1.out.up hb2
    have HR2 : Hid (Row4 w2 P 30 h x y z) := HR1.out.up hb2
    have HL2 : Hid (RowL w2 L (.slice none 0 0) (.slice none 0 0)) := HL1.out.up hb2
    have PT := sput_ok g a i n w2 (ht.below HT2.out.b hw0) hok
    clear hb2 HT1 HR1 HL1 GV
    go_wp2_with fail
    refine PT.mono ?_
    rintro e w3 ⟨G, rfl, hG, hGl, hb3⟩
    clear PT
    have hLG : L < G := by have := HL2.out.lt; omega
    have HT3 : Hid (Two w g a i n x y z w3) := HT2.out.up hb3
    have hR3 := HR2.out.up hb3
    have HL3 : Hid (RowL w3 L (.slice none 0 0) (.slice none 0 0)) := HL2.out.up hb3
    have HG3 : Hid (Blk w3 G 55 (putL g a i n)) := hG
    have PT := sput_ok h x y z w3 (ht.below HT3.out.b hw0) hok2
    have c0 := hR3.c0
    have c1 := hR3.c1
    have c2 := hR3.c2
    have c3 := hR3.c3
    have HR3 : Hid (Row4 w3 P 30 h x y z) := hR3
    clear hG hGl hb3 HT2 HR2 HL2 hR3
    go_wp2_with fail
    clear c0 c1 c2 c3
    refine PT.mono ?_
    rintro e w4 ⟨E, rfl, hE, hEl, hb4⟩
    clear PT
    have hGE : G < E := by have := HG3.out.lt; omega
    have HT4 : Hid (Two w g a i n x y z w4) := HT3.out.up hb4
    have hR4 := HR3.out.up hb4
    have hL4 := HL3.out.up hb4
    have HG4 : Hid (Blk w4 G 55 (putL g a i n)) := HG3.out.up hb4
    have HE4 : Hid (Blk w4 E 55 (putL h x y z)) := hE
    have CT := fun W => count_two 1 (by omega) W
    have hrem : Int.tmod (h : Int) 2 = 1 := by have := hpar.out; rw [Int.tmod_eq_emod_of_nonneg (by omega)]; omega
    have hne : L ≠ P := by omega
    have c0 := hR4.c0
    have d0 := hL4.c0
    have d1 := hL4.c1
    have f0 := hL4.fr 0
    have f1 := hL4.fr 1
    have HR4 : Hid (Row4 w4 P 30 h x y z) := hR4
    have HL4 : Hid (RowL w4 L (.slice none 0 0) (.slice none 0 0)) := hL4
    clear hE hEl hb4 HT3 HR3 HL3 HG3 hR4 hL4
    go_wp2_with fail
    refine (CT _).mono ?_
    rintro e w5 ⟨rfl, h5⟩
    rw [h5]
    clear h5 w5 CT hrem
    obtain ⟨w6, HW6⟩ : ∃ w6, Hid (w6 = (w4.setCell ⟨L, 0, none⟩ (.slice (some ⟨G, 0, none⟩) 256 256)).setCell ⟨L, 1, none⟩ (.slice (some ⟨E, 0, none⟩) 256 256)) := ⟨_, rfl⟩
    have HB6 : Hid (Big w g a i n h x y z P L G E (putL g a i n) (putL h x y z) w6) := by
      rw [HW6.out]
      exact ⟨(HT4.out.other (by omega) _).other (by omega) _, (HR4.out.putb hne.symm _).putb hne.symm _, (HL4.out.set0 _).set1 _, (HG4.out.other (by omega) _).other (by omega) _, (HE4.out.other (by omega) _).other (by omega) _⟩
    clear HT4 HR4 HL4 HG4 HE4 c0
    go_upto_region 11 with fail
    rw [show (w4.setCell ⟨L, 0, none⟩ (.slice (some ⟨G, 0, none⟩) 256 256)).setCell ⟨L, 1, none⟩ (.slice (some ⟨E, 0, none⟩) 256 256) = w6 from HW6.out.symm]
    clear d0 d1 f0 f1 HW6
    have hG1 := (okS_iff.1 hok).2.2
    have hG2 := (okS_iff.1 hok2).2.2
    obtain ⟨S1, HS1⟩ : ∃ S1 : Int, Hid (S1 = 2 + (z : Int) * x) := ⟨_, rfl⟩
    obtain ⟨S2, HS2⟩ : ∃ S2 : Int, Hid (S2 = 2 + (n : Int) * a) := ⟨_, rfl⟩
    have RS1 := fun W => rsize_ok hG2 W
    have RS2 := fun W => rsize_ok hG1 W
    rw [← HS1.out] at RS1
    rw [← HS2.out] at RS2
    have i64 : In64 (S1 + S2) := ⟨by have := hG1.prod; have := hG2.prod; rw [HS1.out, HS2.out]; omega⟩
    have hd : Big w g a i n h x y z P L G E (putL g a i n) (putL h x y z) w6.drew := HB6.out.up (Below.refl _ _).drew
    clear HB6 hG1 hG2
    refine wp_region_held_drew (S := (fun w' => Big w g a i n h x y z P L G E (putL g a i n) (putL h x y z) w')) (by kernel_rfl) hd (fun hH => ?_)
    refine takeH (i := 0) (dst := some 71) (v := ?v1) rfl rfl (by kernel_rfl) (by kernel_rfl) (by kernel_rfl) (fun _ _ _ h => h) rfl ?hy1 hH rfl ?rest1
    case hy1 => (intro W hW; have q0 := hW.two.s.c0; have q1 := hW.two.s.c1; have q2 := hW.two.s.c2; have q3 := hW.two.s.c3; have y0 := hW.two.q0; have y1 := hW.two.q1; have y2 := hW.two.q2; clear hW; go_simp; try with_reducible rfl)
    (try simp only [Act.put, List.setIfInBounds_toArray, List.set_cons_zero, List.set_cons_succ])
    refine takeH (i := 2) (dst := some 73) (v := ?v2) rfl rfl (by kernel_rfl) (by kernel_rfl) (by kernel_rfl) (fun _ _ _ h => h) rfl ?hy2 hH rfl ?rest2
    case hy2 => (intro W hW; have q0 := hW.two.s.c0; have q1 := hW.two.s.c1; have q2 := hW.two.s.c2; have q3 := hW.two.s.c3; have y0 := hW.two.q0; have y1 := hW.two.q1; have y2 := hW.two.q2; clear hW; go_simp; try with_reducible rfl)
    (try simp only [Act.put, List.setIfInBounds_toArray, List.set_cons_zero, List.set_cons_succ])
    refine takeH (i := 3) (dst := some 74) (v := ?v3) rfl rfl (by kernel_rfl) (by kernel_rfl) (by kernel_rfl) (fun _ _ _ h => h) rfl ?hy3 hH rfl ?rest3
    case hy3 => (intro W hW; have q0 := hW.two.s.c0; have q1 := hW.two.s.c1; have q2 := hW.two.s.c2; have q3 := hW.two.s.c3; have y0 := hW.two.q0; have y1 := hW.two.q1; have y2 := hW.two.q2; clear hW; go_simp; try with_reducible rfl)
    (try simp only [Act.put, List.setIfInBounds_toArray, List.set_cons_zero, List.set_cons_succ])
    refine callH (i := 1) { dst := some 72, op := Go.Op.call { callee := Go.Callee.value (Go.Operand.func 21), args := #[Go.Operand.tmp 71], argTypes := #[23] }, type := 3, pos := "law.go:88", after := #[{ on := 0, ground := Go.Ground.data }], guard := none } (by kernel_rfl) rfl rfl (fun K hK => ?_)
    go_simp
    refine (RS1 _).mono ?_
    rintro e v1 ⟨rfl, b1⟩
    have d1 := hH.up b1
    clear hH
    refine hK.out _ _ d1 (fun hH => ?_)
    clear hK K
    (try simp only [Act.put, List.setIfInBounds_toArray, List.set_cons_zero, List.set_cons_succ])
    refine callH (i := 4) { dst := some 75, op := Go.Op.call { callee := Go.Callee.value (Go.Operand.func 21), args := #[Go.Operand.tmp 74], argTypes := #[23] }, type := 3, pos := "law.go:88", after := #[{ on := 3, ground := Go.Ground.data }, { on := 1, ground := Go.Ground.chain }], guard := none } (by kernel_rfl) rfl rfl (fun K hK => ?_)
    go_simp
    refine (RS2 _).mono ?_
    rintro e v2 ⟨rfl, b2⟩
    have d2 := d1.up b2
    clear hH
    refine hK.out _ _ d2 (fun hH => ?_)
    clear hK K
    (try simp only [Act.put, List.setIfInBounds_toArray, List.set_cons_zero, List.set_cons_succ])
    refine takeH (i := 5) (dst := some 76) (v := ?v4) rfl rfl (by kernel_rfl) (by kernel_rfl) (by kernel_rfl) (fun _ _ _ h => h) rfl ?hy4 hH rfl ?rest4
    case hy4 => (intro W hW; have q0 := hW.two.s.c0; have q1 := hW.two.s.c1; have q2 := hW.two.s.c2; have q3 := hW.two.s.c3; have y0 := hW.two.q0; have y1 := hW.two.q1; have y2 := hW.two.q2; clear hW; go_simp; try with_reducible rfl)
    (try simp only [Act.put, List.setIfInBounds_toArray, List.set_cons_zero, List.set_cons_succ])
    refine takeH (i := 6) (dst := some 17) (v := ?v5) rfl rfl (by kernel_rfl) (by kernel_rfl) (by kernel_rfl) (fun _ _ _ h => h) rfl ?hy5 hH rfl ?rest5
    case hy5 => (intro W hW; have q0 := hW.two.s.c0; have q1 := hW.two.s.c1; have q2 := hW.two.s.c2; have q3 := hW.two.s.c3; have y0 := hW.two.q0; have y1 := hW.two.q1; have y2 := hW.two.q2; clear hW; go_simp; try with_reducible rfl)
    (try simp only [Act.put, List.setIfInBounds_toArray, List.set_cons_zero, List.set_cons_succ])
    refine wpAnyH_done (by kernel_rfl) ?_ _
    clear hH
    have CH : ∀ W, Big w g a i n h x y z P L G E (putL g a i n) (putL h x y z) W → Calls Tryd.prog 16 #[.slice (some ⟨G, 0, none⟩) 256 256, .slice (some ⟨E, 0, none⟩) 256 256, .int .i64 (S1 + S2)] W fun e w' => e = .returned (.tuple #[.agg #[.int .i64 (h : Int), .int .i64 (x : Int), .int .i64 (y : Int), .int .i64 (z : Int)], .int .i64 1, .int .i64 0]) ∧ Below W.heap.size W w' := fun W H =>
      H.chooses ht (putL_length _ _ _ _) (putL_length _ _ _ _) _ _ _ _ _ (ch_odd hok hok2 hh.out hpar.out HS1.out HS2.out) 1 (by have := hpar.out; omega) (by have := hh.out; omega)
    have hd2 : Big w g a i n h x y z P L G E (putL g a i n) (putL h x y z) v2.drew := d2.up (Below.refl _ _).drew
    have hsz0 : v2.drew.heap.size = v2.heap.size := rfl
    clear d1 d2 b1 b2 hd RS1 RS2 i64
    go_wp2_with fail
    go_cut [18, 19, 20] from 77 (fun s18 s19 s20 wc => ∃ Q, s18 = .pointer (some ⟨Q, 0, none⟩) ∧ s19 = .int .i64 1 ∧ s20 = .int .i64 0 ∧ Big w g a i n h x y z P L G E (putL g a i n) (putL h x y z) wc ∧ Row4 wc Q 30 h x y z)
    case first =>
      refine wp_region_held_drew (S := (fun w' => Big w g a i n h x y z P L G E (putL g a i n) (putL h x y z) w')) (by kernel_rfl) hd2 (fun hH => ?_)
      refine takeH (i := 0) (dst := some 78) (v := ?v1029) rfl rfl (by kernel_rfl) (by kernel_rfl) (by kernel_rfl) (fun _ _ _ h => h) rfl ?hy1029 hH rfl ?rest1029
      case hy1029 => (intro W hW; have l0 := hW.l.c0; have l1 := hW.l.c1; clear hW; go_simp; try with_reducible rfl)
      (try simp only [Act.put, List.setIfInBounds_toArray, List.set_cons_zero, List.set_cons_succ])
      refine takeH (i := 1) (dst := some 79) (v := ?v1030) rfl rfl (by kernel_rfl) (by kernel_rfl) (by kernel_rfl) (fun _ _ _ h => h) rfl ?hy1030 hH rfl ?rest1030
      case hy1030 => (intro W hW; have l0 := hW.l.c0; have l1 := hW.l.c1; clear hW; go_simp; try with_reducible rfl)
      (try simp only [Act.put, List.setIfInBounds_toArray, List.set_cons_zero, List.set_cons_succ])
      refine takeH (i := 2) (dst := some 80) (v := ?v1031) rfl rfl (by kernel_rfl) (by kernel_rfl) (by kernel_rfl) (fun _ _ _ h => h) rfl ?hy1031 hH rfl ?rest1031
      case hy1031 => (intro W hW; have l0 := hW.l.c0; have l1 := hW.l.c1; clear hW; go_simp; try with_reducible rfl)
      (try simp only [Act.put, List.setIfInBounds_toArray, List.set_cons_zero, List.set_cons_succ])
      refine takeH (i := 3) (dst := some 81) (v := ?v1032) rfl rfl (by kernel_rfl) (by kernel_rfl) (by kernel_rfl) (fun _ _ _ h => h) rfl ?hy1032 hH rfl ?rest1032
      case hy1032 => (intro W hW; have l0 := hW.l.c0; have l1 := hW.l.c1; clear hW; go_simp; try with_reducible rfl)
      (try simp only [Act.put, List.setIfInBounds_toArray, List.set_cons_zero, List.set_cons_succ])
      refine takeH (i := 4) (dst := some 82) (v := ?v1033) rfl rfl (by kernel_rfl) (by kernel_rfl) (by kernel_rfl) (fun _ _ _ h => h) rfl ?hy1033 hH rfl ?rest1033
      case hy1033 => (intro W hW; have l0 := hW.l.c0; have l1 := hW.l.c1; clear hW; go_simp; try with_reducible rfl)
      (try simp only [Act.put, List.setIfInBounds_toArray, List.set_cons_zero, List.set_cons_succ])
      refine takeH (i := 5) (dst := some 83) (v := ?v1034) rfl rfl (by kernel_rfl) (by kernel_rfl) (by kernel_rfl) (fun _ _ _ h => h) rfl ?hy1034 hH rfl ?rest1034
      case hy1034 => (intro W hW; have l0 := hW.l.c0; have l1 := hW.l.c1; clear hW; go_simp; try with_reducible rfl)
      (try simp only [Act.put, List.setIfInBounds_toArray, List.set_cons_zero, List.set_cons_succ])
      refine takeH (i := 6) (dst := some 84) (v := ?v1035) rfl rfl (by kernel_rfl) (by kernel_rfl) (by kernel_rfl) (fun _ _ _ h => h) rfl ?hy1035 hH rfl ?rest1035
      case hy1035 => (intro W hW; have l0 := hW.l.c0; have l1 := hW.l.c1; clear hW; go_simp; try with_reducible rfl)
      (try simp only [Act.put, List.setIfInBounds_toArray, List.set_cons_zero, List.set_cons_succ])
      refine callH2 (i := 7) (j := 12) { dst := some 85, op := Go.Op.call { callee := Go.Callee.value (Go.Operand.func 16), args := #[Go.Operand.tmp 80, Go.Operand.tmp 83, Go.Operand.tmp 84], argTypes := #[26, 26, 3] }, type := 42, pos := "law.go:89", after := #[{ on := 2, ground := Go.Ground.data }, { on := 5, ground := Go.Ground.data }, { on := 6, ground := Go.Ground.data }], guard := none } { dst := some 18, op := Go.Op.alloc 30, type := 0, pos := "law.go:89", after := #[], guard := none } (by kernel_rfl) rfl rfl rfl rfl (fun K hK => ?_) (fun K hK => ?_)
      · go_simp
        refine (CH _ hH).mono ?_
        rintro e v1036 ⟨rfl, b1036⟩
        have d1036 := hH.up b1036
        clear hH
        refine hK.out _ _ d1036 (fun hH => ?_)
        clear hK K
        (try simp only [Act.put, List.setIfInBounds_toArray, List.set_cons_zero, List.set_cons_succ])
        refine takeH (i := 8) (dst := some 77) (v := ?v1037) rfl rfl (by kernel_rfl) (by kernel_rfl) (by kernel_rfl) (fun _ _ _ h => h) rfl ?hy1037 hH rfl ?rest1037
        case hy1037 => (intro W hW; have l0 := hW.l.c0; have l1 := hW.l.c1; clear hW; go_simp; try with_reducible rfl)
        (try simp only [Act.put, List.setIfInBounds_toArray, List.set_cons_zero, List.set_cons_succ])
        refine takeH (i := 9) (dst := some 86) (v := ?v1038) rfl rfl (by kernel_rfl) (by kernel_rfl) (by kernel_rfl) (fun _ _ _ h => h) rfl ?hy1038 hH rfl ?rest1038
        case hy1038 => (intro W hW; have l0 := hW.l.c0; have l1 := hW.l.c1; clear hW; go_simp; try with_reducible rfl)
        (try simp only [Act.put, List.setIfInBounds_toArray, List.set_cons_zero, List.set_cons_succ])
        refine takeH (i := 10) (dst := some 87) (v := ?v1039) rfl rfl (by kernel_rfl) (by kernel_rfl) (by kernel_rfl) (fun _ _ _ h => h) rfl ?hy1039 hH rfl ?rest1039
        case hy1039 => (intro W hW; have l0 := hW.l.c0; have l1 := hW.l.c1; clear hW; go_simp; try with_reducible rfl)
        (try simp only [Act.put, List.setIfInBounds_toArray, List.set_cons_zero, List.set_cons_succ])
        refine takeH (i := 11) (dst := some 88) (v := ?v1040) rfl rfl (by kernel_rfl) (by kernel_rfl) (by kernel_rfl) (fun _ _ _ h => h) rfl ?hy1040 hH rfl ?rest1040
        case hy1040 => (intro W hW; have l0 := hW.l.c0; have l1 := hW.l.c1; clear hW; go_simp; try with_reducible rfl)
        (try simp only [Act.put, List.setIfInBounds_toArray, List.set_cons_zero, List.set_cons_succ])
        refine callH (i := 12) { dst := some 18, op := Go.Op.alloc 30, type := 0, pos := "law.go:89", after := #[], guard := none } (by kernel_rfl) rfl rfl (fun K hK => ?_)
        go_simp
        have al1041 : Below v1036.heap.size v1036 (v1036.alloc (.cells #[.int .i64 0, .int .i64 0, .int .i64 0, .int .i64 0] 30)) := (Below.refl _ _).alloc (Nat.le_refl _) _
        have hPL := hH.lt
        have d1041 := hH.up al1041
        have row1041 : Row4 (v1036.alloc (.cells #[.int .i64 0, .int .i64 0, .int .i64 0, .int .i64 0] 30)) v1036.heap.size 30 0 0 0 0 := heap_alloc_new _ _
        clear al1041
        obtain ⟨nw1041, hnw1041⟩ : ∃ nw, Hid (nw = v1036.alloc (.cells #[.int .i64 0, .int .i64 0, .int .i64 0, .int .i64 0] 30)) := ⟨_, rfl⟩
        rw [← hnw1041.out] at d1041 row1041 ⊢
        clear hH
        refine hK.out _ _ d1041 (fun hH => ?_)
        clear hK K
        (try simp only [Act.put, List.setIfInBounds_toArray, List.set_cons_zero, List.set_cons_succ])
        have r0 := row1041.c0
        have r1 := row1041.c1
        have r2 := row1041.c2
        have r3 := row1041.c3
        have f0 := row1041.fr 0
        have f1 := row1041.fr 1
        have f2 := row1041.fr 2
        have f3 := row1041.fr 3
        have hPl := hPL
        have dS := hH.set4 hPl (.int .i64 h) (.int .i64 x) (.int .i64 y) (.int .i64 z)
        have dR := row1041.set h x y z
        refine callH (i := 13) { dst := none, op := Go.Op.store 30 (Go.Operand.tmp 18) (Go.Operand.tmp 86), type := 0, pos := "law.go:89", after := #[{ on := 12, ground := Go.Ground.data }, { on := 9, ground := Go.Ground.data }, { on := 7, ground := Go.Ground.chain }, { on := 0, ground := Go.Ground.phase }, { on := 1, ground := Go.Ground.phase }, { on := 2, ground := Go.Ground.phase }, { on := 3, ground := Go.Ground.phase }, { on := 4, ground := Go.Ground.phase }, { on := 5, ground := Go.Ground.phase }, { on := 6, ground := Go.Ground.phase }, { on := 7, ground := Go.Ground.phase }, { on := 8, ground := Go.Ground.phase }, { on := 9, ground := Go.Ground.phase }, { on := 10, ground := Go.Ground.textOnly Go.Departure.lateStores }, { on := 11, ground := Go.Ground.textOnly Go.Departure.lateStores }, { on := 12, ground := Go.Ground.phase }], guard := none } (by kernel_rfl) rfl rfl (fun K hK => ?_)
        go_simp
        clear hH
        refine hK.out _ _ dS (fun hH => ?_)
        clear hK K
        (try simp only [Act.put, List.setIfInBounds_toArray, List.set_cons_zero, List.set_cons_succ])
        refine takeH (i := 14) (dst := some 19) (v := ?v1042) rfl rfl (by kernel_rfl) (by kernel_rfl) (by kernel_rfl) (fun _ _ _ h => h) rfl ?hy1042 hH rfl ?rest1042
        case hy1042 => (intro W hW; have l0 := hW.l.c0; have l1 := hW.l.c1; clear hW; go_simp; try with_reducible rfl)
        (try simp only [Act.put, List.setIfInBounds_toArray, List.set_cons_zero, List.set_cons_succ])
        refine takeH (i := 15) (dst := some 20) (v := ?v1043) rfl rfl (by kernel_rfl) (by kernel_rfl) (by kernel_rfl) (fun _ _ _ h => h) rfl ?hy1043 hH rfl ?rest1043
        case hy1043 => (intro W hW; have l0 := hW.l.c0; have l1 := hW.l.c1; clear hW; go_simp; try with_reducible rfl)
        (try simp only [Act.put, List.setIfInBounds_toArray, List.set_cons_zero, List.set_cons_succ])
        refine wpAnyH_done (by kernel_rfl) ?_ _
        go_wp2_with fail
        go_meet
        case rel => exact ⟨_, rfl, rfl, rfl, dS, dR⟩
      · go_simp
        have al1044 : Below v2.drew.heap.size v2.drew (v2.drew.alloc (.cells #[.int .i64 0, .int .i64 0, .int .i64 0, .int .i64 0] 30)) := (Below.refl _ _).alloc (Nat.le_refl _) _
        have hPL := hH.lt
        have d1044 := hH.up al1044
        have row1044 : Row4 (v2.drew.alloc (.cells #[.int .i64 0, .int .i64 0, .int .i64 0, .int .i64 0] 30)) v2.heap.size 30 0 0 0 0 := by have h9 := heap_alloc_new v2.drew (.cells #[.int .i64 0, .int .i64 0, .int .i64 0, .int .i64 0] 30); rw [hsz0] at h9; exact h9
        rw [hsz0] at hPL
        clear hH
        refine hK.out _ _ d1044 (fun hH => ?_)
        clear hK K
        (try simp only [Act.put, List.setIfInBounds_toArray, List.set_cons_zero, List.set_cons_succ])
        refine callH (i := 7) { dst := some 85, op := Go.Op.call { callee := Go.Callee.value (Go.Operand.func 16), args := #[Go.Operand.tmp 80, Go.Operand.tmp 83, Go.Operand.tmp 84], argTypes := #[26, 26, 3] }, type := 42, pos := "law.go:89", after := #[{ on := 2, ground := Go.Ground.data }, { on := 5, ground := Go.Ground.data }, { on := 6, ground := Go.Ground.data }], guard := none } (by kernel_rfl) rfl rfl (fun K hK => ?_)
        go_simp
        refine (CH _ hH).mono ?_
        rintro e v1045 ⟨rfl, b1045⟩
        have d1045 := hH.up b1045
        have row1045 := row1044.up b1045
        clear hH
        refine hK.out _ _ d1045 (fun hH => ?_)
        clear hK K
        (try simp only [Act.put, List.setIfInBounds_toArray, List.set_cons_zero, List.set_cons_succ])
        refine takeH (i := 8) (dst := some 77) (v := ?v1046) rfl rfl (by kernel_rfl) (by kernel_rfl) (by kernel_rfl) (fun _ _ _ h => h) rfl ?hy1046 hH rfl ?rest1046
        case hy1046 => (intro W hW; have l0 := hW.l.c0; have l1 := hW.l.c1; clear hW; go_simp; try with_reducible rfl)
        (try simp only [Act.put, List.setIfInBounds_toArray, List.set_cons_zero, List.set_cons_succ])
        refine takeH (i := 9) (dst := some 86) (v := ?v1047) rfl rfl (by kernel_rfl) (by kernel_rfl) (by kernel_rfl) (fun _ _ _ h => h) rfl ?hy1047 hH rfl ?rest1047
        case hy1047 => (intro W hW; have l0 := hW.l.c0; have l1 := hW.l.c1; clear hW; go_simp; try with_reducible rfl)
        (try simp only [Act.put, List.setIfInBounds_toArray, List.set_cons_zero, List.set_cons_succ])
        refine takeH (i := 10) (dst := some 87) (v := ?v1048) rfl rfl (by kernel_rfl) (by kernel_rfl) (by kernel_rfl) (fun _ _ _ h => h) rfl ?hy1048 hH rfl ?rest1048
        case hy1048 => (intro W hW; have l0 := hW.l.c0; have l1 := hW.l.c1; clear hW; go_simp; try with_reducible rfl)
        (try simp only [Act.put, List.setIfInBounds_toArray, List.set_cons_zero, List.set_cons_succ])
        refine takeH (i := 11) (dst := some 88) (v := ?v1049) rfl rfl (by kernel_rfl) (by kernel_rfl) (by kernel_rfl) (fun _ _ _ h => h) rfl ?hy1049 hH rfl ?rest1049
        case hy1049 => (intro W hW; have l0 := hW.l.c0; have l1 := hW.l.c1; clear hW; go_simp; try with_reducible rfl)
        (try simp only [Act.put, List.setIfInBounds_toArray, List.set_cons_zero, List.set_cons_succ])
        have r0 := row1045.c0
        have r1 := row1045.c1
        have r2 := row1045.c2
        have r3 := row1045.c3
        have f0 := row1045.fr 0
        have f1 := row1045.fr 1
        have f2 := row1045.fr 2
        have f3 := row1045.fr 3
        have hPl := hPL
        have dS := hH.set4 hPl (.int .i64 h) (.int .i64 x) (.int .i64 y) (.int .i64 z)
        have dR := row1045.set h x y z
        refine callH (i := 13) { dst := none, op := Go.Op.store 30 (Go.Operand.tmp 18) (Go.Operand.tmp 86), type := 0, pos := "law.go:89", after := #[{ on := 12, ground := Go.Ground.data }, { on := 9, ground := Go.Ground.data }, { on := 7, ground := Go.Ground.chain }, { on := 0, ground := Go.Ground.phase }, { on := 1, ground := Go.Ground.phase }, { on := 2, ground := Go.Ground.phase }, { on := 3, ground := Go.Ground.phase }, { on := 4, ground := Go.Ground.phase }, { on := 5, ground := Go.Ground.phase }, { on := 6, ground := Go.Ground.phase }, { on := 7, ground := Go.Ground.phase }, { on := 8, ground := Go.Ground.phase }, { on := 9, ground := Go.Ground.phase }, { on := 10, ground := Go.Ground.textOnly Go.Departure.lateStores }, { on := 11, ground := Go.Ground.textOnly Go.Departure.lateStores }, { on := 12, ground := Go.Ground.phase }], guard := none } (by kernel_rfl) rfl rfl (fun K hK => ?_)
        go_simp
        clear hH
        refine hK.out _ _ dS (fun hH => ?_)
        clear hK K
        (try simp only [Act.put, List.setIfInBounds_toArray, List.set_cons_zero, List.set_cons_succ])
        refine takeH (i := 14) (dst := some 19) (v := ?v1050) rfl rfl (by kernel_rfl) (by kernel_rfl) (by kernel_rfl) (fun _ _ _ h => h) rfl ?hy1050 hH rfl ?rest1050
        case hy1050 => (intro W hW; have l0 := hW.l.c0; have l1 := hW.l.c1; clear hW; go_simp; try with_reducible rfl)
        (try simp only [Act.put, List.setIfInBounds_toArray, List.set_cons_zero, List.set_cons_succ])
        refine takeH (i := 15) (dst := some 20) (v := ?v1051) rfl rfl (by kernel_rfl) (by kernel_rfl) (by kernel_rfl) (fun _ _ _ h => h) rfl ?hy1051 hH rfl ?rest1051
        case hy1051 => (intro W hW; have l0 := hW.l.c0; have l1 := hW.l.c1; clear hW; go_simp; try with_reducible rfl)
        (try simp only [Act.put, List.setIfInBounds_toArray, List.set_cons_zero, List.set_cons_succ])
        refine wpAnyH_done (by kernel_rfl) ?_ _
        go_wp2_with fail
        go_meet
        case rel => exact ⟨_, rfl, rfl, rfl, dS, dR⟩
    case rest =>
      clear hd2 hsz0 CH
      obtain ⟨Q, rfl, rfl, rfl, hB, hQ⟩ := hcut
      have hv0 := hB.t.c0
      have hv1 := hB.t.c1
      have hv2 := hB.t.c2
      have hv3 := hB.t.c3
      have hu0 := hQ.c0
      have hu1 := hQ.c1
      have hu2 := hQ.c2
      have hu3 := hQ.c3
      have HB : Hid (Big w g a i n h x y z P L G E (putL g a i n) (putL h x y z) wc) := hB
      have CN := count_any k 256 wc hk (by omega) (by omega)
      clear hB hQ
      go_wp2_with fail
      refine CN.mono ?_
      rintro e w8 ⟨m, rfl, hm, h8⟩
      rw [h8]
      clear CN h8 w8 hv0 hv1 hv2 hv3 hu0 hu1 hu2 hu3
      have hm' : m < (putL h x y z).length := by rw [putL_length]; omega
      have hcell : wc.cell? ⟨E, m, none⟩ = some (.int .u8 (nth (putL h x y z) m)) := (HB.out.b.cell m hm').trans (by rw [bv_nth])
      have hfro := HB.out.b.frozen m
      have hm0 : (0 : Int) ≤ m := by omega
      by_cases hc : (putL h x y z)[m] = c
      · have hv : nth (putL h x y z) m = (c.toNat : Int) := by rw [← hc]; simp [nth, hm']
        rw [hv] at hcell
        have KN := sknown_any wc (ht.below HB.out.two.b hw0)
        clear hv hc hm'
        go_wp2_with fail
        refine KN.mono ?_
        rintro e w9 ⟨rfl, hb9⟩
        go_wp2
        go_ret
        exact ⟨rfl, HB.out.two.b.trans (hb9.mono HB.out.two.b.size)⟩
      · have hv : nth (putL h x y z) m ≠ (c.toNat : Int) := by
          intro h9; apply hc; apply UInt8.toNat_inj.1
          have h2 : nth (putL h x y z) m = (((putL h x y z)[m]).toNat : Int) := by simp [nth, hm']
          rw [h2] at h9; omega
        have hv1 : (nth (putL h x y z) m == (c.toNat : Int)) = false := beq_eq_false_iff_ne.2 hv
        have hB3 := HB.out.putB (by omega) (by omega) (by omega) (by omega) m c
        have hE := put_turned h x y z m c (by omega) hc
        have hE0 : getE ((putL h x y z).set m c) ≠ 0 := by rcases hE with h9 | h9 <;> rw [h9] <;> omega
        have hlen : ((putL h x y z).set m c).length = 256 := by rw [List.length_set, putL_length]
        have hS1 : 0 ≤ S1 := by have := (okS_iff.1 hok2).2.2.prod; rw [HS1.out]; omega
        generalize nth (putL h x y z) m = N at *
        generalize (putL h x y z).set m c = LE at *
        have CH : ∀ W, Big w g a i n h x y z P L G E (putL g a i n) LE W → Calls Tryd.prog 16 #[.slice (some ⟨G, 0, none⟩) 256 256, .slice (some ⟨E, 0, none⟩) 256 256, .int .i64 (S1 + S2)] W fun e w' => e = .returned (.tuple #[.agg #[.int .i64 (g : Int), .int .i64 (a : Int), .int .i64 (i : Int), .int .i64 (n : Int)], .int .i64 0, .int .i64 0]) ∧ Below W.heap.size W w' := fun W H =>
          H.chooses ht (putL_length _ _ _ _) hlen _ _ _ _ _ (ch_odd2 hok hh.out hpar.out hE0 hS1 HS2.out) 0 (by have := hpar.out; have := hh.out; omega) (by have := (okS_iff.1 hok).1; omega)
        clear hE hE0 hlen hS1 hv hc hm'
        obtain ⟨w5, HW5⟩ : ∃ w5, Hid (w5 = wc.setCell ⟨E, m, none⟩ (bv c)) := ⟨_, rfl⟩
        rw [← HW5.out] at hB3
        have hd3 : Big w g a i n h x y z P L G E (putL g a i n) LE w5.drew := hB3.up (Below.refl _ _).drew
        have HD3 : Hid _ := hd3
        have hsz0 : w5.drew.heap.size = w5.heap.size := rfl
        clear hB3 hd3 HB
        go_upto_region 19 with fail
        rw [show wc.setCell ⟨E, m, none⟩ (.int .u8 (c.toNat : Int)) = w5 from HW5.out.symm]
        clear hcell hfro HW5 hv1
        go_cut [22, 23, 24] from 119 (fun s22 s23 s24 wc => ∃ Q, s22 = .pointer (some ⟨Q, 0, none⟩) ∧ s23 = .int .i64 0 ∧ s24 = .int .i64 0 ∧ Big w g a i n h x y z P L G E (putL g a i n) LE wc ∧ Row4 wc Q 30 g a i n)
        case first =>
          refine wp_region_held_drew (S := (fun w' => Big w g a i n h x y z P L G E (putL g a i n) LE w')) (by kernel_rfl) HD3.out (fun hH => ?_)
          refine takeH (i := 0) (dst := some 120) (v := ?v1052) rfl rfl (by kernel_rfl) (by kernel_rfl) (by kernel_rfl) (fun _ _ _ h => h) rfl ?hy1052 hH rfl ?rest1052
          case hy1052 => (intro W hW; have l0 := hW.l.c0; have l1 := hW.l.c1; clear hW; go_simp; try with_reducible rfl)
          (try simp only [Act.put, List.setIfInBounds_toArray, List.set_cons_zero, List.set_cons_succ])
          refine takeH (i := 1) (dst := some 121) (v := ?v1053) rfl rfl (by kernel_rfl) (by kernel_rfl) (by kernel_rfl) (fun _ _ _ h => h) rfl ?hy1053 hH rfl ?rest1053
          case hy1053 => (intro W hW; have l0 := hW.l.c0; have l1 := hW.l.c1; clear hW; go_simp; try with_reducible rfl)
          (try simp only [Act.put, List.setIfInBounds_toArray, List.set_cons_zero, List.set_cons_succ])
          refine takeH (i := 2) (dst := some 122) (v := ?v1054) rfl rfl (by kernel_rfl) (by kernel_rfl) (by kernel_rfl) (fun _ _ _ h => h) rfl ?hy1054 hH rfl ?rest1054
          case hy1054 => (intro W hW; have l0 := hW.l.c0; have l1 := hW.l.c1; clear hW; go_simp; try with_reducible rfl)
          (try simp only [Act.put, List.setIfInBounds_toArray, List.set_cons_zero, List.set_cons_succ])
          refine takeH (i := 3) (dst := some 123) (v := ?v1055) rfl rfl (by kernel_rfl) (by kernel_rfl) (by kernel_rfl) (fun _ _ _ h => h) rfl ?hy1055 hH rfl ?rest1055
          case hy1055 => (intro W hW; have l0 := hW.l.c0; have l1 := hW.l.c1; clear hW; go_simp; try with_reducible rfl)
          (try simp only [Act.put, List.setIfInBounds_toArray, List.set_cons_zero, List.set_cons_succ])
          refine takeH (i := 4) (dst := some 124) (v := ?v1056) rfl rfl (by kernel_rfl) (by kernel_rfl) (by kernel_rfl) (fun _ _ _ h => h) rfl ?hy1056 hH rfl ?rest1056
          case hy1056 => (intro W hW; have l0 := hW.l.c0; have l1 := hW.l.c1; clear hW; go_simp; try with_reducible rfl)
          (try simp only [Act.put, List.setIfInBounds_toArray, List.set_cons_zero, List.set_cons_succ])
          refine takeH (i := 5) (dst := some 125) (v := ?v1057) rfl rfl (by kernel_rfl) (by kernel_rfl) (by kernel_rfl) (fun _ _ _ h => h) rfl ?hy1057 hH rfl ?rest1057
          case hy1057 => (intro W hW; have l0 := hW.l.c0; have l1 := hW.l.c1; clear hW; go_simp; try with_reducible rfl)
          (try simp only [Act.put, List.setIfInBounds_toArray, List.set_cons_zero, List.set_cons_succ])
          refine takeH (i := 6) (dst := some 126) (v := ?v1058) rfl rfl (by kernel_rfl) (by kernel_rfl) (by kernel_rfl) (fun _ _ _ h => h) rfl ?hy1058 hH rfl ?rest1058
          case hy1058 => (intro W hW; have l0 := hW.l.c0; have l1 := hW.l.c1; clear hW; go_simp; try with_reducible rfl)
          (try simp only [Act.put, List.setIfInBounds_toArray, List.set_cons_zero, List.set_cons_succ])
          refine callH2 (i := 7) (j := 12) { dst := some 127, op := Go.Op.call { callee := Go.Callee.value (Go.Operand.func 16), args := #[Go.Operand.tmp 122, Go.Operand.tmp 125, Go.Operand.tmp 126], argTypes := #[26, 26, 3] }, type := 42, pos := "law.go:98", after := #[{ on := 2, ground := Go.Ground.data }, { on := 5, ground := Go.Ground.data }, { on := 6, ground := Go.Ground.data }], guard := none } { dst := some 22, op := Go.Op.alloc 30, type := 0, pos := "law.go:98", after := #[], guard := none } (by kernel_rfl) rfl rfl rfl rfl (fun K hK => ?_) (fun K hK => ?_)
          · go_simp
            refine (CH _ hH).mono ?_
            rintro e v1059 ⟨rfl, b1059⟩
            have d1059 := hH.up b1059
            clear hH
            refine hK.out _ _ d1059 (fun hH => ?_)
            clear hK K
            (try simp only [Act.put, List.setIfInBounds_toArray, List.set_cons_zero, List.set_cons_succ])
            refine takeH (i := 8) (dst := some 119) (v := ?v1060) rfl rfl (by kernel_rfl) (by kernel_rfl) (by kernel_rfl) (fun _ _ _ h => h) rfl ?hy1060 hH rfl ?rest1060
            case hy1060 => (intro W hW; have l0 := hW.l.c0; have l1 := hW.l.c1; clear hW; go_simp; try with_reducible rfl)
            (try simp only [Act.put, List.setIfInBounds_toArray, List.set_cons_zero, List.set_cons_succ])
            refine takeH (i := 9) (dst := some 128) (v := ?v1061) rfl rfl (by kernel_rfl) (by kernel_rfl) (by kernel_rfl) (fun _ _ _ h => h) rfl ?hy1061 hH rfl ?rest1061
            case hy1061 => (intro W hW; have l0 := hW.l.c0; have l1 := hW.l.c1; clear hW; go_simp; try with_reducible rfl)
            (try simp only [Act.put, List.setIfInBounds_toArray, List.set_cons_zero, List.set_cons_succ])
            refine takeH (i := 10) (dst := some 129) (v := ?v1062) rfl rfl (by kernel_rfl) (by kernel_rfl) (by kernel_rfl) (fun _ _ _ h => h) rfl ?hy1062 hH rfl ?rest1062
            case hy1062 => (intro W hW; have l0 := hW.l.c0; have l1 := hW.l.c1; clear hW; go_simp; try with_reducible rfl)
            (try simp only [Act.put, List.setIfInBounds_toArray, List.set_cons_zero, List.set_cons_succ])
            refine takeH (i := 11) (dst := some 130) (v := ?v1063) rfl rfl (by kernel_rfl) (by kernel_rfl) (by kernel_rfl) (fun _ _ _ h => h) rfl ?hy1063 hH rfl ?rest1063
            case hy1063 => (intro W hW; have l0 := hW.l.c0; have l1 := hW.l.c1; clear hW; go_simp; try with_reducible rfl)
            (try simp only [Act.put, List.setIfInBounds_toArray, List.set_cons_zero, List.set_cons_succ])
            refine callH (i := 12) { dst := some 22, op := Go.Op.alloc 30, type := 0, pos := "law.go:98", after := #[], guard := none } (by kernel_rfl) rfl rfl (fun K hK => ?_)
            go_simp
            have al1064 : Below v1059.heap.size v1059 (v1059.alloc (.cells #[.int .i64 0, .int .i64 0, .int .i64 0, .int .i64 0] 30)) := (Below.refl _ _).alloc (Nat.le_refl _) _
            have hPL := hH.lt
            have d1064 := hH.up al1064
            have row1064 : Row4 (v1059.alloc (.cells #[.int .i64 0, .int .i64 0, .int .i64 0, .int .i64 0] 30)) v1059.heap.size 30 0 0 0 0 := heap_alloc_new _ _
            clear al1064
            obtain ⟨nw1064, hnw1064⟩ : ∃ nw, Hid (nw = v1059.alloc (.cells #[.int .i64 0, .int .i64 0, .int .i64 0, .int .i64 0] 30)) := ⟨_, rfl⟩
            rw [← hnw1064.out] at d1064 row1064 ⊢
            clear hH
            refine hK.out _ _ d1064 (fun hH => ?_)
            clear hK K
            (try simp only [Act.put, List.setIfInBounds_toArray, List.set_cons_zero, List.set_cons_succ])
            have r0 := row1064.c0
            have r1 := row1064.c1
            have r2 := row1064.c2
            have r3 := row1064.c3
            have f0 := row1064.fr 0
            have f1 := row1064.fr 1
            have f2 := row1064.fr 2
            have f3 := row1064.fr 3
            have hPl := hPL
            have dS := hH.set4 hPl (.int .i64 g) (.int .i64 a) (.int .i64 i) (.int .i64 n)
            have dR := row1064.set g a i n
            refine callH (i := 13) { dst := none, op := Go.Op.store 30 (Go.Operand.tmp 22) (Go.Operand.tmp 128), type := 0, pos := "law.go:98", after := #[{ on := 12, ground := Go.Ground.data }, { on := 9, ground := Go.Ground.data }, { on := 7, ground := Go.Ground.chain }, { on := 0, ground := Go.Ground.phase }, { on := 1, ground := Go.Ground.phase }, { on := 2, ground := Go.Ground.phase }, { on := 3, ground := Go.Ground.phase }, { on := 4, ground := Go.Ground.phase }, { on := 5, ground := Go.Ground.phase }, { on := 6, ground := Go.Ground.phase }, { on := 7, ground := Go.Ground.phase }, { on := 8, ground := Go.Ground.phase }, { on := 9, ground := Go.Ground.phase }, { on := 10, ground := Go.Ground.textOnly Go.Departure.lateStores }, { on := 11, ground := Go.Ground.textOnly Go.Departure.lateStores }, { on := 12, ground := Go.Ground.phase }], guard := none } (by kernel_rfl) rfl rfl (fun K hK => ?_)
            go_simp
            clear hH
            refine hK.out _ _ dS (fun hH => ?_)
            clear hK K
            (try simp only [Act.put, List.setIfInBounds_toArray, List.set_cons_zero, List.set_cons_succ])
            refine takeH (i := 14) (dst := some 23) (v := ?v1065) rfl rfl (by kernel_rfl) (by kernel_rfl) (by kernel_rfl) (fun _ _ _ h => h) rfl ?hy1065 hH rfl ?rest1065
            case hy1065 => (intro W hW; have l0 := hW.l.c0; have l1 := hW.l.c1; clear hW; go_simp; try with_reducible rfl)
            (try simp only [Act.put, List.setIfInBounds_toArray, List.set_cons_zero, List.set_cons_succ])
            refine takeH (i := 15) (dst := some 24) (v := ?v1066) rfl rfl (by kernel_rfl) (by kernel_rfl) (by kernel_rfl) (fun _ _ _ h => h) rfl ?hy1066 hH rfl ?rest1066
            case hy1066 => (intro W hW; have l0 := hW.l.c0; have l1 := hW.l.c1; clear hW; go_simp; try with_reducible rfl)
            (try simp only [Act.put, List.setIfInBounds_toArray, List.set_cons_zero, List.set_cons_succ])
            refine wpAnyH_done (by kernel_rfl) ?_ _
            go_wp2_with fail
            go_meet
            case rel => exact ⟨_, rfl, rfl, rfl, dS, dR⟩
          · go_simp
            have al1067 : Below w5.drew.heap.size w5.drew (w5.drew.alloc (.cells #[.int .i64 0, .int .i64 0, .int .i64 0, .int .i64 0] 30)) := (Below.refl _ _).alloc (Nat.le_refl _) _
            have hPL := hH.lt
            have d1067 := hH.up al1067
            have row1067 : Row4 (w5.drew.alloc (.cells #[.int .i64 0, .int .i64 0, .int .i64 0, .int .i64 0] 30)) w5.heap.size 30 0 0 0 0 := by have h9 := heap_alloc_new w5.drew (.cells #[.int .i64 0, .int .i64 0, .int .i64 0, .int .i64 0] 30); rw [hsz0] at h9; exact h9
            rw [hsz0] at hPL
            clear hH
            refine hK.out _ _ d1067 (fun hH => ?_)
            clear hK K
            (try simp only [Act.put, List.setIfInBounds_toArray, List.set_cons_zero, List.set_cons_succ])
            refine callH (i := 7) { dst := some 127, op := Go.Op.call { callee := Go.Callee.value (Go.Operand.func 16), args := #[Go.Operand.tmp 122, Go.Operand.tmp 125, Go.Operand.tmp 126], argTypes := #[26, 26, 3] }, type := 42, pos := "law.go:98", after := #[{ on := 2, ground := Go.Ground.data }, { on := 5, ground := Go.Ground.data }, { on := 6, ground := Go.Ground.data }], guard := none } (by kernel_rfl) rfl rfl (fun K hK => ?_)
            go_simp
            refine (CH _ hH).mono ?_
            rintro e v1068 ⟨rfl, b1068⟩
            have d1068 := hH.up b1068
            have row1068 := row1067.up b1068
            clear hH
            refine hK.out _ _ d1068 (fun hH => ?_)
            clear hK K
            (try simp only [Act.put, List.setIfInBounds_toArray, List.set_cons_zero, List.set_cons_succ])
            refine takeH (i := 8) (dst := some 119) (v := ?v1069) rfl rfl (by kernel_rfl) (by kernel_rfl) (by kernel_rfl) (fun _ _ _ h => h) rfl ?hy1069 hH rfl ?rest1069
            case hy1069 => (intro W hW; have l0 := hW.l.c0; have l1 := hW.l.c1; clear hW; go_simp; try with_reducible rfl)
            (try simp only [Act.put, List.setIfInBounds_toArray, List.set_cons_zero, List.set_cons_succ])
            refine takeH (i := 9) (dst := some 128) (v := ?v1070) rfl rfl (by kernel_rfl) (by kernel_rfl) (by kernel_rfl) (fun _ _ _ h => h) rfl ?hy1070 hH rfl ?rest1070
            case hy1070 => (intro W hW; have l0 := hW.l.c0; have l1 := hW.l.c1; clear hW; go_simp; try with_reducible rfl)
            (try simp only [Act.put, List.setIfInBounds_toArray, List.set_cons_zero, List.set_cons_succ])
            refine takeH (i := 10) (dst := some 129) (v := ?v1071) rfl rfl (by kernel_rfl) (by kernel_rfl) (by kernel_rfl) (fun _ _ _ h => h) rfl ?hy1071 hH rfl ?rest1071
            case hy1071 => (intro W hW; have l0 := hW.l.c0; have l1 := hW.l.c1; clear hW; go_simp; try with_reducible rfl)
            (try simp only [Act.put, List.setIfInBounds_toArray, List.set_cons_zero, List.set_cons_succ])
            refine takeH (i := 11) (dst := some 130) (v := ?v1072) rfl rfl (by kernel_rfl) (by kernel_rfl) (by kernel_rfl) (fun _ _ _ h => h) rfl ?hy1072 hH rfl ?rest1072
            case hy1072 => (intro W hW; have l0 := hW.l.c0; have l1 := hW.l.c1; clear hW; go_simp; try with_reducible rfl)
            (try simp only [Act.put, List.setIfInBounds_toArray, List.set_cons_zero, List.set_cons_succ])
            have r0 := row1068.c0
            have r1 := row1068.c1
            have r2 := row1068.c2
            have r3 := row1068.c3
            have f0 := row1068.fr 0
            have f1 := row1068.fr 1
            have f2 := row1068.fr 2
            have f3 := row1068.fr 3
            have hPl := hPL
            have dS := hH.set4 hPl (.int .i64 g) (.int .i64 a) (.int .i64 i) (.int .i64 n)
            have dR := row1068.set g a i n
            refine callH (i := 13) { dst := none, op := Go.Op.store 30 (Go.Operand.tmp 22) (Go.Operand.tmp 128), type := 0, pos := "law.go:98", after := #[{ on := 12, ground := Go.Ground.data }, { on := 9, ground := Go.Ground.data }, { on := 7, ground := Go.Ground.chain }, { on := 0, ground := Go.Ground.phase }, { on := 1, ground := Go.Ground.phase }, { on := 2, ground := Go.Ground.phase }, { on := 3, ground := Go.Ground.phase }, { on := 4, ground := Go.Ground.phase }, { on := 5, ground := Go.Ground.phase }, { on := 6, ground := Go.Ground.phase }, { on := 7, ground := Go.Ground.phase }, { on := 8, ground := Go.Ground.phase }, { on := 9, ground := Go.Ground.phase }, { on := 10, ground := Go.Ground.textOnly Go.Departure.lateStores }, { on := 11, ground := Go.Ground.textOnly Go.Departure.lateStores }, { on := 12, ground := Go.Ground.phase }], guard := none } (by kernel_rfl) rfl rfl (fun K hK => ?_)
            go_simp
            clear hH
            refine hK.out _ _ dS (fun hH => ?_)
            clear hK K
            (try simp only [Act.put, List.setIfInBounds_toArray, List.set_cons_zero, List.set_cons_succ])
            refine takeH (i := 14) (dst := some 23) (v := ?v1073) rfl rfl (by kernel_rfl) (by kernel_rfl) (by kernel_rfl) (fun _ _ _ h => h) rfl ?hy1073 hH rfl ?rest1073
            case hy1073 => (intro W hW; have l0 := hW.l.c0; have l1 := hW.l.c1; clear hW; go_simp; try with_reducible rfl)
            (try simp only [Act.put, List.setIfInBounds_toArray, List.set_cons_zero, List.set_cons_succ])
            refine takeH (i := 15) (dst := some 24) (v := ?v1074) rfl rfl (by kernel_rfl) (by kernel_rfl) (by kernel_rfl) (fun _ _ _ h => h) rfl ?hy1074 hH rfl ?rest1074
            case hy1074 => (intro W hW; have l0 := hW.l.c0; have l1 := hW.l.c1; clear hW; go_simp; try with_reducible rfl)
            (try simp only [Act.put, List.setIfInBounds_toArray, List.set_cons_zero, List.set_cons_succ])
            refine wpAnyH_done (by kernel_rfl) ?_ _
            go_wp2_with fail
            go_meet
            case rel => exact ⟨_, rfl, rfl, rfl, dS, dR⟩
        case rest =>
          clear HD3 hsz0 CH
          obtain ⟨Q2, rfl, rfl, rfl, hB, hQ⟩ := hcut
          have TK := taken_any g a i n
          have hd4 : Big w g a i n h x y z P L G E (putL g a i n) LE wc.drew ∧ Row4 wc.drew Q2 30 g a i n := ⟨hB.up (Below.refl _ _).drew, hQ⟩
          clear hB hQ
          go_wp2_with fail
          refine wp_region_held_drew (S := (fun w' => Big w g a i n h x y z P L G E (putL g a i n) LE w' ∧ Row4 w' Q2 30 g a i n)) (by kernel_rfl) hd4 (fun hH => ?_)
          refine takeH (i := 0) (dst := some 131) (v := ?v6) rfl rfl (by kernel_rfl) (by kernel_rfl) (by kernel_rfl) (fun _ _ _ h => h) rfl ?hy6 hH rfl ?rest6
          case hy6 => (intro W hW; have q0 := hW.1.two.s.c0; have q1 := hW.1.two.s.c1; have q2 := hW.1.two.s.c2; have q3 := hW.1.two.s.c3; have u0 := hW.2.c0; have u1 := hW.2.c1; have u2 := hW.2.c2; have u3 := hW.2.c3; clear hW; go_simp; try with_reducible rfl)
          (try simp only [Act.put, List.setIfInBounds_toArray, List.set_cons_zero, List.set_cons_succ])
          refine takeH (i := 2) (dst := some 133) (v := ?v7) rfl rfl (by kernel_rfl) (by kernel_rfl) (by kernel_rfl) (fun _ _ _ h => h) rfl ?hy7 hH rfl ?rest7
          case hy7 => (intro W hW; have q0 := hW.1.two.s.c0; have q1 := hW.1.two.s.c1; have q2 := hW.1.two.s.c2; have q3 := hW.1.two.s.c3; have u0 := hW.2.c0; have u1 := hW.2.c1; have u2 := hW.2.c2; have u3 := hW.2.c3; clear hW; go_simp; try with_reducible rfl)
          (try simp only [Act.put, List.setIfInBounds_toArray, List.set_cons_zero, List.set_cons_succ])
          refine callH (i := 1) { dst := some 132, op := Go.Op.call { callee := Go.Callee.value (Go.Operand.func 13), args := #[Go.Operand.tmp 131], argTypes := #[30] }, type := 25, pos := "law.go:99", after := #[{ on := 0, ground := Go.Ground.data }], guard := none } (by kernel_rfl) rfl rfl (fun K hK => ?_)
          go_simp
          refine (TK _).mono ?_
          rintro e v1 ⟨rfl, b1⟩
          have d1 := And.intro (hH.1.up b1) (hH.2.up b1)
          clear hH
          refine hK.out _ _ d1 (fun hH => ?_)
          clear hK K
          (try simp only [Act.put, List.setIfInBounds_toArray, List.set_cons_zero, List.set_cons_succ])
          refine takeH (i := 3) (dst := some 134) (v := ?v8) rfl rfl (by kernel_rfl) (by kernel_rfl) (by kernel_rfl) (fun _ _ _ h => h) rfl ?hy8 hH rfl ?rest8
          case hy8 => (intro W hW; have q0 := hW.1.two.s.c0; have q1 := hW.1.two.s.c1; have q2 := hW.1.two.s.c2; have q3 := hW.1.two.s.c3; have u0 := hW.2.c0; have u1 := hW.2.c1; have u2 := hW.2.c2; have u3 := hW.2.c3; clear hW; go_simp; try with_reducible rfl)
          (try simp only [Act.put, List.setIfInBounds_toArray, List.set_cons_zero, List.set_cons_succ])
          refine takeH (i := 4) (dst := some 135) (v := ?v9) rfl rfl (by kernel_rfl) (by kernel_rfl) (by kernel_rfl) (fun _ _ _ h => h) rfl ?hy9 hH rfl ?rest9
          case hy9 => (intro W hW; have q0 := hW.1.two.s.c0; have q1 := hW.1.two.s.c1; have q2 := hW.1.two.s.c2; have q3 := hW.1.two.s.c3; have u0 := hW.2.c0; have u1 := hW.2.c1; have u2 := hW.2.c2; have u3 := hW.2.c3; clear hW; go_simp; try with_reducible rfl)
          (try simp only [Act.put, List.setIfInBounds_toArray, List.set_cons_zero, List.set_cons_succ])
          refine takeH (i := 5) (dst := some 136) (v := ?v10) rfl rfl (by kernel_rfl) (by kernel_rfl) (by kernel_rfl) (fun _ _ _ h => h) rfl ?hy10 hH rfl ?rest10
          case hy10 => (intro W hW; have q0 := hW.1.two.s.c0; have q1 := hW.1.two.s.c1; have q2 := hW.1.two.s.c2; have q3 := hW.1.two.s.c3; have u0 := hW.2.c0; have u1 := hW.2.c1; have u2 := hW.2.c2; have u3 := hW.2.c3; clear hW; go_simp; try with_reducible rfl)
          (try simp only [Act.put, List.setIfInBounds_toArray, List.set_cons_zero, List.set_cons_succ])
          refine takeH (i := 6) (dst := some 137) (v := ?v11) rfl rfl (by kernel_rfl) (by kernel_rfl) (by kernel_rfl) (fun _ _ _ h => h) rfl ?hy11 hH rfl ?rest11
          case hy11 => (intro W hW; have q0 := hW.1.two.s.c0; have q1 := hW.1.two.s.c1; have q2 := hW.1.two.s.c2; have q3 := hW.1.two.s.c3; have u0 := hW.2.c0; have u1 := hW.2.c1; have u2 := hW.2.c2; have u3 := hW.2.c3; clear hW; go_simp; try with_reducible rfl)
          (try simp only [Act.put, List.setIfInBounds_toArray, List.set_cons_zero, List.set_cons_succ])
          refine takeH (i := 7) (dst := some 138) (v := ?v12) rfl rfl (by kernel_rfl) (by kernel_rfl) (by kernel_rfl) (fun _ _ _ h => h) rfl ?hy12 hH rfl ?rest12
          case hy12 => (intro W hW; have q0 := hW.1.two.s.c0; have q1 := hW.1.two.s.c1; have q2 := hW.1.two.s.c2; have q3 := hW.1.two.s.c3; have u0 := hW.2.c0; have u1 := hW.2.c1; have u2 := hW.2.c2; have u3 := hW.2.c3; clear hW; go_simp; try with_reducible rfl)
          (try simp only [Act.put, List.setIfInBounds_toArray, List.set_cons_zero, List.set_cons_succ])
          refine takeH (i := 8) (dst := some 139) (v := ?v13) rfl rfl (by kernel_rfl) (by kernel_rfl) (by kernel_rfl) (fun _ _ _ h => h) rfl ?hy13 hH rfl ?rest13
          case hy13 => (intro W hW; have q0 := hW.1.two.s.c0; have q1 := hW.1.two.s.c1; have q2 := hW.1.two.s.c2; have q3 := hW.1.two.s.c3; have u0 := hW.2.c0; have u1 := hW.2.c1; have u2 := hW.2.c2; have u3 := hW.2.c3; clear hW; go_simp; try with_reducible rfl)
          (try simp only [Act.put, List.setIfInBounds_toArray, List.set_cons_zero, List.set_cons_succ])
          refine takeH (i := 9) (dst := some 140) (v := ?v14) rfl rfl (by kernel_rfl) (by kernel_rfl) (by kernel_rfl) (fun _ _ _ h => h) rfl ?hy14 hH rfl ?rest14
          case hy14 => (intro W hW; have q0 := hW.1.two.s.c0; have q1 := hW.1.two.s.c1; have q2 := hW.1.two.s.c2; have q3 := hW.1.two.s.c3; have u0 := hW.2.c0; have u1 := hW.2.c1; have u2 := hW.2.c2; have u3 := hW.2.c3; clear hW; go_simp; try with_reducible rfl)
          (try simp only [Act.put, List.setIfInBounds_toArray, List.set_cons_zero, List.set_cons_succ])
          refine takeH (i := 10) (dst := some 141) (v := ?v15) rfl rfl (by kernel_rfl) (by kernel_rfl) (by kernel_rfl) (fun _ _ _ h => h) rfl ?hy15 hH rfl ?rest15
          case hy15 => (intro W hW; have q0 := hW.1.two.s.c0; have q1 := hW.1.two.s.c1; have q2 := hW.1.two.s.c2; have q3 := hW.1.two.s.c3; have u0 := hW.2.c0; have u1 := hW.2.c1; have u2 := hW.2.c2; have u3 := hW.2.c3; clear hW; go_simp; try with_reducible rfl)
          (try simp only [Act.put, List.setIfInBounds_toArray, List.set_cons_zero, List.set_cons_succ])
          refine takeH (i := 11) (dst := some 142) (v := ?v16) rfl rfl (by kernel_rfl) (by kernel_rfl) (by kernel_rfl) (fun _ _ _ h => h) rfl ?hy16 hH rfl ?rest16
          case hy16 => (intro W hW; have q0 := hW.1.two.s.c0; have q1 := hW.1.two.s.c1; have q2 := hW.1.two.s.c2; have q3 := hW.1.two.s.c3; have u0 := hW.2.c0; have u1 := hW.2.c1; have u2 := hW.2.c2; have u3 := hW.2.c3; clear hW; go_simp; try with_reducible rfl)
          (try simp only [Act.put, List.setIfInBounds_toArray, List.set_cons_zero, List.set_cons_succ])
          refine takeH (i := 12) (dst := some 143) (v := ?v17) rfl rfl (by kernel_rfl) (by kernel_rfl) (by kernel_rfl) (fun _ _ _ h => h) rfl ?hy17 hH rfl ?rest17
          case hy17 => (intro W hW; have q0 := hW.1.two.s.c0; have q1 := hW.1.two.s.c1; have q2 := hW.1.two.s.c2; have q3 := hW.1.two.s.c3; have u0 := hW.2.c0; have u1 := hW.2.c1; have u2 := hW.2.c2; have u3 := hW.2.c3; clear hW; go_simp; try with_reducible rfl)
          (try simp only [Act.put, List.setIfInBounds_toArray, List.set_cons_zero, List.set_cons_succ])
          refine takeH (i := 13) (dst := some 144) (v := ?v18) rfl rfl (by kernel_rfl) (by kernel_rfl) (by kernel_rfl) (fun _ _ _ h => h) rfl ?hy18 hH rfl ?rest18
          case hy18 => (intro W hW; have q0 := hW.1.two.s.c0; have q1 := hW.1.two.s.c1; have q2 := hW.1.two.s.c2; have q3 := hW.1.two.s.c3; have u0 := hW.2.c0; have u1 := hW.2.c1; have u2 := hW.2.c2; have u3 := hW.2.c3; clear hW; go_simp; try with_reducible rfl)
          (try simp only [Act.put, List.setIfInBounds_toArray, List.set_cons_zero, List.set_cons_succ])
          refine takeH (i := 14) (dst := some 145) (v := ?v19) rfl rfl (by kernel_rfl) (by kernel_rfl) (by kernel_rfl) (fun _ _ _ h => h) rfl ?hy19 hH rfl ?rest19
          case hy19 => (intro W hW; have q0 := hW.1.two.s.c0; have q1 := hW.1.two.s.c1; have q2 := hW.1.two.s.c2; have q3 := hW.1.two.s.c3; have u0 := hW.2.c0; have u1 := hW.2.c1; have u2 := hW.2.c2; have u3 := hW.2.c3; clear hW; go_simp; try with_reducible rfl)
          (try simp only [Act.put, List.setIfInBounds_toArray, List.set_cons_zero, List.set_cons_succ])
          refine callH (i := 15) { dst := some 146, op := Go.Op.call { callee := Go.Callee.value (Go.Operand.func 15), args := #[], argTypes := #[] }, type := 4, pos := "law.go:99", after := #[{ on := 14, ground := Go.Ground.chain }, { on := 14, ground := Go.Ground.guard }], guard := some (14, true) } (by kernel_rfl) rfl rfl (fun K hK => ?_)
          go_simp
          refine (sknown_any _ (ht.below hH.1.two.b hw0)).mono ?_
          rintro e v2 ⟨rfl, b2⟩
          have d2 := And.intro (hH.1.up b2) (hH.2.up b2)
          clear hH
          refine hK.out _ _ d2 (fun hH => ?_)
          clear hK K
          (try simp only [Act.put, List.setIfInBounds_toArray, List.set_cons_zero, List.set_cons_succ])
          refine takeH (i := 16) (dst := some 147) (v := ?v20) rfl rfl (by kernel_rfl) (by kernel_rfl) (by kernel_rfl) (fun _ _ _ h => h) rfl ?hy20 hH rfl ?rest20
          case hy20 => (intro W hW; have q0 := hW.1.two.s.c0; have q1 := hW.1.two.s.c1; have q2 := hW.1.two.s.c2; have q3 := hW.1.two.s.c3; have u0 := hW.2.c0; have u1 := hW.2.c1; have u2 := hW.2.c2; have u3 := hW.2.c3; clear hW; go_simp; try with_reducible rfl)
          (try simp only [Act.put, List.setIfInBounds_toArray, List.set_cons_zero, List.set_cons_succ])
          refine takeH (i := 17) (dst := some 8) (v := ?v21) rfl rfl (by kernel_rfl) (by kernel_rfl) (by kernel_rfl) (fun _ _ _ h => h) rfl ?hy21 hH rfl ?rest21
          case hy21 => (intro W hW; have q0 := hW.1.two.s.c0; have q1 := hW.1.two.s.c1; have q2 := hW.1.two.s.c2; have q3 := hW.1.two.s.c3; have u0 := hW.2.c0; have u1 := hW.2.c1; have u2 := hW.2.c2; have u3 := hW.2.c3; clear hW; go_simp; try with_reducible rfl)
          (try simp only [Act.put, List.setIfInBounds_toArray, List.set_cons_zero, List.set_cons_succ])
          refine wpAnyH_done (by kernel_rfl) ?_ _
          clear hH
          go_wp2
          go_ret
          exact ⟨rfl, d2.1.two.b⟩
end Go.Proofs.YtjdfkbpadhndlaaDoor
