/- The walk of leveelaw04.SuperChooses. -/
import Derived.Test.YtjdfkbpadhndlaaDoorRefNext
namespace Go.Proofs.YtjdfkbpadhndlaaDoor
open Go.RowKit
structure Cs (w0 : World) (g a i n x y z C0 C1 C2 C3 : Int) (P1 P2 : Nat) (w : World) : Prop where
  two : Two w0 g a i n x y z w
  p : Row4 w P1 30 C0 C1 C2 C3
  q : Row4 w P2 25 C0 C1 C2 C3
structure ApartC (w0 : World) (P1 P2 Q : Nat) : Prop where
  o : w0.heap.size + 1 < Q
  p : P1 ≠ Q
  q : P2 ≠ Q
theorem Cs.up {w0 w w' : World} {g a i n x y z C0 C1 C2 C3 : Int} {P1 P2 : Nat} (h : Cs w0 g a i n x y z C0 C1 C2 C3 P1 P2 w) (hb : Below w.heap.size w w') : Cs w0 g a i n x y z C0 C1 C2 C3 P1 P2 w' := ⟨h.two.up hb, h.p.up hb, h.q.up hb⟩
theorem Cs.lt {w0 w : World} {g a i n x y z C0 C1 C2 C3 : Int} {P1 P2 : Nat} (h : Cs w0 g a i n x y z C0 C1 C2 C3 P1 P2 w) : ApartC w0 P1 P2 w.heap.size := ⟨h.two.lt, Nat.ne_of_lt h.p.lt, Nat.ne_of_lt h.q.lt⟩
theorem Cs.set4 {w0 w : World} {g a i n x y z C0 C1 C2 C3 : Int} {P1 P2 : Nat} (h : Cs w0 g a i n x y z C0 C1 C2 C3 P1 P2 w) {Q : Nat} (hQ : ApartC w0 P1 P2 Q) (u v s t : Value) : Cs w0 g a i n x y z C0 C1 C2 C3 P1 P2 ((((w.setCell ⟨Q, 0, none⟩ u).setCell ⟨Q, 1, none⟩ v).setCell ⟨Q, 2, none⟩ s).setCell ⟨Q, 3, none⟩ t) :=
  ⟨h.two.set4 hQ.o _ _ _ _, h.p.other hQ.p _ _ _ _, h.q.other hQ.q _ _ _ _⟩
structure Ct (w0 : World) (g a i n x y z C0 C1 C2 C3 N0 N1 N2 N3 : Int) (P1 P2 P3 P4 : Nat) (w : World) : Prop where
  c : Cs w0 g a i n x y z C0 C1 C2 C3 P1 P2 w
  p : Row4 w P3 30 N0 N1 N2 N3
  q : Row4 w P4 25 N0 N1 N2 N3
theorem Ct.up {w0 w w' : World} {g a i n x y z C0 C1 C2 C3 N0 N1 N2 N3 : Int} {P1 P2 P3 P4 : Nat} (h : Ct w0 g a i n x y z C0 C1 C2 C3 N0 N1 N2 N3 P1 P2 P3 P4 w) (hb : Below w.heap.size w w') : Ct w0 g a i n x y z C0 C1 C2 C3 N0 N1 N2 N3 P1 P2 P3 P4 w' := ⟨h.c.up hb, h.p.up hb, h.q.up hb⟩
set_option maxRecDepth 100000 in
set_option maxHeartbeats 8000000 in
theorem schooses_with (sa sb : Option Addr) (na ca nb cb : Nat) (bl g a i n x y z C0 C1 C2 C3 cp ce N0 N1 N2 N3 np ne : Int) (w : World) (ht : Tab w)
    (CH : ∀ W, Below w.heap.size w W → Calls Tryd.prog 16 #[.slice sa na ca, .slice sb nb cb, .int .i64 bl] W fun e w' => e = .returned (.tuple #[.agg #[.int .i64 C0, .int .i64 C1, .int .i64 C2, .int .i64 C3], .int .i64 cp, .int .i64 ce]) ∧ Below W.heap.size W w')
    (RC : ∀ W, Below w.heap.size w W → Calls Tryd.prog 17 #[.slice sa na ca, .slice sb nb cb, .int .i64 bl] W fun e w' => e = .returned (.tuple #[.agg #[.int .i64 C0, .int .i64 C1, .int .i64 C2, .int .i64 C3], .int .i64 cp, .int .i64 ce]) ∧ Below W.heap.size W w')
    (NX : ∀ W, Calls Tryd.prog 18 #[.agg #[.int .i64 g, .int .i64 a, .int .i64 i, .int .i64 n], .agg #[.int .i64 x, .int .i64 y, .int .i64 z]] W fun e w' => e = .returned (.tuple #[.agg #[.int .i64 N0, .int .i64 N1, .int .i64 N2, .int .i64 N3], .int .i64 np, .int .i64 ne]) ∧ Below W.heap.size W w')
    (RN : ∀ W, Calls Tryd.prog 19 #[.agg #[.int .i64 g, .int .i64 a, .int .i64 i, .int .i64 n], .agg #[.int .i64 x, .int .i64 y, .int .i64 z]] W fun e w' => e = .returned (.tuple #[.agg #[.int .i64 N0, .int .i64 N1, .int .i64 N2, .int .i64 N3], .int .i64 np, .int .i64 ne]) ∧ Below W.heap.size W w') :
    Calls Tryd.prog 4 #[.slice sa na ca, .slice sb nb cb, .int .i64 bl, .agg #[.int .i64 g, .int .i64 a, .int .i64 i, .int .i64 n], .agg #[.int .i64 x, .int .i64 y, .int .i64 z]] w fun e w' => e = .returned (.bool true) ∧ Below w.heap.size w w' := by
  have hw0 : 0 < w.heap.size := block_lt_of_cell (ht 0 (by omega))
  have GV := given_any g a i n
  have HT0 : Hid (Two w g a i n x y z ((w.alloc (.cells #[.int .i64 g, .int .i64 a, .int .i64 i, .int .i64 n] 25)).alloc (.cells #[.int .i64 x, .int .i64 y, .int .i64 z] 23))) := two0 g a i n x y z w
  have C1' := CH _ HT0.out.b
  clear CH
  go_enter Tryd.func4, Tryd.ntmps4
  go_wp2_with fail
  refine C1'.mono ?_
  rintro e w1 ⟨rfl, hb1⟩
  clear C1'
  have al1 : Below ((w.alloc (.cells #[.int .i64 g, .int .i64 a, .int .i64 i, .int .i64 n] 25)).alloc (.cells #[.int .i64 x, .int .i64 y, .int .i64 z] 23)).heap.size ((w.alloc (.cells #[.int .i64 g, .int .i64 a, .int .i64 i, .int .i64 n] 25)).alloc (.cells #[.int .i64 x, .int .i64 y, .int .i64 z] 23)) (w1.alloc (.cells #[.int .i64 C0, .int .i64 C1, .int .i64 C2, .int .i64 C3] 30)) := hb1.alloc hb1.size _
  have HT1 : Hid (Two w g a i n x y z (w1.alloc (.cells #[.int .i64 C0, .int .i64 C1, .int .i64 C2, .int .i64 C3] 30))) := HT0.out.up al1
  have HP1 : Hid (Row4 (w1.alloc (.cells #[.int .i64 C0, .int .i64 C1, .int .i64 C2, .int .i64 C3] 30)) w1.heap.size 30 C0 C1 C2 C3) := heap_alloc_new _ _
  have C2' := RC _ HT1.out.b
  clear RC hb1 al1 HT0
  go_wp2_with fail
  refine C2'.mono ?_
  rintro e w2 ⟨rfl, hb2⟩
  clear C2'
  have al2 : Below (w1.alloc (.cells #[.int .i64 C0, .int .i64 C1, .int .i64 C2, .int .i64 C3] 30)).heap.size (w1.alloc (.cells #[.int .i64 C0, .int .i64 C1, .int .i64 C2, .int .i64 C3] 30)) (w2.alloc (.cells #[.int .i64 C0, .int .i64 C1, .int .i64 C2, .int .i64 C3] 25)) := hb2.alloc hb2.size _
  have hd : Cs w g a i n x y z C0 C1 C2 C3 w1.heap.size w2.heap.size (w2.alloc (.cells #[.int .i64 C0, .int .i64 C1, .int .i64 C2, .int .i64 C3] 25)).drew := Cs.up (w := w2.alloc (.cells #[.int .i64 C0, .int .i64 C1, .int .i64 C2, .int .i64 C3] 25)) ⟨HT1.out.up al2, HP1.out.up al2, heap_alloc_new _ _⟩ (Below.refl _ _).drew
  have hsz0 : (w2.alloc (.cells #[.int .i64 C0, .int .i64 C1, .int .i64 C2, .int .i64 C3] 25)).drew.heap.size = w2.heap.size + 1 := by show (w2.heap.push _).size = _; simp
  clear hb2 al2 HT1 HP1
  go_wp2_with fail
  go_cut [17, 18, 19] from 39 (fun s17 s18 s19 wc => ∃ P3, s17 = .pointer (some ⟨P3, 0, none⟩) ∧ s18 = .int .i64 np ∧ s19 = .int .i64 ne ∧ Cs w g a i n x y z C0 C1 C2 C3 w1.heap.size w2.heap.size wc ∧ Row4 wc P3 30 N0 N1 N2 N3)
  case first =>
    refine wp_region_held_drew (S := (fun w' => Cs w g a i n x y z C0 C1 C2 C3 w1.heap.size w2.heap.size w')) (by kernel_rfl) hd (fun hH => ?_)
    refine takeH (i := 0) (dst := some 40) (v := ?v1001) rfl rfl (by kernel_rfl) (by kernel_rfl) (by kernel_rfl) (fun _ _ _ h => h) rfl ?hy1001 hH rfl ?rest1001
    case hy1001 => (intro W hW; have q0 := hW.two.s.c0; have q1 := hW.two.s.c1; have q2 := hW.two.s.c2; have q3 := hW.two.s.c3; have y0 := hW.two.q0; have y1 := hW.two.q1; have y2 := hW.two.q2; clear hW; go_simp; try with_reducible rfl)
    (try simp only [Act.put, List.setIfInBounds_toArray, List.set_cons_zero, List.set_cons_succ])
    refine takeH (i := 2) (dst := some 42) (v := ?v1002) rfl rfl (by kernel_rfl) (by kernel_rfl) (by kernel_rfl) (fun _ _ _ h => h) rfl ?hy1002 hH rfl ?rest1002
    case hy1002 => (intro W hW; have q0 := hW.two.s.c0; have q1 := hW.two.s.c1; have q2 := hW.two.s.c2; have q3 := hW.two.s.c3; have y0 := hW.two.q0; have y1 := hW.two.q1; have y2 := hW.two.q2; clear hW; go_simp; try with_reducible rfl)
    (try simp only [Act.put, List.setIfInBounds_toArray, List.set_cons_zero, List.set_cons_succ])
    refine callH2 (i := 1) (j := 8) { dst := some 41, op := Go.Op.call { callee := Go.Callee.value (Go.Operand.func 8), args := #[Go.Operand.tmp 40], argTypes := #[25] }, type := 30, pos := "law.go:54", after := #[{ on := 0, ground := Go.Ground.data }], guard := none } { dst := some 17, op := Go.Op.alloc 30, type := 0, pos := "law.go:54", after := #[], guard := none } (by kernel_rfl) rfl rfl rfl rfl (fun K hK => ?_) (fun K hK => ?_)
    · go_simp
      refine (GV _).mono ?_
      rintro e v1003 ⟨rfl, b1003⟩
      have d1003 := hH.up b1003
      clear hH
      refine hK.out _ _ d1003 (fun hH => ?_)
      clear hK K
      (try simp only [Act.put, List.setIfInBounds_toArray, List.set_cons_zero, List.set_cons_succ])
      refine callH2 (i := 3) (j := 8) { dst := some 43, op := Go.Op.call { callee := Go.Callee.value (Go.Operand.func 18), args := #[Go.Operand.tmp 41, Go.Operand.tmp 42], argTypes := #[30, 23] }, type := 42, pos := "law.go:54", after := #[{ on := 1, ground := Go.Ground.data }, { on := 2, ground := Go.Ground.data }, { on := 1, ground := Go.Ground.chain }], guard := none } { dst := some 17, op := Go.Op.alloc 30, type := 0, pos := "law.go:54", after := #[], guard := none } (by kernel_rfl) rfl rfl rfl rfl (fun K hK => ?_) (fun K hK => ?_)
      · go_simp
        refine (NX _).mono ?_
        rintro e v1004 ⟨rfl, b1004⟩
        have d1004 := hH.up b1004
        clear hH
        refine hK.out _ _ d1004 (fun hH => ?_)
        clear hK K
        (try simp only [Act.put, List.setIfInBounds_toArray, List.set_cons_zero, List.set_cons_succ])
        refine takeH (i := 4) (dst := some 39) (v := ?v1005) rfl rfl (by kernel_rfl) (by kernel_rfl) (by kernel_rfl) (fun _ _ _ h => h) rfl ?hy1005 hH rfl ?rest1005
        case hy1005 => (intro W hW; have q0 := hW.two.s.c0; have q1 := hW.two.s.c1; have q2 := hW.two.s.c2; have q3 := hW.two.s.c3; have y0 := hW.two.q0; have y1 := hW.two.q1; have y2 := hW.two.q2; clear hW; go_simp; try with_reducible rfl)
        (try simp only [Act.put, List.setIfInBounds_toArray, List.set_cons_zero, List.set_cons_succ])
        refine takeH (i := 5) (dst := some 44) (v := ?v1006) rfl rfl (by kernel_rfl) (by kernel_rfl) (by kernel_rfl) (fun _ _ _ h => h) rfl ?hy1006 hH rfl ?rest1006
        case hy1006 => (intro W hW; have q0 := hW.two.s.c0; have q1 := hW.two.s.c1; have q2 := hW.two.s.c2; have q3 := hW.two.s.c3; have y0 := hW.two.q0; have y1 := hW.two.q1; have y2 := hW.two.q2; clear hW; go_simp; try with_reducible rfl)
        (try simp only [Act.put, List.setIfInBounds_toArray, List.set_cons_zero, List.set_cons_succ])
        refine takeH (i := 6) (dst := some 45) (v := ?v1007) rfl rfl (by kernel_rfl) (by kernel_rfl) (by kernel_rfl) (fun _ _ _ h => h) rfl ?hy1007 hH rfl ?rest1007
        case hy1007 => (intro W hW; have q0 := hW.two.s.c0; have q1 := hW.two.s.c1; have q2 := hW.two.s.c2; have q3 := hW.two.s.c3; have y0 := hW.two.q0; have y1 := hW.two.q1; have y2 := hW.two.q2; clear hW; go_simp; try with_reducible rfl)
        (try simp only [Act.put, List.setIfInBounds_toArray, List.set_cons_zero, List.set_cons_succ])
        refine takeH (i := 7) (dst := some 46) (v := ?v1008) rfl rfl (by kernel_rfl) (by kernel_rfl) (by kernel_rfl) (fun _ _ _ h => h) rfl ?hy1008 hH rfl ?rest1008
        case hy1008 => (intro W hW; have q0 := hW.two.s.c0; have q1 := hW.two.s.c1; have q2 := hW.two.s.c2; have q3 := hW.two.s.c3; have y0 := hW.two.q0; have y1 := hW.two.q1; have y2 := hW.two.q2; clear hW; go_simp; try with_reducible rfl)
        (try simp only [Act.put, List.setIfInBounds_toArray, List.set_cons_zero, List.set_cons_succ])
        refine callH (i := 8) { dst := some 17, op := Go.Op.alloc 30, type := 0, pos := "law.go:54", after := #[], guard := none } (by kernel_rfl) rfl rfl (fun K hK => ?_)
        go_simp
        have al1009 : Below v1004.heap.size v1004 (v1004.alloc (.cells #[.int .i64 0, .int .i64 0, .int .i64 0, .int .i64 0] 30)) := (Below.refl _ _).alloc (Nat.le_refl _) _
        have hPL := hH.lt
        have d1009 := hH.up al1009
        have row1009 : Row4 (v1004.alloc (.cells #[.int .i64 0, .int .i64 0, .int .i64 0, .int .i64 0] 30)) v1004.heap.size 30 0 0 0 0 := heap_alloc_new _ _
        clear al1009
        obtain ⟨nw1009, hnw1009⟩ : ∃ nw, Hid (nw = v1004.alloc (.cells #[.int .i64 0, .int .i64 0, .int .i64 0, .int .i64 0] 30)) := ⟨_, rfl⟩
        rw [← hnw1009.out] at d1009 row1009 ⊢
        clear hH
        refine hK.out _ _ d1009 (fun hH => ?_)
        clear hK K
        (try simp only [Act.put, List.setIfInBounds_toArray, List.set_cons_zero, List.set_cons_succ])
        have r0 := row1009.c0
        have r1 := row1009.c1
        have r2 := row1009.c2
        have r3 := row1009.c3
        have f0 := row1009.fr 0
        have f1 := row1009.fr 1
        have f2 := row1009.fr 2
        have f3 := row1009.fr 3
        have hPl := hPL
        have dS := hH.set4 hPl (.int .i64 N0) (.int .i64 N1) (.int .i64 N2) (.int .i64 N3)
        have dR := row1009.set N0 N1 N2 N3
        refine callH (i := 9) { dst := none, op := Go.Op.store 30 (Go.Operand.tmp 17) (Go.Operand.tmp 44), type := 0, pos := "law.go:54", after := #[{ on := 8, ground := Go.Ground.data }, { on := 5, ground := Go.Ground.data }, { on := 3, ground := Go.Ground.chain }, { on := 0, ground := Go.Ground.phase }, { on := 1, ground := Go.Ground.phase }, { on := 2, ground := Go.Ground.phase }, { on := 3, ground := Go.Ground.phase }, { on := 4, ground := Go.Ground.phase }, { on := 5, ground := Go.Ground.phase }, { on := 6, ground := Go.Ground.textOnly Go.Departure.lateStores }, { on := 7, ground := Go.Ground.textOnly Go.Departure.lateStores }, { on := 8, ground := Go.Ground.phase }], guard := none } (by kernel_rfl) rfl rfl (fun K hK => ?_)
        go_simp
        clear hH
        refine hK.out _ _ dS (fun hH => ?_)
        clear hK K
        (try simp only [Act.put, List.setIfInBounds_toArray, List.set_cons_zero, List.set_cons_succ])
        refine takeH (i := 10) (dst := some 18) (v := ?v1010) rfl rfl (by kernel_rfl) (by kernel_rfl) (by kernel_rfl) (fun _ _ _ h => h) rfl ?hy1010 hH rfl ?rest1010
        case hy1010 => (intro W hW; have q0 := hW.two.s.c0; have q1 := hW.two.s.c1; have q2 := hW.two.s.c2; have q3 := hW.two.s.c3; have y0 := hW.two.q0; have y1 := hW.two.q1; have y2 := hW.two.q2; clear hW; go_simp; try with_reducible rfl)
        (try simp only [Act.put, List.setIfInBounds_toArray, List.set_cons_zero, List.set_cons_succ])
        refine takeH (i := 11) (dst := some 19) (v := ?v1011) rfl rfl (by kernel_rfl) (by kernel_rfl) (by kernel_rfl) (fun _ _ _ h => h) rfl ?hy1011 hH rfl ?rest1011
        case hy1011 => (intro W hW; have q0 := hW.two.s.c0; have q1 := hW.two.s.c1; have q2 := hW.two.s.c2; have q3 := hW.two.s.c3; have y0 := hW.two.q0; have y1 := hW.two.q1; have y2 := hW.two.q2; clear hW; go_simp; try with_reducible rfl)
        (try simp only [Act.put, List.setIfInBounds_toArray, List.set_cons_zero, List.set_cons_succ])
        refine wpAnyH_done (by kernel_rfl) ?_ _
        go_wp2_with fail
        go_meet
        case rel => exact ⟨_, rfl, rfl, rfl, dS, dR⟩
      · go_simp
        have al1012 : Below v1003.heap.size v1003 (v1003.alloc (.cells #[.int .i64 0, .int .i64 0, .int .i64 0, .int .i64 0] 30)) := (Below.refl _ _).alloc (Nat.le_refl _) _
        have hPL := hH.lt
        have d1012 := hH.up al1012
        have row1012 : Row4 (v1003.alloc (.cells #[.int .i64 0, .int .i64 0, .int .i64 0, .int .i64 0] 30)) v1003.heap.size 30 0 0 0 0 := heap_alloc_new _ _
        clear al1012
        obtain ⟨nw1012, hnw1012⟩ : ∃ nw, Hid (nw = v1003.alloc (.cells #[.int .i64 0, .int .i64 0, .int .i64 0, .int .i64 0] 30)) := ⟨_, rfl⟩
        rw [← hnw1012.out] at d1012 row1012 ⊢
        clear hH
        refine hK.out _ _ d1012 (fun hH => ?_)
        clear hK K
        (try simp only [Act.put, List.setIfInBounds_toArray, List.set_cons_zero, List.set_cons_succ])
        refine callH (i := 3) { dst := some 43, op := Go.Op.call { callee := Go.Callee.value (Go.Operand.func 18), args := #[Go.Operand.tmp 41, Go.Operand.tmp 42], argTypes := #[30, 23] }, type := 42, pos := "law.go:54", after := #[{ on := 1, ground := Go.Ground.data }, { on := 2, ground := Go.Ground.data }, { on := 1, ground := Go.Ground.chain }], guard := none } (by kernel_rfl) rfl rfl (fun K hK => ?_)
        go_simp
        refine (NX _).mono ?_
        rintro e v1013 ⟨rfl, b1013⟩
        have d1013 := hH.up b1013
        have row1013 := row1012.up b1013
        clear hH
        refine hK.out _ _ d1013 (fun hH => ?_)
        clear hK K
        (try simp only [Act.put, List.setIfInBounds_toArray, List.set_cons_zero, List.set_cons_succ])
        refine takeH (i := 4) (dst := some 39) (v := ?v1014) rfl rfl (by kernel_rfl) (by kernel_rfl) (by kernel_rfl) (fun _ _ _ h => h) rfl ?hy1014 hH rfl ?rest1014
        case hy1014 => (intro W hW; have q0 := hW.two.s.c0; have q1 := hW.two.s.c1; have q2 := hW.two.s.c2; have q3 := hW.two.s.c3; have y0 := hW.two.q0; have y1 := hW.two.q1; have y2 := hW.two.q2; clear hW; go_simp; try with_reducible rfl)
        (try simp only [Act.put, List.setIfInBounds_toArray, List.set_cons_zero, List.set_cons_succ])
        refine takeH (i := 5) (dst := some 44) (v := ?v1015) rfl rfl (by kernel_rfl) (by kernel_rfl) (by kernel_rfl) (fun _ _ _ h => h) rfl ?hy1015 hH rfl ?rest1015
        case hy1015 => (intro W hW; have q0 := hW.two.s.c0; have q1 := hW.two.s.c1; have q2 := hW.two.s.c2; have q3 := hW.two.s.c3; have y0 := hW.two.q0; have y1 := hW.two.q1; have y2 := hW.two.q2; clear hW; go_simp; try with_reducible rfl)
        (try simp only [Act.put, List.setIfInBounds_toArray, List.set_cons_zero, List.set_cons_succ])
        refine takeH (i := 6) (dst := some 45) (v := ?v1016) rfl rfl (by kernel_rfl) (by kernel_rfl) (by kernel_rfl) (fun _ _ _ h => h) rfl ?hy1016 hH rfl ?rest1016
        case hy1016 => (intro W hW; have q0 := hW.two.s.c0; have q1 := hW.two.s.c1; have q2 := hW.two.s.c2; have q3 := hW.two.s.c3; have y0 := hW.two.q0; have y1 := hW.two.q1; have y2 := hW.two.q2; clear hW; go_simp; try with_reducible rfl)
        (try simp only [Act.put, List.setIfInBounds_toArray, List.set_cons_zero, List.set_cons_succ])
        refine takeH (i := 7) (dst := some 46) (v := ?v1017) rfl rfl (by kernel_rfl) (by kernel_rfl) (by kernel_rfl) (fun _ _ _ h => h) rfl ?hy1017 hH rfl ?rest1017
        case hy1017 => (intro W hW; have q0 := hW.two.s.c0; have q1 := hW.two.s.c1; have q2 := hW.two.s.c2; have q3 := hW.two.s.c3; have y0 := hW.two.q0; have y1 := hW.two.q1; have y2 := hW.two.q2; clear hW; go_simp; try with_reducible rfl)
        (try simp only [Act.put, List.setIfInBounds_toArray, List.set_cons_zero, List.set_cons_succ])
        have r0 := row1013.c0
        have r1 := row1013.c1
        have r2 := row1013.c2
        have r3 := row1013.c3
        have f0 := row1013.fr 0
        have f1 := row1013.fr 1
        have f2 := row1013.fr 2
        have f3 := row1013.fr 3
        have hPl := hPL
        have dS := hH.set4 hPl (.int .i64 N0) (.int .i64 N1) (.int .i64 N2) (.int .i64 N3)
        have dR := row1013.set N0 N1 N2 N3
        refine callH (i := 9) { dst := none, op := Go.Op.store 30 (Go.Operand.tmp 17) (Go.Operand.tmp 44), type := 0, pos := "law.go:54", after := #[{ on := 8, ground := Go.Ground.data }, { on := 5, ground := Go.Ground.data }, { on := 3, ground := Go.Ground.chain }, { on := 0, ground := Go.Ground.phase }, { on := 1, ground := Go.Ground.phase }, { on := 2, ground := Go.Ground.phase }, { on := 3, ground := Go.Ground.phase }, { on := 4, ground := Go.Ground.phase }, { on := 5, ground := Go.Ground.phase }, { on := 6, ground := Go.Ground.textOnly Go.Departure.lateStores }, { on := 7, ground := Go.Ground.textOnly Go.Departure.lateStores }, { on := 8, ground := Go.Ground.phase }], guard := none } (by kernel_rfl) rfl rfl (fun K hK => ?_)
        go_simp
        clear hH
        refine hK.out _ _ dS (fun hH => ?_)
        clear hK K
        (try simp only [Act.put, List.setIfInBounds_toArray, List.set_cons_zero, List.set_cons_succ])
        refine takeH (i := 10) (dst := some 18) (v := ?v1018) rfl rfl (by kernel_rfl) (by kernel_rfl) (by kernel_rfl) (fun _ _ _ h => h) rfl ?hy1018 hH rfl ?rest1018
        case hy1018 => (intro W hW; have q0 := hW.two.s.c0; have q1 := hW.two.s.c1; have q2 := hW.two.s.c2; have q3 := hW.two.s.c3; have y0 := hW.two.q0; have y1 := hW.two.q1; have y2 := hW.two.q2; clear hW; go_simp; try with_reducible rfl)
        (try simp only [Act.put, List.setIfInBounds_toArray, List.set_cons_zero, List.set_cons_succ])
        refine takeH (i := 11) (dst := some 19) (v := ?v1019) rfl rfl (by kernel_rfl) (by kernel_rfl) (by kernel_rfl) (fun _ _ _ h => h) rfl ?hy1019 hH rfl ?rest1019
        case hy1019 => (intro W hW; have q0 := hW.two.s.c0; have q1 := hW.two.s.c1; have q2 := hW.two.s.c2; have q3 := hW.two.s.c3; have y0 := hW.two.q0; have y1 := hW.two.q1; have y2 := hW.two.q2; clear hW; go_simp; try with_reducible rfl)
        (try simp only [Act.put, List.setIfInBounds_toArray, List.set_cons_zero, List.set_cons_succ])
        refine wpAnyH_done (by kernel_rfl) ?_ _
        go_wp2_with fail
        go_meet
        case rel => exact ⟨_, rfl, rfl, rfl, dS, dR⟩
    · go_simp
      have al1020 : Below (w2.alloc (.cells #[.int .i64 C0, .int .i64 C1, .int .i64 C2, .int .i64 C3] 25)).drew.heap.size (w2.alloc (.cells #[.int .i64 C0, .int .i64 C1, .int .i64 C2, .int .i64 C3] 25)).drew ((w2.alloc (.cells #[.int .i64 C0, .int .i64 C1, .int .i64 C2, .int .i64 C3] 25)).drew.alloc (.cells #[.int .i64 0, .int .i64 0, .int .i64 0, .int .i64 0] 30)) := (Below.refl _ _).alloc (Nat.le_refl _) _
      have hPL := hH.lt
      have d1020 := hH.up al1020
      have row1020 : Row4 ((w2.alloc (.cells #[.int .i64 C0, .int .i64 C1, .int .i64 C2, .int .i64 C3] 25)).drew.alloc (.cells #[.int .i64 0, .int .i64 0, .int .i64 0, .int .i64 0] 30)) (w2.heap.size + 1) 30 0 0 0 0 := by have h9 := heap_alloc_new (w2.alloc (.cells #[.int .i64 C0, .int .i64 C1, .int .i64 C2, .int .i64 C3] 25)).drew (.cells #[.int .i64 0, .int .i64 0, .int .i64 0, .int .i64 0] 30); rw [hsz0] at h9; exact h9
      rw [hsz0] at hPL
      clear hH
      refine hK.out _ _ d1020 (fun hH => ?_)
      clear hK K
      (try simp only [Act.put, List.setIfInBounds_toArray, List.set_cons_zero, List.set_cons_succ])
      refine callH (i := 1) { dst := some 41, op := Go.Op.call { callee := Go.Callee.value (Go.Operand.func 8), args := #[Go.Operand.tmp 40], argTypes := #[25] }, type := 30, pos := "law.go:54", after := #[{ on := 0, ground := Go.Ground.data }], guard := none } (by kernel_rfl) rfl rfl (fun K hK => ?_)
      go_simp
      refine (GV _).mono ?_
      rintro e v1021 ⟨rfl, b1021⟩
      have d1021 := hH.up b1021
      have row1021 := row1020.up b1021
      clear hH
      refine hK.out _ _ d1021 (fun hH => ?_)
      clear hK K
      (try simp only [Act.put, List.setIfInBounds_toArray, List.set_cons_zero, List.set_cons_succ])
      refine callH (i := 3) { dst := some 43, op := Go.Op.call { callee := Go.Callee.value (Go.Operand.func 18), args := #[Go.Operand.tmp 41, Go.Operand.tmp 42], argTypes := #[30, 23] }, type := 42, pos := "law.go:54", after := #[{ on := 1, ground := Go.Ground.data }, { on := 2, ground := Go.Ground.data }, { on := 1, ground := Go.Ground.chain }], guard := none } (by kernel_rfl) rfl rfl (fun K hK => ?_)
      go_simp
      refine (NX _).mono ?_
      rintro e v1022 ⟨rfl, b1022⟩
      have d1022 := hH.up b1022
      have row1022 := row1021.up b1022
      clear hH
      refine hK.out _ _ d1022 (fun hH => ?_)
      clear hK K
      (try simp only [Act.put, List.setIfInBounds_toArray, List.set_cons_zero, List.set_cons_succ])
      refine takeH (i := 4) (dst := some 39) (v := ?v1023) rfl rfl (by kernel_rfl) (by kernel_rfl) (by kernel_rfl) (fun _ _ _ h => h) rfl ?hy1023 hH rfl ?rest1023
      case hy1023 => (intro W hW; have q0 := hW.two.s.c0; have q1 := hW.two.s.c1; have q2 := hW.two.s.c2; have q3 := hW.two.s.c3; have y0 := hW.two.q0; have y1 := hW.two.q1; have y2 := hW.two.q2; clear hW; go_simp; try with_reducible rfl)
      (try simp only [Act.put, List.setIfInBounds_toArray, List.set_cons_zero, List.set_cons_succ])
      refine takeH (i := 5) (dst := some 44) (v := ?v1024) rfl rfl (by kernel_rfl) (by kernel_rfl) (by kernel_rfl) (fun _ _ _ h => h) rfl ?hy1024 hH rfl ?rest1024
      case hy1024 => (intro W hW; have q0 := hW.two.s.c0; have q1 := hW.two.s.c1; have q2 := hW.two.s.c2; have q3 := hW.two.s.c3; have y0 := hW.two.q0; have y1 := hW.two.q1; have y2 := hW.two.q2; clear hW; go_simp; try with_reducible rfl)
      (try simp only [Act.put, List.setIfInBounds_toArray, List.set_cons_zero, List.set_cons_succ])
      refine takeH (i := 6) (dst := some 45) (v := ?v1025) rfl rfl (by kernel_rfl) (by kernel_rfl) (by kernel_rfl) (fun _ _ _ h => h) rfl ?hy1025 hH rfl ?rest1025
      case hy1025 => (intro W hW; have q0 := hW.two.s.c0; have q1 := hW.two.s.c1; have q2 := hW.two.s.c2; have q3 := hW.two.s.c3; have y0 := hW.two.q0; have y1 := hW.two.q1; have y2 := hW.two.q2; clear hW; go_simp; try with_reducible rfl)
      (try simp only [Act.put, List.setIfInBounds_toArray, List.set_cons_zero, List.set_cons_succ])
      refine takeH (i := 7) (dst := some 46) (v := ?v1026) rfl rfl (by kernel_rfl) (by kernel_rfl) (by kernel_rfl) (fun _ _ _ h => h) rfl ?hy1026 hH rfl ?rest1026
      case hy1026 => (intro W hW; have q0 := hW.two.s.c0; have q1 := hW.two.s.c1; have q2 := hW.two.s.c2; have q3 := hW.two.s.c3; have y0 := hW.two.q0; have y1 := hW.two.q1; have y2 := hW.two.q2; clear hW; go_simp; try with_reducible rfl)
      (try simp only [Act.put, List.setIfInBounds_toArray, List.set_cons_zero, List.set_cons_succ])
      have r0 := row1022.c0
      have r1 := row1022.c1
      have r2 := row1022.c2
      have r3 := row1022.c3
      have f0 := row1022.fr 0
      have f1 := row1022.fr 1
      have f2 := row1022.fr 2
      have f3 := row1022.fr 3
      have hPl := hPL
      have dS := hH.set4 hPl (.int .i64 N0) (.int .i64 N1) (.int .i64 N2) (.int .i64 N3)
      have dR := row1022.set N0 N1 N2 N3
      refine callH (i := 9) { dst := none, op := Go.Op.store 30 (Go.Operand.tmp 17) (Go.Operand.tmp 44), type := 0, pos := "law.go:54", after := #[{ on := 8, ground := Go.Ground.data }, { on := 5, ground := Go.Ground.data }, { on := 3, ground := Go.Ground.chain }, { on := 0, ground := Go.Ground.phase }, { on := 1, ground := Go.Ground.phase }, { on := 2, ground := Go.Ground.phase }, { on := 3, ground := Go.Ground.phase }, { on := 4, ground := Go.Ground.phase }, { on := 5, ground := Go.Ground.phase }, { on := 6, ground := Go.Ground.textOnly Go.Departure.lateStores }, { on := 7, ground := Go.Ground.textOnly Go.Departure.lateStores }, { on := 8, ground := Go.Ground.phase }], guard := none } (by kernel_rfl) rfl rfl (fun K hK => ?_)
      go_simp
      clear hH
      refine hK.out _ _ dS (fun hH => ?_)
      clear hK K
      (try simp only [Act.put, List.setIfInBounds_toArray, List.set_cons_zero, List.set_cons_succ])
      refine takeH (i := 10) (dst := some 18) (v := ?v1027) rfl rfl (by kernel_rfl) (by kernel_rfl) (by kernel_rfl) (fun _ _ _ h => h) rfl ?hy1027 hH rfl ?rest1027
      case hy1027 => (intro W hW; have q0 := hW.two.s.c0; have q1 := hW.two.s.c1; have q2 := hW.two.s.c2; have q3 := hW.two.s.c3; have y0 := hW.two.q0; have y1 := hW.two.q1; have y2 := hW.two.q2; clear hW; go_simp; try with_reducible rfl)
      (try simp only [Act.put, List.setIfInBounds_toArray, List.set_cons_zero, List.set_cons_succ])
      refine takeH (i := 11) (dst := some 19) (v := ?v1028) rfl rfl (by kernel_rfl) (by kernel_rfl) (by kernel_rfl) (fun _ _ _ h => h) rfl ?hy1028 hH rfl ?rest1028
      case hy1028 => (intro W hW; have q0 := hW.two.s.c0; have q1 := hW.two.s.c1; have q2 := hW.two.s.c2; have q3 := hW.two.s.c3; have y0 := hW.two.q0; have y1 := hW.two.q1; have y2 := hW.two.q2; clear hW; go_simp; try with_reducible rfl)
      (try simp only [Act.put, List.setIfInBounds_toArray, List.set_cons_zero, List.set_cons_succ])
      refine wpAnyH_done (by kernel_rfl) ?_ _
      go_wp2_with fail
      go_meet
      case rel => exact ⟨_, rfl, rfl, rfl, dS, dR⟩
  case rest =>
    obtain ⟨P3, rfl, rfl, rfl, hC, hR⟩ := hcut
    have s0 := hC.two.s.c0
    have s1 := hC.two.s.c1
    have s2 := hC.two.s.c2
    have s3 := hC.two.s.c3
    have y0 := hC.two.q0
    have y1 := hC.two.q1
    have y2 := hC.two.q2
    have HC : Hid (Cs w g a i n x y z C0 C1 C2 C3 w1.heap.size w2.heap.size wc) := hC
    have HR : Hid (Row4 wc P3 30 N0 N1 N2 N3) := hR
    clear hC hR hd hsz0 NX GV
    go_wp2_with fail
    clear s0 s1 s2 s3 y0 y1 y2
    refine (RN _).mono ?_
    rintro e w4 ⟨rfl, hb4⟩
    clear RN
    have al4 : Below wc.heap.size wc (w4.alloc (.cells #[.int .i64 N0, .int .i64 N1, .int .i64 N2, .int .i64 N3] 25)) := hb4.alloc hb4.size _
    have hd4 : Ct w g a i n x y z C0 C1 C2 C3 N0 N1 N2 N3 w1.heap.size w2.heap.size P3 w4.heap.size (w4.alloc (.cells #[.int .i64 N0, .int .i64 N1, .int .i64 N2, .int .i64 N3] 25)).drew := Ct.up (w := w4.alloc (.cells #[.int .i64 N0, .int .i64 N1, .int .i64 N2, .int .i64 N3] 25)) ⟨HC.out.up al4, HR.out.up al4, heap_alloc_new _ _⟩ (Below.refl _ _).drew
    have T1 := taken_any C0 C1 C2 C3
    have T2 := taken_any N0 N1 N2 N3
    clear hb4 al4 HC HR
    go_wp2_with fail
    refine wp_region_held_drew (S := (fun w' => Ct w g a i n x y z C0 C1 C2 C3 N0 N1 N2 N3 w1.heap.size w2.heap.size P3 w4.heap.size w')) (by kernel_rfl) hd4 (fun hH => ?_)
    refine takeH (i := 0) (dst := some 54) (v := ?v1) rfl rfl (by kernel_rfl) (by kernel_rfl) (by kernel_rfl) (fun _ _ _ h => h) rfl ?hy1 hH rfl ?rest1
    case hy1 => (intro W hW; have u0 := hW.c.p.c0; have u1 := hW.c.p.c1; have u2 := hW.c.p.c2; have u3 := hW.c.p.c3; have v0 := hW.c.q.c0; have v1 := hW.c.q.c1; have v2 := hW.c.q.c2; have v3 := hW.c.q.c3; have x0 := hW.p.c0; have x1 := hW.p.c1; have x2 := hW.p.c2; have x3 := hW.p.c3; have y0 := hW.q.c0; have y1 := hW.q.c1; have y2 := hW.q.c2; have y3 := hW.q.c3; clear hW; go_simp; try with_reducible rfl)
    (try simp only [Act.put, List.setIfInBounds_toArray, List.set_cons_zero, List.set_cons_succ])
    refine takeH (i := 2) (dst := some 56) (v := ?v2) rfl rfl (by kernel_rfl) (by kernel_rfl) (by kernel_rfl) (fun _ _ _ h => h) rfl ?hy2 hH rfl ?rest2
    case hy2 => (intro W hW; have u0 := hW.c.p.c0; have u1 := hW.c.p.c1; have u2 := hW.c.p.c2; have u3 := hW.c.p.c3; have v0 := hW.c.q.c0; have v1 := hW.c.q.c1; have v2 := hW.c.q.c2; have v3 := hW.c.q.c3; have x0 := hW.p.c0; have x1 := hW.p.c1; have x2 := hW.p.c2; have x3 := hW.p.c3; have y0 := hW.q.c0; have y1 := hW.q.c1; have y2 := hW.q.c2; have y3 := hW.q.c3; clear hW; go_simp; try with_reducible rfl)
    (try simp only [Act.put, List.setIfInBounds_toArray, List.set_cons_zero, List.set_cons_succ])
    refine callH (i := 1) { dst := some 55, op := Go.Op.call { callee := Go.Callee.value (Go.Operand.func 13), args := #[Go.Operand.tmp 54], argTypes := #[30] }, type := 25, pos := "law.go:56", after := #[{ on := 0, ground := Go.Ground.data }], guard := none } (by kernel_rfl) rfl rfl (fun K hK => ?_)
    go_simp
    refine (T1 _).mono ?_
    rintro e v1 ⟨rfl, b1⟩
    have d1 := hH.up b1
    clear hH
    refine hK.out _ _ d1 (fun hH => ?_)
    clear hK K
    (try simp only [Act.put, List.setIfInBounds_toArray, List.set_cons_zero, List.set_cons_succ])
    refine takeH (i := 3) (dst := some 57) (v := ?v3) rfl rfl (by kernel_rfl) (by kernel_rfl) (by kernel_rfl) (fun _ _ _ h => h) rfl ?hy3 hH rfl ?rest3
    case hy3 => (intro W hW; have u0 := hW.c.p.c0; have u1 := hW.c.p.c1; have u2 := hW.c.p.c2; have u3 := hW.c.p.c3; have v0 := hW.c.q.c0; have v1 := hW.c.q.c1; have v2 := hW.c.q.c2; have v3 := hW.c.q.c3; have x0 := hW.p.c0; have x1 := hW.p.c1; have x2 := hW.p.c2; have x3 := hW.p.c3; have y0 := hW.q.c0; have y1 := hW.q.c1; have y2 := hW.q.c2; have y3 := hW.q.c3; clear hW; go_simp; try with_reducible rfl)
    (try simp only [Act.put, List.setIfInBounds_toArray, List.set_cons_zero, List.set_cons_succ])
    refine takeH (i := 4) (dst := some 58) (v := ?v4) rfl rfl (by kernel_rfl) (by kernel_rfl) (by kernel_rfl) (fun _ _ _ h => h) rfl ?hy4 hH rfl ?rest4
    case hy4 => (intro W hW; have u0 := hW.c.p.c0; have u1 := hW.c.p.c1; have u2 := hW.c.p.c2; have u3 := hW.c.p.c3; have v0 := hW.c.q.c0; have v1 := hW.c.q.c1; have v2 := hW.c.q.c2; have v3 := hW.c.q.c3; have x0 := hW.p.c0; have x1 := hW.p.c1; have x2 := hW.p.c2; have x3 := hW.p.c3; have y0 := hW.q.c0; have y1 := hW.q.c1; have y2 := hW.q.c2; have y3 := hW.q.c3; clear hW; go_simp; try with_reducible rfl)
    (try simp only [Act.put, List.setIfInBounds_toArray, List.set_cons_zero, List.set_cons_succ])
    refine takeH (i := 5) (dst := some 59) (v := ?v5) rfl rfl (by kernel_rfl) (by kernel_rfl) (by kernel_rfl) (fun _ _ _ h => h) rfl ?hy5 hH rfl ?rest5
    case hy5 => (intro W hW; have u0 := hW.c.p.c0; have u1 := hW.c.p.c1; have u2 := hW.c.p.c2; have u3 := hW.c.p.c3; have v0 := hW.c.q.c0; have v1 := hW.c.q.c1; have v2 := hW.c.q.c2; have v3 := hW.c.q.c3; have x0 := hW.p.c0; have x1 := hW.p.c1; have x2 := hW.p.c2; have x3 := hW.p.c3; have y0 := hW.q.c0; have y1 := hW.q.c1; have y2 := hW.q.c2; have y3 := hW.q.c3; clear hW; go_simp; try with_reducible rfl)
    (try simp only [Act.put, List.setIfInBounds_toArray, List.set_cons_zero, List.set_cons_succ])
    refine takeH (i := 6) (dst := some 60) (v := ?v6) rfl rfl (by kernel_rfl) (by kernel_rfl) (by kernel_rfl) (fun _ _ _ h => h) rfl ?hy6 hH rfl ?rest6
    case hy6 => (intro W hW; have u0 := hW.c.p.c0; have u1 := hW.c.p.c1; have u2 := hW.c.p.c2; have u3 := hW.c.p.c3; have v0 := hW.c.q.c0; have v1 := hW.c.q.c1; have v2 := hW.c.q.c2; have v3 := hW.c.q.c3; have x0 := hW.p.c0; have x1 := hW.p.c1; have x2 := hW.p.c2; have x3 := hW.p.c3; have y0 := hW.q.c0; have y1 := hW.q.c1; have y2 := hW.q.c2; have y3 := hW.q.c3; clear hW; go_simp; try with_reducible rfl)
    (try simp only [Act.put, List.setIfInBounds_toArray, List.set_cons_zero, List.set_cons_succ])
    refine takeH (i := 7) (dst := some 61) (v := ?v7) rfl rfl (by kernel_rfl) (by kernel_rfl) (by kernel_rfl) (fun _ _ _ h => h) rfl ?hy7 hH rfl ?rest7
    case hy7 => (intro W hW; have u0 := hW.c.p.c0; have u1 := hW.c.p.c1; have u2 := hW.c.p.c2; have u3 := hW.c.p.c3; have v0 := hW.c.q.c0; have v1 := hW.c.q.c1; have v2 := hW.c.q.c2; have v3 := hW.c.q.c3; have x0 := hW.p.c0; have x1 := hW.p.c1; have x2 := hW.p.c2; have x3 := hW.p.c3; have y0 := hW.q.c0; have y1 := hW.q.c1; have y2 := hW.q.c2; have y3 := hW.q.c3; clear hW; go_simp; try with_reducible rfl)
    (try simp only [Act.put, List.setIfInBounds_toArray, List.set_cons_zero, List.set_cons_succ])
    refine takeH (i := 8) (dst := some 62) (v := ?v8) rfl rfl (by kernel_rfl) (by kernel_rfl) (by kernel_rfl) (fun _ _ _ h => h) rfl ?hy8 hH rfl ?rest8
    case hy8 => (intro W hW; have u0 := hW.c.p.c0; have u1 := hW.c.p.c1; have u2 := hW.c.p.c2; have u3 := hW.c.p.c3; have v0 := hW.c.q.c0; have v1 := hW.c.q.c1; have v2 := hW.c.q.c2; have v3 := hW.c.q.c3; have x0 := hW.p.c0; have x1 := hW.p.c1; have x2 := hW.p.c2; have x3 := hW.p.c3; have y0 := hW.q.c0; have y1 := hW.q.c1; have y2 := hW.q.c2; have y3 := hW.q.c3; clear hW; go_simp; try with_reducible rfl)
    (try simp only [Act.put, List.setIfInBounds_toArray, List.set_cons_zero, List.set_cons_succ])
    refine takeH (i := 9) (dst := some 63) (v := ?v9) rfl rfl (by kernel_rfl) (by kernel_rfl) (by kernel_rfl) (fun _ _ _ h => h) rfl ?hy9 hH rfl ?rest9
    case hy9 => (intro W hW; have u0 := hW.c.p.c0; have u1 := hW.c.p.c1; have u2 := hW.c.p.c2; have u3 := hW.c.p.c3; have v0 := hW.c.q.c0; have v1 := hW.c.q.c1; have v2 := hW.c.q.c2; have v3 := hW.c.q.c3; have x0 := hW.p.c0; have x1 := hW.p.c1; have x2 := hW.p.c2; have x3 := hW.p.c3; have y0 := hW.q.c0; have y1 := hW.q.c1; have y2 := hW.q.c2; have y3 := hW.q.c3; clear hW; go_simp; try with_reducible rfl)
    (try simp only [Act.put, List.setIfInBounds_toArray, List.set_cons_zero, List.set_cons_succ])
    refine takeH (i := 10) (dst := some 64) (v := ?v10) rfl rfl (by kernel_rfl) (by kernel_rfl) (by kernel_rfl) (fun _ _ _ h => h) rfl ?hy10 hH rfl ?rest10
    case hy10 => (intro W hW; have u0 := hW.c.p.c0; have u1 := hW.c.p.c1; have u2 := hW.c.p.c2; have u3 := hW.c.p.c3; have v0 := hW.c.q.c0; have v1 := hW.c.q.c1; have v2 := hW.c.q.c2; have v3 := hW.c.q.c3; have x0 := hW.p.c0; have x1 := hW.p.c1; have x2 := hW.p.c2; have x3 := hW.p.c3; have y0 := hW.q.c0; have y1 := hW.q.c1; have y2 := hW.q.c2; have y3 := hW.q.c3; clear hW; go_simp; try with_reducible rfl)
    (try simp only [Act.put, List.setIfInBounds_toArray, List.set_cons_zero, List.set_cons_succ])
    refine takeH (i := 11) (dst := some 65) (v := ?v11) rfl rfl (by kernel_rfl) (by kernel_rfl) (by kernel_rfl) (fun _ _ _ h => h) rfl ?hy11 hH rfl ?rest11
    case hy11 => (intro W hW; have u0 := hW.c.p.c0; have u1 := hW.c.p.c1; have u2 := hW.c.p.c2; have u3 := hW.c.p.c3; have v0 := hW.c.q.c0; have v1 := hW.c.q.c1; have v2 := hW.c.q.c2; have v3 := hW.c.q.c3; have x0 := hW.p.c0; have x1 := hW.p.c1; have x2 := hW.p.c2; have x3 := hW.p.c3; have y0 := hW.q.c0; have y1 := hW.q.c1; have y2 := hW.q.c2; have y3 := hW.q.c3; clear hW; go_simp; try with_reducible rfl)
    (try simp only [Act.put, List.setIfInBounds_toArray, List.set_cons_zero, List.set_cons_succ])
    refine takeH (i := 12) (dst := some 66) (v := ?v12) rfl rfl (by kernel_rfl) (by kernel_rfl) (by kernel_rfl) (fun _ _ _ h => h) rfl ?hy12 hH rfl ?rest12
    case hy12 => (intro W hW; have u0 := hW.c.p.c0; have u1 := hW.c.p.c1; have u2 := hW.c.p.c2; have u3 := hW.c.p.c3; have v0 := hW.c.q.c0; have v1 := hW.c.q.c1; have v2 := hW.c.q.c2; have v3 := hW.c.q.c3; have x0 := hW.p.c0; have x1 := hW.p.c1; have x2 := hW.p.c2; have x3 := hW.p.c3; have y0 := hW.q.c0; have y1 := hW.q.c1; have y2 := hW.q.c2; have y3 := hW.q.c3; clear hW; go_simp; try with_reducible rfl)
    (try simp only [Act.put, List.setIfInBounds_toArray, List.set_cons_zero, List.set_cons_succ])
    refine takeH (i := 13) (dst := some 67) (v := ?v13) rfl rfl (by kernel_rfl) (by kernel_rfl) (by kernel_rfl) (fun _ _ _ h => h) rfl ?hy13 hH rfl ?rest13
    case hy13 => (intro W hW; have u0 := hW.c.p.c0; have u1 := hW.c.p.c1; have u2 := hW.c.p.c2; have u3 := hW.c.p.c3; have v0 := hW.c.q.c0; have v1 := hW.c.q.c1; have v2 := hW.c.q.c2; have v3 := hW.c.q.c3; have x0 := hW.p.c0; have x1 := hW.p.c1; have x2 := hW.p.c2; have x3 := hW.p.c3; have y0 := hW.q.c0; have y1 := hW.q.c1; have y2 := hW.q.c2; have y3 := hW.q.c3; clear hW; go_simp; try with_reducible rfl)
    (try simp only [Act.put, List.setIfInBounds_toArray, List.set_cons_zero, List.set_cons_succ])
    refine takeH (i := 14) (dst := some 68) (v := ?v14) rfl rfl (by kernel_rfl) (by kernel_rfl) (by kernel_rfl) (fun _ _ _ h => h) rfl ?hy14 hH rfl ?rest14
    case hy14 => (intro W hW; have u0 := hW.c.p.c0; have u1 := hW.c.p.c1; have u2 := hW.c.p.c2; have u3 := hW.c.p.c3; have v0 := hW.c.q.c0; have v1 := hW.c.q.c1; have v2 := hW.c.q.c2; have v3 := hW.c.q.c3; have x0 := hW.p.c0; have x1 := hW.p.c1; have x2 := hW.p.c2; have x3 := hW.p.c3; have y0 := hW.q.c0; have y1 := hW.q.c1; have y2 := hW.q.c2; have y3 := hW.q.c3; clear hW; go_simp; try with_reducible rfl)
    (try simp only [Act.put, List.setIfInBounds_toArray, List.set_cons_zero, List.set_cons_succ])
    refine takeH (i := 15) (dst := some 69) (v := ?v15) rfl rfl (by kernel_rfl) (by kernel_rfl) (by kernel_rfl) (fun _ _ _ h => h) rfl ?hy15 hH rfl ?rest15
    case hy15 => (intro W hW; have u0 := hW.c.p.c0; have u1 := hW.c.p.c1; have u2 := hW.c.p.c2; have u3 := hW.c.p.c3; have v0 := hW.c.q.c0; have v1 := hW.c.q.c1; have v2 := hW.c.q.c2; have v3 := hW.c.q.c3; have x0 := hW.p.c0; have x1 := hW.p.c1; have x2 := hW.p.c2; have x3 := hW.p.c3; have y0 := hW.q.c0; have y1 := hW.q.c1; have y2 := hW.q.c2; have y3 := hW.q.c3; clear hW; go_simp; try with_reducible rfl)
    (try simp only [Act.put, List.setIfInBounds_toArray, List.set_cons_zero, List.set_cons_succ])
    refine takeH (i := 17) (dst := some 71) (v := ?v16) rfl rfl (by kernel_rfl) (by kernel_rfl) (by kernel_rfl) (fun _ _ _ h => h) rfl ?hy16 hH rfl ?rest16
    case hy16 => (intro W hW; have u0 := hW.c.p.c0; have u1 := hW.c.p.c1; have u2 := hW.c.p.c2; have u3 := hW.c.p.c3; have v0 := hW.c.q.c0; have v1 := hW.c.q.c1; have v2 := hW.c.q.c2; have v3 := hW.c.q.c3; have x0 := hW.p.c0; have x1 := hW.p.c1; have x2 := hW.p.c2; have x3 := hW.p.c3; have y0 := hW.q.c0; have y1 := hW.q.c1; have y2 := hW.q.c2; have y3 := hW.q.c3; clear hW; go_simp; try with_reducible rfl)
    (try simp only [Act.put, List.setIfInBounds_toArray, List.set_cons_zero, List.set_cons_succ])
    refine callH (i := 16) { dst := some 70, op := Go.Op.call { callee := Go.Callee.value (Go.Operand.func 13), args := #[Go.Operand.tmp 69], argTypes := #[30] }, type := 25, pos := "law.go:56", after := #[{ on := 15, ground := Go.Ground.data }, { on := 14, ground := Go.Ground.chain }, { on := 14, ground := Go.Ground.guard }], guard := some (14, true) } (by kernel_rfl) rfl rfl (fun K hK => ?_)
    go_simp
    refine (T2 _).mono ?_
    rintro e v2 ⟨rfl, b2⟩
    have d2 := hH.up b2
    clear hH
    refine hK.out _ _ d2 (fun hH => ?_)
    clear hK K
    (try simp only [Act.put, List.setIfInBounds_toArray, List.set_cons_zero, List.set_cons_succ])
    refine takeH (i := 18) (dst := some 72) (v := ?v17) rfl rfl (by kernel_rfl) (by kernel_rfl) (by kernel_rfl) (fun _ _ _ h => h) rfl ?hy17 hH rfl ?rest17
    case hy17 => (intro W hW; have u0 := hW.c.p.c0; have u1 := hW.c.p.c1; have u2 := hW.c.p.c2; have u3 := hW.c.p.c3; have v0 := hW.c.q.c0; have v1 := hW.c.q.c1; have v2 := hW.c.q.c2; have v3 := hW.c.q.c3; have x0 := hW.p.c0; have x1 := hW.p.c1; have x2 := hW.p.c2; have x3 := hW.p.c3; have y0 := hW.q.c0; have y1 := hW.q.c1; have y2 := hW.q.c2; have y3 := hW.q.c3; clear hW; go_simp; try with_reducible rfl)
    (try simp only [Act.put, List.setIfInBounds_toArray, List.set_cons_zero, List.set_cons_succ])
    refine takeH (i := 19) (dst := some 73) (v := ?v18) rfl rfl (by kernel_rfl) (by kernel_rfl) (by kernel_rfl) (fun _ _ _ h => h) rfl ?hy18 hH rfl ?rest18
    case hy18 => (intro W hW; have u0 := hW.c.p.c0; have u1 := hW.c.p.c1; have u2 := hW.c.p.c2; have u3 := hW.c.p.c3; have v0 := hW.c.q.c0; have v1 := hW.c.q.c1; have v2 := hW.c.q.c2; have v3 := hW.c.q.c3; have x0 := hW.p.c0; have x1 := hW.p.c1; have x2 := hW.p.c2; have x3 := hW.p.c3; have y0 := hW.q.c0; have y1 := hW.q.c1; have y2 := hW.q.c2; have y3 := hW.q.c3; clear hW; go_simp; try with_reducible rfl)
    (try simp only [Act.put, List.setIfInBounds_toArray, List.set_cons_zero, List.set_cons_succ])
    refine takeH (i := 20) (dst := some 74) (v := ?v19) rfl rfl (by kernel_rfl) (by kernel_rfl) (by kernel_rfl) (fun _ _ _ h => h) rfl ?hy19 hH rfl ?rest19
    case hy19 => (intro W hW; have u0 := hW.c.p.c0; have u1 := hW.c.p.c1; have u2 := hW.c.p.c2; have u3 := hW.c.p.c3; have v0 := hW.c.q.c0; have v1 := hW.c.q.c1; have v2 := hW.c.q.c2; have v3 := hW.c.q.c3; have x0 := hW.p.c0; have x1 := hW.p.c1; have x2 := hW.p.c2; have x3 := hW.p.c3; have y0 := hW.q.c0; have y1 := hW.q.c1; have y2 := hW.q.c2; have y3 := hW.q.c3; clear hW; go_simp; try with_reducible rfl)
    (try simp only [Act.put, List.setIfInBounds_toArray, List.set_cons_zero, List.set_cons_succ])
    refine takeH (i := 21) (dst := some 75) (v := ?v20) rfl rfl (by kernel_rfl) (by kernel_rfl) (by kernel_rfl) (fun _ _ _ h => h) rfl ?hy20 hH rfl ?rest20
    case hy20 => (intro W hW; have u0 := hW.c.p.c0; have u1 := hW.c.p.c1; have u2 := hW.c.p.c2; have u3 := hW.c.p.c3; have v0 := hW.c.q.c0; have v1 := hW.c.q.c1; have v2 := hW.c.q.c2; have v3 := hW.c.q.c3; have x0 := hW.p.c0; have x1 := hW.p.c1; have x2 := hW.p.c2; have x3 := hW.p.c3; have y0 := hW.q.c0; have y1 := hW.q.c1; have y2 := hW.q.c2; have y3 := hW.q.c3; clear hW; go_simp; try with_reducible rfl)
    (try simp only [Act.put, List.setIfInBounds_toArray, List.set_cons_zero, List.set_cons_succ])
    refine takeH (i := 22) (dst := some 76) (v := ?v21) rfl rfl (by kernel_rfl) (by kernel_rfl) (by kernel_rfl) (fun _ _ _ h => h) rfl ?hy21 hH rfl ?rest21
    case hy21 => (intro W hW; have u0 := hW.c.p.c0; have u1 := hW.c.p.c1; have u2 := hW.c.p.c2; have u3 := hW.c.p.c3; have v0 := hW.c.q.c0; have v1 := hW.c.q.c1; have v2 := hW.c.q.c2; have v3 := hW.c.q.c3; have x0 := hW.p.c0; have x1 := hW.p.c1; have x2 := hW.p.c2; have x3 := hW.p.c3; have y0 := hW.q.c0; have y1 := hW.q.c1; have y2 := hW.q.c2; have y3 := hW.q.c3; clear hW; go_simp; try with_reducible rfl)
    (try simp only [Act.put, List.setIfInBounds_toArray, List.set_cons_zero, List.set_cons_succ])
    refine takeH (i := 23) (dst := some 77) (v := ?v22) rfl rfl (by kernel_rfl) (by kernel_rfl) (by kernel_rfl) (fun _ _ _ h => h) rfl ?hy22 hH rfl ?rest22
    case hy22 => (intro W hW; have u0 := hW.c.p.c0; have u1 := hW.c.p.c1; have u2 := hW.c.p.c2; have u3 := hW.c.p.c3; have v0 := hW.c.q.c0; have v1 := hW.c.q.c1; have v2 := hW.c.q.c2; have v3 := hW.c.q.c3; have x0 := hW.p.c0; have x1 := hW.p.c1; have x2 := hW.p.c2; have x3 := hW.p.c3; have y0 := hW.q.c0; have y1 := hW.q.c1; have y2 := hW.q.c2; have y3 := hW.q.c3; clear hW; go_simp; try with_reducible rfl)
    (try simp only [Act.put, List.setIfInBounds_toArray, List.set_cons_zero, List.set_cons_succ])
    refine takeH (i := 24) (dst := some 78) (v := ?v23) rfl rfl (by kernel_rfl) (by kernel_rfl) (by kernel_rfl) (fun _ _ _ h => h) rfl ?hy23 hH rfl ?rest23
    case hy23 => (intro W hW; have u0 := hW.c.p.c0; have u1 := hW.c.p.c1; have u2 := hW.c.p.c2; have u3 := hW.c.p.c3; have v0 := hW.c.q.c0; have v1 := hW.c.q.c1; have v2 := hW.c.q.c2; have v3 := hW.c.q.c3; have x0 := hW.p.c0; have x1 := hW.p.c1; have x2 := hW.p.c2; have x3 := hW.p.c3; have y0 := hW.q.c0; have y1 := hW.q.c1; have y2 := hW.q.c2; have y3 := hW.q.c3; clear hW; go_simp; try with_reducible rfl)
    (try simp only [Act.put, List.setIfInBounds_toArray, List.set_cons_zero, List.set_cons_succ])
    refine takeH (i := 25) (dst := some 79) (v := ?v24) rfl rfl (by kernel_rfl) (by kernel_rfl) (by kernel_rfl) (fun _ _ _ h => h) rfl ?hy24 hH rfl ?rest24
    case hy24 => (intro W hW; have u0 := hW.c.p.c0; have u1 := hW.c.p.c1; have u2 := hW.c.p.c2; have u3 := hW.c.p.c3; have v0 := hW.c.q.c0; have v1 := hW.c.q.c1; have v2 := hW.c.q.c2; have v3 := hW.c.q.c3; have x0 := hW.p.c0; have x1 := hW.p.c1; have x2 := hW.p.c2; have x3 := hW.p.c3; have y0 := hW.q.c0; have y1 := hW.q.c1; have y2 := hW.q.c2; have y3 := hW.q.c3; clear hW; go_simp; try with_reducible rfl)
    (try simp only [Act.put, List.setIfInBounds_toArray, List.set_cons_zero, List.set_cons_succ])
    refine takeH (i := 26) (dst := some 80) (v := ?v25) rfl rfl (by kernel_rfl) (by kernel_rfl) (by kernel_rfl) (fun _ _ _ h => h) rfl ?hy25 hH rfl ?rest25
    case hy25 => (intro W hW; have u0 := hW.c.p.c0; have u1 := hW.c.p.c1; have u2 := hW.c.p.c2; have u3 := hW.c.p.c3; have v0 := hW.c.q.c0; have v1 := hW.c.q.c1; have v2 := hW.c.q.c2; have v3 := hW.c.q.c3; have x0 := hW.p.c0; have x1 := hW.p.c1; have x2 := hW.p.c2; have x3 := hW.p.c3; have y0 := hW.q.c0; have y1 := hW.q.c1; have y2 := hW.q.c2; have y3 := hW.q.c3; clear hW; go_simp; try with_reducible rfl)
    (try simp only [Act.put, List.setIfInBounds_toArray, List.set_cons_zero, List.set_cons_succ])
    refine takeH (i := 27) (dst := some 81) (v := ?v26) rfl rfl (by kernel_rfl) (by kernel_rfl) (by kernel_rfl) (fun _ _ _ h => h) rfl ?hy26 hH rfl ?rest26
    case hy26 => (intro W hW; have u0 := hW.c.p.c0; have u1 := hW.c.p.c1; have u2 := hW.c.p.c2; have u3 := hW.c.p.c3; have v0 := hW.c.q.c0; have v1 := hW.c.q.c1; have v2 := hW.c.q.c2; have v3 := hW.c.q.c3; have x0 := hW.p.c0; have x1 := hW.p.c1; have x2 := hW.p.c2; have x3 := hW.p.c3; have y0 := hW.q.c0; have y1 := hW.q.c1; have y2 := hW.q.c2; have y3 := hW.q.c3; clear hW; go_simp; try with_reducible rfl)
    (try simp only [Act.put, List.setIfInBounds_toArray, List.set_cons_zero, List.set_cons_succ])
    refine takeH (i := 28) (dst := some 82) (v := ?v27) rfl rfl (by kernel_rfl) (by kernel_rfl) (by kernel_rfl) (fun _ _ _ h => h) rfl ?hy27 hH rfl ?rest27
    case hy27 => (intro W hW; have u0 := hW.c.p.c0; have u1 := hW.c.p.c1; have u2 := hW.c.p.c2; have u3 := hW.c.p.c3; have v0 := hW.c.q.c0; have v1 := hW.c.q.c1; have v2 := hW.c.q.c2; have v3 := hW.c.q.c3; have x0 := hW.p.c0; have x1 := hW.p.c1; have x2 := hW.p.c2; have x3 := hW.p.c3; have y0 := hW.q.c0; have y1 := hW.q.c1; have y2 := hW.q.c2; have y3 := hW.q.c3; clear hW; go_simp; try with_reducible rfl)
    (try simp only [Act.put, List.setIfInBounds_toArray, List.set_cons_zero, List.set_cons_succ])
    refine takeH (i := 29) (dst := some 83) (v := ?v28) rfl rfl (by kernel_rfl) (by kernel_rfl) (by kernel_rfl) (fun _ _ _ h => h) rfl ?hy28 hH rfl ?rest28
    case hy28 => (intro W hW; have u0 := hW.c.p.c0; have u1 := hW.c.p.c1; have u2 := hW.c.p.c2; have u3 := hW.c.p.c3; have v0 := hW.c.q.c0; have v1 := hW.c.q.c1; have v2 := hW.c.q.c2; have v3 := hW.c.q.c3; have x0 := hW.p.c0; have x1 := hW.p.c1; have x2 := hW.p.c2; have x3 := hW.p.c3; have y0 := hW.q.c0; have y1 := hW.q.c1; have y2 := hW.q.c2; have y3 := hW.q.c3; clear hW; go_simp; try with_reducible rfl)
    (try simp only [Act.put, List.setIfInBounds_toArray, List.set_cons_zero, List.set_cons_succ])
    refine takeH (i := 30) (dst := some 84) (v := ?v29) rfl rfl (by kernel_rfl) (by kernel_rfl) (by kernel_rfl) (fun _ _ _ h => h) rfl ?hy29 hH rfl ?rest29
    case hy29 => (intro W hW; have u0 := hW.c.p.c0; have u1 := hW.c.p.c1; have u2 := hW.c.p.c2; have u3 := hW.c.p.c3; have v0 := hW.c.q.c0; have v1 := hW.c.q.c1; have v2 := hW.c.q.c2; have v3 := hW.c.q.c3; have x0 := hW.p.c0; have x1 := hW.p.c1; have x2 := hW.p.c2; have x3 := hW.p.c3; have y0 := hW.q.c0; have y1 := hW.q.c1; have y2 := hW.q.c2; have y3 := hW.q.c3; clear hW; go_simp; try with_reducible rfl)
    (try simp only [Act.put, List.setIfInBounds_toArray, List.set_cons_zero, List.set_cons_succ])
    refine callH (i := 31) { dst := some 85, op := Go.Op.call { callee := Go.Callee.value (Go.Operand.func 15), args := #[], argTypes := #[] }, type := 4, pos := "law.go:56", after := #[{ on := 30, ground := Go.Ground.chain }, { on := 30, ground := Go.Ground.guard }], guard := some (30, true) } (by kernel_rfl) rfl rfl (fun K hK => ?_)
    go_simp
    refine (sknown_any _ (ht.below hH.c.two.b hw0)).mono ?_
    rintro e v3 ⟨rfl, b3⟩
    have d3 := hH.up b3
    clear hH
    refine hK.out _ _ d3 (fun hH => ?_)
    clear hK K
    (try simp only [Act.put, List.setIfInBounds_toArray, List.set_cons_zero, List.set_cons_succ])
    refine takeH (i := 32) (dst := some 86) (v := ?v30) rfl rfl (by kernel_rfl) (by kernel_rfl) (by kernel_rfl) (fun _ _ _ h => h) rfl ?hy30 hH rfl ?rest30
    case hy30 => (intro W hW; have u0 := hW.c.p.c0; have u1 := hW.c.p.c1; have u2 := hW.c.p.c2; have u3 := hW.c.p.c3; have v0 := hW.c.q.c0; have v1 := hW.c.q.c1; have v2 := hW.c.q.c2; have v3 := hW.c.q.c3; have x0 := hW.p.c0; have x1 := hW.p.c1; have x2 := hW.p.c2; have x3 := hW.p.c3; have y0 := hW.q.c0; have y1 := hW.q.c1; have y2 := hW.q.c2; have y3 := hW.q.c3; clear hW; go_simp; try with_reducible rfl)
    (try simp only [Act.put, List.setIfInBounds_toArray, List.set_cons_zero, List.set_cons_succ])
    refine takeH (i := 33) (dst := some 10) (v := ?v31) rfl rfl (by kernel_rfl) (by kernel_rfl) (by kernel_rfl) (fun _ _ _ h => h) rfl ?hy31 hH rfl ?rest31
    case hy31 => (intro W hW; have u0 := hW.c.p.c0; have u1 := hW.c.p.c1; have u2 := hW.c.p.c2; have u3 := hW.c.p.c3; have v0 := hW.c.q.c0; have v1 := hW.c.q.c1; have v2 := hW.c.q.c2; have v3 := hW.c.q.c3; have x0 := hW.p.c0; have x1 := hW.p.c1; have x2 := hW.p.c2; have x3 := hW.p.c3; have y0 := hW.q.c0; have y1 := hW.q.c1; have y2 := hW.q.c2; have y3 := hW.q.c3; clear hW; go_simp; try with_reducible rfl)
    (try simp only [Act.put, List.setIfInBounds_toArray, List.set_cons_zero, List.set_cons_succ])
    refine wpAnyH_done (by kernel_rfl) ?_ _
    clear hH
    go_wp2
    go_ret
    exact ⟨rfl, d3.c.two.b⟩
theorem schooses_walk (sa : Option Addr) (ca : Nat) (la : List UInt8) (sb : Option Addr) (cb : Nat) (lb : List UInt8) (bl g a i n x y z : Int) (w : World) (ht : Tab w) (hA : Arg w sa ca la) (hB : Arg w sb cb lb) (hg : -9223372036854775808 ≤ g ∧ g ≤ 9223372036854775807) :
    Calls Tryd.prog 4 #[.slice sa la.length ca, .slice sb lb.length cb, .int .i64 bl, .agg #[.int .i64 g, .int .i64 a, .int .i64 i, .int .i64 n], .agg #[.int .i64 x, .int .i64 y, .int .i64 z]] w fun e w' => e = .returned (.bool true) ∧ Below w.heap.size w w' := by
  have hw0 : 0 < w.heap.size := block_lt_of_cell (ht 0 (by omega))
  have la1 := hA.len
  have lb1 := hB.len
  have SA : Says w (.slice sa la.length ca) la := fun W hW => sget_src sa ca la W (hA.src.below hW (Nat.le_refl _)) (ht.below hW hw0) (by omega) (by omega)
  have SB : Says w (.slice sb lb.length cb) lb := fun W hW => sget_src sb cb lb W (hB.src.below hW (Nat.le_refl _)) (ht.below hW hw0) (by omega) (by omega)
  have RA : SaysR w (.slice sa la.length ca) la := fun W hW => rsget_src sa ca la W (hA.src.below hW (Nat.le_refl _)) (by omega) (by omega)
  have RB : SaysR w (.slice sb lb.length cb) lb := fun W hW => rsget_src sb cb lb W (hB.src.below hW (Nat.le_refl _)) (by omega) (by omega)
  have CH := fun W (hW : Below w.heap.size w W) => choose_any sa sb la.length ca lb.length cb la lb bl W (fun V hV => SA V (hW.trans (hV.mono hW.size))) (fun V hV => SB V (hW.trans (hV.mono hW.size)))
  have RC := fun W (hW : Below w.heap.size w W) => rchoose_any sa sb la.length ca lb.length cb la lb bl W (fun V hV => RA V (hW.trans (hV.mono hW.size))) (fun V hV => RB V (hW.trans (hV.mono hW.size)))
  cases hok : okS g a i n
  · exact schooses_with sa sb _ ca _ cb bl g a i n x y z _ _ _ _ _ _ _ _ _ _ _ _ w ht CH RC (fun W => next_no g a i n x y z W hg hok) (fun W => rnext_no g a i n x y z W hok)
  · cases hok2 : okS (g + 1) x y z
    · exact schooses_with sa sb _ ca _ cb bl g a i n x y z _ _ _ _ _ _ _ _ _ _ _ _ w ht CH RC (fun W => next_nog g a i n x y z W hok hok2) (fun W => rnext_nog g a i n x y z W hok hok2)
    · exact schooses_with sa sb _ ca _ cb bl g a i n x y z _ _ _ _ _ _ _ _ _ _ _ _ w ht CH RC (fun W => next_ok g a i n x y z W hok hok2) (fun W => rnext_ok g a i n x y z W hok hok2)
end Go.Proofs.YtjdfkbpadhndlaaDoor
