/- The walk of leveelaw04.SuperBytes. -/
import Derived.Test.YtjdfkbpadhndlaaDoorRefGet
import Derived.Test.YtjdfkbpadhndlaaDoorLent
namespace Go.Proofs.YtjdfkbpadhndlaaDoor
open Go.RowKit
theorem sget_src (sp : Option Addr) (cap : Nat) (l : List UInt8) (w : World) (hs : Src w sp l) (ht : Tab w) (hc : l.length ≤ cap) (hm : (cap : Int) ≤ 9223372036854775807) :
    Calls Tryd.prog 11 #[.slice sp l.length cap] w fun e w' => e = .returned (.tuple #[.agg #[.int .i64 (getX (rdG l) l), .int .i64 (getX (rdA l) l), .int .i64 (getX (rdI l) l), .int .i64 (getX (rdN l) l)], .int .i64 (getE l)]) ∧ Below w.heap.size w w' := by
  by_cases hl : l.length = 256
  · obtain ⟨bb, off, rfl, _⟩ := hs.at' (by omega)
    have h := sget_any bb off cap l hl w hs ht (by omega) hm
    rw [hl]; exact h
  · exact sget_size sp cap l w (by omega)
theorem rsget_src (sp : Option Addr) (cap : Nat) (l : List UInt8) (w : World) (hs : Src w sp l) (hc : l.length ≤ cap) (hm : (cap : Int) ≤ 9223372036854775807) :
    Calls Tryd.prog 12 #[.slice sp l.length cap] w fun e w' => e = .returned (.tuple #[.agg #[.int .i64 (getX (rdG l) l), .int .i64 (getX (rdA l) l), .int .i64 (getX (rdI l) l), .int .i64 (getX (rdN l) l)], .int .i64 (getE l)]) ∧ Below w.heap.size w w' := by
  by_cases hl : l.length = 256
  · obtain ⟨bb, off, rfl, _⟩ := hs.at' (by omega)
    have h := rsget_any bb off cap l hl w hs (by omega) hm
    rw [hl]; exact h
  · exact rsget_size sp cap l w (by omega)
/-- What lies in memory at the law's comparison. -/
structure Sb (w0 : World) (g a i n X0 X1 X2 X3 : Int) (P Q O : Nat) (sx sy : Option Addr) (lx : List UInt8) (l : List UInt8) (w : World) : Prop where
  b : Below w0.heap.size w0 w
  s : Row4 w w0.heap.size 25 g a i n
  p : Row4 w P 30 X0 X1 X2 X3
  q : Row4 w Q 25 X0 X1 X2 X3
  x : Src w sx lx
  y : Src w sy lx
  o : Blk w O 5 (l ++ a5)
theorem Sb.up {w0 w w' : World} {g a i n X0 X1 X2 X3 : Int} {P Q O : Nat} {sx sy : Option Addr} {lx l : List UInt8} (h : Sb w0 g a i n X0 X1 X2 X3 P Q O sx sy lx l w) (hb : Below w.heap.size w w') : Sb w0 g a i n X0 X1 X2 X3 P Q O sx sy lx l w' :=
  ⟨h.b.trans (hb.mono h.b.size), h.s.up hb, h.p.up hb, h.q.up hb, h.x.below hb (Nat.le_refl _), h.y.below hb (Nat.le_refl _), h.o.up hb⟩
structure Sz (w0 : World) (g a i n : Int) (P : Nat) (w : World) : Prop where
  b : Below w0.heap.size w0 w
  s : Row4 w w0.heap.size 25 g a i n
  z : Row4 w P 30 g a i n
theorem Sz.up {w0 w w' : World} {g a i n : Int} {P : Nat} (h : Sz w0 g a i n P w) (hb : Below w.heap.size w w') : Sz w0 g a i n P w' :=
  ⟨h.b.trans (hb.mono h.b.size), h.s.up hb, h.z.up hb⟩
set_option maxRecDepth 100000 in
set_option maxHeartbeats 4000000 in
theorem sbytes_no (g a i n : Int) (sp : Option Addr) (cap : Nat) (l : List UInt8) (w : World) (ht : Tab w) (ha : Arg w sp cap l) (hok : okS g a i n = false) :
    Calls Tryd.prog 3 #[.agg #[.int .i64 g, .int .i64 a, .int .i64 i, .int .i64 n], .slice sp l.length cap] w fun e w' => e = .returned (.bool true) ∧ Below w.heap.size w w' := by
  have hw0 : 0 < w.heap.size := block_lt_of_cell (ht 0 (by omega))
  have la := ha.len
  have GV := given_any g a i n
  have hb0 : Below w.heap.size w (w.alloc (.cells #[.int .i64 g, .int .i64 a, .int .i64 i, .int .i64 n] 25)) := (Below.refl _ _).alloc (Nat.le_refl _) _
  have HS0 : Hid (Row4 (w.alloc (.cells #[.int .i64 g, .int .i64 a, .int .i64 i, .int .i64 n] 25)) w.heap.size 25 g a i n) := heap_alloc_new _ _
  have G2 : ∀ W, Below w.heap.size w W → Calls Tryd.prog 12 #[.slice sp l.length cap] W fun e w' => e = .returned (.tuple #[.agg #[.int .i64 (getX (rdG l) l), .int .i64 (getX (rdA l) l), .int .i64 (getX (rdI l) l), .int .i64 (getX (rdN l) l)], .int .i64 (getE l)]) ∧ Below W.heap.size W w' := fun W hW => rsget_src sp cap l W (ha.src.below hW (Nat.le_refl _)) (by omega) (by omega)
  have G1 : ∀ W O, Blk W O 5 (l ++ a5) → Tab W → Calls Tryd.prog 11 #[.slice (some ⟨O, 0, none⟩) l.length (l.length + 8)] W fun e w' => e = .returned (.tuple #[.agg #[.int .i64 (getX (rdG l) l), .int .i64 (getX (rdA l) l), .int .i64 (getX (rdI l) l), .int .i64 (getX (rdN l) l)], .int .i64 (getE l)]) ∧ Below W.heap.size W w' := fun W O hO hT => sget_src (some ⟨O, 0, none⟩) (l.length + 8) l W (by have := hO.src.pre l.length; rw [List.take_left' rfl] at this; exact this) hT (by omega) (by omega)
  have HA : Hid (Arg w sp cap l) := ha
  generalize getX (rdG l) l = X0 at *
  generalize getX (rdA l) l = X1 at *
  generalize getX (rdI l) l = X2 at *
  generalize getX (rdN l) l = X3 at *
  generalize getE l = E at *
  clear ha
  go_enter Tryd.func3, Tryd.ntmps3
  go_wp2_with fail
  refine (GV _).mono ?_
  rintro e w1 ⟨rfl, hb1⟩
  have HS1 : Hid (Row4 w1 w.heap.size 25 g a i n) := HS0.out.up hb1
  have HB1 : Hid (Below w.heap.size w w1) := hb0.trans (hb1.mono hb0.size)
  have PT := sput_no g a i n w1 hok
  clear GV hb0 hb1 HS0
  go_wp2_with fail
  refine PT.mono ?_
  rintro e w2 ⟨rfl, hb2⟩
  clear PT
  have HS2 : Hid (Row4 w2 w.heap.size 25 g a i n) := HS1.out.up hb2
  have HB2 : Hid (Below w.heap.size w w2) := HB1.out.trans (hb2.mono HB1.out.size)
  have c0 := HS2.out.c0
  have c1 := HS2.out.c1
  have c2 := HS2.out.c2
  have c3 := HS2.out.c3
  clear HS1 HB1 hb2
  have RP := rput_no g a i n w2 hok
  go_wp2_with fail
  clear c0 c1 c2 c3
  refine RP.mono ?_
  rintro e w3 ⟨rfl, hb3⟩
  clear RP
  have HS3 : Hid (Row4 w3 w.heap.size 25 g a i n) := HS2.out.up hb3
  have HB3 : Hid (Below w.heap.size w w3) := HB2.out.trans (hb3.mono HB2.out.size)
  have LT := lent_any sp cap l w3 (HA.out.below HB3.out (Nat.le_refl _))
  clear hb3 HS2 HB2
  go_wp2_with fail
  refine LT.mono ?_
  rintro e w4 ⟨O, rfl, hO4, hOl, hb4⟩
  clear LT
  have HO4 : Hid (Blk w4 O 5 (l ++ a5)) := hO4
  have HS4 : Hid (Row4 w4 w.heap.size 25 g a i n) := HS3.out.up hb4
  have HB4 : Hid (Below w.heap.size w w4) := HB3.out.trans (hb4.mono HB3.out.size)
  have GG := G1 w4 O hO4 (ht.below HB4.out hw0)
  clear hO4 hOl hb4 HS3 HB3 G1
  go_wp2_with fail
  refine GG.mono ?_
  rintro e w5 ⟨rfl, hb5⟩
  clear GG
  have al5 : Below w4.heap.size w4 (w5.alloc (.cells #[.int .i64 X0, .int .i64 X1, .int .i64 X2, .int .i64 X3] 30)) := hb5.alloc hb5.size _
  have HP5 : Hid (Row4 (w5.alloc (.cells #[.int .i64 X0, .int .i64 X1, .int .i64 X2, .int .i64 X3] 30)) w5.heap.size 30 X0 X1 X2 X3) := heap_alloc_new _ _
  have HO5 : Hid (Blk (w5.alloc (.cells #[.int .i64 X0, .int .i64 X1, .int .i64 X2, .int .i64 X3] 30)) O 5 (l ++ a5)) := HO4.out.up al5
  have HS5 : Hid (Row4 (w5.alloc (.cells #[.int .i64 X0, .int .i64 X1, .int .i64 X2, .int .i64 X3] 30)) w.heap.size 25 g a i n) := HS4.out.up al5
  have HB5 : Hid (Below w.heap.size w (w5.alloc (.cells #[.int .i64 X0, .int .i64 X1, .int .i64 X2, .int .i64 X3] 30))) := HB4.out.trans (al5.mono HB4.out.size)
  have GG := G2 _ HB5.out
  clear al5 hb5 HO4 HS4 HB4 G2
  go_wp2_with fail
  refine GG.mono ?_
  rintro e w6 ⟨rfl, hb6⟩
  clear GG
  have al6 : Below (w5.alloc (.cells #[.int .i64 X0, .int .i64 X1, .int .i64 X2, .int .i64 X3] 30)).heap.size (w5.alloc (.cells #[.int .i64 X0, .int .i64 X1, .int .i64 X2, .int .i64 X3] 30)) (w6.alloc (.cells #[.int .i64 X0, .int .i64 X1, .int .i64 X2, .int .i64 X3] 25)) := hb6.alloc hb6.size _
  have hd6 : Sb w g a i n X0 X1 X2 X3 w5.heap.size w6.heap.size O none none [] l (w6.alloc (.cells #[.int .i64 X0, .int .i64 X1, .int .i64 X2, .int .i64 X3] 25)).drew := Sb.up (w := w6.alloc (.cells #[.int .i64 X0, .int .i64 X1, .int .i64 X2, .int .i64 X3] 25)) ⟨HB5.out.trans (al6.mono HB5.out.size), HS5.out.up al6, HP5.out.up al6, heap_alloc_new _ _, Src.nil _ _, Src.nil _ _, HO5.out.up al6⟩ (Below.refl _ _).drew
  have TK := taken_any X0 X1 X2 X3
  have KP : ∀ W, Sb w g a i n X0 X1 X2 X3 w5.heap.size w6.heap.size O none none [] l W → Calls Tryd.prog 14 #[.slice (some ⟨O, 0, none⟩) l.length (l.length + 8), .slice sp l.length cap] W fun e w' => e = .returned (.bool true) ∧ Below W.heap.size W w' := fun W hW => kept_any O sp cap l W hW.o (HA.out.below hW.b (Nat.le_refl _))
  clear al6 hb6 HP5 HO5 HS5 HB5
  go_wp2_with fail
  refine wp_region_held_drew (S := (fun w' => Sb w g a i n X0 X1 X2 X3 w5.heap.size w6.heap.size O none none [] l w')) (by kernel_rfl) hd6 (fun hH => ?_)
  refine takeH (i := 0) (dst := some 39) (v := ?v1) rfl rfl (by kernel_rfl) (by kernel_rfl) (by kernel_rfl) (fun _ _ _ h => h) rfl ?hy1 hH rfl ?rest1
  case hy1 => (intro W hW; have k1 := conv_str hW.x 0 0 rfl; have p0 := hW.p.c0; have p1 := hW.p.c1; have p2 := hW.p.c2; have p3 := hW.p.c3; have q0 := hW.q.c0; have q1 := hW.q.c1; have q2 := hW.q.c2; have q3 := hW.q.c3; clear hW; go_simp; try with_reducible rfl)
  (try simp only [Act.put, List.setIfInBounds_toArray, List.set_cons_zero, List.set_cons_succ])
  refine takeH (i := 1) (dst := some 40) (v := ?v2) rfl rfl (by kernel_rfl) (by kernel_rfl) (by kernel_rfl) (fun _ _ _ h => h) rfl ?hy2 hH rfl ?rest2
  case hy2 => (intro W hW; have k1 := conv_str hW.x 0 0 rfl; have p0 := hW.p.c0; have p1 := hW.p.c1; have p2 := hW.p.c2; have p3 := hW.p.c3; have q0 := hW.q.c0; have q1 := hW.q.c1; have q2 := hW.q.c2; have q3 := hW.q.c3; clear hW; go_simp; try with_reducible rfl)
  (try simp only [Act.put, List.setIfInBounds_toArray, List.set_cons_zero, List.set_cons_succ])
  refine takeH (i := 2) (dst := some 41) (v := ?v3) rfl rfl (by kernel_rfl) (by kernel_rfl) (by kernel_rfl) (fun _ _ _ h => h) rfl ?hy3 hH rfl ?rest3
  case hy3 => (intro W hW; have k1 := conv_str hW.x 0 0 rfl; have p0 := hW.p.c0; have p1 := hW.p.c1; have p2 := hW.p.c2; have p3 := hW.p.c3; have q0 := hW.q.c0; have q1 := hW.q.c1; have q2 := hW.q.c2; have q3 := hW.q.c3; clear hW; go_simp; try with_reducible rfl)
  (try simp only [Act.put, List.setIfInBounds_toArray, List.set_cons_zero, List.set_cons_succ])
  refine takeH (i := 3) (dst := some 42) (v := ?v4) rfl rfl (by kernel_rfl) (by kernel_rfl) (by kernel_rfl) (fun _ _ _ h => h) rfl ?hy4 hH rfl ?rest4
  case hy4 => (intro W hW; have k1 := conv_str hW.x 0 0 rfl; have p0 := hW.p.c0; have p1 := hW.p.c1; have p2 := hW.p.c2; have p3 := hW.p.c3; have q0 := hW.q.c0; have q1 := hW.q.c1; have q2 := hW.q.c2; have q3 := hW.q.c3; clear hW; go_simp; try with_reducible rfl)
  (try simp only [Act.put, List.setIfInBounds_toArray, List.set_cons_zero, List.set_cons_succ])
  refine takeH (i := 4) (dst := some 43) (v := ?v5) rfl rfl (by kernel_rfl) (by kernel_rfl) (by kernel_rfl) (fun _ _ _ h => h) rfl ?hy5 hH rfl ?rest5
  case hy5 => (intro W hW; have k1 := conv_str hW.x 0 0 rfl; have p0 := hW.p.c0; have p1 := hW.p.c1; have p2 := hW.p.c2; have p3 := hW.p.c3; have q0 := hW.q.c0; have q1 := hW.q.c1; have q2 := hW.q.c2; have q3 := hW.q.c3; clear hW; go_simp; try with_reducible rfl)
  (try simp only [Act.put, List.setIfInBounds_toArray, List.set_cons_zero, List.set_cons_succ])
  refine takeH (i := 5) (dst := some 44) (v := ?v6) rfl rfl (by kernel_rfl) (by kernel_rfl) (by kernel_rfl) (fun _ _ _ h => h) rfl ?hy6 hH rfl ?rest6
  case hy6 => (intro W hW; have k1 := conv_str hW.x 0 0 rfl; have p0 := hW.p.c0; have p1 := hW.p.c1; have p2 := hW.p.c2; have p3 := hW.p.c3; have q0 := hW.q.c0; have q1 := hW.q.c1; have q2 := hW.q.c2; have q3 := hW.q.c3; clear hW; go_simp; try with_reducible rfl)
  (try simp only [Act.put, List.setIfInBounds_toArray, List.set_cons_zero, List.set_cons_succ])
  refine takeH (i := 6) (dst := some 45) (v := ?v7) rfl rfl (by kernel_rfl) (by kernel_rfl) (by kernel_rfl) (fun _ _ _ h => h) rfl ?hy7 hH rfl ?rest7
  case hy7 => (intro W hW; have k1 := conv_str hW.x 0 0 rfl; have p0 := hW.p.c0; have p1 := hW.p.c1; have p2 := hW.p.c2; have p3 := hW.p.c3; have q0 := hW.q.c0; have q1 := hW.q.c1; have q2 := hW.q.c2; have q3 := hW.q.c3; clear hW; go_simp; try with_reducible rfl)
  (try simp only [Act.put, List.setIfInBounds_toArray, List.set_cons_zero, List.set_cons_succ])
  refine takeH (i := 7) (dst := some 46) (v := ?v8) rfl rfl (by kernel_rfl) (by kernel_rfl) (by kernel_rfl) (fun _ _ _ h => h) rfl ?hy8 hH rfl ?rest8
  case hy8 => (intro W hW; have k1 := conv_str hW.x 0 0 rfl; have p0 := hW.p.c0; have p1 := hW.p.c1; have p2 := hW.p.c2; have p3 := hW.p.c3; have q0 := hW.q.c0; have q1 := hW.q.c1; have q2 := hW.q.c2; have q3 := hW.q.c3; clear hW; go_simp; try with_reducible rfl)
  (try simp only [Act.put, List.setIfInBounds_toArray, List.set_cons_zero, List.set_cons_succ])
  refine takeH (i := 8) (dst := some 47) (v := ?v9) rfl rfl (by kernel_rfl) (by kernel_rfl) (by kernel_rfl) (fun _ _ _ h => h) rfl ?hy9 hH rfl ?rest9
  case hy9 => (intro W hW; have k1 := conv_str hW.x 0 0 rfl; have p0 := hW.p.c0; have p1 := hW.p.c1; have p2 := hW.p.c2; have p3 := hW.p.c3; have q0 := hW.q.c0; have q1 := hW.q.c1; have q2 := hW.q.c2; have q3 := hW.q.c3; clear hW; go_simp; try with_reducible rfl)
  (try simp only [Act.put, List.setIfInBounds_toArray, List.set_cons_zero, List.set_cons_succ])
  refine takeH (i := 9) (dst := some 48) (v := ?v10) rfl rfl (by kernel_rfl) (by kernel_rfl) (by kernel_rfl) (fun _ _ _ h => h) rfl ?hy10 hH rfl ?rest10
  case hy10 => (intro W hW; have k1 := conv_str hW.x 0 0 rfl; have p0 := hW.p.c0; have p1 := hW.p.c1; have p2 := hW.p.c2; have p3 := hW.p.c3; have q0 := hW.q.c0; have q1 := hW.q.c1; have q2 := hW.q.c2; have q3 := hW.q.c3; clear hW; go_simp; try with_reducible rfl)
  (try simp only [Act.put, List.setIfInBounds_toArray, List.set_cons_zero, List.set_cons_succ])
  refine takeH (i := 10) (dst := some 49) (v := ?v11) rfl rfl (by kernel_rfl) (by kernel_rfl) (by kernel_rfl) (fun _ _ _ h => h) rfl ?hy11 hH rfl ?rest11
  case hy11 => (intro W hW; have k1 := conv_str hW.x 0 0 rfl; have p0 := hW.p.c0; have p1 := hW.p.c1; have p2 := hW.p.c2; have p3 := hW.p.c3; have q0 := hW.q.c0; have q1 := hW.q.c1; have q2 := hW.q.c2; have q3 := hW.q.c3; clear hW; go_simp; try with_reducible rfl)
  (try simp only [Act.put, List.setIfInBounds_toArray, List.set_cons_zero, List.set_cons_succ])
  refine takeH (i := 11) (dst := some 50) (v := ?v12) rfl rfl (by kernel_rfl) (by kernel_rfl) (by kernel_rfl) (fun _ _ _ h => h) rfl ?hy12 hH rfl ?rest12
  case hy12 => (intro W hW; have k1 := conv_str hW.x 0 0 rfl; have p0 := hW.p.c0; have p1 := hW.p.c1; have p2 := hW.p.c2; have p3 := hW.p.c3; have q0 := hW.q.c0; have q1 := hW.q.c1; have q2 := hW.q.c2; have q3 := hW.q.c3; clear hW; go_simp; try with_reducible rfl)
  (try simp only [Act.put, List.setIfInBounds_toArray, List.set_cons_zero, List.set_cons_succ])
  refine takeH (i := 13) (dst := some 52) (v := ?v13) rfl rfl (by kernel_rfl) (by kernel_rfl) (by kernel_rfl) (fun _ _ _ h => h) rfl ?hy13 hH rfl ?rest13
  case hy13 => (intro W hW; have k1 := conv_str hW.x 0 0 rfl; have p0 := hW.p.c0; have p1 := hW.p.c1; have p2 := hW.p.c2; have p3 := hW.p.c3; have q0 := hW.q.c0; have q1 := hW.q.c1; have q2 := hW.q.c2; have q3 := hW.q.c3; clear hW; go_simp; try with_reducible rfl)
  (try simp only [Act.put, List.setIfInBounds_toArray, List.set_cons_zero, List.set_cons_succ])
  refine callH (i := 12) { dst := some 51, op := Go.Op.call { callee := Go.Callee.value (Go.Operand.func 13), args := #[Go.Operand.tmp 50], argTypes := #[30] }, type := 25, pos := "law.go:40", after := #[{ on := 11, ground := Go.Ground.data }, { on := 10, ground := Go.Ground.chain }, { on := 10, ground := Go.Ground.guard }], guard := some (10, false) } (by kernel_rfl) rfl rfl (fun K hK => ?_)
  go_simp
  refine (TK _).mono ?_
  rintro e v1 ⟨rfl, b1⟩
  have d1 := hH.up b1
  clear hH
  refine hK.out _ _ d1 (fun hH => ?_)
  clear hK K
  (try simp only [Act.put, List.setIfInBounds_toArray, List.set_cons_zero, List.set_cons_succ])
  refine takeH (i := 14) (dst := some 53) (v := ?v14) rfl rfl (by kernel_rfl) (by kernel_rfl) (by kernel_rfl) (fun _ _ _ h => h) rfl ?hy14 hH rfl ?rest14
  case hy14 => (intro W hW; have k1 := conv_str hW.x 0 0 rfl; have p0 := hW.p.c0; have p1 := hW.p.c1; have p2 := hW.p.c2; have p3 := hW.p.c3; have q0 := hW.q.c0; have q1 := hW.q.c1; have q2 := hW.q.c2; have q3 := hW.q.c3; clear hW; go_simp; try with_reducible rfl)
  (try simp only [Act.put, List.setIfInBounds_toArray, List.set_cons_zero, List.set_cons_succ])
  refine takeH (i := 15) (dst := some 54) (v := ?v15) rfl rfl (by kernel_rfl) (by kernel_rfl) (by kernel_rfl) (fun _ _ _ h => h) rfl ?hy15 hH rfl ?rest15
  case hy15 => (intro W hW; have k1 := conv_str hW.x 0 0 rfl; have p0 := hW.p.c0; have p1 := hW.p.c1; have p2 := hW.p.c2; have p3 := hW.p.c3; have q0 := hW.q.c0; have q1 := hW.q.c1; have q2 := hW.q.c2; have q3 := hW.q.c3; clear hW; go_simp; try with_reducible rfl)
  (try simp only [Act.put, List.setIfInBounds_toArray, List.set_cons_zero, List.set_cons_succ])
  refine takeH (i := 16) (dst := some 55) (v := ?v16) rfl rfl (by kernel_rfl) (by kernel_rfl) (by kernel_rfl) (fun _ _ _ h => h) rfl ?hy16 hH rfl ?rest16
  case hy16 => (intro W hW; have k1 := conv_str hW.x 0 0 rfl; have p0 := hW.p.c0; have p1 := hW.p.c1; have p2 := hW.p.c2; have p3 := hW.p.c3; have q0 := hW.q.c0; have q1 := hW.q.c1; have q2 := hW.q.c2; have q3 := hW.q.c3; clear hW; go_simp; try with_reducible rfl)
  (try simp only [Act.put, List.setIfInBounds_toArray, List.set_cons_zero, List.set_cons_succ])
  refine takeH (i := 17) (dst := some 56) (v := ?v17) rfl rfl (by kernel_rfl) (by kernel_rfl) (by kernel_rfl) (fun _ _ _ h => h) rfl ?hy17 hH rfl ?rest17
  case hy17 => (intro W hW; have k1 := conv_str hW.x 0 0 rfl; have p0 := hW.p.c0; have p1 := hW.p.c1; have p2 := hW.p.c2; have p3 := hW.p.c3; have q0 := hW.q.c0; have q1 := hW.q.c1; have q2 := hW.q.c2; have q3 := hW.q.c3; clear hW; go_simp; try with_reducible rfl)
  (try simp only [Act.put, List.setIfInBounds_toArray, List.set_cons_zero, List.set_cons_succ])
  refine takeH (i := 18) (dst := some 57) (v := ?v18) rfl rfl (by kernel_rfl) (by kernel_rfl) (by kernel_rfl) (fun _ _ _ h => h) rfl ?hy18 hH rfl ?rest18
  case hy18 => (intro W hW; have k1 := conv_str hW.x 0 0 rfl; have p0 := hW.p.c0; have p1 := hW.p.c1; have p2 := hW.p.c2; have p3 := hW.p.c3; have q0 := hW.q.c0; have q1 := hW.q.c1; have q2 := hW.q.c2; have q3 := hW.q.c3; clear hW; go_simp; try with_reducible rfl)
  (try simp only [Act.put, List.setIfInBounds_toArray, List.set_cons_zero, List.set_cons_succ])
  refine takeH (i := 19) (dst := some 58) (v := ?v19) rfl rfl (by kernel_rfl) (by kernel_rfl) (by kernel_rfl) (fun _ _ _ h => h) rfl ?hy19 hH rfl ?rest19
  case hy19 => (intro W hW; have k1 := conv_str hW.x 0 0 rfl; have p0 := hW.p.c0; have p1 := hW.p.c1; have p2 := hW.p.c2; have p3 := hW.p.c3; have q0 := hW.q.c0; have q1 := hW.q.c1; have q2 := hW.q.c2; have q3 := hW.q.c3; clear hW; go_simp; try with_reducible rfl)
  (try simp only [Act.put, List.setIfInBounds_toArray, List.set_cons_zero, List.set_cons_succ])
  refine takeH (i := 20) (dst := some 59) (v := ?v20) rfl rfl (by kernel_rfl) (by kernel_rfl) (by kernel_rfl) (fun _ _ _ h => h) rfl ?hy20 hH rfl ?rest20
  case hy20 => (intro W hW; have k1 := conv_str hW.x 0 0 rfl; have p0 := hW.p.c0; have p1 := hW.p.c1; have p2 := hW.p.c2; have p3 := hW.p.c3; have q0 := hW.q.c0; have q1 := hW.q.c1; have q2 := hW.q.c2; have q3 := hW.q.c3; clear hW; go_simp; try with_reducible rfl)
  (try simp only [Act.put, List.setIfInBounds_toArray, List.set_cons_zero, List.set_cons_succ])
  refine takeH (i := 21) (dst := some 60) (v := ?v21) rfl rfl (by kernel_rfl) (by kernel_rfl) (by kernel_rfl) (fun _ _ _ h => h) rfl ?hy21 hH rfl ?rest21
  case hy21 => (intro W hW; have k1 := conv_str hW.x 0 0 rfl; have p0 := hW.p.c0; have p1 := hW.p.c1; have p2 := hW.p.c2; have p3 := hW.p.c3; have q0 := hW.q.c0; have q1 := hW.q.c1; have q2 := hW.q.c2; have q3 := hW.q.c3; clear hW; go_simp; try with_reducible rfl)
  (try simp only [Act.put, List.setIfInBounds_toArray, List.set_cons_zero, List.set_cons_succ])
  refine takeH (i := 22) (dst := some 61) (v := ?v22) rfl rfl (by kernel_rfl) (by kernel_rfl) (by kernel_rfl) (fun _ _ _ h => h) rfl ?hy22 hH rfl ?rest22
  case hy22 => (intro W hW; have k1 := conv_str hW.x 0 0 rfl; have p0 := hW.p.c0; have p1 := hW.p.c1; have p2 := hW.p.c2; have p3 := hW.p.c3; have q0 := hW.q.c0; have q1 := hW.q.c1; have q2 := hW.q.c2; have q3 := hW.q.c3; clear hW; go_simp; try with_reducible rfl)
  (try simp only [Act.put, List.setIfInBounds_toArray, List.set_cons_zero, List.set_cons_succ])
  refine takeH (i := 23) (dst := some 62) (v := ?v23) rfl rfl (by kernel_rfl) (by kernel_rfl) (by kernel_rfl) (fun _ _ _ h => h) rfl ?hy23 hH rfl ?rest23
  case hy23 => (intro W hW; have k1 := conv_str hW.x 0 0 rfl; have p0 := hW.p.c0; have p1 := hW.p.c1; have p2 := hW.p.c2; have p3 := hW.p.c3; have q0 := hW.q.c0; have q1 := hW.q.c1; have q2 := hW.q.c2; have q3 := hW.q.c3; clear hW; go_simp; try with_reducible rfl)
  (try simp only [Act.put, List.setIfInBounds_toArray, List.set_cons_zero, List.set_cons_succ])
  refine callH (i := 24) { dst := some 63, op := Go.Op.call { callee := Go.Callee.value (Go.Operand.func 14), args := #[Go.Operand.tmp 61, Go.Operand.tmp 62], argTypes := #[26, 26] }, type := 4, pos := "law.go:40", after := #[{ on := 22, ground := Go.Ground.data }, { on := 23, ground := Go.Ground.data }, { on := 21, ground := Go.Ground.chain }, { on := 21, ground := Go.Ground.guard }], guard := some (21, false) } (by kernel_rfl) rfl rfl (fun K hK => ?_)
  go_simp
  refine (KP _ hH).mono ?_
  rintro e v2 ⟨rfl, b2⟩
  have d2 := hH.up b2
  clear hH
  refine hK.out _ _ d2 (fun hH => ?_)
  clear hK K
  (try simp only [Act.put, List.setIfInBounds_toArray, List.set_cons_zero, List.set_cons_succ])
  refine takeH (i := 25) (dst := some 64) (v := ?v24) rfl rfl (by kernel_rfl) (by kernel_rfl) (by kernel_rfl) (fun _ _ _ h => h) rfl ?hy24 hH rfl ?rest24
  case hy24 => (intro W hW; have k1 := conv_str hW.x 0 0 rfl; have p0 := hW.p.c0; have p1 := hW.p.c1; have p2 := hW.p.c2; have p3 := hW.p.c3; have q0 := hW.q.c0; have q1 := hW.q.c1; have q2 := hW.q.c2; have q3 := hW.q.c3; clear hW; go_simp; try with_reducible rfl)
  (try simp only [Act.put, List.setIfInBounds_toArray, List.set_cons_zero, List.set_cons_succ])
  refine takeH (i := 26) (dst := some 65) (v := ?v25) rfl rfl (by kernel_rfl) (by kernel_rfl) (by kernel_rfl) (fun _ _ _ h => h) rfl ?hy25 hH rfl ?rest25
  case hy25 => (intro W hW; have k1 := conv_str hW.x 0 0 rfl; have p0 := hW.p.c0; have p1 := hW.p.c1; have p2 := hW.p.c2; have p3 := hW.p.c3; have q0 := hW.q.c0; have q1 := hW.q.c1; have q2 := hW.q.c2; have q3 := hW.q.c3; clear hW; go_simp; try with_reducible rfl)
  (try simp only [Act.put, List.setIfInBounds_toArray, List.set_cons_zero, List.set_cons_succ])
  refine wpAnyH_done (by kernel_rfl) ?_ _
  clear hH
  have KN := sknown_any v2 (ht.below d2.b hw0)
  have HB : Hid (Below w.heap.size w v2) := d2.b
  clear d1 d2 b1 b2 hd6 TK KP
  go_wp2_with fail
  refine KN.mono ?_
  rintro e w7 ⟨rfl, hb7⟩
  go_wp2
  go_ret
  exact ⟨rfl, HB.out.trans (hb7.mono HB.out.size)⟩
set_option maxRecDepth 100000 in
set_option maxHeartbeats 4000000 in
theorem sbytes_ok (g a i n : Nat) (sp : Option Addr) (cap : Nat) (l : List UInt8) (w : World) (ht : Tab w) (ha : Arg w sp cap l) (hok : okS g a i n = true) :
    Calls Tryd.prog 3 #[.agg #[.int .i64 (g : Int), .int .i64 (a : Int), .int .i64 (i : Int), .int .i64 (n : Int)], .slice sp l.length cap] w fun e w' => e = .returned (.bool true) ∧ Below w.heap.size w w' := by
  have hw0 : 0 < w.heap.size := block_lt_of_cell (ht 0 (by omega))
  have la := ha.len
  have GV := given_any g a i n
  have hb0 : Below w.heap.size w (w.alloc (.cells #[.int .i64 (g : Int), .int .i64 (a : Int), .int .i64 (i : Int), .int .i64 (n : Int)] 25)) := (Below.refl _ _).alloc (Nat.le_refl _) _
  have HS0 : Hid (Row4 (w.alloc (.cells #[.int .i64 (g : Int), .int .i64 (a : Int), .int .i64 (i : Int), .int .i64 (n : Int)] 25)) w.heap.size 25 g a i n) := heap_alloc_new _ _
  have G2 : ∀ W, Below w.heap.size w W → Calls Tryd.prog 12 #[.slice sp l.length cap] W fun e w' => e = .returned (.tuple #[.agg #[.int .i64 (getX (rdG l) l), .int .i64 (getX (rdA l) l), .int .i64 (getX (rdI l) l), .int .i64 (getX (rdN l) l)], .int .i64 (getE l)]) ∧ Below W.heap.size W w' := fun W hW => rsget_src sp cap l W (ha.src.below hW (Nat.le_refl _)) (by omega) (by omega)
  have G1 : ∀ W O, Blk W O 5 (l ++ a5) → Tab W → Calls Tryd.prog 11 #[.slice (some ⟨O, 0, none⟩) l.length (l.length + 8)] W fun e w' => e = .returned (.tuple #[.agg #[.int .i64 (getX (rdG l) l), .int .i64 (getX (rdA l) l), .int .i64 (getX (rdI l) l), .int .i64 (getX (rdN l) l)], .int .i64 (getE l)]) ∧ Below W.heap.size W w' := fun W O hO hT => sget_src (some ⟨O, 0, none⟩) (l.length + 8) l W (by have := hO.src.pre l.length; rw [List.take_left' rfl] at this; exact this) hT (by omega) (by omega)
  have HA : Hid (Arg w sp cap l) := ha
  generalize getX (rdG l) l = X0 at *
  generalize getX (rdA l) l = X1 at *
  generalize getX (rdI l) l = X2 at *
  generalize getX (rdN l) l = X3 at *
  generalize getE l = E at *
  clear ha
  go_enter Tryd.func3, Tryd.ntmps3
  go_wp2_with fail
  refine (GV _).mono ?_
  rintro e w1 ⟨rfl, hb1⟩
  have HS1 : Hid (Row4 w1 w.heap.size 25 g a i n) := HS0.out.up hb1
  have HB1 : Hid (Below w.heap.size w w1) := hb0.trans (hb1.mono hb0.size)
  have PT := sput_ok g a i n w1 (ht.below HB1.out hw0) hok
  clear GV hb0 hb1 HS0
  go_wp2_with fail
  refine PT.mono ?_
  rintro e w2 ⟨G, rfl, hG, hGl, hb2⟩
  clear PT
  have HX2 : Hid (Blk w2 G 55 (putL g a i n)) := hG
  clear hG hGl
  have HS2 : Hid (Row4 w2 w.heap.size 25 g a i n) := HS1.out.up hb2
  have HB2 : Hid (Below w.heap.size w w2) := HB1.out.trans (hb2.mono HB1.out.size)
  have c0 := HS2.out.c0
  have c1 := HS2.out.c1
  have c2 := HS2.out.c2
  have c3 := HS2.out.c3
  clear HS1 HB1 hb2
  have RP := rput_ok g a i n w2 hok
  go_wp2_with fail
  clear c0 c1 c2 c3
  refine RP.mono ?_
  rintro e w3 ⟨v3, rfl, hO3, hb3⟩
  clear RP
  obtain ⟨py, ky, rfl, sy, _, _, _⟩ := hO3.form
  rw [putL_length]
  have HY3 : Hid (Src w3 py (putL g a i n)) := sy
  have HX3 : Hid (Blk w3 G 55 (putL g a i n)) := HX2.out.up hb3
  clear sy hO3 HX2
  have HS3 : Hid (Row4 w3 w.heap.size 25 g a i n) := HS2.out.up hb3
  have HB3 : Hid (Below w.heap.size w w3) := HB2.out.trans (hb3.mono HB2.out.size)
  have LT := lent_any sp cap l w3 (HA.out.below HB3.out (Nat.le_refl _))
  clear hb3 HS2 HB2
  go_wp2_with fail
  refine LT.mono ?_
  rintro e w4 ⟨O, rfl, hO4, hOl, hb4⟩
  clear LT
  have HO4 : Hid (Blk w4 O 5 (l ++ a5)) := hO4
  have HS4 : Hid (Row4 w4 w.heap.size 25 g a i n) := HS3.out.up hb4
  have HB4 : Hid (Below w.heap.size w w4) := HB3.out.trans (hb4.mono HB3.out.size)
  have HX4 : Hid (Blk w4 G 55 (putL g a i n)) := HX3.out.up hb4
  have HY4 : Hid (Src w4 py (putL g a i n)) := HY3.out.below hb4 (Nat.le_refl _)
  clear HX3 HY3
  have GG := G1 w4 O hO4 (ht.below HB4.out hw0)
  clear hO4 hOl hb4 HS3 HB3 G1
  go_wp2_with fail
  refine GG.mono ?_
  rintro e w5 ⟨rfl, hb5⟩
  clear GG
  have al5 : Below w4.heap.size w4 (w5.alloc (.cells #[.int .i64 X0, .int .i64 X1, .int .i64 X2, .int .i64 X3] 30)) := hb5.alloc hb5.size _
  have HP5 : Hid (Row4 (w5.alloc (.cells #[.int .i64 X0, .int .i64 X1, .int .i64 X2, .int .i64 X3] 30)) w5.heap.size 30 X0 X1 X2 X3) := heap_alloc_new _ _
  have HO5 : Hid (Blk (w5.alloc (.cells #[.int .i64 X0, .int .i64 X1, .int .i64 X2, .int .i64 X3] 30)) O 5 (l ++ a5)) := HO4.out.up al5
  have HS5 : Hid (Row4 (w5.alloc (.cells #[.int .i64 X0, .int .i64 X1, .int .i64 X2, .int .i64 X3] 30)) w.heap.size 25 g a i n) := HS4.out.up al5
  have HB5 : Hid (Below w.heap.size w (w5.alloc (.cells #[.int .i64 X0, .int .i64 X1, .int .i64 X2, .int .i64 X3] 30))) := HB4.out.trans (al5.mono HB4.out.size)
  have HX5 : Hid (Blk (w5.alloc (.cells #[.int .i64 X0, .int .i64 X1, .int .i64 X2, .int .i64 X3] 30)) G 55 (putL g a i n)) := HX4.out.up al5
  have HY5 : Hid (Src (w5.alloc (.cells #[.int .i64 X0, .int .i64 X1, .int .i64 X2, .int .i64 X3] 30)) py (putL g a i n)) := HY4.out.below al5 (Nat.le_refl _)
  clear HX4 HY4
  have GG := G2 _ HB5.out
  clear al5 hb5 HO4 HS4 HB4 G2
  go_wp2_with fail
  refine GG.mono ?_
  rintro e w6 ⟨rfl, hb6⟩
  clear GG
  have al6 : Below (w5.alloc (.cells #[.int .i64 X0, .int .i64 X1, .int .i64 X2, .int .i64 X3] 30)).heap.size (w5.alloc (.cells #[.int .i64 X0, .int .i64 X1, .int .i64 X2, .int .i64 X3] 30)) (w6.alloc (.cells #[.int .i64 X0, .int .i64 X1, .int .i64 X2, .int .i64 X3] 25)) := hb6.alloc hb6.size _
  have hd6 : Sb w g a i n X0 X1 X2 X3 w5.heap.size w6.heap.size O (some ⟨G, 0, none⟩) py (putL g a i n) l (w6.alloc (.cells #[.int .i64 X0, .int .i64 X1, .int .i64 X2, .int .i64 X3] 25)).drew := Sb.up (w := w6.alloc (.cells #[.int .i64 X0, .int .i64 X1, .int .i64 X2, .int .i64 X3] 25)) ⟨HB5.out.trans (al6.mono HB5.out.size), HS5.out.up al6, HP5.out.up al6, heap_alloc_new _ _, (HX5.out.up al6).src, HY5.out.below al6 (Nat.le_refl _), HO5.out.up al6⟩ (Below.refl _ _).drew
  have TK := taken_any X0 X1 X2 X3
  have KP : ∀ W, Sb w g a i n X0 X1 X2 X3 w5.heap.size w6.heap.size O (some ⟨G, 0, none⟩) py (putL g a i n) l W → Calls Tryd.prog 14 #[.slice (some ⟨O, 0, none⟩) l.length (l.length + 8), .slice sp l.length cap] W fun e w' => e = .returned (.bool true) ∧ Below W.heap.size W w' := fun W hW => kept_any O sp cap l W hW.o (HA.out.below hW.b (Nat.le_refl _))
  clear al6 hb6 HP5 HO5 HS5 HB5 HX5 HY5
  go_wp2_with fail
  refine wp_region_held_drew (S := (fun w' => Sb w g a i n X0 X1 X2 X3 w5.heap.size w6.heap.size O (some ⟨G, 0, none⟩) py (putL g a i n) l w')) (by kernel_rfl) hd6 (fun hH => ?_)
  refine takeH (i := 0) (dst := some 39) (v := ?v26) rfl rfl (by kernel_rfl) (by kernel_rfl) (by kernel_rfl) (fun _ _ _ h => h) rfl ?hy26 hH rfl ?rest26
  case hy26 => (intro W hW; have k1 := conv_str hW.x 256 256 (putL_length _ _ _ _).symm; have k2 := conv_str hW.y 256 ky (putL_length _ _ _ _).symm; have p0 := hW.p.c0; have p1 := hW.p.c1; have p2 := hW.p.c2; have p3 := hW.p.c3; have q0 := hW.q.c0; have q1 := hW.q.c1; have q2 := hW.q.c2; have q3 := hW.q.c3; clear hW; go_simp; try with_reducible rfl)
  (try simp only [Act.put, List.setIfInBounds_toArray, List.set_cons_zero, List.set_cons_succ])
  refine takeH (i := 1) (dst := some 40) (v := ?v27) rfl rfl (by kernel_rfl) (by kernel_rfl) (by kernel_rfl) (fun _ _ _ h => h) rfl ?hy27 hH rfl ?rest27
  case hy27 => (intro W hW; have k1 := conv_str hW.x 256 256 (putL_length _ _ _ _).symm; have k2 := conv_str hW.y 256 ky (putL_length _ _ _ _).symm; have p0 := hW.p.c0; have p1 := hW.p.c1; have p2 := hW.p.c2; have p3 := hW.p.c3; have q0 := hW.q.c0; have q1 := hW.q.c1; have q2 := hW.q.c2; have q3 := hW.q.c3; clear hW; go_simp; try with_reducible rfl)
  (try simp only [Act.put, List.setIfInBounds_toArray, List.set_cons_zero, List.set_cons_succ])
  refine takeH (i := 2) (dst := some 41) (v := ?v28) rfl rfl (by kernel_rfl) (by kernel_rfl) (by kernel_rfl) (fun _ _ _ h => h) rfl ?hy28 hH rfl ?rest28
  case hy28 => (intro W hW; have k1 := conv_str hW.x 256 256 (putL_length _ _ _ _).symm; have k2 := conv_str hW.y 256 ky (putL_length _ _ _ _).symm; have p0 := hW.p.c0; have p1 := hW.p.c1; have p2 := hW.p.c2; have p3 := hW.p.c3; have q0 := hW.q.c0; have q1 := hW.q.c1; have q2 := hW.q.c2; have q3 := hW.q.c3; clear hW; go_simp; try with_reducible rfl)
  (try simp only [Act.put, List.setIfInBounds_toArray, List.set_cons_zero, List.set_cons_succ])
  refine takeH (i := 3) (dst := some 42) (v := ?v29) rfl rfl (by kernel_rfl) (by kernel_rfl) (by kernel_rfl) (fun _ _ _ h => h) rfl ?hy29 hH rfl ?rest29
  case hy29 => (intro W hW; have k1 := conv_str hW.x 256 256 (putL_length _ _ _ _).symm; have k2 := conv_str hW.y 256 ky (putL_length _ _ _ _).symm; have p0 := hW.p.c0; have p1 := hW.p.c1; have p2 := hW.p.c2; have p3 := hW.p.c3; have q0 := hW.q.c0; have q1 := hW.q.c1; have q2 := hW.q.c2; have q3 := hW.q.c3; clear hW; go_simp; try with_reducible rfl)
  (try simp only [Act.put, List.setIfInBounds_toArray, List.set_cons_zero, List.set_cons_succ])
  refine takeH (i := 4) (dst := some 43) (v := ?v30) rfl rfl (by kernel_rfl) (by kernel_rfl) (by kernel_rfl) (fun _ _ _ h => h) rfl ?hy30 hH rfl ?rest30
  case hy30 => (intro W hW; have k1 := conv_str hW.x 256 256 (putL_length _ _ _ _).symm; have k2 := conv_str hW.y 256 ky (putL_length _ _ _ _).symm; have p0 := hW.p.c0; have p1 := hW.p.c1; have p2 := hW.p.c2; have p3 := hW.p.c3; have q0 := hW.q.c0; have q1 := hW.q.c1; have q2 := hW.q.c2; have q3 := hW.q.c3; clear hW; go_simp; try with_reducible rfl)
  (try simp only [Act.put, List.setIfInBounds_toArray, List.set_cons_zero, List.set_cons_succ])
  refine takeH (i := 5) (dst := some 44) (v := ?v31) rfl rfl (by kernel_rfl) (by kernel_rfl) (by kernel_rfl) (fun _ _ _ h => h) rfl ?hy31 hH rfl ?rest31
  case hy31 => (intro W hW; have k1 := conv_str hW.x 256 256 (putL_length _ _ _ _).symm; have k2 := conv_str hW.y 256 ky (putL_length _ _ _ _).symm; have p0 := hW.p.c0; have p1 := hW.p.c1; have p2 := hW.p.c2; have p3 := hW.p.c3; have q0 := hW.q.c0; have q1 := hW.q.c1; have q2 := hW.q.c2; have q3 := hW.q.c3; clear hW; go_simp; try with_reducible rfl)
  (try simp only [Act.put, List.setIfInBounds_toArray, List.set_cons_zero, List.set_cons_succ])
  refine takeH (i := 6) (dst := some 45) (v := ?v32) rfl rfl (by kernel_rfl) (by kernel_rfl) (by kernel_rfl) (fun _ _ _ h => h) rfl ?hy32 hH rfl ?rest32
  case hy32 => (intro W hW; have k1 := conv_str hW.x 256 256 (putL_length _ _ _ _).symm; have k2 := conv_str hW.y 256 ky (putL_length _ _ _ _).symm; have p0 := hW.p.c0; have p1 := hW.p.c1; have p2 := hW.p.c2; have p3 := hW.p.c3; have q0 := hW.q.c0; have q1 := hW.q.c1; have q2 := hW.q.c2; have q3 := hW.q.c3; clear hW; go_simp; try with_reducible rfl)
  (try simp only [Act.put, List.setIfInBounds_toArray, List.set_cons_zero, List.set_cons_succ])
  refine takeH (i := 7) (dst := some 46) (v := ?v33) rfl rfl (by kernel_rfl) (by kernel_rfl) (by kernel_rfl) (fun _ _ _ h => h) rfl ?hy33 hH rfl ?rest33
  case hy33 => (intro W hW; have k1 := conv_str hW.x 256 256 (putL_length _ _ _ _).symm; have k2 := conv_str hW.y 256 ky (putL_length _ _ _ _).symm; have p0 := hW.p.c0; have p1 := hW.p.c1; have p2 := hW.p.c2; have p3 := hW.p.c3; have q0 := hW.q.c0; have q1 := hW.q.c1; have q2 := hW.q.c2; have q3 := hW.q.c3; clear hW; go_simp; try with_reducible rfl)
  (try simp only [Act.put, List.setIfInBounds_toArray, List.set_cons_zero, List.set_cons_succ])
  refine takeH (i := 8) (dst := some 47) (v := ?v34) rfl rfl (by kernel_rfl) (by kernel_rfl) (by kernel_rfl) (fun _ _ _ h => h) rfl ?hy34 hH rfl ?rest34
  case hy34 => (intro W hW; have k1 := conv_str hW.x 256 256 (putL_length _ _ _ _).symm; have k2 := conv_str hW.y 256 ky (putL_length _ _ _ _).symm; have p0 := hW.p.c0; have p1 := hW.p.c1; have p2 := hW.p.c2; have p3 := hW.p.c3; have q0 := hW.q.c0; have q1 := hW.q.c1; have q2 := hW.q.c2; have q3 := hW.q.c3; clear hW; go_simp; try with_reducible rfl)
  (try simp only [Act.put, List.setIfInBounds_toArray, List.set_cons_zero, List.set_cons_succ])
  refine takeH (i := 9) (dst := some 48) (v := ?v35) rfl rfl (by kernel_rfl) (by kernel_rfl) (by kernel_rfl) (fun _ _ _ h => h) rfl ?hy35 hH rfl ?rest35
  case hy35 => (intro W hW; have k1 := conv_str hW.x 256 256 (putL_length _ _ _ _).symm; have k2 := conv_str hW.y 256 ky (putL_length _ _ _ _).symm; have p0 := hW.p.c0; have p1 := hW.p.c1; have p2 := hW.p.c2; have p3 := hW.p.c3; have q0 := hW.q.c0; have q1 := hW.q.c1; have q2 := hW.q.c2; have q3 := hW.q.c3; clear hW; go_simp; try with_reducible rfl)
  (try simp only [Act.put, List.setIfInBounds_toArray, List.set_cons_zero, List.set_cons_succ])
  refine takeH (i := 10) (dst := some 49) (v := ?v36) rfl rfl (by kernel_rfl) (by kernel_rfl) (by kernel_rfl) (fun _ _ _ h => h) rfl ?hy36 hH rfl ?rest36
  case hy36 => (intro W hW; have k1 := conv_str hW.x 256 256 (putL_length _ _ _ _).symm; have k2 := conv_str hW.y 256 ky (putL_length _ _ _ _).symm; have p0 := hW.p.c0; have p1 := hW.p.c1; have p2 := hW.p.c2; have p3 := hW.p.c3; have q0 := hW.q.c0; have q1 := hW.q.c1; have q2 := hW.q.c2; have q3 := hW.q.c3; clear hW; go_simp; try with_reducible rfl)
  (try simp only [Act.put, List.setIfInBounds_toArray, List.set_cons_zero, List.set_cons_succ])
  refine takeH (i := 11) (dst := some 50) (v := ?v37) rfl rfl (by kernel_rfl) (by kernel_rfl) (by kernel_rfl) (fun _ _ _ h => h) rfl ?hy37 hH rfl ?rest37
  case hy37 => (intro W hW; have k1 := conv_str hW.x 256 256 (putL_length _ _ _ _).symm; have k2 := conv_str hW.y 256 ky (putL_length _ _ _ _).symm; have p0 := hW.p.c0; have p1 := hW.p.c1; have p2 := hW.p.c2; have p3 := hW.p.c3; have q0 := hW.q.c0; have q1 := hW.q.c1; have q2 := hW.q.c2; have q3 := hW.q.c3; clear hW; go_simp; try with_reducible rfl)
  (try simp only [Act.put, List.setIfInBounds_toArray, List.set_cons_zero, List.set_cons_succ])
  refine takeH (i := 13) (dst := some 52) (v := ?v38) rfl rfl (by kernel_rfl) (by kernel_rfl) (by kernel_rfl) (fun _ _ _ h => h) rfl ?hy38 hH rfl ?rest38
  case hy38 => (intro W hW; have k1 := conv_str hW.x 256 256 (putL_length _ _ _ _).symm; have k2 := conv_str hW.y 256 ky (putL_length _ _ _ _).symm; have p0 := hW.p.c0; have p1 := hW.p.c1; have p2 := hW.p.c2; have p3 := hW.p.c3; have q0 := hW.q.c0; have q1 := hW.q.c1; have q2 := hW.q.c2; have q3 := hW.q.c3; clear hW; go_simp; try with_reducible rfl)
  (try simp only [Act.put, List.setIfInBounds_toArray, List.set_cons_zero, List.set_cons_succ])
  refine callH (i := 12) { dst := some 51, op := Go.Op.call { callee := Go.Callee.value (Go.Operand.func 13), args := #[Go.Operand.tmp 50], argTypes := #[30] }, type := 25, pos := "law.go:40", after := #[{ on := 11, ground := Go.Ground.data }, { on := 10, ground := Go.Ground.chain }, { on := 10, ground := Go.Ground.guard }], guard := some (10, false) } (by kernel_rfl) rfl rfl (fun K hK => ?_)
  go_simp
  refine (TK _).mono ?_
  rintro e v1 ⟨rfl, b1⟩
  have d1 := hH.up b1
  clear hH
  refine hK.out _ _ d1 (fun hH => ?_)
  clear hK K
  (try simp only [Act.put, List.setIfInBounds_toArray, List.set_cons_zero, List.set_cons_succ])
  refine takeH (i := 14) (dst := some 53) (v := ?v39) rfl rfl (by kernel_rfl) (by kernel_rfl) (by kernel_rfl) (fun _ _ _ h => h) rfl ?hy39 hH rfl ?rest39
  case hy39 => (intro W hW; have k1 := conv_str hW.x 256 256 (putL_length _ _ _ _).symm; have k2 := conv_str hW.y 256 ky (putL_length _ _ _ _).symm; have p0 := hW.p.c0; have p1 := hW.p.c1; have p2 := hW.p.c2; have p3 := hW.p.c3; have q0 := hW.q.c0; have q1 := hW.q.c1; have q2 := hW.q.c2; have q3 := hW.q.c3; clear hW; go_simp; try with_reducible rfl)
  (try simp only [Act.put, List.setIfInBounds_toArray, List.set_cons_zero, List.set_cons_succ])
  refine takeH (i := 15) (dst := some 54) (v := ?v40) rfl rfl (by kernel_rfl) (by kernel_rfl) (by kernel_rfl) (fun _ _ _ h => h) rfl ?hy40 hH rfl ?rest40
  case hy40 => (intro W hW; have k1 := conv_str hW.x 256 256 (putL_length _ _ _ _).symm; have k2 := conv_str hW.y 256 ky (putL_length _ _ _ _).symm; have p0 := hW.p.c0; have p1 := hW.p.c1; have p2 := hW.p.c2; have p3 := hW.p.c3; have q0 := hW.q.c0; have q1 := hW.q.c1; have q2 := hW.q.c2; have q3 := hW.q.c3; clear hW; go_simp; try with_reducible rfl)
  (try simp only [Act.put, List.setIfInBounds_toArray, List.set_cons_zero, List.set_cons_succ])
  refine takeH (i := 16) (dst := some 55) (v := ?v41) rfl rfl (by kernel_rfl) (by kernel_rfl) (by kernel_rfl) (fun _ _ _ h => h) rfl ?hy41 hH rfl ?rest41
  case hy41 => (intro W hW; have k1 := conv_str hW.x 256 256 (putL_length _ _ _ _).symm; have k2 := conv_str hW.y 256 ky (putL_length _ _ _ _).symm; have p0 := hW.p.c0; have p1 := hW.p.c1; have p2 := hW.p.c2; have p3 := hW.p.c3; have q0 := hW.q.c0; have q1 := hW.q.c1; have q2 := hW.q.c2; have q3 := hW.q.c3; clear hW; go_simp; try with_reducible rfl)
  (try simp only [Act.put, List.setIfInBounds_toArray, List.set_cons_zero, List.set_cons_succ])
  refine takeH (i := 17) (dst := some 56) (v := ?v42) rfl rfl (by kernel_rfl) (by kernel_rfl) (by kernel_rfl) (fun _ _ _ h => h) rfl ?hy42 hH rfl ?rest42
  case hy42 => (intro W hW; have k1 := conv_str hW.x 256 256 (putL_length _ _ _ _).symm; have k2 := conv_str hW.y 256 ky (putL_length _ _ _ _).symm; have p0 := hW.p.c0; have p1 := hW.p.c1; have p2 := hW.p.c2; have p3 := hW.p.c3; have q0 := hW.q.c0; have q1 := hW.q.c1; have q2 := hW.q.c2; have q3 := hW.q.c3; clear hW; go_simp; try with_reducible rfl)
  (try simp only [Act.put, List.setIfInBounds_toArray, List.set_cons_zero, List.set_cons_succ])
  refine takeH (i := 18) (dst := some 57) (v := ?v43) rfl rfl (by kernel_rfl) (by kernel_rfl) (by kernel_rfl) (fun _ _ _ h => h) rfl ?hy43 hH rfl ?rest43
  case hy43 => (intro W hW; have k1 := conv_str hW.x 256 256 (putL_length _ _ _ _).symm; have k2 := conv_str hW.y 256 ky (putL_length _ _ _ _).symm; have p0 := hW.p.c0; have p1 := hW.p.c1; have p2 := hW.p.c2; have p3 := hW.p.c3; have q0 := hW.q.c0; have q1 := hW.q.c1; have q2 := hW.q.c2; have q3 := hW.q.c3; clear hW; go_simp; try with_reducible rfl)
  (try simp only [Act.put, List.setIfInBounds_toArray, List.set_cons_zero, List.set_cons_succ])
  refine takeH (i := 19) (dst := some 58) (v := ?v44) rfl rfl (by kernel_rfl) (by kernel_rfl) (by kernel_rfl) (fun _ _ _ h => h) rfl ?hy44 hH rfl ?rest44
  case hy44 => (intro W hW; have k1 := conv_str hW.x 256 256 (putL_length _ _ _ _).symm; have k2 := conv_str hW.y 256 ky (putL_length _ _ _ _).symm; have p0 := hW.p.c0; have p1 := hW.p.c1; have p2 := hW.p.c2; have p3 := hW.p.c3; have q0 := hW.q.c0; have q1 := hW.q.c1; have q2 := hW.q.c2; have q3 := hW.q.c3; clear hW; go_simp; try with_reducible rfl)
  (try simp only [Act.put, List.setIfInBounds_toArray, List.set_cons_zero, List.set_cons_succ])
  refine takeH (i := 20) (dst := some 59) (v := ?v45) rfl rfl (by kernel_rfl) (by kernel_rfl) (by kernel_rfl) (fun _ _ _ h => h) rfl ?hy45 hH rfl ?rest45
  case hy45 => (intro W hW; have k1 := conv_str hW.x 256 256 (putL_length _ _ _ _).symm; have k2 := conv_str hW.y 256 ky (putL_length _ _ _ _).symm; have p0 := hW.p.c0; have p1 := hW.p.c1; have p2 := hW.p.c2; have p3 := hW.p.c3; have q0 := hW.q.c0; have q1 := hW.q.c1; have q2 := hW.q.c2; have q3 := hW.q.c3; clear hW; go_simp; try with_reducible rfl)
  (try simp only [Act.put, List.setIfInBounds_toArray, List.set_cons_zero, List.set_cons_succ])
  refine takeH (i := 21) (dst := some 60) (v := ?v46) rfl rfl (by kernel_rfl) (by kernel_rfl) (by kernel_rfl) (fun _ _ _ h => h) rfl ?hy46 hH rfl ?rest46
  case hy46 => (intro W hW; have k1 := conv_str hW.x 256 256 (putL_length _ _ _ _).symm; have k2 := conv_str hW.y 256 ky (putL_length _ _ _ _).symm; have p0 := hW.p.c0; have p1 := hW.p.c1; have p2 := hW.p.c2; have p3 := hW.p.c3; have q0 := hW.q.c0; have q1 := hW.q.c1; have q2 := hW.q.c2; have q3 := hW.q.c3; clear hW; go_simp; try with_reducible rfl)
  (try simp only [Act.put, List.setIfInBounds_toArray, List.set_cons_zero, List.set_cons_succ])
  refine takeH (i := 22) (dst := some 61) (v := ?v47) rfl rfl (by kernel_rfl) (by kernel_rfl) (by kernel_rfl) (fun _ _ _ h => h) rfl ?hy47 hH rfl ?rest47
  case hy47 => (intro W hW; have k1 := conv_str hW.x 256 256 (putL_length _ _ _ _).symm; have k2 := conv_str hW.y 256 ky (putL_length _ _ _ _).symm; have p0 := hW.p.c0; have p1 := hW.p.c1; have p2 := hW.p.c2; have p3 := hW.p.c3; have q0 := hW.q.c0; have q1 := hW.q.c1; have q2 := hW.q.c2; have q3 := hW.q.c3; clear hW; go_simp; try with_reducible rfl)
  (try simp only [Act.put, List.setIfInBounds_toArray, List.set_cons_zero, List.set_cons_succ])
  refine takeH (i := 23) (dst := some 62) (v := ?v48) rfl rfl (by kernel_rfl) (by kernel_rfl) (by kernel_rfl) (fun _ _ _ h => h) rfl ?hy48 hH rfl ?rest48
  case hy48 => (intro W hW; have k1 := conv_str hW.x 256 256 (putL_length _ _ _ _).symm; have k2 := conv_str hW.y 256 ky (putL_length _ _ _ _).symm; have p0 := hW.p.c0; have p1 := hW.p.c1; have p2 := hW.p.c2; have p3 := hW.p.c3; have q0 := hW.q.c0; have q1 := hW.q.c1; have q2 := hW.q.c2; have q3 := hW.q.c3; clear hW; go_simp; try with_reducible rfl)
  (try simp only [Act.put, List.setIfInBounds_toArray, List.set_cons_zero, List.set_cons_succ])
  refine callH (i := 24) { dst := some 63, op := Go.Op.call { callee := Go.Callee.value (Go.Operand.func 14), args := #[Go.Operand.tmp 61, Go.Operand.tmp 62], argTypes := #[26, 26] }, type := 4, pos := "law.go:40", after := #[{ on := 22, ground := Go.Ground.data }, { on := 23, ground := Go.Ground.data }, { on := 21, ground := Go.Ground.chain }, { on := 21, ground := Go.Ground.guard }], guard := some (21, false) } (by kernel_rfl) rfl rfl (fun K hK => ?_)
  go_simp
  refine (KP _ hH).mono ?_
  rintro e v2 ⟨rfl, b2⟩
  have d2 := hH.up b2
  clear hH
  refine hK.out _ _ d2 (fun hH => ?_)
  clear hK K
  (try simp only [Act.put, List.setIfInBounds_toArray, List.set_cons_zero, List.set_cons_succ])
  refine takeH (i := 25) (dst := some 64) (v := ?v49) rfl rfl (by kernel_rfl) (by kernel_rfl) (by kernel_rfl) (fun _ _ _ h => h) rfl ?hy49 hH rfl ?rest49
  case hy49 => (intro W hW; have k1 := conv_str hW.x 256 256 (putL_length _ _ _ _).symm; have k2 := conv_str hW.y 256 ky (putL_length _ _ _ _).symm; have p0 := hW.p.c0; have p1 := hW.p.c1; have p2 := hW.p.c2; have p3 := hW.p.c3; have q0 := hW.q.c0; have q1 := hW.q.c1; have q2 := hW.q.c2; have q3 := hW.q.c3; clear hW; go_simp; try with_reducible rfl)
  (try simp only [Act.put, List.setIfInBounds_toArray, List.set_cons_zero, List.set_cons_succ])
  refine takeH (i := 26) (dst := some 65) (v := ?v50) rfl rfl (by kernel_rfl) (by kernel_rfl) (by kernel_rfl) (fun _ _ _ h => h) rfl ?hy50 hH rfl ?rest50
  case hy50 => (intro W hW; have k1 := conv_str hW.x 256 256 (putL_length _ _ _ _).symm; have k2 := conv_str hW.y 256 ky (putL_length _ _ _ _).symm; have p0 := hW.p.c0; have p1 := hW.p.c1; have p2 := hW.p.c2; have p3 := hW.p.c3; have q0 := hW.q.c0; have q1 := hW.q.c1; have q2 := hW.q.c2; have q3 := hW.q.c3; clear hW; go_simp; try with_reducible rfl)
  (try simp only [Act.put, List.setIfInBounds_toArray, List.set_cons_zero, List.set_cons_succ])
  refine wpAnyH_done (by kernel_rfl) ?_ _
  clear hH
  have GG : Calls Tryd.prog 11 #[.slice (some ⟨G, 0, none⟩) 256 256] v2 fun e w' => e = .returned (.tuple #[.agg #[.int .i64 (g : Int), .int .i64 (a : Int), .int .i64 (i : Int), .int .i64 (n : Int)], .int .i64 0]) ∧ Below v2.heap.size v2 w' := by
    obtain ⟨a1, a2, a3, a4, a5'⟩ := get_put g a i n hok
    have h9 := sget_any G 0 256 (putL g a i n) (putL_length _ _ _ _) v2 d2.x (ht.below d2.b hw0) (by omega) (by omega)
    rw [getX_ok a5', getX_ok a5', getX_ok a5', getX_ok a5', a1, a2, a3, a4, a5'] at h9
    exact h9
  have HB7 : Hid (Below w.heap.size w v2) := d2.b
  have HS7 : Hid (Row4 v2 w.heap.size 25 g a i n) := d2.s
  clear d1 d2 b1 b2 hd6 TK KP
  go_wp2_with fail
  refine GG.mono ?_
  rintro e w8 ⟨rfl, hb8⟩
  clear GG
  have al8 : Below v2.heap.size v2 (w8.alloc (.cells #[.int .i64 (g : Int), .int .i64 (a : Int), .int .i64 (i : Int), .int .i64 (n : Int)] 30)) := hb8.alloc hb8.size _
  have hd8 : Sz w g a i n w8.heap.size (w8.alloc (.cells #[.int .i64 (g : Int), .int .i64 (a : Int), .int .i64 (i : Int), .int .i64 (n : Int)] 30)).drew := Sz.up (w := w8.alloc (.cells #[.int .i64 (g : Int), .int .i64 (a : Int), .int .i64 (i : Int), .int .i64 (n : Int)] 30)) ⟨HB7.out.trans (al8.mono HB7.out.size), HS7.out.up al8, heap_alloc_new _ _⟩ (Below.refl _ _).drew
  have TK := taken_any g a i n
  clear al8 hb8 HB7 HS7
  go_wp2_with fail
  refine wp_region_held_drew (S := (fun w' => Sz w g a i n w8.heap.size w')) (by kernel_rfl) hd8 (fun hH => ?_)
  refine takeH (i := 0) (dst := some 74) (v := ?v51) rfl rfl (by kernel_rfl) (by kernel_rfl) (by kernel_rfl) (fun _ _ _ h => h) rfl ?hy51 hH rfl ?rest51
  case hy51 => (intro W hW; have p0 := hW.z.c0; have p1 := hW.z.c1; have p2 := hW.z.c2; have p3 := hW.z.c3; have q0 := hW.s.c0; have q1 := hW.s.c1; have q2 := hW.s.c2; have q3 := hW.s.c3; clear hW; go_simp; try with_reducible rfl)
  (try simp only [Act.put, List.setIfInBounds_toArray, List.set_cons_zero, List.set_cons_succ])
  refine takeH (i := 2) (dst := some 76) (v := ?v52) rfl rfl (by kernel_rfl) (by kernel_rfl) (by kernel_rfl) (fun _ _ _ h => h) rfl ?hy52 hH rfl ?rest52
  case hy52 => (intro W hW; have p0 := hW.z.c0; have p1 := hW.z.c1; have p2 := hW.z.c2; have p3 := hW.z.c3; have q0 := hW.s.c0; have q1 := hW.s.c1; have q2 := hW.s.c2; have q3 := hW.s.c3; clear hW; go_simp; try with_reducible rfl)
  (try simp only [Act.put, List.setIfInBounds_toArray, List.set_cons_zero, List.set_cons_succ])
  refine callH (i := 1) { dst := some 75, op := Go.Op.call { callee := Go.Callee.value (Go.Operand.func 13), args := #[Go.Operand.tmp 74], argTypes := #[30] }, type := 25, pos := "law.go:47", after := #[{ on := 0, ground := Go.Ground.data }], guard := none } (by kernel_rfl) rfl rfl (fun K hK => ?_)
  go_simp
  refine (TK _).mono ?_
  rintro e v3 ⟨rfl, b3⟩
  have d3 := hH.up b3
  clear hH
  refine hK.out _ _ d3 (fun hH => ?_)
  clear hK K
  (try simp only [Act.put, List.setIfInBounds_toArray, List.set_cons_zero, List.set_cons_succ])
  refine takeH (i := 3) (dst := some 77) (v := ?v53) rfl rfl (by kernel_rfl) (by kernel_rfl) (by kernel_rfl) (fun _ _ _ h => h) rfl ?hy53 hH rfl ?rest53
  case hy53 => (intro W hW; have p0 := hW.z.c0; have p1 := hW.z.c1; have p2 := hW.z.c2; have p3 := hW.z.c3; have q0 := hW.s.c0; have q1 := hW.s.c1; have q2 := hW.s.c2; have q3 := hW.s.c3; clear hW; go_simp; try with_reducible rfl)
  (try simp only [Act.put, List.setIfInBounds_toArray, List.set_cons_zero, List.set_cons_succ])
  refine takeH (i := 4) (dst := some 78) (v := ?v54) rfl rfl (by kernel_rfl) (by kernel_rfl) (by kernel_rfl) (fun _ _ _ h => h) rfl ?hy54 hH rfl ?rest54
  case hy54 => (intro W hW; have p0 := hW.z.c0; have p1 := hW.z.c1; have p2 := hW.z.c2; have p3 := hW.z.c3; have q0 := hW.s.c0; have q1 := hW.s.c1; have q2 := hW.s.c2; have q3 := hW.s.c3; clear hW; go_simp; try with_reducible rfl)
  (try simp only [Act.put, List.setIfInBounds_toArray, List.set_cons_zero, List.set_cons_succ])
  refine takeH (i := 5) (dst := some 79) (v := ?v55) rfl rfl (by kernel_rfl) (by kernel_rfl) (by kernel_rfl) (fun _ _ _ h => h) rfl ?hy55 hH rfl ?rest55
  case hy55 => (intro W hW; have p0 := hW.z.c0; have p1 := hW.z.c1; have p2 := hW.z.c2; have p3 := hW.z.c3; have q0 := hW.s.c0; have q1 := hW.s.c1; have q2 := hW.s.c2; have q3 := hW.s.c3; clear hW; go_simp; try with_reducible rfl)
  (try simp only [Act.put, List.setIfInBounds_toArray, List.set_cons_zero, List.set_cons_succ])
  refine takeH (i := 6) (dst := some 80) (v := ?v56) rfl rfl (by kernel_rfl) (by kernel_rfl) (by kernel_rfl) (fun _ _ _ h => h) rfl ?hy56 hH rfl ?rest56
  case hy56 => (intro W hW; have p0 := hW.z.c0; have p1 := hW.z.c1; have p2 := hW.z.c2; have p3 := hW.z.c3; have q0 := hW.s.c0; have q1 := hW.s.c1; have q2 := hW.s.c2; have q3 := hW.s.c3; clear hW; go_simp; try with_reducible rfl)
  (try simp only [Act.put, List.setIfInBounds_toArray, List.set_cons_zero, List.set_cons_succ])
  refine takeH (i := 7) (dst := some 81) (v := ?v57) rfl rfl (by kernel_rfl) (by kernel_rfl) (by kernel_rfl) (fun _ _ _ h => h) rfl ?hy57 hH rfl ?rest57
  case hy57 => (intro W hW; have p0 := hW.z.c0; have p1 := hW.z.c1; have p2 := hW.z.c2; have p3 := hW.z.c3; have q0 := hW.s.c0; have q1 := hW.s.c1; have q2 := hW.s.c2; have q3 := hW.s.c3; clear hW; go_simp; try with_reducible rfl)
  (try simp only [Act.put, List.setIfInBounds_toArray, List.set_cons_zero, List.set_cons_succ])
  refine takeH (i := 8) (dst := some 82) (v := ?v58) rfl rfl (by kernel_rfl) (by kernel_rfl) (by kernel_rfl) (fun _ _ _ h => h) rfl ?hy58 hH rfl ?rest58
  case hy58 => (intro W hW; have p0 := hW.z.c0; have p1 := hW.z.c1; have p2 := hW.z.c2; have p3 := hW.z.c3; have q0 := hW.s.c0; have q1 := hW.s.c1; have q2 := hW.s.c2; have q3 := hW.s.c3; clear hW; go_simp; try with_reducible rfl)
  (try simp only [Act.put, List.setIfInBounds_toArray, List.set_cons_zero, List.set_cons_succ])
  refine callH (i := 9) { dst := some 83, op := Go.Op.call { callee := Go.Callee.value (Go.Operand.func 15), args := #[], argTypes := #[] }, type := 4, pos := "law.go:47", after := #[{ on := 8, ground := Go.Ground.chain }, { on := 8, ground := Go.Ground.guard }], guard := some (8, true) } (by kernel_rfl) rfl rfl (fun K hK => ?_)
  go_simp
  refine (sknown_any _ (ht.below hH.b hw0)).mono ?_
  rintro e v4 ⟨rfl, b4⟩
  have d4 := hH.up b4
  clear hH
  refine hK.out _ _ d4 (fun hH => ?_)
  clear hK K
  (try simp only [Act.put, List.setIfInBounds_toArray, List.set_cons_zero, List.set_cons_succ])
  refine takeH (i := 10) (dst := some 84) (v := ?v59) rfl rfl (by kernel_rfl) (by kernel_rfl) (by kernel_rfl) (fun _ _ _ h => h) rfl ?hy59 hH rfl ?rest59
  case hy59 => (intro W hW; have p0 := hW.z.c0; have p1 := hW.z.c1; have p2 := hW.z.c2; have p3 := hW.z.c3; have q0 := hW.s.c0; have q1 := hW.s.c1; have q2 := hW.s.c2; have q3 := hW.s.c3; clear hW; go_simp; try with_reducible rfl)
  (try simp only [Act.put, List.setIfInBounds_toArray, List.set_cons_zero, List.set_cons_succ])
  refine takeH (i := 11) (dst := some 4) (v := ?v60) rfl rfl (by kernel_rfl) (by kernel_rfl) (by kernel_rfl) (fun _ _ _ h => h) rfl ?hy60 hH rfl ?rest60
  case hy60 => (intro W hW; have p0 := hW.z.c0; have p1 := hW.z.c1; have p2 := hW.z.c2; have p3 := hW.z.c3; have q0 := hW.s.c0; have q1 := hW.s.c1; have q2 := hW.s.c2; have q3 := hW.s.c3; clear hW; go_simp; try with_reducible rfl)
  (try simp only [Act.put, List.setIfInBounds_toArray, List.set_cons_zero, List.set_cons_succ])
  refine wpAnyH_done (by kernel_rfl) ?_ _
  clear hH
  go_wp2
  go_ret
  exact ⟨rfl, d4.b⟩
theorem sbytes_walk (g a i n : Int) (sp : Option Addr) (cap : Nat) (l : List UInt8) (w : World) (ht : Tab w) (ha : Arg w sp cap l) :
    Calls Tryd.prog 3 #[.agg #[.int .i64 g, .int .i64 a, .int .i64 i, .int .i64 n], .slice sp l.length cap] w fun e w' => e = .returned (.bool true) ∧ Below w.heap.size w w' := by
  cases hok : okS g a i n
  · exact sbytes_no g a i n sp cap l w ht ha hok
  · obtain ⟨h1, h2, h3⟩ := okS_iff.1 hok
    have hb := h3.box
    have hn := (okG_iff.1 h3).2.2.2.2.2.1
    obtain ⟨g', rfl⟩ := Int.eq_ofNat_of_zero_le (show 0 ≤ g by omega)
    obtain ⟨a', rfl⟩ := Int.eq_ofNat_of_zero_le (show 0 ≤ a by omega)
    obtain ⟨i', rfl⟩ := Int.eq_ofNat_of_zero_le (show 0 ≤ i by omega)
    obtain ⟨n', rfl⟩ := Int.eq_ofNat_of_zero_le (show 0 ≤ n by omega)
    exact sbytes_ok g' a' i' n' sp cap l w ht ha hok
end Go.Proofs.YtjdfkbpadhndlaaDoor
