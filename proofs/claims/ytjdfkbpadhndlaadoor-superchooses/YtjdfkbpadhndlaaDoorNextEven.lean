/- The walk of leveelaw04.SuperNext, third part: the other place. -/
import Derived.Test.YtjdfkbpadhndlaaDoorNextGood
namespace Go.Proofs.YtjdfkbpadhndlaaDoor
open Go.RowKit
attribute [local go_sem] wrapI
set_option maxRecDepth 100000 in
set_option maxHeartbeats 8000000 in
theorem nextw_even (g a i n h x y z : Nat) (k : Int) (c : UInt8) (w : World) (ht : Tab w) (hk : -9223372036854775808 ≤ k ∧ k ≤ 9223372036854775807) (hok : okS g a i n = true) (hok2 : okS h x y z = true) (hh : Hid (h = g + 1)) (hpar : Hid (h % 2 = 0)) (NX : ∀ W, Calls Tryd.prog 18 #[.agg #[.int .i64 (g : Int), .int .i64 (a : Int), .int .i64 (i : Int), .int .i64 (n : Int)], .agg #[.int .i64 (x : Int), .int .i64 (y : Int), .int .i64 (z : Int)]] W fun e w' => e = .returned (.tuple #[.agg #[.int .i64 (h : Int), .int .i64 (x : Int), .int .i64 (y : Int), .int .i64 (z : Int)], .int .i64 0, .int .i64 0]) ∧ Below W.heap.size W w') :
    Calls Tryd.prog 6 #[.agg #[.int .i64 (g : Int), .int .i64 (a : Int), .int .i64 (i : Int), .int .i64 (n : Int)], .agg #[.int .i64 (x : Int), .int .i64 (y : Int), .int .i64 (z : Int)], .int .i64 k, .int .u8 (c.toNat : Int)] w fun e w' => e = .returned (.bool true) ∧ Below w.heap.size w w' := by
  have hw0 : 0 < w.heap.size := block_lt_of_cell (ht 0 (by omega))
  have GV := given_any g a i n
  have hd : Two w g a i n x y z ((w.alloc (.cells #[.int .i64 (g : Int), .int .i64 (a : Int), .int .i64 (i : Int), .int .i64 (n : Int)] 25)).alloc (.cells #[.int .i64 (x : Int), .int .i64 (y : Int), .int .i64 (z : Int)] 23)).drew := (two0 g a i n x y z w).up (Below.refl _ _).drew
  have hsz0 : ((w.alloc (.cells #[.int .i64 (g : Int), .int .i64 (a : Int), .int .i64 (i : Int), .int .i64 (n : Int)] 25)).alloc (.cells #[.int .i64 (x : Int), .int .i64 (y : Int), .int .i64 (z : Int)] 23)).drew.heap.size = w.heap.size + 1 + 1 := by show ((w.heap.push _).push _).size = _; simp
  go_enter Tryd.func6, Tryd.ntmps6
  go_wp2_with fail
  go_cut [9, 10, 11] from 25 (fun s9 s10 s11 wc => ∃ P, s9 = .pointer (some ⟨P, 0, none⟩) ∧ s10 = .int .i64 0 ∧ s11 = .int .i64 0 ∧ Two w g a i n x y z wc ∧ Row4 wc P 30 h x y z ∧ w.heap.size + 1 < P)
  case first =>
    refine wp_region_held_drew (S := (fun w' => Two w g a i n x y z w')) (by kernel_rfl) hd (fun hH => ?_)
    refine takeH (i := 0) (dst := some 26) (v := ?v1075) rfl rfl (by kernel_rfl) (by kernel_rfl) (by kernel_rfl) (fun _ _ _ h => h) rfl ?hy1075 hH rfl ?rest1075
    case hy1075 => (intro W hW; have q0 := hW.s.c0; have q1 := hW.s.c1; have q2 := hW.s.c2; have q3 := hW.s.c3; have y0 := hW.q0; have y1 := hW.q1; have y2 := hW.q2; clear hW; go_simp; try with_reducible rfl)
    (try simp only [Act.put, List.setIfInBounds_toArray, List.set_cons_zero, List.set_cons_succ])
    refine takeH (i := 2) (dst := some 28) (v := ?v1076) rfl rfl (by kernel_rfl) (by kernel_rfl) (by kernel_rfl) (fun _ _ _ h => h) rfl ?hy1076 hH rfl ?rest1076
    case hy1076 => (intro W hW; have q0 := hW.s.c0; have q1 := hW.s.c1; have q2 := hW.s.c2; have q3 := hW.s.c3; have y0 := hW.q0; have y1 := hW.q1; have y2 := hW.q2; clear hW; go_simp; try with_reducible rfl)
    (try simp only [Act.put, List.setIfInBounds_toArray, List.set_cons_zero, List.set_cons_succ])
    refine callH2 (i := 1) (j := 8) { dst := some 27, op := Go.Op.call { callee := Go.Callee.value (Go.Operand.func 8), args := #[Go.Operand.tmp 26], argTypes := #[25] }, type := 30, pos := "law.go:76", after := #[{ on := 0, ground := Go.Ground.data }], guard := none } { dst := some 9, op := Go.Op.alloc 30, type := 0, pos := "law.go:76", after := #[], guard := none } (by kernel_rfl) rfl rfl rfl rfl (fun K hK => ?_) (fun K hK => ?_)
    · go_simp
      refine (GV _).mono ?_
      rintro e v1077 ⟨rfl, b1077⟩
      have d1077 := hH.up b1077
      clear hH
      refine hK.out _ _ d1077 (fun hH => ?_)
      clear hK K
      (try simp only [Act.put, List.setIfInBounds_toArray, List.set_cons_zero, List.set_cons_succ])
      refine callH2 (i := 3) (j := 8) { dst := some 29, op := Go.Op.call { callee := Go.Callee.value (Go.Operand.func 18), args := #[Go.Operand.tmp 27, Go.Operand.tmp 28], argTypes := #[30, 23] }, type := 42, pos := "law.go:76", after := #[{ on := 1, ground := Go.Ground.data }, { on := 2, ground := Go.Ground.data }, { on := 1, ground := Go.Ground.chain }], guard := none } { dst := some 9, op := Go.Op.alloc 30, type := 0, pos := "law.go:76", after := #[], guard := none } (by kernel_rfl) rfl rfl rfl rfl (fun K hK => ?_) (fun K hK => ?_)
      · go_simp
        refine (NX _).mono ?_
        rintro e v1078 ⟨rfl, b1078⟩
        have d1078 := hH.up b1078
        clear hH
        refine hK.out _ _ d1078 (fun hH => ?_)
        clear hK K
        (try simp only [Act.put, List.setIfInBounds_toArray, List.set_cons_zero, List.set_cons_succ])
        refine takeH (i := 4) (dst := some 25) (v := ?v1079) rfl rfl (by kernel_rfl) (by kernel_rfl) (by kernel_rfl) (fun _ _ _ h => h) rfl ?hy1079 hH rfl ?rest1079
        case hy1079 => (intro W hW; have q0 := hW.s.c0; have q1 := hW.s.c1; have q2 := hW.s.c2; have q3 := hW.s.c3; have y0 := hW.q0; have y1 := hW.q1; have y2 := hW.q2; clear hW; go_simp; try with_reducible rfl)
        (try simp only [Act.put, List.setIfInBounds_toArray, List.set_cons_zero, List.set_cons_succ])
        refine takeH (i := 5) (dst := some 30) (v := ?v1080) rfl rfl (by kernel_rfl) (by kernel_rfl) (by kernel_rfl) (fun _ _ _ h => h) rfl ?hy1080 hH rfl ?rest1080
        case hy1080 => (intro W hW; have q0 := hW.s.c0; have q1 := hW.s.c1; have q2 := hW.s.c2; have q3 := hW.s.c3; have y0 := hW.q0; have y1 := hW.q1; have y2 := hW.q2; clear hW; go_simp; try with_reducible rfl)
        (try simp only [Act.put, List.setIfInBounds_toArray, List.set_cons_zero, List.set_cons_succ])
        refine takeH (i := 6) (dst := some 31) (v := ?v1081) rfl rfl (by kernel_rfl) (by kernel_rfl) (by kernel_rfl) (fun _ _ _ h => h) rfl ?hy1081 hH rfl ?rest1081
        case hy1081 => (intro W hW; have q0 := hW.s.c0; have q1 := hW.s.c1; have q2 := hW.s.c2; have q3 := hW.s.c3; have y0 := hW.q0; have y1 := hW.q1; have y2 := hW.q2; clear hW; go_simp; try with_reducible rfl)
        (try simp only [Act.put, List.setIfInBounds_toArray, List.set_cons_zero, List.set_cons_succ])
        refine takeH (i := 7) (dst := some 32) (v := ?v1082) rfl rfl (by kernel_rfl) (by kernel_rfl) (by kernel_rfl) (fun _ _ _ h => h) rfl ?hy1082 hH rfl ?rest1082
        case hy1082 => (intro W hW; have q0 := hW.s.c0; have q1 := hW.s.c1; have q2 := hW.s.c2; have q3 := hW.s.c3; have y0 := hW.q0; have y1 := hW.q1; have y2 := hW.q2; clear hW; go_simp; try with_reducible rfl)
        (try simp only [Act.put, List.setIfInBounds_toArray, List.set_cons_zero, List.set_cons_succ])
        refine callH (i := 8) { dst := some 9, op := Go.Op.alloc 30, type := 0, pos := "law.go:76", after := #[], guard := none } (by kernel_rfl) rfl rfl (fun K hK => ?_)
        go_simp
        have al1083 : Below v1078.heap.size v1078 (v1078.alloc (.cells #[.int .i64 0, .int .i64 0, .int .i64 0, .int .i64 0] 30)) := (Below.refl _ _).alloc (Nat.le_refl _) _
        have hPL := hH.lt
        have d1083 := hH.up al1083
        have row1083 : Row4 (v1078.alloc (.cells #[.int .i64 0, .int .i64 0, .int .i64 0, .int .i64 0] 30)) v1078.heap.size 30 0 0 0 0 := heap_alloc_new _ _
        clear al1083
        obtain ⟨nw1083, hnw1083⟩ : ∃ nw, Hid (nw = v1078.alloc (.cells #[.int .i64 0, .int .i64 0, .int .i64 0, .int .i64 0] 30)) := ⟨_, rfl⟩
        rw [← hnw1083.out] at d1083 row1083 ⊢
        clear hH
        refine hK.out _ _ d1083 (fun hH => ?_)
        clear hK K
        (try simp only [Act.put, List.setIfInBounds_toArray, List.set_cons_zero, List.set_cons_succ])
        have r0 := row1083.c0
        have r1 := row1083.c1
        have r2 := row1083.c2
        have r3 := row1083.c3
        have f0 := row1083.fr 0
        have f1 := row1083.fr 1
        have f2 := row1083.fr 2
        have f3 := row1083.fr 3
        have hPl := hPL
        have dS := hH.set4 hPl (.int .i64 h) (.int .i64 x) (.int .i64 y) (.int .i64 z)
        have dR := row1083.set h x y z
        refine callH (i := 9) { dst := none, op := Go.Op.store 30 (Go.Operand.tmp 9) (Go.Operand.tmp 30), type := 0, pos := "law.go:76", after := #[{ on := 8, ground := Go.Ground.data }, { on := 5, ground := Go.Ground.data }, { on := 3, ground := Go.Ground.chain }, { on := 0, ground := Go.Ground.phase }, { on := 1, ground := Go.Ground.phase }, { on := 2, ground := Go.Ground.phase }, { on := 3, ground := Go.Ground.phase }, { on := 4, ground := Go.Ground.phase }, { on := 5, ground := Go.Ground.phase }, { on := 6, ground := Go.Ground.textOnly Go.Departure.lateStores }, { on := 7, ground := Go.Ground.textOnly Go.Departure.lateStores }, { on := 8, ground := Go.Ground.phase }], guard := none } (by kernel_rfl) rfl rfl (fun K hK => ?_)
        go_simp
        clear hH
        refine hK.out _ _ dS (fun hH => ?_)
        clear hK K
        (try simp only [Act.put, List.setIfInBounds_toArray, List.set_cons_zero, List.set_cons_succ])
        refine takeH (i := 10) (dst := some 10) (v := ?v1084) rfl rfl (by kernel_rfl) (by kernel_rfl) (by kernel_rfl) (fun _ _ _ h => h) rfl ?hy1084 hH rfl ?rest1084
        case hy1084 => (intro W hW; have q0 := hW.s.c0; have q1 := hW.s.c1; have q2 := hW.s.c2; have q3 := hW.s.c3; have y0 := hW.q0; have y1 := hW.q1; have y2 := hW.q2; clear hW; go_simp; try with_reducible rfl)
        (try simp only [Act.put, List.setIfInBounds_toArray, List.set_cons_zero, List.set_cons_succ])
        refine takeH (i := 11) (dst := some 11) (v := ?v1085) rfl rfl (by kernel_rfl) (by kernel_rfl) (by kernel_rfl) (fun _ _ _ h => h) rfl ?hy1085 hH rfl ?rest1085
        case hy1085 => (intro W hW; have q0 := hW.s.c0; have q1 := hW.s.c1; have q2 := hW.s.c2; have q3 := hW.s.c3; have y0 := hW.q0; have y1 := hW.q1; have y2 := hW.q2; clear hW; go_simp; try with_reducible rfl)
        (try simp only [Act.put, List.setIfInBounds_toArray, List.set_cons_zero, List.set_cons_succ])
        refine wpAnyH_done (by kernel_rfl) ?_ _
        go_wp2_with fail
        go_meet
        case rel => exact ⟨_, rfl, rfl, rfl, dS, dR, hPl⟩
      · go_simp
        have al1086 : Below v1077.heap.size v1077 (v1077.alloc (.cells #[.int .i64 0, .int .i64 0, .int .i64 0, .int .i64 0] 30)) := (Below.refl _ _).alloc (Nat.le_refl _) _
        have hPL := hH.lt
        have d1086 := hH.up al1086
        have row1086 : Row4 (v1077.alloc (.cells #[.int .i64 0, .int .i64 0, .int .i64 0, .int .i64 0] 30)) v1077.heap.size 30 0 0 0 0 := heap_alloc_new _ _
        clear al1086
        obtain ⟨nw1086, hnw1086⟩ : ∃ nw, Hid (nw = v1077.alloc (.cells #[.int .i64 0, .int .i64 0, .int .i64 0, .int .i64 0] 30)) := ⟨_, rfl⟩
        rw [← hnw1086.out] at d1086 row1086 ⊢
        clear hH
        refine hK.out _ _ d1086 (fun hH => ?_)
        clear hK K
        (try simp only [Act.put, List.setIfInBounds_toArray, List.set_cons_zero, List.set_cons_succ])
        refine callH (i := 3) { dst := some 29, op := Go.Op.call { callee := Go.Callee.value (Go.Operand.func 18), args := #[Go.Operand.tmp 27, Go.Operand.tmp 28], argTypes := #[30, 23] }, type := 42, pos := "law.go:76", after := #[{ on := 1, ground := Go.Ground.data }, { on := 2, ground := Go.Ground.data }, { on := 1, ground := Go.Ground.chain }], guard := none } (by kernel_rfl) rfl rfl (fun K hK => ?_)
        go_simp
        refine (NX _).mono ?_
        rintro e v1087 ⟨rfl, b1087⟩
        have d1087 := hH.up b1087
        have row1087 := row1086.up b1087
        clear hH
        refine hK.out _ _ d1087 (fun hH => ?_)
        clear hK K
        (try simp only [Act.put, List.setIfInBounds_toArray, List.set_cons_zero, List.set_cons_succ])
        refine takeH (i := 4) (dst := some 25) (v := ?v1088) rfl rfl (by kernel_rfl) (by kernel_rfl) (by kernel_rfl) (fun _ _ _ h => h) rfl ?hy1088 hH rfl ?rest1088
        case hy1088 => (intro W hW; have q0 := hW.s.c0; have q1 := hW.s.c1; have q2 := hW.s.c2; have q3 := hW.s.c3; have y0 := hW.q0; have y1 := hW.q1; have y2 := hW.q2; clear hW; go_simp; try with_reducible rfl)
        (try simp only [Act.put, List.setIfInBounds_toArray, List.set_cons_zero, List.set_cons_succ])
        refine takeH (i := 5) (dst := some 30) (v := ?v1089) rfl rfl (by kernel_rfl) (by kernel_rfl) (by kernel_rfl) (fun _ _ _ h => h) rfl ?hy1089 hH rfl ?rest1089
        case hy1089 => (intro W hW; have q0 := hW.s.c0; have q1 := hW.s.c1; have q2 := hW.s.c2; have q3 := hW.s.c3; have y0 := hW.q0; have y1 := hW.q1; have y2 := hW.q2; clear hW; go_simp; try with_reducible rfl)
        (try simp only [Act.put, List.setIfInBounds_toArray, List.set_cons_zero, List.set_cons_succ])
        refine takeH (i := 6) (dst := some 31) (v := ?v1090) rfl rfl (by kernel_rfl) (by kernel_rfl) (by kernel_rfl) (fun _ _ _ h => h) rfl ?hy1090 hH rfl ?rest1090
        case hy1090 => (intro W hW; have q0 := hW.s.c0; have q1 := hW.s.c1; have q2 := hW.s.c2; have q3 := hW.s.c3; have y0 := hW.q0; have y1 := hW.q1; have y2 := hW.q2; clear hW; go_simp; try with_reducible rfl)
        (try simp only [Act.put, List.setIfInBounds_toArray, List.set_cons_zero, List.set_cons_succ])
        refine takeH (i := 7) (dst := some 32) (v := ?v1091) rfl rfl (by kernel_rfl) (by kernel_rfl) (by kernel_rfl) (fun _ _ _ h => h) rfl ?hy1091 hH rfl ?rest1091
        case hy1091 => (intro W hW; have q0 := hW.s.c0; have q1 := hW.s.c1; have q2 := hW.s.c2; have q3 := hW.s.c3; have y0 := hW.q0; have y1 := hW.q1; have y2 := hW.q2; clear hW; go_simp; try with_reducible rfl)
        (try simp only [Act.put, List.setIfInBounds_toArray, List.set_cons_zero, List.set_cons_succ])
        have r0 := row1087.c0
        have r1 := row1087.c1
        have r2 := row1087.c2
        have r3 := row1087.c3
        have f0 := row1087.fr 0
        have f1 := row1087.fr 1
        have f2 := row1087.fr 2
        have f3 := row1087.fr 3
        have hPl := hPL
        have dS := hH.set4 hPl (.int .i64 h) (.int .i64 x) (.int .i64 y) (.int .i64 z)
        have dR := row1087.set h x y z
        refine callH (i := 9) { dst := none, op := Go.Op.store 30 (Go.Operand.tmp 9) (Go.Operand.tmp 30), type := 0, pos := "law.go:76", after := #[{ on := 8, ground := Go.Ground.data }, { on := 5, ground := Go.Ground.data }, { on := 3, ground := Go.Ground.chain }, { on := 0, ground := Go.Ground.phase }, { on := 1, ground := Go.Ground.phase }, { on := 2, ground := Go.Ground.phase }, { on := 3, ground := Go.Ground.phase }, { on := 4, ground := Go.Ground.phase }, { on := 5, ground := Go.Ground.phase }, { on := 6, ground := Go.Ground.textOnly Go.Departure.lateStores }, { on := 7, ground := Go.Ground.textOnly Go.Departure.lateStores }, { on := 8, ground := Go.Ground.phase }], guard := none } (by kernel_rfl) rfl rfl (fun K hK => ?_)
        go_simp
        clear hH
        refine hK.out _ _ dS (fun hH => ?_)
        clear hK K
        (try simp only [Act.put, List.setIfInBounds_toArray, List.set_cons_zero, List.set_cons_succ])
        refine takeH (i := 10) (dst := some 10) (v := ?v1092) rfl rfl (by kernel_rfl) (by kernel_rfl) (by kernel_rfl) (fun _ _ _ h => h) rfl ?hy1092 hH rfl ?rest1092
        case hy1092 => (intro W hW; have q0 := hW.s.c0; have q1 := hW.s.c1; have q2 := hW.s.c2; have q3 := hW.s.c3; have y0 := hW.q0; have y1 := hW.q1; have y2 := hW.q2; clear hW; go_simp; try with_reducible rfl)
        (try simp only [Act.put, List.setIfInBounds_toArray, List.set_cons_zero, List.set_cons_succ])
        refine takeH (i := 11) (dst := some 11) (v := ?v1093) rfl rfl (by kernel_rfl) (by kernel_rfl) (by kernel_rfl) (fun _ _ _ h => h) rfl ?hy1093 hH rfl ?rest1093
        case hy1093 => (intro W hW; have q0 := hW.s.c0; have q1 := hW.s.c1; have q2 := hW.s.c2; have q3 := hW.s.c3; have y0 := hW.q0; have y1 := hW.q1; have y2 := hW.q2; clear hW; go_simp; try with_reducible rfl)
        (try simp only [Act.put, List.setIfInBounds_toArray, List.set_cons_zero, List.set_cons_succ])
        refine wpAnyH_done (by kernel_rfl) ?_ _
        go_wp2_with fail
        go_meet
        case rel => exact ⟨_, rfl, rfl, rfl, dS, dR, hPl⟩
    · go_simp
      have al1094 : Below ((w.alloc (.cells #[.int .i64 (g : Int), .int .i64 (a : Int), .int .i64 (i : Int), .int .i64 (n : Int)] 25)).alloc (.cells #[.int .i64 (x : Int), .int .i64 (y : Int), .int .i64 (z : Int)] 23)).drew.heap.size ((w.alloc (.cells #[.int .i64 (g : Int), .int .i64 (a : Int), .int .i64 (i : Int), .int .i64 (n : Int)] 25)).alloc (.cells #[.int .i64 (x : Int), .int .i64 (y : Int), .int .i64 (z : Int)] 23)).drew (((w.alloc (.cells #[.int .i64 (g : Int), .int .i64 (a : Int), .int .i64 (i : Int), .int .i64 (n : Int)] 25)).alloc (.cells #[.int .i64 (x : Int), .int .i64 (y : Int), .int .i64 (z : Int)] 23)).drew.alloc (.cells #[.int .i64 0, .int .i64 0, .int .i64 0, .int .i64 0] 30)) := (Below.refl _ _).alloc (Nat.le_refl _) _
      have hPL := hH.lt
      have d1094 := hH.up al1094
      have row1094 : Row4 (((w.alloc (.cells #[.int .i64 (g : Int), .int .i64 (a : Int), .int .i64 (i : Int), .int .i64 (n : Int)] 25)).alloc (.cells #[.int .i64 (x : Int), .int .i64 (y : Int), .int .i64 (z : Int)] 23)).drew.alloc (.cells #[.int .i64 0, .int .i64 0, .int .i64 0, .int .i64 0] 30)) (w.heap.size + 1 + 1) 30 0 0 0 0 := by have h9 := heap_alloc_new ((w.alloc (.cells #[.int .i64 (g : Int), .int .i64 (a : Int), .int .i64 (i : Int), .int .i64 (n : Int)] 25)).alloc (.cells #[.int .i64 (x : Int), .int .i64 (y : Int), .int .i64 (z : Int)] 23)).drew (.cells #[.int .i64 0, .int .i64 0, .int .i64 0, .int .i64 0] 30); rw [hsz0] at h9; exact h9
      rw [hsz0] at hPL
      clear hH
      refine hK.out _ _ d1094 (fun hH => ?_)
      clear hK K
      (try simp only [Act.put, List.setIfInBounds_toArray, List.set_cons_zero, List.set_cons_succ])
      refine callH (i := 1) { dst := some 27, op := Go.Op.call { callee := Go.Callee.value (Go.Operand.func 8), args := #[Go.Operand.tmp 26], argTypes := #[25] }, type := 30, pos := "law.go:76", after := #[{ on := 0, ground := Go.Ground.data }], guard := none } (by kernel_rfl) rfl rfl (fun K hK => ?_)
      go_simp
      refine (GV _).mono ?_
      rintro e v1095 ⟨rfl, b1095⟩
      have d1095 := hH.up b1095
      have row1095 := row1094.up b1095
      clear hH
      refine hK.out _ _ d1095 (fun hH => ?_)
      clear hK K
      (try simp only [Act.put, List.setIfInBounds_toArray, List.set_cons_zero, List.set_cons_succ])
      refine callH (i := 3) { dst := some 29, op := Go.Op.call { callee := Go.Callee.value (Go.Operand.func 18), args := #[Go.Operand.tmp 27, Go.Operand.tmp 28], argTypes := #[30, 23] }, type := 42, pos := "law.go:76", after := #[{ on := 1, ground := Go.Ground.data }, { on := 2, ground := Go.Ground.data }, { on := 1, ground := Go.Ground.chain }], guard := none } (by kernel_rfl) rfl rfl (fun K hK => ?_)
      go_simp
      refine (NX _).mono ?_
      rintro e v1096 ⟨rfl, b1096⟩
      have d1096 := hH.up b1096
      have row1096 := row1095.up b1096
      clear hH
      refine hK.out _ _ d1096 (fun hH => ?_)
      clear hK K
      (try simp only [Act.put, List.setIfInBounds_toArray, List.set_cons_zero, List.set_cons_succ])
      refine takeH (i := 4) (dst := some 25) (v := ?v1097) rfl rfl (by kernel_rfl) (by kernel_rfl) (by kernel_rfl) (fun _ _ _ h => h) rfl ?hy1097 hH rfl ?rest1097
      case hy1097 => (intro W hW; have q0 := hW.s.c0; have q1 := hW.s.c1; have q2 := hW.s.c2; have q3 := hW.s.c3; have y0 := hW.q0; have y1 := hW.q1; have y2 := hW.q2; clear hW; go_simp; try with_reducible rfl)
      (try simp only [Act.put, List.setIfInBounds_toArray, List.set_cons_zero, List.set_cons_succ])
      refine takeH (i := 5) (dst := some 30) (v := ?v1098) rfl rfl (by kernel_rfl) (by kernel_rfl) (by kernel_rfl) (fun _ _ _ h => h) rfl ?hy1098 hH rfl ?rest1098
      case hy1098 => (intro W hW; have q0 := hW.s.c0; have q1 := hW.s.c1; have q2 := hW.s.c2; have q3 := hW.s.c3; have y0 := hW.q0; have y1 := hW.q1; have y2 := hW.q2; clear hW; go_simp; try with_reducible rfl)
      (try simp only [Act.put, List.setIfInBounds_toArray, List.set_cons_zero, List.set_cons_succ])
      refine takeH (i := 6) (dst := some 31) (v := ?v1099) rfl rfl (by kernel_rfl) (by kernel_rfl) (by kernel_rfl) (fun _ _ _ h => h) rfl ?hy1099 hH rfl ?rest1099
      case hy1099 => (intro W hW; have q0 := hW.s.c0; have q1 := hW.s.c1; have q2 := hW.s.c2; have q3 := hW.s.c3; have y0 := hW.q0; have y1 := hW.q1; have y2 := hW.q2; clear hW; go_simp; try with_reducible rfl)
      (try simp only [Act.put, List.setIfInBounds_toArray, List.set_cons_zero, List.set_cons_succ])
      refine takeH (i := 7) (dst := some 32) (v := ?v1100) rfl rfl (by kernel_rfl) (by kernel_rfl) (by kernel_rfl) (fun _ _ _ h => h) rfl ?hy1100 hH rfl ?rest1100
      case hy1100 => (intro W hW; have q0 := hW.s.c0; have q1 := hW.s.c1; have q2 := hW.s.c2; have q3 := hW.s.c3; have y0 := hW.q0; have y1 := hW.q1; have y2 := hW.q2; clear hW; go_simp; try with_reducible rfl)
      (try simp only [Act.put, List.setIfInBounds_toArray, List.set_cons_zero, List.set_cons_succ])
      have r0 := row1096.c0
      have r1 := row1096.c1
      have r2 := row1096.c2
      have r3 := row1096.c3
      have f0 := row1096.fr 0
      have f1 := row1096.fr 1
      have f2 := row1096.fr 2
      have f3 := row1096.fr 3
      have hPl := hPL
      have dS := hH.set4 hPl (.int .i64 h) (.int .i64 x) (.int .i64 y) (.int .i64 z)
      have dR := row1096.set h x y z
      refine callH (i := 9) { dst := none, op := Go.Op.store 30 (Go.Operand.tmp 9) (Go.Operand.tmp 30), type := 0, pos := "law.go:76", after := #[{ on := 8, ground := Go.Ground.data }, { on := 5, ground := Go.Ground.data }, { on := 3, ground := Go.Ground.chain }, { on := 0, ground := Go.Ground.phase }, { on := 1, ground := Go.Ground.phase }, { on := 2, ground := Go.Ground.phase }, { on := 3, ground := Go.Ground.phase }, { on := 4, ground := Go.Ground.phase }, { on := 5, ground := Go.Ground.phase }, { on := 6, ground := Go.Ground.textOnly Go.Departure.lateStores }, { on := 7, ground := Go.Ground.textOnly Go.Departure.lateStores }, { on := 8, ground := Go.Ground.phase }], guard := none } (by kernel_rfl) rfl rfl (fun K hK => ?_)
      go_simp
      clear hH
      refine hK.out _ _ dS (fun hH => ?_)
      clear hK K
      (try simp only [Act.put, List.setIfInBounds_toArray, List.set_cons_zero, List.set_cons_succ])
      refine takeH (i := 10) (dst := some 10) (v := ?v1101) rfl rfl (by kernel_rfl) (by kernel_rfl) (by kernel_rfl) (fun _ _ _ h => h) rfl ?hy1101 hH rfl ?rest1101
      case hy1101 => (intro W hW; have q0 := hW.s.c0; have q1 := hW.s.c1; have q2 := hW.s.c2; have q3 := hW.s.c3; have y0 := hW.q0; have y1 := hW.q1; have y2 := hW.q2; clear hW; go_simp; try with_reducible rfl)
      (try simp only [Act.put, List.setIfInBounds_toArray, List.set_cons_zero, List.set_cons_succ])
      refine takeH (i := 11) (dst := some 11) (v := ?v1102) rfl rfl (by kernel_rfl) (by kernel_rfl) (by kernel_rfl) (fun _ _ _ h => h) rfl ?hy1102 hH rfl ?rest1102
      case hy1102 => (intro W hW; have q0 := hW.s.c0; have q1 := hW.s.c1; have q2 := hW.s.c2; have q3 := hW.s.c3; have y0 := hW.q0; have y1 := hW.q1; have y2 := hW.q2; clear hW; go_simp; try with_reducible rfl)
      (try simp only [Act.put, List.setIfInBounds_toArray, List.set_cons_zero, List.set_cons_succ])
      refine wpAnyH_done (by kernel_rfl) ?_ _
      go_wp2_with fail
      go_meet
      case rel => exact ⟨_, rfl, rfl, rfl, dS, dR, hPl⟩
  case rest =>
    obtain ⟨P, rfl, rfl, rfl, hT, hR, hPl⟩ := hcut
    obtain ⟨w1, L, hmk, HT1, HR1, HL1, hPL⟩ := make_two hT hR
    have c0 := HT1.out.s.c0
    have c1 := HT1.out.s.c1
    have c2 := HT1.out.s.c2
    have c3 := HT1.out.s.c3
    clear hT hR NX hd hsz0
    go_wp2_with fail
    clear c0 c1 c2 c3 hmk
    refine (GV _).mono ?_
    rintro e w2 ⟨rfl, hb2⟩
    have HT2 : Hid (Two w g a i n x y z w2) := HT1.out.up hb2
    have HR2 : Hid (Row4 w2 P 30 h x y z) := HR1.out.up hb2
    have HL2 : Hid (RowL w2 L (.slice none 0 0) (.slice none 0 0)) := HL1.out.up hb2
    have PT := sput_ok g a i n w2 (ht.below HT2.out.b hw0) hok
    clear hb2 HT1 HR1 HL1 GV
    go_wp2_with fail
    refine PT.mono ?_
    rintro e w3 ⟨G, rfl, hG, hGl, hb3⟩
    clear PT
    have hLG : L < G := by have := HL2.out.lt; omega
    have HT3 : Hid (Two w g a i n x y z w3) := HT2.out.up hb3
    have hR3 := HR2.out.up hb3
    have HL3 : Hid (RowL w3 L (.slice none 0 0) (.slice none 0 0)) := HL2.out.up hb3
    have HG3 : Hid (Blk w3 G 55 (putL g a i n)) := hG
    have PT := sput_ok h x y z w3 (ht.below HT3.out.b hw0) hok2
    have c0 := hR3.c0
    have c1 := hR3.c1
    have c2 := hR3.c2
    have c3 := hR3.c3
    have HR3 : Hid (Row4 w3 P 30 h x y z) := hR3
    clear hG hGl hb3 HT2 HR2 HL2 hR3
    go_wp2_with fail
    clear c0 c1 c2 c3
    refine PT.mono ?_
    rintro e w4 ⟨E, rfl, hE, hEl, hb4⟩
    clear PT
    have hGE : G < E := by have := HG3.out.lt; omega
    have HT4 : Hid (Two w g a i n x y z w4) := HT3.out.up hb4
    have hR4 := HR3.out.up hb4
    have hL4 := HL3.out.up hb4
    have HG4 : Hid (Blk w4 G 55 (putL g a i n)) := HG3.out.up hb4
    have HE4 : Hid (Blk w4 E 55 (putL h x y z)) := hE
    have CT := fun W => count_two 0 (by omega) W
    have hrem : Int.tmod (h : Int) 2 = 0 := by have := hpar.out; rw [Int.tmod_eq_emod_of_nonneg (by omega)]; omega
    have hne : L ≠ P := by omega
    have c0 := hR4.c0
    have d0 := hL4.c0
    have d1 := hL4.c1
    have f0 := hL4.fr 0
    have f1 := hL4.fr 1
    have HR4 : Hid (Row4 w4 P 30 h x y z) := hR4
    have HL4 : Hid (RowL w4 L (.slice none 0 0) (.slice none 0 0)) := hL4
    clear hE hEl hb4 HT3 HR3 HL3 HG3 hR4 hL4
    go_wp2_with fail
    refine (CT _).mono ?_
    rintro e w5 ⟨rfl, h5⟩
    rw [h5]
    clear h5 w5 CT hrem
    obtain ⟨w6, HW6⟩ : ∃ w6, Hid (w6 = (w4.setCell ⟨L, 1, none⟩ (.slice (some ⟨G, 0, none⟩) 256 256)).setCell ⟨L, 0, none⟩ (.slice (some ⟨E, 0, none⟩) 256 256)) := ⟨_, rfl⟩
    have HB6 : Hid (Big w g a i n h x y z P L E G (putL h x y z) (putL g a i n) w6) := by
      rw [HW6.out]
      exact ⟨(HT4.out.other (by omega) _).other (by omega) _, (HR4.out.putb hne.symm _).putb hne.symm _, (HL4.out.set1 _).set0 _, (HE4.out.other (by omega) _).other (by omega) _, (HG4.out.other (by omega) _).other (by omega) _⟩
    clear HT4 HR4 HL4 HG4 HE4 c0
    go_upto_region 11 with fail
    rw [show (w4.setCell ⟨L, 1, none⟩ (.slice (some ⟨G, 0, none⟩) 256 256)).setCell ⟨L, 0, none⟩ (.slice (some ⟨E, 0, none⟩) 256 256) = w6 from HW6.out.symm]
    clear d0 d1 f0 f1 HW6
    have hG1 := (okS_iff.1 hok).2.2
    have hG2 := (okS_iff.1 hok2).2.2
    obtain ⟨S1, HS1⟩ : ∃ S1 : Int, Hid (S1 = 2 + (z : Int) * x) := ⟨_, rfl⟩
    obtain ⟨S2, HS2⟩ : ∃ S2 : Int, Hid (S2 = 2 + (n : Int) * a) := ⟨_, rfl⟩
    have RS1 := fun W => rsize_ok hG2 W
    have RS2 := fun W => rsize_ok hG1 W
    rw [← HS1.out] at RS1
    rw [← HS2.out] at RS2
    have i64 : In64 (S1 + S2) := ⟨by have := hG1.prod; have := hG2.prod; rw [HS1.out, HS2.out]; omega⟩
    have hd : Big w g a i n h x y z P L E G (putL h x y z) (putL g a i n) w6.drew := HB6.out.up (Below.refl _ _).drew
    clear HB6 hG1 hG2
    refine wp_region_held_drew (S := (fun w' => Big w g a i n h x y z P L E G (putL h x y z) (putL g a i n) w')) (by kernel_rfl) hd (fun hH => ?_)
    refine takeH (i := 0) (dst := some 71) (v := ?v22) rfl rfl (by kernel_rfl) (by kernel_rfl) (by kernel_rfl) (fun _ _ _ h => h) rfl ?hy22 hH rfl ?rest22
    case hy22 => (intro W hW; have q0 := hW.two.s.c0; have q1 := hW.two.s.c1; have q2 := hW.two.s.c2; have q3 := hW.two.s.c3; have y0 := hW.two.q0; have y1 := hW.two.q1; have y2 := hW.two.q2; clear hW; go_simp; try with_reducible rfl)
    (try simp only [Act.put, List.setIfInBounds_toArray, List.set_cons_zero, List.set_cons_succ])
    refine takeH (i := 2) (dst := some 73) (v := ?v23) rfl rfl (by kernel_rfl) (by kernel_rfl) (by kernel_rfl) (fun _ _ _ h => h) rfl ?hy23 hH rfl ?rest23
    case hy23 => (intro W hW; have q0 := hW.two.s.c0; have q1 := hW.two.s.c1; have q2 := hW.two.s.c2; have q3 := hW.two.s.c3; have y0 := hW.two.q0; have y1 := hW.two.q1; have y2 := hW.two.q2; clear hW; go_simp; try with_reducible rfl)
    (try simp only [Act.put, List.setIfInBounds_toArray, List.set_cons_zero, List.set_cons_succ])
    refine takeH (i := 3) (dst := some 74) (v := ?v24) rfl rfl (by kernel_rfl) (by kernel_rfl) (by kernel_rfl) (fun _ _ _ h => h) rfl ?hy24 hH rfl ?rest24
    case hy24 => (intro W hW; have q0 := hW.two.s.c0; have q1 := hW.two.s.c1; have q2 := hW.two.s.c2; have q3 := hW.two.s.c3; have y0 := hW.two.q0; have y1 := hW.two.q1; have y2 := hW.two.q2; clear hW; go_simp; try with_reducible rfl)
    (try simp only [Act.put, List.setIfInBounds_toArray, List.set_cons_zero, List.set_cons_succ])
    refine callH (i := 1) { dst := some 72, op := Go.Op.call { callee := Go.Callee.value (Go.Operand.func 21), args := #[Go.Operand.tmp 71], argTypes := #[23] }, type := 3, pos := "law.go:88", after := #[{ on := 0, ground := Go.Ground.data }], guard := none } (by kernel_rfl) rfl rfl (fun K hK => ?_)
    go_simp
    refine (RS1 _).mono ?_
    rintro e v1 ⟨rfl, b1⟩
    have d1 := hH.up b1
    clear hH
    refine hK.out _ _ d1 (fun hH => ?_)
    clear hK K
    (try simp only [Act.put, List.setIfInBounds_toArray, List.set_cons_zero, List.set_cons_succ])
    refine callH (i := 4) { dst := some 75, op := Go.Op.call { callee := Go.Callee.value (Go.Operand.func 21), args := #[Go.Operand.tmp 74], argTypes := #[23] }, type := 3, pos := "law.go:88", after := #[{ on := 3, ground := Go.Ground.data }, { on := 1, ground := Go.Ground.chain }], guard := none } (by kernel_rfl) rfl rfl (fun K hK => ?_)
    go_simp
    refine (RS2 _).mono ?_
    rintro e v2 ⟨rfl, b2⟩
    have d2 := d1.up b2
    clear hH
    refine hK.out _ _ d2 (fun hH => ?_)
    clear hK K
    (try simp only [Act.put, List.setIfInBounds_toArray, List.set_cons_zero, List.set_cons_succ])
    refine takeH (i := 5) (dst := some 76) (v := ?v25) rfl rfl (by kernel_rfl) (by kernel_rfl) (by kernel_rfl) (fun _ _ _ h => h) rfl ?hy25 hH rfl ?rest25
    case hy25 => (intro W hW; have q0 := hW.two.s.c0; have q1 := hW.two.s.c1; have q2 := hW.two.s.c2; have q3 := hW.two.s.c3; have y0 := hW.two.q0; have y1 := hW.two.q1; have y2 := hW.two.q2; clear hW; go_simp; try with_reducible rfl)
    (try simp only [Act.put, List.setIfInBounds_toArray, List.set_cons_zero, List.set_cons_succ])
    refine takeH (i := 6) (dst := some 17) (v := ?v26) rfl rfl (by kernel_rfl) (by kernel_rfl) (by kernel_rfl) (fun _ _ _ h => h) rfl ?hy26 hH rfl ?rest26
    case hy26 => (intro W hW; have q0 := hW.two.s.c0; have q1 := hW.two.s.c1; have q2 := hW.two.s.c2; have q3 := hW.two.s.c3; have y0 := hW.two.q0; have y1 := hW.two.q1; have y2 := hW.two.q2; clear hW; go_simp; try with_reducible rfl)
    (try simp only [Act.put, List.setIfInBounds_toArray, List.set_cons_zero, List.set_cons_succ])
    refine wpAnyH_done (by kernel_rfl) ?_ _
    clear hH
    have CH : ∀ W, Big w g a i n h x y z P L E G (putL h x y z) (putL g a i n) W → Calls Tryd.prog 16 #[.slice (some ⟨E, 0, none⟩) 256 256, .slice (some ⟨G, 0, none⟩) 256 256, .int .i64 (S1 + S2)] W fun e w' => e = .returned (.tuple #[.agg #[.int .i64 (h : Int), .int .i64 (x : Int), .int .i64 (y : Int), .int .i64 (z : Int)], .int .i64 0, .int .i64 0]) ∧ Below W.heap.size W w' := fun W H =>
      H.chooses ht (putL_length _ _ _ _) (putL_length _ _ _ _) _ _ _ _ _ (ch_even hok hok2 hh.out hpar.out HS1.out HS2.out) 0 (by have := hpar.out; omega) (by have := hh.out; omega)
    have hd2 : Big w g a i n h x y z P L E G (putL h x y z) (putL g a i n) v2.drew := d2.up (Below.refl _ _).drew
    have hsz0 : v2.drew.heap.size = v2.heap.size := rfl
    clear d1 d2 b1 b2 hd RS1 RS2 i64
    go_wp2_with fail
    go_cut [18, 19, 20] from 77 (fun s18 s19 s20 wc => ∃ Q, s18 = .pointer (some ⟨Q, 0, none⟩) ∧ s19 = .int .i64 0 ∧ s20 = .int .i64 0 ∧ Big w g a i n h x y z P L E G (putL h x y z) (putL g a i n) wc ∧ Row4 wc Q 30 h x y z)
    case first =>
      refine wp_region_held_drew (S := (fun w' => Big w g a i n h x y z P L E G (putL h x y z) (putL g a i n) w')) (by kernel_rfl) hd2 (fun hH => ?_)
      refine takeH (i := 0) (dst := some 78) (v := ?v1103) rfl rfl (by kernel_rfl) (by kernel_rfl) (by kernel_rfl) (fun _ _ _ h => h) rfl ?hy1103 hH rfl ?rest1103
      case hy1103 => (intro W hW; have l0 := hW.l.c0; have l1 := hW.l.c1; clear hW; go_simp; try with_reducible rfl)
      (try simp only [Act.put, List.setIfInBounds_toArray, List.set_cons_zero, List.set_cons_succ])
      refine takeH (i := 1) (dst := some 79) (v := ?v1104) rfl rfl (by kernel_rfl) (by kernel_rfl) (by kernel_rfl) (fun _ _ _ h => h) rfl ?hy1104 hH rfl ?rest1104
      case hy1104 => (intro W hW; have l0 := hW.l.c0; have l1 := hW.l.c1; clear hW; go_simp; try with_reducible rfl)
      (try simp only [Act.put, List.setIfInBounds_toArray, List.set_cons_zero, List.set_cons_succ])
      refine takeH (i := 2) (dst := some 80) (v := ?v1105) rfl rfl (by kernel_rfl) (by kernel_rfl) (by kernel_rfl) (fun _ _ _ h => h) rfl ?hy1105 hH rfl ?rest1105
      case hy1105 => (intro W hW; have l0 := hW.l.c0; have l1 := hW.l.c1; clear hW; go_simp; try with_reducible rfl)
      (try simp only [Act.put, List.setIfInBounds_toArray, List.set_cons_zero, List.set_cons_succ])
      refine takeH (i := 3) (dst := some 81) (v := ?v1106) rfl rfl (by kernel_rfl) (by kernel_rfl) (by kernel_rfl) (fun _ _ _ h => h) rfl ?hy1106 hH rfl ?rest1106
      case hy1106 => (intro W hW; have l0 := hW.l.c0; have l1 := hW.l.c1; clear hW; go_simp; try with_reducible rfl)
      (try simp only [Act.put, List.setIfInBounds_toArray, List.set_cons_zero, List.set_cons_succ])
      refine takeH (i := 4) (dst := some 82) (v := ?v1107) rfl rfl (by kernel_rfl) (by kernel_rfl) (by kernel_rfl) (fun _ _ _ h => h) rfl ?hy1107 hH rfl ?rest1107
      case hy1107 => (intro W hW; have l0 := hW.l.c0; have l1 := hW.l.c1; clear hW; go_simp; try with_reducible rfl)
      (try simp only [Act.put, List.setIfInBounds_toArray, List.set_cons_zero, List.set_cons_succ])
      refine takeH (i := 5) (dst := some 83) (v := ?v1108) rfl rfl (by kernel_rfl) (by kernel_rfl) (by kernel_rfl) (fun _ _ _ h => h) rfl ?hy1108 hH rfl ?rest1108
      case hy1108 => (intro W hW; have l0 := hW.l.c0; have l1 := hW.l.c1; clear hW; go_simp; try with_reducible rfl)
      (try simp only [Act.put, List.setIfInBounds_toArray, List.set_cons_zero, List.set_cons_succ])
      refine takeH (i := 6) (dst := some 84) (v := ?v1109) rfl rfl (by kernel_rfl) (by kernel_rfl) (by kernel_rfl) (fun _ _ _ h => h) rfl ?hy1109 hH rfl ?rest1109
      case hy1109 => (intro W hW; have l0 := hW.l.c0; have l1 := hW.l.c1; clear hW; go_simp; try with_reducible rfl)
      (try simp only [Act.put, List.setIfInBounds_toArray, List.set_cons_zero, List.set_cons_succ])
      refine callH2 (i := 7) (j := 12) { dst := some 85, op := Go.Op.call { callee := Go.Callee.value (Go.Operand.func 16), args := #[Go.Operand.tmp 80, Go.Operand.tmp 83, Go.Operand.tmp 84], argTypes := #[26, 26, 3] }, type := 42, pos := "law.go:89", after := #[{ on := 2, ground := Go.Ground.data }, { on := 5, ground := Go.Ground.data }, { on := 6, ground := Go.Ground.data }], guard := none } { dst := some 18, op := Go.Op.alloc 30, type := 0, pos := "law.go:89", after := #[], guard := none } (by kernel_rfl) rfl rfl rfl rfl (fun K hK => ?_) (fun K hK => ?_)
      · go_simp
        refine (CH _ hH).mono ?_
        rintro e v1110 ⟨rfl, b1110⟩
        have d1110 := hH.up b1110
        clear hH
        refine hK.out _ _ d1110 (fun hH => ?_)
        clear hK K
        (try simp only [Act.put, List.setIfInBounds_toArray, List.set_cons_zero, List.set_cons_succ])
        refine takeH (i := 8) (dst := some 77) (v := ?v1111) rfl rfl (by kernel_rfl) (by kernel_rfl) (by kernel_rfl) (fun _ _ _ h => h) rfl ?hy1111 hH rfl ?rest1111
        case hy1111 => (intro W hW; have l0 := hW.l.c0; have l1 := hW.l.c1; clear hW; go_simp; try with_reducible rfl)
        (try simp only [Act.put, List.setIfInBounds_toArray, List.set_cons_zero, List.set_cons_succ])
        refine takeH (i := 9) (dst := some 86) (v := ?v1112) rfl rfl (by kernel_rfl) (by kernel_rfl) (by kernel_rfl) (fun _ _ _ h => h) rfl ?hy1112 hH rfl ?rest1112
        case hy1112 => (intro W hW; have l0 := hW.l.c0; have l1 := hW.l.c1; clear hW; go_simp; try with_reducible rfl)
        (try simp only [Act.put, List.setIfInBounds_toArray, List.set_cons_zero, List.set_cons_succ])
        refine takeH (i := 10) (dst := some 87) (v := ?v1113) rfl rfl (by kernel_rfl) (by kernel_rfl) (by kernel_rfl) (fun _ _ _ h => h) rfl ?hy1113 hH rfl ?rest1113
        case hy1113 => (intro W hW; have l0 := hW.l.c0; have l1 := hW.l.c1; clear hW; go_simp; try with_reducible rfl)
        (try simp only [Act.put, List.setIfInBounds_toArray, List.set_cons_zero, List.set_cons_succ])
        refine takeH (i := 11) (dst := some 88) (v := ?v1114) rfl rfl (by kernel_rfl) (by kernel_rfl) (by kernel_rfl) (fun _ _ _ h => h) rfl ?hy1114 hH rfl ?rest1114
        case hy1114 => (intro W hW; have l0 := hW.l.c0; have l1 := hW.l.c1; clear hW; go_simp; try with_reducible rfl)
        (try simp only [Act.put, List.setIfInBounds_toArray, List.set_cons_zero, List.set_cons_succ])
        refine callH (i := 12) { dst := some 18, op := Go.Op.alloc 30, type := 0, pos := "law.go:89", after := #[], guard := none } (by kernel_rfl) rfl rfl (fun K hK => ?_)
        go_simp
        have al1115 : Below v1110.heap.size v1110 (v1110.alloc (.cells #[.int .i64 0, .int .i64 0, .int .i64 0, .int .i64 0] 30)) := (Below.refl _ _).alloc (Nat.le_refl _) _
        have hPL := hH.lt
        have d1115 := hH.up al1115
        have row1115 : Row4 (v1110.alloc (.cells #[.int .i64 0, .int .i64 0, .int .i64 0, .int .i64 0] 30)) v1110.heap.size 30 0 0 0 0 := heap_alloc_new _ _
        clear al1115
        obtain ⟨nw1115, hnw1115⟩ : ∃ nw, Hid (nw = v1110.alloc (.cells #[.int .i64 0, .int .i64 0, .int .i64 0, .int .i64 0] 30)) := ⟨_, rfl⟩
        rw [← hnw1115.out] at d1115 row1115 ⊢
        clear hH
        refine hK.out _ _ d1115 (fun hH => ?_)
        clear hK K
        (try simp only [Act.put, List.setIfInBounds_toArray, List.set_cons_zero, List.set_cons_succ])
        have r0 := row1115.c0
        have r1 := row1115.c1
        have r2 := row1115.c2
        have r3 := row1115.c3
        have f0 := row1115.fr 0
        have f1 := row1115.fr 1
        have f2 := row1115.fr 2
        have f3 := row1115.fr 3
        have hPl := hPL
        have dS := hH.set4 hPl (.int .i64 h) (.int .i64 x) (.int .i64 y) (.int .i64 z)
        have dR := row1115.set h x y z
        refine callH (i := 13) { dst := none, op := Go.Op.store 30 (Go.Operand.tmp 18) (Go.Operand.tmp 86), type := 0, pos := "law.go:89", after := #[{ on := 12, ground := Go.Ground.data }, { on := 9, ground := Go.Ground.data }, { on := 7, ground := Go.Ground.chain }, { on := 0, ground := Go.Ground.phase }, { on := 1, ground := Go.Ground.phase }, { on := 2, ground := Go.Ground.phase }, { on := 3, ground := Go.Ground.phase }, { on := 4, ground := Go.Ground.phase }, { on := 5, ground := Go.Ground.phase }, { on := 6, ground := Go.Ground.phase }, { on := 7, ground := Go.Ground.phase }, { on := 8, ground := Go.Ground.phase }, { on := 9, ground := Go.Ground.phase }, { on := 10, ground := Go.Ground.textOnly Go.Departure.lateStores }, { on := 11, ground := Go.Ground.textOnly Go.Departure.lateStores }, { on := 12, ground := Go.Ground.phase }], guard := none } (by kernel_rfl) rfl rfl (fun K hK => ?_)
        go_simp
        clear hH
        refine hK.out _ _ dS (fun hH => ?_)
        clear hK K
        (try simp only [Act.put, List.setIfInBounds_toArray, List.set_cons_zero, List.set_cons_succ])
        refine takeH (i := 14) (dst := some 19) (v := ?v1116) rfl rfl (by kernel_rfl) (by kernel_rfl) (by kernel_rfl) (fun _ _ _ h => h) rfl ?hy1116 hH rfl ?rest1116
        case hy1116 => (intro W hW; have l0 := hW.l.c0; have l1 := hW.l.c1; clear hW; go_simp; try with_reducible rfl)
        (try simp only [Act.put, List.setIfInBounds_toArray, List.set_cons_zero, List.set_cons_succ])
        refine takeH (i := 15) (dst := some 20) (v := ?v1117) rfl rfl (by kernel_rfl) (by kernel_rfl) (by kernel_rfl) (fun _ _ _ h => h) rfl ?hy1117 hH rfl ?rest1117
        case hy1117 => (intro W hW; have l0 := hW.l.c0; have l1 := hW.l.c1; clear hW; go_simp; try with_reducible rfl)
        (try simp only [Act.put, List.setIfInBounds_toArray, List.set_cons_zero, List.set_cons_succ])
        refine wpAnyH_done (by kernel_rfl) ?_ _
        go_wp2_with fail
        go_meet
        case rel => exact ⟨_, rfl, rfl, rfl, dS, dR⟩
      · go_simp
        have al1118 : Below v2.drew.heap.size v2.drew (v2.drew.alloc (.cells #[.int .i64 0, .int .i64 0, .int .i64 0, .int .i64 0] 30)) := (Below.refl _ _).alloc (Nat.le_refl _) _
        have hPL := hH.lt
        have d1118 := hH.up al1118
        have row1118 : Row4 (v2.drew.alloc (.cells #[.int .i64 0, .int .i64 0, .int .i64 0, .int .i64 0] 30)) v2.heap.size 30 0 0 0 0 := by have h9 := heap_alloc_new v2.drew (.cells #[.int .i64 0, .int .i64 0, .int .i64 0, .int .i64 0] 30); rw [hsz0] at h9; exact h9
        rw [hsz0] at hPL
        clear hH
        refine hK.out _ _ d1118 (fun hH => ?_)
        clear hK K
        (try simp only [Act.put, List.setIfInBounds_toArray, List.set_cons_zero, List.set_cons_succ])
        refine callH (i := 7) { dst := some 85, op := Go.Op.call { callee := Go.Callee.value (Go.Operand.func 16), args := #[Go.Operand.tmp 80, Go.Operand.tmp 83, Go.Operand.tmp 84], argTypes := #[26, 26, 3] }, type := 42, pos := "law.go:89", after := #[{ on := 2, ground := Go.Ground.data }, { on := 5, ground := Go.Ground.data }, { on := 6, ground := Go.Ground.data }], guard := none } (by kernel_rfl) rfl rfl (fun K hK => ?_)
        go_simp
        refine (CH _ hH).mono ?_
        rintro e v1119 ⟨rfl, b1119⟩
        have d1119 := hH.up b1119
        have row1119 := row1118.up b1119
        clear hH
        refine hK.out _ _ d1119 (fun hH => ?_)
        clear hK K
        (try simp only [Act.put, List.setIfInBounds_toArray, List.set_cons_zero, List.set_cons_succ])
        refine takeH (i := 8) (dst := some 77) (v := ?v1120) rfl rfl (by kernel_rfl) (by kernel_rfl) (by kernel_rfl) (fun _ _ _ h => h) rfl ?hy1120 hH rfl ?rest1120
        case hy1120 => (intro W hW; have l0 := hW.l.c0; have l1 := hW.l.c1; clear hW; go_simp; try with_reducible rfl)
        (try simp only [Act.put, List.setIfInBounds_toArray, List.set_cons_zero, List.set_cons_succ])
        refine takeH (i := 9) (dst := some 86) (v := ?v1121) rfl rfl (by kernel_rfl) (by kernel_rfl) (by kernel_rfl) (fun _ _ _ h => h) rfl ?hy1121 hH rfl ?rest1121
        case hy1121 => (intro W hW; have l0 := hW.l.c0; have l1 := hW.l.c1; clear hW; go_simp; try with_reducible rfl)
        (try simp only [Act.put, List.setIfInBounds_toArray, List.set_cons_zero, List.set_cons_succ])
        refine takeH (i := 10) (dst := some 87) (v := ?v1122) rfl rfl (by kernel_rfl) (by kernel_rfl) (by kernel_rfl) (fun _ _ _ h => h) rfl ?hy1122 hH rfl ?rest1122
        case hy1122 => (intro W hW; have l0 := hW.l.c0; have l1 := hW.l.c1; clear hW; go_simp; try with_reducible rfl)
        (try simp only [Act.put, List.setIfInBounds_toArray, List.set_cons_zero, List.set_cons_succ])
        refine takeH (i := 11) (dst := some 88) (v := ?v1123) rfl rfl (by kernel_rfl) (by kernel_rfl) (by kernel_rfl) (fun _ _ _ h => h) rfl ?hy1123 hH rfl ?rest1123
        case hy1123 => (intro W hW; have l0 := hW.l.c0; have l1 := hW.l.c1; clear hW; go_simp; try with_reducible rfl)
        (try simp only [Act.put, List.setIfInBounds_toArray, List.set_cons_zero, List.set_cons_succ])
        have r0 := row1119.c0
        have r1 := row1119.c1
        have r2 := row1119.c2
        have r3 := row1119.c3
        have f0 := row1119.fr 0
        have f1 := row1119.fr 1
        have f2 := row1119.fr 2
        have f3 := row1119.fr 3
        have hPl := hPL
        have dS := hH.set4 hPl (.int .i64 h) (.int .i64 x) (.int .i64 y) (.int .i64 z)
        have dR := row1119.set h x y z
        refine callH (i := 13) { dst := none, op := Go.Op.store 30 (Go.Operand.tmp 18) (Go.Operand.tmp 86), type := 0, pos := "law.go:89", after := #[{ on := 12, ground := Go.Ground.data }, { on := 9, ground := Go.Ground.data }, { on := 7, ground := Go.Ground.chain }, { on := 0, ground := Go.Ground.phase }, { on := 1, ground := Go.Ground.phase }, { on := 2, ground := Go.Ground.phase }, { on := 3, ground := Go.Ground.phase }, { on := 4, ground := Go.Ground.phase }, { on := 5, ground := Go.Ground.phase }, { on := 6, ground := Go.Ground.phase }, { on := 7, ground := Go.Ground.phase }, { on := 8, ground := Go.Ground.phase }, { on := 9, ground := Go.Ground.phase }, { on := 10, ground := Go.Ground.textOnly Go.Departure.lateStores }, { on := 11, ground := Go.Ground.textOnly Go.Departure.lateStores }, { on := 12, ground := Go.Ground.phase }], guard := none } (by kernel_rfl) rfl rfl (fun K hK => ?_)
        go_simp
        clear hH
        refine hK.out _ _ dS (fun hH => ?_)
        clear hK K
        (try simp only [Act.put, List.setIfInBounds_toArray, List.set_cons_zero, List.set_cons_succ])
        refine takeH (i := 14) (dst := some 19) (v := ?v1124) rfl rfl (by kernel_rfl) (by kernel_rfl) (by kernel_rfl) (fun _ _ _ h => h) rfl ?hy1124 hH rfl ?rest1124
        case hy1124 => (intro W hW; have l0 := hW.l.c0; have l1 := hW.l.c1; clear hW; go_simp; try with_reducible rfl)
        (try simp only [Act.put, List.setIfInBounds_toArray, List.set_cons_zero, List.set_cons_succ])
        refine takeH (i := 15) (dst := some 20) (v := ?v1125) rfl rfl (by kernel_rfl) (by kernel_rfl) (by kernel_rfl) (fun _ _ _ h => h) rfl ?hy1125 hH rfl ?rest1125
        case hy1125 => (intro W hW; have l0 := hW.l.c0; have l1 := hW.l.c1; clear hW; go_simp; try with_reducible rfl)
        (try simp only [Act.put, List.setIfInBounds_toArray, List.set_cons_zero, List.set_cons_succ])
        refine wpAnyH_done (by kernel_rfl) ?_ _
        go_wp2_with fail
        go_meet
        case rel => exact ⟨_, rfl, rfl, rfl, dS, dR⟩
    case rest =>
      clear hd2 hsz0 CH
      obtain ⟨Q, rfl, rfl, rfl, hB, hQ⟩ := hcut
      have hv0 := hB.t.c0
      have hv1 := hB.t.c1
      have hv2 := hB.t.c2
      have hv3 := hB.t.c3
      have hu0 := hQ.c0
      have hu1 := hQ.c1
      have hu2 := hQ.c2
      have hu3 := hQ.c3
      have HB : Hid (Big w g a i n h x y z P L E G (putL h x y z) (putL g a i n) wc) := hB
      have CN := count_any k 256 wc hk (by omega) (by omega)
      clear hB hQ
      go_wp2_with fail
      refine CN.mono ?_
      rintro e w8 ⟨m, rfl, hm, h8⟩
      rw [h8]
      clear CN h8 w8 hv0 hv1 hv2 hv3 hu0 hu1 hu2 hu3
      have hm' : m < (putL h x y z).length := by rw [putL_length]; omega
      have hcell : wc.cell? ⟨E, m, none⟩ = some (.int .u8 (nth (putL h x y z) m)) := (HB.out.a.cell m hm').trans (by rw [bv_nth])
      have hfro := HB.out.a.frozen m
      have hm0 : (0 : Int) ≤ m := by omega
      by_cases hc : (putL h x y z)[m] = c
      · have hv : nth (putL h x y z) m = (c.toNat : Int) := by rw [← hc]; simp [nth, hm']
        rw [hv] at hcell
        have KN := sknown_any wc (ht.below HB.out.two.b hw0)
        clear hv hc hm'
        go_wp2_with fail
        refine KN.mono ?_
        rintro e w9 ⟨rfl, hb9⟩
        go_wp2
        go_ret
        exact ⟨rfl, HB.out.two.b.trans (hb9.mono HB.out.two.b.size)⟩
      · have hv : nth (putL h x y z) m ≠ (c.toNat : Int) := by
          intro h9; apply hc; apply UInt8.toNat_inj.1
          have h2 : nth (putL h x y z) m = (((putL h x y z)[m]).toNat : Int) := by simp [nth, hm']
          rw [h2] at h9; omega
        have hv1 : (nth (putL h x y z) m == (c.toNat : Int)) = false := beq_eq_false_iff_ne.2 hv
        have hB3 := HB.out.putA (by omega) (by omega) (by omega) (by omega) m c
        have hE := put_turned h x y z m c (by omega) hc
        have hE0 : getE ((putL h x y z).set m c) ≠ 0 := by rcases hE with h9 | h9 <;> rw [h9] <;> omega
        have hlen : ((putL h x y z).set m c).length = 256 := by rw [List.length_set, putL_length]
        have hS1 : 0 ≤ S1 := by have := (okS_iff.1 hok2).2.2.prod; rw [HS1.out]; omega
        generalize nth (putL h x y z) m = N at *
        generalize (putL h x y z).set m c = LE at *
        have CH : ∀ W, Big w g a i n h x y z P L E G LE (putL g a i n) W → Calls Tryd.prog 16 #[.slice (some ⟨E, 0, none⟩) 256 256, .slice (some ⟨G, 0, none⟩) 256 256, .int .i64 (S1 + S2)] W fun e w' => e = .returned (.tuple #[.agg #[.int .i64 (g : Int), .int .i64 (a : Int), .int .i64 (i : Int), .int .i64 (n : Int)], .int .i64 1, .int .i64 0]) ∧ Below W.heap.size W w' := fun W H =>
          H.chooses ht hlen (putL_length _ _ _ _) _ _ _ _ _ (ch_even2 hok hh.out hpar.out hE0 hS1 HS2.out) 1 (by have := hpar.out; have := hh.out; omega) (by have := (okS_iff.1 hok).1; omega)
        clear hE hE0 hlen hS1 hv hc hm'
        obtain ⟨w5, HW5⟩ : ∃ w5, Hid (w5 = wc.setCell ⟨E, m, none⟩ (bv c)) := ⟨_, rfl⟩
        rw [← HW5.out] at hB3
        have hd3 : Big w g a i n h x y z P L E G LE (putL g a i n) w5.drew := hB3.up (Below.refl _ _).drew
        have HD3 : Hid _ := hd3
        have hsz0 : w5.drew.heap.size = w5.heap.size := rfl
        clear hB3 hd3 HB
        go_upto_region 19 with fail
        rw [show wc.setCell ⟨E, m, none⟩ (.int .u8 (c.toNat : Int)) = w5 from HW5.out.symm]
        clear hcell hfro HW5 hv1
        go_cut [22, 23, 24] from 119 (fun s22 s23 s24 wc => ∃ Q, s22 = .pointer (some ⟨Q, 0, none⟩) ∧ s23 = .int .i64 1 ∧ s24 = .int .i64 0 ∧ Big w g a i n h x y z P L E G LE (putL g a i n) wc ∧ Row4 wc Q 30 g a i n)
        case first =>
          refine wp_region_held_drew (S := (fun w' => Big w g a i n h x y z P L E G LE (putL g a i n) w')) (by kernel_rfl) HD3.out (fun hH => ?_)
          refine takeH (i := 0) (dst := some 120) (v := ?v1126) rfl rfl (by kernel_rfl) (by kernel_rfl) (by kernel_rfl) (fun _ _ _ h => h) rfl ?hy1126 hH rfl ?rest1126
          case hy1126 => (intro W hW; have l0 := hW.l.c0; have l1 := hW.l.c1; clear hW; go_simp; try with_reducible rfl)
          (try simp only [Act.put, List.setIfInBounds_toArray, List.set_cons_zero, List.set_cons_succ])
          refine takeH (i := 1) (dst := some 121) (v := ?v1127) rfl rfl (by kernel_rfl) (by kernel_rfl) (by kernel_rfl) (fun _ _ _ h => h) rfl ?hy1127 hH rfl ?rest1127
          case hy1127 => (intro W hW; have l0 := hW.l.c0; have l1 := hW.l.c1; clear hW; go_simp; try with_reducible rfl)
          (try simp only [Act.put, List.setIfInBounds_toArray, List.set_cons_zero, List.set_cons_succ])
          refine takeH (i := 2) (dst := some 122) (v := ?v1128) rfl rfl (by kernel_rfl) (by kernel_rfl) (by kernel_rfl) (fun _ _ _ h => h) rfl ?hy1128 hH rfl ?rest1128
          case hy1128 => (intro W hW; have l0 := hW.l.c0; have l1 := hW.l.c1; clear hW; go_simp; try with_reducible rfl)
          (try simp only [Act.put, List.setIfInBounds_toArray, List.set_cons_zero, List.set_cons_succ])
          refine takeH (i := 3) (dst := some 123) (v := ?v1129) rfl rfl (by kernel_rfl) (by kernel_rfl) (by kernel_rfl) (fun _ _ _ h => h) rfl ?hy1129 hH rfl ?rest1129
          case hy1129 => (intro W hW; have l0 := hW.l.c0; have l1 := hW.l.c1; clear hW; go_simp; try with_reducible rfl)
          (try simp only [Act.put, List.setIfInBounds_toArray, List.set_cons_zero, List.set_cons_succ])
          refine takeH (i := 4) (dst := some 124) (v := ?v1130) rfl rfl (by kernel_rfl) (by kernel_rfl) (by kernel_rfl) (fun _ _ _ h => h) rfl ?hy1130 hH rfl ?rest1130
          case hy1130 => (intro W hW; have l0 := hW.l.c0; have l1 := hW.l.c1; clear hW; go_simp; try with_reducible rfl)
          (try simp only [Act.put, List.setIfInBounds_toArray, List.set_cons_zero, List.set_cons_succ])
          refine takeH (i := 5) (dst := some 125) (v := ?v1131) rfl rfl (by kernel_rfl) (by kernel_rfl) (by kernel_rfl) (fun _ _ _ h => h) rfl ?hy1131 hH rfl ?rest1131
          case hy1131 => (intro W hW; have l0 := hW.l.c0; have l1 := hW.l.c1; clear hW; go_simp; try with_reducible rfl)
          (try simp only [Act.put, List.setIfInBounds_toArray, List.set_cons_zero, List.set_cons_succ])
          refine takeH (i := 6) (dst := some 126) (v := ?v1132) rfl rfl (by kernel_rfl) (by kernel_rfl) (by kernel_rfl) (fun _ _ _ h => h) rfl ?hy1132 hH rfl ?rest1132
          case hy1132 => (intro W hW; have l0 := hW.l.c0; have l1 := hW.l.c1; clear hW; go_simp; try with_reducible rfl)
          (try simp only [Act.put, List.setIfInBounds_toArray, List.set_cons_zero, List.set_cons_succ])
          refine callH2 (i := 7) (j := 12) { dst := some 127, op := Go.Op.call { callee := Go.Callee.value (Go.Operand.func 16), args := #[Go.Operand.tmp 122, Go.Operand.tmp 125, Go.Operand.tmp 126], argTypes := #[26, 26, 3] }, type := 42, pos := "law.go:98", after := #[{ on := 2, ground := Go.Ground.data }, { on := 5, ground := Go.Ground.data }, { on := 6, ground := Go.Ground.data }], guard := none } { dst := some 22, op := Go.Op.alloc 30, type := 0, pos := "law.go:98", after := #[], guard := none } (by kernel_rfl) rfl rfl rfl rfl (fun K hK => ?_) (fun K hK => ?_)
          · go_simp
            refine (CH _ hH).mono ?_
            rintro e v1133 ⟨rfl, b1133⟩
            have d1133 := hH.up b1133
            clear hH
            refine hK.out _ _ d1133 (fun hH => ?_)
            clear hK K
            (try simp only [Act.put, List.setIfInBounds_toArray, List.set_cons_zero, List.set_cons_succ])
            refine takeH (i := 8) (dst := some 119) (v := ?v1134) rfl rfl (by kernel_rfl) (by kernel_rfl) (by kernel_rfl) (fun _ _ _ h => h) rfl ?hy1134 hH rfl ?rest1134
            case hy1134 => (intro W hW; have l0 := hW.l.c0; have l1 := hW.l.c1; clear hW; go_simp; try with_reducible rfl)
            (try simp only [Act.put, List.setIfInBounds_toArray, List.set_cons_zero, List.set_cons_succ])
            refine takeH (i := 9) (dst := some 128) (v := ?v1135) rfl rfl (by kernel_rfl) (by kernel_rfl) (by kernel_rfl) (fun _ _ _ h => h) rfl ?hy1135 hH rfl ?rest1135
            case hy1135 => (intro W hW; have l0 := hW.l.c0; have l1 := hW.l.c1; clear hW; go_simp; try with_reducible rfl)
            (try simp only [Act.put, List.setIfInBounds_toArray, List.set_cons_zero, List.set_cons_succ])
            refine takeH (i := 10) (dst := some 129) (v := ?v1136) rfl rfl (by kernel_rfl) (by kernel_rfl) (by kernel_rfl) (fun _ _ _ h => h) rfl ?hy1136 hH rfl ?rest1136
            case hy1136 => (intro W hW; have l0 := hW.l.c0; have l1 := hW.l.c1; clear hW; go_simp; try with_reducible rfl)
            (try simp only [Act.put, List.setIfInBounds_toArray, List.set_cons_zero, List.set_cons_succ])
            refine takeH (i := 11) (dst := some 130) (v := ?v1137) rfl rfl (by kernel_rfl) (by kernel_rfl) (by kernel_rfl) (fun _ _ _ h => h) rfl ?hy1137 hH rfl ?rest1137
            case hy1137 => (intro W hW; have l0 := hW.l.c0; have l1 := hW.l.c1; clear hW; go_simp; try with_reducible rfl)
            (try simp only [Act.put, List.setIfInBounds_toArray, List.set_cons_zero, List.set_cons_succ])
            refine callH (i := 12) { dst := some 22, op := Go.Op.alloc 30, type := 0, pos := "law.go:98", after := #[], guard := none } (by kernel_rfl) rfl rfl (fun K hK => ?_)
            go_simp
            have al1138 : Below v1133.heap.size v1133 (v1133.alloc (.cells #[.int .i64 0, .int .i64 0, .int .i64 0, .int .i64 0] 30)) := (Below.refl _ _).alloc (Nat.le_refl _) _
            have hPL := hH.lt
            have d1138 := hH.up al1138
            have row1138 : Row4 (v1133.alloc (.cells #[.int .i64 0, .int .i64 0, .int .i64 0, .int .i64 0] 30)) v1133.heap.size 30 0 0 0 0 := heap_alloc_new _ _
            clear al1138
            obtain ⟨nw1138, hnw1138⟩ : ∃ nw, Hid (nw = v1133.alloc (.cells #[.int .i64 0, .int .i64 0, .int .i64 0, .int .i64 0] 30)) := ⟨_, rfl⟩
            rw [← hnw1138.out] at d1138 row1138 ⊢
            clear hH
            refine hK.out _ _ d1138 (fun hH => ?_)
            clear hK K
            (try simp only [Act.put, List.setIfInBounds_toArray, List.set_cons_zero, List.set_cons_succ])
            have r0 := row1138.c0
            have r1 := row1138.c1
            have r2 := row1138.c2
            have r3 := row1138.c3
            have f0 := row1138.fr 0
            have f1 := row1138.fr 1
            have f2 := row1138.fr 2
            have f3 := row1138.fr 3
            have hPl := hPL
            have dS := hH.set4 hPl (.int .i64 g) (.int .i64 a) (.int .i64 i) (.int .i64 n)
            have dR := row1138.set g a i n
            refine callH (i := 13) { dst := none, op := Go.Op.store 30 (Go.Operand.tmp 22) (Go.Operand.tmp 128), type := 0, pos := "law.go:98", after := #[{ on := 12, ground := Go.Ground.data }, { on := 9, ground := Go.Ground.data }, { on := 7, ground := Go.Ground.chain }, { on := 0, ground := Go.Ground.phase }, { on := 1, ground := Go.Ground.phase }, { on := 2, ground := Go.Ground.phase }, { on := 3, ground := Go.Ground.phase }, { on := 4, ground := Go.Ground.phase }, { on := 5, ground := Go.Ground.phase }, { on := 6, ground := Go.Ground.phase }, { on := 7, ground := Go.Ground.phase }, { on := 8, ground := Go.Ground.phase }, { on := 9, ground := Go.Ground.phase }, { on := 10, ground := Go.Ground.textOnly Go.Departure.lateStores }, { on := 11, ground := Go.Ground.textOnly Go.Departure.lateStores }, { on := 12, ground := Go.Ground.phase }], guard := none } (by kernel_rfl) rfl rfl (fun K hK => ?_)
            go_simp
            clear hH
            refine hK.out _ _ dS (fun hH => ?_)
            clear hK K
            (try simp only [Act.put, List.setIfInBounds_toArray, List.set_cons_zero, List.set_cons_succ])
            refine takeH (i := 14) (dst := some 23) (v := ?v1139) rfl rfl (by kernel_rfl) (by kernel_rfl) (by kernel_rfl) (fun _ _ _ h => h) rfl ?hy1139 hH rfl ?rest1139
            case hy1139 => (intro W hW; have l0 := hW.l.c0; have l1 := hW.l.c1; clear hW; go_simp; try with_reducible rfl)
            (try simp only [Act.put, List.setIfInBounds_toArray, List.set_cons_zero, List.set_cons_succ])
            refine takeH (i := 15) (dst := some 24) (v := ?v1140) rfl rfl (by kernel_rfl) (by kernel_rfl) (by kernel_rfl) (fun _ _ _ h => h) rfl ?hy1140 hH rfl ?rest1140
            case hy1140 => (intro W hW; have l0 := hW.l.c0; have l1 := hW.l.c1; clear hW; go_simp; try with_reducible rfl)
            (try simp only [Act.put, List.setIfInBounds_toArray, List.set_cons_zero, List.set_cons_succ])
            refine wpAnyH_done (by kernel_rfl) ?_ _
            go_wp2_with fail
            go_meet
            case rel => exact ⟨_, rfl, rfl, rfl, dS, dR⟩
          · go_simp
            have al1141 : Below w5.drew.heap.size w5.drew (w5.drew.alloc (.cells #[.int .i64 0, .int .i64 0, .int .i64 0, .int .i64 0] 30)) := (Below.refl _ _).alloc (Nat.le_refl _) _
            have hPL := hH.lt
            have d1141 := hH.up al1141
            have row1141 : Row4 (w5.drew.alloc (.cells #[.int .i64 0, .int .i64 0, .int .i64 0, .int .i64 0] 30)) w5.heap.size 30 0 0 0 0 := by have h9 := heap_alloc_new w5.drew (.cells #[.int .i64 0, .int .i64 0, .int .i64 0, .int .i64 0] 30); rw [hsz0] at h9; exact h9
            rw [hsz0] at hPL
            clear hH
            refine hK.out _ _ d1141 (fun hH => ?_)
            clear hK K
            (try simp only [Act.put, List.setIfInBounds_toArray, List.set_cons_zero, List.set_cons_succ])
            refine callH (i := 7) { dst := some 127, op := Go.Op.call { callee := Go.Callee.value (Go.Operand.func 16), args := #[Go.Operand.tmp 122, Go.Operand.tmp 125, Go.Operand.tmp 126], argTypes := #[26, 26, 3] }, type := 42, pos := "law.go:98", after := #[{ on := 2, ground := Go.Ground.data }, { on := 5, ground := Go.Ground.data }, { on := 6, ground := Go.Ground.data }], guard := none } (by kernel_rfl) rfl rfl (fun K hK => ?_)
            go_simp
            refine (CH _ hH).mono ?_
            rintro e v1142 ⟨rfl, b1142⟩
            have d1142 := hH.up b1142
            have row1142 := row1141.up b1142
            clear hH
            refine hK.out _ _ d1142 (fun hH => ?_)
            clear hK K
            (try simp only [Act.put, List.setIfInBounds_toArray, List.set_cons_zero, List.set_cons_succ])
            refine takeH (i := 8) (dst := some 119) (v := ?v1143) rfl rfl (by kernel_rfl) (by kernel_rfl) (by kernel_rfl) (fun _ _ _ h => h) rfl ?hy1143 hH rfl ?rest1143
            case hy1143 => (intro W hW; have l0 := hW.l.c0; have l1 := hW.l.c1; clear hW; go_simp; try with_reducible rfl)
            (try simp only [Act.put, List.setIfInBounds_toArray, List.set_cons_zero, List.set_cons_succ])
            refine takeH (i := 9) (dst := some 128) (v := ?v1144) rfl rfl (by kernel_rfl) (by kernel_rfl) (by kernel_rfl) (fun _ _ _ h => h) rfl ?hy1144 hH rfl ?rest1144
            case hy1144 => (intro W hW; have l0 := hW.l.c0; have l1 := hW.l.c1; clear hW; go_simp; try with_reducible rfl)
            (try simp only [Act.put, List.setIfInBounds_toArray, List.set_cons_zero, List.set_cons_succ])
            refine takeH (i := 10) (dst := some 129) (v := ?v1145) rfl rfl (by kernel_rfl) (by kernel_rfl) (by kernel_rfl) (fun _ _ _ h => h) rfl ?hy1145 hH rfl ?rest1145
            case hy1145 => (intro W hW; have l0 := hW.l.c0; have l1 := hW.l.c1; clear hW; go_simp; try with_reducible rfl)
            (try simp only [Act.put, List.setIfInBounds_toArray, List.set_cons_zero, List.set_cons_succ])
            refine takeH (i := 11) (dst := some 130) (v := ?v1146) rfl rfl (by kernel_rfl) (by kernel_rfl) (by kernel_rfl) (fun _ _ _ h => h) rfl ?hy1146 hH rfl ?rest1146
            case hy1146 => (intro W hW; have l0 := hW.l.c0; have l1 := hW.l.c1; clear hW; go_simp; try with_reducible rfl)
            (try simp only [Act.put, List.setIfInBounds_toArray, List.set_cons_zero, List.set_cons_succ])
            have r0 := row1142.c0
            have r1 := row1142.c1
            have r2 := row1142.c2
            have r3 := row1142.c3
            have f0 := row1142.fr 0
            have f1 := row1142.fr 1
            have f2 := row1142.fr 2
            have f3 := row1142.fr 3
            have hPl := hPL
            have dS := hH.set4 hPl (.int .i64 g) (.int .i64 a) (.int .i64 i) (.int .i64 n)
            have dR := row1142.set g a i n
            refine callH (i := 13) { dst := none, op := Go.Op.store 30 (Go.Operand.tmp 22) (Go.Operand.tmp 128), type := 0, pos := "law.go:98", after := #[{ on := 12, ground := Go.Ground.data }, { on := 9, ground := Go.Ground.data }, { on := 7, ground := Go.Ground.chain }, { on := 0, ground := Go.Ground.phase }, { on := 1, ground := Go.Ground.phase }, { on := 2, ground := Go.Ground.phase }, { on := 3, ground := Go.Ground.phase }, { on := 4, ground := Go.Ground.phase }, { on := 5, ground := Go.Ground.phase }, { on := 6, ground := Go.Ground.phase }, { on := 7, ground := Go.Ground.phase }, { on := 8, ground := Go.Ground.phase }, { on := 9, ground := Go.Ground.phase }, { on := 10, ground := Go.Ground.textOnly Go.Departure.lateStores }, { on := 11, ground := Go.Ground.textOnly Go.Departure.lateStores }, { on := 12, ground := Go.Ground.phase }], guard := none } (by kernel_rfl) rfl rfl (fun K hK => ?_)
            go_simp
            clear hH
            refine hK.out _ _ dS (fun hH => ?_)
            clear hK K
            (try simp only [Act.put, List.setIfInBounds_toArray, List.set_cons_zero, List.set_cons_succ])
            refine takeH (i := 14) (dst := some 23) (v := ?v1147) rfl rfl (by kernel_rfl) (by kernel_rfl) (by kernel_rfl) (fun _ _ _ h => h) rfl ?hy1147 hH rfl ?rest1147
            case hy1147 => (intro W hW; have l0 := hW.l.c0; have l1 := hW.l.c1; clear hW; go_simp; try with_reducible rfl)
            (try simp only [Act.put, List.setIfInBounds_toArray, List.set_cons_zero, List.set_cons_succ])
            refine takeH (i := 15) (dst := some 24) (v := ?v1148) rfl rfl (by kernel_rfl) (by kernel_rfl) (by kernel_rfl) (fun _ _ _ h => h) rfl ?hy1148 hH rfl ?rest1148
            case hy1148 => (intro W hW; have l0 := hW.l.c0; have l1 := hW.l.c1; clear hW; go_simp; try with_reducible rfl)
            (try simp only [Act.put, List.setIfInBounds_toArray, List.set_cons_zero, List.set_cons_succ])
            refine wpAnyH_done (by kernel_rfl) ?_ _
            go_wp2_with fail
            go_meet
            case rel => exact ⟨_, rfl, rfl, rfl, dS, dR⟩
        case rest =>
          clear HD3 hsz0 CH
          obtain ⟨Q2, rfl, rfl, rfl, hB, hQ⟩ := hcut
          have TK := taken_any g a i n
          have hd4 : Big w g a i n h x y z P L E G LE (putL g a i n) wc.drew ∧ Row4 wc.drew Q2 30 g a i n := ⟨hB.up (Below.refl _ _).drew, hQ⟩
          clear hB hQ
          go_wp2_with fail
          refine wp_region_held_drew (S := (fun w' => Big w g a i n h x y z P L E G LE (putL g a i n) w' ∧ Row4 w' Q2 30 g a i n)) (by kernel_rfl) hd4 (fun hH => ?_)
          refine takeH (i := 0) (dst := some 131) (v := ?v27) rfl rfl (by kernel_rfl) (by kernel_rfl) (by kernel_rfl) (fun _ _ _ h => h) rfl ?hy27 hH rfl ?rest27
          case hy27 => (intro W hW; have q0 := hW.1.two.s.c0; have q1 := hW.1.two.s.c1; have q2 := hW.1.two.s.c2; have q3 := hW.1.two.s.c3; have u0 := hW.2.c0; have u1 := hW.2.c1; have u2 := hW.2.c2; have u3 := hW.2.c3; clear hW; go_simp; try with_reducible rfl)
          (try simp only [Act.put, List.setIfInBounds_toArray, List.set_cons_zero, List.set_cons_succ])
          refine takeH (i := 2) (dst := some 133) (v := ?v28) rfl rfl (by kernel_rfl) (by kernel_rfl) (by kernel_rfl) (fun _ _ _ h => h) rfl ?hy28 hH rfl ?rest28
          case hy28 => (intro W hW; have q0 := hW.1.two.s.c0; have q1 := hW.1.two.s.c1; have q2 := hW.1.two.s.c2; have q3 := hW.1.two.s.c3; have u0 := hW.2.c0; have u1 := hW.2.c1; have u2 := hW.2.c2; have u3 := hW.2.c3; clear hW; go_simp; try with_reducible rfl)
          (try simp only [Act.put, List.setIfInBounds_toArray, List.set_cons_zero, List.set_cons_succ])
          refine callH (i := 1) { dst := some 132, op := Go.Op.call { callee := Go.Callee.value (Go.Operand.func 13), args := #[Go.Operand.tmp 131], argTypes := #[30] }, type := 25, pos := "law.go:99", after := #[{ on := 0, ground := Go.Ground.data }], guard := none } (by kernel_rfl) rfl rfl (fun K hK => ?_)
          go_simp
          refine (TK _).mono ?_
          rintro e v1 ⟨rfl, b1⟩
          have d1 := And.intro (hH.1.up b1) (hH.2.up b1)
          clear hH
          refine hK.out _ _ d1 (fun hH => ?_)
          clear hK K
          (try simp only [Act.put, List.setIfInBounds_toArray, List.set_cons_zero, List.set_cons_succ])
          refine takeH (i := 3) (dst := some 134) (v := ?v29) rfl rfl (by kernel_rfl) (by kernel_rfl) (by kernel_rfl) (fun _ _ _ h => h) rfl ?hy29 hH rfl ?rest29
          case hy29 => (intro W hW; have q0 := hW.1.two.s.c0; have q1 := hW.1.two.s.c1; have q2 := hW.1.two.s.c2; have q3 := hW.1.two.s.c3; have u0 := hW.2.c0; have u1 := hW.2.c1; have u2 := hW.2.c2; have u3 := hW.2.c3; clear hW; go_simp; try with_reducible rfl)
          (try simp only [Act.put, List.setIfInBounds_toArray, List.set_cons_zero, List.set_cons_succ])
          refine takeH (i := 4) (dst := some 135) (v := ?v30) rfl rfl (by kernel_rfl) (by kernel_rfl) (by kernel_rfl) (fun _ _ _ h => h) rfl ?hy30 hH rfl ?rest30
          case hy30 => (intro W hW; have q0 := hW.1.two.s.c0; have q1 := hW.1.two.s.c1; have q2 := hW.1.two.s.c2; have q3 := hW.1.two.s.c3; have u0 := hW.2.c0; have u1 := hW.2.c1; have u2 := hW.2.c2; have u3 := hW.2.c3; clear hW; go_simp; try with_reducible rfl)
          (try simp only [Act.put, List.setIfInBounds_toArray, List.set_cons_zero, List.set_cons_succ])
          refine takeH (i := 5) (dst := some 136) (v := ?v31) rfl rfl (by kernel_rfl) (by kernel_rfl) (by kernel_rfl) (fun _ _ _ h => h) rfl ?hy31 hH rfl ?rest31
          case hy31 => (intro W hW; have q0 := hW.1.two.s.c0; have q1 := hW.1.two.s.c1; have q2 := hW.1.two.s.c2; have q3 := hW.1.two.s.c3; have u0 := hW.2.c0; have u1 := hW.2.c1; have u2 := hW.2.c2; have u3 := hW.2.c3; clear hW; go_simp; try with_reducible rfl)
          (try simp only [Act.put, List.setIfInBounds_toArray, List.set_cons_zero, List.set_cons_succ])
          refine takeH (i := 6) (dst := some 137) (v := ?v32) rfl rfl (by kernel_rfl) (by kernel_rfl) (by kernel_rfl) (fun _ _ _ h => h) rfl ?hy32 hH rfl ?rest32
          case hy32 => (intro W hW; have q0 := hW.1.two.s.c0; have q1 := hW.1.two.s.c1; have q2 := hW.1.two.s.c2; have q3 := hW.1.two.s.c3; have u0 := hW.2.c0; have u1 := hW.2.c1; have u2 := hW.2.c2; have u3 := hW.2.c3; clear hW; go_simp; try with_reducible rfl)
          (try simp only [Act.put, List.setIfInBounds_toArray, List.set_cons_zero, List.set_cons_succ])
          refine takeH (i := 7) (dst := some 138) (v := ?v33) rfl rfl (by kernel_rfl) (by kernel_rfl) (by kernel_rfl) (fun _ _ _ h => h) rfl ?hy33 hH rfl ?rest33
          case hy33 => (intro W hW; have q0 := hW.1.two.s.c0; have q1 := hW.1.two.s.c1; have q2 := hW.1.two.s.c2; have q3 := hW.1.two.s.c3; have u0 := hW.2.c0; have u1 := hW.2.c1; have u2 := hW.2.c2; have u3 := hW.2.c3; clear hW; go_simp; try with_reducible rfl)
          (try simp only [Act.put, List.setIfInBounds_toArray, List.set_cons_zero, List.set_cons_succ])
          refine takeH (i := 8) (dst := some 139) (v := ?v34) rfl rfl (by kernel_rfl) (by kernel_rfl) (by kernel_rfl) (fun _ _ _ h => h) rfl ?hy34 hH rfl ?rest34
          case hy34 => (intro W hW; have q0 := hW.1.two.s.c0; have q1 := hW.1.two.s.c1; have q2 := hW.1.two.s.c2; have q3 := hW.1.two.s.c3; have u0 := hW.2.c0; have u1 := hW.2.c1; have u2 := hW.2.c2; have u3 := hW.2.c3; clear hW; go_simp; try with_reducible rfl)
          (try simp only [Act.put, List.setIfInBounds_toArray, List.set_cons_zero, List.set_cons_succ])
          refine takeH (i := 9) (dst := some 140) (v := ?v35) rfl rfl (by kernel_rfl) (by kernel_rfl) (by kernel_rfl) (fun _ _ _ h => h) rfl ?hy35 hH rfl ?rest35
          case hy35 => (intro W hW; have q0 := hW.1.two.s.c0; have q1 := hW.1.two.s.c1; have q2 := hW.1.two.s.c2; have q3 := hW.1.two.s.c3; have u0 := hW.2.c0; have u1 := hW.2.c1; have u2 := hW.2.c2; have u3 := hW.2.c3; clear hW; go_simp; try with_reducible rfl)
          (try simp only [Act.put, List.setIfInBounds_toArray, List.set_cons_zero, List.set_cons_succ])
          refine takeH (i := 10) (dst := some 141) (v := ?v36) rfl rfl (by kernel_rfl) (by kernel_rfl) (by kernel_rfl) (fun _ _ _ h => h) rfl ?hy36 hH rfl ?rest36
          case hy36 => (intro W hW; have q0 := hW.1.two.s.c0; have q1 := hW.1.two.s.c1; have q2 := hW.1.two.s.c2; have q3 := hW.1.two.s.c3; have u0 := hW.2.c0; have u1 := hW.2.c1; have u2 := hW.2.c2; have u3 := hW.2.c3; clear hW; go_simp; try with_reducible rfl)
          (try simp only [Act.put, List.setIfInBounds_toArray, List.set_cons_zero, List.set_cons_succ])
          refine takeH (i := 11) (dst := some 142) (v := ?v37) rfl rfl (by kernel_rfl) (by kernel_rfl) (by kernel_rfl) (fun _ _ _ h => h) rfl ?hy37 hH rfl ?rest37
          case hy37 => (intro W hW; have q0 := hW.1.two.s.c0; have q1 := hW.1.two.s.c1; have q2 := hW.1.two.s.c2; have q3 := hW.1.two.s.c3; have u0 := hW.2.c0; have u1 := hW.2.c1; have u2 := hW.2.c2; have u3 := hW.2.c3; clear hW; go_simp; try with_reducible rfl)
          (try simp only [Act.put, List.setIfInBounds_toArray, List.set_cons_zero, List.set_cons_succ])
          refine takeH (i := 12) (dst := some 143) (v := ?v38) rfl rfl (by kernel_rfl) (by kernel_rfl) (by kernel_rfl) (fun _ _ _ h => h) rfl ?hy38 hH rfl ?rest38
          case hy38 => (intro W hW; have q0 := hW.1.two.s.c0; have q1 := hW.1.two.s.c1; have q2 := hW.1.two.s.c2; have q3 := hW.1.two.s.c3; have u0 := hW.2.c0; have u1 := hW.2.c1; have u2 := hW.2.c2; have u3 := hW.2.c3; clear hW; go_simp; try with_reducible rfl)
          (try simp only [Act.put, List.setIfInBounds_toArray, List.set_cons_zero, List.set_cons_succ])
          refine takeH (i := 13) (dst := some 144) (v := ?v39) rfl rfl (by kernel_rfl) (by kernel_rfl) (by kernel_rfl) (fun _ _ _ h => h) rfl ?hy39 hH rfl ?rest39
          case hy39 => (intro W hW; have q0 := hW.1.two.s.c0; have q1 := hW.1.two.s.c1; have q2 := hW.1.two.s.c2; have q3 := hW.1.two.s.c3; have u0 := hW.2.c0; have u1 := hW.2.c1; have u2 := hW.2.c2; have u3 := hW.2.c3; clear hW; go_simp; try with_reducible rfl)
          (try simp only [Act.put, List.setIfInBounds_toArray, List.set_cons_zero, List.set_cons_succ])
          refine takeH (i := 14) (dst := some 145) (v := ?v40) rfl rfl (by kernel_rfl) (by kernel_rfl) (by kernel_rfl) (fun _ _ _ h => h) rfl ?hy40 hH rfl ?rest40
          case hy40 => (intro W hW; have q0 := hW.1.two.s.c0; have q1 := hW.1.two.s.c1; have q2 := hW.1.two.s.c2; have q3 := hW.1.two.s.c3; have u0 := hW.2.c0; have u1 := hW.2.c1; have u2 := hW.2.c2; have u3 := hW.2.c3; clear hW; go_simp; try with_reducible rfl)
          (try simp only [Act.put, List.setIfInBounds_toArray, List.set_cons_zero, List.set_cons_succ])
          refine callH (i := 15) { dst := some 146, op := Go.Op.call { callee := Go.Callee.value (Go.Operand.func 15), args := #[], argTypes := #[] }, type := 4, pos := "law.go:99", after := #[{ on := 14, ground := Go.Ground.chain }, { on := 14, ground := Go.Ground.guard }], guard := some (14, true) } (by kernel_rfl) rfl rfl (fun K hK => ?_)
          go_simp
          refine (sknown_any _ (ht.below hH.1.two.b hw0)).mono ?_
          rintro e v2 ⟨rfl, b2⟩
          have d2 := And.intro (hH.1.up b2) (hH.2.up b2)
          clear hH
          refine hK.out _ _ d2 (fun hH => ?_)
          clear hK K
          (try simp only [Act.put, List.setIfInBounds_toArray, List.set_cons_zero, List.set_cons_succ])
          refine takeH (i := 16) (dst := some 147) (v := ?v41) rfl rfl (by kernel_rfl) (by kernel_rfl) (by kernel_rfl) (fun _ _ _ h => h) rfl ?hy41 hH rfl ?rest41
          case hy41 => (intro W hW; have q0 := hW.1.two.s.c0; have q1 := hW.1.two.s.c1; have q2 := hW.1.two.s.c2; have q3 := hW.1.two.s.c3; have u0 := hW.2.c0; have u1 := hW.2.c1; have u2 := hW.2.c2; have u3 := hW.2.c3; clear hW; go_simp; try with_reducible rfl)
          (try simp only [Act.put, List.setIfInBounds_toArray, List.set_cons_zero, List.set_cons_succ])
          refine takeH (i := 17) (dst := some 8) (v := ?v42) rfl rfl (by kernel_rfl) (by kernel_rfl) (by kernel_rfl) (fun _ _ _ h => h) rfl ?hy42 hH rfl ?rest42
          case hy42 => (intro W hW; have q0 := hW.1.two.s.c0; have q1 := hW.1.two.s.c1; have q2 := hW.1.two.s.c2; have q3 := hW.1.two.s.c3; have u0 := hW.2.c0; have u1 := hW.2.c1; have u2 := hW.2.c2; have u3 := hW.2.c3; clear hW; go_simp; try with_reducible rfl)
          (try simp only [Act.put, List.setIfInBounds_toArray, List.set_cons_zero, List.set_cons_succ])
          refine wpAnyH_done (by kernel_rfl) ?_ _
          clear hH
          go_wp2
          go_ret
          exact ⟨rfl, d2.1.two.b⟩
theorem nextw_walk (g a i n x y z k : Int) (c : UInt8) (w : World) (ht : Tab w) (hg : -9223372036854775808 ≤ g ∧ g ≤ 9223372036854775807) (hk : -9223372036854775808 ≤ k ∧ k ≤ 9223372036854775807) :
    Calls Tryd.prog 6 #[.agg #[.int .i64 g, .int .i64 a, .int .i64 i, .int .i64 n], .agg #[.int .i64 x, .int .i64 y, .int .i64 z], .int .i64 k, .int .u8 (c.toNat : Int)] w fun e w' => e = .returned (.bool true) ∧ Below w.heap.size w w' := by
  cases hok : okS g a i n
  · exact nextw_bad g a i n x y z k _ w ht (fun W => next_no g a i n x y z W hg hok)
  · cases hok2 : okS (g + 1) x y z
    · exact nextw_bad g a i n x y z k _ w ht (fun W => next_nog g a i n x y z W hok hok2)
    · have NX := fun W => next_ok g a i n x y z W hok hok2
      obtain ⟨h1, h2, h3⟩ := okS_iff.1 hok
      have hb := h3.box
      have hn := (okG_iff.1 h3).2.2.2.2.2.1
      obtain ⟨_, _, h6⟩ := okS_iff.1 hok2
      have hb2 := h6.box
      have hn2 := (okG_iff.1 h6).2.2.2.2.2.1
      obtain ⟨g', rfl⟩ := Int.eq_ofNat_of_zero_le (show 0 ≤ g by omega)
      obtain ⟨a', rfl⟩ := Int.eq_ofNat_of_zero_le (show 0 ≤ a by omega)
      obtain ⟨i', rfl⟩ := Int.eq_ofNat_of_zero_le (show 0 ≤ i by omega)
      obtain ⟨n', rfl⟩ := Int.eq_ofNat_of_zero_le (show 0 ≤ n by omega)
      obtain ⟨x', rfl⟩ := Int.eq_ofNat_of_zero_le (show 0 ≤ x by omega)
      obtain ⟨y', rfl⟩ := Int.eq_ofNat_of_zero_le (show 0 ≤ y by omega)
      obtain ⟨z', rfl⟩ := Int.eq_ofNat_of_zero_le (show 0 ≤ z by omega)
      have e1 : ((g' : Int) + 1) = ((g' + 1 : Nat) : Int) := by omega
      rw [e1] at hok2 NX
      rcases Nat.mod_two_eq_zero_or_one (g' + 1) with hp | hp
      · rw [show (((g' + 1 : Nat) : Int) % 2) = 0 by omega] at NX
        exact nextw_even g' a' i' n' (g' + 1) x' y' z' k c w ht hk hok hok2 rfl hp NX
      · rw [show (((g' + 1 : Nat) : Int) % 2) = 1 by omega] at NX
        exact nextw_odd g' a' i' n' (g' + 1) x' y' z' k c w ht hk hok hok2 rfl hp NX
end Go.Proofs.YtjdfkbpadhndlaaDoor
