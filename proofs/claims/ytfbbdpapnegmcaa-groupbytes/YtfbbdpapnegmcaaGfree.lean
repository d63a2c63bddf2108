/- group.Free, FindBlock, FindSlot. -/
import Derived.Test.YtfbbdpapnegmcaaGright
namespace Go.Proofs.Ytfbbdpapnegmcaa
open Go.RowKit
theorem rgB_ok {a i n no : Int} {bl sl : List UInt8} (h : rgB a i n no bl sl = true) : okG a i n ∧ 0 ≤ no ∧ no < n := by
  unfold rgB at h
  simp only [Bool.and_eq_true] at h
  exact numB_ok h.1
/-- How many are free of the first n. -/
def frN (l : List UInt8) (n : Int) : Int := n - (cnt (gb l) n.toNat : Nat)
attribute [local go_sem] wrapI
set_option maxHeartbeats 4000000 in
theorem free_no (a i n no : Int) (bl sl : List UInt8) (hb : bl.length = 16) (hs : sl.length = 8) (hr : rgB a i n no bl sl = false) (w : World) :
    Calls Try.prog 24 #[.agg #[.int .i64 a, .int .i64 i, .int .i64 n], .agg (hA no bl sl)] w fun e w' => e = .returned (.tuple #[.int .i64 0, .int .i64 0]) ∧ Below w.heap.size w w' := by
  have R0 := RW.start w a i n no bl sl hb hs
  have RT := gright_any a i n no bl sl hb hs
  rw [hr] at RT
  have HR : Hid _ := R0
  clear R0 hr
  go_enter Try.func24, Try.ntmps24
  go_wp2_with (first | ((with_reducible show wpList _ _ _ ({ dst := _, op := Op.load 28 _, type := _, pos := _, after := _, guard := _ } :: _) _ _); refine wpList_load_head rfl _ rfl (HR.out.head) rfl ?_))
  refine (RT _).mono ?_
  rintro e w1 ⟨rfl, h1⟩
  have R1 := HR.out.up h1
  go_wp2
  go_ret2
  exact ⟨rfl, R1.geo.2.2.2⟩
set_option maxHeartbeats 4000000 in
theorem free_yes (a i n no : Int) (bl sl : List UInt8) (hb : bl.length = 16) (hs : sl.length = 8) (hr : rgB a i n no bl sl = true) (w : World) :
    Calls Try.prog 24 #[.agg #[.int .i64 a, .int .i64 i, .int .i64 n], .agg (hA no bl sl)] w fun e w' => e = .returned (.tuple #[.int .i64 (frN bl a), .int .i64 (frN sl i)]) ∧ Below w.heap.size w w' := by
  have R0 := RW.start w a i n no bl sl hb hs
  have RT := gright_any a i n no bl sl hb hs
  obtain ⟨hok, _, _⟩ := rgB_ok hr
  have hbx := hok.box
  rw [hr] at RT
  have CB : ∀ W, RW w a i n no bl sl W → Calls Try.prog 46 #[.slice (some ⟨w.heap.size + 1, 1, none⟩) 16 16, .int .i64 a] W fun e w' => e = .returned (.int .i64 (cnt (gb bl) a.toNat : Nat)) ∧ RW w a i n no bl sl w' := by
    intro W hW
    have h := count_any (some ⟨w.heap.size + 1, 1, none⟩) bl 16 a W hW.head.srcB (by omega)
    have e : bnd bl.length a = a.toNat := by have := bnd_of bl.length a; omega
    rw [e, hb] at h
    exact h.mono fun _ _ ⟨h1, d, h2⟩ => ⟨h1, by rw [h2]; exact hW.up (below_drewN (Below.refl _ _) d)⟩
  have CS : ∀ W, RW w a i n no bl sl W → Calls Try.prog 46 #[.slice (some ⟨w.heap.size + 1, 17, none⟩) 8 8, .int .i64 i] W fun e w' => e = .returned (.int .i64 (cnt (gb sl) i.toNat : Nat)) ∧ RW w a i n no bl sl w' := by
    intro W hW
    have h := count_any (some ⟨w.heap.size + 1, 17, none⟩) sl 8 i W hW.head.srcS (by omega)
    have e : bnd sl.length i = i.toNat := by have := bnd_of sl.length i; omega
    rw [e, hs] at h
    exact h.mono fun _ _ ⟨h1, d, h2⟩ => ⟨h1, by rw [h2]; exact hW.up (below_drewN (Below.refl _ _) d)⟩
  have c1 := cnt_le (gb bl) a.toNat
  have c2 := cnt_le (gb sl) i.toNat
  unfold frN
  generalize cnt (gb bl) a.toNat = n1 at *
  generalize cnt (gb sl) i.toNat = n2 at *
  have i1 : In64 (a - (n1 : Nat)) := ⟨by omega⟩
  have i2 : In64 (i - (n2 : Nat)) := ⟨by omega⟩
  have HR : Hid _ := R0
  clear R0 hr hok hbx c1 c2
  go_enter Try.func24, Try.ntmps24
  go_wp2_with (first | ((with_reducible show wpList _ _ _ ({ dst := _, op := Op.load 28 _, type := _, pos := _, after := _, guard := _ } :: _) _ _); refine wpList_load_head rfl _ rfl (HR.out.head) rfl ?_))
  refine (RT _).mono ?_
  rintro e w1 ⟨rfl, h1⟩
  have R1 := HR.out.up h1
  have RD : RW w a i n no bl sl w1.drew := R1.up (Below.refl _ _).drew
  clear R1 h1 HR RT
  go_wp2_with fail
  refine wp_region_held_drew (S := (fun W => RW w a i n no bl sl W)) (by kernel_rfl) RD (fun hH => ?_)
  refine takeH (i := 0) (dst := some 10) (v := ?v1) rfl rfl (by kernel_rfl) (by kernel_rfl) (by kernel_rfl) (fun _ _ _ h => h) rfl ?hy1 hH rfl ?rest1
  case hy1 => (intro W hW; have q0 := hW.geo.1; have q1 := hW.geo.2.1; have q2 := hW.geo.2.2.1; have q3 := hW.head.c0; clear hW; go_simp; try with_reducible rfl)
  (try simp only [Act.put, List.setIfInBounds_toArray, List.set_cons_zero, List.set_cons_succ])
  refine takeH (i := 1) (dst := some 11) (v := ?v2) rfl rfl (by kernel_rfl) (by kernel_rfl) (by kernel_rfl) (fun _ _ _ h => h) rfl ?hy2 hH rfl ?rest2
  case hy2 => (intro W hW; have q0 := hW.geo.1; have q1 := hW.geo.2.1; have q2 := hW.geo.2.2.1; have q3 := hW.head.c0; clear hW; go_simp; try with_reducible rfl)
  (try simp only [Act.put, List.setIfInBounds_toArray, List.set_cons_zero, List.set_cons_succ])
  refine takeH (i := 2) (dst := some 12) (v := ?v3) rfl rfl (by kernel_rfl) (by kernel_rfl) (by kernel_rfl) (fun _ _ _ h => h) rfl ?hy3 hH rfl ?rest3
  case hy3 => (intro W hW; have q0 := hW.geo.1; have q1 := hW.geo.2.1; have q2 := hW.geo.2.2.1; have q3 := hW.head.c0; clear hW; go_simp; try with_reducible rfl)
  (try simp only [Act.put, List.setIfInBounds_toArray, List.set_cons_zero, List.set_cons_succ])
  refine takeH (i := 3) (dst := some 13) (v := ?v4) rfl rfl (by kernel_rfl) (by kernel_rfl) (by kernel_rfl) (fun _ _ _ h => h) rfl ?hy4 hH rfl ?rest4
  case hy4 => (intro W hW; have q0 := hW.geo.1; have q1 := hW.geo.2.1; have q2 := hW.geo.2.2.1; have q3 := hW.head.c0; clear hW; go_simp; try with_reducible rfl)
  (try simp only [Act.put, List.setIfInBounds_toArray, List.set_cons_zero, List.set_cons_succ])
  refine takeH (i := 4) (dst := some 14) (v := ?v5) rfl rfl (by kernel_rfl) (by kernel_rfl) (by kernel_rfl) (fun _ _ _ h => h) rfl ?hy5 hH rfl ?rest5
  case hy5 => (intro W hW; have q0 := hW.geo.1; have q1 := hW.geo.2.1; have q2 := hW.geo.2.2.1; have q3 := hW.head.c0; clear hW; go_simp; try with_reducible rfl)
  (try simp only [Act.put, List.setIfInBounds_toArray, List.set_cons_zero, List.set_cons_succ])
  refine takeH (i := 5) (dst := some 15) (v := ?v6) rfl rfl (by kernel_rfl) (by kernel_rfl) (by kernel_rfl) (fun _ _ _ h => h) rfl ?hy6 hH rfl ?rest6
  case hy6 => (intro W hW; have q0 := hW.geo.1; have q1 := hW.geo.2.1; have q2 := hW.geo.2.2.1; have q3 := hW.head.c0; clear hW; go_simp; try with_reducible rfl)
  (try simp only [Act.put, List.setIfInBounds_toArray, List.set_cons_zero, List.set_cons_succ])
  refine takeH (i := 8) (dst := some 18) (v := ?v7) rfl rfl (by kernel_rfl) (by kernel_rfl) (by kernel_rfl) (fun _ _ _ h => h) rfl ?hy7 hH rfl ?rest7
  case hy7 => (intro W hW; have q0 := hW.geo.1; have q1 := hW.geo.2.1; have q2 := hW.geo.2.2.1; have q3 := hW.head.c0; clear hW; go_simp; try with_reducible rfl)
  (try simp only [Act.put, List.setIfInBounds_toArray, List.set_cons_zero, List.set_cons_succ])
  refine takeH (i := 9) (dst := some 19) (v := ?v8) rfl rfl (by kernel_rfl) (by kernel_rfl) (by kernel_rfl) (fun _ _ _ h => h) rfl ?hy8 hH rfl ?rest8
  case hy8 => (intro W hW; have q0 := hW.geo.1; have q1 := hW.geo.2.1; have q2 := hW.geo.2.2.1; have q3 := hW.head.c0; clear hW; go_simp; try with_reducible rfl)
  (try simp only [Act.put, List.setIfInBounds_toArray, List.set_cons_zero, List.set_cons_succ])
  refine takeH (i := 10) (dst := some 20) (v := ?v9) rfl rfl (by kernel_rfl) (by kernel_rfl) (by kernel_rfl) (fun _ _ _ h => h) rfl ?hy9 hH rfl ?rest9
  case hy9 => (intro W hW; have q0 := hW.geo.1; have q1 := hW.geo.2.1; have q2 := hW.geo.2.2.1; have q3 := hW.head.c0; clear hW; go_simp; try with_reducible rfl)
  (try simp only [Act.put, List.setIfInBounds_toArray, List.set_cons_zero, List.set_cons_succ])
  refine takeH (i := 11) (dst := some 21) (v := ?v10) rfl rfl (by kernel_rfl) (by kernel_rfl) (by kernel_rfl) (fun _ _ _ h => h) rfl ?hy10 hH rfl ?rest10
  case hy10 => (intro W hW; have q0 := hW.geo.1; have q1 := hW.geo.2.1; have q2 := hW.geo.2.2.1; have q3 := hW.head.c0; clear hW; go_simp; try with_reducible rfl)
  (try simp only [Act.put, List.setIfInBounds_toArray, List.set_cons_zero, List.set_cons_succ])
  refine takeH (i := 12) (dst := some 22) (v := ?v11) rfl rfl (by kernel_rfl) (by kernel_rfl) (by kernel_rfl) (fun _ _ _ h => h) rfl ?hy11 hH rfl ?rest11
  case hy11 => (intro W hW; have q0 := hW.geo.1; have q1 := hW.geo.2.1; have q2 := hW.geo.2.2.1; have q3 := hW.head.c0; clear hW; go_simp; try with_reducible rfl)
  (try simp only [Act.put, List.setIfInBounds_toArray, List.set_cons_zero, List.set_cons_succ])
  refine takeH (i := 13) (dst := some 23) (v := ?v12) rfl rfl (by kernel_rfl) (by kernel_rfl) (by kernel_rfl) (fun _ _ _ h => h) rfl ?hy12 hH rfl ?rest12
  case hy12 => (intro W hW; have q0 := hW.geo.1; have q1 := hW.geo.2.1; have q2 := hW.geo.2.2.1; have q3 := hW.head.c0; clear hW; go_simp; try with_reducible rfl)
  (try simp only [Act.put, List.setIfInBounds_toArray, List.set_cons_zero, List.set_cons_succ])
  refine callH (i := 6) { dst := some 16, op := Go.Op.call { callee := Go.Callee.value (Go.Operand.func 46), args := #[Go.Operand.tmp 13, Go.Operand.tmp 15], argTypes := #[24, 3] }, type := 3, pos := "group.go:93", after := #[{ on := 3, ground := Go.Ground.data }, { on := 5, ground := Go.Ground.data }], guard := none } (by kernel_rfl) rfl rfl (fun K hK => ?_)
  go_simp
  refine (CB _ hH).mono ?_
  rintro e v1 ⟨rfl, m1⟩
  clear hH
  refine hK.out _ _ m1 (fun hH => ?_)
  clear hK K
  (try simp only [Act.put, List.setIfInBounds_toArray, List.set_cons_zero, List.set_cons_succ])
  refine takeH (i := 7) (dst := some 17) (v := ?v13) rfl rfl (by kernel_rfl) (by kernel_rfl) (by kernel_rfl) (fun _ _ _ h => h) rfl ?hy13 hH rfl ?rest13
  case hy13 => (intro W hW; have q0 := hW.geo.1; have q1 := hW.geo.2.1; have q2 := hW.geo.2.2.1; have q3 := hW.head.c0; clear hW; go_simp; try with_reducible rfl)
  (try simp only [Act.put, List.setIfInBounds_toArray, List.set_cons_zero, List.set_cons_succ])
  refine callH (i := 14) { dst := some 24, op := Go.Op.call { callee := Go.Callee.value (Go.Operand.func 46), args := #[Go.Operand.tmp 21, Go.Operand.tmp 23], argTypes := #[24, 3] }, type := 3, pos := "group.go:93", after := #[{ on := 11, ground := Go.Ground.data }, { on := 13, ground := Go.Ground.data }, { on := 6, ground := Go.Ground.chain }], guard := none } (by kernel_rfl) rfl rfl (fun K hK => ?_)
  go_simp
  refine (CS _ hH).mono ?_
  rintro e v2 ⟨rfl, m2⟩
  clear hH
  refine hK.out _ _ m2 (fun hH => ?_)
  clear hK K
  (try simp only [Act.put, List.setIfInBounds_toArray, List.set_cons_zero, List.set_cons_succ])
  refine takeH (i := 15) (dst := some 25) (v := ?v14) rfl rfl (by kernel_rfl) (by kernel_rfl) (by kernel_rfl) (fun _ _ _ h => h) rfl ?hy14 hH rfl ?rest14
  case hy14 => (intro W hW; have q0 := hW.geo.1; have q1 := hW.geo.2.1; have q2 := hW.geo.2.2.1; have q3 := hW.head.c0; clear hW; go_simp; try with_reducible rfl)
  (try simp only [Act.put, List.setIfInBounds_toArray, List.set_cons_zero, List.set_cons_succ])
  refine takeH (i := 16) (dst := some 4) (v := ?v15) rfl rfl (by kernel_rfl) (by kernel_rfl) (by kernel_rfl) (fun _ _ _ h => h) rfl ?hy15 hH rfl ?rest15
  case hy15 => (intro W hW; have q0 := hW.geo.1; have q1 := hW.geo.2.1; have q2 := hW.geo.2.2.1; have q3 := hW.head.c0; clear hW; go_simp; try with_reducible rfl)
  (try simp only [Act.put, List.setIfInBounds_toArray, List.set_cons_zero, List.set_cons_succ])
  refine takeH (i := 17) (dst := some 5) (v := ?v16) rfl rfl (by kernel_rfl) (by kernel_rfl) (by kernel_rfl) (fun _ _ _ h => h) rfl ?hy16 hH rfl ?rest16
  case hy16 => (intro W hW; have q0 := hW.geo.1; have q1 := hW.geo.2.1; have q2 := hW.geo.2.2.1; have q3 := hW.head.c0; clear hW; go_simp; try with_reducible rfl)
  (try simp only [Act.put, List.setIfInBounds_toArray, List.set_cons_zero, List.set_cons_succ])
  refine wpAnyH_done (by kernel_rfl) ?_ _
  clear hH
  go_wp2
  go_ret2
  exact ⟨rfl, m2.geo.2.2.2⟩
set_option maxHeartbeats 4000000 in
theorem findBlock_no (a i n no fr : Int) (bl sl : List UInt8) (hb : bl.length = 16) (hs : sl.length = 8) (hr : rgB a i n no bl sl = false) (w : World) :
    Calls Try.prog 26 #[.agg #[.int .i64 a, .int .i64 i, .int .i64 n], .agg (hA no bl sl), .int .i64 fr] w fun e w' => e = .returned (.int .i64 (-1)) ∧ Below w.heap.size w w' := by
  have R0 := RW.start w a i n no bl sl hb hs
  have RT := gright_any a i n no bl sl hb hs
  rw [hr] at RT
  have HR : Hid _ := R0
  clear R0 hr
  go_enter Try.func26, Try.ntmps26
  go_wp2_with (first | ((with_reducible show wpList _ _ _ ({ dst := _, op := Op.load 28 _, type := _, pos := _, after := _, guard := _ } :: _) _ _); refine wpList_load_head rfl _ rfl (HR.out.head) rfl ?_))
  refine (RT _).mono ?_
  rintro e w1 ⟨rfl, h1⟩
  have R1 := HR.out.up h1
  go_wp2
  go_ret
  exact ⟨rfl, R1.geo.2.2.2⟩
set_option maxHeartbeats 4000000 in
theorem findBlock_yes (a i n no fr : Int) (bl sl : List UInt8) (hb : bl.length = 16) (hs : sl.length = 8) (hr : rgB a i n no bl sl = true) (w : World) :
    Calls Try.prog 26 #[.agg #[.int .i64 a, .int .i64 i, .int .i64 n], .agg (hA no bl sl), .int .i64 fr] w fun e w' => (∃ r, e = .returned (.int .i64 r) ∧ IsFirst (gb bl) a.toNat (frz a.toNat fr) r) ∧ Below w.heap.size w w' := by
  have R0 := RW.start w a i n no bl sl hb hs
  have RT := gright_any a i n no bl sl hb hs
  obtain ⟨hok, _, _⟩ := rgB_ok hr
  have hbx := hok.box
  rw [hr] at RT
  have FI : ∀ W, RW w a i n no bl sl W → Calls Try.prog 48 #[.slice (some ⟨w.heap.size + 1, 1, none⟩) 16 16, .int .i64 a, .int .i64 fr] W fun e w' => (∃ r, e = .returned (.int .i64 r) ∧ IsFirst (gb bl) a.toNat (frz a.toNat fr) r) ∧ RW w a i n no bl sl w' := by
    intro W hW
    have h := first_any (some ⟨w.heap.size + 1, 1, none⟩) bl 16 a fr W hW.head.srcB (by omega)
    have e : bnd bl.length a = a.toNat := by have := bnd_of bl.length a; omega
    rw [e, hb] at h
    exact h.mono fun _ _ ⟨h1, d, h2⟩ => ⟨h1, by rw [h2]; exact hW.up (below_drewN (Below.refl _ _) d)⟩
  have HR : Hid _ := R0
  clear R0 hr hok hbx
  go_enter Try.func26, Try.ntmps26
  go_wp2_with (first | ((with_reducible show wpList _ _ _ ({ dst := _, op := Op.load 28 _, type := _, pos := _, after := _, guard := _ } :: _) _ _); refine wpList_load_head rfl _ rfl (HR.out.head) rfl ?_))
  refine (RT _).mono ?_
  rintro e w1 ⟨rfl, h1⟩
  have R1 := HR.out.up h1
  have RD : RW w a i n no bl sl w1.drew := R1.up (Below.refl _ _).drew
  clear R1 h1 HR RT
  go_wp2_with fail
  refine wp_region_held_drew (S := (fun W => RW w a i n no bl sl W)) (by kernel_rfl) RD (fun hH => ?_)
  refine takeH (i := 0) (dst := some 11) (v := ?v17) rfl rfl (by kernel_rfl) (by kernel_rfl) (by kernel_rfl) (fun _ _ _ h => h) rfl ?hy17 hH rfl ?rest17
  case hy17 => (intro W hW; have q0 := hW.geo.1; have q1 := hW.geo.2.1; have q2 := hW.geo.2.2.1; have q3 := hW.head.c0; clear hW; go_simp; try with_reducible rfl)
  (try simp only [Act.put, List.setIfInBounds_toArray, List.set_cons_zero, List.set_cons_succ])
  refine takeH (i := 1) (dst := some 12) (v := ?v18) rfl rfl (by kernel_rfl) (by kernel_rfl) (by kernel_rfl) (fun _ _ _ h => h) rfl ?hy18 hH rfl ?rest18
  case hy18 => (intro W hW; have q0 := hW.geo.1; have q1 := hW.geo.2.1; have q2 := hW.geo.2.2.1; have q3 := hW.head.c0; clear hW; go_simp; try with_reducible rfl)
  (try simp only [Act.put, List.setIfInBounds_toArray, List.set_cons_zero, List.set_cons_succ])
  refine takeH (i := 2) (dst := some 13) (v := ?v19) rfl rfl (by kernel_rfl) (by kernel_rfl) (by kernel_rfl) (fun _ _ _ h => h) rfl ?hy19 hH rfl ?rest19
  case hy19 => (intro W hW; have q0 := hW.geo.1; have q1 := hW.geo.2.1; have q2 := hW.geo.2.2.1; have q3 := hW.head.c0; clear hW; go_simp; try with_reducible rfl)
  (try simp only [Act.put, List.setIfInBounds_toArray, List.set_cons_zero, List.set_cons_succ])
  refine takeH (i := 3) (dst := some 14) (v := ?v20) rfl rfl (by kernel_rfl) (by kernel_rfl) (by kernel_rfl) (fun _ _ _ h => h) rfl ?hy20 hH rfl ?rest20
  case hy20 => (intro W hW; have q0 := hW.geo.1; have q1 := hW.geo.2.1; have q2 := hW.geo.2.2.1; have q3 := hW.head.c0; clear hW; go_simp; try with_reducible rfl)
  (try simp only [Act.put, List.setIfInBounds_toArray, List.set_cons_zero, List.set_cons_succ])
  refine takeH (i := 4) (dst := some 15) (v := ?v21) rfl rfl (by kernel_rfl) (by kernel_rfl) (by kernel_rfl) (fun _ _ _ h => h) rfl ?hy21 hH rfl ?rest21
  case hy21 => (intro W hW; have q0 := hW.geo.1; have q1 := hW.geo.2.1; have q2 := hW.geo.2.2.1; have q3 := hW.head.c0; clear hW; go_simp; try with_reducible rfl)
  (try simp only [Act.put, List.setIfInBounds_toArray, List.set_cons_zero, List.set_cons_succ])
  refine callH (i := 5) { dst := some 16, op := Go.Op.call { callee := Go.Callee.value (Go.Operand.func 48), args := #[Go.Operand.tmp 12, Go.Operand.tmp 14, Go.Operand.tmp 15], argTypes := #[24, 3, 3] }, type := 3, pos := "group.go:180", after := #[{ on := 1, ground := Go.Ground.data }, { on := 3, ground := Go.Ground.data }, { on := 4, ground := Go.Ground.data }], guard := none } (by kernel_rfl) rfl rfl (fun K hK => ?_)
  go_simp
  refine (FI _ hH).mono ?_
  rintro e v1 ⟨⟨r, rfl, hx⟩, m1⟩
  have HX : Hid _ := hx
  clear hx
  clear hH
  refine hK.out _ _ m1 (fun hH => ?_)
  clear hK K
  (try simp only [Act.put, List.setIfInBounds_toArray, List.set_cons_zero, List.set_cons_succ])
  refine takeH (i := 6) (dst := some 6) (v := ?v22) rfl rfl (by kernel_rfl) (by kernel_rfl) (by kernel_rfl) (fun _ _ _ h => h) rfl ?hy22 hH rfl ?rest22
  case hy22 => (intro W hW; have q0 := hW.geo.1; have q1 := hW.geo.2.1; have q2 := hW.geo.2.2.1; have q3 := hW.head.c0; clear hW; go_simp; try with_reducible rfl)
  (try simp only [Act.put, List.setIfInBounds_toArray, List.set_cons_zero, List.set_cons_succ])
  refine wpAnyH_done (by kernel_rfl) ?_ _
  clear hH
  go_wp2
  go_ret
  exact ⟨⟨r, rfl, HX.out⟩, m1.geo.2.2.2⟩
set_option maxHeartbeats 4000000 in
theorem findSlot_no (a i n no fr : Int) (bl sl : List UInt8) (hb : bl.length = 16) (hs : sl.length = 8) (hr : rgB a i n no bl sl = false) (w : World) :
    Calls Try.prog 28 #[.agg #[.int .i64 a, .int .i64 i, .int .i64 n], .agg (hA no bl sl), .int .i64 fr] w fun e w' => e = .returned (.int .i64 (-1)) ∧ Below w.heap.size w w' := by
  have R0 := RW.start w a i n no bl sl hb hs
  have RT := gright_any a i n no bl sl hb hs
  rw [hr] at RT
  have HR : Hid _ := R0
  clear R0 hr
  go_enter Try.func28, Try.ntmps28
  go_wp2_with (first | ((with_reducible show wpList _ _ _ ({ dst := _, op := Op.load 28 _, type := _, pos := _, after := _, guard := _ } :: _) _ _); refine wpList_load_head rfl _ rfl (HR.out.head) rfl ?_))
  refine (RT _).mono ?_
  rintro e w1 ⟨rfl, h1⟩
  have R1 := HR.out.up h1
  go_wp2
  go_ret
  exact ⟨rfl, R1.geo.2.2.2⟩
set_option maxHeartbeats 4000000 in
theorem findSlot_yes (a i n no fr : Int) (bl sl : List UInt8) (hb : bl.length = 16) (hs : sl.length = 8) (hr : rgB a i n no bl sl = true) (w : World) :
    Calls Try.prog 28 #[.agg #[.int .i64 a, .int .i64 i, .int .i64 n], .agg (hA no bl sl), .int .i64 fr] w fun e w' => (∃ r, e = .returned (.int .i64 r) ∧ IsFirst (gb sl) i.toNat (frz i.toNat fr) r) ∧ Below w.heap.size w w' := by
  have R0 := RW.start w a i n no bl sl hb hs
  have RT := gright_any a i n no bl sl hb hs
  obtain ⟨hok, _, _⟩ := rgB_ok hr
  have hbx := hok.box
  rw [hr] at RT
  have FI : ∀ W, RW w a i n no bl sl W → Calls Try.prog 48 #[.slice (some ⟨w.heap.size + 1, 17, none⟩) 8 8, .int .i64 i, .int .i64 fr] W fun e w' => (∃ r, e = .returned (.int .i64 r) ∧ IsFirst (gb sl) i.toNat (frz i.toNat fr) r) ∧ RW w a i n no bl sl w' := by
    intro W hW
    have h := first_any (some ⟨w.heap.size + 1, 17, none⟩) sl 8 i fr W hW.head.srcS (by omega)
    have e : bnd sl.length i = i.toNat := by have := bnd_of sl.length i; omega
    rw [e, hs] at h
    exact h.mono fun _ _ ⟨h1, d, h2⟩ => ⟨h1, by rw [h2]; exact hW.up (below_drewN (Below.refl _ _) d)⟩
  have HR : Hid _ := R0
  clear R0 hr hok hbx
  go_enter Try.func28, Try.ntmps28
  go_wp2_with (first | ((with_reducible show wpList _ _ _ ({ dst := _, op := Op.load 28 _, type := _, pos := _, after := _, guard := _ } :: _) _ _); refine wpList_load_head rfl _ rfl (HR.out.head) rfl ?_))
  refine (RT _).mono ?_
  rintro e w1 ⟨rfl, h1⟩
  have R1 := HR.out.up h1
  have RD : RW w a i n no bl sl w1.drew := R1.up (Below.refl _ _).drew
  clear R1 h1 HR RT
  go_wp2_with fail
  refine wp_region_held_drew (S := (fun W => RW w a i n no bl sl W)) (by kernel_rfl) RD (fun hH => ?_)
  refine takeH (i := 0) (dst := some 11) (v := ?v23) rfl rfl (by kernel_rfl) (by kernel_rfl) (by kernel_rfl) (fun _ _ _ h => h) rfl ?hy23 hH rfl ?rest23
  case hy23 => (intro W hW; have q0 := hW.geo.1; have q1 := hW.geo.2.1; have q2 := hW.geo.2.2.1; have q3 := hW.head.c0; clear hW; go_simp; try with_reducible rfl)
  (try simp only [Act.put, List.setIfInBounds_toArray, List.set_cons_zero, List.set_cons_succ])
  refine takeH (i := 1) (dst := some 12) (v := ?v24) rfl rfl (by kernel_rfl) (by kernel_rfl) (by kernel_rfl) (fun _ _ _ h => h) rfl ?hy24 hH rfl ?rest24
  case hy24 => (intro W hW; have q0 := hW.geo.1; have q1 := hW.geo.2.1; have q2 := hW.geo.2.2.1; have q3 := hW.head.c0; clear hW; go_simp; try with_reducible rfl)
  (try simp only [Act.put, List.setIfInBounds_toArray, List.set_cons_zero, List.set_cons_succ])
  refine takeH (i := 2) (dst := some 13) (v := ?v25) rfl rfl (by kernel_rfl) (by kernel_rfl) (by kernel_rfl) (fun _ _ _ h => h) rfl ?hy25 hH rfl ?rest25
  case hy25 => (intro W hW; have q0 := hW.geo.1; have q1 := hW.geo.2.1; have q2 := hW.geo.2.2.1; have q3 := hW.head.c0; clear hW; go_simp; try with_reducible rfl)
  (try simp only [Act.put, List.setIfInBounds_toArray, List.set_cons_zero, List.set_cons_succ])
  refine takeH (i := 3) (dst := some 14) (v := ?v26) rfl rfl (by kernel_rfl) (by kernel_rfl) (by kernel_rfl) (fun _ _ _ h => h) rfl ?hy26 hH rfl ?rest26
  case hy26 => (intro W hW; have q0 := hW.geo.1; have q1 := hW.geo.2.1; have q2 := hW.geo.2.2.1; have q3 := hW.head.c0; clear hW; go_simp; try with_reducible rfl)
  (try simp only [Act.put, List.setIfInBounds_toArray, List.set_cons_zero, List.set_cons_succ])
  refine takeH (i := 4) (dst := some 15) (v := ?v27) rfl rfl (by kernel_rfl) (by kernel_rfl) (by kernel_rfl) (fun _ _ _ h => h) rfl ?hy27 hH rfl ?rest27
  case hy27 => (intro W hW; have q0 := hW.geo.1; have q1 := hW.geo.2.1; have q2 := hW.geo.2.2.1; have q3 := hW.head.c0; clear hW; go_simp; try with_reducible rfl)
  (try simp only [Act.put, List.setIfInBounds_toArray, List.set_cons_zero, List.set_cons_succ])
  refine callH (i := 5) { dst := some 16, op := Go.Op.call { callee := Go.Callee.value (Go.Operand.func 48), args := #[Go.Operand.tmp 12, Go.Operand.tmp 14, Go.Operand.tmp 15], argTypes := #[24, 3, 3] }, type := 3, pos := "group.go:188", after := #[{ on := 1, ground := Go.Ground.data }, { on := 3, ground := Go.Ground.data }, { on := 4, ground := Go.Ground.data }], guard := none } (by kernel_rfl) rfl rfl (fun K hK => ?_)
  go_simp
  refine (FI _ hH).mono ?_
  rintro e v1 ⟨⟨r, rfl, hx⟩, m1⟩
  have HX : Hid _ := hx
  clear hx
  clear hH
  refine hK.out _ _ m1 (fun hH => ?_)
  clear hK K
  (try simp only [Act.put, List.setIfInBounds_toArray, List.set_cons_zero, List.set_cons_succ])
  refine takeH (i := 6) (dst := some 6) (v := ?v28) rfl rfl (by kernel_rfl) (by kernel_rfl) (by kernel_rfl) (fun _ _ _ h => h) rfl ?hy28 hH rfl ?rest28
  case hy28 => (intro W hW; have q0 := hW.geo.1; have q1 := hW.geo.2.1; have q2 := hW.geo.2.2.1; have q3 := hW.head.c0; clear hW; go_simp; try with_reducible rfl)
  (try simp only [Act.put, List.setIfInBounds_toArray, List.set_cons_zero, List.set_cons_succ])
  refine wpAnyH_done (by kernel_rfl) ?_ _
  clear hH
  go_wp2
  go_ret
  exact ⟨⟨r, rfl, HX.out⟩, m1.geo.2.2.2⟩
end Go.Proofs.Ytfbbdpapnegmcaa
