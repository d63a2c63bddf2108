/- leveeref06.Free, FindBlock, FindSlot. -/
import Derived.Test.YtfbbdpapnegmcaaRright
namespace Go.Proofs.Ytfbbdpapnegmcaa
open Go.RowKit
attribute [local go_sem] wrapI
set_option maxHeartbeats 4000000 in
theorem rfree_no (a i n no : Int) (bl sl : List UInt8) (spb sps : Option Addr) (capb caps : Nat) (hb : bl.length = 16) (hs : sl.length = 8) (hr : rgB a i n no bl sl = false) (w : World) (hsb : Src w spb bl) (hss : Src w sps sl) :
    Calls Try.prog 25 #[.agg #[.int .i64 a, .int .i64 i, .int .i64 n], .agg #[.int .i64 no, .slice spb 16 capb, .slice sps 8 caps]] w fun e w' => e = .returned (.tuple #[.int .i64 0, .int .i64 0]) ∧ Below w.heap.size w w' := by
  have X0 := XW.start w a i n (.int .i64 no) (.slice spb 16 capb) (.slice sps 8 caps)
  have HX0 : Hid _ := X0
  have RT := fun W (h : Below w.heap.size w W) => rright6_any a i n no bl sl spb sps capb caps hb hs W (hsb.below h (Nat.le_refl _)) (hss.below h (Nat.le_refl _))
  rw [hr] at RT
  clear X0 hr
  go_enter Try.func25, Try.ntmps25
  go_wp2_with fail
  refine (RT _ HX0.out.geo.2.2.2).mono ?_
  rintro e w1 ⟨rfl, h1⟩
  have HB := (HX0.out.up h1).geo.2.2.2
  go_wp2
  go_ret2
  exact ⟨rfl, HB⟩
set_option maxHeartbeats 4000000 in
theorem rfree_yes (a i n no : Int) (bl sl : List UInt8) (spb sps : Option Addr) (capb caps : Nat) (hb : bl.length = 16) (hs : sl.length = 8) (hr : rgB a i n no bl sl = true) (w : World) (hsb : Src w spb bl) (hss : Src w sps sl) :
    Calls Try.prog 25 #[.agg #[.int .i64 a, .int .i64 i, .int .i64 n], .agg #[.int .i64 no, .slice spb 16 capb, .slice sps 8 caps]] w fun e w' => e = .returned (.tuple #[.int .i64 (frN bl a), .int .i64 (frN sl i)]) ∧ Below w.heap.size w w' := by
  have X0 := XW.start w a i n (.int .i64 no) (.slice spb 16 capb) (.slice sps 8 caps)
  have HX0 : Hid _ := X0
  have RT := fun W (h : Below w.heap.size w W) => rright6_any a i n no bl sl spb sps capb caps hb hs W (hsb.below h (Nat.le_refl _)) (hss.below h (Nat.le_refl _))
  obtain ⟨hok, _, _⟩ := rgB_ok hr
  have hbx := hok.box
  rw [hr] at RT
  have CB : ∀ W, XW w a i n (.int .i64 no) (.slice spb 16 capb) (.slice sps 8 caps) W → Calls Try.prog 47 #[.slice spb 16 capb, .int .i64 a] W fun e w' => e = .returned (.int .i64 (cnt (gb bl) a.toNat : Nat)) ∧ XW w a i n (.int .i64 no) (.slice spb 16 capb) (.slice sps 8 caps) w' := by
    intro W hW
    have h := rcount_any spb bl capb a W (hsb.below hW.geo.2.2.2 (Nat.le_refl _)) (by omega)
    have e : bnd bl.length a = a.toNat := by have := bnd_of bl.length a; omega
    rw [e, hb] at h
    exact h.mono fun _ _ ⟨h1, h2⟩ => ⟨h1, by rw [h2]; exact hW⟩
  have CS : ∀ W, XW w a i n (.int .i64 no) (.slice spb 16 capb) (.slice sps 8 caps) W → Calls Try.prog 47 #[.slice sps 8 caps, .int .i64 i] W fun e w' => e = .returned (.int .i64 (cnt (gb sl) i.toNat : Nat)) ∧ XW w a i n (.int .i64 no) (.slice spb 16 capb) (.slice sps 8 caps) w' := by
    intro W hW
    have h := rcount_any sps sl caps i W (hss.below hW.geo.2.2.2 (Nat.le_refl _)) (by omega)
    have e : bnd sl.length i = i.toNat := by have := bnd_of sl.length i; omega
    rw [e, hs] at h
    exact h.mono fun _ _ ⟨h1, h2⟩ => ⟨h1, by rw [h2]; exact hW⟩
  have c1 := cnt_le (gb bl) a.toNat
  have c2 := cnt_le (gb sl) i.toNat
  unfold frN
  generalize cnt (gb bl) a.toNat = n1 at *
  generalize cnt (gb sl) i.toNat = n2 at *
  have i1 : In64 (a - (n1 : Nat)) := ⟨by omega⟩
  have i2 : In64 (i - (n2 : Nat)) := ⟨by omega⟩
  clear X0 hr hok hbx c1 c2
  go_enter Try.func25, Try.ntmps25
  go_wp2_with fail
  refine (RT _ HX0.out.geo.2.2.2).mono ?_
  rintro e w1 ⟨rfl, h1⟩
  have X1 := HX0.out.up h1
  have RD : XW w a i n (.int .i64 no) (.slice spb 16 capb) (.slice sps 8 caps) w1.drew := X1.up (Below.refl _ _).drew
  clear X1 h1 HX0 RT
  go_wp2_with fail
  refine wp_region_held_drew (S := (fun W => XW w a i n (.int .i64 no) (.slice spb 16 capb) (.slice sps 8 caps) W)) (by kernel_rfl) RD (fun hH => ?_)
  refine takeH (i := 0) (dst := some 10) (v := ?v1) rfl rfl (by kernel_rfl) (by kernel_rfl) (by kernel_rfl) (fun _ _ _ h => h) rfl ?hy1 hH rfl ?rest1
  case hy1 => (intro W hW; have q0 := hW.geo.1; have q1 := hW.geo.2.1; have q2 := hW.geo.2.2.1; have r0 := hW.head.c0; have r1 := hW.head.c1; have r2 := hW.head.c2; clear hW; go_simp; try with_reducible rfl)
  (try simp only [Act.put, List.setIfInBounds_toArray, List.set_cons_zero, List.set_cons_succ])
  refine takeH (i := 1) (dst := some 11) (v := ?v2) rfl rfl (by kernel_rfl) (by kernel_rfl) (by kernel_rfl) (fun _ _ _ h => h) rfl ?hy2 hH rfl ?rest2
  case hy2 => (intro W hW; have q0 := hW.geo.1; have q1 := hW.geo.2.1; have q2 := hW.geo.2.2.1; have r0 := hW.head.c0; have r1 := hW.head.c1; have r2 := hW.head.c2; clear hW; go_simp; try with_reducible rfl)
  (try simp only [Act.put, List.setIfInBounds_toArray, List.set_cons_zero, List.set_cons_succ])
  refine takeH (i := 2) (dst := some 12) (v := ?v3) rfl rfl (by kernel_rfl) (by kernel_rfl) (by kernel_rfl) (fun _ _ _ h => h) rfl ?hy3 hH rfl ?rest3
  case hy3 => (intro W hW; have q0 := hW.geo.1; have q1 := hW.geo.2.1; have q2 := hW.geo.2.2.1; have r0 := hW.head.c0; have r1 := hW.head.c1; have r2 := hW.head.c2; clear hW; go_simp; try with_reducible rfl)
  (try simp only [Act.put, List.setIfInBounds_toArray, List.set_cons_zero, List.set_cons_succ])
  refine takeH (i := 3) (dst := some 13) (v := ?v4) rfl rfl (by kernel_rfl) (by kernel_rfl) (by kernel_rfl) (fun _ _ _ h => h) rfl ?hy4 hH rfl ?rest4
  case hy4 => (intro W hW; have q0 := hW.geo.1; have q1 := hW.geo.2.1; have q2 := hW.geo.2.2.1; have r0 := hW.head.c0; have r1 := hW.head.c1; have r2 := hW.head.c2; clear hW; go_simp; try with_reducible rfl)
  (try simp only [Act.put, List.setIfInBounds_toArray, List.set_cons_zero, List.set_cons_succ])
  refine takeH (i := 4) (dst := some 14) (v := ?v5) rfl rfl (by kernel_rfl) (by kernel_rfl) (by kernel_rfl) (fun _ _ _ h => h) rfl ?hy5 hH rfl ?rest5
  case hy5 => (intro W hW; have q0 := hW.geo.1; have q1 := hW.geo.2.1; have q2 := hW.geo.2.2.1; have r0 := hW.head.c0; have r1 := hW.head.c1; have r2 := hW.head.c2; clear hW; go_simp; try with_reducible rfl)
  (try simp only [Act.put, List.setIfInBounds_toArray, List.set_cons_zero, List.set_cons_succ])
  refine takeH (i := 5) (dst := some 15) (v := ?v6) rfl rfl (by kernel_rfl) (by kernel_rfl) (by kernel_rfl) (fun _ _ _ h => h) rfl ?hy6 hH rfl ?rest6
  case hy6 => (intro W hW; have q0 := hW.geo.1; have q1 := hW.geo.2.1; have q2 := hW.geo.2.2.1; have r0 := hW.head.c0; have r1 := hW.head.c1; have r2 := hW.head.c2; clear hW; go_simp; try with_reducible rfl)
  (try simp only [Act.put, List.setIfInBounds_toArray, List.set_cons_zero, List.set_cons_succ])
  refine takeH (i := 8) (dst := some 18) (v := ?v7) rfl rfl (by kernel_rfl) (by kernel_rfl) (by kernel_rfl) (fun _ _ _ h => h) rfl ?hy7 hH rfl ?rest7
  case hy7 => (intro W hW; have q0 := hW.geo.1; have q1 := hW.geo.2.1; have q2 := hW.geo.2.2.1; have r0 := hW.head.c0; have r1 := hW.head.c1; have r2 := hW.head.c2; clear hW; go_simp; try with_reducible rfl)
  (try simp only [Act.put, List.setIfInBounds_toArray, List.set_cons_zero, List.set_cons_succ])
  refine takeH (i := 9) (dst := some 19) (v := ?v8) rfl rfl (by kernel_rfl) (by kernel_rfl) (by kernel_rfl) (fun _ _ _ h => h) rfl ?hy8 hH rfl ?rest8
  case hy8 => (intro W hW; have q0 := hW.geo.1; have q1 := hW.geo.2.1; have q2 := hW.geo.2.2.1; have r0 := hW.head.c0; have r1 := hW.head.c1; have r2 := hW.head.c2; clear hW; go_simp; try with_reducible rfl)
  (try simp only [Act.put, List.setIfInBounds_toArray, List.set_cons_zero, List.set_cons_succ])
  refine takeH (i := 10) (dst := some 20) (v := ?v9) rfl rfl (by kernel_rfl) (by kernel_rfl) (by kernel_rfl) (fun _ _ _ h => h) rfl ?hy9 hH rfl ?rest9
  case hy9 => (intro W hW; have q0 := hW.geo.1; have q1 := hW.geo.2.1; have q2 := hW.geo.2.2.1; have r0 := hW.head.c0; have r1 := hW.head.c1; have r2 := hW.head.c2; clear hW; go_simp; try with_reducible rfl)
  (try simp only [Act.put, List.setIfInBounds_toArray, List.set_cons_zero, List.set_cons_succ])
  refine takeH (i := 11) (dst := some 21) (v := ?v10) rfl rfl (by kernel_rfl) (by kernel_rfl) (by kernel_rfl) (fun _ _ _ h => h) rfl ?hy10 hH rfl ?rest10
  case hy10 => (intro W hW; have q0 := hW.geo.1; have q1 := hW.geo.2.1; have q2 := hW.geo.2.2.1; have r0 := hW.head.c0; have r1 := hW.head.c1; have r2 := hW.head.c2; clear hW; go_simp; try with_reducible rfl)
  (try simp only [Act.put, List.setIfInBounds_toArray, List.set_cons_zero, List.set_cons_succ])
  refine takeH (i := 12) (dst := some 22) (v := ?v11) rfl rfl (by kernel_rfl) (by kernel_rfl) (by kernel_rfl) (fun _ _ _ h => h) rfl ?hy11 hH rfl ?rest11
  case hy11 => (intro W hW; have q0 := hW.geo.1; have q1 := hW.geo.2.1; have q2 := hW.geo.2.2.1; have r0 := hW.head.c0; have r1 := hW.head.c1; have r2 := hW.head.c2; clear hW; go_simp; try with_reducible rfl)
  (try simp only [Act.put, List.setIfInBounds_toArray, List.set_cons_zero, List.set_cons_succ])
  refine takeH (i := 13) (dst := some 23) (v := ?v12) rfl rfl (by kernel_rfl) (by kernel_rfl) (by kernel_rfl) (fun _ _ _ h => h) rfl ?hy12 hH rfl ?rest12
  case hy12 => (intro W hW; have q0 := hW.geo.1; have q1 := hW.geo.2.1; have q2 := hW.geo.2.2.1; have r0 := hW.head.c0; have r1 := hW.head.c1; have r2 := hW.head.c2; clear hW; go_simp; try with_reducible rfl)
  (try simp only [Act.put, List.setIfInBounds_toArray, List.set_cons_zero, List.set_cons_succ])
  refine callH (i := 6) { dst := some 16, op := Go.Op.call { callee := Go.Callee.value (Go.Operand.func 47), args := #[Go.Operand.tmp 13, Go.Operand.tmp 15], argTypes := #[24, 3] }, type := 3, pos := "ref.go:57", after := #[{ on := 3, ground := Go.Ground.data }, { on := 5, ground := Go.Ground.data }], guard := none } (by kernel_rfl) rfl rfl (fun K hK => ?_)
  go_simp
  refine (CB _ hH).mono ?_
  rintro e v1 ⟨rfl, m1⟩
  clear hH
  refine hK.out _ _ m1 (fun hH => ?_)
  clear hK K
  (try simp only [Act.put, List.setIfInBounds_toArray, List.set_cons_zero, List.set_cons_succ])
  refine takeH (i := 7) (dst := some 17) (v := ?v13) rfl rfl (by kernel_rfl) (by kernel_rfl) (by kernel_rfl) (fun _ _ _ h => h) rfl ?hy13 hH rfl ?rest13
  case hy13 => (intro W hW; have q0 := hW.geo.1; have q1 := hW.geo.2.1; have q2 := hW.geo.2.2.1; have r0 := hW.head.c0; have r1 := hW.head.c1; have r2 := hW.head.c2; clear hW; go_simp; try with_reducible rfl)
  (try simp only [Act.put, List.setIfInBounds_toArray, List.set_cons_zero, List.set_cons_succ])
  refine callH (i := 14) { dst := some 24, op := Go.Op.call { callee := Go.Callee.value (Go.Operand.func 47), args := #[Go.Operand.tmp 21, Go.Operand.tmp 23], argTypes := #[24, 3] }, type := 3, pos := "ref.go:57", after := #[{ on := 11, ground := Go.Ground.data }, { on := 13, ground := Go.Ground.data }, { on := 6, ground := Go.Ground.chain }], guard := none } (by kernel_rfl) rfl rfl (fun K hK => ?_)
  go_simp
  refine (CS _ hH).mono ?_
  rintro e v2 ⟨rfl, m2⟩
  clear hH
  refine hK.out _ _ m2 (fun hH => ?_)
  clear hK K
  (try simp only [Act.put, List.setIfInBounds_toArray, List.set_cons_zero, List.set_cons_succ])
  refine takeH (i := 15) (dst := some 25) (v := ?v14) rfl rfl (by kernel_rfl) (by kernel_rfl) (by kernel_rfl) (fun _ _ _ h => h) rfl ?hy14 hH rfl ?rest14
  case hy14 => (intro W hW; have q0 := hW.geo.1; have q1 := hW.geo.2.1; have q2 := hW.geo.2.2.1; have r0 := hW.head.c0; have r1 := hW.head.c1; have r2 := hW.head.c2; clear hW; go_simp; try with_reducible rfl)
  (try simp only [Act.put, List.setIfInBounds_toArray, List.set_cons_zero, List.set_cons_succ])
  refine takeH (i := 16) (dst := some 4) (v := ?v15) rfl rfl (by kernel_rfl) (by kernel_rfl) (by kernel_rfl) (fun _ _ _ h => h) rfl ?hy15 hH rfl ?rest15
  case hy15 => (intro W hW; have q0 := hW.geo.1; have q1 := hW.geo.2.1; have q2 := hW.geo.2.2.1; have r0 := hW.head.c0; have r1 := hW.head.c1; have r2 := hW.head.c2; clear hW; go_simp; try with_reducible rfl)
  (try simp only [Act.put, List.setIfInBounds_toArray, List.set_cons_zero, List.set_cons_succ])
  refine takeH (i := 17) (dst := some 5) (v := ?v16) rfl rfl (by kernel_rfl) (by kernel_rfl) (by kernel_rfl) (fun _ _ _ h => h) rfl ?hy16 hH rfl ?rest16
  case hy16 => (intro W hW; have q0 := hW.geo.1; have q1 := hW.geo.2.1; have q2 := hW.geo.2.2.1; have r0 := hW.head.c0; have r1 := hW.head.c1; have r2 := hW.head.c2; clear hW; go_simp; try with_reducible rfl)
  (try simp only [Act.put, List.setIfInBounds_toArray, List.set_cons_zero, List.set_cons_succ])
  refine wpAnyH_done (by kernel_rfl) ?_ _
  clear hH
  go_wp2
  go_ret2
  exact ⟨rfl, m2.geo.2.2.2⟩
set_option maxHeartbeats 4000000 in
theorem rfindBlock_no (a i n no fr : Int) (bl sl : List UInt8) (spb sps : Option Addr) (capb caps : Nat) (hb : bl.length = 16) (hs : sl.length = 8) (hr : rgB a i n no bl sl = false) (w : World) (hsb : Src w spb bl) (hss : Src w sps sl) :
    Calls Try.prog 27 #[.agg #[.int .i64 a, .int .i64 i, .int .i64 n], .agg #[.int .i64 no, .slice spb 16 capb, .slice sps 8 caps], .int .i64 fr] w fun e w' => e = .returned (.int .i64 (-1)) ∧ Below w.heap.size w w' := by
  have X0 := XW.start w a i n (.int .i64 no) (.slice spb 16 capb) (.slice sps 8 caps)
  have HX0 : Hid _ := X0
  have RT := fun W (h : Below w.heap.size w W) => rright6_any a i n no bl sl spb sps capb caps hb hs W (hsb.below h (Nat.le_refl _)) (hss.below h (Nat.le_refl _))
  rw [hr] at RT
  clear X0 hr
  go_enter Try.func27, Try.ntmps27
  go_wp2_with fail
  refine (RT _ HX0.out.geo.2.2.2).mono ?_
  rintro e w1 ⟨rfl, h1⟩
  have HB := (HX0.out.up h1).geo.2.2.2
  go_wp2
  go_ret
  exact ⟨rfl, HB⟩
set_option maxHeartbeats 4000000 in
theorem rfindBlock_yes (a i n no fr : Int) (bl sl : List UInt8) (spb sps : Option Addr) (capb caps : Nat) (hb : bl.length = 16) (hs : sl.length = 8) (hr : rgB a i n no bl sl = true) (hfr : fr ≤ 9223372036854775807) (w : World) (hsb : Src w spb bl) (hss : Src w sps sl) :
    Calls Try.prog 27 #[.agg #[.int .i64 a, .int .i64 i, .int .i64 n], .agg #[.int .i64 no, .slice spb 16 capb, .slice sps 8 caps], .int .i64 fr] w fun e w' => (∃ r, e = .returned (.int .i64 r) ∧ IsFirst (gb bl) a.toNat (frz a.toNat fr) r) ∧ Below w.heap.size w w' := by
  have X0 := XW.start w a i n (.int .i64 no) (.slice spb 16 capb) (.slice sps 8 caps)
  have HX0 : Hid _ := X0
  have RT := fun W (h : Below w.heap.size w W) => rright6_any a i n no bl sl spb sps capb caps hb hs W (hsb.below h (Nat.le_refl _)) (hss.below h (Nat.le_refl _))
  obtain ⟨hok, _, _⟩ := rgB_ok hr
  have hbx := hok.box
  rw [hr] at RT
  have FI : ∀ W, XW w a i n (.int .i64 no) (.slice spb 16 capb) (.slice sps 8 caps) W → Calls Try.prog 49 #[.slice spb 16 capb, .int .i64 a, .int .i64 fr] W fun e w' => (∃ r, e = .returned (.int .i64 r) ∧ IsFirst (gb bl) a.toNat (frz a.toNat fr) r) ∧ w' = W := by
    intro W hW
    have h := rfirst_any spb bl capb a fr W (hsb.below hW.geo.2.2.2 (Nat.le_refl _)) (by omega) hfr
    have e : bnd bl.length a = a.toNat := by have := bnd_of bl.length a; omega
    rw [e, hb] at h
    exact h
  clear X0 hr hok hbx
  go_enter Try.func27, Try.ntmps27
  go_wp2_with fail
  refine (RT _ HX0.out.geo.2.2.2).mono ?_
  rintro e w1 ⟨rfl, h1⟩
  have X1 := HX0.out.up h1
  have HX1 : Hid _ := X1
  have q0 := X1.geo.1; have q1 := X1.geo.2.1; have q2 := X1.geo.2.2.1; have r0 := X1.head.c0; have r1 := X1.head.c1; have r2 := X1.head.c2
  clear X1 h1 HX0 RT
  go_wp2_with fail
  refine (FI _ HX1.out).mono ?_
  rintro e w2 ⟨⟨r, rfl, hx⟩, rfl⟩
  have HR : Hid _ := hx
  clear hx FI
  go_wp2
  go_ret
  exact ⟨⟨r, rfl, HR.out⟩, HX1.out.geo.2.2.2⟩
set_option maxHeartbeats 4000000 in
theorem rfindSlot_no (a i n no fr : Int) (bl sl : List UInt8) (spb sps : Option Addr) (capb caps : Nat) (hb : bl.length = 16) (hs : sl.length = 8) (hr : rgB a i n no bl sl = false) (w : World) (hsb : Src w spb bl) (hss : Src w sps sl) :
    Calls Try.prog 29 #[.agg #[.int .i64 a, .int .i64 i, .int .i64 n], .agg #[.int .i64 no, .slice spb 16 capb, .slice sps 8 caps], .int .i64 fr] w fun e w' => e = .returned (.int .i64 (-1)) ∧ Below w.heap.size w w' := by
  have X0 := XW.start w a i n (.int .i64 no) (.slice spb 16 capb) (.slice sps 8 caps)
  have HX0 : Hid _ := X0
  have RT := fun W (h : Below w.heap.size w W) => rright6_any a i n no bl sl spb sps capb caps hb hs W (hsb.below h (Nat.le_refl _)) (hss.below h (Nat.le_refl _))
  rw [hr] at RT
  clear X0 hr
  go_enter Try.func29, Try.ntmps29
  go_wp2_with fail
  refine (RT _ HX0.out.geo.2.2.2).mono ?_
  rintro e w1 ⟨rfl, h1⟩
  have HB := (HX0.out.up h1).geo.2.2.2
  go_wp2
  go_ret
  exact ⟨rfl, HB⟩
set_option maxHeartbeats 4000000 in
theorem rfindSlot_yes (a i n no fr : Int) (bl sl : List UInt8) (spb sps : Option Addr) (capb caps : Nat) (hb : bl.length = 16) (hs : sl.length = 8) (hr : rgB a i n no bl sl = true) (hfr : fr ≤ 9223372036854775807) (w : World) (hsb : Src w spb bl) (hss : Src w sps sl) :
    Calls Try.prog 29 #[.agg #[.int .i64 a, .int .i64 i, .int .i64 n], .agg #[.int .i64 no, .slice spb 16 capb, .slice sps 8 caps], .int .i64 fr] w fun e w' => (∃ r, e = .returned (.int .i64 r) ∧ IsFirst (gb sl) i.toNat (frz i.toNat fr) r) ∧ Below w.heap.size w w' := by
  have X0 := XW.start w a i n (.int .i64 no) (.slice spb 16 capb) (.slice sps 8 caps)
  have HX0 : Hid _ := X0
  have RT := fun W (h : Below w.heap.size w W) => rright6_any a i n no bl sl spb sps capb caps hb hs W (hsb.below h (Nat.le_refl _)) (hss.below h (Nat.le_refl _))
  obtain ⟨hok, _, _⟩ := rgB_ok hr
  have hbx := hok.box
  rw [hr] at RT
  have FI : ∀ W, XW w a i n (.int .i64 no) (.slice spb 16 capb) (.slice sps 8 caps) W → Calls Try.prog 49 #[.slice sps 8 caps, .int .i64 i, .int .i64 fr] W fun e w' => (∃ r, e = .returned (.int .i64 r) ∧ IsFirst (gb sl) i.toNat (frz i.toNat fr) r) ∧ w' = W := by
    intro W hW
    have h := rfirst_any sps sl caps i fr W (hss.below hW.geo.2.2.2 (Nat.le_refl _)) (by omega) hfr
    have e : bnd sl.length i = i.toNat := by have := bnd_of sl.length i; omega
    rw [e, hs] at h
    exact h
  clear X0 hr hok hbx
  go_enter Try.func29, Try.ntmps29
  go_wp2_with fail
  refine (RT _ HX0.out.geo.2.2.2).mono ?_
  rintro e w1 ⟨rfl, h1⟩
  have X1 := HX0.out.up h1
  have HX1 : Hid _ := X1
  have q0 := X1.geo.1; have q1 := X1.geo.2.1; have q2 := X1.geo.2.2.1; have r0 := X1.head.c0; have r1 := X1.head.c1; have r2 := X1.head.c2
  clear X1 h1 HX0 RT
  go_wp2_with fail
  refine (FI _ HX1.out).mono ?_
  rintro e w2 ⟨⟨r, rfl, hx⟩, rfl⟩
  have HR : Hid _ := hx
  clear hx FI
  go_wp2
  go_ret
  exact ⟨⟨r, rfl, HR.out⟩, HX1.out.geo.2.2.2⟩
end Go.Proofs.Ytfbbdpapnegmcaa
