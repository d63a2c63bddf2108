/- group.Fresh. -/
import Derived.Test.YtfbbdpapnegmcaaGuse
namespace Go.Proofs.Ytfbbdpapnegmcaa
open Go.RowKit
/-- A shape, a place for the answer and a header lie where Fresh has laid them. -/
structure FW (w0 : World) (a i n no : Int) (bl sl : List UInt8) (q : Nat) (W : World) : Prop where
  geo : Lies w0 w0.heap.size a i n W
  res : HeadAt W (w0.heap.size + 1) 0 z16 z8
  head : HeadAt W q no bl sl
section
variable {w0 W W' : World} {a i n no : Int} {bl sl : List UInt8} {q : Nat}
theorem FW.below (h : FW w0 a i n no bl sl q W) {bl' sl' : List UInt8} (hb : Below q W W') (hq : w0.heap.size + 1 < q) (hh : HeadAt W' q no bl' sl') : FW w0 a i n no bl' sl' q W' :=
  ⟨⟨(hb.cell (p := ⟨w0.heap.size, 0, none⟩) (show w0.heap.size < q by omega)).trans h.geo.1, (hb.cell (p := ⟨w0.heap.size, 1, none⟩) (show w0.heap.size < q by omega)).trans h.geo.2.1, (hb.cell (p := ⟨w0.heap.size, 2, none⟩) (show w0.heap.size < q by omega)).trans h.geo.2.2.1, h.geo.2.2.2.trans (hb.mono (by omega))⟩, h.res.below hb (by omega), hh⟩
theorem FW.up (h : FW w0 a i n no bl sl q W) (hb : Below W.heap.size W W') (hq : w0.heap.size + 1 < q) : FW w0 a i n no bl sl q W' :=
  h.below (hb.mono (by have := h.head.lt; omega)) hq (h.head.up hb)
end
/-- Where a shape and an empty answer lie at the beginning. -/
structure F0 (w0 : World) (a i n : Int) (W : World) : Prop where
  geo : Lies w0 w0.heap.size a i n W
  res : HeadAt W (w0.heap.size + 1) 0 z16 z8
theorem F0.start (w : World) (a i n : Int) : F0 w a i n ((w.alloc (.cells #[.int .i64 a, .int .i64 i, .int .i64 n] 23)).alloc (.cells (hA 0 z16 z8) 28)) := by
  have R := RW.start w a i n 0 z16 z8 rfl rfl
  exact ⟨R.geo, R.head⟩
theorem F0.up {w0 W W' : World} {a i n : Int} (h : F0 w0 a i n W) (hb : Below W.heap.size W W') : F0 w0 a i n W' := by
  have R : RW w0 a i n 0 z16 z8 W := ⟨h.geo, h.res⟩
  exact ⟨(R.up hb).geo, (R.up hb).head⟩
theorem F0.below {w0 W W' : World} {a i n : Int} (h : F0 w0 a i n W) {B : Nat} (hb : Below B W W') (hq : w0.heap.size + 1 < B) : F0 w0 a i n W' :=
  ⟨⟨(hb.cell (p := ⟨w0.heap.size, 0, none⟩) (show w0.heap.size < B by omega)).trans h.geo.1, (hb.cell (p := ⟨w0.heap.size, 1, none⟩) (show w0.heap.size < B by omega)).trans h.geo.2.1, (hb.cell (p := ⟨w0.heap.size, 2, none⟩) (show w0.heap.size < B by omega)).trans h.geo.2.2.1, h.geo.2.2.2.trans (hb.mono (by omega))⟩, h.res.below hb (by omega)⟩
theorem hA_ne (no : Int) (bl sl : List UInt8) : ¬ hA no bl sl = #[] := by simp [hA, hL]
theorem zero_no (no : Int) : (hA 0 z16 z8).setIfInBounds 0 (.int .i64 no) = hA no z16 z8 := by
  simp [hA, hL]
attribute [local go_sem] wrapI
set_option maxHeartbeats 4000000 in
theorem fresh_no (a i n no : Int) (hnb : numB a i n no = false) (w : World) :
    Calls Try.prog 13 #[.agg #[.int .i64 a, .int .i64 i, .int .i64 n], .int .i64 no] w fun e w' => e = .returned (.tuple #[.agg (hA 0 z16 z8), .int .i64 1]) ∧ Below w.heap.size w w' := by
  have HF : Hid _ := F0.start w a i n
  have NB := numbered_any a i n no
  rw [hnb] at NB
  have hz := zero28
  clear hnb
  go_enter Try.func13, Try.ntmps13
  go_wp2_with fail
  refine (NB _).mono ?_
  rintro e w1 ⟨rfl, h1⟩
  have HF1 : Hid _ := HF.out.up h1
  clear HF NB h1
  go_wp2_with (first | ((with_reducible show wpList _ _ _ ({ dst := _, op := Op.store 28 _ _, type := _, pos := _, after := _, guard := _ } :: _) _ _); refine wpList_store_head rfl _ _ rfl (HF1.out.res) rfl rfl rfl rfl ?_; intro w4 H4 b4 z4))
  exact bodyPost_ret (results_head rfl _ H4 rfl) rfl ⟨rfl, HF1.out.geo.2.2.2.trans (b4.mono (by omega))⟩
set_option maxHeartbeats 4000000 in
theorem fresh_yes (a i n no : Int) (hnb : numB a i n no = true) (w : World) :
    Calls Try.prog 13 #[.agg #[.int .i64 a, .int .i64 i, .int .i64 n], .int .i64 no] w fun e w' => e = .returned (.tuple #[.agg (hA no (fillb z16 (kbl i)) (fillb z8 (ksl no))), .int .i64 0]) ∧ Below w.heap.size w w' := by
  have HF : Hid _ := F0.start w a i n
  have NB := numbered_any a i n no
  obtain ⟨hok, _, _⟩ := numB_ok hnb
  obtain ⟨ke, kl⟩ := kbl_of hok
  have hk2 := ksl_le no
  rw [hnb] at NB
  have hz := zero28
  have zn := zero_no no
  have hne := hA_ne 0 z16 z8
  have KB := fun W => keptBlocks_any a i n W hok
  rw [ke] at KB
  clear hnb ke hok
  go_enter Try.func13, Try.ntmps13
  go_wp2_with fail
  refine (NB _).mono ?_
  rintro e w1 ⟨rfl, h1⟩
  have HF1 : Hid _ := HF.out.up h1
  have hl1 := HF1.out.res.lt
  clear HF NB h1
  have HN : Hid (HeadAt (w1.alloc (.cells (hA 0 z16 z8) 28)) w1.heap.size 0 z16 z8) := head_new w1 0 z16 z8 rfl rfl
  have HB1 : Hid (Below w1.heap.size w1 (w1.alloc (.cells (hA 0 z16 z8) 28))) := (Below.refl _ _).alloc (Nat.le_refl _) _
  go_wp2_with (first | ((with_reducible show wpList _ _ _ ({ dst := _, op := Op.store 28 _ _, type := _, pos := _, after := _, guard := _ } :: _) _ _); refine wpList_store_head rfl _ _ rfl (HN.out) rfl rfl rfl rfl ?_; intro w2 H2 b2 z2))
  have f2 : FW w a i n no z16 z8 w1.heap.size w2 := by
    have f1 := (HF1.out.up HB1.out).below b2 hl1
    exact ⟨f1.geo, f1.res, H2⟩
  have hl2 : w1.heap.size < w2.heap.size := H2.lt
  have fd : FW w a i n no z16 z8 w1.heap.size w2.drew := f2.up (Below.refl _ _).drew hl1
  clear HF1 HN HB1 H2 b2 f2 hne
  refine wp_region_held_drew (S := (fun W => Lies w w.heap.size a i n W)) (by kernel_rfl) fd.geo (fun hH => ?_)
  refine takeH (i := 0) (dst := some 14) (v := ?v1) rfl rfl (by kernel_rfl) (by kernel_rfl) (by kernel_rfl) (fun _ _ _ h => h) rfl ?hy1 hH rfl ?rest1
  case hy1 => (intro W hW; have q0 := hW.1; have q1 := hW.2.1; have q2 := hW.2.2.1; clear hW; go_simp; try with_reducible rfl)
  (try simp only [Act.put, List.setIfInBounds_toArray, List.set_cons_zero, List.set_cons_succ])
  refine takeH (i := 1) (dst := some 15) (v := ?v2) rfl rfl (by kernel_rfl) (by kernel_rfl) (by kernel_rfl) (fun _ _ _ h => h) rfl ?hy2 hH rfl ?rest2
  case hy2 => (intro W hW; have q0 := hW.1; have q1 := hW.2.1; have q2 := hW.2.2.1; clear hW; go_simp; try with_reducible rfl)
  (try simp only [Act.put, List.setIfInBounds_toArray, List.set_cons_zero, List.set_cons_succ])
  refine takeH (i := 2) (dst := some 16) (v := ?v3) rfl rfl (by kernel_rfl) (by kernel_rfl) (by kernel_rfl) (fun _ _ _ h => h) rfl ?hy3 hH rfl ?rest3
  case hy3 => (intro W hW; have q0 := hW.1; have q1 := hW.2.1; have q2 := hW.2.2.1; clear hW; go_simp; try with_reducible rfl)
  (try simp only [Act.put, List.setIfInBounds_toArray, List.set_cons_zero, List.set_cons_succ])
  refine callH (i := 3) { dst := some 17, op := Go.Op.call { callee := Go.Callee.value (Go.Operand.func 38), args := #[Go.Operand.tmp 16], argTypes := #[23] }, type := 3, pos := "group.go:71", after := #[{ on := 2, ground := Go.Ground.data }], guard := none } (by kernel_rfl) rfl rfl (fun K hK => ?_)
  go_simp
  refine (KB _).mono ?_
  rintro e v1 ⟨rfl, m0⟩
  have m1 := fd.up m0 hl1
  clear m0
  clear hH
  refine hK.out _ _ m1.geo (fun hH => ?_)
  clear hK K
  (try simp only [Act.put, List.setIfInBounds_toArray, List.set_cons_zero, List.set_cons_succ])
  refine callH (i := 4) { dst := some 18, op := Go.Op.call { callee := Go.Callee.value (Go.Operand.func 37), args := #[Go.Operand.tmp 15, Go.Operand.tmp 17], argTypes := #[24, 3] }, type := 0, pos := "group.go:71", after := #[{ on := 1, ground := Go.Ground.data }, { on := 3, ground := Go.Ground.data }, { on := 3, ground := Go.Ground.chain }], guard := none } (by kernel_rfl) rfl rfl (fun K hK => ?_)
  go_simp
  refine (fillB_any m1.head (kbl i) (by omega)).mono ?_
  rintro e v2 ⟨rfl, h2, b2⟩
  have m2 := m1.below b2 hl1 h2
  clear m1 h2 b2
  clear hH
  refine hK.out _ _ m2.geo (fun hH => ?_)
  clear hK K
  (try simp only [Act.put, List.setIfInBounds_toArray, List.set_cons_zero, List.set_cons_succ])
  refine wpAnyH_done (by kernel_rfl) ?_ _
  clear hH
  have hd3 := m2.up (Below.refl _ _).drew hl1
  have HM2 : Hid _ := m2
  clear m2 fd
  go_wp2_with fail
  refine wp_region_held_drew (S := (fun W => Lies w w.heap.size a i n W)) (by kernel_rfl) hd3.geo (fun hH => ?_)
  refine takeH (i := 0) (dst := some 19) (v := ?v4) rfl rfl (by kernel_rfl) (by kernel_rfl) (by kernel_rfl) (fun _ _ _ h => h) rfl ?hy4 hH rfl ?rest4
  case hy4 => (intro W hW; have q0 := hW.1; have q1 := hW.2.1; have q2 := hW.2.2.1; clear hW; go_simp; try with_reducible rfl)
  (try simp only [Act.put, List.setIfInBounds_toArray, List.set_cons_zero, List.set_cons_succ])
  refine takeH (i := 1) (dst := some 20) (v := ?v5) rfl rfl (by kernel_rfl) (by kernel_rfl) (by kernel_rfl) (fun _ _ _ h => h) rfl ?hy5 hH rfl ?rest5
  case hy5 => (intro W hW; have q0 := hW.1; have q1 := hW.2.1; have q2 := hW.2.2.1; clear hW; go_simp; try with_reducible rfl)
  (try simp only [Act.put, List.setIfInBounds_toArray, List.set_cons_zero, List.set_cons_succ])
  refine takeH (i := 2) (dst := some 21) (v := ?v6) rfl rfl (by kernel_rfl) (by kernel_rfl) (by kernel_rfl) (fun _ _ _ h => h) rfl ?hy6 hH rfl ?rest6
  case hy6 => (intro W hW; have q0 := hW.1; have q1 := hW.2.1; have q2 := hW.2.2.1; clear hW; go_simp; try with_reducible rfl)
  (try simp only [Act.put, List.setIfInBounds_toArray, List.set_cons_zero, List.set_cons_succ])
  refine callH (i := 3) { dst := some 22, op := Go.Op.call { callee := Go.Callee.value (Go.Operand.func 39), args := #[Go.Operand.tmp 21], argTypes := #[3] }, type := 3, pos := "group.go:72", after := #[{ on := 2, ground := Go.Ground.data }], guard := none } (by kernel_rfl) rfl rfl (fun K hK => ?_)
  go_simp
  refine (keptSlots_any no _).mono ?_
  rintro e v3 ⟨rfl, rfl⟩
  have m3 := hd3
  clear hH
  refine hK.out _ _ m3.geo (fun hH => ?_)
  clear hK K
  (try simp only [Act.put, List.setIfInBounds_toArray, List.set_cons_zero, List.set_cons_succ])
  refine callH (i := 4) { dst := some 23, op := Go.Op.call { callee := Go.Callee.value (Go.Operand.func 37), args := #[Go.Operand.tmp 20, Go.Operand.tmp 22], argTypes := #[24, 3] }, type := 0, pos := "group.go:72", after := #[{ on := 1, ground := Go.Ground.data }, { on := 3, ground := Go.Ground.data }, { on := 3, ground := Go.Ground.chain }], guard := none } (by kernel_rfl) rfl rfl (fun K hK => ?_)
  go_simp
  refine (fillS_any m3.head (ksl no) (by omega)).mono ?_
  rintro e v4 ⟨rfl, h4, b4⟩
  have m4 := m3.below b4 hl1 h4
  clear h4 b4
  clear hH
  refine hK.out _ _ m4.geo (fun hH => ?_)
  clear hK K
  (try simp only [Act.put, List.setIfInBounds_toArray, List.set_cons_zero, List.set_cons_succ])
  refine wpAnyH_done (by kernel_rfl) ?_ _
  clear hH
  have HM4 : Hid _ := m4
  clear hd3 HM2 m3 m4
  go_wp2_with (first | ((with_reducible show wpList _ _ _ ({ dst := _, op := Op.load 28 _, type := _, pos := _, after := _, guard := _ } :: _) _ _); refine wpList_load_head rfl _ rfl (HM4.out.head) rfl ?_) | ((with_reducible show wpList _ _ _ ({ dst := _, op := Op.store 28 _ _, type := _, pos := _, after := _, guard := _ } :: _) _ _); refine wpList_store_head rfl _ _ rfl (HM4.out.res) HM4.out.head.lb HM4.out.head.ls rfl rfl ?_; intro w7 H7 b7 z7))
  exact bodyPost_ret (results_head rfl _ H7 rfl) rfl ⟨rfl, HM4.out.geo.2.2.2.trans (b7.mono (by omega))⟩
end Go.Proofs.Ytfbbdpapnegmcaa
