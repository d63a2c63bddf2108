/- super.Get, for a block of 256 bytes: the rest. -/
import Derived.Test.YtkiifmnmeikdlaaGreatDoorJCVGSizes10
import Derived.Deep.QuietTactic
import Derived.BigQuiet
import Derived.WalkSmall
import Derived.LoopTactic
namespace Go.Proofs.YtkiifmnmeikdlaaGreatDoor
open Go.RowKit
set_option maxRecDepth 100000
attribute [local go_sem] wrapU
set_option maxRecDepth 100000 in
set_option maxHeartbeats 4000000 in
theorem sget_arg (bb off cap : Nat) (l : List UInt8) (hl : l.length = 256) (w : World) (hs : Src w (some ⟨bb, off, none⟩) l) (ht : Tab w) (hc : (256 : Int) ≤ cap) (hm : (cap : Int) ≤ 9223372036854775807) (h1 : l.take 4 = markL) (h2 : getNum (l.drop 252) = sumN (l.take 252)) (h3 : okS (rdG l) (rdA l) (rdI l) (rdN l) = false) :
    Calls Tryz.prog 83 #[.slice (some ⟨bb, off, none⟩) 256 cap] w fun e w' => e = .returned (.tuple #[.agg #[.int .i64 (getX (rdG l) l), .int .i64 (getX (rdA l) l), .int .i64 (getX (rdI l) l), .int .i64 (getX (rdN l) l)], .int .i64 (getE l)]) ∧ Below w.heap.size w w' := by
  have hal : Below w.heap.size w (w.alloc (.cells #[.int .i64 0, .int .i64 0, .int .i64 0, .int .i64 0] 58)) := (Below.refl _ _).alloc (Nat.le_refl _) _
  have HG0 : Hid (Gets w (w.alloc (.cells #[.int .i64 0, .int .i64 0, .int .i64 0, .int .i64 0] 58))) := ⟨hal, heap_alloc_new _ _⟩
  have hst := conv_str (w := w.alloc (.cells #[.int .i64 0, .int .i64 0, .int .i64 0, .int .i64 0] 58)) (sp := some ⟨bb, off, none⟩) (l := l.take 4) (by have := (hs.below hal (Nat.le_refl _)).part256 hl 0 4 (by omega); rw [List.drop_zero] at this; exact this) 4 cap (by rw [List.length_take, hl]; rfl)
  have HE : Hid (getE l = 1) := by show _ = _; rw [getE, if_neg (by omega), if_neg (by rw [h1]; exact fun c => c rfl), if_neg (fun c => c h2), if_pos h3]
  rw [h1] at hst
  have hst' : (convert 42 9 (.slice (some ⟨bb, off, none⟩) 4 cap)).run Tryz.prog (w.alloc (.cells #[.int .i64 0, .int .i64 0, .int .i64 0, .int .i64 0] 58)) = .ok (.string ⟨#[76, 86, 69, 69]⟩) (w.alloc (.cells #[.int .i64 0, .int .i64 0, .int .i64 0, .int .i64 0] 58)) := hst
  clear hst
  have n1 : ¬ cap = 252 := by omega
  have b1 : (252 : Int) ≤ cap := by omega
  have hd0 : Gets w (w.alloc (.cells #[.int .i64 0, .int .i64 0, .int .i64 0, .int .i64 0] 58)).drew := HG0.out.up (Below.refl _ _).drew
  have GT : ∀ W, Gets w W → Calls Tryz.prog 123 #[.slice (some ⟨bb, off + 252, none⟩) 4 (cap - 252)] W fun e w' => e = .returned (.int .u64 (getNum (l.drop 252) : Int)) ∧ Gets w w' := by
    intro W hR
    have h := nget_any (some ⟨bb, off + 252, none⟩) ((l.drop 252).take 4) (cap - 252) W ((hs.part256 hl 252 4 (by omega)).below hR.b (Nat.le_refl _))
    rw [show ((l.drop 252).take 4).length = 4 by rw [List.length_take, List.length_drop, hl]; rfl, show (l.drop 252).take 4 = l.drop 252 from List.take_of_length_le (by rw [List.length_drop, hl]; omega)] at h
    exact h.mono fun _ _ ⟨q1, q2⟩ => ⟨q1, hR.up q2⟩
  have hw0 : 0 < w.heap.size := block_lt_of_cell (ht 0 (by omega))
  have SM : ∀ W, Gets w W → Calls Tryz.prog 77 #[.slice (some ⟨bb, off, none⟩) 252 cap] W fun e w' => e = .returned (.int .u32 (sumN (l.take 252) : Int)) ∧ w' = W := by
    intro W hR
    have h := sum_any (some ⟨bb, off, none⟩) (l.take 252) cap W (by have := (hs.part256 hl 0 252 (by omega)).below hR.b (Nat.le_refl _); rw [List.drop_zero] at this; exact this) (ht.below hR.b hw0) (by rw [List.length_take, hl]; decide)
    rw [show (l.take 252).length = 252 by rw [List.length_take, hl]; rfl] at h
    exact h
  have hslt : sumN (l.take 252) < 4294967296 := Nat.xor_lt_two_pow (n := 32) (by omega) (crcF_lt _ _ (by omega))
  rw [h2] at GT
  have u1 : InU (sumN (l.take 252) : Int) := ⟨by omega⟩
  generalize sumN (l.take 252) = M at *
  clear h1
  go_enter Tryz.func83, Tryz.ntmps83
  go_wp2_with fail
  refine wp_region_held_drew (S := (fun w' => Gets w w')) (by kernel_rfl) hd0 (fun hH => ?_)
  refine takeH (i := 0) (dst := some 16) (v := ?v1) rfl rfl (by kernel_rfl) (by kernel_rfl) (by kernel_rfl) (fun _ _ _ h => h) rfl ?hy1 hH rfl ?rest1
  case hy1 => (intro W hW; clear hW; go_simp; try with_reducible rfl)
  (try simp only [Act.put, List.setIfInBounds_toArray, List.set_cons_zero, List.set_cons_succ])
  refine takeH (i := 1) (dst := some 17) (v := ?v2) rfl rfl (by kernel_rfl) (by kernel_rfl) (by kernel_rfl) (fun _ _ _ h => h) rfl ?hy2 hH rfl ?rest2
  case hy2 => (intro W hW; clear hW; go_simp; try with_reducible rfl)
  (try simp only [Act.put, List.setIfInBounds_toArray, List.set_cons_zero, List.set_cons_succ])
  refine takeH (i := 3) (dst := some 19) (v := ?v3) rfl rfl (by kernel_rfl) (by kernel_rfl) (by kernel_rfl) (fun _ _ _ h => h) rfl ?hy3 hH rfl ?rest3
  case hy3 => (intro W hW; clear hW; go_simp; try with_reducible rfl)
  (try simp only [Act.put, List.setIfInBounds_toArray, List.set_cons_zero, List.set_cons_succ])
  refine takeH (i := 4) (dst := some 20) (v := ?v4) rfl rfl (by kernel_rfl) (by kernel_rfl) (by kernel_rfl) (fun _ _ _ h => h) rfl ?hy4 hH rfl ?rest4
  case hy4 => (intro W hW; clear hW; go_simp; try with_reducible rfl)
  (try simp only [Act.put, List.setIfInBounds_toArray, List.set_cons_zero, List.set_cons_succ])
  refine callH (i := 2) { dst := some 18, op := Go.Op.call { callee := Go.Callee.value (Go.Operand.func 123), args := #[Go.Operand.tmp 17], argTypes := #[42] }, type := 138, pos := "super.go:67", after := #[{ on := 1, ground := Go.Ground.data }], guard := none } (by kernel_rfl) rfl rfl (fun K hK => ?_)
  go_simp
  refine (GT _ hH).mono ?_
  rintro e v1 ⟨rfl, m1⟩
  clear hH
  refine hK.out _ _ m1 (fun hH => ?_)
  clear hK K
  (try simp only [Act.put, List.setIfInBounds_toArray, List.set_cons_zero, List.set_cons_succ])
  refine callH (i := 5) { dst := some 21, op := Go.Op.call { callee := Go.Callee.value (Go.Operand.func 77), args := #[Go.Operand.tmp 20], argTypes := #[42] }, type := 139, pos := "super.go:67", after := #[{ on := 4, ground := Go.Ground.data }, { on := 2, ground := Go.Ground.chain }], guard := none } (by kernel_rfl) rfl rfl (fun K hK => ?_)
  go_simp
  refine (SM _ hH).mono ?_
  rintro e v2 ⟨rfl, rfl⟩
  have m2 := hH
  clear hH
  refine hK.out _ _ m2 (fun hH => ?_)
  clear hK K
  (try simp only [Act.put, List.setIfInBounds_toArray, List.set_cons_zero, List.set_cons_succ])
  refine takeH (i := 6) (dst := some 22) (v := ?v5) rfl rfl (by kernel_rfl) (by kernel_rfl) (by kernel_rfl) (fun _ _ _ h => h) rfl ?hy5 hH rfl ?rest5
  case hy5 => (intro W hW; clear hW; go_simp; try with_reducible rfl)
  (try simp only [Act.put, List.setIfInBounds_toArray, List.set_cons_zero, List.set_cons_succ])
  refine takeH (i := 7) (dst := some 23) (v := ?v6) rfl rfl (by kernel_rfl) (by kernel_rfl) (by kernel_rfl) (fun _ _ _ h => h) rfl ?hy6 hH rfl ?rest6
  case hy6 => (intro W hW; clear hW; go_simp; try with_reducible rfl)
  (try simp only [Act.put, List.setIfInBounds_toArray, List.set_cons_zero, List.set_cons_succ])
  refine wpAnyH_done (by kernel_rfl) ?_ _
  clear hH
  have HM : Hid (Gets w v2) := m2
  clear m1 m2 GT SM
  have READ := read_any bb off cap l hl v2 (hs.below HM.out.b (Nat.le_refl _)) hc hm
  go_wp2_with fail
  refine READ.mono ?_
  rintro e w3 ⟨rfl, hb3⟩
  clear READ
  have hb4 : Below v2.heap.size v2 (w3.alloc (.cells #[.int .i64 (rdG l), .int .i64 (rdA l), .int .i64 (rdI l), .int .i64 (rdN l)] 58)) := hb3.alloc hb3.size _
  have HM4 : Hid (Gets w (w3.alloc (.cells #[.int .i64 (rdG l), .int .i64 (rdA l), .int .i64 (rdI l), .int .i64 (rdN l)] 58))) := HM.out.up hb4
  have HR4 : Hid (Row4 (w3.alloc (.cells #[.int .i64 (rdG l), .int .i64 (rdA l), .int .i64 (rdI l), .int .i64 (rdN l)] 58)) w3.heap.size 58 (rdG l) (rdA l) (rdI l) (rdN l)) := heap_alloc_new _ _
  have PUT := sput_no (rdG l) (rdA l) (rdI l) (rdN l) (w3.alloc (.cells #[.int .i64 (rdG l), .int .i64 (rdA l), .int .i64 (rdI l), .int .i64 (rdN l)] 58)) h3
  go_wp2_with fail
  refine PUT.mono ?_
  rintro e w5 ⟨rfl, hb5⟩
  clear PUT
  have m5 := HM4.out.up hb5
  have r0 := m5.r.c0
  have r1 := m5.r.c1
  have r2 := m5.r.c2
  have r3 := m5.r.c3
  have f0 := m5.r.fr 0
  have f1 := m5.r.fr 1
  have f2 := m5.r.fr 2
  have f3 := m5.r.fr 3
  have HM5 : Hid (Gets w w5) := m5
  clear m5 hb5 hs hl ht
  go_wp2
  refine bodyPost_ret (results_sup rfl _ _ w.heap.size 0 0 0 0 rfl (HM5.out.r.set 0 0 0 0)) rfl ?_
  exact ⟨err_form HE.out (by omega), below_set4 HM5.out.b (Nat.le_refl _) _ _ _ _⟩
set_option maxRecDepth 100000 in
set_option maxHeartbeats 4000000 in
theorem sget_form (bb off cap : Nat) (l : List UInt8) (hl : l.length = 256) (w : World) (hs : Src w (some ⟨bb, off, none⟩) l) (ht : Tab w) (hc : (256 : Int) ≤ cap) (hm : (cap : Int) ≤ 9223372036854775807) (h1 : l.take 4 = markL) (h2 : getNum (l.drop 252) = sumN (l.take 252)) (h3 : okS (rdG l) (rdA l) (rdI l) (rdN l) = true) (h4 : putL (rdG l).toNat (rdA l) (rdI l) (rdN l) ≠ l) :
    Calls Tryz.prog 83 #[.slice (some ⟨bb, off, none⟩) 256 cap] w fun e w' => e = .returned (.tuple #[.agg #[.int .i64 (getX (rdG l) l), .int .i64 (getX (rdA l) l), .int .i64 (getX (rdI l) l), .int .i64 (getX (rdN l) l)], .int .i64 (getE l)]) ∧ Below w.heap.size w w' := by
  have hal : Below w.heap.size w (w.alloc (.cells #[.int .i64 0, .int .i64 0, .int .i64 0, .int .i64 0] 58)) := (Below.refl _ _).alloc (Nat.le_refl _) _
  have HG0 : Hid (Gets w (w.alloc (.cells #[.int .i64 0, .int .i64 0, .int .i64 0, .int .i64 0] 58))) := ⟨hal, heap_alloc_new _ _⟩
  have hst := conv_str (w := w.alloc (.cells #[.int .i64 0, .int .i64 0, .int .i64 0, .int .i64 0] 58)) (sp := some ⟨bb, off, none⟩) (l := l.take 4) (by have := (hs.below hal (Nat.le_refl _)).part256 hl 0 4 (by omega); rw [List.drop_zero] at this; exact this) 4 cap (by rw [List.length_take, hl]; rfl)
  have HE : Hid (getE l = 8) := by show _ = _; rw [getE, if_neg (by omega), if_neg (by rw [h1]; exact fun c => c rfl), if_neg (fun c => c h2), if_neg (by rw [h3]; simp), if_pos h4]
  rw [h1] at hst
  have hst' : (convert 42 9 (.slice (some ⟨bb, off, none⟩) 4 cap)).run Tryz.prog (w.alloc (.cells #[.int .i64 0, .int .i64 0, .int .i64 0, .int .i64 0] 58)) = .ok (.string ⟨#[76, 86, 69, 69]⟩) (w.alloc (.cells #[.int .i64 0, .int .i64 0, .int .i64 0, .int .i64 0] 58)) := hst
  clear hst
  have n1 : ¬ cap = 252 := by omega
  have b1 : (252 : Int) ≤ cap := by omega
  have hd0 : Gets w (w.alloc (.cells #[.int .i64 0, .int .i64 0, .int .i64 0, .int .i64 0] 58)).drew := HG0.out.up (Below.refl _ _).drew
  have GT : ∀ W, Gets w W → Calls Tryz.prog 123 #[.slice (some ⟨bb, off + 252, none⟩) 4 (cap - 252)] W fun e w' => e = .returned (.int .u64 (getNum (l.drop 252) : Int)) ∧ Gets w w' := by
    intro W hR
    have h := nget_any (some ⟨bb, off + 252, none⟩) ((l.drop 252).take 4) (cap - 252) W ((hs.part256 hl 252 4 (by omega)).below hR.b (Nat.le_refl _))
    rw [show ((l.drop 252).take 4).length = 4 by rw [List.length_take, List.length_drop, hl]; rfl, show (l.drop 252).take 4 = l.drop 252 from List.take_of_length_le (by rw [List.length_drop, hl]; omega)] at h
    exact h.mono fun _ _ ⟨q1, q2⟩ => ⟨q1, hR.up q2⟩
  have hw0 : 0 < w.heap.size := block_lt_of_cell (ht 0 (by omega))
  have SM : ∀ W, Gets w W → Calls Tryz.prog 77 #[.slice (some ⟨bb, off, none⟩) 252 cap] W fun e w' => e = .returned (.int .u32 (sumN (l.take 252) : Int)) ∧ w' = W := by
    intro W hR
    have h := sum_any (some ⟨bb, off, none⟩) (l.take 252) cap W (by have := (hs.part256 hl 0 252 (by omega)).below hR.b (Nat.le_refl _); rw [List.drop_zero] at this; exact this) (ht.below hR.b hw0) (by rw [List.length_take, hl]; decide)
    rw [show (l.take 252).length = 252 by rw [List.length_take, hl]; rfl] at h
    exact h
  have hslt : sumN (l.take 252) < 4294967296 := Nat.xor_lt_two_pow (n := 32) (by omega) (crcF_lt _ _ (by omega))
  rw [h2] at GT
  have u1 : InU (sumN (l.take 252) : Int) := ⟨by omega⟩
  generalize sumN (l.take 252) = M at *
  clear h1
  go_enter Tryz.func83, Tryz.ntmps83
  go_wp2_with fail
  refine wp_region_held_drew (S := (fun w' => Gets w w')) (by kernel_rfl) hd0 (fun hH => ?_)
  refine takeH (i := 0) (dst := some 16) (v := ?v7) rfl rfl (by kernel_rfl) (by kernel_rfl) (by kernel_rfl) (fun _ _ _ h => h) rfl ?hy7 hH rfl ?rest7
  case hy7 => (intro W hW; clear hW; go_simp; try with_reducible rfl)
  (try simp only [Act.put, List.setIfInBounds_toArray, List.set_cons_zero, List.set_cons_succ])
  refine takeH (i := 1) (dst := some 17) (v := ?v8) rfl rfl (by kernel_rfl) (by kernel_rfl) (by kernel_rfl) (fun _ _ _ h => h) rfl ?hy8 hH rfl ?rest8
  case hy8 => (intro W hW; clear hW; go_simp; try with_reducible rfl)
  (try simp only [Act.put, List.setIfInBounds_toArray, List.set_cons_zero, List.set_cons_succ])
  refine takeH (i := 3) (dst := some 19) (v := ?v9) rfl rfl (by kernel_rfl) (by kernel_rfl) (by kernel_rfl) (fun _ _ _ h => h) rfl ?hy9 hH rfl ?rest9
  case hy9 => (intro W hW; clear hW; go_simp; try with_reducible rfl)
  (try simp only [Act.put, List.setIfInBounds_toArray, List.set_cons_zero, List.set_cons_succ])
  refine takeH (i := 4) (dst := some 20) (v := ?v10) rfl rfl (by kernel_rfl) (by kernel_rfl) (by kernel_rfl) (fun _ _ _ h => h) rfl ?hy10 hH rfl ?rest10
  case hy10 => (intro W hW; clear hW; go_simp; try with_reducible rfl)
  (try simp only [Act.put, List.setIfInBounds_toArray, List.set_cons_zero, List.set_cons_succ])
  refine callH (i := 2) { dst := some 18, op := Go.Op.call { callee := Go.Callee.value (Go.Operand.func 123), args := #[Go.Operand.tmp 17], argTypes := #[42] }, type := 138, pos := "super.go:67", after := #[{ on := 1, ground := Go.Ground.data }], guard := none } (by kernel_rfl) rfl rfl (fun K hK => ?_)
  go_simp
  refine (GT _ hH).mono ?_
  rintro e v1 ⟨rfl, m1⟩
  clear hH
  refine hK.out _ _ m1 (fun hH => ?_)
  clear hK K
  (try simp only [Act.put, List.setIfInBounds_toArray, List.set_cons_zero, List.set_cons_succ])
  refine callH (i := 5) { dst := some 21, op := Go.Op.call { callee := Go.Callee.value (Go.Operand.func 77), args := #[Go.Operand.tmp 20], argTypes := #[42] }, type := 139, pos := "super.go:67", after := #[{ on := 4, ground := Go.Ground.data }, { on := 2, ground := Go.Ground.chain }], guard := none } (by kernel_rfl) rfl rfl (fun K hK => ?_)
  go_simp
  refine (SM _ hH).mono ?_
  rintro e v2 ⟨rfl, rfl⟩
  have m2 := hH
  clear hH
  refine hK.out _ _ m2 (fun hH => ?_)
  clear hK K
  (try simp only [Act.put, List.setIfInBounds_toArray, List.set_cons_zero, List.set_cons_succ])
  refine takeH (i := 6) (dst := some 22) (v := ?v11) rfl rfl (by kernel_rfl) (by kernel_rfl) (by kernel_rfl) (fun _ _ _ h => h) rfl ?hy11 hH rfl ?rest11
  case hy11 => (intro W hW; clear hW; go_simp; try with_reducible rfl)
  (try simp only [Act.put, List.setIfInBounds_toArray, List.set_cons_zero, List.set_cons_succ])
  refine takeH (i := 7) (dst := some 23) (v := ?v12) rfl rfl (by kernel_rfl) (by kernel_rfl) (by kernel_rfl) (fun _ _ _ h => h) rfl ?hy12 hH rfl ?rest12
  case hy12 => (intro W hW; clear hW; go_simp; try with_reducible rfl)
  (try simp only [Act.put, List.setIfInBounds_toArray, List.set_cons_zero, List.set_cons_succ])
  refine wpAnyH_done (by kernel_rfl) ?_ _
  clear hH
  have HM : Hid (Gets w v2) := m2
  clear m1 m2 GT SM
  have READ := read_any bb off cap l hl v2 (hs.below HM.out.b (Nat.le_refl _)) hc hm
  go_wp2_with fail
  refine READ.mono ?_
  rintro e w3 ⟨rfl, hb3⟩
  clear READ
  have hb4 : Below v2.heap.size v2 (w3.alloc (.cells #[.int .i64 (rdG l), .int .i64 (rdA l), .int .i64 (rdI l), .int .i64 (rdN l)] 58)) := hb3.alloc hb3.size _
  have HM4 : Hid (Gets w (w3.alloc (.cells #[.int .i64 (rdG l), .int .i64 (rdA l), .int .i64 (rdI l), .int .i64 (rdN l)] 58))) := HM.out.up hb4
  have HR4 : Hid (Row4 (w3.alloc (.cells #[.int .i64 (rdG l), .int .i64 (rdA l), .int .i64 (rdI l), .int .i64 (rdN l)] 58)) w3.heap.size 58 (rdG l) (rdA l) (rdI l) (rdN l)) := heap_alloc_new _ _
  obtain ⟨q1, q2, _⟩ := okS_iff.1 h3
  have hcast : (((rdG l).toNat : Nat) : Int) = rdG l := Int.toNat_of_nonneg (by omega)
  have PUT := sput_ok (rdG l).toNat (rdA l) (rdI l) (rdN l) (w3.alloc (.cells #[.int .i64 (rdG l), .int .i64 (rdA l), .int .i64 (rdI l), .int .i64 (rdN l)] 58)) (ht.below HM4.out.b hw0) (by rw [hcast]; exact h3)
  rw [hcast] at PUT
  have HP : Hid _ := putL_length (rdG l).toNat (rdA l) (rdI l) (rdN l)
  generalize putL (rdG l).toNat (rdA l) (rdI l) (rdN l) = P at *
  go_wp2_with fail
  refine PUT.mono ?_
  rintro e w5 ⟨G, rfl, hG5, hGl, hb5⟩
  clear PUT
  have m5 := HM4.out.up hb5
  have HR5 : Hid (Row4 w5 w3.heap.size 58 (rdG l) (rdA l) (rdI l) (rdN l)) := HR4.out.up hb5
  have r0 := m5.r.c0
  have r1 := m5.r.c1
  have r2 := m5.r.c2
  have r3 := m5.r.c3
  have f0 := m5.r.fr 0
  have f1 := m5.r.fr 1
  have f2 := m5.r.fr 2
  have f3 := m5.r.fr 3
  have HM5 : Hid (Gets w w5) := m5
  have EQ := equal_any (some ⟨G, 0, none⟩) (some ⟨bb, off, none⟩) P l 256 cap w5 hG5.src (hs.below HM5.out.b (Nat.le_refl _))
  rw [show P.length = 256 from HP.out, hl] at EQ
  rw [show ((str P).toList == (str l).toList) = false from by simpa using (not_congr (str_beq P l)).2 h4] at EQ
  clear m5 hb5 hs hl ht hG5
  go_wp2_with fail
  refine EQ.mono ?_
  rintro e w6 ⟨rfl, rfl⟩
  clear EQ
  go_wp2
  refine bodyPost_ret (results_sup rfl _ _ w.heap.size 0 0 0 0 rfl (HM5.out.r.set 0 0 0 0)) rfl ?_
  exact ⟨err_form HE.out (by omega), below_set4 HM5.out.b (Nat.le_refl _) _ _ _ _⟩
set_option maxRecDepth 100000 in
set_option maxHeartbeats 4000000 in
theorem sget_ok (bb off cap : Nat) (l : List UInt8) (hl : l.length = 256) (w : World) (hs : Src w (some ⟨bb, off, none⟩) l) (ht : Tab w) (hc : (256 : Int) ≤ cap) (hm : (cap : Int) ≤ 9223372036854775807) (h1 : l.take 4 = markL) (h2 : getNum (l.drop 252) = sumN (l.take 252)) (h3 : okS (rdG l) (rdA l) (rdI l) (rdN l) = true) (h4 : putL (rdG l).toNat (rdA l) (rdI l) (rdN l) = l) :
    Calls Tryz.prog 83 #[.slice (some ⟨bb, off, none⟩) 256 cap] w fun e w' => e = .returned (.tuple #[.agg #[.int .i64 (getX (rdG l) l), .int .i64 (getX (rdA l) l), .int .i64 (getX (rdI l) l), .int .i64 (getX (rdN l) l)], .int .i64 (getE l)]) ∧ Below w.heap.size w w' := by
  have hal : Below w.heap.size w (w.alloc (.cells #[.int .i64 0, .int .i64 0, .int .i64 0, .int .i64 0] 58)) := (Below.refl _ _).alloc (Nat.le_refl _) _
  have HG0 : Hid (Gets w (w.alloc (.cells #[.int .i64 0, .int .i64 0, .int .i64 0, .int .i64 0] 58))) := ⟨hal, heap_alloc_new _ _⟩
  have hst := conv_str (w := w.alloc (.cells #[.int .i64 0, .int .i64 0, .int .i64 0, .int .i64 0] 58)) (sp := some ⟨bb, off, none⟩) (l := l.take 4) (by have := (hs.below hal (Nat.le_refl _)).part256 hl 0 4 (by omega); rw [List.drop_zero] at this; exact this) 4 cap (by rw [List.length_take, hl]; rfl)
  have HE : Hid (getE l = 0) := by show _ = _; rw [getE, if_neg (by omega), if_neg (by rw [h1]; exact fun c => c rfl), if_neg (fun c => c h2), if_neg (by rw [h3]; simp), if_neg (fun c => c h4)]
  rw [h1] at hst
  have hst' : (convert 42 9 (.slice (some ⟨bb, off, none⟩) 4 cap)).run Tryz.prog (w.alloc (.cells #[.int .i64 0, .int .i64 0, .int .i64 0, .int .i64 0] 58)) = .ok (.string ⟨#[76, 86, 69, 69]⟩) (w.alloc (.cells #[.int .i64 0, .int .i64 0, .int .i64 0, .int .i64 0] 58)) := hst
  clear hst
  have n1 : ¬ cap = 252 := by omega
  have b1 : (252 : Int) ≤ cap := by omega
  have hd0 : Gets w (w.alloc (.cells #[.int .i64 0, .int .i64 0, .int .i64 0, .int .i64 0] 58)).drew := HG0.out.up (Below.refl _ _).drew
  have GT : ∀ W, Gets w W → Calls Tryz.prog 123 #[.slice (some ⟨bb, off + 252, none⟩) 4 (cap - 252)] W fun e w' => e = .returned (.int .u64 (getNum (l.drop 252) : Int)) ∧ Gets w w' := by
    intro W hR
    have h := nget_any (some ⟨bb, off + 252, none⟩) ((l.drop 252).take 4) (cap - 252) W ((hs.part256 hl 252 4 (by omega)).below hR.b (Nat.le_refl _))
    rw [show ((l.drop 252).take 4).length = 4 by rw [List.length_take, List.length_drop, hl]; rfl, show (l.drop 252).take 4 = l.drop 252 from List.take_of_length_le (by rw [List.length_drop, hl]; omega)] at h
    exact h.mono fun _ _ ⟨q1, q2⟩ => ⟨q1, hR.up q2⟩
  have hw0 : 0 < w.heap.size := block_lt_of_cell (ht 0 (by omega))
  have SM : ∀ W, Gets w W → Calls Tryz.prog 77 #[.slice (some ⟨bb, off, none⟩) 252 cap] W fun e w' => e = .returned (.int .u32 (sumN (l.take 252) : Int)) ∧ w' = W := by
    intro W hR
    have h := sum_any (some ⟨bb, off, none⟩) (l.take 252) cap W (by have := (hs.part256 hl 0 252 (by omega)).below hR.b (Nat.le_refl _); rw [List.drop_zero] at this; exact this) (ht.below hR.b hw0) (by rw [List.length_take, hl]; decide)
    rw [show (l.take 252).length = 252 by rw [List.length_take, hl]; rfl] at h
    exact h
  have hslt : sumN (l.take 252) < 4294967296 := Nat.xor_lt_two_pow (n := 32) (by omega) (crcF_lt _ _ (by omega))
  rw [h2] at GT
  have u1 : InU (sumN (l.take 252) : Int) := ⟨by omega⟩
  generalize sumN (l.take 252) = M at *
  clear h1
  go_enter Tryz.func83, Tryz.ntmps83
  go_wp2_with fail
  refine wp_region_held_drew (S := (fun w' => Gets w w')) (by kernel_rfl) hd0 (fun hH => ?_)
  refine takeH (i := 0) (dst := some 16) (v := ?v13) rfl rfl (by kernel_rfl) (by kernel_rfl) (by kernel_rfl) (fun _ _ _ h => h) rfl ?hy13 hH rfl ?rest13
  case hy13 => (intro W hW; clear hW; go_simp; try with_reducible rfl)
  (try simp only [Act.put, List.setIfInBounds_toArray, List.set_cons_zero, List.set_cons_succ])
  refine takeH (i := 1) (dst := some 17) (v := ?v14) rfl rfl (by kernel_rfl) (by kernel_rfl) (by kernel_rfl) (fun _ _ _ h => h) rfl ?hy14 hH rfl ?rest14
  case hy14 => (intro W hW; clear hW; go_simp; try with_reducible rfl)
  (try simp only [Act.put, List.setIfInBounds_toArray, List.set_cons_zero, List.set_cons_succ])
  refine takeH (i := 3) (dst := some 19) (v := ?v15) rfl rfl (by kernel_rfl) (by kernel_rfl) (by kernel_rfl) (fun _ _ _ h => h) rfl ?hy15 hH rfl ?rest15
  case hy15 => (intro W hW; clear hW; go_simp; try with_reducible rfl)
  (try simp only [Act.put, List.setIfInBounds_toArray, List.set_cons_zero, List.set_cons_succ])
  refine takeH (i := 4) (dst := some 20) (v := ?v16) rfl rfl (by kernel_rfl) (by kernel_rfl) (by kernel_rfl) (fun _ _ _ h => h) rfl ?hy16 hH rfl ?rest16
  case hy16 => (intro W hW; clear hW; go_simp; try with_reducible rfl)
  (try simp only [Act.put, List.setIfInBounds_toArray, List.set_cons_zero, List.set_cons_succ])
  refine callH (i := 2) { dst := some 18, op := Go.Op.call { callee := Go.Callee.value (Go.Operand.func 123), args := #[Go.Operand.tmp 17], argTypes := #[42] }, type := 138, pos := "super.go:67", after := #[{ on := 1, ground := Go.Ground.data }], guard := none } (by kernel_rfl) rfl rfl (fun K hK => ?_)
  go_simp
  refine (GT _ hH).mono ?_
  rintro e v1 ⟨rfl, m1⟩
  clear hH
  refine hK.out _ _ m1 (fun hH => ?_)
  clear hK K
  (try simp only [Act.put, List.setIfInBounds_toArray, List.set_cons_zero, List.set_cons_succ])
  refine callH (i := 5) { dst := some 21, op := Go.Op.call { callee := Go.Callee.value (Go.Operand.func 77), args := #[Go.Operand.tmp 20], argTypes := #[42] }, type := 139, pos := "super.go:67", after := #[{ on := 4, ground := Go.Ground.data }, { on := 2, ground := Go.Ground.chain }], guard := none } (by kernel_rfl) rfl rfl (fun K hK => ?_)
  go_simp
  refine (SM _ hH).mono ?_
  rintro e v2 ⟨rfl, rfl⟩
  have m2 := hH
  clear hH
  refine hK.out _ _ m2 (fun hH => ?_)
  clear hK K
  (try simp only [Act.put, List.setIfInBounds_toArray, List.set_cons_zero, List.set_cons_succ])
  refine takeH (i := 6) (dst := some 22) (v := ?v17) rfl rfl (by kernel_rfl) (by kernel_rfl) (by kernel_rfl) (fun _ _ _ h => h) rfl ?hy17 hH rfl ?rest17
  case hy17 => (intro W hW; clear hW; go_simp; try with_reducible rfl)
  (try simp only [Act.put, List.setIfInBounds_toArray, List.set_cons_zero, List.set_cons_succ])
  refine takeH (i := 7) (dst := some 23) (v := ?v18) rfl rfl (by kernel_rfl) (by kernel_rfl) (by kernel_rfl) (fun _ _ _ h => h) rfl ?hy18 hH rfl ?rest18
  case hy18 => (intro W hW; clear hW; go_simp; try with_reducible rfl)
  (try simp only [Act.put, List.setIfInBounds_toArray, List.set_cons_zero, List.set_cons_succ])
  refine wpAnyH_done (by kernel_rfl) ?_ _
  clear hH
  have HM : Hid (Gets w v2) := m2
  clear m1 m2 GT SM
  have READ := read_any bb off cap l hl v2 (hs.below HM.out.b (Nat.le_refl _)) hc hm
  go_wp2_with fail
  refine READ.mono ?_
  rintro e w3 ⟨rfl, hb3⟩
  clear READ
  have hb4 : Below v2.heap.size v2 (w3.alloc (.cells #[.int .i64 (rdG l), .int .i64 (rdA l), .int .i64 (rdI l), .int .i64 (rdN l)] 58)) := hb3.alloc hb3.size _
  have HM4 : Hid (Gets w (w3.alloc (.cells #[.int .i64 (rdG l), .int .i64 (rdA l), .int .i64 (rdI l), .int .i64 (rdN l)] 58))) := HM.out.up hb4
  have HR4 : Hid (Row4 (w3.alloc (.cells #[.int .i64 (rdG l), .int .i64 (rdA l), .int .i64 (rdI l), .int .i64 (rdN l)] 58)) w3.heap.size 58 (rdG l) (rdA l) (rdI l) (rdN l)) := heap_alloc_new _ _
  obtain ⟨q1, q2, _⟩ := okS_iff.1 h3
  have hcast : (((rdG l).toNat : Nat) : Int) = rdG l := Int.toNat_of_nonneg (by omega)
  have PUT := sput_ok (rdG l).toNat (rdA l) (rdI l) (rdN l) (w3.alloc (.cells #[.int .i64 (rdG l), .int .i64 (rdA l), .int .i64 (rdI l), .int .i64 (rdN l)] 58)) (ht.below HM4.out.b hw0) (by rw [hcast]; exact h3)
  rw [hcast] at PUT
  have HP : Hid _ := putL_length (rdG l).toNat (rdA l) (rdI l) (rdN l)
  generalize putL (rdG l).toNat (rdA l) (rdI l) (rdN l) = P at *
  go_wp2_with fail
  refine PUT.mono ?_
  rintro e w5 ⟨G, rfl, hG5, hGl, hb5⟩
  clear PUT
  have m5 := HM4.out.up hb5
  have HR5 : Hid (Row4 w5 w3.heap.size 58 (rdG l) (rdA l) (rdI l) (rdN l)) := HR4.out.up hb5
  have r0 := m5.r.c0
  have r1 := m5.r.c1
  have r2 := m5.r.c2
  have r3 := m5.r.c3
  have f0 := m5.r.fr 0
  have f1 := m5.r.fr 1
  have f2 := m5.r.fr 2
  have f3 := m5.r.fr 3
  have HM5 : Hid (Gets w w5) := m5
  have EQ := equal_any (some ⟨G, 0, none⟩) (some ⟨bb, off, none⟩) P l 256 cap w5 hG5.src (hs.below HM5.out.b (Nat.le_refl _))
  rw [show P.length = 256 from HP.out, hl] at EQ
  rw [show ((str P).toList == (str l).toList) = true from (str_beq P l).2 h4] at EQ
  have x0 := HR5.out.c0
  have x1 := HR5.out.c1
  have x2 := HR5.out.c2
  have x3 := HR5.out.c3
  clear m5 hb5 hs hl ht hG5 h4
  go_wp2_with fail
  refine EQ.mono ?_
  rintro e w6 ⟨rfl, rfl⟩
  clear EQ
  go_wp2
  refine bodyPost_ret (results_sup rfl _ _ w.heap.size (rdG l) (rdA l) (rdI l) (rdN l) rfl (HM5.out.r.set (rdG l) (rdA l) (rdI l) (rdN l))) rfl ?_
  exact ⟨ok_form HE.out, below_set4 HM5.out.b (Nat.le_refl _) _ _ _ _⟩
theorem sget_any (bb off cap : Nat) (l : List UInt8) (hl : l.length = 256) (w : World) (hs : Src w (some ⟨bb, off, none⟩) l) (ht : Tab w) (hc : (256 : Int) ≤ cap) (hm : (cap : Int) ≤ 9223372036854775807) :
    Calls Tryz.prog 83 #[.slice (some ⟨bb, off, none⟩) 256 cap] w fun e w' => e = .returned (.tuple #[.agg #[.int .i64 (getX (rdG l) l), .int .i64 (getX (rdA l) l), .int .i64 (getX (rdI l) l), .int .i64 (getX (rdN l) l)], .int .i64 (getE l)]) ∧ Below w.heap.size w w' := by
  by_cases h1 : l.take 4 = markL
  · by_cases h2 : getNum (l.drop 252) = sumN (l.take 252)
    · cases h3 : okS (rdG l) (rdA l) (rdI l) (rdN l)
      · exact sget_arg bb off cap l hl w hs ht hc hm h1 h2 h3
      · by_cases h4 : putL (rdG l).toNat (rdA l) (rdI l) (rdN l) = l
        · exact sget_ok bb off cap l hl w hs ht hc hm h1 h2 h3 h4
        · exact sget_form bb off cap l hl w hs ht hc hm h1 h2 h3 h4
    · exact sget_sum bb off cap l hl w hs ht hc hm h1 h2
  · exact sget_mark bb off cap l hl w hs ht hc hm h1
end Go.Proofs.YtkiifmnmeikdlaaGreatDoor
/- super.Choose. -/
namespace Go.Proofs.YtkiifmnmeikdlaaGreatDoor
open Go.RowKit
set_option maxRecDepth 100000
abbrev Four := Int × Int × Int × Int
/-- The better one of the best up to now and of the bytes l, at the place 'at', on so many blocks. -/
def takes (l : List UInt8) (at' bl : Int) (b : Four) : Bool := decide (getE l = 0) && decide (rdG l % 2 = at') && decide (2 + (rdN l : Int) * rdA l ≤ bl) && decide (b.1 < rdG l)
def nextB (l : List UInt8) (at' bl : Int) (b : Four) : Four := if takes l at' bl b = true then (rdG l, (rdA l : Int), (rdI l : Int), (rdN l : Int)) else b
/-- The one of two that holds. -/
def chooseB (la lb : List UInt8) (bl : Int) : Four := nextB lb 1 bl (nextB la 0 bl (0, 0, 0, 0))
def chE (b : Four) : Int := if b.1 = 0 then 10 else 0
/-- What Get says of the slice v, whatever the world behind w. -/
def Says (w : World) (v : Value) (l : List UInt8) : Prop := ∀ W, Below w.heap.size w W → Calls Tryz.prog 83 #[v] W fun e w' => e = .returned (.tuple #[.agg #[.int .i64 (getX (rdG l) l), .int .i64 (getX (rdA l) l), .int .i64 (getX (rdI l) l), .int .i64 (getX (rdN l) l)], .int .i64 (getE l)]) ∧ Below W.heap.size W w'
theorem getE_ok {l : List UInt8} (h : getE l = 0) : okS (rdG l) (rdA l) (rdI l) (rdN l) = true := by
  unfold getE at h
  split at h
  · omega
  · split at h
    · omega
    · split at h
      · omega
      · split at h
        · omega
        · rename_i h4; simpa using h4
theorem idx0 (sa sb : Option Addr) (na ca nb cb : Nat) (W : World) : (Instr.index 92 (.agg #[.slice sa na ca, .slice sb nb cb]) (.int .i64 0)).run Tryz.prog W = .ok (.slice sa na ca) W := by
  unfold Instr.index
  go_simp
theorem idx1 (sa sb : Option Addr) (na ca nb cb : Nat) (W : World) : (Instr.index 92 (.agg #[.slice sa na ca, .slice sb nb cb]) (.int .i64 1)).run Tryz.prog W = .ok (.slice sb nb cb) W := by
  unfold Instr.index
  go_simp
structure SCh (w0 : World) (b : Four) (w : World) : Prop where
  r : Row4 w w0.heap.size 58 0 0 0 0
  m : Row4 w (w0.heap.size + 1) 58 b.1 b.2.1 b.2.2.1 b.2.2.2
  b' : Below w0.heap.size w0 w
theorem SCh.up {w0 w w' : World} {b : Four} (h : SCh w0 b w) (hb : Below w.heap.size w w') : SCh w0 b w' := ⟨h.r.up hb, h.m.up hb, h.b'.trans (hb.mono h.b'.size)⟩
theorem Row4.other {w : World} {p q : Nat} {t : TypeId} {g a i n : Int} (h : Row4 w q t g a i n) (hne : q ≠ p) (u v x y : Value) : Row4 ((((w.setCell ⟨p, 0, none⟩ u).setCell ⟨p, 1, none⟩ v).setCell ⟨p, 2, none⟩ x).setCell ⟨p, 3, none⟩ y) q t g a i n := by
  unfold Row4
  rw [heap_setCell_other _ ⟨p, 3, none⟩ q y hne, heap_setCell_other _ ⟨p, 2, none⟩ q x hne, heap_setCell_other _ ⟨p, 1, none⟩ q v hne, heap_setCell_other _ ⟨p, 0, none⟩ q u hne]; exact h
theorem SCh.set {w0 w : World} {b : Four} (h : SCh w0 b w) (g a i n : Int) : SCh w0 (g, a, i, n) ((((w.setCell ⟨w0.heap.size + 1, 0, none⟩ (.int .i64 g)).setCell ⟨w0.heap.size + 1, 1, none⟩ (.int .i64 a)).setCell ⟨w0.heap.size + 1, 2, none⟩ (.int .i64 i)).setCell ⟨w0.heap.size + 1, 3, none⟩ (.int .i64 n)) :=
  ⟨h.r.other (by omega) _ _ _ _, h.m.set g a i n, below_set4 h.b' (by omega) _ _ _ _⟩
theorem ch0 (w : World) : SCh w (0, 0, 0, 0) ((w.alloc (.cells #[.int .i64 0, .int .i64 0, .int .i64 0, .int .i64 0] 58)).alloc (.cells #[.int .i64 0, .int .i64 0, .int .i64 0, .int .i64 0] 58)) :=
  ⟨heap_alloc2_old _ _ _, heap_alloc2_new _ _ _, two_allocs _ _ _⟩
theorem results_sup3 {fn : Func} {p u v : Tmp} (h : fn.results = #[.cell p 58, .tmp u, .tmp v]) (tmps : Array Value) (w : World) (G : Nat) (g a i n : Int) (hp : tmps.getD p undef = .pointer (some ⟨G, 0, none⟩)) (hg : Row4 w G 58 g a i n) :
    (results fn tmps).run Tryz.prog w = .ok (.tuple #[.agg #[.int .i64 g, .int .i64 a, .int .i64 i, .int .i64 n], tmps.getD u undef, tmps.getD v undef]) w := by
  have hp' : tmps[p]?.getD undef = .pointer (some ⟨G, 0, none⟩) := by simpa using hp
  simp [results, h, hp', asAddr, run_loadVar_row w G 58 58 _ _ _ hg Tryz.underlying58 rfl Tryz.sz58, Result.andThen]
theorem nextB_no {l : List UInt8} {at' bl : Int} {b : Four} (h : takes l at' bl b = false) : nextB l at' bl b = b := by rw [nextB, if_neg (by rw [h]; simp)]
theorem nextB_yes {l : List UInt8} {at' bl : Int} {b : Four} (h : takes l at' bl b = true) : nextB l at' bl b = (rdG l, (rdA l : Int), (rdI l : Int), (rdN l : Int)) := by rw [nextB, if_pos h]
/-- A best one is none, or can be. -/
def Best (b : Four) : Prop := b = (0, 0, 0, 0) ∨ 1 ≤ b.1
theorem Best.next {l : List UInt8} {at' bl : Int} {b : Four} (h : Best b) : Best (nextB l at' bl b) := by
  cases ht : takes l at' bl b
  · rw [nextB_no ht]; exact h
  · rw [nextB_yes ht]
    simp only [takes, Bool.and_eq_true, decide_eq_true_eq] at ht
    exact .inr (okS_iff.1 (getE_ok ht.1.1.1)).1
structure ChS (w0 : World) (g a i n : Int) (w : World) : Prop where
  m : Row4 w (w0.heap.size + 1) 58 g a i n
  b : Below w0.heap.size w0 w
  r : ∃ y0 y1 y2 y3, Row4 w w0.heap.size 58 y0 y1 y2 y3
theorem ChS.up {w0 w w' : World} {g a i n : Int} (h : ChS w0 g a i n w) (hb : Below w.heap.size w w') : ChS w0 g a i n w' := by
  obtain ⟨y0, y1, y2, y3, hr⟩ := h.r
  exact ⟨h.m.up hb, h.b.trans (hb.mono h.b.size), y0, y1, y2, y3, hr.up hb⟩
set_option maxRecDepth 100000 in
set_option maxHeartbeats 4000000 in
theorem choose_any (sa sb : Option Addr) (na ca nb cb : Nat) (la lb : List UInt8) (bl : Int) (w : World) (hA : Says w (.slice sa na ca) la) (hB : Says w (.slice sb nb cb) lb) :
    Calls Tryz.prog 46 #[.slice sa na ca, .slice sb nb cb, .int .i64 bl] w fun e w' => e = .returned (.tuple #[.agg #[.int .i64 (chooseB la lb bl).1, .int .i64 (chooseB la lb bl).2.1, .int .i64 (chooseB la lb bl).2.2.1, .int .i64 (chooseB la lb bl).2.2.2], .int .i64 ((chooseB la lb bl).1 % 2), .int .i64 (chE (chooseB la lb bl))]) ∧ Below w.heap.size w w' := by
  have H0 : Hid _ := ch0 w
  have I0 := idx0 sa sb na ca nb cb
  have I1 := idx1 sa sb na ca nb cb
  have HA : Hid (Says w (.slice sa na ca) la) := hA
  have HB : Hid (Says w (.slice sb nb cb) lb) := hB
  have HBest : Hid (Best (chooseB la lb bl)) := Best.next (Best.next (.inl rfl))
  clear hA hB
  go_enter Tryz.func46, Tryz.ntmps46
  go_wp2
  go_loopw [17] (fun v wr => (v = .int .i64 0 ∧ SCh w (0, 0, 0, 0) wr) ∨ (v = .int .i64 1 ∧ SCh w (nextB la 0 bl (0, 0, 0, 0)) wr) ∨ (v = .int .i64 2 ∧ SCh w (chooseB la lb bl) wr)) (fun v _ => 2 - (Go.RowKit.intOf v).toNat)
  case atStart => exact .inl ⟨rfl, H0.out⟩
  case round =>
    clear H0
    rcases hrel with ⟨rfl, hC⟩ | ⟨rfl, hC⟩ | ⟨rfl, hC⟩
    · have SAY := HA.out wr hC.b'
      have HC : Hid (SCh w ((0, 0, 0, 0) : Four) wr) := hC
      clear hC
      by_cases hE : getE la = 0
      · rw [getX_ok hE, getX_ok hE, getX_ok hE, getX_ok hE, hE] at SAY
        obtain ⟨q1, q2, hgeo⟩ := okS_iff.1 (getE_ok hE)
        have hpr := hgeo.prod
        have PL := fun W => splace_any (rdG la) (rdA la) (rdI la) (rdN la) W (by omega)
        have SZ := fun W => size_any (rdA la) (rdI la) (rdN la) W
        rw [if_pos hgeo] at SZ
        by_cases hP : rdG la % 2 = 0
        · by_cases hS : 2 + (rdN la : Int) * rdA la ≤ bl
          · by_cases hG : ((0, 0, 0, 0) : Four).1 < rdG la
            · have HT : Hid (takes la 0 bl ((0, 0, 0, 0) : Four) = true) := by show _ = _; simp [takes, hE, hP, hS, hG]
              have hP1 : (rdG la % 2 == 0) = true := beq_iff_eq.2 hP
              go_wp2_with fail
              refine SAY.mono ?_
              rintro e w1 ⟨rfl, hb1⟩
              clear SAY
              have HC1 : Hid (SCh w ((0, 0, 0, 0) : Four) w1) := HC.out.up hb1
              have HR1 : Hid (Row4 (w1.alloc (.cells #[.int .i64 (rdG la), .int .i64 (rdA la), .int .i64 (rdI la), .int .i64 (rdN la)] 58)) w1.heap.size 58 (rdG la) (rdA la) (rdI la) (rdN la)) := heap_alloc_new _ _
              have HC2 : Hid (SCh w ((0, 0, 0, 0) : Four) (w1.alloc (.cells #[.int .i64 (rdG la), .int .i64 (rdA la), .int .i64 (rdI la), .int .i64 (rdN la)] 58))) := HC1.out.up ((Below.refl _ _).alloc (Nat.le_refl _) _)
              go_wp2_with fail
              refine (PL _).mono ?_
              rintro e w2 ⟨rfl, hb2⟩
              have HC3 : Hid (SCh w ((0, 0, 0, 0) : Four) w2) := HC2.out.up hb2
              have HR3 : Hid (Row4 w2 w1.heap.size 58 (rdG la) (rdA la) (rdI la) (rdN la)) := HR1.out.up hb2
              have x0 := HR3.out.c0
              have x1 := HR3.out.c1
              have x2 := HR3.out.c2
              have x3 := HR3.out.c3
              go_wp2_with fail
              refine (SZ _).mono ?_
              rintro e w3 ⟨rfl, hb3⟩
              have HC4 : Hid (SCh w ((0, 0, 0, 0) : Four) w3) := HC3.out.up hb3
              have HR4 : Hid (Row4 w3 w1.heap.size 58 (rdG la) (rdA la) (rdI la) (rdN la)) := HR3.out.up hb3
              clear x0 x1 x2 x3
              have x0 := HR4.out.c0
              have x1 := HR4.out.c1
              have x2 := HR4.out.c2
              have x3 := HR4.out.c3
              have m0 := HC4.out.m.c0
              have m1 := HC4.out.m.c1
              have m2 := HC4.out.m.c2
              have m3 := HC4.out.m.c3
              have f0 := HC4.out.m.fr 0
              have f1 := HC4.out.m.fr 1
              have f2 := HC4.out.m.fr 2
              have f3 := HC4.out.m.fr 3
              go_wp2
              go_roundw
              case rel => exact .inr (.inl ⟨by go_num, by show SCh w (nextB la 0 bl ((0, 0, 0, 0) : Four)) _; rw [nextB_yes HT.out]; exact HC4.out.set _ _ _ _⟩)
              case measure => simp [Go.RowKit.intOf]
            · exact absurd (show (0 : Int) < rdG la by omega) hG
          · have HT : Hid (takes la 0 bl ((0, 0, 0, 0) : Four) = false) := by show _ = _; simp [takes, hE, hP, hS]
            have hP1 : (rdG la % 2 == 0) = true := beq_iff_eq.2 hP
            go_wp2_with fail
            refine SAY.mono ?_
            rintro e w1 ⟨rfl, hb1⟩
            clear SAY
            have HC1 : Hid (SCh w ((0, 0, 0, 0) : Four) w1) := HC.out.up hb1
            have HR1 : Hid (Row4 (w1.alloc (.cells #[.int .i64 (rdG la), .int .i64 (rdA la), .int .i64 (rdI la), .int .i64 (rdN la)] 58)) w1.heap.size 58 (rdG la) (rdA la) (rdI la) (rdN la)) := heap_alloc_new _ _
            have HC2 : Hid (SCh w ((0, 0, 0, 0) : Four) (w1.alloc (.cells #[.int .i64 (rdG la), .int .i64 (rdA la), .int .i64 (rdI la), .int .i64 (rdN la)] 58))) := HC1.out.up ((Below.refl _ _).alloc (Nat.le_refl _) _)
            go_wp2_with fail
            refine (PL _).mono ?_
            rintro e w2 ⟨rfl, hb2⟩
            have HC3 : Hid (SCh w ((0, 0, 0, 0) : Four) w2) := HC2.out.up hb2
            have HR3 : Hid (Row4 w2 w1.heap.size 58 (rdG la) (rdA la) (rdI la) (rdN la)) := HR1.out.up hb2
            have x0 := HR3.out.c0
            have x1 := HR3.out.c1
            have x2 := HR3.out.c2
            have x3 := HR3.out.c3
            go_wp2_with fail
            refine (SZ _).mono ?_
            rintro e w3 ⟨rfl, hb3⟩
            have HC4 : Hid (SCh w ((0, 0, 0, 0) : Four) w3) := HC3.out.up hb3
            have HR4 : Hid (Row4 w3 w1.heap.size 58 (rdG la) (rdA la) (rdI la) (rdN la)) := HR3.out.up hb3
            go_wp2
            go_roundw
            case rel => exact .inr (.inl ⟨by go_num, by show SCh w (nextB la 0 bl ((0, 0, 0, 0) : Four)) _; rw [nextB_no HT.out]; exact HC4.out⟩)
            case measure => simp [Go.RowKit.intOf]
        · have hP1 : (rdG la % 2 == 0) = false := beq_eq_false_iff_ne.2 hP
          have HT : Hid (takes la 0 bl ((0, 0, 0, 0) : Four) = false) := by show _ = _; simp [takes, hE, hP]
          go_wp2_with fail
          refine SAY.mono ?_
          rintro e w1 ⟨rfl, hb1⟩
          clear SAY
          have HC1 : Hid (SCh w ((0, 0, 0, 0) : Four) w1) := HC.out.up hb1
          have HR1 : Hid (Row4 (w1.alloc (.cells #[.int .i64 (rdG la), .int .i64 (rdA la), .int .i64 (rdI la), .int .i64 (rdN la)] 58)) w1.heap.size 58 (rdG la) (rdA la) (rdI la) (rdN la)) := heap_alloc_new _ _
          have HC2 : Hid (SCh w ((0, 0, 0, 0) : Four) (w1.alloc (.cells #[.int .i64 (rdG la), .int .i64 (rdA la), .int .i64 (rdI la), .int .i64 (rdN la)] 58))) := HC1.out.up ((Below.refl _ _).alloc (Nat.le_refl _) _)
          go_wp2_with fail
          refine (PL _).mono ?_
          rintro e w2 ⟨rfl, hb2⟩
          have HC3 : Hid (SCh w ((0, 0, 0, 0) : Four) w2) := HC2.out.up hb2
          have HR3 : Hid (Row4 w2 w1.heap.size 58 (rdG la) (rdA la) (rdI la) (rdN la)) := HR1.out.up hb2
          go_wp2
          go_roundw
          case rel => exact .inr (.inl ⟨by go_num, by show SCh w (nextB la 0 bl ((0, 0, 0, 0) : Four)) _; rw [nextB_no HT.out]; exact HC3.out⟩)
          case measure => simp [Go.RowKit.intOf]
      · have hE1 : (getE la == 0) = false := beq_eq_false_iff_ne.2 hE
        have HT : Hid (takes la 0 bl ((0, 0, 0, 0) : Four) = false) := by show _ = _; simp [takes, hE]
        go_wp2_with fail
        refine SAY.mono ?_
        rintro e w1 ⟨rfl, hb1⟩
        clear SAY
        have HC1 : Hid (SCh w ((0, 0, 0, 0) : Four) w1) := HC.out.up hb1
        have HR1 : Hid (Row4 (w1.alloc (.cells #[.int .i64 (getX (rdG la) la), .int .i64 (getX (rdA la) la), .int .i64 (getX (rdI la) la), .int .i64 (getX (rdN la) la)] 58)) w1.heap.size 58 (getX (rdG la) la) (getX (rdA la) la) (getX (rdI la) la) (getX (rdN la) la)) := heap_alloc_new _ _
        have HC2 : Hid (SCh w ((0, 0, 0, 0) : Four) (w1.alloc (.cells #[.int .i64 (getX (rdG la) la), .int .i64 (getX (rdA la) la), .int .i64 (getX (rdI la) la), .int .i64 (getX (rdN la) la)] 58))) := HC1.out.up ((Below.refl _ _).alloc (Nat.le_refl _) _)
        go_wp2
        go_roundw
        case rel => exact .inr (.inl ⟨by go_num, by show SCh w (nextB la 0 bl ((0, 0, 0, 0) : Four)) _; rw [nextB_no HT.out]; exact HC2.out⟩)
        case measure => simp [Go.RowKit.intOf]
    · have SAY := HB.out wr hC.b'
      have HC : Hid (SCh w (nextB la 0 bl (0, 0, 0, 0)) wr) := hC
      clear hC
      by_cases hE : getE lb = 0
      · rw [getX_ok hE, getX_ok hE, getX_ok hE, getX_ok hE, hE] at SAY
        obtain ⟨q1, q2, hgeo⟩ := okS_iff.1 (getE_ok hE)
        have hpr := hgeo.prod
        have PL := fun W => splace_any (rdG lb) (rdA lb) (rdI lb) (rdN lb) W (by omega)
        have SZ := fun W => size_any (rdA lb) (rdI lb) (rdN lb) W
        rw [if_pos hgeo] at SZ
        by_cases hP : rdG lb % 2 = 1
        · by_cases hS : 2 + (rdN lb : Int) * rdA lb ≤ bl
          · by_cases hG : (nextB la 0 bl (0, 0, 0, 0)).1 < rdG lb
            · have HT : Hid (takes lb 1 bl (nextB la 0 bl (0, 0, 0, 0)) = true) := by show _ = _; simp [takes, hE, hP, hS, hG]
              have hP1 : (rdG lb % 2 == 1) = true := beq_iff_eq.2 hP
              go_wp2_with fail
              refine SAY.mono ?_
              rintro e w1 ⟨rfl, hb1⟩
              clear SAY
              have HC1 : Hid (SCh w (nextB la 0 bl (0, 0, 0, 0)) w1) := HC.out.up hb1
              have HR1 : Hid (Row4 (w1.alloc (.cells #[.int .i64 (rdG lb), .int .i64 (rdA lb), .int .i64 (rdI lb), .int .i64 (rdN lb)] 58)) w1.heap.size 58 (rdG lb) (rdA lb) (rdI lb) (rdN lb)) := heap_alloc_new _ _
              have HC2 : Hid (SCh w (nextB la 0 bl (0, 0, 0, 0)) (w1.alloc (.cells #[.int .i64 (rdG lb), .int .i64 (rdA lb), .int .i64 (rdI lb), .int .i64 (rdN lb)] 58))) := HC1.out.up ((Below.refl _ _).alloc (Nat.le_refl _) _)
              go_wp2_with fail
              refine (PL _).mono ?_
              rintro e w2 ⟨rfl, hb2⟩
              have HC3 : Hid (SCh w (nextB la 0 bl (0, 0, 0, 0)) w2) := HC2.out.up hb2
              have HR3 : Hid (Row4 w2 w1.heap.size 58 (rdG lb) (rdA lb) (rdI lb) (rdN lb)) := HR1.out.up hb2
              have x0 := HR3.out.c0
              have x1 := HR3.out.c1
              have x2 := HR3.out.c2
              have x3 := HR3.out.c3
              go_wp2_with fail
              refine (SZ _).mono ?_
              rintro e w3 ⟨rfl, hb3⟩
              have HC4 : Hid (SCh w (nextB la 0 bl (0, 0, 0, 0)) w3) := HC3.out.up hb3
              have HR4 : Hid (Row4 w3 w1.heap.size 58 (rdG lb) (rdA lb) (rdI lb) (rdN lb)) := HR3.out.up hb3
              clear x0 x1 x2 x3
              have x0 := HR4.out.c0
              have x1 := HR4.out.c1
              have x2 := HR4.out.c2
              have x3 := HR4.out.c3
              have m0 := HC4.out.m.c0
              have m1 := HC4.out.m.c1
              have m2 := HC4.out.m.c2
              have m3 := HC4.out.m.c3
              have f0 := HC4.out.m.fr 0
              have f1 := HC4.out.m.fr 1
              have f2 := HC4.out.m.fr 2
              have f3 := HC4.out.m.fr 3
              go_wp2
              go_roundw
              case rel => exact .inr (.inr ⟨by go_num, by show SCh w (nextB lb 1 bl (nextB la 0 bl (0, 0, 0, 0))) _; rw [nextB_yes HT.out]; exact HC4.out.set _ _ _ _⟩)
              case measure => simp [Go.RowKit.intOf]
            · have HT : Hid (takes lb 1 bl (nextB la 0 bl (0, 0, 0, 0)) = false) := by show _ = _; simp [takes, hE, hP, hS]; omega
              have hP1 : (rdG lb % 2 == 1) = true := beq_iff_eq.2 hP
              go_wp2_with fail
              refine SAY.mono ?_
              rintro e w1 ⟨rfl, hb1⟩
              clear SAY
              have HC1 : Hid (SCh w (nextB la 0 bl (0, 0, 0, 0)) w1) := HC.out.up hb1
              have HR1 : Hid (Row4 (w1.alloc (.cells #[.int .i64 (rdG lb), .int .i64 (rdA lb), .int .i64 (rdI lb), .int .i64 (rdN lb)] 58)) w1.heap.size 58 (rdG lb) (rdA lb) (rdI lb) (rdN lb)) := heap_alloc_new _ _
              have HC2 : Hid (SCh w (nextB la 0 bl (0, 0, 0, 0)) (w1.alloc (.cells #[.int .i64 (rdG lb), .int .i64 (rdA lb), .int .i64 (rdI lb), .int .i64 (rdN lb)] 58))) := HC1.out.up ((Below.refl _ _).alloc (Nat.le_refl _) _)
              go_wp2_with fail
              refine (PL _).mono ?_
              rintro e w2 ⟨rfl, hb2⟩
              have HC3 : Hid (SCh w (nextB la 0 bl (0, 0, 0, 0)) w2) := HC2.out.up hb2
              have HR3 : Hid (Row4 w2 w1.heap.size 58 (rdG lb) (rdA lb) (rdI lb) (rdN lb)) := HR1.out.up hb2
              have x0 := HR3.out.c0
              have x1 := HR3.out.c1
              have x2 := HR3.out.c2
              have x3 := HR3.out.c3
              go_wp2_with fail
              refine (SZ _).mono ?_
              rintro e w3 ⟨rfl, hb3⟩
              have HC4 : Hid (SCh w (nextB la 0 bl (0, 0, 0, 0)) w3) := HC3.out.up hb3
              have HR4 : Hid (Row4 w3 w1.heap.size 58 (rdG lb) (rdA lb) (rdI lb) (rdN lb)) := HR3.out.up hb3
              clear x0 x1 x2 x3
              have x0 := HR4.out.c0
              have x1 := HR4.out.c1
              have x2 := HR4.out.c2
              have x3 := HR4.out.c3
              have m0 := HC4.out.m.c0
              go_wp2
              go_roundw
              case rel => exact .inr (.inr ⟨by go_num, by show SCh w (nextB lb 1 bl (nextB la 0 bl (0, 0, 0, 0))) _; rw [nextB_no HT.out]; exact HC4.out⟩)
              case measure => simp [Go.RowKit.intOf]
          · have HT : Hid (takes lb 1 bl (nextB la 0 bl (0, 0, 0, 0)) = false) := by show _ = _; simp [takes, hE, hP, hS]
            have hP1 : (rdG lb % 2 == 1) = true := beq_iff_eq.2 hP
            go_wp2_with fail
            refine SAY.mono ?_
            rintro e w1 ⟨rfl, hb1⟩
            clear SAY
            have HC1 : Hid (SCh w (nextB la 0 bl (0, 0, 0, 0)) w1) := HC.out.up hb1
            have HR1 : Hid (Row4 (w1.alloc (.cells #[.int .i64 (rdG lb), .int .i64 (rdA lb), .int .i64 (rdI lb), .int .i64 (rdN lb)] 58)) w1.heap.size 58 (rdG lb) (rdA lb) (rdI lb) (rdN lb)) := heap_alloc_new _ _
            have HC2 : Hid (SCh w (nextB la 0 bl (0, 0, 0, 0)) (w1.alloc (.cells #[.int .i64 (rdG lb), .int .i64 (rdA lb), .int .i64 (rdI lb), .int .i64 (rdN lb)] 58))) := HC1.out.up ((Below.refl _ _).alloc (Nat.le_refl _) _)
            go_wp2_with fail
            refine (PL _).mono ?_
            rintro e w2 ⟨rfl, hb2⟩
            have HC3 : Hid (SCh w (nextB la 0 bl (0, 0, 0, 0)) w2) := HC2.out.up hb2
            have HR3 : Hid (Row4 w2 w1.heap.size 58 (rdG lb) (rdA lb) (rdI lb) (rdN lb)) := HR1.out.up hb2
            have x0 := HR3.out.c0
            have x1 := HR3.out.c1
            have x2 := HR3.out.c2
            have x3 := HR3.out.c3
            go_wp2_with fail
            refine (SZ _).mono ?_
            rintro e w3 ⟨rfl, hb3⟩
            have HC4 : Hid (SCh w (nextB la 0 bl (0, 0, 0, 0)) w3) := HC3.out.up hb3
            have HR4 : Hid (Row4 w3 w1.heap.size 58 (rdG lb) (rdA lb) (rdI lb) (rdN lb)) := HR3.out.up hb3
            go_wp2
            go_roundw
            case rel => exact .inr (.inr ⟨by go_num, by show SCh w (nextB lb 1 bl (nextB la 0 bl (0, 0, 0, 0))) _; rw [nextB_no HT.out]; exact HC4.out⟩)
            case measure => simp [Go.RowKit.intOf]
        · have hP1 : (rdG lb % 2 == 1) = false := beq_eq_false_iff_ne.2 hP
          have HT : Hid (takes lb 1 bl (nextB la 0 bl (0, 0, 0, 0)) = false) := by show _ = _; simp [takes, hE, hP]
          go_wp2_with fail
          refine SAY.mono ?_
          rintro e w1 ⟨rfl, hb1⟩
          clear SAY
          have HC1 : Hid (SCh w (nextB la 0 bl (0, 0, 0, 0)) w1) := HC.out.up hb1
          have HR1 : Hid (Row4 (w1.alloc (.cells #[.int .i64 (rdG lb), .int .i64 (rdA lb), .int .i64 (rdI lb), .int .i64 (rdN lb)] 58)) w1.heap.size 58 (rdG lb) (rdA lb) (rdI lb) (rdN lb)) := heap_alloc_new _ _
          have HC2 : Hid (SCh w (nextB la 0 bl (0, 0, 0, 0)) (w1.alloc (.cells #[.int .i64 (rdG lb), .int .i64 (rdA lb), .int .i64 (rdI lb), .int .i64 (rdN lb)] 58))) := HC1.out.up ((Below.refl _ _).alloc (Nat.le_refl _) _)
          go_wp2_with fail
          refine (PL _).mono ?_
          rintro e w2 ⟨rfl, hb2⟩
          have HC3 : Hid (SCh w (nextB la 0 bl (0, 0, 0, 0)) w2) := HC2.out.up hb2
          have HR3 : Hid (Row4 w2 w1.heap.size 58 (rdG lb) (rdA lb) (rdI lb) (rdN lb)) := HR1.out.up hb2
          go_wp2
          go_roundw
          case rel => exact .inr (.inr ⟨by go_num, by show SCh w (nextB lb 1 bl (nextB la 0 bl (0, 0, 0, 0))) _; rw [nextB_no HT.out]; exact HC3.out⟩)
          case measure => simp [Go.RowKit.intOf]
      · have hE1 : (getE lb == 0) = false := beq_eq_false_iff_ne.2 hE
        have HT : Hid (takes lb 1 bl (nextB la 0 bl (0, 0, 0, 0)) = false) := by show _ = _; simp [takes, hE]
        go_wp2_with fail
        refine SAY.mono ?_
        rintro e w1 ⟨rfl, hb1⟩
        clear SAY
        have HC1 : Hid (SCh w (nextB la 0 bl (0, 0, 0, 0)) w1) := HC.out.up hb1
        have HR1 : Hid (Row4 (w1.alloc (.cells #[.int .i64 (getX (rdG lb) lb), .int .i64 (getX (rdA lb) lb), .int .i64 (getX (rdI lb) lb), .int .i64 (getX (rdN lb) lb)] 58)) w1.heap.size 58 (getX (rdG lb) lb) (getX (rdA lb) lb) (getX (rdI lb) lb) (getX (rdN lb) lb)) := heap_alloc_new _ _
        have HC2 : Hid (SCh w (nextB la 0 bl (0, 0, 0, 0)) (w1.alloc (.cells #[.int .i64 (getX (rdG lb) lb), .int .i64 (getX (rdA lb) lb), .int .i64 (getX (rdI lb) lb), .int .i64 (getX (rdN lb) lb)] 58))) := HC1.out.up ((Below.refl _ _).alloc (Nat.le_refl _) _)
        go_wp2
        go_roundw
        case rel => exact .inr (.inr ⟨by go_num, by show SCh w (nextB lb 1 bl (nextB la 0 bl (0, 0, 0, 0))) _; rw [nextB_no HT.out]; exact HC2.out⟩)
        case measure => simp [Go.RowKit.intOf]
    · obtain ⟨b, HBe⟩ : ∃ b, Hid (chooseB la lb bl = b) := ⟨_, rfl⟩
      have HC : Hid (SCh w b wr) := by have := hC; rw [HBe.out] at this; exact this
      have HB2 : Hid (Best b) := by have := HBest.out; rw [HBe.out] at this; exact this
      clear hC HBest HA HB
      rcases HB2.out with hz | hz
      · subst hz
        have m0 := HC.out.m.c0
        have m1 := HC.out.m.c1
        have m2 := HC.out.m.c2
        have m3 := HC.out.m.c3
        have r0 := HC.out.r.c0
        have r1 := HC.out.r.c1
        have r2 := HC.out.r.c2
        have r3 := HC.out.r.c3
        have f0 := HC.out.r.fr 0
        have f1 := HC.out.r.fr 1
        have f2 := HC.out.r.fr 2
        have f3 := HC.out.r.fr 3
        go_wp2
        refine bodyPost_ret (results_sup3 rfl _ _ w.heap.size 0 0 0 0 rfl (HC.out.r.set 0 0 0 0)) rfl ?_
        exact ⟨by rw [HBe.out]; rfl, below_set4 HC.out.b' (Nat.le_refl _) _ _ _ _⟩
      · obtain ⟨g, a, i, n⟩ := b
        have hz1 : 1 ≤ g := hz
        have hz0 : (g == 0) = false := beq_eq_false_iff_ne.2 (by omega)
        have hd : SCh w (g, a, i, n) wr.drew := HC.out.up (Below.refl _ _).drew
        have m0 := HC.out.m.c0
        have m1 := HC.out.m.c1
        have m2 := HC.out.m.c2
        have m3 := HC.out.m.c3
        have PL := fun W => splace_any g a i n W (by omega)
        clear hz HC
        go_wp2_with fail
        have hS0 : ChS w g a i n wr.drew := ⟨hd.m, hd.b', _, _, _, _, hd.r⟩
        refine wp_region_held_drew (S := (fun w' => ChS w g a i n w')) (by kernel_rfl) hS0 (fun hH => ?_)
        refine takeH (i := 0) (dst := some 54) (v := ?v1) rfl rfl (by kernel_rfl) (by kernel_rfl) (by kernel_rfl) (fun _ _ _ h => h) rfl ?hy1 hH rfl ?rest1
        case hy1 => (intro W hW; have q0 := hW.m.c0; have q1 := hW.m.c1; have q2 := hW.m.c2; have q3 := hW.m.c3; clear hW; go_simp; try with_reducible rfl)
        (try simp only [Act.put, List.setIfInBounds_toArray, List.set_cons_zero, List.set_cons_succ])
        refine takeH (i := 1) (dst := some 55) (v := ?v2) rfl rfl (by kernel_rfl) (by kernel_rfl) (by kernel_rfl) (fun _ _ _ h => h) rfl ?hy2 hH rfl ?rest2
        case hy2 => (intro W hW; have q0 := hW.m.c0; have q1 := hW.m.c1; have q2 := hW.m.c2; have q3 := hW.m.c3; clear hW; go_simp; try with_reducible rfl)
        (try simp only [Act.put, List.setIfInBounds_toArray, List.set_cons_zero, List.set_cons_succ])
        refine callH (i := 2) { dst := some 56, op := Go.Op.call { callee := Go.Callee.value (Go.Operand.func 75), args := #[Go.Operand.tmp 55], argTypes := #[58] }, type := 3, pos := "super.go:105", after := #[{ on := 1, ground := Go.Ground.data }], guard := none } (by kernel_rfl) rfl rfl (fun K hK => ?_)
        go_simp
        refine (PL _).mono ?_
        rintro e v1 ⟨rfl, b1⟩
        have d1 := hH.up b1
        clear hH
        refine hK.out _ _ d1 (fun hH => ?_)
        clear hK K
        (try simp only [Act.put, List.setIfInBounds_toArray, List.set_cons_zero, List.set_cons_succ])
        obtain ⟨dm, db, y0, y1, y2, y3, dr⟩ := d1
        have r0 := dr.c0
        have r1 := dr.c1
        have r2 := dr.c2
        have r3 := dr.c3
        have f0 := dr.fr 0
        have f1 := dr.fr 1
        have f2 := dr.fr 2
        have f3 := dr.fr 3
        have dR := dr.set g a i n
        have dB := below_set4 db (Nat.le_refl _) (.int .i64 g) (.int .i64 a) (.int .i64 i) (.int .i64 n)
        have dS : ChS w g a i n _ := ⟨dm.other (by omega) (.int .i64 g) (.int .i64 a) (.int .i64 i) (.int .i64 n), dB, _, _, _, _, dR⟩
        clear dr dm
        refine callH (i := 3) { dst := none, op := Go.Op.store 58 (Go.Operand.tmp 6) (Go.Operand.tmp 54), type := 0, pos := "super.go:105", after := #[{ on := 0, ground := Go.Ground.data }, { on := 2, ground := Go.Ground.chain }, { on := 0, ground := Go.Ground.phase }, { on := 1, ground := Go.Ground.textOnly Go.Departure.lateStores }, { on := 2, ground := Go.Ground.textOnly Go.Departure.lateStoresUnsure }], guard := none } (by kernel_rfl) rfl rfl (fun K hK => ?_)
        go_simp
        clear hH
        refine hK.out _ _ dS (fun hH => ?_)
        clear hK K
        (try simp only [Act.put, List.setIfInBounds_toArray, List.set_cons_zero, List.set_cons_succ])
        refine takeH (i := 4) (dst := some 7) (v := ?v3) rfl rfl (by kernel_rfl) (by kernel_rfl) (by kernel_rfl) (fun _ _ _ h => h) rfl ?hy3 hH rfl ?rest3
        case hy3 => (intro W hW; have q0 := hW.m.c0; have q1 := hW.m.c1; have q2 := hW.m.c2; have q3 := hW.m.c3; clear hW; go_simp; try with_reducible rfl)
        (try simp only [Act.put, List.setIfInBounds_toArray, List.set_cons_zero, List.set_cons_succ])
        refine takeH (i := 5) (dst := some 8) (v := ?v4) rfl rfl (by kernel_rfl) (by kernel_rfl) (by kernel_rfl) (fun _ _ _ h => h) rfl ?hy4 hH rfl ?rest4
        case hy4 => (intro W hW; have q0 := hW.m.c0; have q1 := hW.m.c1; have q2 := hW.m.c2; have q3 := hW.m.c3; clear hW; go_simp; try with_reducible rfl)
        (try simp only [Act.put, List.setIfInBounds_toArray, List.set_cons_zero, List.set_cons_succ])
        refine wpAnyH_done (by kernel_rfl) ?_ _
        clear hH
        go_wp2
        refine bodyPost_ret (results_sup3 rfl _ _ w.heap.size g a i n rfl dR) rfl ?_
        exact ⟨by rw [HBe.out, show chE (g, a, i, n) = 0 from if_neg (by show ¬ g = 0; omega)]; rfl, dB⟩
end Go.Proofs.YtkiifmnmeikdlaaGreatDoor
/- Rows of bits, as plain mathematics: how many are set, the first one that is not, rows that are not. No statement of the seat is proved here. -/
namespace Go.Proofs.YtkiifmnmeikdlaaGreatDoor
/-- The bit i of a map of bytes; false of one that is not there. -/
def gb (l : List UInt8) (i : Nat) : Bool := (l.getD (i / 8) 0).toNat.testBit (i % 8)
/-- How many of the first m are set. -/
def cnt (f : Nat → Bool) : Nat → Nat
  | 0 => 0
  | k + 1 => cnt f k + (if f k then 1 else 0)
theorem cnt_le (f : Nat → Bool) : ∀ m, cnt f m ≤ m
  | 0 => Nat.le_refl _
  | k + 1 => by have := cnt_le f k; simp only [cnt]; split <;> omega
end Go.Proofs.YtkiifmnmeikdlaaGreatDoor
/- bits.there, bits.bit, bits.bound, bits.Get; the document's Get and most. -/
namespace Go.Proofs.YtkiifmnmeikdlaaGreatDoor
open Go.RowKit
set_option maxRecDepth 100000
set_option maxHeartbeats 1000000 in
theorem there_yes (sp : Option Addr) (n cap : Nat) (i : Nat) (w : World) (h : i < 8 * n) (hn : n ≤ 140737488355328) :
    Calls Tryz.prog 187 #[.slice sp n cap, .int .i64 i] w fun e w' => e = .returned (.bool true) ∧ w' = w := by
  have h8 : (i : Int) / 8 < n := by omega
  have hi : (i : Int) ≤ 9223372036854775807 := by omega
  go_enter Tryz.func187, Tryz.ntmps187
  go_wp2
  go_ret
  exact ⟨rfl, rfl⟩
set_option maxHeartbeats 1000000 in
theorem bit_any (i : Nat) (w : World) (hi : (i : Int) ≤ 9223372036854775807) :
    Calls Tryz.prog 188 #[.int .i64 i] w fun e w' => e = .returned (.int .u8 ((2 ^ (i % 8) : Nat) : Int)) ∧ w' = w := by
  go_enter Tryz.func188, Tryz.ntmps188
  go_wp2
  go_ret
  refine ⟨?_, rfl⟩
  have e : (2 ^ (i % 8) % 256 : Int) = ((2 ^ (i % 8) : Nat) : Int) := by
    have h8 : i % 8 < 8 := Nat.mod_lt _ (by omega)
    generalize i % 8 = k at *
    match k, h8 with
    | 0, _ => rfl
    | 1, _ => rfl
    | 2, _ => rfl
    | 3, _ => rfl
    | 4, _ => rfl
    | 5, _ => rfl
    | 6, _ => rfl
    | 7, _ => rfl
  exact congrArg (fun n => Ending.returned (.int .u8 n)) e
theorem bits_and_u8_nat (a b : Nat) (ha : a < 256) (hb : b < 256) : bits .and .u8 (a : Int) (b : Int) = ((a &&& b : Nat) : Int) := by
  have hx : a &&& b < 2 ^ 8 := Nat.and_lt_two_pow _ (by omega)
  have h1 : (BitVec.ofInt 8 (a : Int)).toNat = a := by
    rw [BitVec.ofInt_natCast, BitVec.toNat_ofNat]; exact Nat.mod_eq_of_lt (by omega)
  have h2 : (BitVec.ofInt 8 (b : Int)).toNat = b := by
    rw [BitVec.ofInt_natCast, BitVec.toNat_ofNat]; exact Nat.mod_eq_of_lt (by omega)
  show IntKind.u8.wrap ((BitVec.ofInt 8 (a : Int) &&& BitVec.ofInt 8 (b : Int)).toNat : Int) = _
  rw [BitVec.toNat_and, h1, h2, IntKind.wrap_u8]
  omega
theorem bits_or_u8_nat (a b : Nat) (ha : a < 256) (hb : b < 256) : bits .or .u8 (a : Int) (b : Int) = ((a ||| b : Nat) : Int) := by
  have hx : a ||| b < 2 ^ 8 := Nat.or_lt_two_pow (by omega) (by omega)
  have h1 : (BitVec.ofInt 8 (a : Int)).toNat = a := by
    rw [BitVec.ofInt_natCast, BitVec.toNat_ofNat]; exact Nat.mod_eq_of_lt (by omega)
  have h2 : (BitVec.ofInt 8 (b : Int)).toNat = b := by
    rw [BitVec.ofInt_natCast, BitVec.toNat_ofNat]; exact Nat.mod_eq_of_lt (by omega)
  show IntKind.u8.wrap ((BitVec.ofInt 8 (a : Int) ||| BitVec.ofInt 8 (b : Int)).toNat : Int) = _
  rw [BitVec.toNat_or, h1, h2, IntKind.wrap_u8]
  omega
theorem pow8 (k : Nat) : 2 ^ (k % 8) < 256 := by
  have h8 : k % 8 < 8 := Nat.mod_lt _ (by omega)
  have : 2 ^ (k % 8) ≤ 2 ^ 7 := Nat.pow_le_pow_right (by omega) (by omega)
  omega
theorem and_fin : ∀ x : Fin 256, ∀ k : Fin 8, (((x.1 &&& 2 ^ k.1 : Nat) != 0) = x.1.testBit k.1) := by decide +kernel
theorem gb_and (x i : Nat) (hx : x < 256) : (bits .and .u8 (x : Int) (2 ^ (i % 8)) != 0) = x.testBit (i % 8) := by
  have e : (2 ^ (i % 8) : Int) = ((2 ^ (i % 8) : Nat) : Int) := by simp
  rw [e, bits_and_u8_nat x _ hx (pow8 i)]
  have := and_fin ⟨x, hx⟩ ⟨i % 8, Nat.mod_lt _ (by omega)⟩
  rw [← this]
  show (((x &&& 2 ^ (i % 8) : Nat) : Int) != 0) = ((x &&& 2 ^ (i % 8) : Nat) != 0)
  generalize (x &&& 2 ^ (i % 8)) = y
  rw [Bool.eq_iff_iff]; simp
theorem gb_at (l : List UInt8) (i : Nat) (h : i < 8 * l.length) : ∃ x : Nat, x < 256 ∧ gb l i = x.testBit (i % 8) ∧ ∃ hi : i / 8 < l.length, bv l[i / 8] = .int .u8 (x : Int) := by
  have hi : i / 8 < l.length := by omega
  refine ⟨l[i / 8].toNat, UInt8.toNat_lt _, ?_, hi, rfl⟩
  simp [gb, hi]
set_option maxHeartbeats 1000000 in
theorem get_yes (sp : Option Addr) (l : List UInt8) (cap : Nat) (i : Nat) (w : World) (hs : Src w sp l) (h : i < 8 * l.length) (hn : l.length ≤ 140737488355328) :
    Calls Tryz.prog 164 #[.slice sp l.length cap, .int .i64 i] w fun e w' => e = .returned (.bool (gb l i)) ∧ ∃ n, w' = w.drewN n := by
  obtain ⟨b, off, rfl, hb, hc⟩ := hs.at' (by omega)
  obtain ⟨x, hx, hg, hi, hv⟩ := gb_at l i h
  have hcell := hc (i / 8) hi
  rw [hv] at hcell
  clear hv hc hs
  have h8 : (i : Int) / 8 < l.length := by omega
  have hi2 : (i : Int) ≤ 9223372036854775807 := by omega
  have HG : Hid _ := hg
  clear hg hi
  go_enter Tryz.func164, Tryz.ntmps164
  go_wp2_with fail
  go_quiet (first | (go_at_call 187; exact Calls.quiet_of_same (there_yes _ _ _ _ _ h hn)) | (go_at_call 188; exact Calls.quiet_of_same (bit_any _ _ hi2)))
  go_wp2
  go_ret
  refine ⟨?_, _, rfl⟩
  exact congrArg (fun b => Ending.returned (.bool b)) ((gb_and x i hx).trans HG.out.symm)
/-- How many the first n are. -/
def bnd (len : Nat) (n : Int) : Nat := (min (max n 0) (8 * (len : Int))).toNat
theorem bnd_le (len : Nat) (n : Int) : bnd len n ≤ 8 * len := by unfold bnd; omega
theorem bnd_of (len : Nat) (n : Int) : (n < 0 ∧ bnd len n = 0) ∨ (0 ≤ n ∧ n ≤ 8 * (len : Int) ∧ (bnd len n : Int) = n) ∨ (8 * (len : Int) < n ∧ bnd len n = 8 * len) := by unfold bnd; omega
set_option maxHeartbeats 1000000 in
theorem bound_any (sp : Option Addr) (len cap : Nat) (n : Int) (w : World) (hn : len ≤ 140737488355328) :
    Calls Tryz.prog 163 #[.slice sp len cap, .int .i64 n] w fun e w' => e = .returned (.int .i64 (bnd len n : Int)) ∧ w' = w := by
  rcases bnd_of len n with ⟨h1, h2⟩ | ⟨h1, h2, h3⟩ | ⟨h1, h2⟩
  · have HB : Hid _ := h2
    clear h2
    have h4 : (0 : Int) ≤ 8 * (len : Int) := by omega
    go_enter Tryz.func163, Tryz.ntmps163
    go_wp2
    all_goals first | (exfalso; omega) | skip
    all_goals
      go_ret
      refine ⟨?_, rfl⟩
      rw [HB.out]; rfl
  · have HB : Hid _ := h3
    clear h3
    go_enter Tryz.func163, Tryz.ntmps163
    go_wp2
    all_goals first | (exfalso; omega) | skip
    all_goals
      go_ret
      refine ⟨?_, rfl⟩
      rw [HB.out]; rfl
  · have HB : Hid _ := h2
    clear h2
    have h0 : 0 ≤ n := by omega
    go_enter Tryz.func163, Tryz.ntmps163
    go_wp2
    all_goals first | (exfalso; omega) | skip
    all_goals
      go_ret
      refine ⟨?_, rfl⟩
      rw [HB.out]; rfl
end Go.Proofs.YtkiifmnmeikdlaaGreatDoor
/- bits.Count, First, Run, Longest, and the document's: each tells what the mathematics says. -/
namespace Go.Proofs.YtkiifmnmeikdlaaGreatDoor
open Go.RowKit
set_option maxRecDepth 100000
theorem Src.drew {w : World} {sp : Option Addr} {l : List UInt8} (h : Src w sp l) (d : Nat) : Src (w.drewN d) sp l := h.below (below_drewN (Below.refl _ _) d) (Nat.le_refl _)
set_option maxHeartbeats 1000000 in
theorem count_any (sp : Option Addr) (l : List UInt8) (cap : Nat) (n : Int) (w : World) (hs : Src w sp l) (hn : l.length ≤ 140737488355328) :
    Calls Tryz.prog 134 #[.slice sp l.length cap, .int .i64 n] w fun e w' => e = .returned (.int .i64 (cnt (gb l) (bnd l.length n) : Nat)) ∧ ∃ d, w' = w.drewN d := by
  have hm := bnd_le l.length n
  have BD := bound_any sp l.length cap n w hn
  generalize bnd l.length n = m at hm BD ⊢
  go_enter Tryz.func134, Tryz.ntmps134
  go_wp2_with fail
  refine BD.mono ?_
  rintro e w' ⟨rfl, rfl⟩
  clear BD
  go_wp2_with fail
  go_loopw [5, 10] (fun s i wr => ∃ k : Nat, k ≤ m ∧ i = .int .i64 k ∧ s = .int .i64 (cnt (gb l) k : Nat) ∧ ∃ d, wr = w'.drewN d) (fun _ i _ => m - (Go.RowKit.intOf i).toNat)
  case atStart => exact ⟨0, Nat.zero_le _, rfl, rfl, 0, rfl⟩
  case round =>
    obtain ⟨k, hk, rfl, rfl, d, rfl⟩ := hrel
    by_cases hlt : (k : Int) < m
    · have GT := get_yes sp l cap k (w'.drewN d) (hs.drew d) (by omega) hn
      have hc := cnt_le (gb l) k
      have HS : Hid (cnt (gb l) (k + 1) = cnt (gb l) k + (if gb l k then 1 else 0)) := rfl
      generalize gb l k = b at GT HS
      cases b
      all_goals
        go_wp2_with fail
        refine GT.mono ?_
        rintro e w2 ⟨rfl, d2, rfl⟩
        clear GT
        go_wp2
        go_roundw
        case rel => exact ⟨k + 1, by omega, by go_num, by rw [HS.out]; simp, d + d2, rfl⟩
        case measure => simp [Go.RowKit.intOf]; omega
    · obtain rfl : k = m := by omega
      go_wp2
      go_ret
      exact ⟨rfl, d, rfl⟩
/-- The place behind k of them. -/
def place (m fr k : Nat) : Nat := (fr + k) % m
end Go.Proofs.YtkiifmnmeikdlaaGreatDoor
/- group.keptBlocks, keptSlots, numbered, covers. -/
namespace Go.Proofs.YtkiifmnmeikdlaaGreatDoor
open Go.RowKit
set_option maxRecDepth 100000
/-- A shape that can be, and a group of it. -/
def numB (a i n no : Int) : Bool := okB a i n && (decide (0 ≤ no) && decide (no < n))
set_option maxHeartbeats 1000000 in
theorem keptBlocks_any (a i n : Int) (w : World) (hok : okG a i n) :
    Calls Tryz.prog 104 #[.agg #[.int .i64 a, .int .i64 i, .int .i64 n]] w fun e w' => e = .returned (.int .i64 (1 + i / 4)) ∧ Below w.heap.size w w' := by
  have hb : Below w.heap.size w (w.alloc (.cells #[.int .i64 a, .int .i64 i, .int .i64 n] 23)) := (Below.refl _ _).alloc (Nat.le_refl _) _
  have TB := tables_any a i n
  rw [if_pos hok] at TB
  have hbx := hok.box
  go_enter Tryz.func104, Tryz.ntmps104
  go_wp2_with fail
  refine (TB _).mono ?_
  rintro e w1 ⟨rfl, hb1⟩
  have hB := hb.trans (hb1.mono hb.size)
  clear TB hb1
  go_wp2
  go_ret
  exact ⟨rfl, hB⟩
/-- How many slots of group no are kept. -/
def ksl (no : Int) : Nat := if no = 0 then 2 else 0
set_option maxHeartbeats 1000000 in
theorem keptSlots_any (no : Int) (w : World) :
    Calls Tryz.prog 105 #[.int .i64 no] w fun e w' => e = .returned (.int .i64 (ksl no : Nat)) ∧ w' = w := by
  unfold ksl
  by_cases h : no = 0
  · rw [if_pos h]
    go_enter Tryz.func105, Tryz.ntmps105
    go_wp2
    go_ret
    exact ⟨rfl, rfl⟩
  · rw [if_neg h]
    go_enter Tryz.func105, Tryz.ntmps105
    go_wp2
    go_ret
    exact ⟨rfl, rfl⟩
set_option maxHeartbeats 1000000 in
theorem numbered_any (a i n no : Int) (w : World) :
    Calls Tryz.prog 102 #[.agg #[.int .i64 a, .int .i64 i, .int .i64 n], .int .i64 no] w fun e w' => e = .returned (.bool (numB a i n no)) ∧ Below w.heap.size w w' := by
  have L0 : Lies w w.heap.size a i n (w.alloc (.cells #[.int .i64 a, .int .i64 i, .int .i64 n] 23)) := ⟨by simp, by simp, by simp, (Below.refl _ _).alloc (Nat.le_refl _) _⟩
  have RT := right_any a i n
  unfold numB
  generalize okB a i n = ok at RT ⊢
  cases ok
  · go_enter Tryz.func102, Tryz.ntmps102
    go_wp2_with fail
    refine (keep3 w.heap.size a i n w L0 (RT _)).mono ?_
    rintro e w1 ⟨rfl, k0, k1, k2, kb⟩
    go_wp2
    go_ret
    exact ⟨rfl, kb⟩
  · by_cases h0 : 0 ≤ no
    · by_cases h1 : no < n
      · go_enter Tryz.func102, Tryz.ntmps102
        go_wp2_with fail
        refine (keep3 w.heap.size a i n w L0 (RT _)).mono ?_
        rintro e w1 ⟨rfl, k0, k1, k2, kb⟩
        go_wp2
        go_ret
        exact ⟨by simp [h0, h1], kb⟩
      · have hd : decide (no < n) = false := by simpa using h1
        go_enter Tryz.func102, Tryz.ntmps102
        go_wp2_with fail
        refine (keep3 w.heap.size a i n w L0 (RT _)).mono ?_
        rintro e w1 ⟨rfl, k0, k1, k2, kb⟩
        go_wp2
        go_ret
        exact ⟨by simp [h1], kb⟩
    · have hd : decide (0 ≤ no) = false := by simpa using h0
      go_enter Tryz.func102, Tryz.ntmps102
      go_wp2_with fail
      refine (keep3 w.heap.size a i n w L0 (RT _)).mono ?_
      rintro e w1 ⟨rfl, k0, k1, k2, kb⟩
      go_wp2
      go_ret
      exact ⟨by simp; omega, kb⟩
/-- The first bits are set, and none from n on. -/
def covB (l : List UInt8) (first n : Nat) : Bool := cnt (gb l) first == first && cnt (gb l) n == cnt (gb l) (8 * l.length)
theorem bnd_nat {len k : Nat} (h : k ≤ 8 * len) : bnd len (k : Int) = k := by have := bnd_of len (k : Int); omega
set_option maxHeartbeats 1000000 in
theorem covers_any (sp : Option Addr) (l : List UInt8) (cap first n : Nat) (w : World) (hs : Src w sp l) (hn : l.length ≤ 140737488355328) (h1 : first ≤ 8 * l.length) (h2 : n ≤ 8 * l.length) :
    Calls Tryz.prog 103 #[.slice sp l.length cap, .int .i64 first, .int .i64 n] w fun e w' => e = .returned (.bool (covB l first n)) ∧ ∃ d, w' = w.drewN d := by
  have C1 := count_any sp l cap first w hs hn
  have C2 := fun d => count_any sp l cap n (w.drewN d) (hs.drew d) hn
  have C3 := fun d => count_any sp l cap ((8 * l.length : Nat) : Int) (w.drewN d) (hs.drew d) hn
  rw [bnd_nat h1] at C1
  rw [bnd_nat h2] at C2
  rw [bnd_nat (Nat.le_refl _)] at C3
  rw [show ((8 * l.length : Nat) : Int) = 8 * (l.length : Int) by omega] at C3
  unfold covB
  generalize cnt (gb l) first = c1 at C1 ⊢
  generalize cnt (gb l) n = c2 at C2 ⊢
  generalize cnt (gb l) (8 * l.length) = c3 at C3 ⊢
  by_cases e1 : (c1 : Int) = first
  · by_cases e2 : (c2 : Int) = c3
    · go_enter Tryz.func103, Tryz.ntmps103
      go_wp2_with fail
      refine C1.mono ?_
      rintro e w1 ⟨rfl, d1, rfl⟩
      go_wp2_with fail
      refine (C2 _).mono ?_
      rintro e w2 ⟨rfl, d2, rfl⟩
      go_wp2_with fail
      refine (C3 _).mono ?_
      rintro e w3 ⟨rfl, d3, rfl⟩
      go_wp2
      go_ret
      exact ⟨by rw [show c1 = first by omega, show c2 = c3 by omega]; simp, d1 + d2 + d3, rfl⟩
    · have hd : ((c2 : Int) == (c3 : Int)) = false := by simpa using e2
      go_enter Tryz.func103, Tryz.ntmps103
      go_wp2_with fail
      refine C1.mono ?_
      rintro e w1 ⟨rfl, d1, rfl⟩
      go_wp2_with fail
      refine (C2 _).mono ?_
      rintro e w2 ⟨rfl, d2, rfl⟩
      go_wp2_with fail
      refine (C3 _).mono ?_
      rintro e w3 ⟨rfl, d3, rfl⟩
      go_wp2
      go_ret
      exact ⟨by simp; omega, d1 + d2 + d3, rfl⟩
  · have hd : ((c1 : Int) == (first : Int)) = false := by simpa using e1
    go_enter Tryz.func103, Tryz.ntmps103
    go_wp2_with fail
    refine C1.mono ?_
    rintro e w1 ⟨rfl, d1, rfl⟩
    go_wp2
    go_ret
    exact ⟨by simp; omega, d1, rfl⟩
end Go.Proofs.YtkiifmnmeikdlaaGreatDoor
