/- super.Get, for a block of 256 bytes: the rest. -/
import Derived.Test.YtjdfkbpadhndlaaDoorSget
namespace Go.Proofs.YtjdfkbpadhndlaaDoor
open Go.RowKit
attribute [local go_sem] wrapU
set_option maxRecDepth 100000 in
set_option maxHeartbeats 4000000 in
theorem sget_arg (bb off cap : Nat) (l : List UInt8) (hl : l.length = 256) (w : World) (hs : Src w (some ⟨bb, off, none⟩) l) (ht : Tab w) (hc : (256 : Int) ≤ cap) (hm : (cap : Int) ≤ 9223372036854775807) (h1 : l.take 4 = markL) (h2 : getNum (l.drop 252) = sumN (l.take 252)) (h3 : okS (rdG l) (rdA l) (rdI l) (rdN l) = false) :
    Calls Tryd.prog 11 #[.slice (some ⟨bb, off, none⟩) 256 cap] w fun e w' => e = .returned (.tuple #[.agg #[.int .i64 (getX (rdG l) l), .int .i64 (getX (rdA l) l), .int .i64 (getX (rdI l) l), .int .i64 (getX (rdN l) l)], .int .i64 (getE l)]) ∧ Below w.heap.size w w' := by
  have hal : Below w.heap.size w (w.alloc (.cells #[.int .i64 0, .int .i64 0, .int .i64 0, .int .i64 0] 30)) := (Below.refl _ _).alloc (Nat.le_refl _) _
  have HG0 : Hid (Gets w (w.alloc (.cells #[.int .i64 0, .int .i64 0, .int .i64 0, .int .i64 0] 30))) := ⟨hal, heap_alloc_new _ _⟩
  have hst := conv_str (w := w.alloc (.cells #[.int .i64 0, .int .i64 0, .int .i64 0, .int .i64 0] 30)) (sp := some ⟨bb, off, none⟩) (l := l.take 4) (by have := (hs.below hal (Nat.le_refl _)).part hl 0 4 (by omega); rw [List.drop_zero] at this; exact this) 4 cap (by rw [List.length_take, hl]; rfl)
  have HE : Hid (getE l = 1) := by show _ = _; rw [getE, if_neg (by omega), if_neg (by rw [h1]; exact fun c => c rfl), if_neg (fun c => c h2), if_pos h3]
  rw [h1] at hst
  have hst' : (convert 26 9 (.slice (some ⟨bb, off, none⟩) 4 cap)).run Tryd.prog (w.alloc (.cells #[.int .i64 0, .int .i64 0, .int .i64 0, .int .i64 0] 30)) = .ok (.string ⟨#[76, 86, 69, 69]⟩) (w.alloc (.cells #[.int .i64 0, .int .i64 0, .int .i64 0, .int .i64 0] 30)) := hst
  clear hst
  have n1 : ¬ cap = 252 := by omega
  have b1 : (252 : Int) ≤ cap := by omega
  have hd0 : Gets w (w.alloc (.cells #[.int .i64 0, .int .i64 0, .int .i64 0, .int .i64 0] 30)).drew := HG0.out.up (Below.refl _ _).drew
  have GT : ∀ W, Gets w W → Calls Tryd.prog 28 #[.slice (some ⟨bb, off + 252, none⟩) 4 (cap - 252)] W fun e w' => e = .returned (.int .u64 (getNum (l.drop 252) : Int)) ∧ Gets w w' := by
    intro W hR
    have h := get_any (some ⟨bb, off + 252, none⟩) ((l.drop 252).take 4) (cap - 252) W ((hs.part hl 252 4 (by omega)).below hR.b (Nat.le_refl _))
    rw [show ((l.drop 252).take 4).length = 4 by rw [List.length_take, List.length_drop, hl]; rfl, show (l.drop 252).take 4 = l.drop 252 from List.take_of_length_le (by rw [List.length_drop, hl]; omega)] at h
    exact h.mono fun _ _ ⟨q1, q2⟩ => ⟨q1, hR.up q2⟩
  have hw0 : 0 < w.heap.size := block_lt_of_cell (ht 0 (by omega))
  have SM : ∀ W, Gets w W → Calls Tryd.prog 24 #[.slice (some ⟨bb, off, none⟩) 252 cap] W fun e w' => e = .returned (.int .u32 (sumN (l.take 252) : Int)) ∧ w' = W := by
    intro W hR
    have h := sum_any (some ⟨bb, off, none⟩) (l.take 252) cap W (by have := (hs.part hl 0 252 (by omega)).below hR.b (Nat.le_refl _); rw [List.drop_zero] at this; exact this) (ht.below hR.b hw0) (by rw [List.length_take, hl]; decide)
    rw [show (l.take 252).length = 252 by rw [List.length_take, hl]; rfl] at h
    exact h
  have hslt : sumN (l.take 252) < 4294967296 := Nat.xor_lt_two_pow (n := 32) (by omega) (crcF_lt _ _ (by omega))
  rw [h2] at GT
  have u1 : InU (sumN (l.take 252) : Int) := ⟨by omega⟩
  generalize sumN (l.take 252) = M at *
  clear h1
  go_enter Tryd.func11, Tryd.ntmps11
  go_wp2_with fail
  refine wp_region_held_drew (S := (fun w' => Gets w w')) (by kernel_rfl) hd0 (fun hH => ?_)
  refine takeH (i := 0) (dst := some 16) (v := ?v1) rfl rfl (by kernel_rfl) (by kernel_rfl) (by kernel_rfl) (fun _ _ _ h => h) rfl ?hy1 hH rfl ?rest1
  case hy1 => (intro W hW; clear hW; go_simp; try with_reducible rfl)
  (try simp only [Act.put, List.setIfInBounds_toArray, List.set_cons_zero, List.set_cons_succ])
  refine takeH (i := 1) (dst := some 17) (v := ?v2) rfl rfl (by kernel_rfl) (by kernel_rfl) (by kernel_rfl) (fun _ _ _ h => h) rfl ?hy2 hH rfl ?rest2
  case hy2 => (intro W hW; clear hW; go_simp; try with_reducible rfl)
  (try simp only [Act.put, List.setIfInBounds_toArray, List.set_cons_zero, List.set_cons_succ])
  refine takeH (i := 3) (dst := some 19) (v := ?v3) rfl rfl (by kernel_rfl) (by kernel_rfl) (by kernel_rfl) (fun _ _ _ h => h) rfl ?hy3 hH rfl ?rest3
  case hy3 => (intro W hW; clear hW; go_simp; try with_reducible rfl)
  (try simp only [Act.put, List.setIfInBounds_toArray, List.set_cons_zero, List.set_cons_succ])
  refine takeH (i := 4) (dst := some 20) (v := ?v4) rfl rfl (by kernel_rfl) (by kernel_rfl) (by kernel_rfl) (fun _ _ _ h => h) rfl ?hy4 hH rfl ?rest4
  case hy4 => (intro W hW; clear hW; go_simp; try with_reducible rfl)
  (try simp only [Act.put, List.setIfInBounds_toArray, List.set_cons_zero, List.set_cons_succ])
  refine callH (i := 2) { dst := some 18, op := Go.Op.call { callee := Go.Callee.value (Go.Operand.func 28), args := #[Go.Operand.tmp 17], argTypes := #[26] }, type := 57, pos := "super.go:67", after := #[{ on := 1, ground := Go.Ground.data }], guard := none } (by kernel_rfl) rfl rfl (fun K hK => ?_)
  go_simp
  refine (GT _ hH).mono ?_
  rintro e v1 ⟨rfl, m1⟩
  clear hH
  refine hK.out _ _ m1 (fun hH => ?_)
  clear hK K
  (try simp only [Act.put, List.setIfInBounds_toArray, List.set_cons_zero, List.set_cons_succ])
  refine callH (i := 5) { dst := some 21, op := Go.Op.call { callee := Go.Callee.value (Go.Operand.func 24), args := #[Go.Operand.tmp 20], argTypes := #[26] }, type := 58, pos := "super.go:67", after := #[{ on := 4, ground := Go.Ground.data }, { on := 2, ground := Go.Ground.chain }], guard := none } (by kernel_rfl) rfl rfl (fun K hK => ?_)
  go_simp
  refine (SM _ hH).mono ?_
  rintro e v2 ⟨rfl, rfl⟩
  have m2 := hH
  clear hH
  refine hK.out _ _ m2 (fun hH => ?_)
  clear hK K
  (try simp only [Act.put, List.setIfInBounds_toArray, List.set_cons_zero, List.set_cons_succ])
  refine takeH (i := 6) (dst := some 22) (v := ?v5) rfl rfl (by kernel_rfl) (by kernel_rfl) (by kernel_rfl) (fun _ _ _ h => h) rfl ?hy5 hH rfl ?rest5
  case hy5 => (intro W hW; clear hW; go_simp; try with_reducible rfl)
  (try simp only [Act.put, List.setIfInBounds_toArray, List.set_cons_zero, List.set_cons_succ])
  refine takeH (i := 7) (dst := some 23) (v := ?v6) rfl rfl (by kernel_rfl) (by kernel_rfl) (by kernel_rfl) (fun _ _ _ h => h) rfl ?hy6 hH rfl ?rest6
  case hy6 => (intro W hW; clear hW; go_simp; try with_reducible rfl)
  (try simp only [Act.put, List.setIfInBounds_toArray, List.set_cons_zero, List.set_cons_succ])
  refine wpAnyH_done (by kernel_rfl) ?_ _
  clear hH
  have HM : Hid (Gets w v2) := m2
  clear m1 m2 GT SM
  have READ := read_any bb off cap l hl v2 (hs.below HM.out.b (Nat.le_refl _)) hc hm
  go_wp2_with fail
  refine READ.mono ?_
  rintro e w3 ⟨rfl, hb3⟩
  clear READ
  have hb4 : Below v2.heap.size v2 (w3.alloc (.cells #[.int .i64 (rdG l), .int .i64 (rdA l), .int .i64 (rdI l), .int .i64 (rdN l)] 30)) := hb3.alloc hb3.size _
  have HM4 : Hid (Gets w (w3.alloc (.cells #[.int .i64 (rdG l), .int .i64 (rdA l), .int .i64 (rdI l), .int .i64 (rdN l)] 30))) := HM.out.up hb4
  have HR4 : Hid (Row4 (w3.alloc (.cells #[.int .i64 (rdG l), .int .i64 (rdA l), .int .i64 (rdI l), .int .i64 (rdN l)] 30)) w3.heap.size 30 (rdG l) (rdA l) (rdI l) (rdN l)) := heap_alloc_new _ _
  have PUT := sput_no (rdG l) (rdA l) (rdI l) (rdN l) (w3.alloc (.cells #[.int .i64 (rdG l), .int .i64 (rdA l), .int .i64 (rdI l), .int .i64 (rdN l)] 30)) h3
  go_wp2_with fail
  refine PUT.mono ?_
  rintro e w5 ⟨rfl, hb5⟩
  clear PUT
  have m5 := HM4.out.up hb5
  have r0 := m5.r.c0
  have r1 := m5.r.c1
  have r2 := m5.r.c2
  have r3 := m5.r.c3
  have f0 := m5.r.fr 0
  have f1 := m5.r.fr 1
  have f2 := m5.r.fr 2
  have f3 := m5.r.fr 3
  have HM5 : Hid (Gets w w5) := m5
  clear m5 hb5 hs hl ht
  go_wp2
  refine bodyPost_ret (results_sup rfl _ _ w.heap.size 0 0 0 0 rfl (HM5.out.r.set 0 0 0 0)) rfl ?_
  exact ⟨err_form HE.out (by omega), below_set4 HM5.out.b (Nat.le_refl _) _ _ _ _⟩
set_option maxRecDepth 100000 in
set_option maxHeartbeats 4000000 in
theorem sget_form (bb off cap : Nat) (l : List UInt8) (hl : l.length = 256) (w : World) (hs : Src w (some ⟨bb, off, none⟩) l) (ht : Tab w) (hc : (256 : Int) ≤ cap) (hm : (cap : Int) ≤ 9223372036854775807) (h1 : l.take 4 = markL) (h2 : getNum (l.drop 252) = sumN (l.take 252)) (h3 : okS (rdG l) (rdA l) (rdI l) (rdN l) = true) (h4 : putL (rdG l).toNat (rdA l) (rdI l) (rdN l) ≠ l) :
    Calls Tryd.prog 11 #[.slice (some ⟨bb, off, none⟩) 256 cap] w fun e w' => e = .returned (.tuple #[.agg #[.int .i64 (getX (rdG l) l), .int .i64 (getX (rdA l) l), .int .i64 (getX (rdI l) l), .int .i64 (getX (rdN l) l)], .int .i64 (getE l)]) ∧ Below w.heap.size w w' := by
  have hal : Below w.heap.size w (w.alloc (.cells #[.int .i64 0, .int .i64 0, .int .i64 0, .int .i64 0] 30)) := (Below.refl _ _).alloc (Nat.le_refl _) _
  have HG0 : Hid (Gets w (w.alloc (.cells #[.int .i64 0, .int .i64 0, .int .i64 0, .int .i64 0] 30))) := ⟨hal, heap_alloc_new _ _⟩
  have hst := conv_str (w := w.alloc (.cells #[.int .i64 0, .int .i64 0, .int .i64 0, .int .i64 0] 30)) (sp := some ⟨bb, off, none⟩) (l := l.take 4) (by have := (hs.below hal (Nat.le_refl _)).part hl 0 4 (by omega); rw [List.drop_zero] at this; exact this) 4 cap (by rw [List.length_take, hl]; rfl)
  have HE : Hid (getE l = 8) := by show _ = _; rw [getE, if_neg (by omega), if_neg (by rw [h1]; exact fun c => c rfl), if_neg (fun c => c h2), if_neg (by rw [h3]; simp), if_pos h4]
  rw [h1] at hst
  have hst' : (convert 26 9 (.slice (some ⟨bb, off, none⟩) 4 cap)).run Tryd.prog (w.alloc (.cells #[.int .i64 0, .int .i64 0, .int .i64 0, .int .i64 0] 30)) = .ok (.string ⟨#[76, 86, 69, 69]⟩) (w.alloc (.cells #[.int .i64 0, .int .i64 0, .int .i64 0, .int .i64 0] 30)) := hst
  clear hst
  have n1 : ¬ cap = 252 := by omega
  have b1 : (252 : Int) ≤ cap := by omega
  have hd0 : Gets w (w.alloc (.cells #[.int .i64 0, .int .i64 0, .int .i64 0, .int .i64 0] 30)).drew := HG0.out.up (Below.refl _ _).drew
  have GT : ∀ W, Gets w W → Calls Tryd.prog 28 #[.slice (some ⟨bb, off + 252, none⟩) 4 (cap - 252)] W fun e w' => e = .returned (.int .u64 (getNum (l.drop 252) : Int)) ∧ Gets w w' := by
    intro W hR
    have h := get_any (some ⟨bb, off + 252, none⟩) ((l.drop 252).take 4) (cap - 252) W ((hs.part hl 252 4 (by omega)).below hR.b (Nat.le_refl _))
    rw [show ((l.drop 252).take 4).length = 4 by rw [List.length_take, List.length_drop, hl]; rfl, show (l.drop 252).take 4 = l.drop 252 from List.take_of_length_le (by rw [List.length_drop, hl]; omega)] at h
    exact h.mono fun _ _ ⟨q1, q2⟩ => ⟨q1, hR.up q2⟩
  have hw0 : 0 < w.heap.size := block_lt_of_cell (ht 0 (by omega))
  have SM : ∀ W, Gets w W → Calls Tryd.prog 24 #[.slice (some ⟨bb, off, none⟩) 252 cap] W fun e w' => e = .returned (.int .u32 (sumN (l.take 252) : Int)) ∧ w' = W := by
    intro W hR
    have h := sum_any (some ⟨bb, off, none⟩) (l.take 252) cap W (by have := (hs.part hl 0 252 (by omega)).below hR.b (Nat.le_refl _); rw [List.drop_zero] at this; exact this) (ht.below hR.b hw0) (by rw [List.length_take, hl]; decide)
    rw [show (l.take 252).length = 252 by rw [List.length_take, hl]; rfl] at h
    exact h
  have hslt : sumN (l.take 252) < 4294967296 := Nat.xor_lt_two_pow (n := 32) (by omega) (crcF_lt _ _ (by omega))
  rw [h2] at GT
  have u1 : InU (sumN (l.take 252) : Int) := ⟨by omega⟩
  generalize sumN (l.take 252) = M at *
  clear h1
  go_enter Tryd.func11, Tryd.ntmps11
  go_wp2_with fail
  refine wp_region_held_drew (S := (fun w' => Gets w w')) (by kernel_rfl) hd0 (fun hH => ?_)
  refine takeH (i := 0) (dst := some 16) (v := ?v7) rfl rfl (by kernel_rfl) (by kernel_rfl) (by kernel_rfl) (fun _ _ _ h => h) rfl ?hy7 hH rfl ?rest7
  case hy7 => (intro W hW; clear hW; go_simp; try with_reducible rfl)
  (try simp only [Act.put, List.setIfInBounds_toArray, List.set_cons_zero, List.set_cons_succ])
  refine takeH (i := 1) (dst := some 17) (v := ?v8) rfl rfl (by kernel_rfl) (by kernel_rfl) (by kernel_rfl) (fun _ _ _ h => h) rfl ?hy8 hH rfl ?rest8
  case hy8 => (intro W hW; clear hW; go_simp; try with_reducible rfl)
  (try simp only [Act.put, List.setIfInBounds_toArray, List.set_cons_zero, List.set_cons_succ])
  refine takeH (i := 3) (dst := some 19) (v := ?v9) rfl rfl (by kernel_rfl) (by kernel_rfl) (by kernel_rfl) (fun _ _ _ h => h) rfl ?hy9 hH rfl ?rest9
  case hy9 => (intro W hW; clear hW; go_simp; try with_reducible rfl)
  (try simp only [Act.put, List.setIfInBounds_toArray, List.set_cons_zero, List.set_cons_succ])
  refine takeH (i := 4) (dst := some 20) (v := ?v10) rfl rfl (by kernel_rfl) (by kernel_rfl) (by kernel_rfl) (fun _ _ _ h => h) rfl ?hy10 hH rfl ?rest10
  case hy10 => (intro W hW; clear hW; go_simp; try with_reducible rfl)
  (try simp only [Act.put, List.setIfInBounds_toArray, List.set_cons_zero, List.set_cons_succ])
  refine callH (i := 2) { dst := some 18, op := Go.Op.call { callee := Go.Callee.value (Go.Operand.func 28), args := #[Go.Operand.tmp 17], argTypes := #[26] }, type := 57, pos := "super.go:67", after := #[{ on := 1, ground := Go.Ground.data }], guard := none } (by kernel_rfl) rfl rfl (fun K hK => ?_)
  go_simp
  refine (GT _ hH).mono ?_
  rintro e v1 ⟨rfl, m1⟩
  clear hH
  refine hK.out _ _ m1 (fun hH => ?_)
  clear hK K
  (try simp only [Act.put, List.setIfInBounds_toArray, List.set_cons_zero, List.set_cons_succ])
  refine callH (i := 5) { dst := some 21, op := Go.Op.call { callee := Go.Callee.value (Go.Operand.func 24), args := #[Go.Operand.tmp 20], argTypes := #[26] }, type := 58, pos := "super.go:67", after := #[{ on := 4, ground := Go.Ground.data }, { on := 2, ground := Go.Ground.chain }], guard := none } (by kernel_rfl) rfl rfl (fun K hK => ?_)
  go_simp
  refine (SM _ hH).mono ?_
  rintro e v2 ⟨rfl, rfl⟩
  have m2 := hH
  clear hH
  refine hK.out _ _ m2 (fun hH => ?_)
  clear hK K
  (try simp only [Act.put, List.setIfInBounds_toArray, List.set_cons_zero, List.set_cons_succ])
  refine takeH (i := 6) (dst := some 22) (v := ?v11) rfl rfl (by kernel_rfl) (by kernel_rfl) (by kernel_rfl) (fun _ _ _ h => h) rfl ?hy11 hH rfl ?rest11
  case hy11 => (intro W hW; clear hW; go_simp; try with_reducible rfl)
  (try simp only [Act.put, List.setIfInBounds_toArray, List.set_cons_zero, List.set_cons_succ])
  refine takeH (i := 7) (dst := some 23) (v := ?v12) rfl rfl (by kernel_rfl) (by kernel_rfl) (by kernel_rfl) (fun _ _ _ h => h) rfl ?hy12 hH rfl ?rest12
  case hy12 => (intro W hW; clear hW; go_simp; try with_reducible rfl)
  (try simp only [Act.put, List.setIfInBounds_toArray, List.set_cons_zero, List.set_cons_succ])
  refine wpAnyH_done (by kernel_rfl) ?_ _
  clear hH
  have HM : Hid (Gets w v2) := m2
  clear m1 m2 GT SM
  have READ := read_any bb off cap l hl v2 (hs.below HM.out.b (Nat.le_refl _)) hc hm
  go_wp2_with fail
  refine READ.mono ?_
  rintro e w3 ⟨rfl, hb3⟩
  clear READ
  have hb4 : Below v2.heap.size v2 (w3.alloc (.cells #[.int .i64 (rdG l), .int .i64 (rdA l), .int .i64 (rdI l), .int .i64 (rdN l)] 30)) := hb3.alloc hb3.size _
  have HM4 : Hid (Gets w (w3.alloc (.cells #[.int .i64 (rdG l), .int .i64 (rdA l), .int .i64 (rdI l), .int .i64 (rdN l)] 30))) := HM.out.up hb4
  have HR4 : Hid (Row4 (w3.alloc (.cells #[.int .i64 (rdG l), .int .i64 (rdA l), .int .i64 (rdI l), .int .i64 (rdN l)] 30)) w3.heap.size 30 (rdG l) (rdA l) (rdI l) (rdN l)) := heap_alloc_new _ _
  obtain ⟨q1, q2, _⟩ := okS_iff.1 h3
  have hcast : (((rdG l).toNat : Nat) : Int) = rdG l := Int.toNat_of_nonneg (by omega)
  have PUT := sput_ok (rdG l).toNat (rdA l) (rdI l) (rdN l) (w3.alloc (.cells #[.int .i64 (rdG l), .int .i64 (rdA l), .int .i64 (rdI l), .int .i64 (rdN l)] 30)) (ht.below HM4.out.b hw0) (by rw [hcast]; exact h3)
  rw [hcast] at PUT
  have HP : Hid _ := putL_length (rdG l).toNat (rdA l) (rdI l) (rdN l)
  generalize putL (rdG l).toNat (rdA l) (rdI l) (rdN l) = P at *
  go_wp2_with fail
  refine PUT.mono ?_
  rintro e w5 ⟨G, rfl, hG5, hGl, hb5⟩
  clear PUT
  have m5 := HM4.out.up hb5
  have HR5 : Hid (Row4 w5 w3.heap.size 30 (rdG l) (rdA l) (rdI l) (rdN l)) := HR4.out.up hb5
  have r0 := m5.r.c0
  have r1 := m5.r.c1
  have r2 := m5.r.c2
  have r3 := m5.r.c3
  have f0 := m5.r.fr 0
  have f1 := m5.r.fr 1
  have f2 := m5.r.fr 2
  have f3 := m5.r.fr 3
  have HM5 : Hid (Gets w w5) := m5
  have EQ := equal_any (some ⟨G, 0, none⟩) (some ⟨bb, off, none⟩) P l 256 cap w5 hG5.src (hs.below HM5.out.b (Nat.le_refl _))
  rw [show P.length = 256 from HP.out, hl] at EQ
  rw [show ((str P).toList == (str l).toList) = false from by simpa using (not_congr (str_beq P l)).2 h4] at EQ
  clear m5 hb5 hs hl ht hG5
  go_wp2_with fail
  refine EQ.mono ?_
  rintro e w6 ⟨rfl, rfl⟩
  clear EQ
  go_wp2
  refine bodyPost_ret (results_sup rfl _ _ w.heap.size 0 0 0 0 rfl (HM5.out.r.set 0 0 0 0)) rfl ?_
  exact ⟨err_form HE.out (by omega), below_set4 HM5.out.b (Nat.le_refl _) _ _ _ _⟩
set_option maxRecDepth 100000 in
set_option maxHeartbeats 4000000 in
theorem sget_ok (bb off cap : Nat) (l : List UInt8) (hl : l.length = 256) (w : World) (hs : Src w (some ⟨bb, off, none⟩) l) (ht : Tab w) (hc : (256 : Int) ≤ cap) (hm : (cap : Int) ≤ 9223372036854775807) (h1 : l.take 4 = markL) (h2 : getNum (l.drop 252) = sumN (l.take 252)) (h3 : okS (rdG l) (rdA l) (rdI l) (rdN l) = true) (h4 : putL (rdG l).toNat (rdA l) (rdI l) (rdN l) = l) :
    Calls Tryd.prog 11 #[.slice (some ⟨bb, off, none⟩) 256 cap] w fun e w' => e = .returned (.tuple #[.agg #[.int .i64 (getX (rdG l) l), .int .i64 (getX (rdA l) l), .int .i64 (getX (rdI l) l), .int .i64 (getX (rdN l) l)], .int .i64 (getE l)]) ∧ Below w.heap.size w w' := by
  have hal : Below w.heap.size w (w.alloc (.cells #[.int .i64 0, .int .i64 0, .int .i64 0, .int .i64 0] 30)) := (Below.refl _ _).alloc (Nat.le_refl _) _
  have HG0 : Hid (Gets w (w.alloc (.cells #[.int .i64 0, .int .i64 0, .int .i64 0, .int .i64 0] 30))) := ⟨hal, heap_alloc_new _ _⟩
  have hst := conv_str (w := w.alloc (.cells #[.int .i64 0, .int .i64 0, .int .i64 0, .int .i64 0] 30)) (sp := some ⟨bb, off, none⟩) (l := l.take 4) (by have := (hs.below hal (Nat.le_refl _)).part hl 0 4 (by omega); rw [List.drop_zero] at this; exact this) 4 cap (by rw [List.length_take, hl]; rfl)
  have HE : Hid (getE l = 0) := by show _ = _; rw [getE, if_neg (by omega), if_neg (by rw [h1]; exact fun c => c rfl), if_neg (fun c => c h2), if_neg (by rw [h3]; simp), if_neg (fun c => c h4)]
  rw [h1] at hst
  have hst' : (convert 26 9 (.slice (some ⟨bb, off, none⟩) 4 cap)).run Tryd.prog (w.alloc (.cells #[.int .i64 0, .int .i64 0, .int .i64 0, .int .i64 0] 30)) = .ok (.string ⟨#[76, 86, 69, 69]⟩) (w.alloc (.cells #[.int .i64 0, .int .i64 0, .int .i64 0, .int .i64 0] 30)) := hst
  clear hst
  have n1 : ¬ cap = 252 := by omega
  have b1 : (252 : Int) ≤ cap := by omega
  have hd0 : Gets w (w.alloc (.cells #[.int .i64 0, .int .i64 0, .int .i64 0, .int .i64 0] 30)).drew := HG0.out.up (Below.refl _ _).drew
  have GT : ∀ W, Gets w W → Calls Tryd.prog 28 #[.slice (some ⟨bb, off + 252, none⟩) 4 (cap - 252)] W fun e w' => e = .returned (.int .u64 (getNum (l.drop 252) : Int)) ∧ Gets w w' := by
    intro W hR
    have h := get_any (some ⟨bb, off + 252, none⟩) ((l.drop 252).take 4) (cap - 252) W ((hs.part hl 252 4 (by omega)).below hR.b (Nat.le_refl _))
    rw [show ((l.drop 252).take 4).length = 4 by rw [List.length_take, List.length_drop, hl]; rfl, show (l.drop 252).take 4 = l.drop 252 from List.take_of_length_le (by rw [List.length_drop, hl]; omega)] at h
    exact h.mono fun _ _ ⟨q1, q2⟩ => ⟨q1, hR.up q2⟩
  have hw0 : 0 < w.heap.size := block_lt_of_cell (ht 0 (by omega))
  have SM : ∀ W, Gets w W → Calls Tryd.prog 24 #[.slice (some ⟨bb, off, none⟩) 252 cap] W fun e w' => e = .returned (.int .u32 (sumN (l.take 252) : Int)) ∧ w' = W := by
    intro W hR
    have h := sum_any (some ⟨bb, off, none⟩) (l.take 252) cap W (by have := (hs.part hl 0 252 (by omega)).below hR.b (Nat.le_refl _); rw [List.drop_zero] at this; exact this) (ht.below hR.b hw0) (by rw [List.length_take, hl]; decide)
    rw [show (l.take 252).length = 252 by rw [List.length_take, hl]; rfl] at h
    exact h
  have hslt : sumN (l.take 252) < 4294967296 := Nat.xor_lt_two_pow (n := 32) (by omega) (crcF_lt _ _ (by omega))
  rw [h2] at GT
  have u1 : InU (sumN (l.take 252) : Int) := ⟨by omega⟩
  generalize sumN (l.take 252) = M at *
  clear h1
  go_enter Tryd.func11, Tryd.ntmps11
  go_wp2_with fail
  refine wp_region_held_drew (S := (fun w' => Gets w w')) (by kernel_rfl) hd0 (fun hH => ?_)
  refine takeH (i := 0) (dst := some 16) (v := ?v13) rfl rfl (by kernel_rfl) (by kernel_rfl) (by kernel_rfl) (fun _ _ _ h => h) rfl ?hy13 hH rfl ?rest13
  case hy13 => (intro W hW; clear hW; go_simp; try with_reducible rfl)
  (try simp only [Act.put, List.setIfInBounds_toArray, List.set_cons_zero, List.set_cons_succ])
  refine takeH (i := 1) (dst := some 17) (v := ?v14) rfl rfl (by kernel_rfl) (by kernel_rfl) (by kernel_rfl) (fun _ _ _ h => h) rfl ?hy14 hH rfl ?rest14
  case hy14 => (intro W hW; clear hW; go_simp; try with_reducible rfl)
  (try simp only [Act.put, List.setIfInBounds_toArray, List.set_cons_zero, List.set_cons_succ])
  refine takeH (i := 3) (dst := some 19) (v := ?v15) rfl rfl (by kernel_rfl) (by kernel_rfl) (by kernel_rfl) (fun _ _ _ h => h) rfl ?hy15 hH rfl ?rest15
  case hy15 => (intro W hW; clear hW; go_simp; try with_reducible rfl)
  (try simp only [Act.put, List.setIfInBounds_toArray, List.set_cons_zero, List.set_cons_succ])
  refine takeH (i := 4) (dst := some 20) (v := ?v16) rfl rfl (by kernel_rfl) (by kernel_rfl) (by kernel_rfl) (fun _ _ _ h => h) rfl ?hy16 hH rfl ?rest16
  case hy16 => (intro W hW; clear hW; go_simp; try with_reducible rfl)
  (try simp only [Act.put, List.setIfInBounds_toArray, List.set_cons_zero, List.set_cons_succ])
  refine callH (i := 2) { dst := some 18, op := Go.Op.call { callee := Go.Callee.value (Go.Operand.func 28), args := #[Go.Operand.tmp 17], argTypes := #[26] }, type := 57, pos := "super.go:67", after := #[{ on := 1, ground := Go.Ground.data }], guard := none } (by kernel_rfl) rfl rfl (fun K hK => ?_)
  go_simp
  refine (GT _ hH).mono ?_
  rintro e v1 ⟨rfl, m1⟩
  clear hH
  refine hK.out _ _ m1 (fun hH => ?_)
  clear hK K
  (try simp only [Act.put, List.setIfInBounds_toArray, List.set_cons_zero, List.set_cons_succ])
  refine callH (i := 5) { dst := some 21, op := Go.Op.call { callee := Go.Callee.value (Go.Operand.func 24), args := #[Go.Operand.tmp 20], argTypes := #[26] }, type := 58, pos := "super.go:67", after := #[{ on := 4, ground := Go.Ground.data }, { on := 2, ground := Go.Ground.chain }], guard := none } (by kernel_rfl) rfl rfl (fun K hK => ?_)
  go_simp
  refine (SM _ hH).mono ?_
  rintro e v2 ⟨rfl, rfl⟩
  have m2 := hH
  clear hH
  refine hK.out _ _ m2 (fun hH => ?_)
  clear hK K
  (try simp only [Act.put, List.setIfInBounds_toArray, List.set_cons_zero, List.set_cons_succ])
  refine takeH (i := 6) (dst := some 22) (v := ?v17) rfl rfl (by kernel_rfl) (by kernel_rfl) (by kernel_rfl) (fun _ _ _ h => h) rfl ?hy17 hH rfl ?rest17
  case hy17 => (intro W hW; clear hW; go_simp; try with_reducible rfl)
  (try simp only [Act.put, List.setIfInBounds_toArray, List.set_cons_zero, List.set_cons_succ])
  refine takeH (i := 7) (dst := some 23) (v := ?v18) rfl rfl (by kernel_rfl) (by kernel_rfl) (by kernel_rfl) (fun _ _ _ h => h) rfl ?hy18 hH rfl ?rest18
  case hy18 => (intro W hW; clear hW; go_simp; try with_reducible rfl)
  (try simp only [Act.put, List.setIfInBounds_toArray, List.set_cons_zero, List.set_cons_succ])
  refine wpAnyH_done (by kernel_rfl) ?_ _
  clear hH
  have HM : Hid (Gets w v2) := m2
  clear m1 m2 GT SM
  have READ := read_any bb off cap l hl v2 (hs.below HM.out.b (Nat.le_refl _)) hc hm
  go_wp2_with fail
  refine READ.mono ?_
  rintro e w3 ⟨rfl, hb3⟩
  clear READ
  have hb4 : Below v2.heap.size v2 (w3.alloc (.cells #[.int .i64 (rdG l), .int .i64 (rdA l), .int .i64 (rdI l), .int .i64 (rdN l)] 30)) := hb3.alloc hb3.size _
  have HM4 : Hid (Gets w (w3.alloc (.cells #[.int .i64 (rdG l), .int .i64 (rdA l), .int .i64 (rdI l), .int .i64 (rdN l)] 30))) := HM.out.up hb4
  have HR4 : Hid (Row4 (w3.alloc (.cells #[.int .i64 (rdG l), .int .i64 (rdA l), .int .i64 (rdI l), .int .i64 (rdN l)] 30)) w3.heap.size 30 (rdG l) (rdA l) (rdI l) (rdN l)) := heap_alloc_new _ _
  obtain ⟨q1, q2, _⟩ := okS_iff.1 h3
  have hcast : (((rdG l).toNat : Nat) : Int) = rdG l := Int.toNat_of_nonneg (by omega)
  have PUT := sput_ok (rdG l).toNat (rdA l) (rdI l) (rdN l) (w3.alloc (.cells #[.int .i64 (rdG l), .int .i64 (rdA l), .int .i64 (rdI l), .int .i64 (rdN l)] 30)) (ht.below HM4.out.b hw0) (by rw [hcast]; exact h3)
  rw [hcast] at PUT
  have HP : Hid _ := putL_length (rdG l).toNat (rdA l) (rdI l) (rdN l)
  generalize putL (rdG l).toNat (rdA l) (rdI l) (rdN l) = P at *
  go_wp2_with fail
  refine PUT.mono ?_
  rintro e w5 ⟨G, rfl, hG5, hGl, hb5⟩
  clear PUT
  have m5 := HM4.out.up hb5
  have HR5 : Hid (Row4 w5 w3.heap.size 30 (rdG l) (rdA l) (rdI l) (rdN l)) := HR4.out.up hb5
  have r0 := m5.r.c0
  have r1 := m5.r.c1
  have r2 := m5.r.c2
  have r3 := m5.r.c3
  have f0 := m5.r.fr 0
  have f1 := m5.r.fr 1
  have f2 := m5.r.fr 2
  have f3 := m5.r.fr 3
  have HM5 : Hid (Gets w w5) := m5
  have EQ := equal_any (some ⟨G, 0, none⟩) (some ⟨bb, off, none⟩) P l 256 cap w5 hG5.src (hs.below HM5.out.b (Nat.le_refl _))
  rw [show P.length = 256 from HP.out, hl] at EQ
  rw [show ((str P).toList == (str l).toList) = true from (str_beq P l).2 h4] at EQ
  have x0 := HR5.out.c0
  have x1 := HR5.out.c1
  have x2 := HR5.out.c2
  have x3 := HR5.out.c3
  clear m5 hb5 hs hl ht hG5 h4
  go_wp2_with fail
  refine EQ.mono ?_
  rintro e w6 ⟨rfl, rfl⟩
  clear EQ
  go_wp2
  refine bodyPost_ret (results_sup rfl _ _ w.heap.size (rdG l) (rdA l) (rdI l) (rdN l) rfl (HM5.out.r.set (rdG l) (rdA l) (rdI l) (rdN l))) rfl ?_
  exact ⟨ok_form HE.out, below_set4 HM5.out.b (Nat.le_refl _) _ _ _ _⟩
theorem sget_any (bb off cap : Nat) (l : List UInt8) (hl : l.length = 256) (w : World) (hs : Src w (some ⟨bb, off, none⟩) l) (ht : Tab w) (hc : (256 : Int) ≤ cap) (hm : (cap : Int) ≤ 9223372036854775807) :
    Calls Tryd.prog 11 #[.slice (some ⟨bb, off, none⟩) 256 cap] w fun e w' => e = .returned (.tuple #[.agg #[.int .i64 (getX (rdG l) l), .int .i64 (getX (rdA l) l), .int .i64 (getX (rdI l) l), .int .i64 (getX (rdN l) l)], .int .i64 (getE l)]) ∧ Below w.heap.size w w' := by
  by_cases h1 : l.take 4 = markL
  · by_cases h2 : getNum (l.drop 252) = sumN (l.take 252)
    · cases h3 : okS (rdG l) (rdA l) (rdI l) (rdN l)
      · exact sget_arg bb off cap l hl w hs ht hc hm h1 h2 h3
      · by_cases h4 : putL (rdG l).toNat (rdA l) (rdI l) (rdN l) = l
        · exact sget_ok bb off cap l hl w hs ht hc hm h1 h2 h3 h4
        · exact sget_form bb off cap l hl w hs ht hc hm h1 h2 h3 h4
    · exact sget_sum bb off cap l hl w hs ht hc hm h1 h2
  · exact sget_mark bb off cap l hl w hs ht hc hm h1
end Go.Proofs.YtjdfkbpadhndlaaDoor
