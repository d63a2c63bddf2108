/- leveeref04.Get; super.Get of bytes of another length. -/
import Derived.Test.YtjdfkbpadhndlaaDoorRefPut
import Derived.Test.YtjdfkbpadhndlaaDoorNextBad
namespace Go.Proofs.YtjdfkbpadhndlaaDoor
open Go.RowKit
attribute [local go_sem] wrapU wrapI
theorem results_rsup {fn : Func} {p u : Tmp} (h : fn.results = #[.cell p 25, .tmp u]) (tmps : Array Value) (w : World) (G : Nat) (g a i n : Int) (hp : tmps.getD p undef = .pointer (some ⟨G, 0, none⟩)) (hg : Row4 w G 25 g a i n) :
    (results fn tmps).run Tryd.prog w = .ok (.tuple #[.agg #[.int .i64 g, .int .i64 a, .int .i64 i, .int .i64 n], tmps.getD u undef]) w := by
  rw [results_cell_tmp h, hp]
  simp [asAddr, run_loadVar_row w G 25 25 _ _ _ hg Tryd.underlying25 rfl Tryd.sz25, Result.andThen]
structure GetsR (w0 w : World) : Prop where
  b : Below w0.heap.size w0 w
  r : Row4 w w0.heap.size 25 0 0 0 0
theorem GetsR.up {w0 w w' : World} (h : GetsR w0 w) (hb : Below w.heap.size w w') : GetsR w0 w' := ⟨h.b.trans (hb.mono h.b.size), h.r.up hb⟩
theorem GetsR.lt {w0 w : World} (h : GetsR w0 w) : w0.heap.size < w.heap.size := h.r.lt
theorem GetsR.set4 {w0 w : World} (h : GetsR w0 w) {Q : Nat} (hQ : w0.heap.size < Q) (u v s t : Value) : GetsR w0 ((((w.setCell ⟨Q, 0, none⟩ u).setCell ⟨Q, 1, none⟩ v).setCell ⟨Q, 2, none⟩ s).setCell ⟨Q, 3, none⟩ t) :=
  ⟨below_set4 h.b (by omega) _ _ _ _, h.r.other (by omega) _ _ _ _⟩
theorem gets0 (w : World) : GetsR w (w.alloc (.cells #[.int .i64 0, .int .i64 0, .int .i64 0, .int .i64 0] 25)) := ⟨(Below.refl _ _).alloc (Nat.le_refl _) _, heap_alloc_new _ _⟩
set_option maxHeartbeats 1000000 in
theorem sget_size (sp : Option Addr) (cap : Nat) (l : List UInt8) (w : World) (hl : (l.length : Int) ≠ 256) :
    Calls Tryd.prog 11 #[.slice sp l.length cap] w fun e w' => e = .returned (.tuple #[.agg #[.int .i64 (getX (rdG l) l), .int .i64 (getX (rdA l) l), .int .i64 (getX (rdI l) l), .int .i64 (getX (rdN l) l)], .int .i64 (getE l)]) ∧ Below w.heap.size w w' := by
  have HE : Hid (getE l = 4) := by show _ = _; rw [getE, if_pos (by omega)]
  have HG0 : Hid (Gets w (w.alloc (.cells #[.int .i64 0, .int .i64 0, .int .i64 0, .int .i64 0] 30))) := ⟨(Below.refl _ _).alloc (Nat.le_refl _) _, heap_alloc_new _ _⟩
  go_enter Tryd.func11, Tryd.ntmps11
  go_wp2
  refine bodyPost_ret (results_sup rfl _ _ w.heap.size 0 0 0 0 rfl HG0.out.r) rfl ?_
  exact ⟨err_form HE.out (by omega), HG0.out.b⟩
set_option maxHeartbeats 1000000 in
theorem rsget_size (sp : Option Addr) (cap : Nat) (l : List UInt8) (w : World) (hl : (l.length : Int) ≠ 256) :
    Calls Tryd.prog 12 #[.slice sp l.length cap] w fun e w' => e = .returned (.tuple #[.agg #[.int .i64 (getX (rdG l) l), .int .i64 (getX (rdA l) l), .int .i64 (getX (rdI l) l), .int .i64 (getX (rdN l) l)], .int .i64 (getE l)]) ∧ Below w.heap.size w w' := by
  have HE : Hid (getE l = 4) := by show _ = _; rw [getE, if_pos (by omega)]
  have HG0 : Hid (GetsR w (w.alloc (.cells #[.int .i64 0, .int .i64 0, .int .i64 0, .int .i64 0] 25))) := gets0 w
  go_enter Tryd.func12, Tryd.ntmps12
  go_wp2
  refine bodyPost_ret (results_rsup rfl _ _ w.heap.size 0 0 0 0 rfl HG0.out.r) rfl ?_
  exact ⟨err_form HE.out (by omega), HG0.out.b⟩
set_option maxRecDepth 100000 in
set_option maxHeartbeats 4000000 in
theorem rsget_mark (bb off cap : Nat) (l : List UInt8) (hl : l.length = 256) (w : World) (hs : Src w (some ⟨bb, off, none⟩) l) (hc : (256 : Int) ≤ cap) (hm : (cap : Int) ≤ 9223372036854775807) (h1 : l.take 4 ≠ markL) :
    Calls Tryd.prog 12 #[.slice (some ⟨bb, off, none⟩) 256 cap] w fun e w' => e = .returned (.tuple #[.agg #[.int .i64 (getX (rdG l) l), .int .i64 (getX (rdA l) l), .int .i64 (getX (rdI l) l), .int .i64 (getX (rdN l) l)], .int .i64 (getE l)]) ∧ Below w.heap.size w w' := by
  have HG0 : Hid (GetsR w (w.alloc (.cells #[.int .i64 0, .int .i64 0, .int .i64 0, .int .i64 0] 25))) := gets0 w
  have hst := conv_str (w := w.alloc (.cells #[.int .i64 0, .int .i64 0, .int .i64 0, .int .i64 0] 25)) (sp := some ⟨bb, off, none⟩) (l := l.take 4) (by have := (hs.below HG0.out.b (Nat.le_refl _)).part hl 0 4 (by omega); rw [List.drop_zero] at this; exact this) 4 cap (by rw [List.length_take, hl]; rfl)
  have HE : Hid (getE l = 8) := by show _ = _; rw [getE, if_neg (by omega), if_pos h1]
  have hne1 : ((str (l.take 4)).toList == [76, 86, 69, 69]) = false := by
    have := (not_congr (str_beq (l.take 4) markL)).2 h1
    simpa [str, markL] using this
  generalize str (l.take 4) = s at hst hne1
  clear h1 hs hl
  go_enter Tryd.func12, Tryd.ntmps12
  go_wp2
  refine bodyPost_ret (results_rsup rfl _ _ w.heap.size 0 0 0 0 rfl HG0.out.r) rfl ?_
  exact ⟨err_form HE.out (by omega), HG0.out.b⟩
set_option maxRecDepth 100000 in
set_option maxHeartbeats 4000000 in
theorem rsget_sum (bb off cap : Nat) (l : List UInt8) (hl : l.length = 256) (w : World) (hs : Src w (some ⟨bb, off, none⟩) l) (hc : (256 : Int) ≤ cap) (hm : (cap : Int) ≤ 9223372036854775807) (h1 : l.take 4 = markL) (h2 : getNum (l.drop 252) ≠ sumN (l.take 252)) :
    Calls Tryd.prog 12 #[.slice (some ⟨bb, off, none⟩) 256 cap] w fun e w' => e = .returned (.tuple #[.agg #[.int .i64 (getX (rdG l) l), .int .i64 (getX (rdA l) l), .int .i64 (getX (rdI l) l), .int .i64 (getX (rdN l) l)], .int .i64 (getE l)]) ∧ Below w.heap.size w w' := by
  have HG0 : Hid (GetsR w (w.alloc (.cells #[.int .i64 0, .int .i64 0, .int .i64 0, .int .i64 0] 25))) := gets0 w
  have hst := conv_str (w := w.alloc (.cells #[.int .i64 0, .int .i64 0, .int .i64 0, .int .i64 0] 25)) (sp := some ⟨bb, off, none⟩) (l := l.take 4) (by have := (hs.below HG0.out.b (Nat.le_refl _)).part hl 0 4 (by omega); rw [List.drop_zero] at this; exact this) 4 cap (by rw [List.length_take, hl]; rfl)
  rw [h1] at hst
  have hst' : (convert 26 9 (.slice (some ⟨bb, off, none⟩) 4 cap)).run Tryd.prog (w.alloc (.cells #[.int .i64 0, .int .i64 0, .int .i64 0, .int .i64 0] 25)) = .ok (.string ⟨#[76, 86, 69, 69]⟩) (w.alloc (.cells #[.int .i64 0, .int .i64 0, .int .i64 0, .int .i64 0] 25)) := hst
  clear hst
  have n1 : ¬ cap = 252 := by omega
  have b1 : (252 : Int) ≤ cap := by omega
  have hd0 : GetsR w (w.alloc (.cells #[.int .i64 0, .int .i64 0, .int .i64 0, .int .i64 0] 25)).drew := HG0.out.up (Below.refl _ _).drew
  have GA : ∀ (o k c : Nat) (W : World), o + k ≤ 256 → GetsR w W → Calls Tryd.prog 31 #[.slice (some ⟨bb, off + o, none⟩) k c] W fun e w' => e = .returned (.int .u64 (getNum ((l.drop o).take k) : Int)) ∧ Below W.heap.size W w' := by
    intro o k c W hok hR
    have hlen : ((l.drop o).take k).length = k := by simp [hl]; omega
    have h := rget_any (some ⟨bb, off + o, none⟩) ((l.drop o).take k) c W ((hs.part hl o k hok).below hR.b (Nat.le_refl _)) (by rw [hlen]; omega)
    rw [hlen] at h
    exact h.mono fun _ _ ⟨q1, q2⟩ => ⟨q1, by rw [q2]; exact Below.refl _ _⟩
  have GT : ∀ W, GetsR w W → Calls Tryd.prog 31 #[.slice (some ⟨bb, off + 252, none⟩) 4 (cap - 252)] W fun e w' => e = .returned (.int .u64 (getNum (l.drop 252) : Int)) ∧ Below W.heap.size W w' := by
    intro W hR
    have h := GA 252 4 (cap - 252) W (by omega) hR
    rw [show (l.drop 252).take 4 = l.drop 252 from List.take_of_length_le (by rw [List.length_drop, hl]; omega)] at h
    exact h
  have SM : ∀ W, GetsR w W → Calls Tryd.prog 27 #[.slice (some ⟨bb, off, none⟩) 252 cap] W fun e w' => e = .returned (.int .u32 (sumN (l.take 252) : Int)) ∧ Below W.heap.size W w' := by
    intro W hR
    have h := rsum_any (some ⟨bb, off, none⟩) (l.take 252) cap W (by have := (hs.part hl 0 252 (by omega)).below hR.b (Nat.le_refl _); rw [List.drop_zero] at this; exact this) (by rw [List.length_take, hl]; decide)
    rw [show (l.take 252).length = 252 by rw [List.length_take, hl]; rfl] at h
    exact h.mono fun _ _ ⟨q1, q2⟩ => ⟨q1, by rw [q2]; exact Below.refl _ _⟩
  have hslt := sumN_lt (l.take 252)
  have u1 : InU (sumN (l.take 252) : Int) := ⟨by omega⟩
  have HE : Hid (getE l = 7) := by show _ = _; rw [getE, if_neg (by omega), if_neg (by rw [h1]; exact fun c => c rfl), if_pos h2]
  have h2' : ((getNum (l.drop 252) : Int) == (sumN (l.take 252) : Int)) = false := beq_eq_false_iff_ne.2 (by omega)
  clear h1 hs hl GA
  generalize getNum (l.drop 252) = N at *
  generalize sumN (l.take 252) = M at *
  go_enter Tryd.func12, Tryd.ntmps12
  go_wp2_with fail
  refine wp_region_held_drew (S := (fun w' => GetsR w w')) (by kernel_rfl) hd0 (fun hH => ?_)
  refine takeH (i := 0) (dst := some 16) (v := ?v1) rfl rfl (by kernel_rfl) (by kernel_rfl) (by kernel_rfl) (fun _ _ _ h => h) rfl ?hy1 hH rfl ?rest1
  case hy1 => (intro W hW; clear hW; go_simp; try with_reducible rfl)
  (try simp only [Act.put, List.setIfInBounds_toArray, List.set_cons_zero, List.set_cons_succ])
  refine takeH (i := 1) (dst := some 17) (v := ?v2) rfl rfl (by kernel_rfl) (by kernel_rfl) (by kernel_rfl) (fun _ _ _ h => h) rfl ?hy2 hH rfl ?rest2
  case hy2 => (intro W hW; clear hW; go_simp; try with_reducible rfl)
  (try simp only [Act.put, List.setIfInBounds_toArray, List.set_cons_zero, List.set_cons_succ])
  refine takeH (i := 3) (dst := some 19) (v := ?v3) rfl rfl (by kernel_rfl) (by kernel_rfl) (by kernel_rfl) (fun _ _ _ h => h) rfl ?hy3 hH rfl ?rest3
  case hy3 => (intro W hW; clear hW; go_simp; try with_reducible rfl)
  (try simp only [Act.put, List.setIfInBounds_toArray, List.set_cons_zero, List.set_cons_succ])
  refine takeH (i := 4) (dst := some 20) (v := ?v4) rfl rfl (by kernel_rfl) (by kernel_rfl) (by kernel_rfl) (fun _ _ _ h => h) rfl ?hy4 hH rfl ?rest4
  case hy4 => (intro W hW; clear hW; go_simp; try with_reducible rfl)
  (try simp only [Act.put, List.setIfInBounds_toArray, List.set_cons_zero, List.set_cons_succ])
  refine callH (i := 2) { dst := some 18, op := Go.Op.call { callee := Go.Callee.value (Go.Operand.func 31), args := #[Go.Operand.tmp 17], argTypes := #[26] }, type := 57, pos := "ref.go:43", after := #[{ on := 1, ground := Go.Ground.data }], guard := none } (by kernel_rfl) rfl rfl (fun K hK => ?_)
  go_simp
  refine (GT _ hH).mono ?_
  rintro e v1 ⟨rfl, b9⟩
  have m1 := hH.up b9
  clear b9
  clear hH
  refine hK.out _ _ m1 (fun hH => ?_)
  clear hK K
  (try simp only [Act.put, List.setIfInBounds_toArray, List.set_cons_zero, List.set_cons_succ])
  refine callH (i := 5) { dst := some 21, op := Go.Op.call { callee := Go.Callee.value (Go.Operand.func 27), args := #[Go.Operand.tmp 20], argTypes := #[26] }, type := 58, pos := "ref.go:43", after := #[{ on := 4, ground := Go.Ground.data }, { on := 2, ground := Go.Ground.chain }], guard := none } (by kernel_rfl) rfl rfl (fun K hK => ?_)
  go_simp
  refine (SM _ hH).mono ?_
  rintro e v2 ⟨rfl, b9⟩
  have m2 := hH.up b9
  clear b9
  clear hH
  refine hK.out _ _ m2 (fun hH => ?_)
  clear hK K
  (try simp only [Act.put, List.setIfInBounds_toArray, List.set_cons_zero, List.set_cons_succ])
  refine takeH (i := 6) (dst := some 22) (v := ?v5) rfl rfl (by kernel_rfl) (by kernel_rfl) (by kernel_rfl) (fun _ _ _ h => h) rfl ?hy5 hH rfl ?rest5
  case hy5 => (intro W hW; clear hW; go_simp; try with_reducible rfl)
  (try simp only [Act.put, List.setIfInBounds_toArray, List.set_cons_zero, List.set_cons_succ])
  refine takeH (i := 7) (dst := some 23) (v := ?v6) rfl rfl (by kernel_rfl) (by kernel_rfl) (by kernel_rfl) (fun _ _ _ h => h) rfl ?hy6 hH rfl ?rest6
  case hy6 => (intro W hW; clear hW; go_simp; try with_reducible rfl)
  (try simp only [Act.put, List.setIfInBounds_toArray, List.set_cons_zero, List.set_cons_succ])
  refine wpAnyH_done (by kernel_rfl) ?_ _
  clear hH
  have r0 := m2.r.c0
  have r1 := m2.r.c1
  have r2 := m2.r.c2
  have r3 := m2.r.c3
  have f0 := m2.r.fr 0
  have f1 := m2.r.fr 1
  have f2 := m2.r.fr 2
  have f3 := m2.r.fr 3
  have HM : Hid (GetsR w v2) := m2
  clear m1 m2 GT SM
  go_wp2
  refine bodyPost_ret (results_rsup rfl _ _ w.heap.size 0 0 0 0 rfl (HM.out.r.set 0 0 0 0)) rfl ?_
  exact ⟨err_form HE.out (by omega), below_set4 HM.out.b (Nat.le_refl _) _ _ _ _⟩
set_option maxRecDepth 100000 in
set_option maxHeartbeats 4000000 in
theorem rsget_rest (bb off cap : Nat) (l : List UInt8) (hl : l.length = 256) (w : World) (hs : Src w (some ⟨bb, off, none⟩) l) (hc : (256 : Int) ≤ cap) (hm : (cap : Int) ≤ 9223372036854775807) (h1 : l.take 4 = markL) (h2 : getNum (l.drop 252) = sumN (l.take 252)) :
    Calls Tryd.prog 12 #[.slice (some ⟨bb, off, none⟩) 256 cap] w fun e w' => e = .returned (.tuple #[.agg #[.int .i64 (getX (rdG l) l), .int .i64 (getX (rdA l) l), .int .i64 (getX (rdI l) l), .int .i64 (getX (rdN l) l)], .int .i64 (getE l)]) ∧ Below w.heap.size w w' := by
  have HG0 : Hid (GetsR w (w.alloc (.cells #[.int .i64 0, .int .i64 0, .int .i64 0, .int .i64 0] 25))) := gets0 w
  have hst := conv_str (w := w.alloc (.cells #[.int .i64 0, .int .i64 0, .int .i64 0, .int .i64 0] 25)) (sp := some ⟨bb, off, none⟩) (l := l.take 4) (by have := (hs.below HG0.out.b (Nat.le_refl _)).part hl 0 4 (by omega); rw [List.drop_zero] at this; exact this) 4 cap (by rw [List.length_take, hl]; rfl)
  rw [h1] at hst
  have hst' : (convert 26 9 (.slice (some ⟨bb, off, none⟩) 4 cap)).run Tryd.prog (w.alloc (.cells #[.int .i64 0, .int .i64 0, .int .i64 0, .int .i64 0] 25)) = .ok (.string ⟨#[76, 86, 69, 69]⟩) (w.alloc (.cells #[.int .i64 0, .int .i64 0, .int .i64 0, .int .i64 0] 25)) := hst
  clear hst
  have n1 : ¬ cap = 252 := by omega
  have b1 : (252 : Int) ≤ cap := by omega
  have hd0 : GetsR w (w.alloc (.cells #[.int .i64 0, .int .i64 0, .int .i64 0, .int .i64 0] 25)).drew := HG0.out.up (Below.refl _ _).drew
  have GA : ∀ (o k c : Nat) (W : World), o + k ≤ 256 → GetsR w W → Calls Tryd.prog 31 #[.slice (some ⟨bb, off + o, none⟩) k c] W fun e w' => e = .returned (.int .u64 (getNum ((l.drop o).take k) : Int)) ∧ Below W.heap.size W w' := by
    intro o k c W hok hR
    have hlen : ((l.drop o).take k).length = k := by simp [hl]; omega
    have h := rget_any (some ⟨bb, off + o, none⟩) ((l.drop o).take k) c W ((hs.part hl o k hok).below hR.b (Nat.le_refl _)) (by rw [hlen]; omega)
    rw [hlen] at h
    exact h.mono fun _ _ ⟨q1, q2⟩ => ⟨q1, by rw [q2]; exact Below.refl _ _⟩
  have GT : ∀ W, GetsR w W → Calls Tryd.prog 31 #[.slice (some ⟨bb, off + 252, none⟩) 4 (cap - 252)] W fun e w' => e = .returned (.int .u64 (getNum (l.drop 252) : Int)) ∧ Below W.heap.size W w' := by
    intro W hR
    have h := GA 252 4 (cap - 252) W (by omega) hR
    rw [show (l.drop 252).take 4 = l.drop 252 from List.take_of_length_le (by rw [List.length_drop, hl]; omega)] at h
    exact h
  have SM : ∀ W, GetsR w W → Calls Tryd.prog 27 #[.slice (some ⟨bb, off, none⟩) 252 cap] W fun e w' => e = .returned (.int .u32 (sumN (l.take 252) : Int)) ∧ Below W.heap.size W w' := by
    intro W hR
    have h := rsum_any (some ⟨bb, off, none⟩) (l.take 252) cap W (by have := (hs.part hl 0 252 (by omega)).below hR.b (Nat.le_refl _); rw [List.drop_zero] at this; exact this) (by rw [List.length_take, hl]; decide)
    rw [show (l.take 252).length = 252 by rw [List.length_take, hl]; rfl] at h
    exact h.mono fun _ _ ⟨q1, q2⟩ => ⟨q1, by rw [q2]; exact Below.refl _ _⟩
  have hslt := sumN_lt (l.take 252)
  have u1 : InU (sumN (l.take 252) : Int) := ⟨by omega⟩
  rw [h2] at GT
  have l2 : ∀ o, o + 2 ≤ 256 → ((l.drop o).take 2).length = 2 := fun o h => by simp [hl]; omega
  have i1 : In64 (getNum ((l.drop 12).take 2) : Int) := ⟨by have := getNum_2lt (l2 12 (by omega)); omega⟩
  have i2 : In64 (getNum ((l.drop 14).take 2) : Int) := ⟨by have := getNum_2lt (l2 14 (by omega)); omega⟩
  have i3 : In64 (getNum ((l.drop 16).take 2) : Int) := ⟨by have := getNum_2lt (l2 16 (by omega)); omega⟩
  have G1 := fun W h => GA 4 8 (cap - 4) W (by omega) h
  have G2 := fun W h => GA 12 2 (cap - 12) W (by omega) h
  have G3 := fun W h => GA 14 2 (cap - 14) W (by omega) h
  have G4 := fun W h => GA 16 2 (cap - 16) W (by omega) h
  have h4 : (12 : Int) ≤ cap := by omega
  have h5 : (14 : Int) ≤ cap := by omega
  have h6 : (16 : Int) ≤ cap := by omega
  have h7 : (18 : Int) ≤ cap := by omega
  have n2 : ¬ cap = 4 := by omega
  have n3 : ¬ cap = 12 := by omega
  have n4 : ¬ cap = 14 := by omega
  have n5 : ¬ cap = 16 := by omega
  obtain ⟨N1, HN1⟩ : ∃ N1, Hid (N1 = getNum ((l.drop 4).take 8)) := ⟨_, rfl⟩
  obtain ⟨N2, HN2⟩ : ∃ N2, Hid (N2 = getNum ((l.drop 12).take 2)) := ⟨_, rfl⟩
  obtain ⟨N3, HN3⟩ : ∃ N3, Hid (N3 = getNum ((l.drop 14).take 2)) := ⟨_, rfl⟩
  obtain ⟨N4, HN4⟩ : ∃ N4, Hid (N4 = getNum ((l.drop 16).take 2)) := ⟨_, rfl⟩
  rw [← HN1.out] at G1
  rw [← HN2.out] at G2 i1
  rw [← HN3.out] at G3 i2
  rw [← HN4.out] at G4 i3
  have HS : Hid (Src w (some ⟨bb, off, none⟩) l) := hs
  have H1 : Hid (l.take 4 = markL) := h1
  have H2 : Hid (getNum (l.drop 252) = sumN (l.take 252)) := h2
  have HL : Hid (l.length = 256) := hl
  obtain ⟨M, HMM⟩ : ∃ M, Hid (M = sumN (l.take 252)) := ⟨_, rfl⟩
  rw [← HMM.out] at GT SM u1
  clear h1 h2 hs hl GA l2 hslt HMM
  go_enter Tryd.func12, Tryd.ntmps12
  go_wp2_with fail
  refine wp_region_held_drew (S := (fun w' => GetsR w w')) (by kernel_rfl) hd0 (fun hH => ?_)
  refine takeH (i := 0) (dst := some 16) (v := ?v7) rfl rfl (by kernel_rfl) (by kernel_rfl) (by kernel_rfl) (fun _ _ _ h => h) rfl ?hy7 hH rfl ?rest7
  case hy7 => (intro W hW; clear hW; go_simp; try with_reducible rfl)
  (try simp only [Act.put, List.setIfInBounds_toArray, List.set_cons_zero, List.set_cons_succ])
  refine takeH (i := 1) (dst := some 17) (v := ?v8) rfl rfl (by kernel_rfl) (by kernel_rfl) (by kernel_rfl) (fun _ _ _ h => h) rfl ?hy8 hH rfl ?rest8
  case hy8 => (intro W hW; clear hW; go_simp; try with_reducible rfl)
  (try simp only [Act.put, List.setIfInBounds_toArray, List.set_cons_zero, List.set_cons_succ])
  refine takeH (i := 3) (dst := some 19) (v := ?v9) rfl rfl (by kernel_rfl) (by kernel_rfl) (by kernel_rfl) (fun _ _ _ h => h) rfl ?hy9 hH rfl ?rest9
  case hy9 => (intro W hW; clear hW; go_simp; try with_reducible rfl)
  (try simp only [Act.put, List.setIfInBounds_toArray, List.set_cons_zero, List.set_cons_succ])
  refine takeH (i := 4) (dst := some 20) (v := ?v10) rfl rfl (by kernel_rfl) (by kernel_rfl) (by kernel_rfl) (fun _ _ _ h => h) rfl ?hy10 hH rfl ?rest10
  case hy10 => (intro W hW; clear hW; go_simp; try with_reducible rfl)
  (try simp only [Act.put, List.setIfInBounds_toArray, List.set_cons_zero, List.set_cons_succ])
  refine callH (i := 2) { dst := some 18, op := Go.Op.call { callee := Go.Callee.value (Go.Operand.func 31), args := #[Go.Operand.tmp 17], argTypes := #[26] }, type := 57, pos := "ref.go:43", after := #[{ on := 1, ground := Go.Ground.data }], guard := none } (by kernel_rfl) rfl rfl (fun K hK => ?_)
  go_simp
  refine (GT _ hH).mono ?_
  rintro e v1 ⟨rfl, b9⟩
  have m1 := hH.up b9
  clear b9
  clear hH
  refine hK.out _ _ m1 (fun hH => ?_)
  clear hK K
  (try simp only [Act.put, List.setIfInBounds_toArray, List.set_cons_zero, List.set_cons_succ])
  refine callH (i := 5) { dst := some 21, op := Go.Op.call { callee := Go.Callee.value (Go.Operand.func 27), args := #[Go.Operand.tmp 20], argTypes := #[26] }, type := 58, pos := "ref.go:43", after := #[{ on := 4, ground := Go.Ground.data }, { on := 2, ground := Go.Ground.chain }], guard := none } (by kernel_rfl) rfl rfl (fun K hK => ?_)
  go_simp
  refine (SM _ hH).mono ?_
  rintro e v2 ⟨rfl, b9⟩
  have m2 := hH.up b9
  clear b9
  clear hH
  refine hK.out _ _ m2 (fun hH => ?_)
  clear hK K
  (try simp only [Act.put, List.setIfInBounds_toArray, List.set_cons_zero, List.set_cons_succ])
  refine takeH (i := 6) (dst := some 22) (v := ?v11) rfl rfl (by kernel_rfl) (by kernel_rfl) (by kernel_rfl) (fun _ _ _ h => h) rfl ?hy11 hH rfl ?rest11
  case hy11 => (intro W hW; clear hW; go_simp; try with_reducible rfl)
  (try simp only [Act.put, List.setIfInBounds_toArray, List.set_cons_zero, List.set_cons_succ])
  refine takeH (i := 7) (dst := some 23) (v := ?v12) rfl rfl (by kernel_rfl) (by kernel_rfl) (by kernel_rfl) (fun _ _ _ h => h) rfl ?hy12 hH rfl ?rest12
  case hy12 => (intro W hW; clear hW; go_simp; try with_reducible rfl)
  (try simp only [Act.put, List.setIfInBounds_toArray, List.set_cons_zero, List.set_cons_succ])
  refine wpAnyH_done (by kernel_rfl) ?_ _
  clear hH
  have hd2 : GetsR w v2.drew := m2.up (Below.refl _ _).drew
  have hsz0 : v2.drew.heap.size = v2.heap.size := rfl
  clear m1 m2 GT SM u1 hd0 HG0 hst'
  go_wp2_with fail
  go_cut [4] from 25 (fun s4 wc => ∃ Q, s4 = .pointer (some ⟨Q, 0, none⟩) ∧ GetsR w wc ∧ Row4 wc Q 25 (IntKind.i64.wrap (N1 : Int)) N2 N3 N4 ∧ w.heap.size < Q)
  case first =>
    refine wp_region_held_drew (S := (fun w' => GetsR w w')) (by kernel_rfl) hd2 (fun hH => ?_)
    refine takeH (i := 0) (dst := some 25) (v := ?v1001) rfl rfl (by kernel_rfl) (by kernel_rfl) (by kernel_rfl) (fun _ _ _ h => h) rfl ?hy1001 hH rfl ?rest1001
    case hy1001 => (intro W hW; clear hW; go_simp; try with_reducible rfl)
    (try simp only [Act.put, List.setIfInBounds_toArray, List.set_cons_zero, List.set_cons_succ])
    refine takeH (i := 1) (dst := some 26) (v := ?v1002) rfl rfl (by kernel_rfl) (by kernel_rfl) (by kernel_rfl) (fun _ _ _ h => h) rfl ?hy1002 hH rfl ?rest1002
    case hy1002 => (intro W hW; clear hW; go_simp; try with_reducible rfl)
    (try simp only [Act.put, List.setIfInBounds_toArray, List.set_cons_zero, List.set_cons_succ])
    refine takeH (i := 4) (dst := some 29) (v := ?v1003) rfl rfl (by kernel_rfl) (by kernel_rfl) (by kernel_rfl) (fun _ _ _ h => h) rfl ?hy1003 hH rfl ?rest1003
    case hy1003 => (intro W hW; clear hW; go_simp; try with_reducible rfl)
    (try simp only [Act.put, List.setIfInBounds_toArray, List.set_cons_zero, List.set_cons_succ])
    refine takeH (i := 5) (dst := some 30) (v := ?v1004) rfl rfl (by kernel_rfl) (by kernel_rfl) (by kernel_rfl) (fun _ _ _ h => h) rfl ?hy1004 hH rfl ?rest1004
    case hy1004 => (intro W hW; clear hW; go_simp; try with_reducible rfl)
    (try simp only [Act.put, List.setIfInBounds_toArray, List.set_cons_zero, List.set_cons_succ])
    refine takeH (i := 8) (dst := some 33) (v := ?v1005) rfl rfl (by kernel_rfl) (by kernel_rfl) (by kernel_rfl) (fun _ _ _ h => h) rfl ?hy1005 hH rfl ?rest1005
    case hy1005 => (intro W hW; clear hW; go_simp; try with_reducible rfl)
    (try simp only [Act.put, List.setIfInBounds_toArray, List.set_cons_zero, List.set_cons_succ])
    refine takeH (i := 9) (dst := some 34) (v := ?v1006) rfl rfl (by kernel_rfl) (by kernel_rfl) (by kernel_rfl) (fun _ _ _ h => h) rfl ?hy1006 hH rfl ?rest1006
    case hy1006 => (intro W hW; clear hW; go_simp; try with_reducible rfl)
    (try simp only [Act.put, List.setIfInBounds_toArray, List.set_cons_zero, List.set_cons_succ])
    refine takeH (i := 12) (dst := some 37) (v := ?v1007) rfl rfl (by kernel_rfl) (by kernel_rfl) (by kernel_rfl) (fun _ _ _ h => h) rfl ?hy1007 hH rfl ?rest1007
    case hy1007 => (intro W hW; clear hW; go_simp; try with_reducible rfl)
    (try simp only [Act.put, List.setIfInBounds_toArray, List.set_cons_zero, List.set_cons_succ])
    refine takeH (i := 13) (dst := some 38) (v := ?v1008) rfl rfl (by kernel_rfl) (by kernel_rfl) (by kernel_rfl) (fun _ _ _ h => h) rfl ?hy1008 hH rfl ?rest1008
    case hy1008 => (intro W hW; clear hW; go_simp; try with_reducible rfl)
    (try simp only [Act.put, List.setIfInBounds_toArray, List.set_cons_zero, List.set_cons_succ])
    refine callH2 (i := 2) (j := 18) { dst := some 27, op := Go.Op.call { callee := Go.Callee.value (Go.Operand.func 31), args := #[Go.Operand.tmp 26], argTypes := #[26] }, type := 57, pos := "ref.go:46", after := #[{ on := 1, ground := Go.Ground.data }], guard := none } { dst := some 4, op := Go.Op.alloc 25, type := 0, pos := "ref.go:46", after := #[], guard := none } (by kernel_rfl) rfl rfl rfl rfl (fun K hK => ?_) (fun K hK => ?_)
    · go_simp
      refine (G1 _ hH).mono ?_
      rintro e v1009 ⟨rfl, b1009⟩
      have d1009 := hH.up b1009
      clear hH
      refine hK.out _ _ d1009 (fun hH => ?_)
      clear hK K
      (try simp only [Act.put, List.setIfInBounds_toArray, List.set_cons_zero, List.set_cons_succ])
      refine takeH (i := 3) (dst := some 28) (v := ?v1010) rfl rfl (by kernel_rfl) (by kernel_rfl) (by kernel_rfl) (fun _ _ _ h => h) rfl ?hy1010 hH rfl ?rest1010
      case hy1010 => (intro W hW; clear hW; go_simp; try with_reducible rfl)
      (try simp only [Act.put, List.setIfInBounds_toArray, List.set_cons_zero, List.set_cons_succ])
      refine callH2 (i := 6) (j := 18) { dst := some 31, op := Go.Op.call { callee := Go.Callee.value (Go.Operand.func 31), args := #[Go.Operand.tmp 30], argTypes := #[26] }, type := 57, pos := "ref.go:46", after := #[{ on := 5, ground := Go.Ground.data }, { on := 2, ground := Go.Ground.chain }], guard := none } { dst := some 4, op := Go.Op.alloc 25, type := 0, pos := "ref.go:46", after := #[], guard := none } (by kernel_rfl) rfl rfl rfl rfl (fun K hK => ?_) (fun K hK => ?_)
      · go_simp
        refine (G2 _ hH).mono ?_
        rintro e v1011 ⟨rfl, b1011⟩
        have d1011 := hH.up b1011
        clear hH
        refine hK.out _ _ d1011 (fun hH => ?_)
        clear hK K
        (try simp only [Act.put, List.setIfInBounds_toArray, List.set_cons_zero, List.set_cons_succ])
        refine takeH (i := 7) (dst := some 32) (v := ?v1012) rfl rfl (by kernel_rfl) (by kernel_rfl) (by kernel_rfl) (fun _ _ _ h => h) rfl ?hy1012 hH rfl ?rest1012
        case hy1012 => (intro W hW; clear hW; go_simp; try with_reducible rfl)
        (try simp only [Act.put, List.setIfInBounds_toArray, List.set_cons_zero, List.set_cons_succ])
        refine callH2 (i := 10) (j := 18) { dst := some 35, op := Go.Op.call { callee := Go.Callee.value (Go.Operand.func 31), args := #[Go.Operand.tmp 34], argTypes := #[26] }, type := 57, pos := "ref.go:46", after := #[{ on := 9, ground := Go.Ground.data }, { on := 6, ground := Go.Ground.chain }], guard := none } { dst := some 4, op := Go.Op.alloc 25, type := 0, pos := "ref.go:46", after := #[], guard := none } (by kernel_rfl) rfl rfl rfl rfl (fun K hK => ?_) (fun K hK => ?_)
        · go_simp
          refine (G3 _ hH).mono ?_
          rintro e v1013 ⟨rfl, b1013⟩
          have d1013 := hH.up b1013
          clear hH
          refine hK.out _ _ d1013 (fun hH => ?_)
          clear hK K
          (try simp only [Act.put, List.setIfInBounds_toArray, List.set_cons_zero, List.set_cons_succ])
          refine takeH (i := 11) (dst := some 36) (v := ?v1014) rfl rfl (by kernel_rfl) (by kernel_rfl) (by kernel_rfl) (fun _ _ _ h => h) rfl ?hy1014 hH rfl ?rest1014
          case hy1014 => (intro W hW; clear hW; go_simp; try with_reducible rfl)
          (try simp only [Act.put, List.setIfInBounds_toArray, List.set_cons_zero, List.set_cons_succ])
          refine callH2 (i := 14) (j := 18) { dst := some 39, op := Go.Op.call { callee := Go.Callee.value (Go.Operand.func 31), args := #[Go.Operand.tmp 38], argTypes := #[26] }, type := 57, pos := "ref.go:46", after := #[{ on := 13, ground := Go.Ground.data }, { on := 10, ground := Go.Ground.chain }], guard := none } { dst := some 4, op := Go.Op.alloc 25, type := 0, pos := "ref.go:46", after := #[], guard := none } (by kernel_rfl) rfl rfl rfl rfl (fun K hK => ?_) (fun K hK => ?_)
          · go_simp
            refine (G4 _ hH).mono ?_
            rintro e v1015 ⟨rfl, b1015⟩
            have d1015 := hH.up b1015
            clear hH
            refine hK.out _ _ d1015 (fun hH => ?_)
            clear hK K
            (try simp only [Act.put, List.setIfInBounds_toArray, List.set_cons_zero, List.set_cons_succ])
            refine takeH (i := 15) (dst := some 40) (v := ?v1016) rfl rfl (by kernel_rfl) (by kernel_rfl) (by kernel_rfl) (fun _ _ _ h => h) rfl ?hy1016 hH rfl ?rest1016
            case hy1016 => (intro W hW; clear hW; go_simp; try with_reducible rfl)
            (try simp only [Act.put, List.setIfInBounds_toArray, List.set_cons_zero, List.set_cons_succ])
            refine takeH (i := 16) (dst := some 41) (v := ?v1017) rfl rfl (by kernel_rfl) (by kernel_rfl) (by kernel_rfl) (fun _ _ _ h => h) rfl ?hy1017 hH rfl ?rest1017
            case hy1017 => (intro W hW; clear hW; go_simp; try with_reducible rfl)
            (try simp only [Act.put, List.setIfInBounds_toArray, List.set_cons_zero, List.set_cons_succ])
            refine takeH (i := 17) (dst := some 42) (v := ?v1018) rfl rfl (by kernel_rfl) (by kernel_rfl) (by kernel_rfl) (fun _ _ _ h => h) rfl ?hy1018 hH rfl ?rest1018
            case hy1018 => (intro W hW; clear hW; go_simp; try with_reducible rfl)
            (try simp only [Act.put, List.setIfInBounds_toArray, List.set_cons_zero, List.set_cons_succ])
            refine callH (i := 18) { dst := some 4, op := Go.Op.alloc 25, type := 0, pos := "ref.go:46", after := #[], guard := none } (by kernel_rfl) rfl rfl (fun K hK => ?_)
            go_simp
            have al1019 : Below v1015.heap.size v1015 (v1015.alloc (.cells #[.int .i64 0, .int .i64 0, .int .i64 0, .int .i64 0] 25)) := (Below.refl _ _).alloc (Nat.le_refl _) _
            have hPL := hH.lt
            have d1019 := hH.up al1019
            have row1019 : Row4 (v1015.alloc (.cells #[.int .i64 0, .int .i64 0, .int .i64 0, .int .i64 0] 25)) v1015.heap.size 25 0 0 0 0 := heap_alloc_new _ _
            clear al1019
            obtain ⟨nw1019, hnw1019⟩ : ∃ nw, Hid (nw = v1015.alloc (.cells #[.int .i64 0, .int .i64 0, .int .i64 0, .int .i64 0] 25)) := ⟨_, rfl⟩
            rw [← hnw1019.out] at d1019 row1019 ⊢
            clear hH
            refine hK.out _ _ d1019 (fun hH => ?_)
            clear hK K
            (try simp only [Act.put, List.setIfInBounds_toArray, List.set_cons_zero, List.set_cons_succ])
            have r0 := row1019.c0
            have r1 := row1019.c1
            have r2 := row1019.c2
            have r3 := row1019.c3
            have f0 := row1019.fr 0
            have f1 := row1019.fr 1
            have f2 := row1019.fr 2
            have f3 := row1019.fr 3
            have hPl := hPL
            have dS := hH.set4 hPl (.int .i64 (IntKind.i64.wrap (N1 : Int))) (.int .i64 (N2 : Int)) (.int .i64 (N3 : Int)) (.int .i64 (N4 : Int))
            have dR := row1019.set (IntKind.i64.wrap (N1 : Int)) (N2 : Int) (N3 : Int) (N4 : Int)
            refine callH (i := 19) { dst := none, op := Go.Op.store 25 (Go.Operand.tmp 4) (Go.Operand.tmp 42), type := 0, pos := "ref.go:46", after := #[{ on := 18, ground := Go.Ground.data }, { on := 17, ground := Go.Ground.data }, { on := 14, ground := Go.Ground.chain }, { on := 0, ground := Go.Ground.phase }, { on := 1, ground := Go.Ground.phase }, { on := 2, ground := Go.Ground.phase }, { on := 3, ground := Go.Ground.phase }, { on := 4, ground := Go.Ground.phase }, { on := 5, ground := Go.Ground.phase }, { on := 6, ground := Go.Ground.phase }, { on := 7, ground := Go.Ground.phase }, { on := 8, ground := Go.Ground.phase }, { on := 9, ground := Go.Ground.phase }, { on := 10, ground := Go.Ground.phase }, { on := 11, ground := Go.Ground.phase }, { on := 12, ground := Go.Ground.phase }, { on := 13, ground := Go.Ground.phase }, { on := 14, ground := Go.Ground.phase }, { on := 15, ground := Go.Ground.phase }, { on := 16, ground := Go.Ground.phase }, { on := 17, ground := Go.Ground.phase }, { on := 18, ground := Go.Ground.phase }], guard := none } (by kernel_rfl) rfl rfl (fun K hK => ?_)
            go_simp
            clear hH
            refine hK.out _ _ dS (fun hH => ?_)
            clear hK K
            (try simp only [Act.put, List.setIfInBounds_toArray, List.set_cons_zero, List.set_cons_succ])
            refine wpAnyH_done (by kernel_rfl) ?_ _
            go_wp2_with fail
            go_meet
            case rel => exact ⟨_, rfl, dS, dR, hPl⟩
          · go_simp
            have al1020 : Below v1013.heap.size v1013 (v1013.alloc (.cells #[.int .i64 0, .int .i64 0, .int .i64 0, .int .i64 0] 25)) := (Below.refl _ _).alloc (Nat.le_refl _) _
            have hPL := hH.lt
            have d1020 := hH.up al1020
            have row1020 : Row4 (v1013.alloc (.cells #[.int .i64 0, .int .i64 0, .int .i64 0, .int .i64 0] 25)) v1013.heap.size 25 0 0 0 0 := heap_alloc_new _ _
            clear al1020
            obtain ⟨nw1020, hnw1020⟩ : ∃ nw, Hid (nw = v1013.alloc (.cells #[.int .i64 0, .int .i64 0, .int .i64 0, .int .i64 0] 25)) := ⟨_, rfl⟩
            rw [← hnw1020.out] at d1020 row1020 ⊢
            clear hH
            refine hK.out _ _ d1020 (fun hH => ?_)
            clear hK K
            (try simp only [Act.put, List.setIfInBounds_toArray, List.set_cons_zero, List.set_cons_succ])
            refine callH (i := 14) { dst := some 39, op := Go.Op.call { callee := Go.Callee.value (Go.Operand.func 31), args := #[Go.Operand.tmp 38], argTypes := #[26] }, type := 57, pos := "ref.go:46", after := #[{ on := 13, ground := Go.Ground.data }, { on := 10, ground := Go.Ground.chain }], guard := none } (by kernel_rfl) rfl rfl (fun K hK => ?_)
            go_simp
            refine (G4 _ hH).mono ?_
            rintro e v1021 ⟨rfl, b1021⟩
            have d1021 := hH.up b1021
            have row1021 := row1020.up b1021
            clear hH
            refine hK.out _ _ d1021 (fun hH => ?_)
            clear hK K
            (try simp only [Act.put, List.setIfInBounds_toArray, List.set_cons_zero, List.set_cons_succ])
            refine takeH (i := 15) (dst := some 40) (v := ?v1022) rfl rfl (by kernel_rfl) (by kernel_rfl) (by kernel_rfl) (fun _ _ _ h => h) rfl ?hy1022 hH rfl ?rest1022
            case hy1022 => (intro W hW; clear hW; go_simp; try with_reducible rfl)
            (try simp only [Act.put, List.setIfInBounds_toArray, List.set_cons_zero, List.set_cons_succ])
            refine takeH (i := 16) (dst := some 41) (v := ?v1023) rfl rfl (by kernel_rfl) (by kernel_rfl) (by kernel_rfl) (fun _ _ _ h => h) rfl ?hy1023 hH rfl ?rest1023
            case hy1023 => (intro W hW; clear hW; go_simp; try with_reducible rfl)
            (try simp only [Act.put, List.setIfInBounds_toArray, List.set_cons_zero, List.set_cons_succ])
            refine takeH (i := 17) (dst := some 42) (v := ?v1024) rfl rfl (by kernel_rfl) (by kernel_rfl) (by kernel_rfl) (fun _ _ _ h => h) rfl ?hy1024 hH rfl ?rest1024
            case hy1024 => (intro W hW; clear hW; go_simp; try with_reducible rfl)
            (try simp only [Act.put, List.setIfInBounds_toArray, List.set_cons_zero, List.set_cons_succ])
            have r0 := row1021.c0
            have r1 := row1021.c1
            have r2 := row1021.c2
            have r3 := row1021.c3
            have f0 := row1021.fr 0
            have f1 := row1021.fr 1
            have f2 := row1021.fr 2
            have f3 := row1021.fr 3
            have hPl := hPL
            have dS := hH.set4 hPl (.int .i64 (IntKind.i64.wrap (N1 : Int))) (.int .i64 (N2 : Int)) (.int .i64 (N3 : Int)) (.int .i64 (N4 : Int))
            have dR := row1021.set (IntKind.i64.wrap (N1 : Int)) (N2 : Int) (N3 : Int) (N4 : Int)
            refine callH (i := 19) { dst := none, op := Go.Op.store 25 (Go.Operand.tmp 4) (Go.Operand.tmp 42), type := 0, pos := "ref.go:46", after := #[{ on := 18, ground := Go.Ground.data }, { on := 17, ground := Go.Ground.data }, { on := 14, ground := Go.Ground.chain }, { on := 0, ground := Go.Ground.phase }, { on := 1, ground := Go.Ground.phase }, { on := 2, ground := Go.Ground.phase }, { on := 3, ground := Go.Ground.phase }, { on := 4, ground := Go.Ground.phase }, { on := 5, ground := Go.Ground.phase }, { on := 6, ground := Go.Ground.phase }, { on := 7, ground := Go.Ground.phase }, { on := 8, ground := Go.Ground.phase }, { on := 9, ground := Go.Ground.phase }, { on := 10, ground := Go.Ground.phase }, { on := 11, ground := Go.Ground.phase }, { on := 12, ground := Go.Ground.phase }, { on := 13, ground := Go.Ground.phase }, { on := 14, ground := Go.Ground.phase }, { on := 15, ground := Go.Ground.phase }, { on := 16, ground := Go.Ground.phase }, { on := 17, ground := Go.Ground.phase }, { on := 18, ground := Go.Ground.phase }], guard := none } (by kernel_rfl) rfl rfl (fun K hK => ?_)
            go_simp
            clear hH
            refine hK.out _ _ dS (fun hH => ?_)
            clear hK K
            (try simp only [Act.put, List.setIfInBounds_toArray, List.set_cons_zero, List.set_cons_succ])
            refine wpAnyH_done (by kernel_rfl) ?_ _
            go_wp2_with fail
            go_meet
            case rel => exact ⟨_, rfl, dS, dR, hPl⟩
        · go_simp
          have al1025 : Below v1011.heap.size v1011 (v1011.alloc (.cells #[.int .i64 0, .int .i64 0, .int .i64 0, .int .i64 0] 25)) := (Below.refl _ _).alloc (Nat.le_refl _) _
          have hPL := hH.lt
          have d1025 := hH.up al1025
          have row1025 : Row4 (v1011.alloc (.cells #[.int .i64 0, .int .i64 0, .int .i64 0, .int .i64 0] 25)) v1011.heap.size 25 0 0 0 0 := heap_alloc_new _ _
          clear al1025
          obtain ⟨nw1025, hnw1025⟩ : ∃ nw, Hid (nw = v1011.alloc (.cells #[.int .i64 0, .int .i64 0, .int .i64 0, .int .i64 0] 25)) := ⟨_, rfl⟩
          rw [← hnw1025.out] at d1025 row1025 ⊢
          clear hH
          refine hK.out _ _ d1025 (fun hH => ?_)
          clear hK K
          (try simp only [Act.put, List.setIfInBounds_toArray, List.set_cons_zero, List.set_cons_succ])
          refine callH (i := 10) { dst := some 35, op := Go.Op.call { callee := Go.Callee.value (Go.Operand.func 31), args := #[Go.Operand.tmp 34], argTypes := #[26] }, type := 57, pos := "ref.go:46", after := #[{ on := 9, ground := Go.Ground.data }, { on := 6, ground := Go.Ground.chain }], guard := none } (by kernel_rfl) rfl rfl (fun K hK => ?_)
          go_simp
          refine (G3 _ hH).mono ?_
          rintro e v1026 ⟨rfl, b1026⟩
          have d1026 := hH.up b1026
          have row1026 := row1025.up b1026
          clear hH
          refine hK.out _ _ d1026 (fun hH => ?_)
          clear hK K
          (try simp only [Act.put, List.setIfInBounds_toArray, List.set_cons_zero, List.set_cons_succ])
          refine takeH (i := 11) (dst := some 36) (v := ?v1027) rfl rfl (by kernel_rfl) (by kernel_rfl) (by kernel_rfl) (fun _ _ _ h => h) rfl ?hy1027 hH rfl ?rest1027
          case hy1027 => (intro W hW; clear hW; go_simp; try with_reducible rfl)
          (try simp only [Act.put, List.setIfInBounds_toArray, List.set_cons_zero, List.set_cons_succ])
          refine callH (i := 14) { dst := some 39, op := Go.Op.call { callee := Go.Callee.value (Go.Operand.func 31), args := #[Go.Operand.tmp 38], argTypes := #[26] }, type := 57, pos := "ref.go:46", after := #[{ on := 13, ground := Go.Ground.data }, { on := 10, ground := Go.Ground.chain }], guard := none } (by kernel_rfl) rfl rfl (fun K hK => ?_)
          go_simp
          refine (G4 _ hH).mono ?_
          rintro e v1028 ⟨rfl, b1028⟩
          have d1028 := hH.up b1028
          have row1028 := row1026.up b1028
          clear hH
          refine hK.out _ _ d1028 (fun hH => ?_)
          clear hK K
          (try simp only [Act.put, List.setIfInBounds_toArray, List.set_cons_zero, List.set_cons_succ])
          refine takeH (i := 15) (dst := some 40) (v := ?v1029) rfl rfl (by kernel_rfl) (by kernel_rfl) (by kernel_rfl) (fun _ _ _ h => h) rfl ?hy1029 hH rfl ?rest1029
          case hy1029 => (intro W hW; clear hW; go_simp; try with_reducible rfl)
          (try simp only [Act.put, List.setIfInBounds_toArray, List.set_cons_zero, List.set_cons_succ])
          refine takeH (i := 16) (dst := some 41) (v := ?v1030) rfl rfl (by kernel_rfl) (by kernel_rfl) (by kernel_rfl) (fun _ _ _ h => h) rfl ?hy1030 hH rfl ?rest1030
          case hy1030 => (intro W hW; clear hW; go_simp; try with_reducible rfl)
          (try simp only [Act.put, List.setIfInBounds_toArray, List.set_cons_zero, List.set_cons_succ])
          refine takeH (i := 17) (dst := some 42) (v := ?v1031) rfl rfl (by kernel_rfl) (by kernel_rfl) (by kernel_rfl) (fun _ _ _ h => h) rfl ?hy1031 hH rfl ?rest1031
          case hy1031 => (intro W hW; clear hW; go_simp; try with_reducible rfl)
          (try simp only [Act.put, List.setIfInBounds_toArray, List.set_cons_zero, List.set_cons_succ])
          have r0 := row1028.c0
          have r1 := row1028.c1
          have r2 := row1028.c2
          have r3 := row1028.c3
          have f0 := row1028.fr 0
          have f1 := row1028.fr 1
          have f2 := row1028.fr 2
          have f3 := row1028.fr 3
          have hPl := hPL
          have dS := hH.set4 hPl (.int .i64 (IntKind.i64.wrap (N1 : Int))) (.int .i64 (N2 : Int)) (.int .i64 (N3 : Int)) (.int .i64 (N4 : Int))
          have dR := row1028.set (IntKind.i64.wrap (N1 : Int)) (N2 : Int) (N3 : Int) (N4 : Int)
          refine callH (i := 19) { dst := none, op := Go.Op.store 25 (Go.Operand.tmp 4) (Go.Operand.tmp 42), type := 0, pos := "ref.go:46", after := #[{ on := 18, ground := Go.Ground.data }, { on := 17, ground := Go.Ground.data }, { on := 14, ground := Go.Ground.chain }, { on := 0, ground := Go.Ground.phase }, { on := 1, ground := Go.Ground.phase }, { on := 2, ground := Go.Ground.phase }, { on := 3, ground := Go.Ground.phase }, { on := 4, ground := Go.Ground.phase }, { on := 5, ground := Go.Ground.phase }, { on := 6, ground := Go.Ground.phase }, { on := 7, ground := Go.Ground.phase }, { on := 8, ground := Go.Ground.phase }, { on := 9, ground := Go.Ground.phase }, { on := 10, ground := Go.Ground.phase }, { on := 11, ground := Go.Ground.phase }, { on := 12, ground := Go.Ground.phase }, { on := 13, ground := Go.Ground.phase }, { on := 14, ground := Go.Ground.phase }, { on := 15, ground := Go.Ground.phase }, { on := 16, ground := Go.Ground.phase }, { on := 17, ground := Go.Ground.phase }, { on := 18, ground := Go.Ground.phase }], guard := none } (by kernel_rfl) rfl rfl (fun K hK => ?_)
          go_simp
          clear hH
          refine hK.out _ _ dS (fun hH => ?_)
          clear hK K
          (try simp only [Act.put, List.setIfInBounds_toArray, List.set_cons_zero, List.set_cons_succ])
          refine wpAnyH_done (by kernel_rfl) ?_ _
          go_wp2_with fail
          go_meet
          case rel => exact ⟨_, rfl, dS, dR, hPl⟩
      · go_simp
        have al1032 : Below v1009.heap.size v1009 (v1009.alloc (.cells #[.int .i64 0, .int .i64 0, .int .i64 0, .int .i64 0] 25)) := (Below.refl _ _).alloc (Nat.le_refl _) _
        have hPL := hH.lt
        have d1032 := hH.up al1032
        have row1032 : Row4 (v1009.alloc (.cells #[.int .i64 0, .int .i64 0, .int .i64 0, .int .i64 0] 25)) v1009.heap.size 25 0 0 0 0 := heap_alloc_new _ _
        clear al1032
        obtain ⟨nw1032, hnw1032⟩ : ∃ nw, Hid (nw = v1009.alloc (.cells #[.int .i64 0, .int .i64 0, .int .i64 0, .int .i64 0] 25)) := ⟨_, rfl⟩
        rw [← hnw1032.out] at d1032 row1032 ⊢
        clear hH
        refine hK.out _ _ d1032 (fun hH => ?_)
        clear hK K
        (try simp only [Act.put, List.setIfInBounds_toArray, List.set_cons_zero, List.set_cons_succ])
        refine callH (i := 6) { dst := some 31, op := Go.Op.call { callee := Go.Callee.value (Go.Operand.func 31), args := #[Go.Operand.tmp 30], argTypes := #[26] }, type := 57, pos := "ref.go:46", after := #[{ on := 5, ground := Go.Ground.data }, { on := 2, ground := Go.Ground.chain }], guard := none } (by kernel_rfl) rfl rfl (fun K hK => ?_)
        go_simp
        refine (G2 _ hH).mono ?_
        rintro e v1033 ⟨rfl, b1033⟩
        have d1033 := hH.up b1033
        have row1033 := row1032.up b1033
        clear hH
        refine hK.out _ _ d1033 (fun hH => ?_)
        clear hK K
        (try simp only [Act.put, List.setIfInBounds_toArray, List.set_cons_zero, List.set_cons_succ])
        refine takeH (i := 7) (dst := some 32) (v := ?v1034) rfl rfl (by kernel_rfl) (by kernel_rfl) (by kernel_rfl) (fun _ _ _ h => h) rfl ?hy1034 hH rfl ?rest1034
        case hy1034 => (intro W hW; clear hW; go_simp; try with_reducible rfl)
        (try simp only [Act.put, List.setIfInBounds_toArray, List.set_cons_zero, List.set_cons_succ])
        refine callH (i := 10) { dst := some 35, op := Go.Op.call { callee := Go.Callee.value (Go.Operand.func 31), args := #[Go.Operand.tmp 34], argTypes := #[26] }, type := 57, pos := "ref.go:46", after := #[{ on := 9, ground := Go.Ground.data }, { on := 6, ground := Go.Ground.chain }], guard := none } (by kernel_rfl) rfl rfl (fun K hK => ?_)
        go_simp
        refine (G3 _ hH).mono ?_
        rintro e v1035 ⟨rfl, b1035⟩
        have d1035 := hH.up b1035
        have row1035 := row1033.up b1035
        clear hH
        refine hK.out _ _ d1035 (fun hH => ?_)
        clear hK K
        (try simp only [Act.put, List.setIfInBounds_toArray, List.set_cons_zero, List.set_cons_succ])
        refine takeH (i := 11) (dst := some 36) (v := ?v1036) rfl rfl (by kernel_rfl) (by kernel_rfl) (by kernel_rfl) (fun _ _ _ h => h) rfl ?hy1036 hH rfl ?rest1036
        case hy1036 => (intro W hW; clear hW; go_simp; try with_reducible rfl)
        (try simp only [Act.put, List.setIfInBounds_toArray, List.set_cons_zero, List.set_cons_succ])
        refine callH (i := 14) { dst := some 39, op := Go.Op.call { callee := Go.Callee.value (Go.Operand.func 31), args := #[Go.Operand.tmp 38], argTypes := #[26] }, type := 57, pos := "ref.go:46", after := #[{ on := 13, ground := Go.Ground.data }, { on := 10, ground := Go.Ground.chain }], guard := none } (by kernel_rfl) rfl rfl (fun K hK => ?_)
        go_simp
        refine (G4 _ hH).mono ?_
        rintro e v1037 ⟨rfl, b1037⟩
        have d1037 := hH.up b1037
        have row1037 := row1035.up b1037
        clear hH
        refine hK.out _ _ d1037 (fun hH => ?_)
        clear hK K
        (try simp only [Act.put, List.setIfInBounds_toArray, List.set_cons_zero, List.set_cons_succ])
        refine takeH (i := 15) (dst := some 40) (v := ?v1038) rfl rfl (by kernel_rfl) (by kernel_rfl) (by kernel_rfl) (fun _ _ _ h => h) rfl ?hy1038 hH rfl ?rest1038
        case hy1038 => (intro W hW; clear hW; go_simp; try with_reducible rfl)
        (try simp only [Act.put, List.setIfInBounds_toArray, List.set_cons_zero, List.set_cons_succ])
        refine takeH (i := 16) (dst := some 41) (v := ?v1039) rfl rfl (by kernel_rfl) (by kernel_rfl) (by kernel_rfl) (fun _ _ _ h => h) rfl ?hy1039 hH rfl ?rest1039
        case hy1039 => (intro W hW; clear hW; go_simp; try with_reducible rfl)
        (try simp only [Act.put, List.setIfInBounds_toArray, List.set_cons_zero, List.set_cons_succ])
        refine takeH (i := 17) (dst := some 42) (v := ?v1040) rfl rfl (by kernel_rfl) (by kernel_rfl) (by kernel_rfl) (fun _ _ _ h => h) rfl ?hy1040 hH rfl ?rest1040
        case hy1040 => (intro W hW; clear hW; go_simp; try with_reducible rfl)
        (try simp only [Act.put, List.setIfInBounds_toArray, List.set_cons_zero, List.set_cons_succ])
        have r0 := row1037.c0
        have r1 := row1037.c1
        have r2 := row1037.c2
        have r3 := row1037.c3
        have f0 := row1037.fr 0
        have f1 := row1037.fr 1
        have f2 := row1037.fr 2
        have f3 := row1037.fr 3
        have hPl := hPL
        have dS := hH.set4 hPl (.int .i64 (IntKind.i64.wrap (N1 : Int))) (.int .i64 (N2 : Int)) (.int .i64 (N3 : Int)) (.int .i64 (N4 : Int))
        have dR := row1037.set (IntKind.i64.wrap (N1 : Int)) (N2 : Int) (N3 : Int) (N4 : Int)
        refine callH (i := 19) { dst := none, op := Go.Op.store 25 (Go.Operand.tmp 4) (Go.Operand.tmp 42), type := 0, pos := "ref.go:46", after := #[{ on := 18, ground := Go.Ground.data }, { on := 17, ground := Go.Ground.data }, { on := 14, ground := Go.Ground.chain }, { on := 0, ground := Go.Ground.phase }, { on := 1, ground := Go.Ground.phase }, { on := 2, ground := Go.Ground.phase }, { on := 3, ground := Go.Ground.phase }, { on := 4, ground := Go.Ground.phase }, { on := 5, ground := Go.Ground.phase }, { on := 6, ground := Go.Ground.phase }, { on := 7, ground := Go.Ground.phase }, { on := 8, ground := Go.Ground.phase }, { on := 9, ground := Go.Ground.phase }, { on := 10, ground := Go.Ground.phase }, { on := 11, ground := Go.Ground.phase }, { on := 12, ground := Go.Ground.phase }, { on := 13, ground := Go.Ground.phase }, { on := 14, ground := Go.Ground.phase }, { on := 15, ground := Go.Ground.phase }, { on := 16, ground := Go.Ground.phase }, { on := 17, ground := Go.Ground.phase }, { on := 18, ground := Go.Ground.phase }], guard := none } (by kernel_rfl) rfl rfl (fun K hK => ?_)
        go_simp
        clear hH
        refine hK.out _ _ dS (fun hH => ?_)
        clear hK K
        (try simp only [Act.put, List.setIfInBounds_toArray, List.set_cons_zero, List.set_cons_succ])
        refine wpAnyH_done (by kernel_rfl) ?_ _
        go_wp2_with fail
        go_meet
        case rel => exact ⟨_, rfl, dS, dR, hPl⟩
    · go_simp
      have al1041 : Below v2.drew.heap.size v2.drew (v2.drew.alloc (.cells #[.int .i64 0, .int .i64 0, .int .i64 0, .int .i64 0] 25)) := (Below.refl _ _).alloc (Nat.le_refl _) _
      have hPL := hH.lt
      have d1041 := hH.up al1041
      have row1041 : Row4 (v2.drew.alloc (.cells #[.int .i64 0, .int .i64 0, .int .i64 0, .int .i64 0] 25)) v2.heap.size 25 0 0 0 0 := by have h9 := heap_alloc_new v2.drew (.cells #[.int .i64 0, .int .i64 0, .int .i64 0, .int .i64 0] 25); rw [hsz0] at h9; exact h9
      rw [hsz0] at hPL
      clear hH
      refine hK.out _ _ d1041 (fun hH => ?_)
      clear hK K
      (try simp only [Act.put, List.setIfInBounds_toArray, List.set_cons_zero, List.set_cons_succ])
      refine callH (i := 2) { dst := some 27, op := Go.Op.call { callee := Go.Callee.value (Go.Operand.func 31), args := #[Go.Operand.tmp 26], argTypes := #[26] }, type := 57, pos := "ref.go:46", after := #[{ on := 1, ground := Go.Ground.data }], guard := none } (by kernel_rfl) rfl rfl (fun K hK => ?_)
      go_simp
      refine (G1 _ hH).mono ?_
      rintro e v1042 ⟨rfl, b1042⟩
      have d1042 := hH.up b1042
      have row1042 := row1041.up b1042
      clear hH
      refine hK.out _ _ d1042 (fun hH => ?_)
      clear hK K
      (try simp only [Act.put, List.setIfInBounds_toArray, List.set_cons_zero, List.set_cons_succ])
      refine takeH (i := 3) (dst := some 28) (v := ?v1043) rfl rfl (by kernel_rfl) (by kernel_rfl) (by kernel_rfl) (fun _ _ _ h => h) rfl ?hy1043 hH rfl ?rest1043
      case hy1043 => (intro W hW; clear hW; go_simp; try with_reducible rfl)
      (try simp only [Act.put, List.setIfInBounds_toArray, List.set_cons_zero, List.set_cons_succ])
      refine callH (i := 6) { dst := some 31, op := Go.Op.call { callee := Go.Callee.value (Go.Operand.func 31), args := #[Go.Operand.tmp 30], argTypes := #[26] }, type := 57, pos := "ref.go:46", after := #[{ on := 5, ground := Go.Ground.data }, { on := 2, ground := Go.Ground.chain }], guard := none } (by kernel_rfl) rfl rfl (fun K hK => ?_)
      go_simp
      refine (G2 _ hH).mono ?_
      rintro e v1044 ⟨rfl, b1044⟩
      have d1044 := hH.up b1044
      have row1044 := row1042.up b1044
      clear hH
      refine hK.out _ _ d1044 (fun hH => ?_)
      clear hK K
      (try simp only [Act.put, List.setIfInBounds_toArray, List.set_cons_zero, List.set_cons_succ])
      refine takeH (i := 7) (dst := some 32) (v := ?v1045) rfl rfl (by kernel_rfl) (by kernel_rfl) (by kernel_rfl) (fun _ _ _ h => h) rfl ?hy1045 hH rfl ?rest1045
      case hy1045 => (intro W hW; clear hW; go_simp; try with_reducible rfl)
      (try simp only [Act.put, List.setIfInBounds_toArray, List.set_cons_zero, List.set_cons_succ])
      refine callH (i := 10) { dst := some 35, op := Go.Op.call { callee := Go.Callee.value (Go.Operand.func 31), args := #[Go.Operand.tmp 34], argTypes := #[26] }, type := 57, pos := "ref.go:46", after := #[{ on := 9, ground := Go.Ground.data }, { on := 6, ground := Go.Ground.chain }], guard := none } (by kernel_rfl) rfl rfl (fun K hK => ?_)
      go_simp
      refine (G3 _ hH).mono ?_
      rintro e v1046 ⟨rfl, b1046⟩
      have d1046 := hH.up b1046
      have row1046 := row1044.up b1046
      clear hH
      refine hK.out _ _ d1046 (fun hH => ?_)
      clear hK K
      (try simp only [Act.put, List.setIfInBounds_toArray, List.set_cons_zero, List.set_cons_succ])
      refine takeH (i := 11) (dst := some 36) (v := ?v1047) rfl rfl (by kernel_rfl) (by kernel_rfl) (by kernel_rfl) (fun _ _ _ h => h) rfl ?hy1047 hH rfl ?rest1047
      case hy1047 => (intro W hW; clear hW; go_simp; try with_reducible rfl)
      (try simp only [Act.put, List.setIfInBounds_toArray, List.set_cons_zero, List.set_cons_succ])
      refine callH (i := 14) { dst := some 39, op := Go.Op.call { callee := Go.Callee.value (Go.Operand.func 31), args := #[Go.Operand.tmp 38], argTypes := #[26] }, type := 57, pos := "ref.go:46", after := #[{ on := 13, ground := Go.Ground.data }, { on := 10, ground := Go.Ground.chain }], guard := none } (by kernel_rfl) rfl rfl (fun K hK => ?_)
      go_simp
      refine (G4 _ hH).mono ?_
      rintro e v1048 ⟨rfl, b1048⟩
      have d1048 := hH.up b1048
      have row1048 := row1046.up b1048
      clear hH
      refine hK.out _ _ d1048 (fun hH => ?_)
      clear hK K
      (try simp only [Act.put, List.setIfInBounds_toArray, List.set_cons_zero, List.set_cons_succ])
      refine takeH (i := 15) (dst := some 40) (v := ?v1049) rfl rfl (by kernel_rfl) (by kernel_rfl) (by kernel_rfl) (fun _ _ _ h => h) rfl ?hy1049 hH rfl ?rest1049
      case hy1049 => (intro W hW; clear hW; go_simp; try with_reducible rfl)
      (try simp only [Act.put, List.setIfInBounds_toArray, List.set_cons_zero, List.set_cons_succ])
      refine takeH (i := 16) (dst := some 41) (v := ?v1050) rfl rfl (by kernel_rfl) (by kernel_rfl) (by kernel_rfl) (fun _ _ _ h => h) rfl ?hy1050 hH rfl ?rest1050
      case hy1050 => (intro W hW; clear hW; go_simp; try with_reducible rfl)
      (try simp only [Act.put, List.setIfInBounds_toArray, List.set_cons_zero, List.set_cons_succ])
      refine takeH (i := 17) (dst := some 42) (v := ?v1051) rfl rfl (by kernel_rfl) (by kernel_rfl) (by kernel_rfl) (fun _ _ _ h => h) rfl ?hy1051 hH rfl ?rest1051
      case hy1051 => (intro W hW; clear hW; go_simp; try with_reducible rfl)
      (try simp only [Act.put, List.setIfInBounds_toArray, List.set_cons_zero, List.set_cons_succ])
      have r0 := row1048.c0
      have r1 := row1048.c1
      have r2 := row1048.c2
      have r3 := row1048.c3
      have f0 := row1048.fr 0
      have f1 := row1048.fr 1
      have f2 := row1048.fr 2
      have f3 := row1048.fr 3
      have hPl := hPL
      have dS := hH.set4 hPl (.int .i64 (IntKind.i64.wrap (N1 : Int))) (.int .i64 (N2 : Int)) (.int .i64 (N3 : Int)) (.int .i64 (N4 : Int))
      have dR := row1048.set (IntKind.i64.wrap (N1 : Int)) (N2 : Int) (N3 : Int) (N4 : Int)
      refine callH (i := 19) { dst := none, op := Go.Op.store 25 (Go.Operand.tmp 4) (Go.Operand.tmp 42), type := 0, pos := "ref.go:46", after := #[{ on := 18, ground := Go.Ground.data }, { on := 17, ground := Go.Ground.data }, { on := 14, ground := Go.Ground.chain }, { on := 0, ground := Go.Ground.phase }, { on := 1, ground := Go.Ground.phase }, { on := 2, ground := Go.Ground.phase }, { on := 3, ground := Go.Ground.phase }, { on := 4, ground := Go.Ground.phase }, { on := 5, ground := Go.Ground.phase }, { on := 6, ground := Go.Ground.phase }, { on := 7, ground := Go.Ground.phase }, { on := 8, ground := Go.Ground.phase }, { on := 9, ground := Go.Ground.phase }, { on := 10, ground := Go.Ground.phase }, { on := 11, ground := Go.Ground.phase }, { on := 12, ground := Go.Ground.phase }, { on := 13, ground := Go.Ground.phase }, { on := 14, ground := Go.Ground.phase }, { on := 15, ground := Go.Ground.phase }, { on := 16, ground := Go.Ground.phase }, { on := 17, ground := Go.Ground.phase }, { on := 18, ground := Go.Ground.phase }], guard := none } (by kernel_rfl) rfl rfl (fun K hK => ?_)
      go_simp
      clear hH
      refine hK.out _ _ dS (fun hH => ?_)
      clear hK K
      (try simp only [Act.put, List.setIfInBounds_toArray, List.set_cons_zero, List.set_cons_succ])
      refine wpAnyH_done (by kernel_rfl) ?_ _
      go_wp2_with fail
      go_meet
      case rel => exact ⟨_, rfl, dS, dR, hPl⟩
  case rest =>
    obtain ⟨Q, rfl, hW, hQ, hlt⟩ := hcut
    have e1 : IntKind.i64.wrap (N1 : Int) = rdG l := by rw [HN1.out]; rfl
    have e2 : N2 = rdA l := HN2.out
    have e3 : N3 = rdI l := HN3.out
    have e4 : N4 = rdN l := HN4.out
    rw [e1, e2, e3, e4] at hQ
    clear e1 e2 e3 e4 HN1 HN2 HN3 HN4 i1 i2 i3 G1 G2 G3 G4 hd2 hsz0
    have c0 := hQ.c0
    have c1 := hQ.c1
    have c2 := hQ.c2
    have c3 := hQ.c3
    have HW : Hid (GetsR w wc) := hW
    have HQ : Hid (Row4 wc Q 25 (rdG l) (rdA l) (rdI l) (rdN l)) := hQ
    clear hW hQ
    cases h3 : okS (rdG l) (rdA l) (rdI l) (rdN l)
    · have HE : Hid (getE l = 1) := by show _ = _; rw [getE, if_neg (by rw [HL.out]; exact fun c => c rfl), if_neg (fun c => c H1.out), if_neg (fun c => c H2.out), if_pos h3]
      have PUT := rput_no (rdG l) (rdA l) (rdI l) (rdN l) wc h3
      clear h3
      go_wp2_with fail
      clear c0 c1 c2 c3
      refine PUT.mono ?_
      rintro e w5 ⟨rfl, hb5⟩
      clear PUT
      have m5 := HW.out.up hb5
      have r0 := m5.r.c0
      have r1 := m5.r.c1
      have r2 := m5.r.c2
      have r3 := m5.r.c3
      have f0 := m5.r.fr 0
      have f1 := m5.r.fr 1
      have f2 := m5.r.fr 2
      have f3 := m5.r.fr 3
      have HM5 : Hid (GetsR w w5) := m5
      clear m5 hb5
      go_wp2
      refine bodyPost_ret (results_rsup rfl _ _ w.heap.size 0 0 0 0 rfl (HM5.out.r.set 0 0 0 0)) rfl ?_
      exact ⟨err_form HE.out (by omega), below_set4 HM5.out.b (Nat.le_refl _) _ _ _ _⟩
    · obtain ⟨q1, q2, _⟩ := okS_iff.1 h3
      have hcast : (((rdG l).toNat : Nat) : Int) = rdG l := Int.toNat_of_nonneg (by omega)
      have PUT := rput_ok (rdG l).toNat (rdA l) (rdI l) (rdN l) wc (by rw [hcast]; exact h3)
      rw [hcast] at PUT
      have HP : Hid ((putL (rdG l).toNat (rdA l) (rdI l) (rdN l)).length = 256) := putL_length _ _ _ _
      have HEE : Hid (getE l = if putL (rdG l).toNat (rdA l) (rdI l) (rdN l) ≠ l then 8 else 0) := by show _ = _; rw [getE, if_neg (by rw [HL.out]; exact fun c => c rfl), if_neg (fun c => c H1.out), if_neg (fun c => c H2.out), if_neg (by rw [h3]; simp)]
      generalize putL (rdG l).toNat (rdA l) (rdI l) (rdN l) = B at *
      clear h3 hcast q1 q2
      go_wp2_with fail
      clear c0 c1 c2 c3
      refine PUT.mono ?_
      rintro e w5 ⟨v5, rfl, hO5, hb5⟩
      clear PUT
      obtain ⟨p5, k5, rfl, s5, _, _, n5⟩ := hO5.form
      rw [HP.out]
      have m5 := HW.out.up hb5
      have HQ5 : Hid (Row4 w5 Q 25 (rdG l) (rdA l) (rdI l) (rdN l)) := HQ.out.up hb5
      have r0 := m5.r.c0
      have r1 := m5.r.c1
      have r2 := m5.r.c2
      have r3 := m5.r.c3
      have f0 := m5.r.fr 0
      have f1 := m5.r.fr 1
      have f2 := m5.r.fr 2
      have f3 := m5.r.fr 3
      have HM5 : Hid (GetsR w w5) := m5
      have h1 := conv_str s5 256 k5 HP.out.symm
      have h2 := conv_str (HS.out.below HM5.out.b (Nat.le_refl _)) 256 cap HL.out.symm
      have HB := str_beq B l
      by_cases h4 : B = l
      · have HE : Hid (getE l = 0) := by show _ = _; rw [HEE.out, if_neg (fun c => c h4)]
        have hq := HB.2 h4
        have x0 := HQ5.out.c0
        have x1 := HQ5.out.c1
        have x2 := HQ5.out.c2
        have x3 := HQ5.out.c3
        generalize str B = SB at *
        generalize str l = SL at *
        clear m5 hb5 hO5 s5 HB h4
        go_wp2
        refine bodyPost_ret (results_rsup rfl _ _ w.heap.size (rdG l) (rdA l) (rdI l) (rdN l) rfl (HM5.out.r.set (rdG l) (rdA l) (rdI l) (rdN l))) rfl ?_
        exact ⟨ok_form HE.out, below_set4 HM5.out.b (Nat.le_refl _) _ _ _ _⟩
      · have HE : Hid (getE l = 8) := by show _ = _; rw [HEE.out, if_pos h4]
        have hq : ((str B).toList == (str l).toList) = false := by simpa using (not_congr HB).2 h4
        generalize str B = SB at *
        generalize str l = SL at *
        clear m5 hb5 hO5 s5 HB h4
        go_wp2
        refine bodyPost_ret (results_rsup rfl _ _ w.heap.size 0 0 0 0 rfl (HM5.out.r.set 0 0 0 0)) rfl ?_
        exact ⟨err_form HE.out (by omega), below_set4 HM5.out.b (Nat.le_refl _) _ _ _ _⟩
theorem rsget_any (bb off cap : Nat) (l : List UInt8) (hl : l.length = 256) (w : World) (hs : Src w (some ⟨bb, off, none⟩) l) (hc : (256 : Int) ≤ cap) (hm : (cap : Int) ≤ 9223372036854775807) :
    Calls Tryd.prog 12 #[.slice (some ⟨bb, off, none⟩) 256 cap] w fun e w' => e = .returned (.tuple #[.agg #[.int .i64 (getX (rdG l) l), .int .i64 (getX (rdA l) l), .int .i64 (getX (rdI l) l), .int .i64 (getX (rdN l) l)], .int .i64 (getE l)]) ∧ Below w.heap.size w w' := by
  by_cases h1 : l.take 4 = markL
  · by_cases h2 : getNum (l.drop 252) = sumN (l.take 252)
    · exact rsget_rest bb off cap l hl w hs hc hm h1 h2
    · exact rsget_sum bb off cap l hl w hs hc hm h1 h2
  · exact rsget_mark bb off cap l hl w hs hc hm h1
end Go.Proofs.YtjdfkbpadhndlaaDoor
