/- super.Get, for a block of 256 bytes. -/
import Derived.Test.YtjdfkbpadhndlaaDoorRead
namespace Go.Proofs.YtjdfkbpadhndlaaDoor
open Go.RowKit
/-- What Get answers: its error, and a number of the superblock. -/
def getE (l : List UInt8) : Int :=
  if l.length ≠ 256 then 4 else if l.take 4 ≠ markL then 8 else if getNum (l.drop 252) ≠ sumN (l.take 252) then 7
  else if okS (rdG l) (rdA l) (rdI l) (rdN l) = false then 1 else if putL (rdG l).toNat (rdA l) (rdI l) (rdN l) ≠ l then 8 else 0
def getX (v : Int) (l : List UInt8) : Int := if getE l = 0 then v else 0
theorem getX_err {v : Int} {l : List UInt8} (h : getE l ≠ 0) : getX v l = 0 := if_neg h
theorem getX_ok {v : Int} {l : List UInt8} (h : getE l = 0) : getX v l = v := if_pos h
theorem results_sup {fn : Func} {p u : Tmp} (h : fn.results = #[.cell p 30, .tmp u]) (tmps : Array Value) (w : World) (G : Nat) (g a i n : Int) (hp : tmps.getD p undef = .pointer (some ⟨G, 0, none⟩)) (hg : Row4 w G 30 g a i n) :
    (results fn tmps).run Tryd.prog w = .ok (.tuple #[.agg #[.int .i64 g, .int .i64 a, .int .i64 i, .int .i64 n], tmps.getD u undef]) w := by
  rw [results_cell_tmp h, hp]
  simp [asAddr, run_loadVar_row w G 30 30 _ _ _ hg Tryd.underlying30 rfl Tryd.sz30, Result.andThen]
theorem err_form {l : List UInt8} {E : Int} (h : getE l = E) (hE : E ≠ 0) : Ending.returned (.tuple #[.agg #[.int .i64 0, .int .i64 0, .int .i64 0, .int .i64 0], .int .i64 E]) = .returned (.tuple #[.agg #[.int .i64 (getX (rdG l) l), .int .i64 (getX (rdA l) l), .int .i64 (getX (rdI l) l), .int .i64 (getX (rdN l) l)], .int .i64 (getE l)]) := by
  rw [getX_err (by rw [h]; exact hE), getX_err (by rw [h]; exact hE), getX_err (by rw [h]; exact hE), getX_err (by rw [h]; exact hE), h]
theorem ok_form {l : List UInt8} (h : getE l = 0) : Ending.returned (.tuple #[.agg #[.int .i64 (rdG l), .int .i64 (rdA l), .int .i64 (rdI l), .int .i64 (rdN l)], .int .i64 0]) = .returned (.tuple #[.agg #[.int .i64 (getX (rdG l) l), .int .i64 (getX (rdA l) l), .int .i64 (getX (rdI l) l), .int .i64 (getX (rdN l) l)], .int .i64 (getE l)]) := by
  rw [getX_ok h, getX_ok h, getX_ok h, getX_ok h, h]
theorem Src.part {w : World} {bb off : Nat} {l : List UInt8} (hs : Src w (some ⟨bb, off, none⟩) l) (hl : l.length = 256) (o k : Nat) (h : o + k ≤ 256) : Src w (some ⟨bb, off + o, none⟩) ((l.drop o).take k) := by
  rcases hs with h | ⟨b', off', h1, h2, h3⟩
  · rw [h] at hl; simp at hl
  · obtain ⟨rfl, rfl⟩ : bb = b' ∧ off = off' := by simpa using h1
    exact .inr ⟨bb, off + o, rfl, h2, fun j hj => by
      simp only [List.length_take, List.length_drop] at hj
      rw [Nat.add_assoc, h3 (o + j) (by omega)]; simp⟩
theorem str_beq (a b : List UInt8) : ((str a).toList == (str b).toList) = true ↔ a = b := by
  constructor
  · intro h
    have h2 := beq_iff_eq.1 h
    apply str_inj
    rw [ByteArray.toList_eq, ByteArray.toList_eq] at h2
    exact WideShapes.bytes_inj h2
  · rintro rfl; simp
set_option maxHeartbeats 1000000 in
/-- bytes.Equal of two slices of the same length. -/
theorem equal_any (sa sb : Option Addr) (x y : List UInt8) (ca cb : Nat) (w : World) (ha : Src w sa x) (hb : Src w sb y) :
    Calls Tryd.prog 30 #[.slice sa x.length ca, .slice sb y.length cb] w fun e w' => e = .returned (.bool ((str x).toList == (str y).toList)) ∧ w' = w := by
  have h1 := conv_str ha x.length ca rfl
  have h2 := conv_str hb y.length cb rfl
  go_enter Tryd.func30, Tryd.ntmps30
  go_wp2
  go_ret
  exact ⟨rfl, rfl⟩
structure Gets (w0 w : World) : Prop where
  b : Below w0.heap.size w0 w
  r : Row4 w w0.heap.size 30 0 0 0 0
theorem Gets.up {w0 w w' : World} (h : Gets w0 w) (hb : Below w.heap.size w w') : Gets w0 w' := ⟨h.b.trans (hb.mono h.b.size), h.r.up hb⟩
attribute [local go_sem] wrapU
set_option maxRecDepth 100000 in
set_option maxHeartbeats 4000000 in
theorem sget_mark (bb off cap : Nat) (l : List UInt8) (hl : l.length = 256) (w : World) (hs : Src w (some ⟨bb, off, none⟩) l) (_ht : Tab w) (hc : (256 : Int) ≤ cap) (hm : (cap : Int) ≤ 9223372036854775807) (h1 : l.take 4 ≠ markL) :
    Calls Tryd.prog 11 #[.slice (some ⟨bb, off, none⟩) 256 cap] w fun e w' => e = .returned (.tuple #[.agg #[.int .i64 (getX (rdG l) l), .int .i64 (getX (rdA l) l), .int .i64 (getX (rdI l) l), .int .i64 (getX (rdN l) l)], .int .i64 (getE l)]) ∧ Below w.heap.size w w' := by
  have hal : Below w.heap.size w (w.alloc (.cells #[.int .i64 0, .int .i64 0, .int .i64 0, .int .i64 0] 30)) := (Below.refl _ _).alloc (Nat.le_refl _) _
  have HG0 : Hid (Gets w (w.alloc (.cells #[.int .i64 0, .int .i64 0, .int .i64 0, .int .i64 0] 30))) := ⟨hal, heap_alloc_new _ _⟩
  have hst := conv_str (w := w.alloc (.cells #[.int .i64 0, .int .i64 0, .int .i64 0, .int .i64 0] 30)) (sp := some ⟨bb, off, none⟩) (l := l.take 4) (by have := (hs.below hal (Nat.le_refl _)).part hl 0 4 (by omega); rw [List.drop_zero] at this; exact this) 4 cap (by rw [List.length_take, hl]; rfl)
  have hE : getE l = 8 := by rw [getE, if_neg (by omega), if_pos h1]
  have hne1 : ((str (l.take 4)).toList == [76, 86, 69, 69]) = false := by
    have := (not_congr (str_beq (l.take 4) markL)).2 h1
    simpa [str, markL] using this
  have HE : Hid (getE l = 8) := hE
  generalize str (l.take 4) = s at hst hne1
  clear hE h1 hs hl _ht
  go_enter Tryd.func11, Tryd.ntmps11
  go_wp2
  refine bodyPost_ret (results_sup rfl _ _ w.heap.size 0 0 0 0 rfl HG0.out.r) rfl ?_
  exact ⟨err_form HE.out (by omega), HG0.out.b⟩
set_option maxRecDepth 100000 in
set_option maxHeartbeats 4000000 in
theorem sget_sum (bb off cap : Nat) (l : List UInt8) (hl : l.length = 256) (w : World) (hs : Src w (some ⟨bb, off, none⟩) l) (ht : Tab w) (hc : (256 : Int) ≤ cap) (hm : (cap : Int) ≤ 9223372036854775807) (h1 : l.take 4 = markL) (h2 : getNum (l.drop 252) ≠ sumN (l.take 252)) :
    Calls Tryd.prog 11 #[.slice (some ⟨bb, off, none⟩) 256 cap] w fun e w' => e = .returned (.tuple #[.agg #[.int .i64 (getX (rdG l) l), .int .i64 (getX (rdA l) l), .int .i64 (getX (rdI l) l), .int .i64 (getX (rdN l) l)], .int .i64 (getE l)]) ∧ Below w.heap.size w w' := by
  have hal : Below w.heap.size w (w.alloc (.cells #[.int .i64 0, .int .i64 0, .int .i64 0, .int .i64 0] 30)) := (Below.refl _ _).alloc (Nat.le_refl _) _
  have HG0 : Hid (Gets w (w.alloc (.cells #[.int .i64 0, .int .i64 0, .int .i64 0, .int .i64 0] 30))) := ⟨hal, heap_alloc_new _ _⟩
  have hst := conv_str (w := w.alloc (.cells #[.int .i64 0, .int .i64 0, .int .i64 0, .int .i64 0] 30)) (sp := some ⟨bb, off, none⟩) (l := l.take 4) (by have := (hs.below hal (Nat.le_refl _)).part hl 0 4 (by omega); rw [List.drop_zero] at this; exact this) 4 cap (by rw [List.length_take, hl]; rfl)
  rw [h1] at hst
  have hst' : (convert 26 9 (.slice (some ⟨bb, off, none⟩) 4 cap)).run Tryd.prog (w.alloc (.cells #[.int .i64 0, .int .i64 0, .int .i64 0, .int .i64 0] 30)) = .ok (.string ⟨#[76, 86, 69, 69]⟩) (w.alloc (.cells #[.int .i64 0, .int .i64 0, .int .i64 0, .int .i64 0] 30)) := hst
  clear hst
  have n1 : ¬ cap = 252 := by omega
  have b1 : (252 : Int) ≤ cap := by omega
  have hd0 : Gets w (w.alloc (.cells #[.int .i64 0, .int .i64 0, .int .i64 0, .int .i64 0] 30)).drew := HG0.out.up (Below.refl _ _).drew
  have GT : ∀ W, Gets w W → Calls Tryd.prog 28 #[.slice (some ⟨bb, off + 252, none⟩) 4 (cap - 252)] W fun e w' => e = .returned (.int .u64 (getNum (l.drop 252) : Int)) ∧ Gets w w' := by
    intro W hR
    have h := get_any (some ⟨bb, off + 252, none⟩) ((l.drop 252).take 4) (cap - 252) W ((hs.part hl 252 4 (by omega)).below hR.b (Nat.le_refl _))
    rw [show ((l.drop 252).take 4).length = 4 by rw [List.length_take, List.length_drop, hl]; rfl, show (l.drop 252).take 4 = l.drop 252 from List.take_of_length_le (by rw [List.length_drop, hl]; omega)] at h
    exact h.mono fun _ _ ⟨q1, q2⟩ => ⟨q1, hR.up q2⟩
  have hw0 : 0 < w.heap.size := block_lt_of_cell (ht 0 (by omega))
  have SM : ∀ W, Gets w W → Calls Tryd.prog 24 #[.slice (some ⟨bb, off, none⟩) 252 cap] W fun e w' => e = .returned (.int .u32 (sumN (l.take 252) : Int)) ∧ w' = W := by
    intro W hR
    have h := sum_any (some ⟨bb, off, none⟩) (l.take 252) cap W (by have := (hs.part hl 0 252 (by omega)).below hR.b (Nat.le_refl _); rw [List.drop_zero] at this; exact this) (ht.below hR.b hw0) (by rw [List.length_take, hl]; decide)
    rw [show (l.take 252).length = 252 by rw [List.length_take, hl]; rfl] at h
    exact h
  have hslt : sumN (l.take 252) < 4294967296 := Nat.xor_lt_two_pow (n := 32) (by omega) (crcF_lt _ _ (by omega))
  have hE : getE l = 7 := by rw [getE, if_neg (by omega), if_neg (by rw [h1]; exact fun c => c rfl), if_pos h2]
  have HE : Hid (getE l = 7) := hE
  have u1 : InU (sumN (l.take 252) : Int) := ⟨by omega⟩
  have h2' : ((getNum (l.drop 252) : Int) == (sumN (l.take 252) : Int)) = false := beq_eq_false_iff_ne.2 (by omega)
  clear hE h1 hs hl ht
  generalize getNum (l.drop 252) = N at *
  generalize sumN (l.take 252) = M at *
  go_enter Tryd.func11, Tryd.ntmps11
  go_wp2_with fail
  refine wp_region_held_drew (S := (fun w' => Gets w w')) (by kernel_rfl) hd0 (fun hH => ?_)
  refine takeH (i := 0) (dst := some 16) (v := ?v1) rfl rfl (by kernel_rfl) (by kernel_rfl) (by kernel_rfl) (fun _ _ _ h => h) rfl ?hy1 hH rfl ?rest1
  case hy1 => (intro W hW; clear hW; go_simp; try with_reducible rfl)
  (try simp only [Act.put, List.setIfInBounds_toArray, List.set_cons_zero, List.set_cons_succ])
  refine takeH (i := 1) (dst := some 17) (v := ?v2) rfl rfl (by kernel_rfl) (by kernel_rfl) (by kernel_rfl) (fun _ _ _ h => h) rfl ?hy2 hH rfl ?rest2
  case hy2 => (intro W hW; clear hW; go_simp; try with_reducible rfl)
  (try simp only [Act.put, List.setIfInBounds_toArray, List.set_cons_zero, List.set_cons_succ])
  refine takeH (i := 3) (dst := some 19) (v := ?v3) rfl rfl (by kernel_rfl) (by kernel_rfl) (by kernel_rfl) (fun _ _ _ h => h) rfl ?hy3 hH rfl ?rest3
  case hy3 => (intro W hW; clear hW; go_simp; try with_reducible rfl)
  (try simp only [Act.put, List.setIfInBounds_toArray, List.set_cons_zero, List.set_cons_succ])
  refine takeH (i := 4) (dst := some 20) (v := ?v4) rfl rfl (by kernel_rfl) (by kernel_rfl) (by kernel_rfl) (fun _ _ _ h => h) rfl ?hy4 hH rfl ?rest4
  case hy4 => (intro W hW; clear hW; go_simp; try with_reducible rfl)
  (try simp only [Act.put, List.setIfInBounds_toArray, List.set_cons_zero, List.set_cons_succ])
  refine callH (i := 2) { dst := some 18, op := Go.Op.call { callee := Go.Callee.value (Go.Operand.func 28), args := #[Go.Operand.tmp 17], argTypes := #[26] }, type := 57, pos := "super.go:67", after := #[{ on := 1, ground := Go.Ground.data }], guard := none } (by kernel_rfl) rfl rfl (fun K hK => ?_)
  go_simp
  refine (GT _ hH).mono ?_
  rintro e v1 ⟨rfl, m1⟩
  clear hH
  refine hK.out _ _ m1 (fun hH => ?_)
  clear hK K
  (try simp only [Act.put, List.setIfInBounds_toArray, List.set_cons_zero, List.set_cons_succ])
  refine callH (i := 5) { dst := some 21, op := Go.Op.call { callee := Go.Callee.value (Go.Operand.func 24), args := #[Go.Operand.tmp 20], argTypes := #[26] }, type := 58, pos := "super.go:67", after := #[{ on := 4, ground := Go.Ground.data }, { on := 2, ground := Go.Ground.chain }], guard := none } (by kernel_rfl) rfl rfl (fun K hK => ?_)
  go_simp
  refine (SM _ hH).mono ?_
  rintro e v2 ⟨rfl, rfl⟩
  have m2 := hH
  clear hH
  refine hK.out _ _ m2 (fun hH => ?_)
  clear hK K
  (try simp only [Act.put, List.setIfInBounds_toArray, List.set_cons_zero, List.set_cons_succ])
  refine takeH (i := 6) (dst := some 22) (v := ?v5) rfl rfl (by kernel_rfl) (by kernel_rfl) (by kernel_rfl) (fun _ _ _ h => h) rfl ?hy5 hH rfl ?rest5
  case hy5 => (intro W hW; clear hW; go_simp; try with_reducible rfl)
  (try simp only [Act.put, List.setIfInBounds_toArray, List.set_cons_zero, List.set_cons_succ])
  refine takeH (i := 7) (dst := some 23) (v := ?v6) rfl rfl (by kernel_rfl) (by kernel_rfl) (by kernel_rfl) (fun _ _ _ h => h) rfl ?hy6 hH rfl ?rest6
  case hy6 => (intro W hW; clear hW; go_simp; try with_reducible rfl)
  (try simp only [Act.put, List.setIfInBounds_toArray, List.set_cons_zero, List.set_cons_succ])
  refine wpAnyH_done (by kernel_rfl) ?_ _
  clear hH
  have r0 := m2.r.c0
  have r1 := m2.r.c1
  have r2 := m2.r.c2
  have r3 := m2.r.c3
  have f0 := m2.r.fr 0
  have f1 := m2.r.fr 1
  have f2 := m2.r.fr 2
  have f3 := m2.r.fr 3
  have HM : Hid (Gets w v2) := m2
  clear m1 m2 GT SM
  go_wp2
  refine bodyPost_ret (results_sup rfl _ _ w.heap.size 0 0 0 0 rfl (HM.out.r.set 0 0 0 0)) rfl ?_
  exact ⟨err_form HE.out (by omega), below_set4 HM.out.b (Nat.le_refl _) _ _ _ _⟩
end Go.Proofs.YtjdfkbpadhndlaaDoor
