/- super.Put of one that can not be; super.read. -/
import Derived.Test.YtjdfkbpadhndlaaDoorSput
import Derived.Test.YtjdfkbpadhndlaaDoorGet
namespace Go.Proofs.YtjdfkbpadhndlaaDoor
open Go.RowKit
set_option maxHeartbeats 1000000 in
theorem sput_no (g a i n : Int) (w : World) (hok : okS g a i n = false) :
    Calls Tryd.prog 7 #[.agg #[.int .i64 g, .int .i64 a, .int .i64 i, .int .i64 n]] w fun e w' => e = .returned (.tuple #[.slice none 0 0, .int .i64 1]) ∧ Below w.heap.size w w' := by
  have RT := sright_any g a i n
  rw [hok] at RT
  have hb : Below w.heap.size w (w.alloc (.cells #[.int .i64 g, .int .i64 a, .int .i64 i, .int .i64 n] 30)) := (Below.refl _ _).alloc (Nat.le_refl _) _
  go_enter Tryd.func7, Tryd.ntmps7
  go_wp2_with fail
  refine (RT _).mono ?_
  rintro e w1 ⟨rfl, hb1⟩
  go_wp2
  go_ret2
  exact ⟨rfl, hb.trans (hb1.mono hb.size)⟩
/-- What the bytes say. -/
def rdG (l : List UInt8) : Int := IntKind.i64.wrap (getNum ((l.drop 4).take 8) : Int)
def rdA (l : List UInt8) : Nat := getNum ((l.drop 12).take 2)
def rdI (l : List UInt8) : Nat := getNum ((l.drop 14).take 2)
def rdN (l : List UInt8) : Nat := getNum ((l.drop 16).take 2)
theorem leNum_zeros : ∀ k, leNum (List.replicate k 0) = 0
  | 0 => rfl
  | k + 1 => by simp [List.replicate_succ, leNum, leNum_zeros k]
theorem getNum_two (x y : UInt8) : getNum [x, y] = x.toNat + 256 * y.toNat := by
  simp [getNum, pad8, leNum]
theorem two_of {l : List UInt8} (h : l.length = 2) : ∃ x y, l = [x, y] := by
  match l, h with
  | [x, y], _ => exact ⟨x, y, rfl⟩
theorem getNum_2lt {l : List UInt8} (h : l.length = 2) : getNum l < 65536 := by
  obtain ⟨x, y, rfl⟩ := two_of h
  have := x.toNat_lt; have := y.toNat_lt
  rw [getNum_two]; omega
theorem Row4.set {w : World} {p : Nat} {t : TypeId} {g a i n : Int} (h : Row4 w p t g a i n) (g' a' i' n' : Int) : Row4 ((((w.setCell ⟨p, 0, none⟩ (.int .i64 g')).setCell ⟨p, 1, none⟩ (.int .i64 a')).setCell ⟨p, 2, none⟩ (.int .i64 i')).setCell ⟨p, 3, none⟩ (.int .i64 n')) p t g' a' i' n' := by
  have h0 := heap_setCell_same w p 0 _ _ (.int .i64 g') h
  have h1 := heap_setCell_same _ p 1 _ _ (.int .i64 a') h0
  have h2 := heap_setCell_same _ p 2 _ _ (.int .i64 i') h1
  have h3 := heap_setCell_same _ p 3 _ _ (.int .i64 n') h2
  rw [Row4, h3]; rfl
theorem below_set4 {w0 w : World} {B p : Nat} (h : Below B w0 w) (hp : B ≤ p) (u v x y : Value) : Below B w0 ((((w.setCell ⟨p, 0, none⟩ u).setCell ⟨p, 1, none⟩ v).setCell ⟨p, 2, none⟩ x).setCell ⟨p, 3, none⟩ y) :=
  (((h.setCell (p := ⟨p, 0, none⟩) hp _).setCell (p := ⟨p, 1, none⟩) hp _).setCell (p := ⟨p, 2, none⟩) hp _).setCell (p := ⟨p, 3, none⟩) hp _
structure Reads (w0 : World) (w : World) : Prop where
  b : Below w0.heap.size w0 w
  r : ∃ x0 x1 x2 x3, Row4 w w0.heap.size 30 x0 x1 x2 x3
theorem Reads.up {w0 w w' : World} (h : Reads w0 w) (hb : Below w.heap.size w w') : Reads w0 w' := by
  obtain ⟨x0, x1, x2, x3, hr⟩ := h.r
  exact ⟨h.b.trans (hb.mono h.b.size), x0, x1, x2, x3, hr.up hb⟩
attribute [local go_sem] wrapI
set_option maxRecDepth 100000 in
set_option maxHeartbeats 4000000 in
theorem read_any (bb off cap : Nat) (l : List UInt8) (hl : l.length = 256) (w : World) (hs : Src w (some ⟨bb, off, none⟩) l) (hc : (256 : Int) ≤ cap) (hm : (cap : Int) ≤ 9223372036854775807) :
    Calls Tryd.prog 29 #[.slice (some ⟨bb, off, none⟩) 256 cap] w fun e w' => e = .returned (.agg #[.int .i64 (rdG l), .int .i64 (rdA l), .int .i64 (rdI l), .int .i64 (rdN l)]) ∧ Below w.heap.size w w' := by
  have sub : ∀ (o k : Nat), o + k ≤ 256 → Src w (some ⟨bb, off + o, none⟩) ((l.drop o).take k) := by
    intro o k hok
    rcases hs with h | ⟨b', off', h1, h2, h3⟩
    · rw [h] at hl; simp at hl
    · obtain ⟨rfl, rfl⟩ : bb = b' ∧ off = off' := by simpa using h1
      exact .inr ⟨bb, off + o, rfl, h2, fun j hj => by
        simp only [List.length_take, List.length_drop] at hj
        rw [Nat.add_assoc, h3 (o + j) (by omega)]; simp⟩
  have GT : ∀ (o k c : Nat) (W : World), o + k ≤ 256 → Reads w W → Calls Tryd.prog 28 #[.slice (some ⟨bb, off + o, none⟩) k c] W fun e w' => e = .returned (.int .u64 (getNum ((l.drop o).take k) : Int)) ∧ Reads w w' := by
    intro o k c W hok hR
    have h := get_any (some ⟨bb, off + o, none⟩) ((l.drop o).take k) c W ((sub o k hok).below hR.b (Nat.le_refl _))
    rw [show ((l.drop o).take k).length = k by simp [hl]; omega] at h
    exact h.mono fun _ _ ⟨h1, h2⟩ => ⟨h1, hR.up h2⟩
  have l2 : ∀ o, o + 2 ≤ 256 → ((l.drop o).take 2).length = 2 := fun o h => by simp [hl]; omega
  have i1 : In64 (getNum ((l.drop 12).take 2) : Int) := ⟨by have := getNum_2lt (l2 12 (by omega)); omega⟩
  have i2 : In64 (getNum ((l.drop 14).take 2) : Int) := ⟨by have := getNum_2lt (l2 14 (by omega)); omega⟩
  have i3 : In64 (getNum ((l.drop 16).take 2) : Int) := ⟨by have := getNum_2lt (l2 16 (by omega)); omega⟩
  have G1 := fun W h => GT 4 8 (cap - 4) W (by omega) h
  have G2 := fun W h => GT 12 2 (cap - 12) W (by omega) h
  have G3 := fun W h => GT 14 2 (cap - 14) W (by omega) h
  have G4 := fun W h => GT 16 2 (cap - 16) W (by omega) h
  have hS : Reads w (w.alloc (.cells #[.int .i64 0, .int .i64 0, .int .i64 0, .int .i64 0] 30)).drew :=
    ⟨((Below.refl _ _).alloc (Nat.le_refl _) _).drew, 0, 0, 0, 0, heap_alloc_new _ _⟩
  clear hs sub GT l2
  unfold rdG rdA rdI rdN
  generalize getNum ((l.drop 4).take 8) = N1 at *
  generalize getNum ((l.drop 12).take 2) = N2 at *
  generalize getNum ((l.drop 14).take 2) = N3 at *
  generalize getNum ((l.drop 16).take 2) = N4 at *
  clear hl
  have b1 : (12 : Int) ≤ cap := by omega
  have b2 : (14 : Int) ≤ cap := by omega
  have b3 : (16 : Int) ≤ cap := by omega
  have b4 : (18 : Int) ≤ cap := by omega
  have n1 : ¬ cap = 4 := by omega
  have n2 : ¬ cap = 12 := by omega
  have n3 : ¬ cap = 14 := by omega
  have n4 : ¬ cap = 16 := by omega
  go_enter Tryd.func29, Tryd.ntmps29
  go_wp2_with fail
  refine wp_region_held_drew (S := (fun w' => Reads w w')) (by kernel_rfl) hS (fun hH => ?_)
  refine takeH (i := 0) (dst := some 3) (v := ?v1) rfl rfl (by kernel_rfl) (by kernel_rfl) (by kernel_rfl) (fun _ _ _ h => h) rfl ?hy1 hH rfl ?rest1
  case hy1 => (intro W hW; clear hW; go_simp; try with_reducible rfl)
  (try simp only [Act.put, List.setIfInBounds_toArray, List.set_cons_zero, List.set_cons_succ])
  refine takeH (i := 1) (dst := some 4) (v := ?v2) rfl rfl (by kernel_rfl) (by kernel_rfl) (by kernel_rfl) (fun _ _ _ h => h) rfl ?hy2 hH rfl ?rest2
  case hy2 => (intro W hW; clear hW; go_simp; try with_reducible rfl)
  (try simp only [Act.put, List.setIfInBounds_toArray, List.set_cons_zero, List.set_cons_succ])
  refine takeH (i := 4) (dst := some 7) (v := ?v3) rfl rfl (by kernel_rfl) (by kernel_rfl) (by kernel_rfl) (fun _ _ _ h => h) rfl ?hy3 hH rfl ?rest3
  case hy3 => (intro W hW; clear hW; go_simp; try with_reducible rfl)
  (try simp only [Act.put, List.setIfInBounds_toArray, List.set_cons_zero, List.set_cons_succ])
  refine takeH (i := 5) (dst := some 8) (v := ?v4) rfl rfl (by kernel_rfl) (by kernel_rfl) (by kernel_rfl) (fun _ _ _ h => h) rfl ?hy4 hH rfl ?rest4
  case hy4 => (intro W hW; clear hW; go_simp; try with_reducible rfl)
  (try simp only [Act.put, List.setIfInBounds_toArray, List.set_cons_zero, List.set_cons_succ])
  refine takeH (i := 8) (dst := some 11) (v := ?v5) rfl rfl (by kernel_rfl) (by kernel_rfl) (by kernel_rfl) (fun _ _ _ h => h) rfl ?hy5 hH rfl ?rest5
  case hy5 => (intro W hW; clear hW; go_simp; try with_reducible rfl)
  (try simp only [Act.put, List.setIfInBounds_toArray, List.set_cons_zero, List.set_cons_succ])
  refine takeH (i := 9) (dst := some 12) (v := ?v6) rfl rfl (by kernel_rfl) (by kernel_rfl) (by kernel_rfl) (fun _ _ _ h => h) rfl ?hy6 hH rfl ?rest6
  case hy6 => (intro W hW; clear hW; go_simp; try with_reducible rfl)
  (try simp only [Act.put, List.setIfInBounds_toArray, List.set_cons_zero, List.set_cons_succ])
  refine takeH (i := 12) (dst := some 15) (v := ?v7) rfl rfl (by kernel_rfl) (by kernel_rfl) (by kernel_rfl) (fun _ _ _ h => h) rfl ?hy7 hH rfl ?rest7
  case hy7 => (intro W hW; clear hW; go_simp; try with_reducible rfl)
  (try simp only [Act.put, List.setIfInBounds_toArray, List.set_cons_zero, List.set_cons_succ])
  refine takeH (i := 13) (dst := some 16) (v := ?v8) rfl rfl (by kernel_rfl) (by kernel_rfl) (by kernel_rfl) (fun _ _ _ h => h) rfl ?hy8 hH rfl ?rest8
  case hy8 => (intro W hW; clear hW; go_simp; try with_reducible rfl)
  (try simp only [Act.put, List.setIfInBounds_toArray, List.set_cons_zero, List.set_cons_succ])
  refine callH (i := 2) { dst := some 5, op := Go.Op.call { callee := Go.Callee.value (Go.Operand.func 28), args := #[Go.Operand.tmp 4], argTypes := #[26] }, type := 57, pos := "super.go:84", after := #[{ on := 1, ground := Go.Ground.data }], guard := none } (by kernel_rfl) rfl rfl (fun K hK => ?_)
  go_simp
  refine (G1 _ hH).mono ?_
  rintro e v1 ⟨rfl, m1⟩
  clear hH
  refine hK.out _ _ m1 (fun hH => ?_)
  clear hK K
  (try simp only [Act.put, List.setIfInBounds_toArray, List.set_cons_zero, List.set_cons_succ])
  refine takeH (i := 3) (dst := some 6) (v := ?v9) rfl rfl (by kernel_rfl) (by kernel_rfl) (by kernel_rfl) (fun _ _ _ h => h) rfl ?hy9 hH rfl ?rest9
  case hy9 => (intro W hW; clear hW; go_simp; try with_reducible rfl)
  (try simp only [Act.put, List.setIfInBounds_toArray, List.set_cons_zero, List.set_cons_succ])
  refine callH (i := 6) { dst := some 9, op := Go.Op.call { callee := Go.Callee.value (Go.Operand.func 28), args := #[Go.Operand.tmp 8], argTypes := #[26] }, type := 57, pos := "super.go:86", after := #[{ on := 5, ground := Go.Ground.data }, { on := 2, ground := Go.Ground.chain }], guard := none } (by kernel_rfl) rfl rfl (fun K hK => ?_)
  go_simp
  refine (G2 _ hH).mono ?_
  rintro e v2 ⟨rfl, m2⟩
  clear hH
  refine hK.out _ _ m2 (fun hH => ?_)
  clear hK K
  (try simp only [Act.put, List.setIfInBounds_toArray, List.set_cons_zero, List.set_cons_succ])
  refine takeH (i := 7) (dst := some 10) (v := ?v10) rfl rfl (by kernel_rfl) (by kernel_rfl) (by kernel_rfl) (fun _ _ _ h => h) rfl ?hy10 hH rfl ?rest10
  case hy10 => (intro W hW; clear hW; go_simp; try with_reducible rfl)
  (try simp only [Act.put, List.setIfInBounds_toArray, List.set_cons_zero, List.set_cons_succ])
  refine callH (i := 10) { dst := some 13, op := Go.Op.call { callee := Go.Callee.value (Go.Operand.func 28), args := #[Go.Operand.tmp 12], argTypes := #[26] }, type := 57, pos := "super.go:87", after := #[{ on := 9, ground := Go.Ground.data }, { on := 6, ground := Go.Ground.chain }], guard := none } (by kernel_rfl) rfl rfl (fun K hK => ?_)
  go_simp
  refine (G3 _ hH).mono ?_
  rintro e v3 ⟨rfl, m3⟩
  clear hH
  refine hK.out _ _ m3 (fun hH => ?_)
  clear hK K
  (try simp only [Act.put, List.setIfInBounds_toArray, List.set_cons_zero, List.set_cons_succ])
  refine takeH (i := 11) (dst := some 14) (v := ?v11) rfl rfl (by kernel_rfl) (by kernel_rfl) (by kernel_rfl) (fun _ _ _ h => h) rfl ?hy11 hH rfl ?rest11
  case hy11 => (intro W hW; clear hW; go_simp; try with_reducible rfl)
  (try simp only [Act.put, List.setIfInBounds_toArray, List.set_cons_zero, List.set_cons_succ])
  refine callH (i := 14) { dst := some 17, op := Go.Op.call { callee := Go.Callee.value (Go.Operand.func 28), args := #[Go.Operand.tmp 16], argTypes := #[26] }, type := 57, pos := "super.go:88", after := #[{ on := 13, ground := Go.Ground.data }, { on := 10, ground := Go.Ground.chain }], guard := none } (by kernel_rfl) rfl rfl (fun K hK => ?_)
  go_simp
  refine (G4 _ hH).mono ?_
  rintro e v4 ⟨rfl, m4⟩
  clear hH
  refine hK.out _ _ m4 (fun hH => ?_)
  clear hK K
  (try simp only [Act.put, List.setIfInBounds_toArray, List.set_cons_zero, List.set_cons_succ])
  refine takeH (i := 15) (dst := some 18) (v := ?v12) rfl rfl (by kernel_rfl) (by kernel_rfl) (by kernel_rfl) (fun _ _ _ h => h) rfl ?hy12 hH rfl ?rest12
  case hy12 => (intro W hW; clear hW; go_simp; try with_reducible rfl)
  (try simp only [Act.put, List.setIfInBounds_toArray, List.set_cons_zero, List.set_cons_succ])
  refine takeH (i := 16) (dst := some 19) (v := ?v13) rfl rfl (by kernel_rfl) (by kernel_rfl) (by kernel_rfl) (fun _ _ _ h => h) rfl ?hy13 hH rfl ?rest13
  case hy13 => (intro W hW; clear hW; go_simp; try with_reducible rfl)
  (try simp only [Act.put, List.setIfInBounds_toArray, List.set_cons_zero, List.set_cons_succ])
  refine takeH (i := 17) (dst := some 20) (v := ?v14) rfl rfl (by kernel_rfl) (by kernel_rfl) (by kernel_rfl) (fun _ _ _ h => h) rfl ?hy14 hH rfl ?rest14
  case hy14 => (intro W hW; clear hW; go_simp; try with_reducible rfl)
  (try simp only [Act.put, List.setIfInBounds_toArray, List.set_cons_zero, List.set_cons_succ])
  obtain ⟨hB0, x0, x1, x2, x3, hr⟩ := m4
  have c0 := hr.c0
  have c1 := hr.c1
  have c2 := hr.c2
  have c3 := hr.c3
  have f0 := hr.fr 0
  have f1 := hr.fr 1
  have f2 := hr.fr 2
  have f3 := hr.fr 3
  have hR := hr.set (IntKind.i64.wrap (N1 : Int)) N2 N3 N4
  have hB := below_set4 hB0 (Nat.le_refl _) (.int .i64 (IntKind.i64.wrap (N1 : Int))) (.int .i64 (N2 : Int)) (.int .i64 (N3 : Int)) (.int .i64 (N4 : Int))
  have HRR : Hid _ := hR
  clear hr
  refine callH (i := 18) { dst := none, op := Go.Op.store 30 (Go.Operand.tmp 2) (Go.Operand.tmp 20), type := 0, pos := "super.go:83", after := #[{ on := 17, ground := Go.Ground.data }, { on := 14, ground := Go.Ground.chain }, { on := 0, ground := Go.Ground.phase }, { on := 1, ground := Go.Ground.phase }, { on := 2, ground := Go.Ground.phase }, { on := 3, ground := Go.Ground.phase }, { on := 4, ground := Go.Ground.phase }, { on := 5, ground := Go.Ground.phase }, { on := 6, ground := Go.Ground.phase }, { on := 7, ground := Go.Ground.phase }, { on := 8, ground := Go.Ground.phase }, { on := 9, ground := Go.Ground.phase }, { on := 10, ground := Go.Ground.phase }, { on := 11, ground := Go.Ground.phase }, { on := 12, ground := Go.Ground.phase }, { on := 13, ground := Go.Ground.phase }, { on := 14, ground := Go.Ground.phase }, { on := 15, ground := Go.Ground.phase }, { on := 16, ground := Go.Ground.phase }, { on := 17, ground := Go.Ground.phase }], guard := none } (by kernel_rfl) rfl rfl (fun K hK => ?_)
  go_simp
  clear hH
  refine hK.out _ _ ⟨hB, _, _, _, _, hR⟩ (fun hH => ?_)
  clear hK K
  (try simp only [Act.put, List.setIfInBounds_toArray, List.set_cons_zero, List.set_cons_succ])
  refine wpAnyH_done (by kernel_rfl) ?_ _
  clear hH
  go_wp2
  refine bodyPost_ret (results_cell_row rfl _ _ w.heap.size 30 _ (0, 0) _ rfl hR Tryd.underlying30 rfl Tryd.sz30) rfl ?_
  exact ⟨rfl, hB⟩
end Go.Proofs.YtjdfkbpadhndlaaDoor
