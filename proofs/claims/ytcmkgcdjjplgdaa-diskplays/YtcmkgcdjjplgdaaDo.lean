/- leveelaw02.do. -/
import Derived.Test.YtcmkgcdjjplgdaaBoth2
namespace Go.Proofs.Ytcmkgcdjjplgdaa
open Go.RowKit
theorem own_lent {w : World} {g base : Nat} {l : List UInt8} (h : Blk w g 5 (l ++ a5)) (hb : base ≤ g) (hl : l.length ≤ 140737488355328) : Own w base (.slice (some ⟨g, 0, none⟩) l.length (l.length + 8)) l :=
  ⟨by simp [bvs_length], .inr ⟨g, l.length + 8, _, rfl, hb, h, by omega, by unfold maxLen; omega, by simp [bvs_length, a5], by
    rw [Nat.mul_one, show bvs (l ++ a5) = bvs l ++ bvs a5 by simp [bvs]]
    exact List.take_left' (bvs_length l)⟩⟩
theorem blk_fr {w w' : World} {S : Nat → Prop} {g : Nat} {t : TypeId} {l : List UInt8} (h : Blk w g t l) (hf : Fr S w w') (hg : ¬ S g) : Blk w' g t l := by unfold Blk; rw [hf.blk g h.lt hg]; exact h
theorem arg_fr {w w' : World} {S : Nat → Prop} {sp : Option Addr} {cap : Nat} {l : List UInt8} (h : Arg w sp cap l) (hf : Fr S w w') (hs : ∀ b o, sp = some ⟨b, o, none⟩ → l ≠ [] → ¬ S b) : Arg w' sp cap l := by
  rcases h with h | ⟨b, o, h1, h2, h3, h4, h5, h6⟩
  · exact .inl h
  · refine .inr ⟨b, o, h1, h2, h3, h4, h5, ?_⟩
    rcases h6 with h6 | ⟨b', o', e1, e2, e3⟩
    · exact .inl h6
    · exact .inr ⟨b', o', e1, by have := hf.size; omega, fun j hj => (fr_cell hf (a := ⟨b', o' + j, none⟩) e2 (hs b' o' e1 (fun e => by rw [e] at hj; cases hj))).trans (e3 j hj)⟩
section
variable {w0 w : World} {base κ p n : Nat} {en : Bool} {lf : Int} {sf : Nat → List UInt8} {ws : Nat → List (List UInt8)} {q : Nat} {vs : Nat → Value} {r gb cb : Nat} {va vc : Nat → Nat}
theorem DR.rl (h : DR base κ w0 w p n en lf sf ws q vs r gb cb va vc) {k : Nat} (hk : Rk r gb n va k) : k < w.heap.size := by
  rcases hk with rfl | rfl | ⟨j, hj, rfl⟩
  · exact h.r'.rl
  · exact h.r'.at'.gl
  · exact (h.r'.at'.row j hj).2.1
theorem DR.off (h : DR base κ w0 w p n en lf sf ws q vs r gb cb va vc) {k : Nat} (hk : k < base ∨ w.heap.size ≤ k) : ¬ Dk p q n vs k ∧ ¬ Rk r gb n va k := by
  refine ⟨fun c => ?_, fun c => ?_⟩
  · have := h.d.dk_lt c; omega
  · have := h.rl c; have := h.rb k c; omega
/-- One call that came in, as it lies below base. -/
structure ActIn (w : World) (base : Nat) (N : Int) (DP : Option Addr) (DD : List UInt8) (DC : Nat) (QP : Option Addr) (QM QC : Nat) (Z : Nat → Int) : Prop where
  nb : -9223372036854775808 ≤ N ∧ N ≤ 9223372036854775807
  arg : Arg w DP DC DD
  abl : ∀ b o, DP = some ⟨b, o, none⟩ → DD ≠ [] → b < base
  qm : QM ≤ QC ∧ (QC : Int) ≤ 9223372036854775807
  pick : 0 < QM → ∃ g o, QP = some ⟨g, o, none⟩ ∧ g < base ∧ ∀ k, k < QM → w.cell? ⟨g, o + k, none⟩ = some (.int .i64 (Z k))
theorem ActIn.dis {N : Int} {DP : Option Addr} {DD : List UInt8} {DC : Nat} {QP : Option Addr} {QM QC : Nat} {Z : Nat → Int} {wx : World} (ha : ActIn w base N DP DD DC QP QM QC Z) (h : DR base κ w0 wx p n en lf sf ws q vs r gb cb va vc) : ∀ b o, DP = some ⟨b, o, none⟩ → DD ≠ [] → ¬ Dk p q n vs b ∧ ¬ Rk r gb n va b := fun b o e hne => h.off (.inl (ha.abl b o e hne))
set_option maxRecDepth 100000 in
set_option maxHeartbeats 16000000 in
theorem do_any (h : DR base κ w0 w p n en lf sf ws q vs r gb cb va vc) (hκ : κ ≤ 900) (K N : Int) (DP : Option Addr) (DD : List UInt8) (DC : Nat) (QP : Option Addr) (QM QC : Nat) (Z : Nat → Int) (ha : ActIn w base N DP DD DC QP QM QC Z) :
    Calls Try.prog 14 #[.pointer (some ⟨p, 0, none⟩), .pointer (some ⟨r, 0, none⟩), .agg #[.int .i64 K, .int .i64 N, .slice DP DD.length DC, .slice QP QM QC]] w fun e w' => e = .returned (.bool true) ∧ DRX base (κ + 1) w0 w' p n r := by
  have hbA : Below w.heap.size w (w.alloc (.cells #[.int .i64 K, .int .i64 N, .slice DP DD.length DC, .slice QP QM QC] 34)) := (Below.refl _ _).alloc (Nat.le_refl _) _
  have hrA : (w.alloc (.cells #[.int .i64 K, .int .i64 N, .slice DP DD.length DC, .slice QP QM QC] 34)).heap[w.heap.size]? = some (.cells #[.int .i64 K, .int .i64 N, .slice DP DD.length DC, .slice QP QM QC] 34 (0, 0)) := heap_alloc_new _ _
  have HA : Hid (DR base κ w0 (w.alloc (.cells #[.int .i64 K, .int .i64 N, .slice DP DD.length DC, .slice QP QM QC] 34)) p n en lf sf ws q vs r gb cb va vc) := h.up hbA
  have HPA : Hid (¬ Dk p q n vs w.heap.size ∧ ¬ Rk r gb n va w.heap.size) := h.off (.inr (Nat.le_refl _))
  have HARG : Hid (Arg (w.alloc (.cells #[.int .i64 K, .int .i64 N, .slice DP DD.length DC, .slice QP QM QC] 34)) DP DC DD) := ha.arg.below hbA (Nat.le_refl _)
  have HPK : Hid (0 < QM → ∃ g o, QP = some ⟨g, o, none⟩ ∧ g < base ∧ ∀ k, k < QM → (w.alloc (.cells #[.int .i64 K, .int .i64 N, .slice DP DD.length DC, .slice QP QM QC] 34)).cell? ⟨g, o + k, none⟩ = some (.int .i64 (Z k))) := fun h0 => by
    obtain ⟨g, o, e, hg, hc⟩ := ha.pick h0
    exact ⟨g, o, e, hg, fun k hk => (hbA.cell (p := ⟨g, o + k, none⟩) (by have := h.bs; show g < _; omega)).trans (hc k hk)⟩
  have HIN : Hid (ActIn w base N DP DD DC QP QM QC Z) := ha
  have hNb := ha.nb
  clear h ha
  go_enter Try.func14, Try.ntmps14
  go_upto_region 1 with fail
  generalize w.alloc (.cells #[.int .i64 K, .int .i64 N, .slice DP DD.length DC, .slice QP QM QC] 34) = wA at hbA hrA HA HARG HPK ⊢
  obtain ⟨pa, hpa⟩ : ∃ pa, Hid (pa = w.heap.size) := ⟨_, rfl⟩
  rw [← hpa.out] at hrA HPA ⊢
  have HRA : Hid (wA.heap[pa]? = some (.cells #[.int .i64 K, .int .i64 N, .slice DP DD.length DC, .slice QP QM QC] 34 (0, 0))) := hrA
  have a0 : wA.cell? ⟨pa, 0, none⟩ = some (.int .i64 K) := by rw [cell_of_row wA pa 0 _ _ _ hrA]; rfl
  have a1 : wA.cell? ⟨pa, 1, none⟩ = some (.int .i64 N) := by rw [cell_of_row wA pa 1 _ _ _ hrA]; rfl
  have a2 : wA.cell? ⟨pa, 2, none⟩ = some (.slice DP DD.length DC) := by rw [cell_of_row wA pa 2 _ _ _ hrA]; rfl
  have a3 : wA.cell? ⟨pa, 3, none⟩ = some (.slice QP QM QC) := by rw [cell_of_row wA pa 3 _ _ _ hrA]; rfl
  clear hbA hrA hpa
  by_cases hW : K = 0 ∨ K = 1 ∨ K = 2 ∨ K = 3
  · rcases hW with rfl | rfl | rfl | rfl
    · have FL := fill_any wA DP DC DD HARG.out.src (by have := (HARG.out.len).2.2; omega)
      go_wp2_with fail
      refine FL.mono ?_
      clear FL
      rintro e w7 ⟨gf, rfl, hgf, hgfl, hb7⟩
      have H7 : Hid (DR base κ w0 w7 p n en lf sf ws q vs r gb cb va vc) := HA.out.up hb7
      have HR7 : Hid (w7.heap[pa]? = some (.cells #[.int .i64 0, .int .i64 N, .slice DP DD.length DC, .slice QP QM QC] 34 (0, 0))) := (hb7.block pa (Array.getElem?_eq_some_iff.1 HRA.out).1).trans HRA.out
      have HARG7 : Hid (Arg w7 (some ⟨gf, 0, none⟩) 256 (fillL DD)) := .inr ⟨gf, 0, rfl, by omega, Nat.le_of_eq (fillL_length DD), by omega, by rw [fillL_length]; omega, hgf.src⟩
      have HDIS7 : Hid (∀ b o, some (⟨gf, 0, none⟩ : Addr) = some ⟨b, o, none⟩ → fillL DD ≠ [] → ¬ Dk p q n vs b ∧ ¬ Rk r gb n va b) := fun b o e _ => by cases e; exact HA.out.off (.inr hgfl)
      clear hgf hgfl hb7
      have LT := lent_any (some ⟨gf, 0, none⟩) 256 (fillL DD) w7 HARG7.out
      rw [fillL_length] at LT
      go_wp2_with fail
      refine LT.mono ?_
      clear LT
      rintro e w9 ⟨go, rfl, hgo, hgol, hb9⟩
      have H9 : Hid (DR base κ w0 w9.drew p n en lf sf ws q vs r gb cb va vc) := (H7.out.up hb9).up ((Below.refl _ _).drew)
      have HG9 : Hid (Blk w9.drew go 5 (fillL DD ++ a5)) := hgo
      have HA9 : Hid (Arg w9.drew (some ⟨gf, 0, none⟩) 256 (fillL DD)) := (HARG7.out.below hb9 (Nat.le_refl _)).below ((Below.refl _ _).drew) (Nat.le_refl _)
      have HR9 : Hid (w9.drew.heap[pa]? = w7.heap[pa]?) := hb9.block pa (Array.getElem?_eq_some_iff.1 HR7.out).1
      have HGO : Hid ((¬ Dk p q n vs go ∧ ¬ Rk r gb n va go) ∧ go < w9.drew.heap.size ∧ base ≤ go) := ⟨H7.out.off (.inr hgol), hgo.lt, by have := H7.out.bs; omega⟩
      have HPL : Hid (pa < w9.drew.heap.size) := by have h1 := (Array.getElem?_eq_some_iff.1 HR7.out).1; have h2 := hb9.size; show pa < w9.heap.size; omega
      have hS0 : w9.drew.cell? ⟨pa, 1, none⟩ = some (.int .i64 N) := by rw [cell_of_row w9.drew pa 1 _ _ _ (HR9.out.trans HR7.out)]; rfl
      have BW := both_write H9.out (by omega) N hNb (fillL DD) go (256 + 8) (by have := HG9.out.src.pre (fillL DD).length; rw [List.take_left' rfl] at this; exact this) HGO.out.1.1 (some ⟨gf, 0, none⟩) 256 HA9.out.src HDIS7.out
      rw [fillL_length] at BW
      clear hgo hgol hb9 a0 a1 a2 a3
      go_upto_region 11 with fail
      refine wp_region_held_drew (S := (fun W => W.cell? ⟨pa, 1, none⟩ = some (.int .i64 N))) (by kernel_rfl) hS0 (fun hH => ?_)
      refine takeH (i := 0) (dst := some 28) (v := ?v1) rfl rfl (by kernel_rfl) (by kernel_rfl) (by kernel_rfl) (fun _ _ _ h => h) rfl ?hy1 hH rfl ?rest1
      case hy1 => (intro W hW; (try dsimp only at hW); go_simp; try with_reducible rfl)
      (try simp only [Act.put, List.setIfInBounds_toArray, List.set_cons_zero, List.set_cons_succ])
      refine takeH (i := 1) (dst := some 29) (v := ?v2) rfl rfl (by kernel_rfl) (by kernel_rfl) (by kernel_rfl) (fun _ _ _ h => h) rfl ?hy2 hH rfl ?rest2
      case hy2 => (intro W hW; (try dsimp only at hW); go_simp; try with_reducible rfl)
      (try simp only [Act.put, List.setIfInBounds_toArray, List.set_cons_zero, List.set_cons_succ])
      refine takeH (i := 2) (dst := some 30) (v := ?v3) rfl rfl (by kernel_rfl) (by kernel_rfl) (by kernel_rfl) (fun _ _ _ h => h) rfl ?hy3 hH rfl ?rest3
      case hy3 => (intro W hW; (try dsimp only at hW); go_simp; try with_reducible rfl)
      (try simp only [Act.put, List.setIfInBounds_toArray, List.set_cons_zero, List.set_cons_succ])
      refine takeH (i := 3) (dst := some 31) (v := ?v4) rfl rfl (by kernel_rfl) (by kernel_rfl) (by kernel_rfl) (fun _ _ _ h => h) rfl ?hy4 hH rfl ?rest4
      case hy4 => (intro W hW; (try dsimp only at hW); go_simp; try with_reducible rfl)
      (try simp only [Act.put, List.setIfInBounds_toArray, List.set_cons_zero, List.set_cons_succ])
      refine takeH (i := 5) (dst := some 33) (v := ?v5) rfl rfl (by kernel_rfl) (by kernel_rfl) (by kernel_rfl) (fun _ _ _ h => h) rfl ?hy5 hH rfl ?rest5
      case hy5 => (intro W hW; (try dsimp only at hW); go_simp; try with_reducible rfl)
      (try simp only [Act.put, List.setIfInBounds_toArray, List.set_cons_zero, List.set_cons_succ])
      refine takeH (i := 6) (dst := some 34) (v := ?v6) rfl rfl (by kernel_rfl) (by kernel_rfl) (by kernel_rfl) (fun _ _ _ h => h) rfl ?hy6 hH rfl ?rest6
      case hy6 => (intro W hW; (try dsimp only at hW); go_simp; try with_reducible rfl)
      (try simp only [Act.put, List.setIfInBounds_toArray, List.set_cons_zero, List.set_cons_succ])
      refine takeH (i := 7) (dst := some 35) (v := ?v7) rfl rfl (by kernel_rfl) (by kernel_rfl) (by kernel_rfl) (fun _ _ _ h => h) rfl ?hy7 hH rfl ?rest7
      case hy7 => (intro W hW; (try dsimp only at hW); go_simp; try with_reducible rfl)
      (try simp only [Act.put, List.setIfInBounds_toArray, List.set_cons_zero, List.set_cons_succ])
      refine takeH (i := 8) (dst := some 36) (v := ?v8) rfl rfl (by kernel_rfl) (by kernel_rfl) (by kernel_rfl) (fun _ _ _ h => h) rfl ?hy8 hH rfl ?rest8
      case hy8 => (intro W hW; (try dsimp only at hW); go_simp; try with_reducible rfl)
      (try simp only [Act.put, List.setIfInBounds_toArray, List.set_cons_zero, List.set_cons_succ])
      refine callH (i := 4) { dst := some 32, op := Go.Op.call { callee := Go.Callee.value (Go.Operand.func 11), args := #[Go.Operand.tmp 28, Go.Operand.tmp 30, Go.Operand.tmp 31], argTypes := #[24, 3, 31] }, type := 25, pos := "law.go:43", after := #[{ on := 0, ground := Go.Ground.data }, { on := 2, ground := Go.Ground.data }, { on := 3, ground := Go.Ground.data }], guard := none } (by kernel_rfl) rfl rfl (fun K hK => ?_)
      go_simp
      refine BW.mono ?_
      rintro e v1 ⟨er, rfl, hf1, RW⟩
      have hS1 : v1.cell? ⟨pa, 1, none⟩ = some (.int .i64 N) := (fr_cell hf1 (a := ⟨pa, 1, none⟩) HPL.out HPA.out.1).trans hS0
      have HF1 : Hid _ := hf1
      clear BW hf1
      clear hH
      refine hK.out _ _ hS1 (fun hH => ?_)
      clear hK K
      (try simp only [Act.put, List.setIfInBounds_toArray, List.set_cons_zero, List.set_cons_succ])
      refine callH (i := 9) { dst := some 37, op := Go.Op.call { callee := Go.Callee.value (Go.Operand.func 37), args := #[Go.Operand.tmp 33, Go.Operand.tmp 35, Go.Operand.tmp 36], argTypes := #[28, 3, 31] }, type := 25, pos := "law.go:43", after := #[{ on := 5, ground := Go.Ground.data }, { on := 7, ground := Go.Ground.data }, { on := 8, ground := Go.Ground.data }, { on := 4, ground := Go.Ground.chain }], guard := none } (by kernel_rfl) rfl rfl (fun K hK => ?_)
      go_simp
      refine RW.mono ?_
      rintro e v2 ⟨rfl, hf2, hX⟩
      have hpl1 : pa < v1.heap.size := by have := HF1.out.size; have := HPL.out; omega
      have hS2 : v2.cell? ⟨pa, 1, none⟩ = some (.int .i64 N) := (fr_cell hf2 (a := ⟨pa, 1, none⟩) hpl1 HPA.out.2).trans hS1
      have HX2 : Hid _ := hX
      have HG2 : Hid (Blk v2 go 5 (fillL DD ++ a5)) := blk_fr (blk_fr HG9.out HF1.out HGO.out.1.1) hf2 HGO.out.1.2
      have KP := kept_any go (some ⟨gf, 0, none⟩) 256 (fillL DD) v2 HG2.out (arg_fr (arg_fr HA9.out HF1.out fun b o e hne => (HDIS7.out b o e hne).1) hf2 fun b o e hne => (HDIS7.out b o e hne).2)
      rw [fillL_length] at KP
      clear RW hX hf2 hpl1
      clear hH
      refine hK.out _ _ hS2 (fun hH => ?_)
      clear hK K
      (try simp only [Act.put, List.setIfInBounds_toArray, List.set_cons_zero, List.set_cons_succ])
      refine takeH (i := 10) (dst := some 38) (v := ?v9) rfl rfl (by kernel_rfl) (by kernel_rfl) (by kernel_rfl) (fun _ _ _ h => h) rfl ?hy9 hH rfl ?rest9
      case hy9 => (intro W hW; (try dsimp only at hW); go_simp; try with_reducible rfl)
      (try simp only [Act.put, List.setIfInBounds_toArray, List.set_cons_zero, List.set_cons_succ])
      refine takeH (i := 11) (dst := some 39) (v := ?v10) rfl rfl (by kernel_rfl) (by kernel_rfl) (by kernel_rfl) (fun _ _ _ h => h) rfl ?hy10 hH rfl ?rest10
      case hy10 => (intro W hW; (try dsimp only at hW); go_simp; try with_reducible rfl)
      (try simp only [Act.put, List.setIfInBounds_toArray, List.set_cons_zero, List.set_cons_succ])
      refine takeH (i := 12) (dst := some 40) (v := ?v11) rfl rfl (by kernel_rfl) (by kernel_rfl) (by kernel_rfl) (fun _ _ _ h => h) rfl ?hy11 hH rfl ?rest11
      case hy11 => (intro W hW; (try dsimp only at hW); go_simp; try with_reducible rfl)
      (try simp only [Act.put, List.setIfInBounds_toArray, List.set_cons_zero, List.set_cons_succ])
      refine takeH (i := 13) (dst := some 41) (v := ?v12) rfl rfl (by kernel_rfl) (by kernel_rfl) (by kernel_rfl) (fun _ _ _ h => h) rfl ?hy12 hH rfl ?rest12
      case hy12 => (intro W hW; (try dsimp only at hW); go_simp; try with_reducible rfl)
      (try simp only [Act.put, List.setIfInBounds_toArray, List.set_cons_zero, List.set_cons_succ])
      refine callH (i := 14) { dst := some 42, op := Go.Op.call { callee := Go.Callee.value (Go.Operand.func 22), args := #[Go.Operand.tmp 40, Go.Operand.tmp 41], argTypes := #[31, 31] }, type := 4, pos := "law.go:43", after := #[{ on := 12, ground := Go.Ground.data }, { on := 13, ground := Go.Ground.data }, { on := 11, ground := Go.Ground.chain }, { on := 11, ground := Go.Ground.guard }], guard := some (11, true) } (by kernel_rfl) rfl rfl (fun K hK => ?_)
      go_simp
      refine KP.mono ?_
      rintro e v3 ⟨rfl, hb3⟩
      have hS3 : v3.cell? ⟨pa, 1, none⟩ = some (.int .i64 N) := (hb3.cell (p := ⟨pa, 1, none⟩) (block_lt_of_cell hS2)).trans hS2
      have HB3 : Hid _ := hb3
      clear KP hb3
      clear hH
      refine hK.out _ _ hS3 (fun hH => ?_)
      clear hK K
      (try simp only [Act.put, List.setIfInBounds_toArray, List.set_cons_zero, List.set_cons_succ])
      refine takeH (i := 15) (dst := some 43) (v := ?v13) rfl rfl (by kernel_rfl) (by kernel_rfl) (by kernel_rfl) (fun _ _ _ h => h) rfl ?hy13 hH rfl ?rest13
      case hy13 => (intro W hW; (try dsimp only at hW); go_simp; try with_reducible rfl)
      (try simp only [Act.put, List.setIfInBounds_toArray, List.set_cons_zero, List.set_cons_succ])
      refine takeH (i := 16) (dst := some 9) (v := ?v14) rfl rfl (by kernel_rfl) (by kernel_rfl) (by kernel_rfl) (fun _ _ _ h => h) rfl ?hy14 hH rfl ?rest14
      case hy14 => (intro W hW; (try dsimp only at hW); go_simp; try with_reducible rfl)
      (try simp only [Act.put, List.setIfInBounds_toArray, List.set_cons_zero, List.set_cons_succ])
      refine wpAnyH_done (by kernel_rfl) ?_ _
      clear hH
      have SPC := spoil_any base (.slice (some ⟨go, 0, none⟩) (fillL DD).length ((fillL DD).length + 8)) (fillL DD) v3 (own_lent (HG2.out.below HB3.out HG2.out.lt) HGO.out.2.2 (HA9.out.len).2.2) (HA9.out.len).2.2
      rw [fillL_length] at SPC
      clear hS0 hS1 hS2 hS3
      go_wp2_with fail
      refine SPC.mono ?_
      clear SPC
      rintro e w10 ⟨rfl, hgr⟩
      have HGR : Hid (Fr (fun k => k = go) v3 w10) := ⟨hgr.size, fun k hk hn => hgr.block k hk (fun e => hn (Option.some.inj e)), hgr.os, hgr.tape, hgr.output⟩
      clear hgr
      go_wp2
      go_ret
      obtain ⟨y1, y2, y3, y4, y5, y6, y7, y8, y9, y10, hDR, hoff⟩ := HX2.out
      have ho := hoff go HGO.out.2.1 (fun c => by rcases c with c | c; exact HGO.out.1.1 c; exact HGO.out.1.2 c)
      have hD3 := hDR.up HB3.out
      exact ⟨rfl, y1, y2, y3, y4, y5, y6, y7, y8, y9, y10, hD3.keep HGR.out (HGR.out.below hD3.bs fun k hk => hk ▸ HGO.out.2.2) (fun k hk e => ho.1 (e ▸ hk)) (fun k hk e => ho.2 (e ▸ hk))⟩
    · have FL := fill_any wA DP DC DD HARG.out.src (by have := (HARG.out.len).2.2; omega)
      go_wp2_with fail
      refine FL.mono ?_
      clear FL
      rintro e w7 ⟨gf, rfl, hgf, hgfl, hb7⟩
      have H7 : Hid (DR base κ w0 w7 p n en lf sf ws q vs r gb cb va vc) := HA.out.up hb7
      have HR7 : Hid (w7.heap[pa]? = some (.cells #[.int .i64 1, .int .i64 N, .slice DP DD.length DC, .slice QP QM QC] 34 (0, 0))) := (hb7.block pa (Array.getElem?_eq_some_iff.1 HRA.out).1).trans HRA.out
      have HARG7 : Hid (Arg w7 (some ⟨gf, 0, none⟩) 256 (fillL DD)) := .inr ⟨gf, 0, rfl, by omega, Nat.le_of_eq (fillL_length DD), by omega, by rw [fillL_length]; omega, hgf.src⟩
      have HDIS7 : Hid (∀ b o, some (⟨gf, 0, none⟩ : Addr) = some ⟨b, o, none⟩ → fillL DD ≠ [] → ¬ Dk p q n vs b ∧ ¬ Rk r gb n va b) := fun b o e _ => by cases e; exact HA.out.off (.inr hgfl)
      clear hgf hgfl hb7
      have LT := lent_any (some ⟨gf, 0, none⟩) 256 (fillL DD) w7 HARG7.out
      rw [fillL_length] at LT
      go_wp2_with fail
      refine LT.mono ?_
      clear LT
      rintro e w9 ⟨go, rfl, hgo, hgol, hb9⟩
      have H9 : Hid (DR base κ w0 w9.drew p n en lf sf ws q vs r gb cb va vc) := (H7.out.up hb9).up ((Below.refl _ _).drew)
      have HG9 : Hid (Blk w9.drew go 5 (fillL DD ++ a5)) := hgo
      have HA9 : Hid (Arg w9.drew (some ⟨gf, 0, none⟩) 256 (fillL DD)) := (HARG7.out.below hb9 (Nat.le_refl _)).below ((Below.refl _ _).drew) (Nat.le_refl _)
      have HR9 : Hid (w9.drew.heap[pa]? = w7.heap[pa]?) := hb9.block pa (Array.getElem?_eq_some_iff.1 HR7.out).1
      have HGO : Hid ((¬ Dk p q n vs go ∧ ¬ Rk r gb n va go) ∧ go < w9.drew.heap.size ∧ base ≤ go) := ⟨H7.out.off (.inr hgol), hgo.lt, by have := H7.out.bs; omega⟩
      have HPL : Hid (pa < w9.drew.heap.size) := by have h1 := (Array.getElem?_eq_some_iff.1 HR7.out).1; have h2 := hb9.size; show pa < w9.heap.size; omega
      have hS0 : w9.drew.cell? ⟨pa, 1, none⟩ = some (.int .i64 N) := by rw [cell_of_row w9.drew pa 1 _ _ _ (HR9.out.trans HR7.out)]; rfl
      have BW := both_write H9.out (by omega) N hNb (fillL DD) go (256 + 8) (by have := HG9.out.src.pre (fillL DD).length; rw [List.take_left' rfl] at this; exact this) HGO.out.1.1 (some ⟨gf, 0, none⟩) 256 HA9.out.src HDIS7.out
      rw [fillL_length] at BW
      clear hgo hgol hb9 a0 a1 a2 a3
      go_upto_region 11 with fail
      refine wp_region_held_drew (S := (fun W => W.cell? ⟨pa, 1, none⟩ = some (.int .i64 N))) (by kernel_rfl) hS0 (fun hH => ?_)
      refine takeH (i := 0) (dst := some 28) (v := ?v15) rfl rfl (by kernel_rfl) (by kernel_rfl) (by kernel_rfl) (fun _ _ _ h => h) rfl ?hy15 hH rfl ?rest15
      case hy15 => (intro W hW; (try dsimp only at hW); go_simp; try with_reducible rfl)
      (try simp only [Act.put, List.setIfInBounds_toArray, List.set_cons_zero, List.set_cons_succ])
      refine takeH (i := 1) (dst := some 29) (v := ?v16) rfl rfl (by kernel_rfl) (by kernel_rfl) (by kernel_rfl) (fun _ _ _ h => h) rfl ?hy16 hH rfl ?rest16
      case hy16 => (intro W hW; (try dsimp only at hW); go_simp; try with_reducible rfl)
      (try simp only [Act.put, List.setIfInBounds_toArray, List.set_cons_zero, List.set_cons_succ])
      refine takeH (i := 2) (dst := some 30) (v := ?v17) rfl rfl (by kernel_rfl) (by kernel_rfl) (by kernel_rfl) (fun _ _ _ h => h) rfl ?hy17 hH rfl ?rest17
      case hy17 => (intro W hW; (try dsimp only at hW); go_simp; try with_reducible rfl)
      (try simp only [Act.put, List.setIfInBounds_toArray, List.set_cons_zero, List.set_cons_succ])
      refine takeH (i := 3) (dst := some 31) (v := ?v18) rfl rfl (by kernel_rfl) (by kernel_rfl) (by kernel_rfl) (fun _ _ _ h => h) rfl ?hy18 hH rfl ?rest18
      case hy18 => (intro W hW; (try dsimp only at hW); go_simp; try with_reducible rfl)
      (try simp only [Act.put, List.setIfInBounds_toArray, List.set_cons_zero, List.set_cons_succ])
      refine takeH (i := 5) (dst := some 33) (v := ?v19) rfl rfl (by kernel_rfl) (by kernel_rfl) (by kernel_rfl) (fun _ _ _ h => h) rfl ?hy19 hH rfl ?rest19
      case hy19 => (intro W hW; (try dsimp only at hW); go_simp; try with_reducible rfl)
      (try simp only [Act.put, List.setIfInBounds_toArray, List.set_cons_zero, List.set_cons_succ])
      refine takeH (i := 6) (dst := some 34) (v := ?v20) rfl rfl (by kernel_rfl) (by kernel_rfl) (by kernel_rfl) (fun _ _ _ h => h) rfl ?hy20 hH rfl ?rest20
      case hy20 => (intro W hW; (try dsimp only at hW); go_simp; try with_reducible rfl)
      (try simp only [Act.put, List.setIfInBounds_toArray, List.set_cons_zero, List.set_cons_succ])
      refine takeH (i := 7) (dst := some 35) (v := ?v21) rfl rfl (by kernel_rfl) (by kernel_rfl) (by kernel_rfl) (fun _ _ _ h => h) rfl ?hy21 hH rfl ?rest21
      case hy21 => (intro W hW; (try dsimp only at hW); go_simp; try with_reducible rfl)
      (try simp only [Act.put, List.setIfInBounds_toArray, List.set_cons_zero, List.set_cons_succ])
      refine takeH (i := 8) (dst := some 36) (v := ?v22) rfl rfl (by kernel_rfl) (by kernel_rfl) (by kernel_rfl) (fun _ _ _ h => h) rfl ?hy22 hH rfl ?rest22
      case hy22 => (intro W hW; (try dsimp only at hW); go_simp; try with_reducible rfl)
      (try simp only [Act.put, List.setIfInBounds_toArray, List.set_cons_zero, List.set_cons_succ])
      refine callH (i := 4) { dst := some 32, op := Go.Op.call { callee := Go.Callee.value (Go.Operand.func 11), args := #[Go.Operand.tmp 28, Go.Operand.tmp 30, Go.Operand.tmp 31], argTypes := #[24, 3, 31] }, type := 25, pos := "law.go:43", after := #[{ on := 0, ground := Go.Ground.data }, { on := 2, ground := Go.Ground.data }, { on := 3, ground := Go.Ground.data }], guard := none } (by kernel_rfl) rfl rfl (fun K hK => ?_)
      go_simp
      refine BW.mono ?_
      rintro e v1 ⟨er, rfl, hf1, RW⟩
      have hS1 : v1.cell? ⟨pa, 1, none⟩ = some (.int .i64 N) := (fr_cell hf1 (a := ⟨pa, 1, none⟩) HPL.out HPA.out.1).trans hS0
      have HF1 : Hid _ := hf1
      clear BW hf1
      clear hH
      refine hK.out _ _ hS1 (fun hH => ?_)
      clear hK K
      (try simp only [Act.put, List.setIfInBounds_toArray, List.set_cons_zero, List.set_cons_succ])
      refine callH (i := 9) { dst := some 37, op := Go.Op.call { callee := Go.Callee.value (Go.Operand.func 37), args := #[Go.Operand.tmp 33, Go.Operand.tmp 35, Go.Operand.tmp 36], argTypes := #[28, 3, 31] }, type := 25, pos := "law.go:43", after := #[{ on := 5, ground := Go.Ground.data }, { on := 7, ground := Go.Ground.data }, { on := 8, ground := Go.Ground.data }, { on := 4, ground := Go.Ground.chain }], guard := none } (by kernel_rfl) rfl rfl (fun K hK => ?_)
      go_simp
      refine RW.mono ?_
      rintro e v2 ⟨rfl, hf2, hX⟩
      have hpl1 : pa < v1.heap.size := by have := HF1.out.size; have := HPL.out; omega
      have hS2 : v2.cell? ⟨pa, 1, none⟩ = some (.int .i64 N) := (fr_cell hf2 (a := ⟨pa, 1, none⟩) hpl1 HPA.out.2).trans hS1
      have HX2 : Hid _ := hX
      have HG2 : Hid (Blk v2 go 5 (fillL DD ++ a5)) := blk_fr (blk_fr HG9.out HF1.out HGO.out.1.1) hf2 HGO.out.1.2
      have KP := kept_any go (some ⟨gf, 0, none⟩) 256 (fillL DD) v2 HG2.out (arg_fr (arg_fr HA9.out HF1.out fun b o e hne => (HDIS7.out b o e hne).1) hf2 fun b o e hne => (HDIS7.out b o e hne).2)
      rw [fillL_length] at KP
      clear RW hX hf2 hpl1
      clear hH
      refine hK.out _ _ hS2 (fun hH => ?_)
      clear hK K
      (try simp only [Act.put, List.setIfInBounds_toArray, List.set_cons_zero, List.set_cons_succ])
      refine takeH (i := 10) (dst := some 38) (v := ?v23) rfl rfl (by kernel_rfl) (by kernel_rfl) (by kernel_rfl) (fun _ _ _ h => h) rfl ?hy23 hH rfl ?rest23
      case hy23 => (intro W hW; (try dsimp only at hW); go_simp; try with_reducible rfl)
      (try simp only [Act.put, List.setIfInBounds_toArray, List.set_cons_zero, List.set_cons_succ])
      refine takeH (i := 11) (dst := some 39) (v := ?v24) rfl rfl (by kernel_rfl) (by kernel_rfl) (by kernel_rfl) (fun _ _ _ h => h) rfl ?hy24 hH rfl ?rest24
      case hy24 => (intro W hW; (try dsimp only at hW); go_simp; try with_reducible rfl)
      (try simp only [Act.put, List.setIfInBounds_toArray, List.set_cons_zero, List.set_cons_succ])
      refine takeH (i := 12) (dst := some 40) (v := ?v25) rfl rfl (by kernel_rfl) (by kernel_rfl) (by kernel_rfl) (fun _ _ _ h => h) rfl ?hy25 hH rfl ?rest25
      case hy25 => (intro W hW; (try dsimp only at hW); go_simp; try with_reducible rfl)
      (try simp only [Act.put, List.setIfInBounds_toArray, List.set_cons_zero, List.set_cons_succ])
      refine takeH (i := 13) (dst := some 41) (v := ?v26) rfl rfl (by kernel_rfl) (by kernel_rfl) (by kernel_rfl) (fun _ _ _ h => h) rfl ?hy26 hH rfl ?rest26
      case hy26 => (intro W hW; (try dsimp only at hW); go_simp; try with_reducible rfl)
      (try simp only [Act.put, List.setIfInBounds_toArray, List.set_cons_zero, List.set_cons_succ])
      refine callH (i := 14) { dst := some 42, op := Go.Op.call { callee := Go.Callee.value (Go.Operand.func 22), args := #[Go.Operand.tmp 40, Go.Operand.tmp 41], argTypes := #[31, 31] }, type := 4, pos := "law.go:43", after := #[{ on := 12, ground := Go.Ground.data }, { on := 13, ground := Go.Ground.data }, { on := 11, ground := Go.Ground.chain }, { on := 11, ground := Go.Ground.guard }], guard := some (11, true) } (by kernel_rfl) rfl rfl (fun K hK => ?_)
      go_simp
      refine KP.mono ?_
      rintro e v3 ⟨rfl, hb3⟩
      have hS3 : v3.cell? ⟨pa, 1, none⟩ = some (.int .i64 N) := (hb3.cell (p := ⟨pa, 1, none⟩) (block_lt_of_cell hS2)).trans hS2
      have HB3 : Hid _ := hb3
      clear KP hb3
      clear hH
      refine hK.out _ _ hS3 (fun hH => ?_)
      clear hK K
      (try simp only [Act.put, List.setIfInBounds_toArray, List.set_cons_zero, List.set_cons_succ])
      refine takeH (i := 15) (dst := some 43) (v := ?v27) rfl rfl (by kernel_rfl) (by kernel_rfl) (by kernel_rfl) (fun _ _ _ h => h) rfl ?hy27 hH rfl ?rest27
      case hy27 => (intro W hW; (try dsimp only at hW); go_simp; try with_reducible rfl)
      (try simp only [Act.put, List.setIfInBounds_toArray, List.set_cons_zero, List.set_cons_succ])
      refine takeH (i := 16) (dst := some 9) (v := ?v28) rfl rfl (by kernel_rfl) (by kernel_rfl) (by kernel_rfl) (fun _ _ _ h => h) rfl ?hy28 hH rfl ?rest28
      case hy28 => (intro W hW; (try dsimp only at hW); go_simp; try with_reducible rfl)
      (try simp only [Act.put, List.setIfInBounds_toArray, List.set_cons_zero, List.set_cons_succ])
      refine wpAnyH_done (by kernel_rfl) ?_ _
      clear hH
      have SPC := spoil_any base (.slice (some ⟨go, 0, none⟩) (fillL DD).length ((fillL DD).length + 8)) (fillL DD) v3 (own_lent (HG2.out.below HB3.out HG2.out.lt) HGO.out.2.2 (HA9.out.len).2.2) (HA9.out.len).2.2
      rw [fillL_length] at SPC
      clear hS0 hS1 hS2 hS3
      go_wp2_with fail
      refine SPC.mono ?_
      clear SPC
      rintro e w10 ⟨rfl, hgr⟩
      have HGR : Hid (Fr (fun k => k = go) v3 w10) := ⟨hgr.size, fun k hk hn => hgr.block k hk (fun e => hn (Option.some.inj e)), hgr.os, hgr.tape, hgr.output⟩
      clear hgr
      go_wp2
      go_ret
      obtain ⟨y1, y2, y3, y4, y5, y6, y7, y8, y9, y10, hDR, hoff⟩ := HX2.out
      have ho := hoff go HGO.out.2.1 (fun c => by rcases c with c | c; exact HGO.out.1.1 c; exact HGO.out.1.2 c)
      have hD3 := hDR.up HB3.out
      exact ⟨rfl, y1, y2, y3, y4, y5, y6, y7, y8, y9, y10, hD3.keep HGR.out (HGR.out.below hD3.bs fun k hk => hk ▸ HGO.out.2.2) (fun k hk e => ho.1 (e ▸ hk)) (fun k hk e => ho.2 (e ▸ hk))⟩
    · have FL := fill_any wA DP DC DD HARG.out.src (by have := (HARG.out.len).2.2; omega)
      go_wp2_with fail
      refine FL.mono ?_
      clear FL
      rintro e w7 ⟨gf, rfl, hgf, hgfl, hb7⟩
      have H7 : Hid (DR base κ w0 w7 p n en lf sf ws q vs r gb cb va vc) := HA.out.up hb7
      have HR7 : Hid (w7.heap[pa]? = some (.cells #[.int .i64 2, .int .i64 N, .slice DP DD.length DC, .slice QP QM QC] 34 (0, 0))) := (hb7.block pa (Array.getElem?_eq_some_iff.1 HRA.out).1).trans HRA.out
      have HARG7 : Hid (Arg w7 (some ⟨gf, 0, none⟩) 256 (fillL DD)) := .inr ⟨gf, 0, rfl, by omega, Nat.le_of_eq (fillL_length DD), by omega, by rw [fillL_length]; omega, hgf.src⟩
      have HDIS7 : Hid (∀ b o, some (⟨gf, 0, none⟩ : Addr) = some ⟨b, o, none⟩ → fillL DD ≠ [] → ¬ Dk p q n vs b ∧ ¬ Rk r gb n va b) := fun b o e _ => by cases e; exact HA.out.off (.inr hgfl)
      clear hgf hgfl hb7
      have LT := lent_any (some ⟨gf, 0, none⟩) 256 (fillL DD) w7 HARG7.out
      rw [fillL_length] at LT
      go_wp2_with fail
      refine LT.mono ?_
      clear LT
      rintro e w9 ⟨go, rfl, hgo, hgol, hb9⟩
      have H9 : Hid (DR base κ w0 w9.drew p n en lf sf ws q vs r gb cb va vc) := (H7.out.up hb9).up ((Below.refl _ _).drew)
      have HG9 : Hid (Blk w9.drew go 5 (fillL DD ++ a5)) := hgo
      have HA9 : Hid (Arg w9.drew (some ⟨gf, 0, none⟩) 256 (fillL DD)) := (HARG7.out.below hb9 (Nat.le_refl _)).below ((Below.refl _ _).drew) (Nat.le_refl _)
      have HR9 : Hid (w9.drew.heap[pa]? = w7.heap[pa]?) := hb9.block pa (Array.getElem?_eq_some_iff.1 HR7.out).1
      have HGO : Hid ((¬ Dk p q n vs go ∧ ¬ Rk r gb n va go) ∧ go < w9.drew.heap.size ∧ base ≤ go) := ⟨H7.out.off (.inr hgol), hgo.lt, by have := H7.out.bs; omega⟩
      have HPL : Hid (pa < w9.drew.heap.size) := by have h1 := (Array.getElem?_eq_some_iff.1 HR7.out).1; have h2 := hb9.size; show pa < w9.heap.size; omega
      have hS0 : w9.drew.cell? ⟨pa, 1, none⟩ = some (.int .i64 N) := by rw [cell_of_row w9.drew pa 1 _ _ _ (HR9.out.trans HR7.out)]; rfl
      have BW := both_write H9.out (by omega) N hNb (fillL DD) go (256 + 8) (by have := HG9.out.src.pre (fillL DD).length; rw [List.take_left' rfl] at this; exact this) HGO.out.1.1 (some ⟨gf, 0, none⟩) 256 HA9.out.src HDIS7.out
      rw [fillL_length] at BW
      clear hgo hgol hb9 a0 a1 a2 a3
      go_upto_region 11 with fail
      refine wp_region_held_drew (S := (fun W => W.cell? ⟨pa, 1, none⟩ = some (.int .i64 N))) (by kernel_rfl) hS0 (fun hH => ?_)
      refine takeH (i := 0) (dst := some 28) (v := ?v29) rfl rfl (by kernel_rfl) (by kernel_rfl) (by kernel_rfl) (fun _ _ _ h => h) rfl ?hy29 hH rfl ?rest29
      case hy29 => (intro W hW; (try dsimp only at hW); go_simp; try with_reducible rfl)
      (try simp only [Act.put, List.setIfInBounds_toArray, List.set_cons_zero, List.set_cons_succ])
      refine takeH (i := 1) (dst := some 29) (v := ?v30) rfl rfl (by kernel_rfl) (by kernel_rfl) (by kernel_rfl) (fun _ _ _ h => h) rfl ?hy30 hH rfl ?rest30
      case hy30 => (intro W hW; (try dsimp only at hW); go_simp; try with_reducible rfl)
      (try simp only [Act.put, List.setIfInBounds_toArray, List.set_cons_zero, List.set_cons_succ])
      refine takeH (i := 2) (dst := some 30) (v := ?v31) rfl rfl (by kernel_rfl) (by kernel_rfl) (by kernel_rfl) (fun _ _ _ h => h) rfl ?hy31 hH rfl ?rest31
      case hy31 => (intro W hW; (try dsimp only at hW); go_simp; try with_reducible rfl)
      (try simp only [Act.put, List.setIfInBounds_toArray, List.set_cons_zero, List.set_cons_succ])
      refine takeH (i := 3) (dst := some 31) (v := ?v32) rfl rfl (by kernel_rfl) (by kernel_rfl) (by kernel_rfl) (fun _ _ _ h => h) rfl ?hy32 hH rfl ?rest32
      case hy32 => (intro W hW; (try dsimp only at hW); go_simp; try with_reducible rfl)
      (try simp only [Act.put, List.setIfInBounds_toArray, List.set_cons_zero, List.set_cons_succ])
      refine takeH (i := 5) (dst := some 33) (v := ?v33) rfl rfl (by kernel_rfl) (by kernel_rfl) (by kernel_rfl) (fun _ _ _ h => h) rfl ?hy33 hH rfl ?rest33
      case hy33 => (intro W hW; (try dsimp only at hW); go_simp; try with_reducible rfl)
      (try simp only [Act.put, List.setIfInBounds_toArray, List.set_cons_zero, List.set_cons_succ])
      refine takeH (i := 6) (dst := some 34) (v := ?v34) rfl rfl (by kernel_rfl) (by kernel_rfl) (by kernel_rfl) (fun _ _ _ h => h) rfl ?hy34 hH rfl ?rest34
      case hy34 => (intro W hW; (try dsimp only at hW); go_simp; try with_reducible rfl)
      (try simp only [Act.put, List.setIfInBounds_toArray, List.set_cons_zero, List.set_cons_succ])
      refine takeH (i := 7) (dst := some 35) (v := ?v35) rfl rfl (by kernel_rfl) (by kernel_rfl) (by kernel_rfl) (fun _ _ _ h => h) rfl ?hy35 hH rfl ?rest35
      case hy35 => (intro W hW; (try dsimp only at hW); go_simp; try with_reducible rfl)
      (try simp only [Act.put, List.setIfInBounds_toArray, List.set_cons_zero, List.set_cons_succ])
      refine takeH (i := 8) (dst := some 36) (v := ?v36) rfl rfl (by kernel_rfl) (by kernel_rfl) (by kernel_rfl) (fun _ _ _ h => h) rfl ?hy36 hH rfl ?rest36
      case hy36 => (intro W hW; (try dsimp only at hW); go_simp; try with_reducible rfl)
      (try simp only [Act.put, List.setIfInBounds_toArray, List.set_cons_zero, List.set_cons_succ])
      refine callH (i := 4) { dst := some 32, op := Go.Op.call { callee := Go.Callee.value (Go.Operand.func 11), args := #[Go.Operand.tmp 28, Go.Operand.tmp 30, Go.Operand.tmp 31], argTypes := #[24, 3, 31] }, type := 25, pos := "law.go:43", after := #[{ on := 0, ground := Go.Ground.data }, { on := 2, ground := Go.Ground.data }, { on := 3, ground := Go.Ground.data }], guard := none } (by kernel_rfl) rfl rfl (fun K hK => ?_)
      go_simp
      refine BW.mono ?_
      rintro e v1 ⟨er, rfl, hf1, RW⟩
      have hS1 : v1.cell? ⟨pa, 1, none⟩ = some (.int .i64 N) := (fr_cell hf1 (a := ⟨pa, 1, none⟩) HPL.out HPA.out.1).trans hS0
      have HF1 : Hid _ := hf1
      clear BW hf1
      clear hH
      refine hK.out _ _ hS1 (fun hH => ?_)
      clear hK K
      (try simp only [Act.put, List.setIfInBounds_toArray, List.set_cons_zero, List.set_cons_succ])
      refine callH (i := 9) { dst := some 37, op := Go.Op.call { callee := Go.Callee.value (Go.Operand.func 37), args := #[Go.Operand.tmp 33, Go.Operand.tmp 35, Go.Operand.tmp 36], argTypes := #[28, 3, 31] }, type := 25, pos := "law.go:43", after := #[{ on := 5, ground := Go.Ground.data }, { on := 7, ground := Go.Ground.data }, { on := 8, ground := Go.Ground.data }, { on := 4, ground := Go.Ground.chain }], guard := none } (by kernel_rfl) rfl rfl (fun K hK => ?_)
      go_simp
      refine RW.mono ?_
      rintro e v2 ⟨rfl, hf2, hX⟩
      have hpl1 : pa < v1.heap.size := by have := HF1.out.size; have := HPL.out; omega
      have hS2 : v2.cell? ⟨pa, 1, none⟩ = some (.int .i64 N) := (fr_cell hf2 (a := ⟨pa, 1, none⟩) hpl1 HPA.out.2).trans hS1
      have HX2 : Hid _ := hX
      have HG2 : Hid (Blk v2 go 5 (fillL DD ++ a5)) := blk_fr (blk_fr HG9.out HF1.out HGO.out.1.1) hf2 HGO.out.1.2
      have KP := kept_any go (some ⟨gf, 0, none⟩) 256 (fillL DD) v2 HG2.out (arg_fr (arg_fr HA9.out HF1.out fun b o e hne => (HDIS7.out b o e hne).1) hf2 fun b o e hne => (HDIS7.out b o e hne).2)
      rw [fillL_length] at KP
      clear RW hX hf2 hpl1
      clear hH
      refine hK.out _ _ hS2 (fun hH => ?_)
      clear hK K
      (try simp only [Act.put, List.setIfInBounds_toArray, List.set_cons_zero, List.set_cons_succ])
      refine takeH (i := 10) (dst := some 38) (v := ?v37) rfl rfl (by kernel_rfl) (by kernel_rfl) (by kernel_rfl) (fun _ _ _ h => h) rfl ?hy37 hH rfl ?rest37
      case hy37 => (intro W hW; (try dsimp only at hW); go_simp; try with_reducible rfl)
      (try simp only [Act.put, List.setIfInBounds_toArray, List.set_cons_zero, List.set_cons_succ])
      refine takeH (i := 11) (dst := some 39) (v := ?v38) rfl rfl (by kernel_rfl) (by kernel_rfl) (by kernel_rfl) (fun _ _ _ h => h) rfl ?hy38 hH rfl ?rest38
      case hy38 => (intro W hW; (try dsimp only at hW); go_simp; try with_reducible rfl)
      (try simp only [Act.put, List.setIfInBounds_toArray, List.set_cons_zero, List.set_cons_succ])
      refine takeH (i := 12) (dst := some 40) (v := ?v39) rfl rfl (by kernel_rfl) (by kernel_rfl) (by kernel_rfl) (fun _ _ _ h => h) rfl ?hy39 hH rfl ?rest39
      case hy39 => (intro W hW; (try dsimp only at hW); go_simp; try with_reducible rfl)
      (try simp only [Act.put, List.setIfInBounds_toArray, List.set_cons_zero, List.set_cons_succ])
      refine takeH (i := 13) (dst := some 41) (v := ?v40) rfl rfl (by kernel_rfl) (by kernel_rfl) (by kernel_rfl) (fun _ _ _ h => h) rfl ?hy40 hH rfl ?rest40
      case hy40 => (intro W hW; (try dsimp only at hW); go_simp; try with_reducible rfl)
      (try simp only [Act.put, List.setIfInBounds_toArray, List.set_cons_zero, List.set_cons_succ])
      refine callH (i := 14) { dst := some 42, op := Go.Op.call { callee := Go.Callee.value (Go.Operand.func 22), args := #[Go.Operand.tmp 40, Go.Operand.tmp 41], argTypes := #[31, 31] }, type := 4, pos := "law.go:43", after := #[{ on := 12, ground := Go.Ground.data }, { on := 13, ground := Go.Ground.data }, { on := 11, ground := Go.Ground.chain }, { on := 11, ground := Go.Ground.guard }], guard := some (11, true) } (by kernel_rfl) rfl rfl (fun K hK => ?_)
      go_simp
      refine KP.mono ?_
      rintro e v3 ⟨rfl, hb3⟩
      have hS3 : v3.cell? ⟨pa, 1, none⟩ = some (.int .i64 N) := (hb3.cell (p := ⟨pa, 1, none⟩) (block_lt_of_cell hS2)).trans hS2
      have HB3 : Hid _ := hb3
      clear KP hb3
      clear hH
      refine hK.out _ _ hS3 (fun hH => ?_)
      clear hK K
      (try simp only [Act.put, List.setIfInBounds_toArray, List.set_cons_zero, List.set_cons_succ])
      refine takeH (i := 15) (dst := some 43) (v := ?v41) rfl rfl (by kernel_rfl) (by kernel_rfl) (by kernel_rfl) (fun _ _ _ h => h) rfl ?hy41 hH rfl ?rest41
      case hy41 => (intro W hW; (try dsimp only at hW); go_simp; try with_reducible rfl)
      (try simp only [Act.put, List.setIfInBounds_toArray, List.set_cons_zero, List.set_cons_succ])
      refine takeH (i := 16) (dst := some 9) (v := ?v42) rfl rfl (by kernel_rfl) (by kernel_rfl) (by kernel_rfl) (fun _ _ _ h => h) rfl ?hy42 hH rfl ?rest42
      case hy42 => (intro W hW; (try dsimp only at hW); go_simp; try with_reducible rfl)
      (try simp only [Act.put, List.setIfInBounds_toArray, List.set_cons_zero, List.set_cons_succ])
      refine wpAnyH_done (by kernel_rfl) ?_ _
      clear hH
      have SPC := spoil_any base (.slice (some ⟨go, 0, none⟩) (fillL DD).length ((fillL DD).length + 8)) (fillL DD) v3 (own_lent (HG2.out.below HB3.out HG2.out.lt) HGO.out.2.2 (HA9.out.len).2.2) (HA9.out.len).2.2
      rw [fillL_length] at SPC
      clear hS0 hS1 hS2 hS3
      go_wp2_with fail
      refine SPC.mono ?_
      clear SPC
      rintro e w10 ⟨rfl, hgr⟩
      have HGR : Hid (Fr (fun k => k = go) v3 w10) := ⟨hgr.size, fun k hk hn => hgr.block k hk (fun e => hn (Option.some.inj e)), hgr.os, hgr.tape, hgr.output⟩
      clear hgr
      go_wp2
      go_ret
      obtain ⟨y1, y2, y3, y4, y5, y6, y7, y8, y9, y10, hDR, hoff⟩ := HX2.out
      have ho := hoff go HGO.out.2.1 (fun c => by rcases c with c | c; exact HGO.out.1.1 c; exact HGO.out.1.2 c)
      have hD3 := hDR.up HB3.out
      exact ⟨rfl, y1, y2, y3, y4, y5, y6, y7, y8, y9, y10, hD3.keep HGR.out (HGR.out.below hD3.bs fun k hk => hk ▸ HGO.out.2.2) (fun k hk e => ho.1 (e ▸ hk)) (fun k hk e => ho.2 (e ▸ hk))⟩
    · have FL := fill_any wA DP DC DD HARG.out.src (by have := (HARG.out.len).2.2; omega)
      go_wp2_with fail
      refine FL.mono ?_
      clear FL
      rintro e w7 ⟨gf, rfl, hgf, hgfl, hb7⟩
      have H7 : Hid (DR base κ w0 w7 p n en lf sf ws q vs r gb cb va vc) := HA.out.up hb7
      have HR7 : Hid (w7.heap[pa]? = some (.cells #[.int .i64 3, .int .i64 N, .slice DP DD.length DC, .slice QP QM QC] 34 (0, 0))) := (hb7.block pa (Array.getElem?_eq_some_iff.1 HRA.out).1).trans HRA.out
      have HARG7 : Hid (Arg w7 (some ⟨gf, 0, none⟩) 256 (fillL DD)) := .inr ⟨gf, 0, rfl, by omega, Nat.le_of_eq (fillL_length DD), by omega, by rw [fillL_length]; omega, hgf.src⟩
      have HDIS7 : Hid (∀ b o, some (⟨gf, 0, none⟩ : Addr) = some ⟨b, o, none⟩ → fillL DD ≠ [] → ¬ Dk p q n vs b ∧ ¬ Rk r gb n va b) := fun b o e _ => by cases e; exact HA.out.off (.inr hgfl)
      clear hgf hgfl hb7
      have LT := lent_any (some ⟨gf, 0, none⟩) 256 (fillL DD) w7 HARG7.out
      rw [fillL_length] at LT
      go_wp2_with fail
      refine LT.mono ?_
      clear LT
      rintro e w9 ⟨go, rfl, hgo, hgol, hb9⟩
      have H9 : Hid (DR base κ w0 w9.drew p n en lf sf ws q vs r gb cb va vc) := (H7.out.up hb9).up ((Below.refl _ _).drew)
      have HG9 : Hid (Blk w9.drew go 5 (fillL DD ++ a5)) := hgo
      have HA9 : Hid (Arg w9.drew (some ⟨gf, 0, none⟩) 256 (fillL DD)) := (HARG7.out.below hb9 (Nat.le_refl _)).below ((Below.refl _ _).drew) (Nat.le_refl _)
      have HR9 : Hid (w9.drew.heap[pa]? = w7.heap[pa]?) := hb9.block pa (Array.getElem?_eq_some_iff.1 HR7.out).1
      have HGO : Hid ((¬ Dk p q n vs go ∧ ¬ Rk r gb n va go) ∧ go < w9.drew.heap.size ∧ base ≤ go) := ⟨H7.out.off (.inr hgol), hgo.lt, by have := H7.out.bs; omega⟩
      have HPL : Hid (pa < w9.drew.heap.size) := by have h1 := (Array.getElem?_eq_some_iff.1 HR7.out).1; have h2 := hb9.size; show pa < w9.heap.size; omega
      have hS0 : w9.drew.cell? ⟨pa, 1, none⟩ = some (.int .i64 N) := by rw [cell_of_row w9.drew pa 1 _ _ _ (HR9.out.trans HR7.out)]; rfl
      have BW := both_write H9.out (by omega) N hNb (fillL DD) go (256 + 8) (by have := HG9.out.src.pre (fillL DD).length; rw [List.take_left' rfl] at this; exact this) HGO.out.1.1 (some ⟨gf, 0, none⟩) 256 HA9.out.src HDIS7.out
      rw [fillL_length] at BW
      clear hgo hgol hb9 a0 a1 a2 a3
      go_upto_region 11 with fail
      refine wp_region_held_drew (S := (fun W => W.cell? ⟨pa, 1, none⟩ = some (.int .i64 N))) (by kernel_rfl) hS0 (fun hH => ?_)
      refine takeH (i := 0) (dst := some 28) (v := ?v43) rfl rfl (by kernel_rfl) (by kernel_rfl) (by kernel_rfl) (fun _ _ _ h => h) rfl ?hy43 hH rfl ?rest43
      case hy43 => (intro W hW; (try dsimp only at hW); go_simp; try with_reducible rfl)
      (try simp only [Act.put, List.setIfInBounds_toArray, List.set_cons_zero, List.set_cons_succ])
      refine takeH (i := 1) (dst := some 29) (v := ?v44) rfl rfl (by kernel_rfl) (by kernel_rfl) (by kernel_rfl) (fun _ _ _ h => h) rfl ?hy44 hH rfl ?rest44
      case hy44 => (intro W hW; (try dsimp only at hW); go_simp; try with_reducible rfl)
      (try simp only [Act.put, List.setIfInBounds_toArray, List.set_cons_zero, List.set_cons_succ])
      refine takeH (i := 2) (dst := some 30) (v := ?v45) rfl rfl (by kernel_rfl) (by kernel_rfl) (by kernel_rfl) (fun _ _ _ h => h) rfl ?hy45 hH rfl ?rest45
      case hy45 => (intro W hW; (try dsimp only at hW); go_simp; try with_reducible rfl)
      (try simp only [Act.put, List.setIfInBounds_toArray, List.set_cons_zero, List.set_cons_succ])
      refine takeH (i := 3) (dst := some 31) (v := ?v46) rfl rfl (by kernel_rfl) (by kernel_rfl) (by kernel_rfl) (fun _ _ _ h => h) rfl ?hy46 hH rfl ?rest46
      case hy46 => (intro W hW; (try dsimp only at hW); go_simp; try with_reducible rfl)
      (try simp only [Act.put, List.setIfInBounds_toArray, List.set_cons_zero, List.set_cons_succ])
      refine takeH (i := 5) (dst := some 33) (v := ?v47) rfl rfl (by kernel_rfl) (by kernel_rfl) (by kernel_rfl) (fun _ _ _ h => h) rfl ?hy47 hH rfl ?rest47
      case hy47 => (intro W hW; (try dsimp only at hW); go_simp; try with_reducible rfl)
      (try simp only [Act.put, List.setIfInBounds_toArray, List.set_cons_zero, List.set_cons_succ])
      refine takeH (i := 6) (dst := some 34) (v := ?v48) rfl rfl (by kernel_rfl) (by kernel_rfl) (by kernel_rfl) (fun _ _ _ h => h) rfl ?hy48 hH rfl ?rest48
      case hy48 => (intro W hW; (try dsimp only at hW); go_simp; try with_reducible rfl)
      (try simp only [Act.put, List.setIfInBounds_toArray, List.set_cons_zero, List.set_cons_succ])
      refine takeH (i := 7) (dst := some 35) (v := ?v49) rfl rfl (by kernel_rfl) (by kernel_rfl) (by kernel_rfl) (fun _ _ _ h => h) rfl ?hy49 hH rfl ?rest49
      case hy49 => (intro W hW; (try dsimp only at hW); go_simp; try with_reducible rfl)
      (try simp only [Act.put, List.setIfInBounds_toArray, List.set_cons_zero, List.set_cons_succ])
      refine takeH (i := 8) (dst := some 36) (v := ?v50) rfl rfl (by kernel_rfl) (by kernel_rfl) (by kernel_rfl) (fun _ _ _ h => h) rfl ?hy50 hH rfl ?rest50
      case hy50 => (intro W hW; (try dsimp only at hW); go_simp; try with_reducible rfl)
      (try simp only [Act.put, List.setIfInBounds_toArray, List.set_cons_zero, List.set_cons_succ])
      refine callH (i := 4) { dst := some 32, op := Go.Op.call { callee := Go.Callee.value (Go.Operand.func 11), args := #[Go.Operand.tmp 28, Go.Operand.tmp 30, Go.Operand.tmp 31], argTypes := #[24, 3, 31] }, type := 25, pos := "law.go:43", after := #[{ on := 0, ground := Go.Ground.data }, { on := 2, ground := Go.Ground.data }, { on := 3, ground := Go.Ground.data }], guard := none } (by kernel_rfl) rfl rfl (fun K hK => ?_)
      go_simp
      refine BW.mono ?_
      rintro e v1 ⟨er, rfl, hf1, RW⟩
      have hS1 : v1.cell? ⟨pa, 1, none⟩ = some (.int .i64 N) := (fr_cell hf1 (a := ⟨pa, 1, none⟩) HPL.out HPA.out.1).trans hS0
      have HF1 : Hid _ := hf1
      clear BW hf1
      clear hH
      refine hK.out _ _ hS1 (fun hH => ?_)
      clear hK K
      (try simp only [Act.put, List.setIfInBounds_toArray, List.set_cons_zero, List.set_cons_succ])
      refine callH (i := 9) { dst := some 37, op := Go.Op.call { callee := Go.Callee.value (Go.Operand.func 37), args := #[Go.Operand.tmp 33, Go.Operand.tmp 35, Go.Operand.tmp 36], argTypes := #[28, 3, 31] }, type := 25, pos := "law.go:43", after := #[{ on := 5, ground := Go.Ground.data }, { on := 7, ground := Go.Ground.data }, { on := 8, ground := Go.Ground.data }, { on := 4, ground := Go.Ground.chain }], guard := none } (by kernel_rfl) rfl rfl (fun K hK => ?_)
      go_simp
      refine RW.mono ?_
      rintro e v2 ⟨rfl, hf2, hX⟩
      have hpl1 : pa < v1.heap.size := by have := HF1.out.size; have := HPL.out; omega
      have hS2 : v2.cell? ⟨pa, 1, none⟩ = some (.int .i64 N) := (fr_cell hf2 (a := ⟨pa, 1, none⟩) hpl1 HPA.out.2).trans hS1
      have HX2 : Hid _ := hX
      have HG2 : Hid (Blk v2 go 5 (fillL DD ++ a5)) := blk_fr (blk_fr HG9.out HF1.out HGO.out.1.1) hf2 HGO.out.1.2
      have KP := kept_any go (some ⟨gf, 0, none⟩) 256 (fillL DD) v2 HG2.out (arg_fr (arg_fr HA9.out HF1.out fun b o e hne => (HDIS7.out b o e hne).1) hf2 fun b o e hne => (HDIS7.out b o e hne).2)
      rw [fillL_length] at KP
      clear RW hX hf2 hpl1
      clear hH
      refine hK.out _ _ hS2 (fun hH => ?_)
      clear hK K
      (try simp only [Act.put, List.setIfInBounds_toArray, List.set_cons_zero, List.set_cons_succ])
      refine takeH (i := 10) (dst := some 38) (v := ?v51) rfl rfl (by kernel_rfl) (by kernel_rfl) (by kernel_rfl) (fun _ _ _ h => h) rfl ?hy51 hH rfl ?rest51
      case hy51 => (intro W hW; (try dsimp only at hW); go_simp; try with_reducible rfl)
      (try simp only [Act.put, List.setIfInBounds_toArray, List.set_cons_zero, List.set_cons_succ])
      refine takeH (i := 11) (dst := some 39) (v := ?v52) rfl rfl (by kernel_rfl) (by kernel_rfl) (by kernel_rfl) (fun _ _ _ h => h) rfl ?hy52 hH rfl ?rest52
      case hy52 => (intro W hW; (try dsimp only at hW); go_simp; try with_reducible rfl)
      (try simp only [Act.put, List.setIfInBounds_toArray, List.set_cons_zero, List.set_cons_succ])
      refine takeH (i := 12) (dst := some 40) (v := ?v53) rfl rfl (by kernel_rfl) (by kernel_rfl) (by kernel_rfl) (fun _ _ _ h => h) rfl ?hy53 hH rfl ?rest53
      case hy53 => (intro W hW; (try dsimp only at hW); go_simp; try with_reducible rfl)
      (try simp only [Act.put, List.setIfInBounds_toArray, List.set_cons_zero, List.set_cons_succ])
      refine takeH (i := 13) (dst := some 41) (v := ?v54) rfl rfl (by kernel_rfl) (by kernel_rfl) (by kernel_rfl) (fun _ _ _ h => h) rfl ?hy54 hH rfl ?rest54
      case hy54 => (intro W hW; (try dsimp only at hW); go_simp; try with_reducible rfl)
      (try simp only [Act.put, List.setIfInBounds_toArray, List.set_cons_zero, List.set_cons_succ])
      refine callH (i := 14) { dst := some 42, op := Go.Op.call { callee := Go.Callee.value (Go.Operand.func 22), args := #[Go.Operand.tmp 40, Go.Operand.tmp 41], argTypes := #[31, 31] }, type := 4, pos := "law.go:43", after := #[{ on := 12, ground := Go.Ground.data }, { on := 13, ground := Go.Ground.data }, { on := 11, ground := Go.Ground.chain }, { on := 11, ground := Go.Ground.guard }], guard := some (11, true) } (by kernel_rfl) rfl rfl (fun K hK => ?_)
      go_simp
      refine KP.mono ?_
      rintro e v3 ⟨rfl, hb3⟩
      have hS3 : v3.cell? ⟨pa, 1, none⟩ = some (.int .i64 N) := (hb3.cell (p := ⟨pa, 1, none⟩) (block_lt_of_cell hS2)).trans hS2
      have HB3 : Hid _ := hb3
      clear KP hb3
      clear hH
      refine hK.out _ _ hS3 (fun hH => ?_)
      clear hK K
      (try simp only [Act.put, List.setIfInBounds_toArray, List.set_cons_zero, List.set_cons_succ])
      refine takeH (i := 15) (dst := some 43) (v := ?v55) rfl rfl (by kernel_rfl) (by kernel_rfl) (by kernel_rfl) (fun _ _ _ h => h) rfl ?hy55 hH rfl ?rest55
      case hy55 => (intro W hW; (try dsimp only at hW); go_simp; try with_reducible rfl)
      (try simp only [Act.put, List.setIfInBounds_toArray, List.set_cons_zero, List.set_cons_succ])
      refine takeH (i := 16) (dst := some 9) (v := ?v56) rfl rfl (by kernel_rfl) (by kernel_rfl) (by kernel_rfl) (fun _ _ _ h => h) rfl ?hy56 hH rfl ?rest56
      case hy56 => (intro W hW; (try dsimp only at hW); go_simp; try with_reducible rfl)
      (try simp only [Act.put, List.setIfInBounds_toArray, List.set_cons_zero, List.set_cons_succ])
      refine wpAnyH_done (by kernel_rfl) ?_ _
      clear hH
      have SPC := spoil_any base (.slice (some ⟨go, 0, none⟩) (fillL DD).length ((fillL DD).length + 8)) (fillL DD) v3 (own_lent (HG2.out.below HB3.out HG2.out.lt) HGO.out.2.2 (HA9.out.len).2.2) (HA9.out.len).2.2
      rw [fillL_length] at SPC
      clear hS0 hS1 hS2 hS3
      go_wp2_with fail
      refine SPC.mono ?_
      clear SPC
      rintro e w10 ⟨rfl, hgr⟩
      have HGR : Hid (Fr (fun k => k = go) v3 w10) := ⟨hgr.size, fun k hk hn => hgr.block k hk (fun e => hn (Option.some.inj e)), hgr.os, hgr.tape, hgr.output⟩
      clear hgr
      go_wp2
      go_ret
      obtain ⟨y1, y2, y3, y4, y5, y6, y7, y8, y9, y10, hDR, hoff⟩ := HX2.out
      have ho := hoff go HGO.out.2.1 (fun c => by rcases c with c | c; exact HGO.out.1.1 c; exact HGO.out.1.2 c)
      have hD3 := hDR.up HB3.out
      exact ⟨rfl, y1, y2, y3, y4, y5, y6, y7, y8, y9, y10, hD3.keep HGR.out (HGR.out.below hD3.bs fun k hk => hk ▸ HGO.out.2.2) (fun k hk e => ho.1 (e ▸ hk)) (fun k hk e => ho.2 (e ▸ hk))⟩
  · by_cases h7 : K = 7
    · subst h7
      have HDISA : Hid (∀ b o, DP = some ⟨b, o, none⟩ → DD ≠ [] → ¬ Dk p q n vs b ∧ ¬ Rk r gb n va b) := HIN.out.dis HA.out
      have LT := lent_any DP DC (DD) wA HARG.out
      go_wp2_with fail
      refine LT.mono ?_
      clear LT
      rintro e w9 ⟨go, rfl, hgo, hgol, hb9⟩
      have H9 : Hid (DR base κ w0 w9.drew p n en lf sf ws q vs r gb cb va vc) := (HA.out.up hb9).up ((Below.refl _ _).drew)
      have HG9 : Hid (Blk w9.drew go 5 (DD ++ a5)) := hgo
      have HA9 : Hid (Arg w9.drew DP DC (DD)) := (HARG.out.below hb9 (Nat.le_refl _)).below ((Below.refl _ _).drew) (Nat.le_refl _)
      have HR9 : Hid (w9.drew.heap[pa]? = wA.heap[pa]?) := hb9.block pa (Array.getElem?_eq_some_iff.1 HRA.out).1
      have HGO : Hid ((¬ Dk p q n vs go ∧ ¬ Rk r gb n va go) ∧ go < w9.drew.heap.size ∧ base ≤ go) := ⟨HA.out.off (.inr hgol), hgo.lt, by have := HA.out.bs; omega⟩
      have HPL : Hid (pa < w9.drew.heap.size) := by have h1 := (Array.getElem?_eq_some_iff.1 HRA.out).1; have h2 := hb9.size; show pa < w9.heap.size; omega
      have hS0 : w9.drew.cell? ⟨pa, 1, none⟩ = some (.int .i64 N) := by rw [cell_of_row w9.drew pa 1 _ _ _ (HR9.out.trans HRA.out)]; rfl
      have BW := both_write H9.out (by omega) N hNb (DD) go (DD.length + 8) (by have := HG9.out.src.pre (DD).length; rw [List.take_left' rfl] at this; exact this) HGO.out.1.1 DP DC HA9.out.src HDISA.out
      clear hgo hgol hb9 a0 a1 a2 a3
      go_upto_region 11 with fail
      refine wp_region_held_drew (S := (fun W => W.cell? ⟨pa, 1, none⟩ = some (.int .i64 N))) (by kernel_rfl) hS0 (fun hH => ?_)
      refine takeH (i := 0) (dst := some 28) (v := ?v57) rfl rfl (by kernel_rfl) (by kernel_rfl) (by kernel_rfl) (fun _ _ _ h => h) rfl ?hy57 hH rfl ?rest57
      case hy57 => (intro W hW; (try dsimp only at hW); go_simp; try with_reducible rfl)
      (try simp only [Act.put, List.setIfInBounds_toArray, List.set_cons_zero, List.set_cons_succ])
      refine takeH (i := 1) (dst := some 29) (v := ?v58) rfl rfl (by kernel_rfl) (by kernel_rfl) (by kernel_rfl) (fun _ _ _ h => h) rfl ?hy58 hH rfl ?rest58
      case hy58 => (intro W hW; (try dsimp only at hW); go_simp; try with_reducible rfl)
      (try simp only [Act.put, List.setIfInBounds_toArray, List.set_cons_zero, List.set_cons_succ])
      refine takeH (i := 2) (dst := some 30) (v := ?v59) rfl rfl (by kernel_rfl) (by kernel_rfl) (by kernel_rfl) (fun _ _ _ h => h) rfl ?hy59 hH rfl ?rest59
      case hy59 => (intro W hW; (try dsimp only at hW); go_simp; try with_reducible rfl)
      (try simp only [Act.put, List.setIfInBounds_toArray, List.set_cons_zero, List.set_cons_succ])
      refine takeH (i := 3) (dst := some 31) (v := ?v60) rfl rfl (by kernel_rfl) (by kernel_rfl) (by kernel_rfl) (fun _ _ _ h => h) rfl ?hy60 hH rfl ?rest60
      case hy60 => (intro W hW; (try dsimp only at hW); go_simp; try with_reducible rfl)
      (try simp only [Act.put, List.setIfInBounds_toArray, List.set_cons_zero, List.set_cons_succ])
      refine takeH (i := 5) (dst := some 33) (v := ?v61) rfl rfl (by kernel_rfl) (by kernel_rfl) (by kernel_rfl) (fun _ _ _ h => h) rfl ?hy61 hH rfl ?rest61
      case hy61 => (intro W hW; (try dsimp only at hW); go_simp; try with_reducible rfl)
      (try simp only [Act.put, List.setIfInBounds_toArray, List.set_cons_zero, List.set_cons_succ])
      refine takeH (i := 6) (dst := some 34) (v := ?v62) rfl rfl (by kernel_rfl) (by kernel_rfl) (by kernel_rfl) (fun _ _ _ h => h) rfl ?hy62 hH rfl ?rest62
      case hy62 => (intro W hW; (try dsimp only at hW); go_simp; try with_reducible rfl)
      (try simp only [Act.put, List.setIfInBounds_toArray, List.set_cons_zero, List.set_cons_succ])
      refine takeH (i := 7) (dst := some 35) (v := ?v63) rfl rfl (by kernel_rfl) (by kernel_rfl) (by kernel_rfl) (fun _ _ _ h => h) rfl ?hy63 hH rfl ?rest63
      case hy63 => (intro W hW; (try dsimp only at hW); go_simp; try with_reducible rfl)
      (try simp only [Act.put, List.setIfInBounds_toArray, List.set_cons_zero, List.set_cons_succ])
      refine takeH (i := 8) (dst := some 36) (v := ?v64) rfl rfl (by kernel_rfl) (by kernel_rfl) (by kernel_rfl) (fun _ _ _ h => h) rfl ?hy64 hH rfl ?rest64
      case hy64 => (intro W hW; (try dsimp only at hW); go_simp; try with_reducible rfl)
      (try simp only [Act.put, List.setIfInBounds_toArray, List.set_cons_zero, List.set_cons_succ])
      refine callH (i := 4) { dst := some 32, op := Go.Op.call { callee := Go.Callee.value (Go.Operand.func 11), args := #[Go.Operand.tmp 28, Go.Operand.tmp 30, Go.Operand.tmp 31], argTypes := #[24, 3, 31] }, type := 25, pos := "law.go:43", after := #[{ on := 0, ground := Go.Ground.data }, { on := 2, ground := Go.Ground.data }, { on := 3, ground := Go.Ground.data }], guard := none } (by kernel_rfl) rfl rfl (fun K hK => ?_)
      go_simp
      refine BW.mono ?_
      rintro e v1 ⟨er, rfl, hf1, RW⟩
      have hS1 : v1.cell? ⟨pa, 1, none⟩ = some (.int .i64 N) := (fr_cell hf1 (a := ⟨pa, 1, none⟩) HPL.out HPA.out.1).trans hS0
      have HF1 : Hid _ := hf1
      clear BW hf1
      clear hH
      refine hK.out _ _ hS1 (fun hH => ?_)
      clear hK K
      (try simp only [Act.put, List.setIfInBounds_toArray, List.set_cons_zero, List.set_cons_succ])
      refine callH (i := 9) { dst := some 37, op := Go.Op.call { callee := Go.Callee.value (Go.Operand.func 37), args := #[Go.Operand.tmp 33, Go.Operand.tmp 35, Go.Operand.tmp 36], argTypes := #[28, 3, 31] }, type := 25, pos := "law.go:43", after := #[{ on := 5, ground := Go.Ground.data }, { on := 7, ground := Go.Ground.data }, { on := 8, ground := Go.Ground.data }, { on := 4, ground := Go.Ground.chain }], guard := none } (by kernel_rfl) rfl rfl (fun K hK => ?_)
      go_simp
      refine RW.mono ?_
      rintro e v2 ⟨rfl, hf2, hX⟩
      have hpl1 : pa < v1.heap.size := by have := HF1.out.size; have := HPL.out; omega
      have hS2 : v2.cell? ⟨pa, 1, none⟩ = some (.int .i64 N) := (fr_cell hf2 (a := ⟨pa, 1, none⟩) hpl1 HPA.out.2).trans hS1
      have HX2 : Hid _ := hX
      have HG2 : Hid (Blk v2 go 5 (DD ++ a5)) := blk_fr (blk_fr HG9.out HF1.out HGO.out.1.1) hf2 HGO.out.1.2
      have KP := kept_any go DP DC (DD) v2 HG2.out (arg_fr (arg_fr HA9.out HF1.out fun b o e hne => (HDISA.out b o e hne).1) hf2 fun b o e hne => (HDISA.out b o e hne).2)
      clear RW hX hf2 hpl1
      clear hH
      refine hK.out _ _ hS2 (fun hH => ?_)
      clear hK K
      (try simp only [Act.put, List.setIfInBounds_toArray, List.set_cons_zero, List.set_cons_succ])
      refine takeH (i := 10) (dst := some 38) (v := ?v65) rfl rfl (by kernel_rfl) (by kernel_rfl) (by kernel_rfl) (fun _ _ _ h => h) rfl ?hy65 hH rfl ?rest65
      case hy65 => (intro W hW; (try dsimp only at hW); go_simp; try with_reducible rfl)
      (try simp only [Act.put, List.setIfInBounds_toArray, List.set_cons_zero, List.set_cons_succ])
      refine takeH (i := 11) (dst := some 39) (v := ?v66) rfl rfl (by kernel_rfl) (by kernel_rfl) (by kernel_rfl) (fun _ _ _ h => h) rfl ?hy66 hH rfl ?rest66
      case hy66 => (intro W hW; (try dsimp only at hW); go_simp; try with_reducible rfl)
      (try simp only [Act.put, List.setIfInBounds_toArray, List.set_cons_zero, List.set_cons_succ])
      refine takeH (i := 12) (dst := some 40) (v := ?v67) rfl rfl (by kernel_rfl) (by kernel_rfl) (by kernel_rfl) (fun _ _ _ h => h) rfl ?hy67 hH rfl ?rest67
      case hy67 => (intro W hW; (try dsimp only at hW); go_simp; try with_reducible rfl)
      (try simp only [Act.put, List.setIfInBounds_toArray, List.set_cons_zero, List.set_cons_succ])
      refine takeH (i := 13) (dst := some 41) (v := ?v68) rfl rfl (by kernel_rfl) (by kernel_rfl) (by kernel_rfl) (fun _ _ _ h => h) rfl ?hy68 hH rfl ?rest68
      case hy68 => (intro W hW; (try dsimp only at hW); go_simp; try with_reducible rfl)
      (try simp only [Act.put, List.setIfInBounds_toArray, List.set_cons_zero, List.set_cons_succ])
      refine callH (i := 14) { dst := some 42, op := Go.Op.call { callee := Go.Callee.value (Go.Operand.func 22), args := #[Go.Operand.tmp 40, Go.Operand.tmp 41], argTypes := #[31, 31] }, type := 4, pos := "law.go:43", after := #[{ on := 12, ground := Go.Ground.data }, { on := 13, ground := Go.Ground.data }, { on := 11, ground := Go.Ground.chain }, { on := 11, ground := Go.Ground.guard }], guard := some (11, true) } (by kernel_rfl) rfl rfl (fun K hK => ?_)
      go_simp
      refine KP.mono ?_
      rintro e v3 ⟨rfl, hb3⟩
      have hS3 : v3.cell? ⟨pa, 1, none⟩ = some (.int .i64 N) := (hb3.cell (p := ⟨pa, 1, none⟩) (block_lt_of_cell hS2)).trans hS2
      have HB3 : Hid _ := hb3
      clear KP hb3
      clear hH
      refine hK.out _ _ hS3 (fun hH => ?_)
      clear hK K
      (try simp only [Act.put, List.setIfInBounds_toArray, List.set_cons_zero, List.set_cons_succ])
      refine takeH (i := 15) (dst := some 43) (v := ?v69) rfl rfl (by kernel_rfl) (by kernel_rfl) (by kernel_rfl) (fun _ _ _ h => h) rfl ?hy69 hH rfl ?rest69
      case hy69 => (intro W hW; (try dsimp only at hW); go_simp; try with_reducible rfl)
      (try simp only [Act.put, List.setIfInBounds_toArray, List.set_cons_zero, List.set_cons_succ])
      refine takeH (i := 16) (dst := some 9) (v := ?v70) rfl rfl (by kernel_rfl) (by kernel_rfl) (by kernel_rfl) (fun _ _ _ h => h) rfl ?hy70 hH rfl ?rest70
      case hy70 => (intro W hW; (try dsimp only at hW); go_simp; try with_reducible rfl)
      (try simp only [Act.put, List.setIfInBounds_toArray, List.set_cons_zero, List.set_cons_succ])
      refine wpAnyH_done (by kernel_rfl) ?_ _
      clear hH
      have SPC := spoil_any base (.slice (some ⟨go, 0, none⟩) (DD).length ((DD).length + 8)) (DD) v3 (own_lent (HG2.out.below HB3.out HG2.out.lt) HGO.out.2.2 (HA9.out.len).2.2) (HA9.out.len).2.2
      clear hS0 hS1 hS2 hS3
      go_wp2_with fail
      refine SPC.mono ?_
      clear SPC
      rintro e w10 ⟨rfl, hgr⟩
      have HGR : Hid (Fr (fun k => k = go) v3 w10) := ⟨hgr.size, fun k hk hn => hgr.block k hk (fun e => hn (Option.some.inj e)), hgr.os, hgr.tape, hgr.output⟩
      clear hgr
      go_wp2
      go_ret
      obtain ⟨y1, y2, y3, y4, y5, y6, y7, y8, y9, y10, hDR, hoff⟩ := HX2.out
      have ho := hoff go HGO.out.2.1 (fun c => by rcases c with c | c; exact HGO.out.1.1 c; exact HGO.out.1.2 c)
      have hD3 := hDR.up HB3.out
      exact ⟨rfl, y1, y2, y3, y4, y5, y6, y7, y8, y9, y10, hD3.keep HGR.out (HGR.out.below hD3.bs fun k hk => hk ▸ HGO.out.2.2) (fun k hk e => ho.1 (e ▸ hk)) (fun k hk e => ho.2 (e ▸ hk))⟩
    · have z0 : (K == 0) = false := beq_eq_false_iff_ne.2 (by omega)
      have z1 : (K == 1) = false := beq_eq_false_iff_ne.2 (by omega)
      have z2 : (K == 2) = false := beq_eq_false_iff_ne.2 (by omega)
      have z3 : (K == 3) = false := beq_eq_false_iff_ne.2 (by omega)
      have z7 : (K == 7) = false := beq_eq_false_iff_ne.2 (by omega)
      clear hW h7
      by_cases h4 : K = 4
      · subst h4
        clear z0 z1 z2 z3 z7 a1 a3
        have FB := both_flush HA.out
        go_wp2_with fail
        refine FB.mono ?_
        clear FB
        rintro e w7 ⟨rfl, RB⟩
        go_wp2_with fail
        refine RB.mono ?_
        clear RB
        rintro e w8 ⟨rfl, hX⟩
        have HX : Hid _ := hX
        clear hX
        go_wp2
        go_ret
        obtain ⟨y1, y2, y3, y4, y5, y6, y7, y8, y9, y10, hDR⟩ := HX.out
        exact ⟨rfl, y1, y2, y3, y4, y5, y6, y7, y8, y9, y10, hDR.more (Nat.le_succ _)⟩
      · have z4 : (K == 4) = false := beq_eq_false_iff_ne.2 h4
        by_cases h5 : K = 5
        · subst h5
          clear z0 z1 z2 z3 z7 z4 a1
          have CB := both_crash HA.out QP QM QC Z HIN.out.qm HPK.out
          go_wp2_with fail
          refine CB.mono ?_
          clear CB
          rintro e w7 ⟨rfl, hb7, RB⟩
          have b3 : w7.cell? ⟨pa, 3, none⟩ = some (.slice QP QM QC) := (fr_cell hb7 (a := ⟨pa, 3, none⟩) (Array.getElem?_eq_some_iff.1 HRA.out).1 HPA.out.1).trans a3
          clear hb7
          go_wp2_with fail
          refine RB.mono ?_
          clear RB
          rintro e w8 ⟨rfl, hX⟩
          have HX : Hid _ := hX
          clear hX
          go_wp2
          go_ret
          obtain ⟨y1, y2, y3, y4, y5, y6, y7, y8, y9, y10, hDR⟩ := HX.out
          exact ⟨rfl, y1, y2, y3, y4, y5, y6, y7, y8, y9, y10, hDR.more (Nat.le_succ _)⟩
        · have z5 : (K == 5) = false := beq_eq_false_iff_ne.2 h5
          by_cases h8 : K = 8
          · subst h8
            clear z0 z1 z2 z3 z7 z4 z5 a3
            have SB := both_stop HA.out N hNb.2
            go_wp2_with fail
            refine SB.mono ?_
            clear SB
            rintro e w7 ⟨rfl, hf7, RB⟩
            have b1 : w7.cell? ⟨pa, 1, none⟩ = some (.int .i64 N) := (fr_cell hf7 (a := ⟨pa, 1, none⟩) (Array.getElem?_eq_some_iff.1 HRA.out).1 HPA.out.1).trans a1
            clear hf7
            go_wp2_with fail
            refine RB.mono ?_
            clear RB
            rintro e w8 ⟨rfl, _, hX⟩
            have HX : Hid _ := hX
            clear hX
            go_wp2
            go_ret
            obtain ⟨y1, y2, y3, y4, y5, y6, y7, y8, y9, y10, hDR⟩ := HX.out
            exact ⟨rfl, y1, y2, y3, y4, y5, y6, y7, y8, y9, y10, hDR.more (Nat.le_succ _)⟩
          · have z8 : (K == 8) = false := beq_eq_false_iff_ne.2 h8
            go_wp2
            go_ret
            exact ⟨rfl, en, lf, sf, ws, q, vs, gb, cb, va, vc, HA.out.more (Nat.le_succ _)⟩
end
end Go.Proofs.Ytcmkgcdjjplgdaa
