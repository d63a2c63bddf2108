/- dirent.read. -/
import Derived.Test.YtabmogeicpphoaaElay
namespace Go.Proofs.Ytabmogeicpphoaa
open Go.RowKit
/-- What the bytes say. -/
def rdL (l : List UInt8) : Nat := min (l.getD 3 0).toNat 24
def rdE (l : List UInt8) : Ent := ⟨(rdP l 0 2 : Int), nth l 2 == 1, (l.drop 4).take (rdL l)⟩
theorem rdL_le (l : List UInt8) : rdL l ≤ 24 := by unfold rdL; omega
theorem rdE_len {l : List UInt8} (hl : l.length = 32) : (rdE l).nm.length = rdL l := by
  have := rdL_le l
  simp [rdE, hl]; omega
theorem exec_build_ent {ev : Operand → Value} {oi : Oper} {w : World} {x0 x1 x2 : Operand} {a : Int} {b : Bool} {s : List UInt8} (ho : oi.op = .build 48 #[(0, x0), (1, x1), (2, x2)])
    (e0 : ev x0 = .int .i64 a) (e1 : ev x1 = .bool b) (e2 : ev x2 = .string (str s)) :
    (execOp ev oi).run Try.prog w = .ok (.value (.agg (eA ⟨a, b, s⟩))) w := by
  have h : (Instr.build 48 #[(0, .int .i64 a), (1, .bool b), (2, .string (str s))]).run Try.prog w = .ok (.agg (eA ⟨a, b, s⟩)) w := run_build w 48 _ _ (by kernel_rfl)
  unfold execOp
  simp only [ho, List.map_toArray, List.map_cons, List.map_nil, e0, e1, e2, Sem.run_bind, h, Result.andThen_ok]
  rfl
/-- The bytes. -/
structure ER (w0 : World) (bb off : Nat) (l : List UInt8) (W : World) : Prop where
  b : Below w0.heap.size w0 W
  src : Src W (some ⟨bb, off, none⟩) l
  hl : l.length = 32
  lt : bb < w0.heap.size
section
variable {w0 W W' : World} {bb off q : Nat} {l : List UInt8}
theorem ER.up (h : ER w0 bb off l W) (hb : Below W.heap.size W W') : ER w0 bb off l W' := ⟨h.b.trans (hb.mono h.b.size), h.src.below hb (Nat.le_refl _), h.hl, h.lt⟩
theorem ER.only (h : ER w0 bb off l W) (ho : Only q W W') (hq : w0.heap.size ≤ q) : ER w0 bb off l W' :=
  ⟨h.b.trans (ho.bel.mono hq), h.src.only ho (fun b o e => by cases e; have := h.lt; omega), h.hl, h.lt⟩
theorem ER.c (h : ER w0 bb off l W) (k : Nat) (hk : k < 32) : W.cell? ⟨bb, off + k, none⟩ = some (.int .u8 (nth l k)) := by
  have := h.src.cell k (by have := h.hl; omega)
  rw [bv_nth (by have := h.hl; omega)] at this
  exact this
end
/-- The first bytes of a slice. -/
theorem slice_to (bb off len cap n : Nat) (a : Int) (ha : a = (n : Int)) (h : n ≤ cap) (h0 : 0 < cap) (w : World) :
    (Instr.slice 25 (.slice (some ⟨bb, off, none⟩) len cap) none (some (.int .i64 a)) none).run Try.prog w = .ok (.slice (some ⟨bb, off, none⟩) n cap) w := by
  subst ha
  have he : Try.prog.elem 25 = 5 := by kernel_rfl
  rw [run_slice_h w 25 _ _ _ (by kernel_rfl) .i64 _ (by omega) (by omega), he, size5]
  simp only [Result.andThen_ok, sliced, Int.toNat_natCast]
  simp [show ¬ cap = 0 by omega, addr_add]
attribute [local go_sem] wrapI
set_option maxRecDepth 100000 in
set_option maxHeartbeats 4000000 in
theorem eread_any (bb off cap : Nat) (l : List UInt8) (hl : l.length = 32) (w : World) (hsrc : Src w (some ⟨bb, off, none⟩) l) (hc : (32 : Int) ≤ cap) (hm : (cap : Int) ≤ 9223372036854775807) :
    Calls Try.prog 64 #[.slice (some ⟨bb, off, none⟩) 32 cap] w fun r w' => r = .returned (.agg (eA (rdE l))) ∧ Below w.heap.size w w' := by
  have hz := zeroE
  have hbb : bb < w.heap.size := by
    obtain ⟨b', off', h1, h2, _⟩ := hsrc.at' (by omega)
    cases h1; exact h2
  have hb0 : Below w.heap.size w (w.alloc (.cells (eA zent) 48)) := (Below.refl _ _).alloc (Nat.le_refl _) _
  have HE0 : Hid (ER w bb off l (w.alloc (.cells (eA zent) 48))) := ⟨hb0, hsrc.below hb0 (Nat.le_refl _), hl, hbb⟩
  have HR0 : Hid (EntAt (w.alloc (.cells (eA zent) 48)) w.heap.size zent) := ent_new w zent
  have NG : ∀ W, Src W (some ⟨bb, off, none⟩) l → Calls Try.prog 71 #[.slice (some ⟨bb, off, none⟩) 2 cap] W fun e w' => e = .returned (.int .u64 (rdP l 0 2 : Int)) ∧ Below W.heap.size W w' := by
    intro W hW
    have h := nget_any (some ⟨bb, off + 0, none⟩) ((l.drop 0).take 2) cap W (hW.part 0 2 (by omega) (by omega))
    rw [show ((l.drop 0).take 2).length = 2 by simp [hl]] at h
    exact h
  have hs2 := slice_to bb off 32 cap 2 2 rfl (by omega) (by omega)
  have n3 : nth l 3 = ((l.getD 3 0).toNat : Int) := rfl
  have HRD : Hid (rdE l = ⟨(rdP l 0 2 : Int), nth l 2 == 1, (l.drop 4).take (rdL l)⟩) := rfl
  have x0 := rdP_lt (l := l) (o := 0) (n := 2) hl (by omega) (by omega)
  have hL := rdL_le l
  have HLn : Hid (rdL l = min (l.getD 3 0).toNat 24) := rfl
  generalize rdP l 0 2 = A0 at *
  obtain ⟨LN, HLN⟩ : ∃ x, Hid (x = rdL l) := ⟨_, rfl⟩
  rw [← HLN.out] at HRD hL HLn
  have hs4 := slice_sl bb off 32 cap 4 LN 4 (4 + (LN : Int)) (by omega) (by omega) (by omega) (by omega)
  have HSP : Hid (∀ W, Src W (some ⟨bb, off, none⟩) l → (convert 25 9 (.slice (some ⟨bb, off + 4, none⟩) LN (cap - 4))).run Try.prog W = .ok (.string (str ((l.drop 4).take LN))) W) := by
    intro W hW
    by_cases h0 : LN = 0
    · subst h0
      have := conv_str (w := W) (sp := some ⟨bb, off + 4, none⟩) (l := []) (Src.nil _ _) 0 (cap - 4) rfl
      simpa using this
    · exact conv_str (hW.part 4 LN (by omega) (by omega)) LN (cap - 4) (by simp [hl]; omega)
  have i0 : In64 (A0 : Int) := ⟨by omega⟩
  have i4 : In64 (4 + (LN : Int)) := ⟨by omega⟩
  have z0 := nth_lo l 3
  have z1 := nth_hi l 3
  have i3 : In64 (nth l 3) := ⟨by omega⟩
  have HIF : Hid ((if 24 < nth l 3 then (24 : Int) else nth l 3) = (LN : Int)) := by
    show _ = _
    rw [n3, HLn.out]
    split <;> omega
  have c3 := HE0.out.c 3 (by omega)
  clear hb0 hsrc hl n3
  go_enter Try.func64, Try.ntmps64
  go_upto_region 2 with fail
  rw [HIF.out]
  clear c3 HIF
  have gd := HE0.out.up (Below.refl _ _).drew
  have gz := HR0.out.drew
  clear HE0 HR0
  refine wp_region_held_drew (S := (fun W => ER w bb off l W)) (by kernel_rfl) gd (fun hH => ?_)
  refine takeH (i := 0) (dst := some 9) (v := ?v1) rfl rfl (by kernel_rfl) (by kernel_rfl) (by kernel_rfl) (fun _ _ _ h => h) rfl ?hy1 hH rfl ?rest1
  case hy1 => (intro W hW; have s2 := hW.c 2 (by omega); clear hW; go_simp; try with_reducible rfl)
  (try simp only [Act.put, List.setIfInBounds_toArray, List.set_cons_zero, List.set_cons_succ])
  refine takeH (i := 1) (dst := some 10) (v := ?v2) rfl rfl (by kernel_rfl) (by kernel_rfl) (by kernel_rfl) (fun _ _ _ h => h) rfl ?hy2 hH rfl ?rest2
  case hy2 => (intro W hW; have s2 := hW.c 2 (by omega); clear hW; go_simp; try with_reducible rfl)
  (try simp only [Act.put, List.setIfInBounds_toArray, List.set_cons_zero, List.set_cons_succ])
  refine takeH (i := 4) (dst := some 13) (v := ?v3) rfl rfl (by kernel_rfl) (by kernel_rfl) (by kernel_rfl) (fun _ _ _ h => h) rfl ?hy3 hH rfl ?rest3
  case hy3 => (intro W hW; have s2 := hW.c 2 (by omega); clear hW; go_simp; try with_reducible rfl)
  (try simp only [Act.put, List.setIfInBounds_toArray, List.set_cons_zero, List.set_cons_succ])
  refine takeH (i := 5) (dst := some 14) (v := ?v4) rfl rfl (by kernel_rfl) (by kernel_rfl) (by kernel_rfl) (fun _ _ _ h => h) rfl ?hy4 hH rfl ?rest4
  case hy4 => (intro W hW; have s2 := hW.c 2 (by omega); clear hW; go_simp; try with_reducible rfl)
  (try simp only [Act.put, List.setIfInBounds_toArray, List.set_cons_zero, List.set_cons_succ])
  refine takeH (i := 6) (dst := some 15) (v := ?v5) rfl rfl (by kernel_rfl) (by kernel_rfl) (by kernel_rfl) (fun _ _ _ h => h) rfl ?hy5 hH rfl ?rest5
  case hy5 => (intro W hW; have s2 := hW.c 2 (by omega); clear hW; go_simp; try with_reducible rfl)
  (try simp only [Act.put, List.setIfInBounds_toArray, List.set_cons_zero, List.set_cons_succ])
  refine takeH (i := 7) (dst := some 16) (v := ?v6) rfl rfl (by kernel_rfl) (by kernel_rfl) (by kernel_rfl) (fun _ _ _ h => h) rfl ?hy6 hH rfl ?rest6
  case hy6 => (intro W hW; have s2 := hW.c 2 (by omega); clear hW; go_simp; try with_reducible rfl)
  (try simp only [Act.put, List.setIfInBounds_toArray, List.set_cons_zero, List.set_cons_succ])
  refine takeH (i := 8) (dst := some 17) (v := ?v7) rfl rfl (by kernel_rfl) (by kernel_rfl) (by kernel_rfl) (fun _ _ _ h => h) rfl ?hy7 hH rfl ?rest7
  case hy7 => (intro W hW; have s2 := hW.c 2 (by omega); clear hW; go_simp; try with_reducible rfl)
  (try simp only [Act.put, List.setIfInBounds_toArray, List.set_cons_zero, List.set_cons_succ])
  refine takeH (i := 9) (dst := some 18) (v := ?v8) rfl rfl (by kernel_rfl) (by kernel_rfl) (by kernel_rfl) (fun _ _ _ h => h) rfl ?hy8 hH rfl ?rest8
  case hy8 => (intro W hW; have s2 := hW.c 2 (by omega); clear hW; go_simp; try with_reducible rfl)
  (try simp only [Act.put, List.setIfInBounds_toArray, List.set_cons_zero, List.set_cons_succ])
  refine takeH (i := 10) (dst := some 19) (v := ?v9) rfl rfl (by kernel_rfl) (by kernel_rfl) (by kernel_rfl) (fun _ _ _ h => h) rfl ?hy9 hH rfl ?rest9
  case hy9 => (intro W hW; have s2 := hW.c 2 (by omega); clear hW; go_simp; try with_reducible rfl)
  (try simp only [Act.put, List.setIfInBounds_toArray, List.set_cons_zero, List.set_cons_succ])
  refine takeH (i := 11) (dst := some 20) (v := ?v10) rfl rfl (by kernel_rfl) (by kernel_rfl) (by kernel_rfl) (fun _ _ _ h => h) rfl ?hy10 hH rfl ?rest10
  case hy10 => (intro W hW; have s2 := hW.c 2 (by omega); clear hW; go_simp; try with_reducible rfl)
  (try simp only [Act.put, List.setIfInBounds_toArray, List.set_cons_zero, List.set_cons_succ])
  refine takeH (i := 12) (dst := some 21) (v := ?v11) rfl rfl (by kernel_rfl) (by kernel_rfl) (by kernel_rfl) (fun _ _ _ h => h) rfl ?hy11 hH rfl ?rest11
  case hy11 => (intro W hW; have kx := HSP.out _ hW.src; clear hW; go_simp; try with_reducible rfl)
  (try simp only [Act.put, List.setIfInBounds_toArray, List.set_cons_zero, List.set_cons_succ])
  refine callH (i := 2) { dst := some 11, op := Go.Op.call { callee := Go.Callee.value (Go.Operand.func 71), args := #[Go.Operand.tmp 10], argTypes := #[25] }, type := 67, pos := "dirent.go:79", after := #[{ on := 1, ground := Go.Ground.data }], guard := none } (by kernel_rfl) rfl rfl (fun K hK => ?_)
  go_simp
  refine (NG _ gd.src).mono ?_
  rintro r v1 ⟨rfl, k1⟩
  have m1 := gd.up k1
  have r1 := gz.up k1
  clear k1
  clear hH
  refine hK.out _ _ m1 (fun hH => ?_)
  clear hK K
  (try simp only [Act.put, List.setIfInBounds_toArray, List.set_cons_zero, List.set_cons_succ])
  refine takeH (i := 3) (dst := some 12) (v := ?v12) rfl rfl (by kernel_rfl) (by kernel_rfl) (by kernel_rfl) (fun _ _ _ h => h) rfl ?hy12 hH rfl ?rest12
  case hy12 => (intro W hW; have s2 := hW.c 2 (by omega); clear hW; go_simp; try with_reducible rfl)
  (try simp only [Act.put, List.setIfInBounds_toArray, List.set_cons_zero, List.set_cons_succ])
  refine takeH (i := 13) (dst := some 22) (v := ?v13) rfl rfl (by kernel_rfl) (by kernel_rfl) (by kernel_rfl) (fun _ _ _ h => h) rfl ?hy13 hH rfl ?rest13
  case hy13 => (intro W hW; refine exec_build_ent (a := A0) (b := nth l 2 == 1) (s := (l.drop 4).take LN) (x0 := Operand.tmp 12) (x1 := Operand.tmp 16) (x2 := Operand.tmp 21) ?_ ?_ ?_ ?_ <;> rfl)
  (try simp only [Act.put, List.setIfInBounds_toArray, List.set_cons_zero, List.set_cons_succ])
  refine callH (i := 14) { dst := none, op := Go.Op.store 48 (Go.Operand.tmp 2) (Go.Operand.tmp 22), type := 0, pos := "dirent.go:78", after := #[{ on := 13, ground := Go.Ground.data }, { on := 2, ground := Go.Ground.chain }, { on := 0, ground := Go.Ground.phase }, { on := 1, ground := Go.Ground.phase }, { on := 2, ground := Go.Ground.phase }, { on := 3, ground := Go.Ground.phase }, { on := 4, ground := Go.Ground.phase }, { on := 5, ground := Go.Ground.phase }, { on := 6, ground := Go.Ground.phase }, { on := 7, ground := Go.Ground.phase }, { on := 8, ground := Go.Ground.phase }, { on := 9, ground := Go.Ground.phase }, { on := 10, ground := Go.Ground.phase }, { on := 11, ground := Go.Ground.phase }, { on := 12, ground := Go.Ground.phase }, { on := 13, ground := Go.Ground.phase }], guard := none } (by kernel_rfl) rfl rfl (fun K hK => ?_)
  rw [if_pos (by rfl)]
  refine wp_store_entO _ _ rfl r1 rfl rfl ?_
  intro w9 h9 b9 z9
  have m9 := m1.only b9 (Nat.le_refl _)
  clear hH
  refine hK.out _ _ m9 (fun hH => ?_)
  clear hK K
  (try simp only [Act.put])
  refine wpAnyH_done (by kernel_rfl) ?_ _
  clear hH
  go_wp2_with fail
  rw [HRD.out]
  exact bodyPost_ret (results_cell_row rfl _ _ w.heap.size 48 _ (0, 0) _ rfl h9.row Try.underlying48 rfl (by rw [Try.sz48, eA_size])) rfl ⟨rfl, m9.b⟩
end Go.Proofs.Ytabmogeicpphoaa
