/- inode.lay. -/
import Derived.Test.YtabmogeicpphoaaKIlay
import Derived.Deep.DeepCutAuto
namespace Go.Proofs.Ytabmogeicpphoaa
open Go.RowKit
theorem zero64 : ∃ Z : Array Value, (∀ w, (zeroValue 64).run Try.prog w = .ok (.agg Z) w) ∧ Z.size = 64 ∧ Hid (Z = (bvs z64).toArray) := by
  have h : (Try.prog.info? 64).map (fun i => i.zero) = some (some (.agg (bvs z64).toArray)) := by kernel_rfl
  cases hi : Try.prog.info? 64 with
  | none => rw [hi] at h; cases h
  | some i =>
    rw [hi] at h
    have hz : i.zero = some (.agg (bvs z64).toArray) := Option.some.inj h
    have key : ∀ (v : Value) (w : World), i.zero = some v → (zeroValue 64).run Try.prog w = .ok v w := by
      intro v w hv
      simp [zeroValue, typeInfo, hi, hv]
    exact ⟨_, fun w => key _ w hz, by rw [List.size_toArray, bvs_length, z64_length], rfl⟩
theorem Try.sz64 : (Try.prog.info? 64).map (·.size) = some 64 := by kernel_rfl
theorem wpList_load_64 {ops : Array Oper} {rest : List Oper} {op : Oper} {a : Act} {w : World} {Q : Exit → Act → World → Prop} (hgd : op.guard = none) (x : Operand) (ho : op.op = .load 64 x)
    {G : Nat} {t : TypeId} {s : List UInt8} (H : Blk w G t s) (hs : s.length = 64) (hx : a.eval x = .pointer (some ⟨G, 0, none⟩))
    (h : wpList Try.prog ops Q rest (a.put op.dst (.agg (bvs s).toArray)) w) : wpList Try.prog ops Q (op :: rest) a w :=
  wpList_load_mid hgd 64 x ho G 0 hx (bvs s) _ (fun j v hv => by
    rw [Nat.zero_add, cell_of_row w G j _ _ _ H]; simpa using hv) Try.underlying64 rfl (by rw [Try.sz64, bvs_length, hs]) h
theorem wpList_store_64 {ops : Array Oper} {rest : List Oper} {op : Oper} {a : Act} {w : World} {Q : Exit → Act → World → Prop} (hgd : op.guard = none) (x y : Operand) (ho : op.op = .store 64 x y)
    {G : Nat} {Z : Array Value} {s : List UInt8} (H : w.heap[G]? = some (.cells Z 64 (0, 0))) (hZ : Z.size = 64) (hs : s.length = 64) (hx : a.eval x = .pointer (some ⟨G, 0, none⟩)) (hy : a.eval y = .agg (bvs s).toArray)
    (h : ∀ w', Blk w' G 64 s → Below G w w' → w'.heap.size = w.heap.size → wpList Try.prog ops Q rest (a.put op.dst undef) w') : wpList Try.prog ops Q (op :: rest) a w := by
  refine wpList_plain hgd fun K hK => ?_
  have hsz : (bvs s).toArray.size = 64 := by rw [List.size_toArray, bvs_length, hs]
  have hrun := run_storeVar_row (P := Try.prog) w G 64 64 Z (bvs s).toArray H (by rw [Try.sz64, hsz]) (by rw [hZ, hsz]) (all_oneCell_toArray (bvs_one _))
  unfold Oper.wp execOp
  simp only [ho, hx, hy, Instr.storeAt, Instr.sureAddr, Sem.run_bind, Sem.run_pure, Result.andThen_ok, hrun]
  exact hK _ _ (h _ (setRow_heap w G _ _ 64 _ H) (below_setRow (Below.refl _ _) (Nat.le_refl _) _) (by simp))
/-- What lay has laid. -/
structure LI (w0 : World) (i : Ino) (Z : Array Value) (q : Nat) (cur : List UInt8) (W : World) : Prop where
  b : Below w0.heap.size w0 W
  ino : InoAt W w0.heap.size i
  res : W.heap[w0.heap.size + 1]? = some (.cells Z 64 (0, 0))
  blk : Blk W q 64 cur
  lt : w0.heap.size + 1 < q
section
variable {w0 W W' : World} {i : Ino} {cur cur' : List UInt8} {Z : Array Value} {q : Nat}
theorem LI.low (h : LI w0 i Z q cur W) (hb : Below q W W') (hc : Blk W' q 64 cur') : LI w0 i Z q cur' W' :=
  have hl := h.lt
  ⟨h.b.trans (hb.mono (by omega)), h.ino.below hb (by omega), by rw [hb.block _ (by omega)]; exact h.res, hc, hl⟩
theorem LI.up (h : LI w0 i Z q cur W) (hb : Below W.heap.size W W') : LI w0 i Z q cur W' :=
  h.low (hb.mono (by have := h.blk.lt; omega)) (h.blk.below hb h.blk.lt)
theorem LI.drew (h : LI w0 i Z q cur W) : LI w0 i Z q cur W.drew := ⟨h.b.drew, h.ino.drew, h.res, h.blk, h.lt⟩
theorem Blk.set {w : World} {g : Nat} {t : TypeId} {l : List UInt8} (h : Blk w g t l) (j : Nat) (x : UInt8) : Blk (w.setCell ⟨g, j, none⟩ (bv x)) g t (l.set j x) := by
  have e : bvs (l.set j x) = (bvs l).set j (bv x) := by simp [bvs]
  have e2 : (bvs (l.set j x)).toArray = (bvs l).toArray.setIfInBounds j (bv x) := by rw [e]; simp
  unfold Blk at h ⊢
  rw [e2]
  exact heap_setCell_same w g j _ t _ h
end
theorem LI.start (w : World) (i : Ino) (Z : Array Value) (hn : i.ns.length = 8) (hz : Z = (bvs z64).toArray) :
    LI w i Z (w.heap.size + 2) z64 (((w.alloc (.cells (iA i) 24)).alloc (.cells Z 64)).alloc (.cells Z 64)) := by
  have s1 : (w.alloc (.cells (iA i) 24)).heap.size = w.heap.size + 1 := by simp
  have s2 : ((w.alloc (.cells (iA i) 24)).alloc (.cells Z 64)).heap.size = w.heap.size + 2 := by simp
  have h1 := heap_alloc_new (w.alloc (.cells (iA i) 24)) (.cells Z 64)
  have h2 := heap_alloc_new ((w.alloc (.cells (iA i) 24)).alloc (.cells Z 64)) (.cells Z 64)
  rw [s1] at h1
  rw [s2] at h2
  refine ⟨(((Below.refl _ _).alloc (Nat.le_refl _) _).alloc (by simp) _).alloc (by simp; omega) _, ((ino_new w i hn).alloc _).alloc _, (Below.heap_alloc _ _ _ (by rw [s2]; omega)).trans h1, ?_, by omega⟩
  unfold Blk
  rw [← hz]
  exact h2
/-- The numbers of an inode that can be. -/
structure InR (i : Ino) : Prop where
  k : 0 ≤ i.k ∧ i.k ≤ 3
  l : 0 ≤ i.l ∧ i.l ≤ 1000
  s : 0 ≤ i.s ∧ i.s ≤ 1066496
  d : 0 ≤ i.d ∧ i.d ≤ 4611686018427387904
  ns : ∀ k, 0 ≤ i.ns.getD k 0 ∧ i.ns.getD k 0 < 4096
theorem getD_okN {l : List Int} (h : l.all okN = true) (k : Nat) : 0 ≤ l.getD k 0 ∧ l.getD k 0 < 4096 := by
  by_cases hk : k < l.length
  · have := List.all_eq_true.1 h _ (List.getElem_mem hk)
    simp [okN] at this
    simpa [hk] using this
  · simp [show l.length ≤ k by omega]
theorem rtB_inR {i : Ino} (h : rtB i = true) : InR i := by
  unfold rtB at h
  by_cases hk : i.k = 0
  · rw [if_pos hk, eqI_iff] at h
    subst h
    exact ⟨by simp [zino], by simp [zino], by simp [zino], by simp [zino], fun k => getD_okN (by decide) k⟩
  · rw [if_neg hk] at h
    simp only [Bool.and_eq_true, decide_eq_true_eq, bndB, lkB, szB] at h
    obtain ⟨h1, h2, h3, h4⟩ := h
    refine ⟨by omega, by omega, ?_, by omega, fun k => getD_okN h3 k⟩
    by_cases h3k : i.k = 3
    · rw [if_pos h3k] at h2; simp at h2; omega
    · rw [if_neg h3k] at h2; simp at h2; omega
theorem lay_len64 {cur : List UInt8} {o : Nat} {x : List UInt8} (hc : cur.length = 64) (h : o + x.length ≤ 64) : (layAt cur o x).length = 64 := by
  rw [layAt_length _ _ _ (by rw [hc]; exact h)]; exact hc
/-- A part of an array of bytes in memory. -/
theorem slice_arr (t : TypeId) (n : Nat) (ht : Try.prog.underlying t = some (.array (Try.prog.arrayLen t) (Try.prog.elem t))) (hn : Try.prog.arrayLen t = n) (he : Try.prog.elem t = 5) (q o l : Nat) (a b : Int) (ha : a = (o : Int)) (hb : b = (o : Int) + (l : Int)) (h1 : o < n) (h : o + l ≤ n) (w : World) :
    (Instr.sliceAt t (.pointer (some ⟨q, 0, none⟩)) (some (.int .i64 a)) (some (.int .i64 b)) none).run Try.prog w = .ok (.slice (some ⟨q, o, none⟩) l (n - o)) w := by
  subst ha; subst hb
  rw [run_sliceAt_array_lh w t ⟨q, 0, none⟩ ht .i64 .i64 _ _ (by omega) (by omega) (by rw [hn]; omega), he, size5, hn]
  simp only [Result.andThen_ok, slicedAt, Int.toNat_natCast]
  rw [show ((o : Int) + (l : Int)).toNat = o + l by omega, if_neg (by omega), addr_add]
  simp
attribute [local go_sem] wrapU
set_option maxRecDepth 100000 in
set_option maxHeartbeats 4000000 in
theorem ilay_any (i : Ino) (hn : i.ns.length = 8) (hr : InR i) (w : World) :
    Calls Try.prog 48 #[.agg (iA i)] w fun e w' => e = .returned (.agg (bvs (layI i)).toArray) ∧ Below w.heap.size w w' := by
  obtain ⟨Z, hz, hzs, HZ⟩ := zero64
  have HS : Hid _ := LI.start w i Z hn HZ.out
  have NA := fun W => named_any i hn W
  have HN : Hid (i.ns.length = 8) := hn
  have hk := hr.k
  have HR : Hid (InR i) := hr
  clear hr hn
  go_enter Try.func48, Try.ntmps48
  go_upto_region 2 with fail
  generalize ((w.alloc (.cells (iA i) 24)).alloc (.cells Z 64)).alloc (.cells Z 64) = W at *
  generalize w.heap.size + 2 = q at *
  have hq := HS.out.lt
  have q0 := HS.out.ino.c0
  have r0 := HS.out.blk.cell 0 (by rw [z64_length]; omega)
  have f0 := HS.out.blk.frozen 0
  obtain ⟨bk, HBK⟩ : ∃ b : UInt8, Hid (b = UInt8.ofNat i.k.toNat) := ⟨_, rfl⟩
  have hbk : bv bk = .int .u8 i.k := by
    rw [HBK.out]; unfold bv; congr 1
    have : (UInt8.ofNat i.k.toNat).toNat = i.k.toNat := by simp; omega
    rw [this]; omega
  have HB0 : Hid _ := HS.out.blk.set 0 bk
  rw [hbk] at HB0
  have HS2 : Hid (LI w i Z q (z64.set 0 bk) (W.setCell ⟨q, 0, none⟩ (.int .u8 i.k))) := HS.out.low ((Below.refl _ _).setCell (by simp) _) HB0.out
  go_upto_region 3 with fail
  clear HS HB0 q0 r0 f0 hbk HZ
  generalize W.setCell ⟨q, 0, none⟩ (.int .u8 i.k) = W3 at *
  obtain ⟨L, HL⟩ : ∃ n : Nat, Hid (i.l = (n : Int)) := ⟨i.l.toNat, by have := HR.out.l; show _ = _; omega⟩
  obtain ⟨S, HSS⟩ : ∃ n : Nat, Hid (i.s = (n : Int)) := ⟨i.s.toNat, by have := HR.out.s; show _ = _; omega⟩
  obtain ⟨D, HD⟩ : ∃ n : Nat, Hid (i.d = (n : Int)) := ⟨i.d.toNat, by have := HR.out.d; show _ = _; omega⟩
  have hL : L ≤ 1000 := by have := HR.out.l; rw [HL.out] at this; omega
  have hS : S ≤ 1066496 := by have := HR.out.s; rw [HSS.out] at this; omega
  have hD : D ≤ 4611686018427387904 := by have := HR.out.d; rw [HD.out] at this; omega
  have u1 : InU (L : Int) := ⟨by omega⟩
  have u2 : InU (S : Int) := ⟨by omega⟩
  have u3 : InU (D : Int) := ⟨by omega⟩
  have d3 := HS2.out.drew
  refine wp_region_held_drew (S := (fun W => InoAt W w.heap.size i)) (by kernel_rfl) d3.ino (fun hH => ?_)
  refine takeH (i := 0) (dst := some 11) (v := ?v1) rfl rfl (by kernel_rfl) (by kernel_rfl) (by kernel_rfl) (fun _ _ _ h => h) rfl ?hy1 hH rfl ?rest1
  case hy1 => (intro W hW; have q1 := hW.c1; have q2 := hW.c2; have q3 := hW.c3; rw [HL.out] at q1; rw [HSS.out] at q2; rw [HD.out] at q3; clear hW; go_simp; try with_reducible rfl)
  (try simp only [Act.put, List.setIfInBounds_toArray, List.set_cons_zero, List.set_cons_succ])
  refine takeH (i := 1) (dst := some 12) (v := ?v2) rfl rfl (by kernel_rfl) (by kernel_rfl) (by kernel_rfl) (fun _ _ _ h => h) rfl ?hy2 hH rfl ?rest2
  case hy2 => (intro W hW; have q1 := hW.c1; have q2 := hW.c2; have q3 := hW.c3; rw [HL.out] at q1; rw [HSS.out] at q2; rw [HD.out] at q3; clear hW; go_simp; try with_reducible rfl)
  (try simp only [Act.put, List.setIfInBounds_toArray, List.set_cons_zero, List.set_cons_succ])
  refine takeH (i := 2) (dst := some 13) (v := ?v3) rfl rfl (by kernel_rfl) (by kernel_rfl) (by kernel_rfl) (fun _ _ _ h => h) rfl ?hy3 hH rfl ?rest3
  case hy3 => (intro W hW; have q1 := hW.c1; have q2 := hW.c2; have q3 := hW.c3; rw [HL.out] at q1; rw [HSS.out] at q2; rw [HD.out] at q3; clear hW; go_simp; try with_reducible rfl)
  (try simp only [Act.put, List.setIfInBounds_toArray, List.set_cons_zero, List.set_cons_succ])
  refine takeH (i := 3) (dst := some 14) (v := ?v4) rfl rfl (by kernel_rfl) (by kernel_rfl) (by kernel_rfl) (fun _ _ _ h => h) rfl ?hy4 hH rfl ?rest4
  case hy4 => (intro W hW; have q1 := hW.c1; have q2 := hW.c2; have q3 := hW.c3; rw [HL.out] at q1; rw [HSS.out] at q2; rw [HD.out] at q3; clear hW; go_simp; try with_reducible rfl)
  (try simp only [Act.put, List.setIfInBounds_toArray, List.set_cons_zero, List.set_cons_succ])
  refine callH (i := 4) { dst := some 15, op := Go.Op.call { callee := Go.Callee.value (Go.Operand.func 70), args := #[Go.Operand.tmp 11, Go.Operand.tmp 14], argTypes := #[25, 67] }, type := 0, pos := "inode.go:78", after := #[{ on := 0, ground := Go.Ground.data }, { on := 3, ground := Go.Ground.data }], guard := none } (by kernel_rfl) rfl rfl (fun K hK => ?_)
  go_simp
  refine (putAt_any q 64 _ 2 2 62 L (by omega) (by omega) (by omega) (by simp [z64_length]) _ d3.blk (by omega) (by omega)).mono ?_
  rintro e v3 ⟨rfl, g3, b3⟩
  have m3 := d3.low b3 g3
  clear g3 b3
  clear hH
  refine hK.out _ _ m3.ino (fun hH => ?_)
  clear hK K
  (try simp only [Act.put, List.setIfInBounds_toArray, List.set_cons_zero, List.set_cons_succ])
  refine wpAnyH_done (by kernel_rfl) ?_ _
  clear hH
  have H3 : Hid _ := m3
  clear m3 d3 HS2
  go_upto_region 4 with fail
  have d4 := H3.out.drew
  refine wp_region_held_drew (S := (fun W => InoAt W w.heap.size i)) (by kernel_rfl) d4.ino (fun hH => ?_)
  refine takeH (i := 0) (dst := some 16) (v := ?v5) rfl rfl (by kernel_rfl) (by kernel_rfl) (by kernel_rfl) (fun _ _ _ h => h) rfl ?hy5 hH rfl ?rest5
  case hy5 => (intro W hW; have q1 := hW.c1; have q2 := hW.c2; have q3 := hW.c3; rw [HL.out] at q1; rw [HSS.out] at q2; rw [HD.out] at q3; clear hW; go_simp; try with_reducible rfl)
  (try simp only [Act.put, List.setIfInBounds_toArray, List.set_cons_zero, List.set_cons_succ])
  refine takeH (i := 1) (dst := some 17) (v := ?v6) rfl rfl (by kernel_rfl) (by kernel_rfl) (by kernel_rfl) (fun _ _ _ h => h) rfl ?hy6 hH rfl ?rest6
  case hy6 => (intro W hW; have q1 := hW.c1; have q2 := hW.c2; have q3 := hW.c3; rw [HL.out] at q1; rw [HSS.out] at q2; rw [HD.out] at q3; clear hW; go_simp; try with_reducible rfl)
  (try simp only [Act.put, List.setIfInBounds_toArray, List.set_cons_zero, List.set_cons_succ])
  refine takeH (i := 2) (dst := some 18) (v := ?v7) rfl rfl (by kernel_rfl) (by kernel_rfl) (by kernel_rfl) (fun _ _ _ h => h) rfl ?hy7 hH rfl ?rest7
  case hy7 => (intro W hW; have q1 := hW.c1; have q2 := hW.c2; have q3 := hW.c3; rw [HL.out] at q1; rw [HSS.out] at q2; rw [HD.out] at q3; clear hW; go_simp; try with_reducible rfl)
  (try simp only [Act.put, List.setIfInBounds_toArray, List.set_cons_zero, List.set_cons_succ])
  refine takeH (i := 3) (dst := some 19) (v := ?v8) rfl rfl (by kernel_rfl) (by kernel_rfl) (by kernel_rfl) (fun _ _ _ h => h) rfl ?hy8 hH rfl ?rest8
  case hy8 => (intro W hW; have q1 := hW.c1; have q2 := hW.c2; have q3 := hW.c3; rw [HL.out] at q1; rw [HSS.out] at q2; rw [HD.out] at q3; clear hW; go_simp; try with_reducible rfl)
  (try simp only [Act.put, List.setIfInBounds_toArray, List.set_cons_zero, List.set_cons_succ])
  refine callH (i := 4) { dst := some 20, op := Go.Op.call { callee := Go.Callee.value (Go.Operand.func 70), args := #[Go.Operand.tmp 16, Go.Operand.tmp 19], argTypes := #[25, 67] }, type := 0, pos := "inode.go:79", after := #[{ on := 0, ground := Go.Ground.data }, { on := 3, ground := Go.Ground.data }], guard := none } (by kernel_rfl) rfl rfl (fun K hK => ?_)
  go_simp
  refine (putAt_any q 64 _ 4 4 60 S (by omega) (by omega) (by omega) (by rw [lay_len64 (by simp [z64_length]) (by rw [leB_length]; omega)]; omega) _ d4.blk (by omega) (by omega)).mono ?_
  rintro e v4 ⟨rfl, g4, b4⟩
  have m4 := d4.low b4 g4
  clear g4 b4
  clear hH
  refine hK.out _ _ m4.ino (fun hH => ?_)
  clear hK K
  (try simp only [Act.put, List.setIfInBounds_toArray, List.set_cons_zero, List.set_cons_succ])
  refine wpAnyH_done (by kernel_rfl) ?_ _
  clear hH
  have H4 : Hid _ := m4
  clear m4 d4 H3
  go_upto_region 5 with fail
  have d5 := H4.out.drew
  refine wp_region_held_drew (S := (fun W => InoAt W w.heap.size i)) (by kernel_rfl) d5.ino (fun hH => ?_)
  refine takeH (i := 0) (dst := some 21) (v := ?v9) rfl rfl (by kernel_rfl) (by kernel_rfl) (by kernel_rfl) (fun _ _ _ h => h) rfl ?hy9 hH rfl ?rest9
  case hy9 => (intro W hW; have q1 := hW.c1; have q2 := hW.c2; have q3 := hW.c3; rw [HL.out] at q1; rw [HSS.out] at q2; rw [HD.out] at q3; clear hW; go_simp; try with_reducible rfl)
  (try simp only [Act.put, List.setIfInBounds_toArray, List.set_cons_zero, List.set_cons_succ])
  refine takeH (i := 1) (dst := some 22) (v := ?v10) rfl rfl (by kernel_rfl) (by kernel_rfl) (by kernel_rfl) (fun _ _ _ h => h) rfl ?hy10 hH rfl ?rest10
  case hy10 => (intro W hW; have q1 := hW.c1; have q2 := hW.c2; have q3 := hW.c3; rw [HL.out] at q1; rw [HSS.out] at q2; rw [HD.out] at q3; clear hW; go_simp; try with_reducible rfl)
  (try simp only [Act.put, List.setIfInBounds_toArray, List.set_cons_zero, List.set_cons_succ])
  refine takeH (i := 2) (dst := some 23) (v := ?v11) rfl rfl (by kernel_rfl) (by kernel_rfl) (by kernel_rfl) (fun _ _ _ h => h) rfl ?hy11 hH rfl ?rest11
  case hy11 => (intro W hW; have q1 := hW.c1; have q2 := hW.c2; have q3 := hW.c3; rw [HL.out] at q1; rw [HSS.out] at q2; rw [HD.out] at q3; clear hW; go_simp; try with_reducible rfl)
  (try simp only [Act.put, List.setIfInBounds_toArray, List.set_cons_zero, List.set_cons_succ])
  refine takeH (i := 3) (dst := some 24) (v := ?v12) rfl rfl (by kernel_rfl) (by kernel_rfl) (by kernel_rfl) (fun _ _ _ h => h) rfl ?hy12 hH rfl ?rest12
  case hy12 => (intro W hW; have q1 := hW.c1; have q2 := hW.c2; have q3 := hW.c3; rw [HL.out] at q1; rw [HSS.out] at q2; rw [HD.out] at q3; clear hW; go_simp; try with_reducible rfl)
  (try simp only [Act.put, List.setIfInBounds_toArray, List.set_cons_zero, List.set_cons_succ])
  refine callH (i := 4) { dst := some 25, op := Go.Op.call { callee := Go.Callee.value (Go.Operand.func 70), args := #[Go.Operand.tmp 21, Go.Operand.tmp 24], argTypes := #[25, 67] }, type := 0, pos := "inode.go:80", after := #[{ on := 0, ground := Go.Ground.data }, { on := 3, ground := Go.Ground.data }], guard := none } (by kernel_rfl) rfl rfl (fun K hK => ?_)
  go_simp
  refine (putAt_any q 64 _ 8 8 56 D (by omega) (by omega) (by omega) (by rw [lay_len64 (lay_len64 (by simp [z64_length]) (by rw [leB_length]; omega)) (by rw [leB_length]; omega)]; omega) _ d5.blk (by omega) (by omega)).mono ?_
  rintro e v5 ⟨rfl, g5, b5⟩
  have m5 := d5.low b5 g5
  clear g5 b5
  clear hH
  refine hK.out _ _ m5.ino (fun hH => ?_)
  clear hK K
  (try simp only [Act.put, List.setIfInBounds_toArray, List.set_cons_zero, List.set_cons_succ])
  refine wpAnyH_done (by kernel_rfl) ?_ _
  clear hH
  have hcur := head_laid bk i
  rw [HL.out, HSS.out, HD.out, Int.toNat_natCast, Int.toNat_natCast, Int.toNat_natCast] at hcur
  rw [hcur] at m5
  have H5 : Hid _ := m5
  clear m5 d5 H4 hcur
  have HH : Hid ([bk, 0] ++ leB 2 L ++ leB 4 S ++ leB 8 D = headL i) := by
    show _ = _
    unfold headL
    rw [HL.out, HSS.out, HD.out, Int.toNat_natCast, Int.toNat_natCast, Int.toNat_natCast, HBK.out]
  rw [HH.out] at H5
  clear HH
  go_upto_region 6 with fail
  go_wp2_with (first | ((with_reducible show wpList _ _ _ ({ dst := _, op := Op.load 24 _, type := _, pos := _, after := _, guard := _ } :: _) _ _); refine wpList_load_ino rfl _ rfl (H5.out.ino) rfl ?_))
  refine (NA _).mono ?_
  rintro e v6 ⟨rfl, h6⟩
  have H6 : Hid _ := H5.out.up h6
  clear NA H5 h6
  go_wp2_with fail
  go_loopw [28] (fun t wr => ∃ k : Nat, k ≤ 8 ∧ t = .int .i64 k ∧ LI w i Z q (headL i ++ layN (i.ns.take k) ++ List.replicate (48 - 2 * k) 0) wr) (fun t _ => 8 - (intOf t).toNat)
  case atStart => exact ⟨0, by omega, rfl, by simpa [layN] using H6.out⟩
  case round =>
    obtain ⟨k, hk8, rfl, hli⟩ := hrel
    have HLI : Hid _ := hli
    clear hli H6
    by_cases hlt : (k : Int) < 8
    · have hix := run_index8 HN.out k (by omega)
      have hx := HR.out.ns k
      obtain ⟨x, HX⟩ : ∃ n : Nat, Hid (i.ns.getD k 0 = (n : Int)) := ⟨(i.ns.getD k 0).toNat, by show _ = _; omega⟩
      rw [HX.out] at hix hx
      have u4 : InU (x : Int) := ⟨by omega⟩
      have hsl := slice_arr 64 64 (by kernel_rfl) (by kernel_rfl) (by kernel_rfl) q (16 + 2 * k) 2 (16 + (k : Int) * 2) (16 + (k : Int) * 2 + 2) (by omega) (by omega) (by omega) (by omega)
      have HHN : Hid _ := name_laid (headL i) (headL_length i) i.ns HN.out k (by omega)
      rw [HX.out, Int.toNat_natCast] at HHN
      have hlen : (headL i ++ layN (i.ns.take k) ++ List.replicate (48 - 2 * k) 0).length = 64 := by simp [headL_length, layN_length, HN.out]; omega
      have HLN : Hid _ := hlen
      clear hlen
      go_wp2_with fail
      refine (putAt_any q 64 _ (16 + 2 * k) 2 (64 - (16 + 2 * k)) x (by omega) (by omega) (by omega) (by rw [HLN.out]; omega) _ HLI.out.blk (by omega) (by omega)).mono ?_
      rintro e v8 ⟨rfl, g8, b8⟩
      rw [HHN.out] at g8
      have H8 : Hid _ := HLI.out.low b8 g8
      clear g8 b8 HLI HHN HLN
      go_wp2_with fail
      go_roundw
      case rel => exact ⟨k + 1, by omega, by go_num, H8.out⟩
      case measure => simp [intOf]; omega
    · obtain rfl : k = 8 := by omega
      have HG : Hid (LI w i Z q (layI i) wr) := by
        have h := HLI.out
        rw [List.take_of_length_le (by rw [HN.out]; omega)] at h
        exact h
      have HLN : Hid ((layI i).length = 64) := layI_length HN.out
      clear HLI
      go_wp2_with (first | ((with_reducible show wpList _ _ _ ({ dst := _, op := Op.load 64 _, type := _, pos := _, after := _, guard := _ } :: _) _ _); refine wpList_load_64 rfl _ rfl HG.out.blk HLN.out rfl ?_) | ((with_reducible show wpList _ _ _ ({ dst := _, op := Op.store 64 _ _, type := _, pos := _, after := _, guard := _ } :: _) _ _); refine wpList_store_64 rfl _ _ rfl HG.out.res hzs HLN.out rfl rfl ?_; intro w9 G9 b9 z9))
      exact bodyPost_ret (results_cell_row rfl _ _ (w.heap.size + 1) 64 _ (0, 0) _ rfl G9 Try.underlying64 rfl (by rw [Try.sz64, List.size_toArray, bvs_length, HLN.out])) rfl ⟨rfl, HG.out.b.trans (b9.mono (by omega))⟩
end Go.Proofs.Ytabmogeicpphoaa
/- inode.Put. -/
namespace Go.Proofs.Ytabmogeicpphoaa
open Go.RowKit
set_option maxHeartbeats 4000000 in
theorem iput_no (i : Ino) (hn : i.ns.length = 8) (hr : rtB i = false) (w : World) :
    Calls Try.prog 9 #[.agg (iA i)] w fun e w' => e = .returned (.tuple #[.slice none 0 0, .int .i64 1]) ∧ Below w.heap.size w w' := by
  have HI : Hid (InoAt (w.alloc (.cells (iA i) 24)) w.heap.size i) := ino_new w i hn
  have HB : Hid (Below w.heap.size w (w.alloc (.cells (iA i) 24))) := (Below.refl _ _).alloc (Nat.le_refl _) _
  have RT := iright_any i hn
  rw [hr] at RT
  clear hn hr
  go_enter Try.func9, Try.ntmps9
  go_wp2_with (first | ((with_reducible show wpList _ _ _ ({ dst := _, op := Op.load 24 _, type := _, pos := _, after := _, guard := _ } :: _) _ _); refine wpList_load_ino rfl _ rfl (HI.out) rfl ?_))
  refine (RT _).mono ?_
  rintro e w1 ⟨rfl, h1⟩
  go_wp2
  go_ret2
  exact ⟨rfl, HB.out.trans (h1.mono HB.out.size)⟩
set_option maxRecDepth 100000 in
set_option maxHeartbeats 4000000 in
theorem iput_yes (i : Ino) (hn : i.ns.length = 8) (hr : rtB i = true) (w : World) :
    Calls Try.prog 9 #[.agg (iA i)] w fun e w' => ∃ G, e = .returned (.tuple #[.slice (some ⟨G, 0, none⟩) 64 64, .int .i64 0]) ∧ Blk w' G 64 (layI i) ∧ w.heap.size ≤ G ∧ Below w.heap.size w w' := by
  have HI : Hid (InoAt (w.alloc (.cells (iA i) 24)) w.heap.size i) := ino_new w i hn
  have HB : Hid (Below w.heap.size w (w.alloc (.cells (iA i) 24))) := (Below.refl _ _).alloc (Nat.le_refl _) _
  have RT := iright_any i hn
  have LA := fun W => ilay_any i hn (rtB_inR hr) W
  have HLN : Hid ((layI i).length = 64) := layI_length hn
  generalize layI i = B at LA HLN ⊢
  rw [hr] at RT
  obtain ⟨Z, hz, hzs, HZ⟩ := zero64
  clear HZ hn hr
  go_enter Try.func9, Try.ntmps9
  go_wp2_with (first | ((with_reducible show wpList _ _ _ ({ dst := _, op := Op.load 24 _, type := _, pos := _, after := _, guard := _ } :: _) _ _); refine wpList_load_ino rfl _ rfl (HI.out) rfl ?_))
  refine (RT _).mono ?_
  rintro e w1 ⟨rfl, h1⟩
  have HI1 : Hid (InoAt w1 w.heap.size i) := HI.out.up h1
  have HB1 : Hid (Below w.heap.size w w1) := HB.out.trans (h1.mono HB.out.size)
  clear HI HB h1 RT
  go_wp2_with (first | ((with_reducible show wpList _ _ _ ({ dst := _, op := Op.load 24 _, type := _, pos := _, after := _, guard := _ } :: _) _ _); refine wpList_load_ino rfl _ rfl (HI1.out) rfl ?_))
  refine (LA _).mono ?_
  rintro e w2 ⟨rfl, h2⟩
  have HB2 : Hid (Below w.heap.size w w2) := HB1.out.trans (h2.mono HB1.out.size)
  have HN : Hid ((w2.alloc (.cells Z 64)).heap[w2.heap.size]? = some (.cells Z 64 (0, 0))) := heap_alloc_new _ _
  have HNB : Hid (Below w.heap.size w (w2.alloc (.cells Z 64))) := HB2.out.alloc HB2.out.size _
  clear HI1 h2 LA
  go_wp2_with (first | ((with_reducible show wpList _ _ _ ({ dst := _, op := Op.store 64 _ _, type := _, pos := _, after := _, guard := _ } :: _) _ _); refine wpList_store_64 rfl _ _ rfl HN.out hzs HLN.out rfl rfl ?_; intro w8 G8 b8 z8))
  have HG8 : Hid _ := G8
  have HB8 : Hid (Below w.heap.size w w8) := HNB.out.trans (b8.mono HB2.out.size)
  clear G8 b8 z8
  go_wp2
  go_ret2
  exact ⟨_, rfl, HG8.out, HB2.out.size, HB8.out⟩
end Go.Proofs.Ytabmogeicpphoaa
