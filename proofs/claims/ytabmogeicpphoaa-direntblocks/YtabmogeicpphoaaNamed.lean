/- inode.named. -/
import Derived.Test.YtabmogeicpphoaaInoEq
namespace Go.Proofs.Ytabmogeicpphoaa
open Go.RowKit
/-- Block g is a row of numbers. -/
def RowI (w : World) (g : Nat) (t : TypeId) (l : List Int) : Prop := w.heap[g]? = some (.cells (ivs l).toArray t (0, 0))
section
variable {w w' : World} {g : Nat} {t : TypeId} {l : List Int}
theorem RowI.lt (h : RowI w g t l) : g < w.heap.size := (Array.getElem?_eq_some_iff.1 h).1
theorem RowI.below (h : RowI w g t l) {B : Nat} (hb : Below B w w') (hg : g < B) : RowI w' g t l := by unfold RowI; rw [hb.block g hg]; exact h
theorem RowI.up (h : RowI w g t l) (hb : Below w.heap.size w w') : RowI w' g t l := h.below hb h.lt
theorem RowI.cell (h : RowI w g t l) (j : Nat) (hj : j < l.length) : w.cell? ⟨g, j, none⟩ = some (.int .i64 (l.getD j 0)) := by
  rw [cell_of_row w g j _ _ _ h]; simp [ivs, hj]
theorem RowI.frozen (h : RowI w g t l) (j : Nat) : w.frozen? ⟨g, j, none⟩ = false := frozen_of_row w g j _ _ h
theorem RowI.range (h : RowI w g t l) : w.rangeAt g 0 (ivs l) := fun j v hv => by
  rw [Nat.zero_add, cell_of_row w g j _ _ _ h]
  simpa using hv
theorem RowI.set (h : RowI w g t l) (j : Nat) (x : Int) : RowI (w.setCell ⟨g, j, none⟩ (.int .i64 x)) g t (l.set j x) := by
  have e : ivs (l.set j x) = (ivs l).set j (.int .i64 x) := by simp [ivs]
  have e2 : (ivs (l.set j x)).toArray = (ivs l).toArray.setIfInBounds j (.int .i64 x) := by rw [e]; simp
  unfold RowI at h ⊢
  rw [e2]
  exact heap_setCell_same w g j _ t _ h
end
theorem zeroN : ∃ Z : Array Value, (∀ w, (zeroValue 70).run Try.prog w = .ok (.agg Z) w) ∧ Z.size = 8 ∧ Hid (Z = (ivs [0, 0, 0, 0, 0, 0, 0, 0]).toArray) := by
  have h : (Try.prog.info? 70).map (fun i => i.zero) = some (some (.agg (ivs [0, 0, 0, 0, 0, 0, 0, 0]).toArray)) := by kernel_rfl
  cases hi : Try.prog.info? 70 with
  | none => rw [hi] at h; cases h
  | some i =>
    rw [hi] at h
    have hz : i.zero = some (.agg (ivs [0, 0, 0, 0, 0, 0, 0, 0]).toArray) := Option.some.inj h
    have key : ∀ (v : Value) (w : World), i.zero = some v → (zeroValue 70).run Try.prog w = .ok v w := by
      intro v w hv
      simp [zeroValue, typeInfo, hi, hv]
    exact ⟨_, fun w => key _ w hz, rfl, rfl⟩
theorem Try.sz70 : (Try.prog.info? 70).map (·.size) = some 8 := by kernel_rfl
theorem Try.elemI : (Try.prog.info? 3).map (·.size) = some 1 := by kernel_rfl
/-- 'copy' of numbers into the head of a row. -/
theorem copy_ints {w : World} {g n m : Nat} (dCap sCap : Nat) {b o : Nat} {t : TypeId} {cur x : List Int} (hg : RowI w g t cur) (hl : cur.length = n) (hs : ∀ j, j < x.length → w.cell? ⟨b, o + j, none⟩ = some (.int .i64 (x.getD j 0))) (hx : x.length = m) (h0 : m ≤ n) :
    ∃ w1, (Builtin.copy_ #[40, 40] 3 #[.slice (some ⟨g, 0, none⟩) n dCap, .slice (some ⟨b, o, none⟩) m sCap]).run Try.prog w = .ok (.int .i64 (m : Nat)) w1 ∧
      RowI w1 g t (x ++ cur.drop m) ∧ Below g w w1 ∧ w1.heap.size = w.heap.size := by
  have hcs : ∀ j v, (ivs x)[j]? = some v → w.cell? ((⟨b, o, none⟩ : Addr).add j) = some v := by
    intro j v hv
    have hj : j < (ivs x).length := (List.getElem?_eq_some_iff.1 hv).1
    rw [ivs_length] at hj
    rw [addr_add, hs j hj, ← hv]
    simp [ivs, hj]
  have hrun := run_copy_row (P := Try.prog) w 40 40 3 3 g 0 n dCap ⟨b, o, none⟩ m sCap (ivs cur).toArray t (ivs x) Try.underlying40 Try.elemI hg (by rw [ivs_length, hx]; exact (Nat.min_eq_left h0).symm) hcs (by simp only [ivs_length, List.size_toArray]; omega) (ivs_one _)
  rw [ivs_length, hx] at hrun
  refine ⟨_, hrun, ?_, below_setRow (Below.refl _ _) (Nat.le_refl _) _, by simp⟩
  have := setRow_heap w g _ ((ivs cur).toArray.toList.take 0 ++ ivs x ++ (ivs cur).toArray.toList.drop (0 + m)).toArray t _ hg
  rw [RowI, this]
  congr 3
  simp [ivs_append, ivs_drop]
theorem wpList_load_row {ops : Array Oper} {rest : List Oper} {op : Oper} {a : Act} {w : World} {Q : Exit → Act → World → Prop} (hgd : op.guard = none) (x : Operand) (ho : op.op = .load 70 x)
    {G : Nat} {t : TypeId} {s : List Int} (H : RowI w G t s) (hs : s.length = 8) (hx : a.eval x = .pointer (some ⟨G, 0, none⟩))
    (h : wpList Try.prog ops Q rest (a.put op.dst (.agg (ivs s).toArray)) w) : wpList Try.prog ops Q (op :: rest) a w :=
  wpList_load_mid hgd 70 x ho G 0 hx (ivs s) _ H.range Try.underlying70 rfl (by rw [Try.sz70, ivs_length, hs]) h
theorem wpList_store_row {ops : Array Oper} {rest : List Oper} {op : Oper} {a : Act} {w : World} {Q : Exit → Act → World → Prop} (hgd : op.guard = none) (x y : Operand) (ho : op.op = .store 70 x y)
    {G : Nat} {Z : Array Value} {s : List Int} (H : w.heap[G]? = some (.cells Z 70 (0, 0))) (hZ : Z.size = 8) (hs : s.length = 8) (hx : a.eval x = .pointer (some ⟨G, 0, none⟩)) (hy : a.eval y = .agg (ivs s).toArray)
    (h : ∀ w', RowI w' G 70 s → Below G w w' → w'.heap.size = w.heap.size → wpList Try.prog ops Q rest (a.put op.dst undef) w') : wpList Try.prog ops Q (op :: rest) a w := by
  refine wpList_plain hgd fun K hK => ?_
  have hsz : (ivs s).toArray.size = 8 := by rw [List.size_toArray, ivs_length, hs]
  have hrun := run_storeVar_row (P := Try.prog) w G 70 70 Z (ivs s).toArray H (by rw [Try.sz70, hsz]) (by rw [hZ, hsz]) (all_oneCell_toArray (ivs_one _))
  unfold Oper.wp execOp
  simp only [ho, hx, hy, Instr.storeAt, Instr.sureAddr, Sem.run_bind, Sem.run_pure, Result.andThen_ok, hrun]
  exact hK _ _ (h _ (setRow_heap w G _ _ 70 _ H) (below_setRow (Below.refl _ _) (Nat.le_refl _) _) (by simp))
/-- What named has laid. -/
structure NW (w0 : World) (Z : Array Value) (i : Ino) (q : Nat) (cur : List Int) (W : World) : Prop where
  b : Below w0.heap.size w0 W
  ino : InoAt W w0.heap.size i
  res : W.heap[w0.heap.size + 1]? = some (.cells Z 70 (0, 0))
  row : RowI W q 70 cur
  lt : w0.heap.size + 1 < q
theorem NW.low {w0 W W' : World} {Z : Array Value} {i : Ino} {q : Nat} {cur cur' : List Int} (h : NW w0 Z i q cur W) (hb : Below q W W') (hr : RowI W' q 70 cur') : NW w0 Z i q cur' W' :=
  have hl := h.lt
  ⟨h.b.trans (hb.mono (by omega)), h.ino.below hb (by omega), by rw [hb.block _ (by omega)]; exact h.res, hr, hl⟩
theorem NW.start (w : World) (Z : Array Value) (i : Ino) (hn : i.ns.length = 8) (hz : Z = (ivs [0, 0, 0, 0, 0, 0, 0, 0]).toArray) :
    NW w Z i (w.heap.size + 2) [0, 0, 0, 0, 0, 0, 0, 0] (((w.alloc (.cells (iA i) 24)).alloc (.cells Z 70)).alloc (.cells Z 70)) := by
  have s1 : (w.alloc (.cells (iA i) 24)).heap.size = w.heap.size + 1 := by simp
  have s2 : ((w.alloc (.cells (iA i) 24)).alloc (.cells Z 70)).heap.size = w.heap.size + 2 := by simp
  have h1 := heap_alloc_new (w.alloc (.cells (iA i) 24)) (.cells Z 70)
  have h2 := heap_alloc_new ((w.alloc (.cells (iA i) 24)).alloc (.cells Z 70)) (.cells Z 70)
  rw [s1] at h1
  rw [s2] at h2
  refine ⟨(((Below.refl _ _).alloc (Nat.le_refl _) _).alloc (by simp) _).alloc (by simp; omega) _, ((ino_new w i hn).alloc _).alloc _, (Below.heap_alloc _ _ _ (by rw [s2]; omega)).trans h1, ?_, by omega⟩
  unfold RowI
  rw [← hz]
  exact h2
theorem names_set {ns : List Int} (hn : ns.length = 8) : ((ns.take 6 ++ List.drop 6 [0, 0, 0, 0, 0, 0, 0, 0]).set 6 (ns.getD 6 0)).set 7 (ns.getD 7 0) = ns := by
  obtain ⟨a0, a1, a2, a3, a4, a5, a6, a7, rfl⟩ := eight_i hn
  rfl
set_option maxHeartbeats 2000000 in
theorem named_any (i : Ino) (hn : i.ns.length = 8) (w : World) :
    Calls Try.prog 53 #[.agg (iA i)] w fun e w' => e = .returned (.agg (ivs i.ns).toArray) ∧ Below w.heap.size w w' := by
  obtain ⟨Z, hz, hzs, HZ⟩ := zeroN
  have HS : Hid _ := NW.start w Z i hn HZ.out
  go_enter Try.func53, Try.ntmps53
  go_wp2_with fail
  generalize ((w.alloc (.cells (iA i) 24)).alloc (.cells Z 70)).alloc (.cells Z 70) = W at *
  generalize w.heap.size + 2 = q at *
  have hs : NW w Z i q [0, 0, 0, 0, 0, 0, 0, 0] W.drew := HS.out.low (Below.refl _ _).drew (HS.out.row)
  clear HS HZ
  obtain ⟨w1, c1, r1, b1, _⟩ := copy_ints (n := 8) (m := 6) (b := w.heap.size) (o := 4) (x := i.ns.take 6) 8 6 hs.row rfl (fun j hj => by
    simp only [List.length_take] at hj
    rw [hs.ino.name j (by omega)]; simp [hn, show j < 6 by omega, show j < 8 by omega]) (by simp [hn]) (by omega)
  have s1 := hs.low b1 r1
  have H1 : Hid _ := s1
  clear hs r1 b1 s1
  refine wp_region_held_drew (S := (fun _ => True)) (by kernel_rfl) trivial (fun hH => ?_)
  refine takeH (i := 0) (dst := some 4) (v := ?v1) rfl rfl (by kernel_rfl) (by kernel_rfl) (by kernel_rfl) (fun _ _ _ h => h) rfl ?hy1 hH rfl ?rest1
  case hy1 => (intro W hW; clear hW; go_simp; try with_reducible rfl)
  (try simp only [Act.put, List.setIfInBounds_toArray, List.set_cons_zero, List.set_cons_succ])
  refine takeH (i := 1) (dst := some 5) (v := ?v2) rfl rfl (by kernel_rfl) (by kernel_rfl) (by kernel_rfl) (fun _ _ _ h => h) rfl ?hy2 hH rfl ?rest2
  case hy2 => (intro W hW; clear hW; go_simp; try with_reducible rfl)
  (try simp only [Act.put, List.setIfInBounds_toArray, List.set_cons_zero, List.set_cons_succ])
  refine takeH (i := 2) (dst := some 6) (v := ?v3) rfl rfl (by kernel_rfl) (by kernel_rfl) (by kernel_rfl) (fun _ _ _ h => h) rfl ?hy3 hH rfl ?rest3
  case hy3 => (intro W hW; clear hW; go_simp; try with_reducible rfl)
  (try simp only [Act.put, List.setIfInBounds_toArray, List.set_cons_zero, List.set_cons_succ])
  refine callH (i := 3) { dst := some 7, op := Go.Op.call { callee := Go.Callee.builtin Go.Builtin.copy, args := #[Go.Operand.tmp 4, Go.Operand.tmp 6], argTypes := #[40, 40] }, type := 3, pos := "inode.go:32", after := #[{ on := 0, ground := Go.Ground.data }, { on := 2, ground := Go.Ground.data }], guard := none } (by kernel_rfl) rfl rfl (fun K hK => ?_)
  go_simp
  clear hH
  refine hK.out _ _ trivial (fun hH => ?_)
  clear hK K
  (try simp only [Act.put, List.setIfInBounds_toArray, List.set_cons_zero, List.set_cons_succ])
  refine wpAnyH_done (by kernel_rfl) ?_ _
  clear hH
  clear c1
  obtain ⟨x6, X6⟩ : ∃ x, Hid (x = i.ns.getD 6 0) := ⟨_, rfl⟩
  obtain ⟨x7, X7⟩ : ∃ x, Hid (x = i.ns.getD 7 0) := ⟨_, rfl⟩
  have hq := H1.out.lt
  have q10 : w1.cell? ⟨w.heap.size, 10, none⟩ = some (.int .i64 x6) := by rw [X6.out]; exact H1.out.ino.name 6 (by omega)
  have q11 : w1.cell? ⟨w.heap.size, 11, none⟩ = some (.int .i64 x7) := by rw [X7.out]; exact H1.out.ino.name 7 (by omega)
  have r6 := H1.out.row.cell 6 (by simp [hn])
  have r7 := H1.out.row.cell 7 (by simp [hn])
  have f6 := H1.out.row.frozen 6
  have f7 := H1.out.row.frozen 7
  have s2 : NW w Z i q i.ns ((w1.setCell ⟨q, 6, none⟩ (.int .i64 x6)).setCell ⟨q, 7, none⟩ (.int .i64 x7)) := by
    have rr := (H1.out.row.set 6 x6).set 7 x7
    rw [X6.out, X7.out, names_set hn] at rr
    rw [X6.out, X7.out]
    exact H1.out.low (((Below.refl _ _).setCell (by simp) _).setCell (by simp) _) rr
  have H2 : Hid _ := s2
  have HN : Hid (i.ns.length = 8) := hn
  clear s2 hn
  go_wp2_with (first | ((with_reducible show wpList _ _ _ ({ dst := _, op := Op.load 70 _, type := _, pos := _, after := _, guard := _ } :: _) _ _); refine wpList_load_row rfl _ rfl H2.out.row HN.out rfl ?_) | ((with_reducible show wpList _ _ _ ({ dst := _, op := Op.store 70 _ _, type := _, pos := _, after := _, guard := _ } :: _) _ _); refine wpList_store_row rfl _ _ rfl H2.out.res hzs HN.out rfl rfl ?_; intro w9 H9 b9 z9))
  exact bodyPost_ret (results_cell_row rfl _ _ (w.heap.size + 1) 70 _ (0, 0) _ rfl H9 Try.underlying70 rfl (by rw [Try.sz70, List.size_toArray, ivs_length, HN.out])) rfl ⟨rfl, H2.out.b.trans (b9.mono (by omega))⟩
end Go.Proofs.Ytabmogeicpphoaa
