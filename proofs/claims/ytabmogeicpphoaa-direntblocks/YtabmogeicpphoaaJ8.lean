/- Entries as values and in memory: laws for the walk. -/
import Derived.Test.YtabmogeicpphoaaJ5
import Derived.Test.YtabmogeicpphoaaJ7
namespace Go.Proofs.Ytabmogeicpphoaa
open Go.RowKit
/-- An entry: Slot, Leaving, Name. -/
structure Ent where
  sl : Int
  lv : Bool
  nm : List UInt8
/-- Its cells. -/
def eL (e : Ent) : List Value := [.int .i64 e.sl, .bool e.lv, .string (str e.nm)]
def eA (e : Ent) : Array Value := (eL e).toArray
theorem eL_one (e : Ent) : ∀ v ∈ eL e, v.oneCell' = true := by
  intro v hv
  simp only [eL, List.mem_cons, List.not_mem_nil, or_false] at hv
  rcases hv with rfl | rfl | rfl <;> rfl
theorem eA_one (e : Ent) : (eA e).all (·.oneCell') = true := all_oneCell_toArray (eL_one e)
theorem eA_size (e : Ent) : (eA e).size = 3 := rfl
def zent : Ent := ⟨0, false, []⟩
theorem Try.sz48 : (Try.prog.info? 48).map (·.size) = some 3 := by kernel_rfl
theorem zeroE : ∀ w, (zeroValue 48).run Try.prog w = .ok (.agg (eA zent)) w := by
  have h : (Try.prog.info? 48).map (fun i => i.zero) = some (some (.agg (eA zent))) := by kernel_rfl
  intro w
  cases hi : Try.prog.info? 48 with
  | none => rw [hi] at h; cases h
  | some i =>
    rw [hi] at h
    have hz : i.zero = some (.agg (eA zent)) := Option.some.inj h
    have key : ∀ (v : Value) (w : World), i.zero = some v → (zeroValue 48).run Try.prog w = .ok v w := by
      intro v w hv
      simp [zeroValue, typeInfo, hi, hv]
    exact key _ w hz
/-- An entry lies at p. -/
structure EntAt (w : World) (p : Nat) (e : Ent) : Prop where
  row : w.heap[p]? = some (.cells (eA e) 48 (0, 0))
section
variable {w w' : World} {p q : Nat} {e : Ent}
theorem EntAt.lt (h : EntAt w p e) : p < w.heap.size := (Array.getElem?_eq_some_iff.1 h.row).1
theorem EntAt.below (h : EntAt w p e) {B : Nat} (hb : Below B w w') (hp : p < B) : EntAt w' p e := ⟨by rw [hb.block p hp]; exact h.row⟩
theorem EntAt.up (h : EntAt w p e) (hb : Below w.heap.size w w') : EntAt w' p e := h.below hb h.lt
theorem EntAt.drew (h : EntAt w p e) : EntAt w.drew p e := ⟨h.row⟩
theorem EntAt.only (h : EntAt w p e) (ho : Only q w w') (hp : p ≠ q) : EntAt w' p e := ⟨by rw [ho.blk p hp]; exact h.row⟩
theorem EntAt.c0 (h : EntAt w p e) : w.cell? ⟨p, 0, none⟩ = some (.int .i64 e.sl) := by
  rw [cell_of_row w p 0 _ _ _ h.row]; simp [eA, eL]
theorem EntAt.c1 (h : EntAt w p e) : w.cell? ⟨p, 1, none⟩ = some (.bool e.lv) := by
  rw [cell_of_row w p 1 _ _ _ h.row]; simp [eA, eL]
theorem EntAt.c2 (h : EntAt w p e) : w.cell? ⟨p, 2, none⟩ = some (.string (str e.nm)) := by
  rw [cell_of_row w p 2 _ _ _ h.row]; simp [eA, eL]
theorem EntAt.frozen (h : EntAt w p e) (j : Nat) : w.frozen? ⟨p, j, none⟩ = false := frozen_of_row w p j _ _ h.row
theorem EntAt.range (h : EntAt w p e) : w.rangeAt p 0 (eL e) := fun j v hv => by
  rw [Nat.zero_add, cell_of_row w p j _ _ _ h.row]
  simpa [eA] using hv
theorem ent_new (w : World) (e : Ent) : EntAt (w.alloc (.cells (eA e) 48)) w.heap.size e := ⟨heap_alloc_new _ _⟩
theorem EntAt.alloc (h : EntAt w p e) (o : Obj) : EntAt (w.alloc o) p e := h.up ((Below.refl _ _).alloc (Nat.le_refl _) _)
end
/-- The load of a whole entry. -/
theorem wpList_load_ent {ops : Array Oper} {rest : List Oper} {op : Oper} {a : Act} {w : World} {Q : Exit → Act → World → Prop} (hw : Region.wanted op (yielded ops a.tmps) = true) (x : Operand) (ho : op.op = .load 48 x)
    {p : Nat} {e : Ent} (H : EntAt w p e) (hx : a.eval x = .pointer (some ⟨p, 0, none⟩))
    (h : wpList Try.prog ops Q rest (a.put op.dst (.agg (eA e))) w) : wpList Try.prog ops Q (op :: rest) a w :=
  wpList_want hw fun _ hK => wp_load_mid 48 x ho p 0 hx _ _ H.range Try.underlying48 rfl (by rw [Try.sz48]; rfl) (hK _ _ h)
theorem exec_load_ent {ev : Operand → Value} {oi : Oper} {x : Operand} {w : World} {p : Nat} {e : Ent} (H : EntAt w p e) (ho : oi.op = .load 48 x) (hx : ev x = .pointer (some ⟨p, 0, none⟩)) :
    (execOp ev oi).run Try.prog w = .ok (.value (.agg (eA e))) w := by
  unfold execOp
  simp only [ho, hx, Instr.loadAt, Instr.sureAddr, Sem.run_bind, Sem.run_pure, Result.andThen_ok, run_loadVar_row w p 48 48 _ _ _ H.row Try.underlying48 rfl (by rw [Try.sz48, eA_size])]
/-- The store of a whole entry. -/
theorem wp_store_entO {op : Oper} {a : Act} {w : World} {K : Act → World → Prop} {Q : Exit → Act → World → Prop} (x y : Operand) (ho : op.op = .store 48 x y)
    {p : Nat} {e j : Ent} (H : EntAt w p e) (hx : a.eval x = .pointer (some ⟨p, 0, none⟩)) (hy : a.eval y = .agg (eA j))
    (h : ∀ w', EntAt w' p j → Only p w w' → w'.heap.size = w.heap.size → K (a.put op.dst undef) w') : op.wp Try.prog a w K Q := by
  have hrun := run_storeVar_row (P := Try.prog) w p 48 48 (eA e) (eA j) H.row (by rw [Try.sz48, eA_size]) (by rw [eA_size, eA_size]) (eA_one _)
  unfold Oper.wp execOp
  simp only [ho, hx, hy, Instr.storeAt, Instr.sureAddr, Sem.run_bind, Sem.run_pure, Result.andThen_ok, hrun]
  exact h _ ⟨setRow_heap w p _ _ 48 _ H.row⟩ (only_setRow _ _ _) (by simp)
theorem wpList_store_ent {ops : Array Oper} {rest : List Oper} {op : Oper} {a : Act} {w : World} {Q : Exit → Act → World → Prop} (hgd : op.guard = none) (x y : Operand) (ho : op.op = .store 48 x y)
    {p : Nat} {e j : Ent} (H : EntAt w p e) (hx : a.eval x = .pointer (some ⟨p, 0, none⟩)) (hy : a.eval y = .agg (eA j))
    (h : ∀ w', EntAt w' p j → Only p w w' → w'.heap.size = w.heap.size → wpList Try.prog ops Q rest (a.put op.dst undef) w') : wpList Try.prog ops Q (op :: rest) a w :=
  wpList_plain hgd fun _ hK => wp_store_entO x y ho H hx hy fun w' h1 h2 h3 => hK _ _ (h w' h1 h2 h3)
theorem results_ent {fn : Func} {q u : Tmp} (h : fn.results = #[.cell q 48, .tmp u]) (tmps : Array Value) {w : World} {p : Nat} {e : Ent} (H : EntAt w p e) (hp : tmps.getD q undef = .pointer (some ⟨p, 0, none⟩)) :
    (results fn tmps).run Try.prog w = .ok (.tuple #[.agg (eA e), tmps.getD u undef]) w := by
  rw [results_cell_tmp h, hp]
  simp [asAddr, run_loadVar_row w p 48 48 _ _ _ H.row Try.underlying48 rfl (by rw [Try.sz48, eA_size]), Result.andThen]
/-- Are two entries alike? -/
def eqE (i j : Ent) : Bool := i.sl == j.sl && (i.lv == j.lv && i.nm == j.nm)
theorem eqE_iff {i j : Ent} : eqE i j = true ↔ i = j := by
  obtain ⟨a, b, c⟩ := i
  obtain ⟨a', b', c'⟩ := j
  simp [eqE]
theorem eqE_refl (i : Ent) : eqE i i = true := eqE_iff.2 rfl
theorem three_fieldsE {fs : List Field} (h : (fs.map fun f => (f.name == "_", f.type, f.offset)) = [(false, 3, 0), (false, 4, 1), (false, 9, 2)]) :
    ∃ f g k : Field, fs = [f, g, k] ∧ (f.name ≠ "_" ∧ f.type = 3 ∧ f.offset = 0) ∧ (g.name ≠ "_" ∧ g.type = 4 ∧ g.offset = 1) ∧ (k.name ≠ "_" ∧ k.type = 9 ∧ k.offset = 2) := by
  have hl : fs.length = 3 := by have := congrArg List.length h; simpa using this
  obtain ⟨f, g, k, rfl⟩ : ∃ f g k, fs = [f, g, k] := by
    match fs, hl with
    | [f, g, k], _ => exact ⟨f, g, k, rfl⟩
  simp only [List.map_cons, List.map_nil, List.cons.injEq, Prod.mk.injEq, beq_eq_false_iff_ne, and_true] at h
  exact ⟨f, g, k, rfl, h.1, h.2.1, h.2.2⟩
theorem part_bool (cs : Array Value) (o : Nat) (x : Bool) (hx : cs[o]? = some (.bool x)) (w : World) : (part 4 cs o).run Try.prog w = .ok (.bool x) w := by
  simp [part, isAgg, run_underlying Try.underlying4, hx]
theorem part_str (cs : Array Value) (o : Nat) (x : ByteArray) (hx : cs[o]? = some (.string x)) (w : World) : (part 9 cs o).run Try.prog w = .ok (.string x) w := by
  simp [part, isAgg, run_underlying Try.underlying9, hx]
theorem run_eq_ent (i j : Ent) (w : World) :
    (Op.equalIn 10000 48 (.agg (eA i)) (.agg (eA j))).run Try.prog w = .ok (eqE i j) w := by
  obtain ⟨a, b, c⟩ := i
  obtain ⟨a', b', c'⟩ := j
  rw [run_equalIn_struct (P := Try.prog) w 9999 48 _ _ (by kernel_rfl) (by kernel_rfl)]
  obtain ⟨f0, f1, f2, hfs, h0, h1, h2⟩ := three_fieldsE (fs := (Try.prog.fieldsOf 48).toList) (by kernel_rfl)
  rw [hfs]
  have e : eqE ⟨a, b, c⟩ ⟨a', b', c'⟩ = (a == a' && (b == b' && ((str c).toList == (str c').toList && true))) := by
    rw [str_beqD]; simp [eqE]
  rw [e]
  refine eqf_step h0.1 (by rw [h0.2.1, h0.2.2]; exact part_int 3 Try.underlying3 _ _ a rfl w) (by rw [h0.2.1, h0.2.2]; exact part_int 3 Try.underlying3 _ _ a' rfl w) (by rw [h0.2.1]; exact eq_int 9998 3 Try.underlying3 _ _ w) ?_
  refine eqf_step h1.1 (by rw [h1.2.1, h1.2.2]; exact part_bool _ _ b rfl w) (by rw [h1.2.1, h1.2.2]; exact part_bool _ _ b' rfl w) (by rw [h1.2.1]; exact run_equalIn_bool w 9998 4 _ _ Try.underlying4) ?_
  refine eqf_step h2.1 (by rw [h2.2.1, h2.2.2]; exact part_str _ _ (str c) rfl w) (by rw [h2.2.1, h2.2.2]; exact part_str _ _ (str c') rfl w) (by rw [h2.2.1]; exact run_equalIn_string w 9998 9 _ _ Try.underlying9) ?_
  simp [Op.eqFields]
theorem wpList_eq_ent {ops : Array Oper} {rest : List Oper} {op : Oper} {a : Act} {w : World} {Q : Exit → Act → World → Prop} (hw : Region.wanted op (yielded ops a.tmps) = true) (x y : Operand) (ho : op.op = .binOp .eql 48 x y 48)
    {i j : Ent} (hx : a.eval x = .agg (eA i)) (hy : a.eval y = .agg (eA j)) {b : Bool} (he : eqE i j = b)
    (h : wpList Try.prog ops Q rest (a.put op.dst (.bool b)) w) : wpList Try.prog ops Q (op :: rest) a w := by
  subst he
  refine wpList_want hw fun K hK => ?_
  have hg : ∀ X Y (w : World), (eqGuard .eql 48 x y (.agg X) (.agg Y)).run Try.prog w = .ok () w := fun X Y w => run_eqGuard_agg w .eql 48 x y X Y (by kernel_rfl)
  unfold Oper.wp execOp
  simp only [ho, hx, hy]
  simp [hg, run_eql_struct, run_eq_ent, Result.andThen]
  exact hK _ _ h
theorem wpList_neq_ent {ops : Array Oper} {rest : List Oper} {op : Oper} {a : Act} {w : World} {Q : Exit → Act → World → Prop} (hw : Region.wanted op (yielded ops a.tmps) = true) (x y : Operand) (ho : op.op = .binOp .neq 48 x y 48)
    {i j : Ent} (hx : a.eval x = .agg (eA i)) (hy : a.eval y = .agg (eA j)) {b : Bool} (he : (!eqE i j) = b)
    (h : wpList Try.prog ops Q rest (a.put op.dst (.bool b)) w) : wpList Try.prog ops Q (op :: rest) a w := by
  subst he
  refine wpList_want hw fun K hK => ?_
  have hg : ∀ X Y (w : World), (eqGuard .neq 48 x y (.agg X) (.agg Y)).run Try.prog w = .ok () w := fun X Y w => run_eqGuard_agg w .neq 48 x y X Y (by kernel_rfl)
  unfold Oper.wp execOp
  simp only [ho, hx, hy]
  simp [hg, run_neq_struct, run_eq_ent, Result.andThen]
  exact hK _ _ h
theorem exec_neq_ent {ev : Operand → Value} {oi : Oper} {X Y : Operand} {w : World} {i j : Ent} {b : Bool} (hb : (!eqE i j) = b) (ho : oi.op = .binOp .neq 48 X Y 48) (eX : ev X = .agg (eA i)) (eY : ev Y = .agg (eA j)) :
    (execOp ev oi).run Try.prog w = .ok (.value (.bool b)) w := by
  subst hb
  have hg : ∀ A B (w : World), (eqGuard .neq 48 X Y (.agg A) (.agg B)).run Try.prog w = .ok () w := fun A B w => run_eqGuard_agg w .neq 48 X Y A B (by kernel_rfl)
  unfold execOp
  simp only [ho, eX, eY]
  simp [hg, run_neq_struct, run_eq_ent, Result.andThen]
/-- An entry lies behind what there was. -/
structure PE (w0 : World) (e : Ent) (W : World) : Prop where
  b : Below w0.heap.size w0 W
  ent : EntAt W w0.heap.size e
theorem PE.up {w0 W W' : World} {e : Ent} (h : PE w0 e W) (hb : Below W.heap.size W W') : PE w0 e W' := ⟨h.b.trans (hb.mono h.b.size), h.ent.up hb⟩
theorem PE.low {w0 W W' : World} {e : Ent} (h : PE w0 e W) (hb : Below (w0.heap.size + 1) W W') : PE w0 e W' := ⟨h.b.trans (hb.mono (by omega)), h.ent.below hb (by omega)⟩
theorem PE.start (w : World) (e : Ent) : PE w e (w.alloc (.cells (eA e) 48)) := ⟨(Below.refl _ _).alloc (Nat.le_refl _) _, ent_new w e⟩
end Go.Proofs.Ytabmogeicpphoaa
/- dirent.right, leveeref08.Right. -/
namespace Go.Proofs.Ytabmogeicpphoaa
open Go.RowKit
/-- An entry that can be. -/
def rtE (e : Ent) : Bool := if e.sl = 0 then eqE e zent else (decide (1 ≤ e.sl) && decide (e.sl ≤ 1023)) && nmB e.nm
set_option maxHeartbeats 2000000 in
theorem eright_any (e : Ent) (w : World) :
    Calls Try.prog 61 #[.agg (eA e)] w fun r w' => r = .returned (.bool (rtE e)) ∧ Below w.heap.size w w' := by
  have hz := zeroE
  have HX : Hid _ := PE.start w e
  have q0 := HX.out.ent.c0
  have q2 := HX.out.ent.c2
  have NM := dname_any e.nm
  have FR : Hid (e.sl = 0 → ∀ b, eqE e zent = b → Ending.returned (.bool b) = .returned (.bool (rtE e))) := fun h b hb => by rw [rtE, if_pos h, hb]
  have FB : Hid (∀ h : (¬ e.sl = 0), ∀ b, ((decide (1 ≤ e.sl) && decide (e.sl ≤ 1023)) && nmB e.nm) = b → Ending.returned (.bool b) = .returned (.bool (rtE e))) := fun h b hb => by rw [rtE, if_neg h, hb]
  obtain ⟨S, HS⟩ : ∃ x, Hid (x = e.sl) := ⟨_, rfl⟩
  obtain ⟨N, HN⟩ : ∃ x, Hid (x = e.nm) := ⟨_, rfl⟩
  rw [← HS.out] at q0 FR FB
  rw [← HN.out] at q2 FB NM
  by_cases k0 : S = 0
  · go_enter Try.func61, Try.ntmps61
    go_wp2_with (first | ((with_reducible show wpList _ _ _ ({ dst := _, op := Op.load 48 _, type := _, pos := _, after := _, guard := _ } :: _) _ _); refine wpList_load_ent rfl _ rfl (HX.out.ent) rfl ?_) | ((with_reducible show wpList _ _ _ ({ dst := _, op := Op.binOp BinOp.eql 48 _ _ 48, type := _, pos := _, after := _, guard := _ } :: _) _ _); refine wpList_eq_ent rfl _ _ rfl rfl rfl rfl ?_))
    go_ret
    exact ⟨FR.out k0 _ rfl, HX.out.b⟩
  have kb : (S == 0) = false := by simpa using k0
  by_cases s0 : S < 1
  · have d0 : decide (1 ≤ S) = false := by simp; omega
    go_enter Try.func61, Try.ntmps61
    go_wp2_with fail
    go_ret
    exact ⟨FB.out k0 _ (by rw [d0]; rfl), HX.out.b⟩
  have s0' : 1 ≤ S := by omega
  by_cases s1 : 1023 < S
  · have d0 : decide (S ≤ 1023) = false := by simp; omega
    go_enter Try.func61, Try.ntmps61
    go_wp2_with fail
    go_ret
    exact ⟨FB.out k0 _ (by rw [d0]; simp), HX.out.b⟩
  have s1' : S ≤ 1023 := by omega
  generalize nmB N = NB at *
  go_enter Try.func61, Try.ntmps61
  go_wp2_with fail
  refine (NM _).mono ?_
  rintro r w1 ⟨rfl, h1⟩
  have HB := (HX.out.up h1).b
  go_wp2
  go_ret
  exact ⟨FB.out k0 _ (by simp [s0', s1']), HB⟩
set_option maxHeartbeats 2000000 in
theorem rright8_any (e : Ent) (hl : e.nm.length ≤ 9223372036854775807) (w : World) :
    Calls Try.prog 63 #[.agg (eA e)] w fun r w' => r = .returned (.bool (rtE e)) ∧ Below w.heap.size w w' := by
  have HX : Hid _ := PE.start w e
  have q0 := HX.out.ent.c0
  have q1 := HX.out.ent.c1
  have q2 := HX.out.ent.c2
  have NM := rname_any e.nm hl
  have FR : Hid (e.sl = 0 → ∀ b, (!e.lv && (e.nm == [])) = b → Ending.returned (.bool b) = .returned (.bool (rtE e))) := fun h b hb => by
    rw [rtE, if_pos h, ← hb]
    unfold eqE
    rw [h]
    cases hv : e.lv <;> simp [zent]
  have FB : Hid (∀ h : (¬ e.sl = 0), ∀ b, ((decide (1 ≤ e.sl) && decide (e.sl ≤ 1023)) && nmB e.nm) = b → Ending.returned (.bool b) = .returned (.bool (rtE e))) := fun h b hb => by rw [rtE, if_neg h, hb]
  have e0 : ((str e.nm).toList == []) = (e.nm == []) := by rw [str_toList]
  obtain ⟨S, HS⟩ : ∃ x, Hid (x = e.sl) := ⟨_, rfl⟩
  obtain ⟨L, HL⟩ : ∃ x, Hid (x = e.lv) := ⟨_, rfl⟩
  obtain ⟨N, HN⟩ : ∃ x, Hid (x = e.nm) := ⟨_, rfl⟩
  rw [← HS.out] at q0 FR FB
  rw [← HL.out] at q1 FR
  rw [← HN.out] at q2 FR FB NM e0
  by_cases k0 : S = 0
  · cases L
    · cases hn : (N == [])
      · rw [hn] at e0 FR
        clear hn
        go_enter Try.func63, Try.ntmps63
        go_wp2_with fail
        go_ret
        exact ⟨FR.out k0 _ rfl, HX.out.b⟩
      · rw [hn] at e0 FR
        clear hn
        go_enter Try.func63, Try.ntmps63
        go_wp2_with fail
        go_ret
        exact ⟨FR.out k0 _ rfl, HX.out.b⟩
    · go_enter Try.func63, Try.ntmps63
      go_wp2_with fail
      go_ret
      exact ⟨FR.out k0 _ rfl, HX.out.b⟩
  have kb : (S == 0) = false := by simpa using k0
  by_cases s0 : S < 1
  · have d0 : decide (1 ≤ S) = false := by simp; omega
    go_enter Try.func63, Try.ntmps63
    go_wp2_with fail
    go_ret
    exact ⟨FB.out k0 _ (by rw [d0]; rfl), HX.out.b⟩
  have s0' : 1 ≤ S := by omega
  by_cases s1 : 1023 < S
  · have d0 : decide (S ≤ 1023) = false := by simp; omega
    go_enter Try.func63, Try.ntmps63
    go_wp2_with fail
    go_ret
    exact ⟨FB.out k0 _ (by rw [d0]; simp), HX.out.b⟩
  have s1' : S ≤ 1023 := by omega
  generalize nmB N = NB at *
  go_enter Try.func63, Try.ntmps63
  go_wp2_with fail
  refine (NM _).mono ?_
  rintro r w1 ⟨rfl, hw1⟩
  rw [hw1]
  go_wp2
  go_ret
  exact ⟨FB.out k0 _ (by simp [s0', s1']), HX.out.b⟩
/-- The bytes of an entry. -/
def lvB (b : Bool) : UInt8 := if b then 1 else 0
def layE (e : Ent) : List UInt8 := leB 2 e.sl.toNat ++ [lvB e.lv, UInt8.ofNat e.nm.length] ++ e.nm ++ List.replicate (28 - e.nm.length) 0
theorem layE_length {e : Ent} (h : e.nm.length ≤ 24) : (layE e).length = 32 := by simp [layE, leB_length]; omega
structure EnR (e : Ent) : Prop where
  sl : 0 ≤ e.sl ∧ e.sl ≤ 1023
  nm : e.nm.length ≤ 24
theorem rtE_enR {e : Ent} (h : rtE e = true) : EnR e := by
  unfold rtE at h
  by_cases hk : e.sl = 0
  · rw [if_pos hk, eqE_iff] at h
    subst h
    exact ⟨by simp [zent], by simp [zent]⟩
  · rw [if_neg hk] at h
    simp only [Bool.and_eq_true, decide_eq_true_eq, nmB] at h
    obtain ⟨h1, ⟨⟨h2, h3⟩, _⟩, _⟩ := h
    exact ⟨by omega, h3⟩
end Go.Proofs.Ytabmogeicpphoaa
