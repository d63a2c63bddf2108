/- Maps from numbers to pointers, and their keys. -/
import Derived.Test.YtadadidccbhopaaGreatKPMap
import Derived.Lib.SlKeysI
namespace Go.Proofs.YtadadidccbhopaaGreat
open Go.RowKit
set_option maxRecDepth 100000
/-- Block b is a map that says f, of the keys ks. -/
structure KMap (kt : TypeId) (w : World) (b K : Nat) (f : Int → Nat) (ks : List Int) : Prop where
  own : ∃ D : DataW Unit, w.ownsMap Tryz.prog kt ptrR b K D ∧ Maps.Tidy D ∧ (∀ x : Int, D.atKey (.int .i64 x) (.lit (.int .i64 0)) = .lit (.int .i64 (f x))) ∧ (∀ x : Int, Maps.has D (.int .i64 x) = decide (x ∈ ks)) ∧ Maps.size D = ks.length
  nd : ks.Nodup
section
variable {kt mt et : TypeId} {w w' : World} {b K : Nat} {f : Int → Nat} {ks : List Int}
theorem KMap.lt (h : KMap kt w b K f ks) : b < w.heap.size := by
  obtain ⟨D, h1, _⟩ := h.own
  exact h1.lt
theorem KMap.same (h : KMap kt w b K f ks) (hb : w'.heap[b]? = w.heap[b]?) : KMap kt w' b K f ks := by
  obtain ⟨D, ⟨es, clock, h1, r1⟩, r⟩ := h.own
  exact ⟨⟨D, ⟨es, clock, by rw [hb]; exact h1, r1⟩, r⟩, h.nd⟩
theorem KMap.made (w : World) : KMap kt (w.alloc (.map #[] 0)) w.heap.size 0 (fun _ => 0) [] :=
  ⟨⟨.map [], World.ownsMap_made w Tryz.prog kt _, Maps.tidy_empty, fun x => by simp [DataW.atKey], fun x => by simp [Maps.has], rfl⟩, List.nodup_nil⟩
theorem KMap.look (hU : Tryz.prog.underlying kt = some (.int .i64)) (hM : Tryz.prog.underlying mt = some (.map kt et)) (hZ : ∀ w, (zeroValue et).run Tryz.prog w = .ok (.pointer none) w) (h : KMap kt w b K f ks) (x : Int) (hx : -9223372036854775808 ≤ x ∧ x ≤ 9223372036854775807) : (Instr.lookup mt (.map (some b)) (.int .i64 x) false).run Tryz.prog w = .ok (ptrV (f x)) w := by
  obtain ⟨D, h1, _, h2, _⟩ := h.own
  have hwf : (Lit.int .i64 x).wf = true := by simp only [Lit.wf, Bool.and_eq_true, decide_eq_true_eq]; exact hx
  obtain ⟨v, ps, hrun, hv⟩ := h1.lookup (Maps.int_keyed hU) hM (hZ w) (ptrR_V 0) (Maps.keyOf_int_mk hU hwf)
  have hv' : ptrR v = some (.lit (.int .i64 (f x)), ps) := by rw [hv]; congr 2; exact h2 x
  rw [ptrR_inv hv'] at hrun
  exact hrun
theorem KMap.put (hU : Tryz.prog.underlying kt = some (.int .i64)) (hM : Tryz.prog.underlying mt = some (.map kt et)) (h : KMap kt w b K f ks) (x : Int) (hx : -9223372036854775808 ≤ x ∧ x ≤ 9223372036854775807) (k : Nat) (hK : K ≤ 1000000) (hn : x ∉ ks) :
    ∃ w', (Instr.mapUpdate mt (.map (some b)) (.int .i64 x) (ptrV k)).run Tryz.prog w = .ok () w' ∧ KMap kt w' b (K + 1) (setF f x k) (ks ++ [x]) ∧ w.grownBy w' (some b) := by
  obtain ⟨D, h1, ht, h2, h3, h4⟩ := h.own
  have hwf : (Lit.int .i64 x).wf = true := by simp only [Lit.wf, Bool.and_eq_true, decide_eq_true_eq]; exact hx
  have hkl : WideAt.IsKeyLit (Lit.int .i64 x) := trivial
  obtain ⟨w', hrun, hown, hgr⟩ := h1.update (Maps.int_keyed hU) hM (by unfold maxLen; omega) (Maps.keyOf_int_mk hU hwf) (ptrR_V k)
  have hno : Maps.has D (.int .i64 x) = false := by rw [h3]; simpa using hn
  refine ⟨w', hrun, ⟨⟨_, hown, ht.put hkl _, fun y => ?_, fun y => ?_, ?_⟩, ?_⟩, hgr⟩
  · by_cases hxy : y = x
    · subst hxy
      rw [Maps.atKey_put_same ht.isMap hkl]; simp [setF]
    · rw [Maps.atKey_put_other (by simpa using hxy), h2 y]; simp [setF, hxy]
  · by_cases hxy : y = x
    · subst hxy
      rw [Maps.has_put_same ht.isMap hkl]; simp
    · rw [Maps.has_put_other (by simpa using hxy), h3 y]; simp [hxy]
  · rw [Maps.size_put ht, hno, h4]; simp
  · rw [List.nodup_append]
    exact ⟨h.nd, by simp, fun a ha c hc e => hn (by simp at hc; rw [← hc, ← e]; exact ha)⟩
theorem KMap.del (hU : Tryz.prog.underlying kt = some (.int .i64)) (hM : Tryz.prog.underlying mt = some (.map kt et)) (h : KMap kt w b K f ks) (x : Int) (hx : -9223372036854775808 ≤ x ∧ x ≤ 9223372036854775807) (hn : x ∈ ks) (ty : TypeId) :
    ∃ w', (Builtin.delete_ #[mt, kt] ty #[.map (some b), .int .i64 x]).run Tryz.prog w = .ok (.tuple #[]) w' ∧ KMap kt w' b K (setF f x 0) (ks.filter fun y => decide (y ≠ x)) ∧ w.grownBy w' (some b) := by
  obtain ⟨D, h1, ht, h2, h3, h4⟩ := h.own
  have hwf : (Lit.int .i64 x).wf = true := by simp only [Lit.wf, Bool.and_eq_true, decide_eq_true_eq]; exact hx
  obtain ⟨w', hrun, hown, hgr⟩ := h1.drop (Maps.int_keyed hU) hM (Maps.keyOf_int_mk hU hwf) ty
  have hyes : Maps.has D (.int .i64 x) = true := by rw [h3]; simpa using hn
  refine ⟨w', hrun, ⟨⟨_, hown, ht.del _, fun y => ?_, fun y => ?_, ?_⟩, h.nd.filter _⟩, hgr.grown⟩
  · by_cases hxy : y = x
    · subst hxy
      rw [Maps.atKey_del_same]; simp [setF]
    · rw [Maps.atKey_del_other (by simpa using hxy), h2 y]; simp [setF, hxy]
  · by_cases hxy : y = x
    · subst hxy
      rw [Maps.has_del_same]; simp
    · rw [Maps.has_del_other (by simpa using hxy), h3 y]; simp [hxy]
  · have h5 := Maps.size_del (k := .int .i64 x) ht
    rw [hyes, h4, if_pos rfl] at h5
    have h6 : (ks.filter fun y => decide (y ≠ x)).length + 1 = ks.length := by
      have := h.nd
      clear h5 h4 h3 h hyes
      induction ks with
      | nil => cases hn
      | cons a l ih =>
        obtain ⟨g1, g2⟩ := List.nodup_cons.1 this
        by_cases ha : a = x
        · subst ha
          rw [List.filter_cons_of_neg (by simp), List.filter_eq_self.2 (fun y hy => by simp; exact fun e => g1 (e ▸ hy))]; simp
        · rw [List.filter_cons_of_pos (by simpa using ha)]
          have := ih ((List.mem_cons.1 hn).resolve_left fun e => ha e.symm) g2
          simp only [List.length_cons]; omega
    omega
theorem KMap.len (hM : Tryz.prog.underlying mt = some (.map kt et)) (h : KMap kt w b K f ks) (ty : TypeId) : (Builtin.len_ #[mt] ty #[.map (some b)]).run Tryz.prog w = .ok (.int .i64 (ks.length : Int)) w := by
  obtain ⟨D, h1, _, _, _, h4⟩ := h.own
  rw [h1.len hM ty, h4]
theorem KMap.keys (hU : Tryz.prog.underlying kt = some (.int .i64)) (h : KMap kt w b K f ks) : ∃ D : DataW Unit, w.ownsMap Tryz.prog kt ptrR b K D ∧ Maps.size D = ks.length ∧ ks.Perm (intKeys D) := by
  obtain ⟨D, h1, _, _, h3, h4⟩ := h.own
  refine ⟨D, h1, h4, ?_⟩
  exact CollectedI.perm (left := fun _ => false) ⟨h.nd, fun x => by rw [h3]; simp⟩ h1 (Maps.int_keyed hU) hU fun _ => rfl
end
theorem zeroCh (w : World) : (zeroValue 147).run Tryz.prog w = .ok (.pointer none) w := Tryz.zeroValue147 w
theorem zeroBk (w : World) : (zeroValue 141).run Tryz.prog w = .ok (.pointer none) w := Tryz.zeroValue141 w
end Go.Proofs.YtadadidccbhopaaGreat
/- A set of numbers, as a map to struct{}. -/
namespace Go.Proofs.YtadadidccbhopaaGreat
open Go.RowKit
set_option maxRecDepth 100000
/-- Block b is a map that has the keys ks; it was written at most K times. -/
structure SMap (w : World) (b K : Nat) (ks : List Int) : Prop where
  own : ∃ D : DataW Unit, w.ownsMap Tryz.prog 2 unitElem b K D ∧ Maps.Tidy D ∧ ∀ x : Int, Maps.has D (.int .i64 x) = decide (x ∈ ks)
section
variable {w w' : World} {b K : Nat} {ks : List Int}
theorem SMap.same (h : SMap w b K ks) (hb : w'.heap[b]? = w.heap[b]?) : SMap w' b K ks := by
  obtain ⟨D, ⟨es, clock, h1, r1⟩, r⟩ := h.own
  exact ⟨⟨D, ⟨es, clock, by rw [hb]; exact h1, r1⟩, r⟩⟩
theorem SMap.made (w : World) : SMap (w.alloc (.map #[] 0)) w.heap.size 0 [] :=
  ⟨⟨.map [], World.ownsMap_made w Tryz.prog 2 _, Maps.tidy_empty, fun x => by simp [Maps.has]⟩⟩
theorem zeroU (w : World) : (zeroValue 163).run Tryz.prog w = .ok (.agg #[]) w := by
  have h : (Tryz.prog.info? 163).map (fun i => i.zero) = some (some (.agg #[])) := by kernel_rfl
  cases hi : Tryz.prog.info? 163 with
  | none => rw [hi] at h; cases h
  | some i =>
    rw [hi] at h
    have hz : i.zero = some (.agg #[]) := Option.some.inj h
    simp [zeroValue, typeInfo, hi, hz]
theorem SMap.look (h : SMap w b K ks) (x : Int) (hx : -9223372036854775808 ≤ x ∧ x ≤ 9223372036854775807) : (Instr.lookup 162 (.map (some b)) (.int .i64 x) true).run Tryz.prog w = .ok (.tuple #[.agg #[], .bool (decide (x ∈ ks))]) w := by
  obtain ⟨D, h1, _, h2⟩ := h.own
  have hwf : (Lit.int .i64 x).wf = true := by simp only [Lit.wf, Bool.and_eq_true, decide_eq_true_eq]; exact hx
  obtain ⟨v, ps, hrun, hv⟩ := h1.look_ok (Maps.int_keyed Tryz.underlying2) Tryz.underlying162 (zeroU w) unitElem_mk (Maps.keyOf_int_mk Tryz.underlying2 hwf)
  obtain ⟨rfl, _⟩ := unitElem_inv hv
  rw [h2 x] at hrun
  exact hrun
theorem SMap.put (h : SMap w b K ks) (x : Int) (hx : -9223372036854775808 ≤ x ∧ x ≤ 9223372036854775807) (hK : K ≤ 1000000000) :
    ∃ w', (Instr.mapUpdate 162 (.map (some b)) (.int .i64 x) (.agg #[])).run Tryz.prog w = .ok () w' ∧ SMap w' b (K + 1) (ks ++ [x]) ∧ w.grownBy w' (some b) := by
  obtain ⟨D, h1, ht, h3⟩ := h.own
  have hwf : (Lit.int .i64 x).wf = true := by simp only [Lit.wf, Bool.and_eq_true, decide_eq_true_eq]; exact hx
  have hkl : WideAt.IsKeyLit (Lit.int .i64 x) := trivial
  obtain ⟨w', hrun, hown, hgr⟩ := h1.update (Maps.int_keyed Tryz.underlying2) Tryz.underlying162 (by unfold maxLen; omega) (Maps.keyOf_int_mk Tryz.underlying2 hwf) unitElem_mk
  refine ⟨w', hrun, ⟨⟨_, hown, ht.put hkl _, fun y => ?_⟩⟩, hgr⟩
  by_cases hxy : y = x
  · subst hxy
    rw [Maps.has_put_same ht.isMap hkl]; simp
  · rw [Maps.has_put_other (by simpa using hxy), h3 y]; simp [hxy]
end
theorem wpList_sput {ops : Array Oper} {rest : List Oper} {o : Oper} {a : Act} {w : World} {Q : Exit → Act → World → Prop} (hgd : o.guard = none) (m x v : Operand) (ho : o.op = .mapUpdate 162 m x v) {b K : Nat} {n : Int} {ks : List Int}
    (H : SMap w b K ks) (hn : -9223372036854775808 ≤ n ∧ n ≤ 9223372036854775807) (hK : K ≤ 1000000000) (hm : a.eval m = .map (some b)) (hx : a.eval x = .int .i64 n) (hv : a.eval v = .agg #[])
    (h : ∀ w', SMap w' b (K + 1) (ks ++ [n]) → w.grownBy w' (some b) → wpList Tryz.prog ops Q rest (a.put o.dst undef) w') : wpList Tryz.prog ops Q (o :: rest) a w := by
  refine wpList_plain hgd fun K hK' => ?_
  obtain ⟨w', hrun, h1, h2⟩ := H.put n hn hK
  unfold Oper.wp
  simp [execOp, ho, hm, hx, hv, hrun, Result.andThen]
  exact hK' _ _ (h w' h1 h2)
end Go.Proofs.YtadadidccbhopaaGreat
