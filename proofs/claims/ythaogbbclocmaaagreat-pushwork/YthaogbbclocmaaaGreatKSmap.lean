/- A set of numbers, as a map to struct{}. -/
import Derived.Test.YthaogbbclocmaaaGreatKKMap
namespace Go.Proofs.YthaogbbclocmaaaGreat
open Go.RowKit
set_option maxRecDepth 100000
/-- Block b is a map that has the keys ks; it was written at most K times. -/
structure SMap (w : World) (b K : Nat) (ks : List Int) : Prop where
  own : ∃ D : DataW Unit, w.ownsMap Tryz.prog 2 unitElem b K D ∧ Maps.Tidy D ∧ ∀ x : Int, Maps.has D (.int .i64 x) = decide (x ∈ ks)
section
variable {w w' : World} {b K : Nat} {ks : List Int}
theorem SMap.same (h : SMap w b K ks) (hb : w'.heap[b]? = w.heap[b]?) : SMap w' b K ks := by
  obtain ⟨D, ⟨es, clock, h1, r1⟩, r⟩ := h.own
  exact ⟨⟨D, ⟨es, clock, by rw [hb]; exact h1, r1⟩, r⟩⟩
theorem SMap.made (w : World) : SMap (w.alloc (.map #[] 0)) w.heap.size 0 [] :=
  ⟨⟨.map [], World.ownsMap_made w Tryz.prog 2 _, Maps.tidy_empty, fun x => by simp [Maps.has]⟩⟩
theorem zeroU (w : World) : (zeroValue 163).run Tryz.prog w = .ok (.agg #[]) w := by
  have h : (Tryz.prog.info? 163).map (fun i => i.zero) = some (some (.agg #[])) := by kernel_rfl
  cases hi : Tryz.prog.info? 163 with
  | none => rw [hi] at h; cases h
  | some i =>
    rw [hi] at h
    have hz : i.zero = some (.agg #[]) := Option.some.inj h
    simp [zeroValue, typeInfo, hi, hz]
theorem SMap.look (h : SMap w b K ks) (x : Int) (hx : -9223372036854775808 ≤ x ∧ x ≤ 9223372036854775807) : (Instr.lookup 162 (.map (some b)) (.int .i64 x) true).run Tryz.prog w = .ok (.tuple #[.agg #[], .bool (decide (x ∈ ks))]) w := by
  obtain ⟨D, h1, _, h2⟩ := h.own
  have hwf : (Lit.int .i64 x).wf = true := by simp only [Lit.wf, Bool.and_eq_true, decide_eq_true_eq]; exact hx
  obtain ⟨v, ps, hrun, hv⟩ := h1.look_ok (Maps.int_keyed Tryz.underlying2) Tryz.underlying162 (zeroU w) unitElem_mk (Maps.keyOf_int_mk Tryz.underlying2 hwf)
  obtain ⟨rfl, _⟩ := unitElem_inv hv
  rw [h2 x] at hrun
  exact hrun
theorem SMap.put (h : SMap w b K ks) (x : Int) (hx : -9223372036854775808 ≤ x ∧ x ≤ 9223372036854775807) (hK : K ≤ 1000000000) :
    ∃ w', (Instr.mapUpdate 162 (.map (some b)) (.int .i64 x) (.agg #[])).run Tryz.prog w = .ok () w' ∧ SMap w' b (K + 1) (ks ++ [x]) ∧ w.grownBy w' (some b) := by
  obtain ⟨D, h1, ht, h3⟩ := h.own
  have hwf : (Lit.int .i64 x).wf = true := by simp only [Lit.wf, Bool.and_eq_true, decide_eq_true_eq]; exact hx
  have hkl : WideAt.IsKeyLit (Lit.int .i64 x) := trivial
  obtain ⟨w', hrun, hown, hgr⟩ := h1.update (Maps.int_keyed Tryz.underlying2) Tryz.underlying162 (by unfold maxLen; omega) (Maps.keyOf_int_mk Tryz.underlying2 hwf) unitElem_mk
  refine ⟨w', hrun, ⟨⟨_, hown, ht.put hkl _, fun y => ?_⟩⟩, hgr⟩
  by_cases hxy : y = x
  · subst hxy
    rw [Maps.has_put_same ht.isMap hkl]; simp
  · rw [Maps.has_put_other (by simpa using hxy), h3 y]; simp [hxy]
end
theorem wpList_sput {ops : Array Oper} {rest : List Oper} {o : Oper} {a : Act} {w : World} {Q : Exit → Act → World → Prop} (hgd : o.guard = none) (m x v : Operand) (ho : o.op = .mapUpdate 162 m x v) {b K : Nat} {n : Int} {ks : List Int}
    (H : SMap w b K ks) (hn : -9223372036854775808 ≤ n ∧ n ≤ 9223372036854775807) (hK : K ≤ 1000000000) (hm : a.eval m = .map (some b)) (hx : a.eval x = .int .i64 n) (hv : a.eval v = .agg #[])
    (h : ∀ w', SMap w' b (K + 1) (ks ++ [n]) → w.grownBy w' (some b) → wpList Tryz.prog ops Q rest (a.put o.dst undef) w') : wpList Tryz.prog ops Q (o :: rest) a w := by
  refine wpList_plain hgd fun K hK' => ?_
  obtain ⟨w', hrun, h1, h2⟩ := H.put n hn hK
  unfold Oper.wp
  simp [execOp, ho, hm, hx, hv, hrun, Result.andThen]
  exact hK' _ _ (h w' h1 h2)
end Go.Proofs.YthaogbbclocmaaaGreat
