/- A map that counts numbers. -/
import Derived.Test.YtabmogeicpphoaaRnames
import Derived.Maps.OwnOps
import Derived.Maps.Views
namespace Go.Proofs.Ytabmogeicpphoaa
open Go.RowKit
/-- Block b is a map that counts the numbers of l. -/
def Met (w : World) (b : Nat) (l : List Int) : Prop :=
  ∃ (n : Nat) (D : DataW Unit), w.ownsMap Try.prog 3 (plainElem Try.prog 3) b n D ∧ n ≤ l.length ∧ (∃ es, D = .map es) ∧ ∀ x : Int, (Lit.int .i64 x).wf = true → D.atKey (.int .i64 x) (.lit (.int .i64 0)) = .lit (.int .i64 (l.count x : Nat))
theorem Met.lt {w : World} {b : Nat} {l : List Int} (h : Met w b l) : b < w.heap.size := by
  obtain ⟨n, D, h1, _⟩ := h
  exact h1.lt
theorem Met.kept {w w' : World} {b : Nat} {l : List Int} {row : Option Nat} (h : Met w b l) (hg : w.grownBy w' row) (hne : some b ≠ row) : Met w' b l := by
  obtain ⟨n, D, h1, r⟩ := h
  exact ⟨n, D, h1.kept hg hne, r⟩
theorem Met.below {w w' : World} {b B : Nat} {l : List Int} (h : Met w b l) (hb : Below B w w') (hB : b < B) : Met w' b l := by
  obtain ⟨n, D, ⟨es, clock, h1, r1⟩, r⟩ := h
  exact ⟨n, D, ⟨es, clock, by rw [hb.block b hB]; exact h1, r1⟩, r⟩
theorem Met.up {w w' : World} {b : Nat} {l : List Int} (h : Met w b l) (hb : Below w.heap.size w w') : Met w' b l := h.below hb h.lt
theorem Met.made (w : World) : Met (w.alloc (.map #[] 0)) w.heap.size [] :=
  ⟨0, .map [], World.ownsMap_made w Try.prog 3 _, Nat.le_refl _, ⟨[], rfl⟩, fun x _ => by simp [DataW.atKey]⟩
theorem zero3 (w : World) : (zeroValue 3).run Try.prog w = .ok (.int .i64 0) w := by
  have h : (Try.prog.info? 3).map (fun i => i.zero) = some (some (.int .i64 0)) := by kernel_rfl
  cases hi : Try.prog.info? 3 with
  | none => rw [hi] at h; cases h
  | some i =>
    rw [hi] at h
    have hz : i.zero = some (.int .i64 0) := Option.some.inj h
    simp [zeroValue, typeInfo, hi, hz]
theorem Met.look {w : World} {b : Nat} {l : List Int} (h : Met w b l) (x : Int) (hx : (Lit.int .i64 x).wf = true) : (Instr.lookup 73 (.map (some b)) (.int .i64 x) false).run Try.prog w = .ok (.int .i64 (l.count x : Nat)) w := by
  obtain ⟨n, D, h1, _, _, h2⟩ := h
  obtain ⟨c, hrun, hat, _⟩ := h1.lookup_int (Maps.int_keyed Try.underlying3) Try.underlying73 Try.underlying3 (zero3 w) (Maps.keyOf_int_mk Try.underlying3 hx)
  rw [h2 x hx] at hat
  cases hat
  exact hrun
theorem Met.inc {w : World} {b : Nat} {l : List Int} (h : Met w b l) (x : Int) (hx : (Lit.int .i64 x).wf = true) (hl : l.length ≤ 1000) :
    ∃ w', (Instr.mapUpdate 73 (.map (some b)) (.int .i64 x) (.int .i64 ((l.count x : Nat) + 1))).run Try.prog w = .ok () w' ∧ Met w' b (l ++ [x]) ∧ w.grownBy w' (some b) := by
  obtain ⟨n, D, h1, hn, ⟨es, hes⟩, h2⟩ := h
  have hcl : l.count x ≤ l.length := List.count_le_length
  have hwf : (Lit.int .i64 ((l.count x : Nat) + 1)).wf = true := by
    simp only [Lit.wf, Bool.and_eq_true, decide_eq_true_eq]
    constructor
    · show -9223372036854775808 ≤ _; omega
    · show _ ≤ 9223372036854775807; omega
  obtain ⟨w', hrun, hown, hgr⟩ := h1.update (Maps.int_keyed Try.underlying3) Try.underlying73 (by unfold maxLen; omega) (Maps.keyOf_int_mk Try.underlying3 hx) (plainElem_int Try.underlying3 hwf)
  refine ⟨w', hrun, ⟨n + 1, _, hown, by simp; omega, ?_, ?_⟩, hgr⟩
  · subst hes; exact ⟨_, rfl⟩
  · intro y hy
    subst hes
    by_cases hxy : y = x
    · subst hxy
      rw [Maps.atKey_put_same (k := Lit.int .i64 y) ⟨es, rfl⟩ (by trivial)]
      simp
    · rw [Maps.atKey_put_other (by simpa using hxy), h2 y hy]
      have : l.count y = (l ++ [x]).count y := by
        rw [List.count_append, List.count_cons_of_ne (fun e => hxy e.symm)]; simp
      rw [this]
theorem wpList_met {ops : Array Oper} {rest : List Oper} {o : Oper} {a : Act} {w : World} {Q : Exit → Act → World → Prop} (hgd : o.guard = none) (m x v : Operand) (ho : o.op = .mapUpdate 73 m x v) {b : Nat} {l : List Int} {y : Int}
    (H : Met w b l) (hy : (Lit.int .i64 y).wf = true) (hl : l.length ≤ 1000) (hm : a.eval m = .map (some b)) (hx : a.eval x = .int .i64 y) (hv : a.eval v = .int .i64 ((l.count y : Nat) + 1))
    (h : ∀ w', Met w' b (l ++ [y]) → w.grownBy w' (some b) → wpList Try.prog ops Q rest (a.put o.dst undef) w') : wpList Try.prog ops Q (o :: rest) a w := by
  refine wpList_plain hgd fun K hK => ?_
  obtain ⟨w', hrun, h1, h2⟩ := H.inc y hy hl
  unfold Oper.wp
  simp [execOp, ho, hm, hx, hv, hrun, Result.andThen]
  exact hK _ _ (h w' h1 h2)
end Go.Proofs.Ytabmogeicpphoaa
