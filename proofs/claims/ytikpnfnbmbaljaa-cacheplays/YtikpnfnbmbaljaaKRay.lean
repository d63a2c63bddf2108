/- Slices of numbers. -/
import Derived.Test.YtikpnfnbmbaljaaKHeld
import Derived.Test.YtikpnfnbmbaljaaKOps
namespace Go.Proofs.Ytikpnfnbmbaljaa
open Go.RowKit
set_option maxRecDepth 100000
def ivs (l : List Int) : List Value := l.map (fun x => Value.int .i64 x)
theorem ivs_length (l : List Int) : (ivs l).length = l.length := by simp [ivs]
theorem ivs_one (l : List Int) : ∀ v ∈ ivs l, v.oneCell' = true := by
  intro v hv; simp only [ivs, List.mem_map] at hv; obtain ⟨b, _, rfl⟩ := hv; rfl
theorem ivs_append (a b : List Int) : ivs (a ++ b) = ivs a ++ ivs b := by simp [ivs]
theorem ivs_take (k : Nat) (l : List Int) : ivs (l.take k) = (ivs l).take k := by simp [ivs, List.map_take]
theorem ivs_drop (k : Nat) (l : List Int) : ivs (l.drop k) = (ivs l).drop k := by simp [ivs, List.map_drop]
/-- Block g is a row of numbers. -/
def RowI (w : World) (g : Nat) (t : TypeId) (l : List Int) : Prop := w.heap[g]? = some (.cells (ivs l).toArray t (0, 0))
section
variable {w w' : World} {g : Nat} {t : TypeId} {l : List Int}
theorem RowI.lt (h : RowI w g t l) : g < w.heap.size := (Array.getElem?_eq_some_iff.1 h).1
theorem RowI.cell (h : RowI w g t l) (j : Nat) (hj : j < l.length) : w.cell? ⟨g, j, none⟩ = some (.int .i64 (l.getD j 0)) := by
  rw [cell_of_row w g j _ _ _ h]; simp [ivs, hj]
theorem RowI.frozen (h : RowI w g t l) (j : Nat) : w.frozen? ⟨g, j, none⟩ = false := frozen_of_row w g j _ _ h
theorem RowI.set (h : RowI w g t l) (j : Nat) (x : Int) : RowI (w.setCell ⟨g, j, none⟩ (.int .i64 x)) g t (l.set j x) := by
  have e : ivs (l.set j x) = (ivs l).set j (.int .i64 x) := by simp [ivs]
  have e2 : (ivs (l.set j x)).toArray = (ivs l).toArray.setIfInBounds j (.int .i64 x) := by rw [e]; simp
  unfold RowI at h ⊢
  rw [e2]
  exact heap_setCell_same w g j _ t _ h
end
theorem Try.infoI : (Try.prog.info? 3).map (fun i => (i.zero, i.size, i.bytes)) = some (some (.int .i64 0), 1, 8) := by kernel_rfl
/-- From the address sp on lie the numbers l. -/
def SrcI (w : World) (sp : Option Addr) (l : List Int) : Prop :=
  l = [] ∨ ∃ b off, sp = some ⟨b, off, none⟩ ∧ b < w.heap.size ∧ ∀ j, j < l.length → w.cell? ⟨b, off + j, none⟩ = some (.int .i64 (l.getD j 0))
theorem SrcI.below {w w' : World} {sp : Option Addr} {l : List Int} (h : SrcI w sp l) {B : Nat} (hb : Below B w w') (hB : w.heap.size ≤ B) : SrcI w' sp l := by
  rcases h with h | ⟨b, off, h1, h2, h3⟩
  · exact .inl h
  · exact .inr ⟨b, off, h1, by have := hb.size; omega, fun j hj => (hb.cell (p := ⟨b, off + j, none⟩) (show b < B by omega)).trans (h3 j hj)⟩
theorem SrcI.nil (w : World) (sp : Option Addr) : SrcI w sp [] := .inl rfl
theorem SrcI.row {w : World} {g : Nat} {t : TypeId} {l : List Int} (h : RowI w g t l) : SrcI w (some ⟨g, 0, none⟩) l :=
  .inr ⟨g, 0, rfl, h.lt, fun j hj => by rw [Nat.zero_add]; exact h.cell j hj⟩
/-- The slice v is the call's own, and its numbers are l. -/
def OwnI (w : World) (base : Nat) (v : Value) (l : List Int) : Prop := w.ownsRow base 3 1 v l.length (ivs l)
theorem OwnI.nil (w : World) (base : Nat) : OwnI w base (.slice none 0 0) [] := World.ownsRow_nil _ _ _ _
theorem OwnI.form {w : World} {base : Nat} {v : Value} {l : List Int} (h : OwnI w base v l) : ∃ ao cap, v = .slice ao l.length cap ∧ SrcI w ao l ∧ l.length ≤ cap ∧ (cap : Int) ≤ 9223372036854775807 ∧ (ao = none → cap = 0) := by
  obtain ⟨h1, h2⟩ := h
  rcases h2 with ⟨rfl, h3⟩ | ⟨g, cap, cur, rfl, hg, hh, hn, hm, hs, hx⟩
  · obtain rfl : l = [] := List.eq_nil_of_length_eq_zero h3
    exact ⟨none, 0, rfl, SrcI.nil _ _, by simp, by omega, fun _ => rfl⟩
  · refine ⟨some ⟨g, 0, none⟩, cap, rfl, .inr ⟨g, 0, rfl, (Array.getElem?_eq_some_iff.1 hh).1, fun j hj => ?_⟩, hn, by unfold maxLen at hm; omega, fun h => by cases h⟩
    rw [Nat.zero_add, cell_of_row w g j _ _ _ hh]
    have e : (cur.toList.take (l.length * 1))[j]? = (ivs l)[j]? := by rw [hx]
    rw [List.getElem?_take] at e
    simp only [Nat.mul_one, hj, if_true] at e
    simpa [ivs, hj] using e
theorem OwnI.lt {w : World} {base : Nat} {v : Value} {l : List Int} (h : OwnI w base v l) : ∀ k, v.ownBlock = some k → base ≤ k ∧ k < w.heap.size := World.ownsRow.lt h
theorem OwnI.below {w w' : World} {base B : Nat} {v : Value} {l : List Int} (h : OwnI w base v l) (hb : Below B w w') (hB : w.heap.size ≤ B) : OwnI w' base v l := by
  obtain ⟨h1, h2⟩ := h
  refine ⟨h1, ?_⟩
  rcases h2 with h2 | ⟨g, cap, cur, hv, hg, hh, r⟩
  · exact .inl h2
  · have hlt : g < w.heap.size := (Array.getElem?_eq_some_iff.1 hh).1
    exact .inr ⟨g, cap, cur, hv, hg, by rw [hb.block g (by omega)]; exact hh, r⟩
theorem OwnI.mono {w : World} {base b' : Nat} {v : Value} {l : List Int} (h : OwnI w base v l) (hb : b' ≤ base) : OwnI w b' v l := by
  obtain ⟨h1, h2⟩ := h
  refine ⟨h1, ?_⟩
  rcases h2 with h2 | ⟨g, cap, cur, hv, hg, rest⟩
  · exact .inl h2
  · exact .inr ⟨g, cap, cur, hv, by omega, rest⟩
/-- 'append' of one number onto a slice of the call's own. -/
theorem append_int {w : World} {base : Nat} {v : Value} {l : List Int} {x : Int} (ty : TypeId) (g c : Nat) (h : OwnI w base v l) (hs : RowI w g 3 [x]) (hbase : base ≤ w.heap.size) (hb : l.length ≤ 1000000) :
    ∃ v' w', (Builtin.append_ #[43, 43] ty #[v, .slice (some ⟨g, 0, none⟩) 1 c]).run Try.prog w = .ok v' w' ∧ OwnI w' base v' (l ++ [x]) ∧ Below base w w' := by
  obtain ⟨i0, hi, hz0, hz1, hz2⟩ := info_parts Try.infoI
  have hcs : ∀ j u, (ivs [x])[j]? = some u → w.cell? ((⟨g, 0, none⟩ : Addr).add j) = some u := by
    intro j u hj
    have hjl : j < (ivs [x]).length := (List.getElem?_eq_some_iff.1 hj).1
    rw [ivs_length] at hjl
    obtain rfl : j = 0 := by simp at hjl; omega
    rw [addr_add, Nat.zero_add, hs.cell 0 (by simp), ← hj]
    rfl
  obtain ⟨v', w', hr, hown, hgr, _⟩ := run_append_own (P := Try.prog) w base 43 ty 3 i0 _ 1 8 Try.underlying43 hi hz0 hz1 hz2 rfl (by decide) v l.length (ivs l) h ⟨g, 0, none⟩ 1 c (ivs [x]) (by simp [ivs_length]) hcs (ivs_one _) (by unfold maxLen; omega) (by omega) hbase
  refine ⟨v', w', hr, ?_, (Below.refl _ _).grown hgr hbase (fun k hk => (h.lt k hk).1)⟩
  unfold OwnI
  rw [List.length_append, ivs_append]
  exact hown
theorem wpList_append_int {w : World} {ops : Array Oper} {rest : List Oper} {o : Oper} {a : Act} {Q : Exit → Act → World → Prop} (hgd : o.guard = none) (s x : Operand)
    (ho : o.op = .call { callee := .builtin .append, args := #[s, x], argTypes := #[43, 43] }) (base : Nat) (l : List Int) (y : Int) (v : Value) (hs : a.eval s = v) (g c : Nat) (hx : a.eval x = .slice (some ⟨g, 0, none⟩) 1 c)
    (hown : OwnI w base v l) (hsrc : RowI w g 3 [y]) (hbase : base ≤ w.heap.size) (hb : l.length ≤ 1000000)
    (h : ∀ v' w', OwnI w' base v' (l ++ [y]) → Below base w w' → wpList Try.prog ops Q rest (a.put o.dst v') w') : wpList Try.prog ops Q (o :: rest) a w := by
  refine wpList_plain hgd fun K hK => ?_
  obtain ⟨v', w', hrun, h1, h2⟩ := append_int o.type g c hown hsrc hbase hb
  unfold Oper.wp execOp
  simp only [ho, resolve, invoke, builtin]
  simp [hs, hx, hrun, Result.andThen]
  exact hK _ _ (h v' w' h1 h2)
end Go.Proofs.Ytikpnfnbmbaljaa
