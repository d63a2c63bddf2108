/- The walk of leveelaw11.PatchOrder: two rows of numbers that grow; a mark more. -/
import Derived.Test.YtadadidccbhopaaGreatJPlog9
import Derived.Test.YtadadidccbhopaaGreatJDOpen3
import Derived.Test.YtadadidccbhopaaGreatKPmark
import Derived.Test.YtadadidccbhopaaGreatJPerr2
import Derived.Test.YtadadidccbhopaaGreatKPacts
import Derived.Test.YtadadidccbhopaaGreatKPkc
namespace Go.Proofs.YtadadidccbhopaaGreat
open Go.RowKit
set_option maxRecDepth 100000
/-- 'append' of a number onto an own row of int, with what turns. -/
theorem wpList_append_iG {w : World} {ops : Array Oper} {rest : List Oper} {o : Oper} {a : Act} {Q : Exit → Act → World → Prop} (hgd : o.guard = none) (s x : Operand)
    (ho : o.op = .call { callee := .builtin .append, args := #[s, x], argTypes := #[49, 49] }) (base : Nat) (l : List Int) (y : Int) (v : Value) (hs : a.eval s = v) (g c : Nat) (hx : a.eval x = .slice (some ⟨g, 0, none⟩) 1 c)
    (hown : OwnI w base v l) (hsrc : RowI w g 3 [y]) (hbase : base ≤ w.heap.size) (hb : l.length ≤ 1000000)
    (h : ∀ G cap w', OwnI w' base (.slice (some ⟨G, 0, none⟩) (l.length + 1) cap) (l ++ [y]) → w.grownBy w' v.ownBlock → (v.ownBlock = some G ∨ w.heap.size ≤ G) → wpList Tryz.prog ops Q rest (a.put o.dst (.slice (some ⟨G, 0, none⟩) (l.length + 1) cap)) w') : wpList Tryz.prog ops Q (o :: rest) a w := by
  obtain ⟨i0, hi, hz0, hz1, hz2⟩ := info_parts Tryz.infoI
  have hcs : ∀ j u, (ivs [y])[j]? = some u → w.cell? ((⟨g, 0, none⟩ : Addr).add j) = some u := by
    intro j u hj
    have hjl : j < (ivs [y]).length := (List.getElem?_eq_some_iff.1 hj).1
    rw [ivs_length] at hjl
    obtain rfl : j = 0 := by simp at hjl; omega
    rw [addr_add, Nat.zero_add, hsrc.cell 0 (by simp), ← hj]
    rfl
  obtain ⟨G, cap, w', hr, hown', hgr, hat, _⟩ := run_append_lies (P := Tryz.prog) w 49 o.type base 3 i0 _ 1 8 Tryz.underlying49 hi hz0 hz1 hz2 rfl (by decide) v l.length (ivs l) hown ⟨g, 0, none⟩ 1 c (ivs [y]) (by simp [ivs_length]) hcs (ivs_one _) (by omega) (by unfold maxLen; omega) (by omega) hbase _ rfl
  refine wpList_plain hgd fun K hK => ?_
  unfold Oper.wp execOp
  simp only [ho, resolve, invoke, builtin]
  simp [hs, hx, hr, Result.andThen]
  refine hK _ _ (h G cap w' ?_ hgr ?_)
  · unfold OwnI
    rw [List.length_append, ivs_append]
    exact hown'
  · rcases hat with hat | hat
    · exact .inl hat
    · exact .inr (by omega)
theorem getD_mem {l : List Int} {j : Nat} (h : j < l.length) : l.getD j 0 ∈ l := by
  rw [List.getD_eq_getElem?_getD, List.getElem?_eq_getElem h]
  exact List.getElem_mem h
theorem size_alloc (W : World) (o : Obj) : (W.alloc o).heap.size = W.heap.size + 1 := by show (W.heap.push o).size = _; simp
theorem own_at {w : World} {base e size m c n : Nat} {i : Option Addr} {xs : List Value} (h : w.ownsRow base e size (.slice i m c) n xs) : m = n ∧ ((i = none ∧ n = 0) ∨ ∃ g, i = some ⟨g, 0, none⟩ ∧ base ≤ g ∧ g < w.heap.size) := by
  obtain ⟨h1, h2⟩ := h
  rcases h2 with ⟨hv, h3⟩ | ⟨g, cap, cur, hv, hg, hh, r⟩
  · cases hv; exact ⟨h3.symm, .inl ⟨rfl, h3⟩⟩
  · cases hv; exact ⟨rfl, .inr ⟨g, rfl, hg, (Array.getElem?_eq_some_iff.1 hh).1⟩⟩
end Go.Proofs.YtadadidccbhopaaGreat
