/- The row of marks of leveelaw11.PatchOrder. -/
import Derived.Test.YtanelcdeekichaaGreatKPallow
namespace Go.Proofs.YtanelcdeekichaaGreat
open Go.RowKit
set_option maxRecDepth 100000
/-- A mark: a block, a place, and where the numbers lie that it waits for. -/
structure Mk where
  b : Nat
  k : Nat
  sp : Option Addr
  A : List Int
  c : Nat
def mkL (m : Mk) : List Value := [.int .i64 (m.b : Int), .int .i64 (m.k : Int), .slice m.sp m.A.length m.c]
def mks (l : List Mk) : List Value := l.flatMap mkL
theorem mks_length : ∀ l : List Mk, (mks l).length = l.length * 3
  | [] => rfl
  | m :: l => by
    show (mkL m ++ mks l).length = _
    rw [List.length_append, mks_length l, List.length_cons]
    show 3 + _ = _
    omega
theorem mks_append (a b : List Mk) : mks (a ++ b) = mks a ++ mks b := List.flatMap_append
theorem mks_get : ∀ {l : List Mk} {i : Nat} {m : Mk}, l[i]? = some m → ∀ j, j < 3 → (mks l)[i * 3 + j]? = (mkL m)[j]?
  | [], i, m, h => by simp at h
  | x :: l, 0, m, h => fun j hj => by
    obtain rfl : x = m := by simpa using h
    show (mkL x ++ mks l)[0 * 3 + j]? = _
    rw [Nat.zero_mul, Nat.zero_add, List.getElem?_append_left (by show j < 3; exact hj)]
  | x :: l, i + 1, m, h => fun j hj => by
    have := mks_get (l := l) (i := i) (m := m) (by simpa using h) j hj
    show (mkL x ++ mks l)[(i + 1) * 3 + j]? = _
    rw [List.getElem?_append_right (by show 3 ≤ _; omega), ← this]
    congr 1
    show (i + 1) * 3 + j - 3 = _
    omega
theorem mks_one (l : List Mk) : ∀ v ∈ mks l, v.oneCell' = true := fun v hv => by
  obtain ⟨m, _, hm⟩ := List.mem_flatMap.1 hv
  unfold mkL at hm
  simp only [List.mem_cons, List.not_mem_nil, or_false] at hm
  rcases hm with rfl | rfl | rfl <;> rfl
def OwnM (w : World) (base : Nat) (v : Value) (l : List Mk) : Prop := w.ownsRow base 62 3 v l.length (mks l)
theorem OwnM.nil (w : World) (base : Nat) : OwnM w base (.slice none 0 0) [] := World.ownsRow_nil _ _ _ _
theorem OwnM.lt {w : World} {base : Nat} {v : Value} {l : List Mk} (h : OwnM w base v l) : ∀ k, v.ownBlock = some k → base ≤ k ∧ k < w.heap.size := World.ownsRow.lt h
theorem Tryz.infoM : (Tryz.prog.info? 62).map (fun i => (i.zero, i.size, i.bytes)) = some (some (.agg #[.int .i64 0, .int .i64 0, .slice none 0 0]), 3, 40) := by kernel_rfl
theorem wpList_append_m {w : World} {ops : Array Oper} {rest : List Oper} {o : Oper} {a : Act} {Q : Exit → Act → World → Prop} (hgd : o.guard = none) (s x : Operand)
    (ho : o.op = .call { callee := .builtin .append, args := #[s, x], argTypes := #[55, 55] }) (base : Nat) (l : List Mk) (y : Mk) (v : Value) (hs : a.eval s = v) (g c : Nat) (hx : a.eval x = .slice (some ⟨g, 0, none⟩) 1 c)
    (hown : OwnM w base v l) (hsrc : ∀ j u, (mkL y)[j]? = some u → w.cell? ⟨g, j, none⟩ = some u) (hbase : base ≤ w.heap.size) (hb : l.length ≤ 1000000)
    (h : ∀ G cap w', OwnM w' base (.slice (some ⟨G, 0, none⟩) (l.length + 1) cap) (l ++ [y]) → w.grownBy w' v.ownBlock → (v.ownBlock = some G ∨ w.heap.size ≤ G) → wpList Tryz.prog ops Q rest (a.put o.dst (.slice (some ⟨G, 0, none⟩) (l.length + 1) cap)) w') : wpList Tryz.prog ops Q (o :: rest) a w := by
  obtain ⟨i0, hi, hz0, hz1, hz2⟩ := info_parts Tryz.infoM
  have hcs : ∀ j u, (mks [y])[j]? = some u → w.cell? ((⟨g, 0, none⟩ : Addr).add j) = some u := by
    intro j u hj
    rw [addr_add, Nat.zero_add]
    exact hsrc j u (by rw [← hj]; show _ = (mkL y ++ [])[j]?; rw [List.append_nil])
  obtain ⟨G, cap, w', hr, hown', hgr, hat, _⟩ := run_append_lies (P := Tryz.prog) w 55 o.type base 62 i0 _ 3 40 Tryz.underlying55 hi hz0 hz1 hz2 rfl (by decide) v l.length (mks l) hown ⟨g, 0, none⟩ 1 c (mks [y]) (by rw [mks_length]; rfl) hcs (mks_one _) (by omega) (by unfold maxLen; omega) (by omega) hbase _ rfl
  refine wpList_plain hgd fun K hK => ?_
  unfold Oper.wp execOp
  simp only [ho, resolve, invoke, builtin]
  simp [hs, hx, hr, Result.andThen]
  refine hK _ _ (h G cap w' ?_ hgr ?_)
  · unfold OwnM
    rw [List.length_append, mks_append]
    exact hown'
  · rcases hat with hat | hat
    · exact .inl hat
    · exact .inr (by omega)
theorem OwnM.cells {w : World} {base G m cap : Nat} {l : List Mk} (h : OwnM w base (.slice (some ⟨G, 0, none⟩) m cap) l) {i : Nat} {x : Mk} (hx : l[i]? = some x) : w.cell? ⟨G, i * 3, none⟩ = some (.int .i64 (x.b : Int)) ∧ w.cell? ⟨G, i * 3 + 1, none⟩ = some (.int .i64 (x.k : Int)) ∧ w.cell? ⟨G, i * 3 + 2, none⟩ = some (.slice x.sp x.A.length x.c) := by
  obtain ⟨h1, h2⟩ := h
  rcases h2 with ⟨hv, _⟩ | ⟨g, cap', cur, hv, hg, hh, hn, hm, hs, hcur⟩
  · cases hv
  · cases hv
    have hi := (List.getElem?_eq_some_iff.1 hx).1
    have key : ∀ j, j < 3 → w.cell? ⟨G, i * 3 + j, none⟩ = (mkL x)[j]? := fun j hj => by
      rw [cell_of_row w G _ _ _ _ hh, ← mks_get hx j hj, ← hcur, List.getElem?_take]
      rw [if_pos (by omega)]
      simp
    exact ⟨key 0 (by omega), key 1 (by omega), key 2 (by omega)⟩
end Go.Proofs.YtanelcdeekichaaGreat
