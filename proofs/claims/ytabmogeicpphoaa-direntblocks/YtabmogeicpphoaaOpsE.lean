/- Slices of entries: append. -/
import Derived.Test.YtabmogeicpphoaaRfind8
import Derived.Test.YtabmogeicpphoaaInts
import Derived.Maps.AppendAt
import Derived.Maps.OwnIn
namespace Go.Proofs.Ytabmogeicpphoaa
open Go.RowKit
theorem Try.infoE : (Try.prog.info? 48).map (fun i => (i.zero, i.size, i.bytes)) = some (some (.agg #[.int .i64 0, .bool false, .string ⟨#[]⟩]), 3, 32) := by kernel_rfl
def eRow (es : List Ent) : List Value := es.flatMap eL
theorem eRow_length : ∀ es : List Ent, (eRow es).length = es.length * 3
  | [] => rfl
  | e :: es => by
    have := eRow_length es
    unfold eRow at this ⊢
    rw [List.flatMap_cons, List.length_append, this]
    simp [eL]; omega
theorem eRow_append (es fs : List Ent) : eRow (es ++ fs) = eRow es ++ eRow fs := by unfold eRow; rw [List.flatMap_append]
theorem eRow_one (e : Ent) : eRow [e] = eL e := by simp [eRow]
theorem eRow_get : ∀ (es : List Ent) (j c : Nat), j < es.length → c < 3 → (eRow es)[3 * j + c]? = (eL (es.getD j zent))[c]?
  | [], j, _, h, _ => by simp at h
  | e :: es, 0, c, _, hc => by
    show (eL e ++ eRow es)[3 * 0 + c]? = _
    rw [List.getElem?_append_left (by simp [eL]; omega)]
    simp
  | e :: es, j + 1, c, h, hc => by
    show (eL e ++ eRow es)[3 * (j + 1) + c]? = _
    rw [List.getElem?_append_right (by simp [eL]; omega), show 3 * (j + 1) + c - (eL e).length = 3 * j + c by simp [eL]; omega, eRow_get es j c (by simpa using h) hc]
    simp
/-- The slice v is the call's own, and its entries are es. -/
def OwnEn (w : World) (base : Nat) (v : Value) (es : List Ent) : Prop := w.ownsRow base 48 3 v es.length (eRow es)
theorem OwnEn.nil (w : World) (base : Nat) : OwnEn w base (.slice none 0 0) [] := World.ownsRow_nil _ _ _ _
theorem row_keep {w w' : World} {base e size n : Nat} {v : Value} {xs : List Value} (h : w.ownsRow base e size v n xs) (hk : ∀ g, v.ownBlock = some g → w'.heap[g]? = w.heap[g]?) : w'.ownsRow base e size v n xs := by
  refine ⟨h.1, ?_⟩
  rcases h.2 with h2 | ⟨g, cap, cur, rfl, hg, hh, r⟩
  · exact .inl h2
  · exact .inr ⟨g, cap, cur, rfl, hg, (hk g rfl).trans hh, r⟩
theorem row_cells {w : World} {base e size n g : Nat} {v : Value} {xs : List Value} (h : w.ownsRow base e size v n xs) (hg : v.ownBlock = some g) : ∃ cur, w.heap[g]? = some (.cells cur e (0, 0)) := by
  rcases h.2 with ⟨rfl, _⟩ | ⟨g', cap, cur, rfl, _, hh, _⟩
  · cases hg
  · cases hg; exact ⟨cur, hh⟩
theorem row_lt {w : World} {base e size n g : Nat} {v : Value} {xs : List Value} (h : w.ownsRow base e size v n xs) (hg : v.ownBlock = some g) : g < w.heap.size := by
  obtain ⟨cur, hh⟩ := row_cells h hg
  exact (Array.getElem?_eq_some_iff.1 hh).1
/-- A block of another type is another block. -/
theorem row_ne {w : World} {base e size n g q t : Nat} {v : Value} {xs : List Value} {cs : Array Value} {f : Nat × Nat} (h : w.ownsRow base e size v n xs) (hg : v.ownBlock = some g) (hq : w.heap[q]? = some (.cells cs t f)) (ht : t ≠ e) : g ≠ q := by
  obtain ⟨cur, hh⟩ := row_cells h hg
  rintro rfl
  rw [hh] at hq; cases hq; exact ht rfl
theorem append_ent {w : World} {base : Nat} {v : Value} {es : List Ent} {x : Ent} (ty : TypeId) (g c : Nat) (h : OwnEn w base v es) (hs : EntAt w g x) (hbase : base ≤ w.heap.size) (hb : es.length ≤ 1000000) :
    ∃ v' w', (Builtin.append_ #[55, 55] ty #[v, .slice (some ⟨g, 0, none⟩) 1 c]).run Try.prog w = .ok v' w' ∧ OwnEn w' base v' (es ++ [x]) ∧ w.grownBy w' v.ownBlock ∧ (v'.ownBlock = v.ownBlock ∨ v'.ownBlock = some w.heap.size) := by
  obtain ⟨i0, hi, hz0, hz1, hz2⟩ := info_parts Try.infoE
  obtain ⟨v', w', hr, hown, hgr, _, hbl⟩ := run_append_own_at (P := Try.prog) w base 55 ty 48 i0 _ 3 32 Try.underlying55 hi hz0 hz1 hz2 rfl (by decide) v es.length (eRow es) h ⟨g, 0, none⟩ 1 c (eL x) rfl (fun j u hj => by rw [addr_add]; exact hs.range j u hj) (eL_one x) (by unfold maxLen; omega) (by omega) hbase
  refine ⟨v', w', hr, ?_, hgr, hbl⟩
  unfold OwnEn
  rw [List.length_append, eRow_append, eRow_one]
  exact hown
theorem append_intG {w : World} {base : Nat} {v : Value} {l : List Int} {x : Int} (ty : TypeId) (g c : Nat) (h : OwnI w base v l) (hs : RowI w g 3 [x]) (hbase : base ≤ w.heap.size) (hb : l.length ≤ 1000000) :
    ∃ v' w', (Builtin.append_ #[40, 40] ty #[v, .slice (some ⟨g, 0, none⟩) 1 c]).run Try.prog w = .ok v' w' ∧ OwnI w' base v' (l ++ [x]) ∧ w.grownBy w' v.ownBlock ∧ (v'.ownBlock = v.ownBlock ∨ v'.ownBlock = some w.heap.size) := by
  obtain ⟨i0, hi, hz0, hz1, hz2⟩ := info_parts Try.infoI
  have hcs : ∀ j u, (ivs [x])[j]? = some u → w.cell? ((⟨g, 0, none⟩ : Addr).add j) = some u := by
    intro j u hj
    have hjl : j < (ivs [x]).length := (List.getElem?_eq_some_iff.1 hj).1
    rw [ivs_length] at hjl
    obtain rfl : j = 0 := by simp at hjl; omega
    rw [addr_add, Nat.zero_add, hs.cell 0 (by simp), ← hj]
    rfl
  obtain ⟨v', w', hr, hown, hgr, _, hbl⟩ := run_append_own_at (P := Try.prog) w base 40 ty 3 i0 _ 1 8 Try.underlying40 hi hz0 hz1 hz2 rfl (by decide) v l.length (ivs l) h ⟨g, 0, none⟩ 1 c (ivs [x]) (by simp [ivs_length]) hcs (ivs_one _) (by unfold maxLen; omega) (by omega) hbase
  refine ⟨v', w', hr, ?_, hgr, hbl⟩
  unfold OwnI
  rw [List.length_append, ivs_append]
  exact hown
theorem wpList_append_ent {w : World} {ops : Array Oper} {rest : List Oper} {o : Oper} {a : Act} {Q : Exit → Act → World → Prop} (hgd : o.guard = none) (s x : Operand)
    (ho : o.op = .call { callee := .builtin .append, args := #[s, x], argTypes := #[55, 55] }) (base : Nat) (es : List Ent) (y : Ent) (v : Value) (hs : a.eval s = v) (g c : Nat) (hx : a.eval x = .slice (some ⟨g, 0, none⟩) 1 c)
    (hown : OwnEn w base v es) (hsrc : EntAt w g y) (hbase : base ≤ w.heap.size) (hb : es.length ≤ 1000000)
    (h : ∀ v' w', OwnEn w' base v' (es ++ [y]) → w.grownBy w' v.ownBlock → (v'.ownBlock = v.ownBlock ∨ v'.ownBlock = some w.heap.size) → wpList Try.prog ops Q rest (a.put o.dst v') w') : wpList Try.prog ops Q (o :: rest) a w := by
  refine wpList_plain hgd fun K hK => ?_
  obtain ⟨v', w', hrun, h1, h2, h3⟩ := append_ent o.type g c hown hsrc hbase hb
  unfold Oper.wp execOp
  simp only [ho, resolve, invoke, builtin]
  simp [hs, hx, hrun, Result.andThen]
  exact hK _ _ (h v' w' h1 h2 h3)
theorem wpList_append_intG {w : World} {ops : Array Oper} {rest : List Oper} {o : Oper} {a : Act} {Q : Exit → Act → World → Prop} (hgd : o.guard = none) (s x : Operand)
    (ho : o.op = .call { callee := .builtin .append, args := #[s, x], argTypes := #[40, 40] }) (base : Nat) (l : List Int) (y : Int) (v : Value) (hs : a.eval s = v) (g c : Nat) (hx : a.eval x = .slice (some ⟨g, 0, none⟩) 1 c)
    (hown : OwnI w base v l) (hsrc : RowI w g 3 [y]) (hbase : base ≤ w.heap.size) (hb : l.length ≤ 1000000)
    (h : ∀ v' w', OwnI w' base v' (l ++ [y]) → w.grownBy w' v.ownBlock → (v'.ownBlock = v.ownBlock ∨ v'.ownBlock = some w.heap.size) → wpList Try.prog ops Q rest (a.put o.dst v') w') : wpList Try.prog ops Q (o :: rest) a w := by
  refine wpList_plain hgd fun K hK => ?_
  obtain ⟨v', w', hrun, h1, h2, h3⟩ := append_intG o.type g c hown hsrc hbase hb
  unfold Oper.wp execOp
  simp only [ho, resolve, invoke, builtin]
  simp [hs, hx, hrun, Result.andThen]
  exact hK _ _ (h v' w' h1 h2 h3)
theorem wpListIn_append_ent {F : Fence} {nF : Nat} {w : World} {ops : Array Oper} {rest : List Oper} {o : Oper} {a : Act} {Q : Exit → Act → World → Prop} (hgd : o.guard = none) (s x : Operand)
    (ho : o.op = .call { callee := .builtin .append, args := #[s, x], argTypes := #[55, 55] }) (base : Nat) (es : List Ent) (y : Ent) (v : Value) (hs : a.eval s = v) (g c : Nat) (hx : a.eval x = .slice (some ⟨g, 0, none⟩) 1 c)
    (hown : OwnEn w base v es) (hsrc : EntAt w g y) (hbase : base ≤ w.heap.size) (hb : es.length ≤ 1000000)
    (h : ∀ v' w', OwnEn w' base v' (es ++ [y]) → w.grownBy w' v.ownBlock → (v'.ownBlock = v.ownBlock ∨ v'.ownBlock = some w.heap.size) → wpListIn F nF Try.prog ops Q rest (a.put o.dst v') w') : wpListIn F nF Try.prog ops Q (o :: rest) a w := by
  refine wpListIn_plain hgd fun K hK => ?_
  obtain ⟨v', w', hrun, h1, h2, h3⟩ := append_ent o.type g c hown hsrc hbase hb
  unfold Oper.wpIn
  refine ⟨by simp [Oper.about, ho, resolve, Target.leads, Sem.run_pure], ?_⟩
  rw [Oper.semAt_plain F _ _ (by rw [ho]; intro c hc'; cases hc')]
  simp [execOp, ho, resolve, invoke, builtin, hs, hx, hrun, Result.andThen]
  exact hK _ _ (h v' w' h1 h2 h3)
theorem wpListIn_append_intG {F : Fence} {nF : Nat} {w : World} {ops : Array Oper} {rest : List Oper} {o : Oper} {a : Act} {Q : Exit → Act → World → Prop} (hgd : o.guard = none) (s x : Operand)
    (ho : o.op = .call { callee := .builtin .append, args := #[s, x], argTypes := #[40, 40] }) (base : Nat) (l : List Int) (y : Int) (v : Value) (hs : a.eval s = v) (g c : Nat) (hx : a.eval x = .slice (some ⟨g, 0, none⟩) 1 c)
    (hown : OwnI w base v l) (hsrc : RowI w g 3 [y]) (hbase : base ≤ w.heap.size) (hb : l.length ≤ 1000000)
    (h : ∀ v' w', OwnI w' base v' (l ++ [y]) → w.grownBy w' v.ownBlock → (v'.ownBlock = v.ownBlock ∨ v'.ownBlock = some w.heap.size) → wpListIn F nF Try.prog ops Q rest (a.put o.dst v') w') : wpListIn F nF Try.prog ops Q (o :: rest) a w := by
  refine wpListIn_plain hgd fun K hK => ?_
  obtain ⟨v', w', hrun, h1, h2, h3⟩ := append_intG o.type g c hown hsrc hbase hb
  unfold Oper.wpIn
  refine ⟨by simp [Oper.about, ho, resolve, Target.leads, Sem.run_pure], ?_⟩
  rw [Oper.semAt_plain F _ _ (by rw [ho]; intro c hc'; cases hc')]
  simp [execOp, ho, resolve, invoke, builtin, hs, hx, hrun, Result.andThen]
  exact hK _ _ (h v' w' h1 h2 h3)
/-- From the address sp on lie the entries es. -/
def SrcE (w : World) (sp : Option Addr) (es : List Ent) : Prop :=
  es = [] ∨ ∃ b, sp = some ⟨b, 0, none⟩ ∧ b < w.heap.size ∧ ∀ j, j < es.length → w.rangeAt b (3 * j) (eL (es.getD j zent))
theorem OwnEn.form {w : World} {base : Nat} {v : Value} {es : List Ent} (h : OwnEn w base v es) : ∃ ao cap, v = .slice ao es.length cap ∧ SrcE w ao es ∧ es.length ≤ cap ∧ (cap : Int) ≤ 9223372036854775807 := by
  obtain ⟨h1, h2⟩ := h
  rcases h2 with ⟨rfl, h3⟩ | ⟨g, cap, cur, rfl, hg, hh, hn, hm, hs, hx⟩
  · obtain rfl : es = [] := List.eq_nil_of_length_eq_zero h3
    exact ⟨none, 0, rfl, .inl rfl, by simp, by omega⟩
  · refine ⟨some ⟨g, 0, none⟩, cap, rfl, .inr ⟨g, rfl, (Array.getElem?_eq_some_iff.1 hh).1, fun j hj c u hu => ?_⟩, hn, by unfold maxLen at hm; omega⟩
    have hc : c < 3 := by have := (List.getElem?_eq_some_iff.1 hu).1; simpa [eL] using this
    rw [cell_of_row w g (3 * j + c) _ _ _ hh, ← hu, ← eRow_get es j c hj hc, ← hx, List.getElem?_take, if_pos (by omega)]
    simp
theorem SrcE.below {w w' : World} {sp : Option Addr} {es : List Ent} (h : SrcE w sp es) (hb : Below w.heap.size w w') : SrcE w' sp es := by
  rcases h with h | ⟨b, h1, h2, h3⟩
  · exact .inl h
  · exact .inr ⟨b, h1, by have := hb.size; omega, fun j hj c u hu => (hb.cell (p := ⟨b, 3 * j + c, none⟩) h2).trans (h3 j hj c u hu)⟩
theorem exec_load_entO {ev : Operand → Value} {oi : Oper} {x : Operand} {w : World} {b o : Nat} {e : Ent} (H : w.rangeAt b o (eL e)) (ho : oi.op = .load 48 x) (hx : ev x = .pointer (some ⟨b, o, none⟩)) :
    (execOp ev oi).run Try.prog w = .ok (.value (.agg (eA e))) w := by
  unfold execOp
  simp only [ho, hx, Instr.loadAt, Instr.sureAddr, Sem.run_bind, Sem.run_pure, Result.andThen_ok, run_loadVar_mid w b o 48 (eL e) _ H Try.underlying48 rfl (by rw [Try.sz48]; rfl)]
  rfl
end Go.Proofs.Ytabmogeicpphoaa
