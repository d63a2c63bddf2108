/- Slices of entries: append. -/
import Derived.Test.YtabmogeicpphoaaJ12
import Derived.Test.YtabmogeicpphoaaJ6
import Derived.Maps.AppendAt
import Derived.Maps.OwnIn
namespace Go.Proofs.Ytabmogeicpphoaa
open Go.RowKit
theorem Try.infoE : (Try.prog.info? 48).map (fun i => (i.zero, i.size, i.bytes)) = some (some (.agg #[.int .i64 0, .bool false, .string ⟨#[]⟩]), 3, 32) := by kernel_rfl
def eRow (es : List Ent) : List Value := es.flatMap eL
theorem eRow_length : ∀ es : List Ent, (eRow es).length = es.length * 3
  | [] => rfl
  | e :: es => by
    have := eRow_length es
    unfold eRow at this ⊢
    rw [List.flatMap_cons, List.length_append, this]
    simp [eL]; omega
theorem eRow_append (es fs : List Ent) : eRow (es ++ fs) = eRow es ++ eRow fs := by unfold eRow; rw [List.flatMap_append]
theorem eRow_one (e : Ent) : eRow [e] = eL e := by simp [eRow]
theorem eRow_get : ∀ (es : List Ent) (j c : Nat), j < es.length → c < 3 → (eRow es)[3 * j + c]? = (eL (es.getD j zent))[c]?
  | [], j, _, h, _ => by simp at h
  | e :: es, 0, c, _, hc => by
    show (eL e ++ eRow es)[3 * 0 + c]? = _
    rw [List.getElem?_append_left (by simp [eL]; omega)]
    simp
  | e :: es, j + 1, c, h, hc => by
    show (eL e ++ eRow es)[3 * (j + 1) + c]? = _
    rw [List.getElem?_append_right (by simp [eL]; omega), show 3 * (j + 1) + c - (eL e).length = 3 * j + c by simp [eL]; omega, eRow_get es j c (by simpa using h) hc]
    simp
/-- The slice v is the call's own, and its entries are es. -/
def OwnEn (w : World) (base : Nat) (v : Value) (es : List Ent) : Prop := w.ownsRow base 48 3 v es.length (eRow es)
theorem OwnEn.nil (w : World) (base : Nat) : OwnEn w base (.slice none 0 0) [] := World.ownsRow_nil _ _ _ _
theorem row_keep {w w' : World} {base e size n : Nat} {v : Value} {xs : List Value} (h : w.ownsRow base e size v n xs) (hk : ∀ g, v.ownBlock = some g → w'.heap[g]? = w.heap[g]?) : w'.ownsRow base e size v n xs := by
  refine ⟨h.1, ?_⟩
  rcases h.2 with h2 | ⟨g, cap, cur, rfl, hg, hh, r⟩
  · exact .inl h2
  · exact .inr ⟨g, cap, cur, rfl, hg, (hk g rfl).trans hh, r⟩
theorem row_cells {w : World} {base e size n g : Nat} {v : Value} {xs : List Value} (h : w.ownsRow base e size v n xs) (hg : v.ownBlock = some g) : ∃ cur, w.heap[g]? = some (.cells cur e (0, 0)) := by
  rcases h.2 with ⟨rfl, _⟩ | ⟨g', cap, cur, rfl, _, hh, _⟩
  · cases hg
  · cases hg; exact ⟨cur, hh⟩
theorem row_lt {w : World} {base e size n g : Nat} {v : Value} {xs : List Value} (h : w.ownsRow base e size v n xs) (hg : v.ownBlock = some g) : g < w.heap.size := by
  obtain ⟨cur, hh⟩ := row_cells h hg
  exact (Array.getElem?_eq_some_iff.1 hh).1
/-- A block of another type is another block. -/
theorem row_ne {w : World} {base e size n g q t : Nat} {v : Value} {xs : List Value} {cs : Array Value} {f : Nat × Nat} (h : w.ownsRow base e size v n xs) (hg : v.ownBlock = some g) (hq : w.heap[q]? = some (.cells cs t f)) (ht : t ≠ e) : g ≠ q := by
  obtain ⟨cur, hh⟩ := row_cells h hg
  rintro rfl
  rw [hh] at hq; cases hq; exact ht rfl
theorem append_ent {w : World} {base : Nat} {v : Value} {es : List Ent} {x : Ent} (ty : TypeId) (g c : Nat) (h : OwnEn w base v es) (hs : EntAt w g x) (hbase : base ≤ w.heap.size) (hb : es.length ≤ 1000000) :
    ∃ v' w', (Builtin.append_ #[55, 55] ty #[v, .slice (some ⟨g, 0, none⟩) 1 c]).run Try.prog w = .ok v' w' ∧ OwnEn w' base v' (es ++ [x]) ∧ w.grownBy w' v.ownBlock ∧ (v'.ownBlock = v.ownBlock ∨ v'.ownBlock = some w.heap.size) := by
  obtain ⟨i0, hi, hz0, hz1, hz2⟩ := info_parts Try.infoE
  obtain ⟨v', w', hr, hown, hgr, _, hbl⟩ := run_append_own_at (P := Try.prog) w base 55 ty 48 i0 _ 3 32 Try.underlying55 hi hz0 hz1 hz2 rfl (by decide) v es.length (eRow es) h ⟨g, 0, none⟩ 1 c (eL x) rfl (fun j u hj => by rw [addr_add]; exact hs.range j u hj) (eL_one x) (by unfold maxLen; omega) (by omega) hbase
  refine ⟨v', w', hr, ?_, hgr, hbl⟩
  unfold OwnEn
  rw [List.length_append, eRow_append, eRow_one]
  exact hown
theorem append_intG {w : World} {base : Nat} {v : Value} {l : List Int} {x : Int} (ty : TypeId) (g c : Nat) (h : OwnI w base v l) (hs : RowI w g 3 [x]) (hbase : base ≤ w.heap.size) (hb : l.length ≤ 1000000) :
    ∃ v' w', (Builtin.append_ #[40, 40] ty #[v, .slice (some ⟨g, 0, none⟩) 1 c]).run Try.prog w = .ok v' w' ∧ OwnI w' base v' (l ++ [x]) ∧ w.grownBy w' v.ownBlock ∧ (v'.ownBlock = v.ownBlock ∨ v'.ownBlock = some w.heap.size) := by
  obtain ⟨i0, hi, hz0, hz1, hz2⟩ := info_parts Try.infoI
  have hcs : ∀ j u, (ivs [x])[j]? = some u → w.cell? ((⟨g, 0, none⟩ : Addr).add j) = some u := by
    intro j u hj
    have hjl : j < (ivs [x]).length := (List.getElem?_eq_some_iff.1 hj).1
    rw [ivs_length] at hjl
    obtain rfl : j = 0 := by simp at hjl; omega
    rw [addr_add, Nat.zero_add, hs.cell 0 (by simp), ← hj]
    rfl
  obtain ⟨v', w', hr, hown, hgr, _, hbl⟩ := run_append_own_at (P := Try.prog) w base 40 ty 3 i0 _ 1 8 Try.underlying40 hi hz0 hz1 hz2 rfl (by decide) v l.length (ivs l) h ⟨g, 0, none⟩ 1 c (ivs [x]) (by simp [ivs_length]) hcs (ivs_one _) (by unfold maxLen; omega) (by omega) hbase
  refine ⟨v', w', hr, ?_, hgr, hbl⟩
  unfold OwnI
  rw [List.length_append, ivs_append]
  exact hown
theorem wpList_append_ent {w : World} {ops : Array Oper} {rest : List Oper} {o : Oper} {a : Act} {Q : Exit → Act → World → Prop} (hgd : o.guard = none) (s x : Operand)
    (ho : o.op = .call { callee := .builtin .append, args := #[s, x], argTypes := #[55, 55] }) (base : Nat) (es : List Ent) (y : Ent) (v : Value) (hs : a.eval s = v) (g c : Nat) (hx : a.eval x = .slice (some ⟨g, 0, none⟩) 1 c)
    (hown : OwnEn w base v es) (hsrc : EntAt w g y) (hbase : base ≤ w.heap.size) (hb : es.length ≤ 1000000)
    (h : ∀ v' w', OwnEn w' base v' (es ++ [y]) → w.grownBy w' v.ownBlock → (v'.ownBlock = v.ownBlock ∨ v'.ownBlock = some w.heap.size) → wpList Try.prog ops Q rest (a.put o.dst v') w') : wpList Try.prog ops Q (o :: rest) a w := by
  refine wpList_plain hgd fun K hK => ?_
  obtain ⟨v', w', hrun, h1, h2, h3⟩ := append_ent o.type g c hown hsrc hbase hb
  unfold Oper.wp execOp
  simp only [ho, resolve, invoke, builtin]
  simp [hs, hx, hrun, Result.andThen]
  exact hK _ _ (h v' w' h1 h2 h3)
theorem wpList_append_intG {w : World} {ops : Array Oper} {rest : List Oper} {o : Oper} {a : Act} {Q : Exit → Act → World → Prop} (hgd : o.guard = none) (s x : Operand)
    (ho : o.op = .call { callee := .builtin .append, args := #[s, x], argTypes := #[40, 40] }) (base : Nat) (l : List Int) (y : Int) (v : Value) (hs : a.eval s = v) (g c : Nat) (hx : a.eval x = .slice (some ⟨g, 0, none⟩) 1 c)
    (hown : OwnI w base v l) (hsrc : RowI w g 3 [y]) (hbase : base ≤ w.heap.size) (hb : l.length ≤ 1000000)
    (h : ∀ v' w', OwnI w' base v' (l ++ [y]) → w.grownBy w' v.ownBlock → (v'.ownBlock = v.ownBlock ∨ v'.ownBlock = some w.heap.size) → wpList Try.prog ops Q rest (a.put o.dst v') w') : wpList Try.prog ops Q (o :: rest) a w := by
  refine wpList_plain hgd fun K hK => ?_
  obtain ⟨v', w', hrun, h1, h2, h3⟩ := append_intG o.type g c hown hsrc hbase hb
  unfold Oper.wp execOp
  simp only [ho, resolve, invoke, builtin]
  simp [hs, hx, hrun, Result.andThen]
  exact hK _ _ (h v' w' h1 h2 h3)
theorem wpListIn_append_ent {F : Fence} {nF : Nat} {w : World} {ops : Array Oper} {rest : List Oper} {o : Oper} {a : Act} {Q : Exit → Act → World → Prop} (hgd : o.guard = none) (s x : Operand)
    (ho : o.op = .call { callee := .builtin .append, args := #[s, x], argTypes := #[55, 55] }) (base : Nat) (es : List Ent) (y : Ent) (v : Value) (hs : a.eval s = v) (g c : Nat) (hx : a.eval x = .slice (some ⟨g, 0, none⟩) 1 c)
    (hown : OwnEn w base v es) (hsrc : EntAt w g y) (hbase : base ≤ w.heap.size) (hb : es.length ≤ 1000000)
    (h : ∀ v' w', OwnEn w' base v' (es ++ [y]) → w.grownBy w' v.ownBlock → (v'.ownBlock = v.ownBlock ∨ v'.ownBlock = some w.heap.size) → wpListIn F nF Try.prog ops Q rest (a.put o.dst v') w') : wpListIn F nF Try.prog ops Q (o :: rest) a w := by
  refine wpListIn_plain hgd fun K hK => ?_
  obtain ⟨v', w', hrun, h1, h2, h3⟩ := append_ent o.type g c hown hsrc hbase hb
  unfold Oper.wpIn
  refine ⟨by simp [Oper.about, ho, resolve, Target.leads, Sem.run_pure], ?_⟩
  rw [Oper.semAt_plain F _ _ (by rw [ho]; intro c hc'; cases hc')]
  simp [execOp, ho, resolve, invoke, builtin, hs, hx, hrun, Result.andThen]
  exact hK _ _ (h v' w' h1 h2 h3)
theorem wpListIn_append_intG {F : Fence} {nF : Nat} {w : World} {ops : Array Oper} {rest : List Oper} {o : Oper} {a : Act} {Q : Exit → Act → World → Prop} (hgd : o.guard = none) (s x : Operand)
    (ho : o.op = .call { callee := .builtin .append, args := #[s, x], argTypes := #[40, 40] }) (base : Nat) (l : List Int) (y : Int) (v : Value) (hs : a.eval s = v) (g c : Nat) (hx : a.eval x = .slice (some ⟨g, 0, none⟩) 1 c)
    (hown : OwnI w base v l) (hsrc : RowI w g 3 [y]) (hbase : base ≤ w.heap.size) (hb : l.length ≤ 1000000)
    (h : ∀ v' w', OwnI w' base v' (l ++ [y]) → w.grownBy w' v.ownBlock → (v'.ownBlock = v.ownBlock ∨ v'.ownBlock = some w.heap.size) → wpListIn F nF Try.prog ops Q rest (a.put o.dst v') w') : wpListIn F nF Try.prog ops Q (o :: rest) a w := by
  refine wpListIn_plain hgd fun K hK => ?_
  obtain ⟨v', w', hrun, h1, h2, h3⟩ := append_intG o.type g c hown hsrc hbase hb
  unfold Oper.wpIn
  refine ⟨by simp [Oper.about, ho, resolve, Target.leads, Sem.run_pure], ?_⟩
  rw [Oper.semAt_plain F _ _ (by rw [ho]; intro c hc'; cases hc')]
  simp [execOp, ho, resolve, invoke, builtin, hs, hx, hrun, Result.andThen]
  exact hK _ _ (h v' w' h1 h2 h3)
/-- From the address sp on lie the entries es. -/
def SrcE (w : World) (sp : Option Addr) (es : List Ent) : Prop :=
  es = [] ∨ ∃ b, sp = some ⟨b, 0, none⟩ ∧ b < w.heap.size ∧ ∀ j, j < es.length → w.rangeAt b (3 * j) (eL (es.getD j zent))
theorem OwnEn.form {w : World} {base : Nat} {v : Value} {es : List Ent} (h : OwnEn w base v es) : ∃ ao cap, v = .slice ao es.length cap ∧ SrcE w ao es ∧ es.length ≤ cap ∧ (cap : Int) ≤ 9223372036854775807 := by
  obtain ⟨h1, h2⟩ := h
  rcases h2 with ⟨rfl, h3⟩ | ⟨g, cap, cur, rfl, hg, hh, hn, hm, hs, hx⟩
  · obtain rfl : es = [] := List.eq_nil_of_length_eq_zero h3
    exact ⟨none, 0, rfl, .inl rfl, by simp, by omega⟩
  · refine ⟨some ⟨g, 0, none⟩, cap, rfl, .inr ⟨g, rfl, (Array.getElem?_eq_some_iff.1 hh).1, fun j hj c u hu => ?_⟩, hn, by unfold maxLen at hm; omega⟩
    have hc : c < 3 := by have := (List.getElem?_eq_some_iff.1 hu).1; simpa [eL] using this
    rw [cell_of_row w g (3 * j + c) _ _ _ hh, ← hu, ← eRow_get es j c hj hc, ← hx, List.getElem?_take, if_pos (by omega)]
    simp
theorem SrcE.below {w w' : World} {sp : Option Addr} {es : List Ent} (h : SrcE w sp es) (hb : Below w.heap.size w w') : SrcE w' sp es := by
  rcases h with h | ⟨b, h1, h2, h3⟩
  · exact .inl h
  · exact .inr ⟨b, h1, by have := hb.size; omega, fun j hj c u hu => (hb.cell (p := ⟨b, 3 * j + c, none⟩) h2).trans (h3 j hj c u hu)⟩
theorem exec_load_entO {ev : Operand → Value} {oi : Oper} {x : Operand} {w : World} {b o : Nat} {e : Ent} (H : w.rangeAt b o (eL e)) (ho : oi.op = .load 48 x) (hx : ev x = .pointer (some ⟨b, o, none⟩)) :
    (execOp ev oi).run Try.prog w = .ok (.value (.agg (eA e))) w := by
  unfold execOp
  simp only [ho, hx, Instr.loadAt, Instr.sureAddr, Sem.run_bind, Sem.run_pure, Result.andThen_ok, run_loadVar_mid w b o 48 (eL e) _ H Try.underlying48 rfl (by rw [Try.sz48]; rfl)]
  rfl
end Go.Proofs.Ytabmogeicpphoaa
/- leveeref08.List. -/
namespace Go.Proofs.Ytabmogeicpphoaa
open Go.RowKit
def entsOf (l : List UInt8) (xs : List (Fin 8)) : List Ent := xs.map (fun x => egetV (part8 l x))
def atsOf (xs : List (Fin 8)) : List Int := xs.map (fun x => (x.1 : Int))
def listX (l : List UInt8) (k : Nat) : List (Fin 8) := (come k).filter (entB l)
def listV (l : List UInt8) : List Ent := if l.length = 256 then entsOf l (listX l 8) else []
def listA (l : List UInt8) : List Int := if l.length = 256 then atsOf (listX l 8) else []
def listE (l : List UInt8) : Int := if l.length = 256 then 0 else 4
theorem listX_no {l : List UInt8} {k : Nat} (h : k < 8) (he : entB l ⟨k, h⟩ = false) : listX l (k + 1) = listX l k := by
  unfold listX; rw [come_succ h, List.filter_append]; simp [he]
theorem listX_yes {l : List UInt8} {k : Nat} (h : k < 8) (he : entB l ⟨k, h⟩ = true) : listX l (k + 1) = listX l k ++ [⟨k, h⟩] := by
  unfold listX; rw [come_succ h, List.filter_append]; simp [he]
theorem listX_len (l : List UInt8) {k : Nat} (h : k ≤ 8) : (listX l k).length ≤ 8 := by
  have := List.length_filter_le (entB l) (come k)
  rw [come_length h] at this
  unfold listX; omega
theorem entsOf_yes {l : List UInt8} {k : Nat} (h : k < 8) (he : entB l ⟨k, h⟩ = true) : entsOf l (listX l (k + 1)) = entsOf l (listX l k) ++ [egetV (part8 l ⟨k, h⟩)] := by
  rw [listX_yes h he]; simp [entsOf]
theorem atsOf_yes {l : List UInt8} {k : Nat} (h : k < 8) (he : entB l ⟨k, h⟩ = true) : atsOf (listX l (k + 1)) = atsOf (listX l k) ++ [(k : Int)] := by
  rw [listX_yes h he]; simp [atsOf]
theorem build_ents (V : Ent) (w : World) : (Instr.buildSlice 55 1 #[(0, .agg (eA V))]).run Try.prog w = .ok (.slice (some ⟨w.heap.size, 0, none⟩) 1 1) (w.alloc (.cells (eA V) 48)) := by
  rw [eA_lit]
  kernel_rfl
theorem exec_bslice {ev : Operand → Value} {oi : Oper} {x : Operand} {w : World} {V : Ent} (ho : oi.op = .buildSlice 55 1 #[(0, x)]) (hx : ev x = .agg (eA V)) :
    (execOp ev oi).run Try.prog w = .ok (.value (.slice (some ⟨w.heap.size, 0, none⟩) 1 1)) (w.alloc (.cells (eA V) 48)) := by
  unfold execOp
  simp only [ho, List.map_toArray, List.map_cons, List.map_nil, hx, Sem.run_bind, build_ents, Result.andThen_ok]
  rfl
theorem wpList_bslice {ops : Array Oper} {rest : List Oper} {op : Oper} {a : Act} {w : World} {Q : Exit → Act → World → Prop} (hgd : op.guard = none) (x : Operand) (ho : op.op = .buildSlice 55 1 #[(0, x)]) (V : Ent) (hx : a.eval x = .agg (eA V))
    (h : wpList Try.prog ops Q rest (a.put op.dst (.slice (some ⟨w.heap.size, 0, none⟩) 1 1)) (w.alloc (.cells (eA V) 48))) : wpList Try.prog ops Q (op :: rest) a w :=
  wpList_plain hgd fun K hK => by
    unfold Oper.wp
    rw [exec_bslice ho hx]
    exact hK _ _ h
theorem wpListIn_bslice {F : Fence} {nF : Nat} {ops : Array Oper} {rest : List Oper} {op : Oper} {a : Act} {w : World} {Q : Exit → Act → World → Prop} (hgd : op.guard = none) (x : Operand) (ho : op.op = .buildSlice 55 1 #[(0, x)]) (V : Ent) (hx : a.eval x = .agg (eA V))
    (h : wpListIn F nF Try.prog ops Q rest (a.put op.dst (.slice (some ⟨w.heap.size, 0, none⟩) 1 1)) (w.alloc (.cells (eA V) 48))) : wpListIn F nF Try.prog ops Q (op :: rest) a w :=
  wpListIn_plain hgd fun K hK => by
    unfold Oper.wpIn
    refine ⟨by simp [Oper.about, ho], ?_⟩
    rw [Oper.semAt_plain F _ _ (by rw [ho]; intro c hc'; cases hc'), exec_bslice ho hx]
    exact hK _ _ h
/-- A row that lies elsewhere stays. -/
theorem OwnI.away {w w' : World} {base : Nat} {v : Value} {l : List Int} {row : Option Nat} (h : OwnI w base v l) (hg : w.grownBy w' row) (hr : ∀ g, row = some g → v.ownBlock ≠ some g) : OwnI w' base v l :=
  row_keep h (fun g hb => hg.block g (row_lt h hb) (fun e => hr g e.symm hb))
theorem OwnEn.away {w w' : World} {base : Nat} {v : Value} {es : List Ent} {row : Option Nat} (h : OwnEn w base v es) (hg : w.grownBy w' row) (hr : ∀ g, row = some g → v.ownBlock ≠ some g) : OwnEn w' base v es :=
  row_keep h (fun g hb => hg.block g (row_lt h hb) (fun e => hr g e.symm hb))
theorem OwnEn.below {w w' : World} {base : Nat} {v : Value} {es : List Ent} (h : OwnEn w base v es) (hb : Below w.heap.size w w') : OwnEn w' base v es := row_keep h (fun g hg => hb.block g (row_lt h hg))
theorem own_apart {w : World} {base b' : Nat} {v v' : Value} {es : List Ent} {l : List Int} (h : OwnEn w base v es) (h' : OwnI w b' v' l) : ∀ g, v.ownBlock = some g → v'.ownBlock ≠ some g := by
  intro g hg e
  obtain ⟨c, hc⟩ := row_cells h' e
  exact row_ne h hg hc (by decide) rfl
theorem OwnEn.ge {w : World} {base g : Nat} {v : Value} {es : List Ent} (h : OwnEn w base v es) (hg : v.ownBlock = some g) : base ≤ g := (World.ownsRow.lt h g hg).1
theorem OwnI.ge {w : World} {base g : Nat} {v : Value} {l : List Int} (h : OwnI w base v l) (hg : v.ownBlock = some g) : base ≤ g := (World.ownsRow.lt h g hg).1
set_option maxRecDepth 100000 in
set_option maxHeartbeats 4000000 in
theorem rlist_any (sp : Option Addr) (cap : Nat) (l : List UInt8) (w : World) (ha : Arg w sp cap l) :
    Calls Try.prog 40 #[.slice sp l.length cap] w fun e w' => ∃ v1 v2, e = .returned (.tuple #[v1, v2, .int .i64 (listE l)]) ∧ OwnEn w' w.heap.size v1 (listV l) ∧ OwnI w' w.heap.size v2 (listA l) ∧ Below w.heap.size w w' := by
  have hz := zeroE
  unfold listE listV listA
  by_cases hl : l.length = 256
  · rw [if_pos hl, if_pos hl, if_pos hl]
    have HRD : Hid (∀ (k : Nat) (h : k < 8) W, Below w.heap.size w W → Calls Try.prog 38 #[.slice sp 256 cap, .int .i64 (k : Int)] W fun e w' => e = .returned (.tuple #[.agg (eA (egetV (part8 l ⟨k, h⟩))), .int .i64 (egetE (part8 l ⟨k, h⟩))]) ∧ Below W.heap.size W w') := fun k h W hW => by
      have := rdreadT_any sp cap l (k : Int) W (ha.below hW (Nat.le_refl _))
      rw [(read_part hl h).1, (read_part hl h).2, hl] at this
      exact this
    rw [hl]
    clear hl ha
    go_enter Try.func40, Try.ntmps40
    go_wp2
    go_loopw [5, 6, 7] (fun v1 v2 t wr => ∃ k : Nat, k ≤ 8 ∧ t = .int .i64 k ∧ Hid (OwnEn wr w.heap.size v1 (entsOf l (listX l k))) ∧ Hid (OwnI wr w.heap.size v2 (atsOf (listX l k))) ∧ Hid (Below w.heap.size w wr)) (fun _ _ t _ => 8 - (intOf t).toNat)
    case atStart => exact ⟨0, by omega, rfl, OwnEn.nil _ _, OwnI.nil _ _, Below.refl _ _⟩
    case round =>
      obtain ⟨k, hk, rfl, HO, HI, HB⟩ := hrel
      by_cases hlt : (k : Int) < 8
      · have hk8 : k < 8 := by omega
        have RD := HRD.out k hk8 wr HB.out
        have HP : Hid (entB l ⟨k, hk8⟩ = (egetE (part8 l ⟨k, hk8⟩) == 0 && (egetV (part8 l ⟨k, hk8⟩)).sl != 0)) := rfl
        have HNO : Hid (entB l ⟨k, hk8⟩ = false → listX l (k + 1) = listX l k) := fun h => listX_no hk8 h
        have HY1 : Hid (entB l ⟨k, hk8⟩ = true → entsOf l (listX l (k + 1)) = entsOf l (listX l k) ++ [egetV (part8 l ⟨k, hk8⟩)]) := fun h => entsOf_yes hk8 h
        have HY2 : Hid (entB l ⟨k, hk8⟩ = true → atsOf (listX l (k + 1)) = atsOf (listX l k) ++ [(k : Int)]) := fun h => atsOf_yes hk8 h
        generalize egetE (part8 l ⟨k, hk8⟩) = E at *
        generalize egetV (part8 l ⟨k, hk8⟩) = V at *
        go_upto_region 8 with fail
        go_wp2_with fail
        refine RD.mono ?_
        rintro e w1 ⟨rfl, h1⟩
        have HB1 : Hid (Below w.heap.size w w1) := HB.out.trans (h1.mono HB.out.size)
        have HO1 : Hid (OwnEn w1 w.heap.size u5 (entsOf l (listX l k))) := HO.out.below h1
        have HI1 : Hid (OwnI w1 w.heap.size u6 (atsOf (listX l k))) := HI.out.below h1 (Nat.le_refl _)
        clear RD h1 HB HO HI
        have HZ : Hid (EntAt (w1.alloc (.cells (eA zent) 48)) w1.heap.size zent) := ent_new w1 zent
        have HZB : Hid (Below w1.heap.size w1 (w1.alloc (.cells (eA zent) 48))) := (Below.refl _ _).alloc (Nat.le_refl _) _
        go_upto_region 9 with (first | ((with_reducible show wpList _ _ _ ({ dst := _, op := Op.store 48 _ _, type := _, pos := _, after := _, guard := _ } :: _) _ _); refine wpList_store_ent rfl _ _ rfl (HZ.out) rfl rfl ?_; intro w2 H2 b2 z2))
        have h2 := HZB.out.trans b2.bel
        have HB2 : Hid (Below w.heap.size w w2) := HB1.out.trans (h2.mono HB1.out.size)
        have HO2 : Hid (OwnEn w2 w.heap.size u5 (entsOf l (listX l k))) := HO1.out.below h2
        have HI2 : Hid (OwnI w2 w.heap.size u6 (atsOf (listX l k))) := HI1.out.below h2 (Nat.le_refl _)
        have HE2 : Hid (EntAt w2 w1.heap.size V) := H2
        have c0 := H2.c0
        clear HB1 HO1 HI1 HZ HZB b2 z2 H2 h2
        cases hE : (E == 0)
        · have hE' : ¬ E = 0 := by simpa using hE
          have hp : entB l ⟨k, hk8⟩ = false := by rw [HP.out, hE]; rfl
          have HX : Hid _ := HNO.out hp
          clear HP HNO HY1 HY2 hp
          go_wp2
          go_roundw
          case rel => exact ⟨k + 1, by omega, by go_num, by rw [HX.out]; exact HO2, by rw [HX.out]; exact HI2, HB2⟩
          case measure => simp [intOf]; omega
        · obtain rfl : E = 0 := by simpa using hE
          cases hS : (V.sl == 0)
          · have hS' : ¬ V.sl = 0 := by simpa using hS
            have hp : entB l ⟨k, hk8⟩ = true := by rw [HP.out]; simp [hS']
            have HX1 : Hid _ := HY1.out hp
            have HX2 : Hid _ := HY2.out hp
            have hl1 : (entsOf l (listX l k)).length ≤ 1000000 := by have := listX_len l hk; simp [entsOf]; omega
            have hl2 : (atsOf (listX l k)).length ≤ 1000000 := by have := listX_len l hk; simp [atsOf]; omega
            clear HP HNO HY1 HY2 hp hE
            have hsz := HB2.out.size
            have hO2 := HO2.out.below ((Below.refl _ _).alloc (Nat.le_refl _) (.cells (eA V) 48))
            generalize u5 = v5 at *
            go_upto_region 11 with (first | ((with_reducible show wpList _ _ _ ({ dst := _, op := Op.load 48 _, type := _, pos := _, after := _, guard := _ } :: _) _ _); refine wpList_load_ent rfl _ rfl (HE2.out) rfl ?_) | ((with_reducible show wpList _ _ _ ({ dst := _, op := Op.buildSlice 55 _ _, type := _, pos := _, after := _, guard := _ } :: _) _ _); refine wpList_bslice rfl _ rfl V rfl ?_) | (at_builtin; refine wpList_append_ent rfl (.tmp 30) (.tmp 32) rfl w.heap.size (entsOf l (listX l k)) V _ rfl _ _ rfl hO2 (ent_new _ _) (by simp; omega) hl1 ?_; intro v1' w3 hO3 hg3 hb3))
            have hI2' := HI2.out.below ((Below.refl _ _).alloc (Nat.le_refl _) (.cells (eA V) 48)) (Nat.le_refl _)
            have hI3 := hI2'.away hg3 (own_apart hO2 hI2')
            have hB3 : Below w.heap.size w w3 := (HB2.out.alloc hsz _).grown hg3 (by simp; omega) (fun g e => hO2.ge e)
            rw [← HX1.out] at hO3
            have hsz3 := hB3.size
            have HO3 : Hid (OwnEn w3 w.heap.size v1' (entsOf l (listX l (k + 1)))) := hO3
            have HI3 : Hid (OwnI w3 w.heap.size u6 (atsOf (listX l k))) := hI3
            have HB3 : Hid (Below w.heap.size w w3) := hB3
            have hI4 := hI3.below ((Below.refl _ _).alloc (Nat.le_refl _) (.cells #[.int .i64 (k : Int)] 3)) (Nat.le_refl _)
            clear hO2 hO3 hI2' hI3 hB3 hg3 hb3 HO2 HI2 HB2 HE2 c0 hsz
            generalize u6 = v6 at *
            go_wp2_with (first | (at_builtin; refine wpList_append_intG rfl (.tmp 34) (.tmp 36) rfl w.heap.size (atsOf (listX l k)) (k : Int) _ rfl _ _ rfl hI4 (heap_alloc_new _ _) (by simp; omega) hl2 ?_; intro v2' w4 hI5 hg5 hb5))
            have hO4 := HO3.out.below ((Below.refl _ _).alloc (Nat.le_refl _) (.cells #[.int .i64 (k : Int)] 3))
            have hO5 := hO4.away hg5 (fun g e h => own_apart hO4 hI4 g h e)
            have hB5 : Below w.heap.size w w4 := (HB3.out.alloc hsz3 _).grown hg5 (by simp; omega) (fun g e => hI4.ge e)
            rw [← HX2.out] at hI5
            have HO5 : Hid (OwnEn w4 w.heap.size v1' (entsOf l (listX l (k + 1)))) := hO5
            have HI5 : Hid (OwnI w4 w.heap.size v2' (atsOf (listX l (k + 1)))) := hI5
            have HB5 : Hid (Below w.heap.size w w4) := hB5
            clear hO4 hO5 hB5 hI5 hI4 hg5 hb5 HO3 HI3 HB3
            go_roundw
            case rel => exact ⟨k + 1, by omega, by go_num, HO5, HI5, HB5⟩
            case measure => simp [intOf]; omega
          · have hS' : V.sl = 0 := by simpa using hS
            have hp : entB l ⟨k, hk8⟩ = false := by rw [HP.out, hS']; simp
            have HX : Hid _ := HNO.out hp
            rw [hS'] at c0
            clear HP HNO HY1 HY2 hp hE
            go_wp2
            go_roundw
            case rel => exact ⟨k + 1, by omega, by go_num, by rw [HX.out]; exact HO2, by rw [HX.out]; exact HI2, HB2⟩
            case measure => simp [intOf]; omega
      · obtain rfl : k = 8 := by omega
        go_wp2
        exact bodyPost_ret (results_tmp3 rfl _ _ _) rfl ⟨_, _, rfl, HO.out, HI.out, HB.out⟩
  · rw [if_neg hl, if_neg hl, if_neg hl]
    have hl3 : ¬ (l.length : Int) = 256 := by omega
    clear ha hl
    go_enter Try.func40, Try.ntmps40
    go_wp2
    exact bodyPost_ret (results_tmp3 rfl _ _ _) rfl ⟨_, _, rfl, OwnEn.nil _ _, OwnI.nil _ _, Below.refl _ _⟩
end Go.Proofs.Ytabmogeicpphoaa
