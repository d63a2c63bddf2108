/- Package patch: ends. What it holds between its steps. -/
import Derived.Test.YtadadidccbhopaaGreatKPback
import Derived.Test.YtadadidccbhopaaGreatJKMap2
import Derived.Test.YtadadidccbhopaaGreatKPallow
namespace Go.Proofs.YtadadidccbhopaaGreat
open Go.RowKit Go.Shelf
set_option maxRecDepth 100000
attribute [local go_sem] Oper.semAt_some
/-- What ends holds, that began at w0: the boxes of the store and of the list, the map and its box. -/
structure ES (w0 w : World) (p K : Nat) (M E : List Int) (v : Value) : Prop where
  be : Below w0.heap.size w0 w
  rs : w.heap[w0.heap.size]? = some (.cells #[.pointer (some ⟨p, 0, none⟩)] 30 (0, 0))
  ra : w.heap[w0.heap.size + 1]? = some (.cells #[v] 37 (0, 0))
  sm : SMap w (w0.heap.size + 2) K M
  rm : w.heap[w0.heap.size + 3]? = some (.cells #[.map (some (w0.heap.size + 2))] 162 (0, 0))
  ow : OwnL w (w0.heap.size + 5) v E
  sz : w0.heap.size + 5 ≤ w.heap.size
/-- What lay ahead of w0, the iterator's box, and what is no cells behind, is as it was. -/
structure Away (w0 w w' : World) : Prop where
  size : w.heap.size ≤ w'.heap.size
  same : ∀ k, k < w.heap.size → (k < w0.heap.size ∨ k = w0.heap.size + 4 ∨ (w0.heap.size + 5 ≤ k ∧ ∃ o : Obj, w.heap[k]? = some o ∧ o.isCells = false)) → w'.heap[k]? = w.heap[k]?
section
variable {w0 w w' w2 : World} {p K : Nat} {M E : List Int} {v : Value}
theorem Away.refl (w0 w : World) : Away w0 w w := ⟨Nat.le_refl _, fun _ _ _ => rfl⟩
theorem Away.trans (h : Away w0 w w') (k : Away w0 w' w2) : Away w0 w w2 := by
  refine ⟨Nat.le_trans h.size k.size, fun i hi hc => ?_⟩
  have h1 := h.same i hi hc
  refine (k.same i (Nat.lt_of_lt_of_le hi h.size) ?_).trans h1
  rcases hc with hc | hc | ⟨hc, o, ho, hn⟩
  · exact .inl hc
  · exact .inr (.inl hc)
  · exact .inr (.inr ⟨hc, o, h1.trans ho, hn⟩)
theorem Away.keeps (h : Away w0 w w') : KeepsFrom (w0.heap.size + 5) w w' :=
  ⟨h.size, fun k o hk ho hc => (h.same k (Array.getElem?_eq_some_iff.1 ho).1 (.inr (.inr ⟨hk, o, ho, hc⟩))).trans ho⟩
theorem Away.sameB (h : Away w0 w w') {sp : Option Addr} (hz : w0.heap.size + 5 ≤ w.heap.size) (hs : ∀ b o, sp = some ⟨b, o, none⟩ → b < w0.heap.size) : SameB sp (w0.heap.size + 4) w w' :=
  ⟨h.same _ (by omega) (.inr (.inl rfl)), fun b o e => h.same b (by have := hs b o e; omega) (.inl (hs b o e))⟩
theorem ES.up (h : ES w0 w p K M E v) (hb : Below w.heap.size w w') : ES w0 w' p K M E v ∧ Away w0 w w' := by
  have hz := h.sz
  have hs := hb.size
  exact ⟨{
    be := h.be.trans (hb.mono h.be.size)
    rs := (hb.block _ (by omega)).trans h.rs
    ra := (hb.block _ (by omega)).trans h.ra
    sm := h.sm.same (hb.block _ (by omega))
    rm := (hb.block _ (by omega)).trans h.rm
    ow := row_same h.ow fun k hk => hb.block k (h.ow.lt k hk).2
    sz := by omega }, hs, fun k hk _ => hb.block k hk⟩
theorem OwnL.isC {base : Nat} (h : OwnL w base v E) {k : Nat} (hk : v.ownBlock = some k) : ∃ cur, w.heap[k]? = some (.cells cur 2 (0, 0)) := by
  obtain ⟨_, h2⟩ := h
  rcases h2 with ⟨rfl, _⟩ | ⟨g, cap, cur, rfl, hg, hh, r⟩
  · cases hk
  · cases hk; exact ⟨cur, hh⟩
theorem ES.own (h : ES w0 w p K M E v) {row : Option Nat} (hg : w.grownBy w' row) (hr : ∀ r, row = some r → w0.heap.size + 5 ≤ r ∧ ∃ o : Obj, w.heap[r]? = some o ∧ o.isCells = false) : ES w0 w' p K M E v := by
  have hz := h.sz
  have hs := hg.size
  have bl : ∀ k, k < w0.heap.size + 5 → w'.heap[k]? = w.heap[k]? := fun k hk => hg.block k (by omega) (fun e => by have := (hr k e.symm).1; omega)
  exact {
    be := h.be.trans ((Below.refl _ _).grown hg h.be.size (fun k hk => by have := (hr k hk).1; omega))
    rs := (bl _ (by omega)).trans h.rs
    ra := (bl _ (by omega)).trans h.ra
    sm := h.sm.same (bl _ (by omega))
    rm := (bl _ (by omega)).trans h.rm
    ow := row_same h.ow fun k hk => hg.block k (h.ow.lt k hk).2 (fun e => by
      obtain ⟨o, ho, hc⟩ := (hr k e.symm).2
      obtain ⟨cur, hh⟩ := h.ow.isC hk
      rw [hh] at ho; cases ho; cases hc)
    sz := by omega }
/-- The map has one more. -/
theorem ES.put (h : ES w0 w p K M E v) {x : Int} (hS : SMap w' (w0.heap.size + 2) (K + 1) (M ++ [x])) (hg : w.grownBy w' (some (w0.heap.size + 2))) : ES w0 w' p (K + 1) (M ++ [x]) E v ∧ Away w0 w w' := by
  have hz := h.sz
  have hs := hg.size
  have bl : ∀ k, k < w.heap.size → k ≠ w0.heap.size + 2 → w'.heap[k]? = w.heap[k]? := fun k hk he => hg.block k hk (fun e => he (Option.some.inj e))
  exact ⟨{
    be := h.be.trans ((Below.refl _ _).grown hg h.be.size (fun k hk => by cases hk; omega))
    rs := (bl _ (by omega) (by omega)).trans h.rs
    ra := (bl _ (by omega) (by omega)).trans h.ra
    sm := hS
    rm := (bl _ (by omega) (by omega)).trans h.rm
    ow := row_same h.ow fun k hk => bl k (h.ow.lt k hk).2 (by have := (h.ow.lt k hk).1; omega)
    sz := by omega }, hs, fun k hk hc => bl k hk (by rcases hc with hc | hc | hc <;> omega)⟩
/-- The list has one more. -/
theorem ES.app (h : ES w0 w p K M E v) {x : Int} {o : Obj} {w3 : World} {G cap : Nat} (ho : OwnL w3 (w0.heap.size + 5) (.slice (some ⟨G, 0, none⟩) (E.length + 1) cap) (E ++ [x])) (hg : (w.alloc o).grownBy w3 v.ownBlock) :
    w3.heap[w0.heap.size + 1]? = some (.cells #[v] 37 (0, 0)) ∧ ES w0 (w3.setCell ⟨w0.heap.size + 1, 0, none⟩ (.slice (some ⟨G, 0, none⟩) (E.length + 1) cap)) p K M (E ++ [x]) (.slice (some ⟨G, 0, none⟩) (E.length + 1) cap) ∧ Away w0 w (w3.setCell ⟨w0.heap.size + 1, 0, none⟩ (.slice (some ⟨G, 0, none⟩) (E.length + 1) cap)) := by
  have hz := h.sz
  have hz3 := hg.size
  rw [World.size_alloc] at hz3
  have bl : ∀ k, k < w.heap.size → v.ownBlock ≠ some k → w3.heap[k]? = w.heap[k]? := fun k hk he =>
    (hg.block k (by rw [World.size_alloc]; omega) (fun e => he e.symm)).trans (Below.heap_alloc _ _ _ hk)
  have no : ∀ k, k < w0.heap.size + 5 → v.ownBlock ≠ some k := fun k hk e => by have := (h.ow.lt k e).1; omega
  have st : ∀ k, k ≠ w0.heap.size + 1 → (w3.setCell ⟨w0.heap.size + 1, 0, none⟩ (.slice (some ⟨G, 0, none⟩) (E.length + 1) cap)).heap[k]? = w3.heap[k]? := fun k hk => heap_setCell_other w3 ⟨w0.heap.size + 1, 0, none⟩ k _ hk
  have hb3 : Below w0.heap.size w0 w3 := (h.be.alloc h.be.size o).trans ((Below.refl _ _).grown hg (by rw [World.size_alloc]; omega) (fun k hk => by have := (h.ow.lt k hk).1; omega))
  have ra3 := (bl _ (by omega) (no _ (by omega))).trans h.ra
  have hsz : (w3.setCell ⟨w0.heap.size + 1, 0, none⟩ (.slice (some ⟨G, 0, none⟩) (E.length + 1) cap)).heap.size = w3.heap.size := by simp [World.setCell]
  exact ⟨ra3, {
    be := hb3.setCell (by show _ ≤ w0.heap.size + 1; omega) _
    rs := (st _ (by omega)).trans ((bl _ (by omega) (no _ (by omega))).trans h.rs)
    ra := heap_setCell_same w3 (w0.heap.size + 1) 0 _ _ _ ra3
    sm := h.sm.same ((st _ (by omega)).trans (bl _ (by omega) (no _ (by omega))))
    rm := (st _ (by omega)).trans ((bl _ (by omega) (no _ (by omega))).trans h.rm)
    ow := row_same ho fun k hk => st k (by have := (ho.lt k hk).1; omega)
    sz := by omega }, by omega, fun k hk hc => (st k (by rcases hc with hc | hc | hc <;> omega)).trans (bl k hk (fun e => by
      have := (h.ow.lt k e).1
      rcases hc with hc | hc | ⟨_, o, ho', hn⟩
      · omega
      · omega
      · obtain ⟨cur, hh⟩ := h.ow.isC e
        rw [hh] at ho'; cases ho'; cases hn))⟩
end
theorem wpListIn_sput {F : Fence} {nF : Nat} {ops : Array Oper} {rest : List Oper} {o : Oper} {a : Act} {w : World} {Q : Exit → Act → World → Prop} (hgd : o.guard = none) (m x v : Operand) (ho : o.op = .mapUpdate 162 m x v) {b K : Nat} {n : Int} {ks : List Int}
    (H : SMap w b K ks) (hn : -9223372036854775808 ≤ n ∧ n ≤ 9223372036854775807) (hK : K ≤ 1000000000) (hm : a.eval m = .map (some b)) (hx : a.eval x = .int .i64 n) (hv : a.eval v = .agg #[])
    (h : ∀ w', SMap w' b (K + 1) (ks ++ [n]) → w.grownBy w' (some b) → wpListIn F nF Tryz.prog ops Q rest (a.put o.dst undef) w') : wpListIn F nF Tryz.prog ops Q (o :: rest) a w := by
  refine wpListIn_plain hgd fun K hK' => ?_
  obtain ⟨w', hrun, h1, h2⟩ := H.put n hn hK
  unfold Oper.wpIn
  refine ⟨by simp [Oper.about, ho], ?_⟩
  rw [Oper.semAt_plain F _ _ (by rw [ho]; intro c hc'; cases hc')]
  simp [execOp, ho, hm, hx, hv, hrun, Result.andThen]
  exact hK' _ _ (h w' h1 h2)
theorem wpListIn_append_l {F : Fence} {nF : Nat} {w : World} {ops : Array Oper} {rest : List Oper} {o : Oper} {a : Act} {Q : Exit → Act → World → Prop} (hgd : o.guard = none) (s x : Operand)
    (ho : o.op = .call { callee := .builtin .append, args := #[s, x], argTypes := #[37, 37] }) (base : Nat) (l : List Int) (y : Int) (v : Value) (hs : a.eval s = v) (g c : Nat) (hx : a.eval x = .slice (some ⟨g, 0, none⟩) 1 c)
    (hown : OwnL w base v l) (hsrc : RowI w g 2 [y]) (hbase : base ≤ w.heap.size) (hb : l.length ≤ 1000000)
    (h : ∀ G cap w', OwnL w' base (.slice (some ⟨G, 0, none⟩) (l.length + 1) cap) (l ++ [y]) → w.grownBy w' v.ownBlock → wpListIn F nF Tryz.prog ops Q rest (a.put o.dst (.slice (some ⟨G, 0, none⟩) (l.length + 1) cap)) w') : wpListIn F nF Tryz.prog ops Q (o :: rest) a w := by
  obtain ⟨i0, hi, hz0, hz1, hz2⟩ := info_parts Tryz.infoL
  have hcs : ∀ j u, (ivs [y])[j]? = some u → w.cell? ((⟨g, 0, none⟩ : Addr).add j) = some u := by
    intro j u hj
    have hjl : j < (ivs [y]).length := (List.getElem?_eq_some_iff.1 hj).1
    rw [ivs_length] at hjl
    obtain rfl : j = 0 := by simp at hjl; omega
    rw [addr_add, Nat.zero_add, hsrc.cell 0 (by simp), ← hj]
    rfl
  obtain ⟨G, cap, w', hr, hown', hgr, hat, _⟩ := run_append_lies (P := Tryz.prog) w 37 o.type base 2 i0 _ 1 8 Tryz.underlying37 hi hz0 hz1 hz2 rfl (by decide) v l.length (ivs l) hown ⟨g, 0, none⟩ 1 c (ivs [y]) (by simp [ivs_length]) hcs (ivs_one _) (by omega) (by unfold maxLen; omega) (by omega) hbase _ rfl
  refine wpListIn_plain hgd fun K hK => ?_
  unfold Oper.wpIn
  refine ⟨by simp [Oper.about, ho, resolve, Target.leads, Sem.run_pure], ?_⟩
  rw [Oper.semAt_plain F _ _ (by rw [ho]; intro c hc'; cases hc')]
  unfold execOp
  simp only [ho, resolve, invoke, builtin]
  simp [hs, hx, hr, Result.andThen]
  refine hK _ _ (h G cap w' ?_ hgr)
  unfold OwnL
  rw [List.length_append, ivs_append]
  exact hown'
end Go.Proofs.YtadadidccbhopaaGreat
