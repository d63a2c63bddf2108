/- A store of changes in memory: its own blocks, and what each step turns. -/
import Derived.Test.YtaljaledeljllaaGreatPmod
import Derived.Test.YtaljaledeljllaaGreatKMap
import Derived.Test.YtaljaledeljllaaGreatCops2q
namespace Go.Proofs.YtaljaledeljllaaGreat
open Go.RowKit
set_option maxRecDepth 100000
theorem Tryz.infoL : (Tryz.prog.info? 2).map (fun i => (i.zero, i.size, i.bytes)) = some (some (.int .i64 0), 1, 8) := by kernel_rfl
/-- The slice v is the call's own, and its numbers (of 64 bits) are l. -/
def OwnL (w : World) (base : Nat) (v : Value) (l : List Int) : Prop := w.ownsRow base 2 1 v l.length (ivs l)
theorem OwnL.nil (w : World) (base : Nat) : OwnL w base (.slice none 0 0) [] := World.ownsRow_nil _ _ _ _
theorem OwnL.lt {w : World} {base : Nat} {v : Value} {l : List Int} (h : OwnL w base v l) : ∀ k, v.ownBlock = some k → base ≤ k ∧ k < w.heap.size := World.ownsRow.lt h
theorem row_same {w w' : World} {base e size : Nat} {v : Value} {m : Nat} {xs : List Value} (h : w.ownsRow base e size v m xs) (hb : ∀ k, v.ownBlock = some k → w'.heap[k]? = w.heap[k]?) : w'.ownsRow base e size v m xs := by
  obtain ⟨h1, h2⟩ := h
  refine ⟨h1, ?_⟩
  rcases h2 with h2 | ⟨g, cap, cur, hv, hg, hh, r⟩
  · exact .inl h2
  · exact .inr ⟨g, cap, cur, hv, hg, by rw [hb g (by rw [hv]; rfl)]; exact hh, r⟩
theorem row_mono {w : World} {base b' e size : Nat} {v : Value} {m : Nat} {xs : List Value} (h : w.ownsRow base e size v m xs) (hb : b' ≤ base) : w.ownsRow b' e size v m xs := by
  obtain ⟨h1, h2⟩ := h
  refine ⟨h1, ?_⟩
  rcases h2 with h2 | ⟨g, cap, cur, hv, hg, r⟩
  · exact .inl h2
  · exact .inr ⟨g, cap, cur, hv, by omega, r⟩
theorem OwnL.form {w : World} {base : Nat} {v : Value} {l : List Int} (h : OwnL w base v l) : ∃ ao cap, v = .slice ao l.length cap ∧ SrcI w ao l ∧ l.length ≤ cap ∧ (cap : Int) ≤ 9223372036854775807 ∧ (ao = none → cap = 0) := by
  obtain ⟨h1, h2⟩ := h
  rcases h2 with ⟨rfl, h3⟩ | ⟨g, cap, cur, rfl, hg, hh, hn, hm, hs, hx⟩
  · obtain rfl : l = [] := List.eq_nil_of_length_eq_zero h3
    exact ⟨none, 0, rfl, SrcI.nil _ _, by simp, by omega, fun _ => rfl⟩
  · refine ⟨some ⟨g, 0, none⟩, cap, rfl, .inr ⟨g, 0, rfl, (Array.getElem?_eq_some_iff.1 hh).1, fun j hj => ?_⟩, hn, by unfold maxLen at hm; omega, fun h => by cases h⟩
    rw [Nat.zero_add, cell_of_row w g j _ _ _ hh]
    have e : (cur.toList.take (l.length * 1))[j]? = (ivs l)[j]? := by rw [hx]
    rw [List.getElem?_take] at e
    simp only [Nat.mul_one, hj, if_true] at e
    simpa [ivs, hj] using e
def chL (c : Ch) : List Value := [.int .i64 (c.b : Int), .int .i64 (c.fr : Int), c.dv, c.av, .bool c.wr]
def bkL (b : Bk) : List Value := bvs b.ba ++ b.ov :: ivs b.la
/-- A store in memory: what its parts hold. -/
structure PSt where
  p : Nat
  cm : Nat
  bm : Nat
  kc : Nat
  kb : Nat
  cnt : Nat
  fC : Int → Nat
  kC : List Int
  fB : Int → Nat
  kB : List Int
  C : List Ch
  B : List Bk
  tag : Nat → Nat
  σ : CSt
def stL (s : PSt) : List Value := [.pointer (some ⟨s.σ.dp, 0, none⟩), .pointer (some ⟨s.σ.p, 0, none⟩), .int .i64 (s.cnt : Int), .map (some s.cm), .map (some s.bm)]
/-- Its own blocks. -/
def Fk (s : PSt) (k : Nat) : Prop := k = s.p ∨ k = s.cm ∨ k = s.bm ∨ (∃ c ∈ s.C, k = c.q ∨ c.dv.ownBlock = some k ∨ c.av.ownBlock = some k) ∨ ∃ b ∈ s.B, k = b.q ∨ b.ov.ownBlock = some k
def Ak (s : PSt) (k : Nat) : Prop := Fk s k ∨ Sk s.σ k
structure ChAt (w : World) (base : Nat) (c : Ch) : Prop where
  cell : w.heap[c.q]? = some (.cells (chL c).toArray 125 (0, 0))
  dat : Own w base c.dv c.d
  ahd : OwnL w base c.av c.ah
structure BkAt (w : World) (base : Nat) (b : Bk) (op : List Int) : Prop where
  cell : w.heap[b.q]? = some (.cells (bkL b).toArray 169 (0, 0))
  l1 : b.ba.length = 256
  l2 : b.la.length = 256
  opn : OwnL w base b.ov op
/-- The store s lies in w; ops says the open changes of each block. -/
structure PM (w : World) (base : Nat) (s : PSt) (ops : Nat → List Int) : Prop where
  cs : CS w base s.σ (nums s.σ.L)
  st : w.heap[s.p]? = some (.cells (stL s).toArray 104 (0, 0))
  mc : KMap 2 w s.cm s.kc s.fC s.kC
  mb : KMap 3 w s.bm s.kb s.fB s.kB
  ch : ∀ c ∈ s.C, ChAt w base c
  bk : ∀ b ∈ s.B, BkAt w base b (ops b.q)
  cq : (s.C.map (·.q)).Nodup
  bq : (s.B.map (·.q)).Nodup
  t0 : s.tag s.p = 1 ∧ s.tag s.cm = 2 ∧ s.tag s.bm = 3
  tc : ∀ c ∈ s.C, s.tag c.q = 3 * c.q + 10 ∧ (∀ k, c.dv.ownBlock = some k → s.tag k = 3 * c.q + 11) ∧ ∀ k, c.av.ownBlock = some k → s.tag k = 3 * c.q + 12
  tb : ∀ b ∈ s.B, s.tag b.q = 3 * b.q + 10 ∧ ∀ k, b.ov.ownBlock = some k → s.tag k = 3 * b.q + 11
  fk : ∀ k, Fk s k → base ≤ k ∧ k < w.heap.size ∧ ¬ Sk s.σ k
section
variable {w w' : World} {base : Nat} {s : PSt} {ops : Nat → List Int}
theorem PM.lt (h : PM w base s ops) {k : Nat} (hk : Ak s k) : k < w.heap.size := by
  rcases hk with hk | hk
  · exact (h.fk k hk).2.1
  · exact h.cs.sk_size hk
theorem PM.bs (h : PM w base s ops) : base ≤ w.heap.size := h.cs.bs
theorem PM.cb (h : PM w base s ops) {c : Ch} {b : Bk} (hc : c ∈ s.C) (hb : b ∈ s.B) : c.q ≠ b.q := fun e => by
  have h1 := (h.ch c hc).cell
  rw [e, (h.bk b hb).cell] at h1
  simp only [Option.some.injEq, Obj.cells.injEq] at h1
  exact absurd h1.2.1 (by decide)
theorem ChAt.same {c : Ch} (h : ChAt w base c) (hq : w'.heap[c.q]? = w.heap[c.q]?) (hd : ∀ k, c.dv.ownBlock = some k → w'.heap[k]? = w.heap[k]?) (ha : ∀ k, c.av.ownBlock = some k → w'.heap[k]? = w.heap[k]?) : ChAt w' base c :=
  ⟨hq.trans h.cell, row_same h.dat hd, row_same h.ahd ha⟩
theorem BkAt.same {b : Bk} {op : List Int} (h : BkAt w base b op) (hq : w'.heap[b.q]? = w.heap[b.q]?) (ho : ∀ k, b.ov.ownBlock = some k → w'.heap[k]? = w.heap[k]?) : BkAt w' base b op :=
  ⟨hq.trans h.cell, h.l1, h.l2, row_same h.opn ho⟩
/-- Under changes of other blocks. -/
theorem PM.fr (h : PM w base s ops) {S : Nat → Prop} (hf : Fr S w w') (hS : ∀ k, Ak s k → ¬ S k) : PM w' base s ops := by
  have bl : ∀ k, Fk s k → w'.heap[k]? = w.heap[k]? := fun k hk => hf.blk k (h.fk k hk).2.1 (hS k (.inl hk))
  exact {
    cs := h.cs.fr hf fun k hk => hS k (.inr hk)
    st := (bl _ (.inl rfl)).trans h.st
    mc := h.mc.same (bl _ (.inr (.inl rfl)))
    mb := h.mb.same (bl _ (.inr (.inr (.inl rfl))))
    ch := fun c hc => (h.ch c hc).same (bl _ (.inr (.inr (.inr (.inl ⟨c, hc, .inl rfl⟩))))) (fun k hk => bl _ (.inr (.inr (.inr (.inl ⟨c, hc, .inr (.inl hk)⟩))))) (fun k hk => bl _ (.inr (.inr (.inr (.inl ⟨c, hc, .inr (.inr hk)⟩)))))
    bk := fun b hb => (h.bk b hb).same (bl _ (.inr (.inr (.inr (.inr ⟨b, hb, .inl rfl⟩))))) (fun k hk => bl _ (.inr (.inr (.inr (.inr ⟨b, hb, .inr hk⟩)))))
    cq := h.cq, bq := h.bq, t0 := h.t0, tc := h.tc, tb := h.tb
    fk := fun k hk => ⟨(h.fk k hk).1, Nat.lt_of_lt_of_le (h.fk k hk).2.1 hf.size, (h.fk k hk).2.2⟩ }
theorem PM.up (h : PM w base s ops) (hb : Below w.heap.size w w') : PM w' base s ops := h.fr (S := fun _ => False) (Fr.of_below hb) fun _ _ c => c
/-- The cache is another one. -/
theorem PM.cache (h : PM w base s ops) {σ' : CSt} (hD : Done base s.σ σ' w w') (hp : σ'.p = s.σ.p) (hd : σ'.dp = s.σ.dp) : PM w' base { s with σ := σ' } ops := by
  have hf := hD.st.fr
  have bl : ∀ k, Fk s k → w'.heap[k]? = w.heap[k]? := fun k hk => hf.blk k (h.fk k hk).2.1 (h.fk k hk).2.2
  exact {
    cs := hD.cs
    st := by
      have := (bl _ (.inl rfl)).trans h.st
      simp only [stL, hp, hd] at this ⊢
      exact this
    mc := h.mc.same (bl _ (.inr (.inl rfl)))
    mb := h.mb.same (bl _ (.inr (.inr (.inl rfl))))
    ch := fun c hc => (h.ch c hc).same (bl _ (.inr (.inr (.inr (.inl ⟨c, hc, .inl rfl⟩))))) (fun k hk => bl _ (.inr (.inr (.inr (.inl ⟨c, hc, .inr (.inl hk)⟩))))) (fun k hk => bl _ (.inr (.inr (.inr (.inl ⟨c, hc, .inr (.inr hk)⟩)))))
    bk := fun b hb => (h.bk b hb).same (bl _ (.inr (.inr (.inr (.inr ⟨b, hb, .inl rfl⟩))))) (fun k hk => bl _ (.inr (.inr (.inr (.inr ⟨b, hb, .inr hk⟩)))))
    cq := h.cq, bq := h.bq, t0 := h.t0, tc := h.tc, tb := h.tb
    fk := fun k hk => ⟨(h.fk k hk).1, Nat.lt_of_lt_of_le (h.fk k hk).2.1 hf.size, fun c => by
      rcases hD.st.sub k c with c | c
      · exact (h.fk k hk).2.2 c
      · have := (h.fk k hk).2.1; omega⟩ }
/-- What a step turns, and comes to own. -/
structure PStep (s s' : PSt) (w w' : World) : Prop where
  fr : Fr (Ak s) w w'
  sub : ∀ k, Ak s' k → Ak s k ∨ w.heap.size ≤ k
theorem PStep.refl (s : PSt) (hb : Below w.heap.size w w') : PStep s s w w' := ⟨Fr.of_below hb, fun _ h => .inl h⟩
theorem PStep.trans {s s' s'' : PSt} {a b c : World} (h : PStep s s' a b) (k : PStep s' s'' b c) : PStep s s'' a c := by
  have hz := h.fr.size
  refine ⟨⟨Nat.le_trans h.fr.size k.fr.size, fun j hj hn => ?_⟩, fun j hj => ?_⟩
  · refine (k.fr.blk j (by omega) (fun c => ?_)).trans (h.fr.blk j hj hn)
    rcases h.sub j c with c | c
    · exact hn c
    · omega
  · rcases k.sub j hj with c | c
    · exact h.sub j c
    · exact .inr (by omega)
theorem PM.cacheStep {σ' : CSt} (hD : Done base s.σ σ' w w') : PStep s { s with σ := σ' } w w' := by
  refine ⟨hD.st.fr.mono fun k _ hk => .inr hk, fun k hk => ?_⟩
  rcases hk with hk | hk
  · exact .inl (.inl hk)
  · rcases hD.st.sub k hk with hk | hk
    · exact .inl (.inr hk)
    · exact .inr hk
/-- The count is another one. -/
theorem PM.cnt (h : PM w base s ops) (n : Nat) : PM (w.setCell ⟨s.p, 2, none⟩ (.int .i64 (n : Int))) base { s with cnt := n } ops := by
  have hf : Fr (fun k => k = s.p) w (w.setCell ⟨s.p, 2, none⟩ (.int .i64 (n : Int))) := (Fr.refl _ _).setCell s.p 2 _ rfl
  have ne : ∀ k, Fk s k → s.tag k ≠ 1 → k ≠ s.p := fun k _ ht e => ht (by rw [e]; exact h.t0.1)
  have bl : ∀ k, Fk s k → s.tag k ≠ 1 → (w.setCell ⟨s.p, 2, none⟩ (.int .i64 (n : Int))).heap[k]? = w.heap[k]? := fun k hk ht => hf.blk k (h.fk k hk).2.1 (ne k hk ht)
  exact {
    cs := h.cs.fr hf fun k hk e => (h.fk s.p (.inl rfl)).2.2 (e ▸ hk)
    st := by
      have := heap_setCell_same w s.p 2 _ 104 (.int .i64 (n : Int)) h.st
      exact this
    mc := h.mc.same (bl _ (.inr (.inl rfl)) (by rw [h.t0.2.1]; omega))
    mb := h.mb.same (bl _ (.inr (.inr (.inl rfl))) (by rw [h.t0.2.2]; omega))
    ch := fun c hc => (h.ch c hc).same (bl _ (.inr (.inr (.inr (.inl ⟨c, hc, .inl rfl⟩)))) (by rw [(h.tc c hc).1]; omega)) (fun k hk => bl _ (.inr (.inr (.inr (.inl ⟨c, hc, .inr (.inl hk)⟩)))) (by rw [(h.tc c hc).2.1 k hk]; omega)) (fun k hk => bl _ (.inr (.inr (.inr (.inl ⟨c, hc, .inr (.inr hk)⟩)))) (by rw [(h.tc c hc).2.2 k hk]; omega))
    bk := fun b hb => (h.bk b hb).same (bl _ (.inr (.inr (.inr (.inr ⟨b, hb, .inl rfl⟩)))) (by rw [(h.tb b hb).1]; omega)) (fun k hk => bl _ (.inr (.inr (.inr (.inr ⟨b, hb, .inr hk⟩)))) (by rw [(h.tb b hb).2 k hk]; omega))
    cq := h.cq, bq := h.bq, t0 := h.t0, tc := h.tc, tb := h.tb
    fk := fun k hk => ⟨(h.fk k hk).1, Nat.lt_of_lt_of_le (h.fk k hk).2.1 hf.size, (h.fk k hk).2.2⟩ }
/-- The map of changes is another one. -/
theorem PM.mapC (h : PM w base s ops) {kc : Nat} {fC : Int → Nat} {kC : List Int} (hf : Fr (fun k => k = s.cm) w w') (hm : KMap 2 w' s.cm kc fC kC) : PM w' base { s with kc := kc, fC := fC, kC := kC } ops := by
  have bl : ∀ k, Fk s k → s.tag k ≠ 2 → w'.heap[k]? = w.heap[k]? := fun k hk ht => hf.blk k (h.fk k hk).2.1 (fun e => ht (by rw [e]; exact h.t0.2.1))
  exact {
    cs := h.cs.fr hf fun k hk e => (h.fk s.cm (.inr (.inl rfl))).2.2 (e ▸ hk)
    st := (bl _ (.inl rfl) (by rw [h.t0.1]; omega)).trans h.st
    mc := hm
    mb := h.mb.same (bl _ (.inr (.inr (.inl rfl))) (by rw [h.t0.2.2]; omega))
    ch := fun c hc => (h.ch c hc).same (bl _ (.inr (.inr (.inr (.inl ⟨c, hc, .inl rfl⟩)))) (by rw [(h.tc c hc).1]; omega)) (fun k hk => bl _ (.inr (.inr (.inr (.inl ⟨c, hc, .inr (.inl hk)⟩)))) (by rw [(h.tc c hc).2.1 k hk]; omega)) (fun k hk => bl _ (.inr (.inr (.inr (.inl ⟨c, hc, .inr (.inr hk)⟩)))) (by rw [(h.tc c hc).2.2 k hk]; omega))
    bk := fun b hb => (h.bk b hb).same (bl _ (.inr (.inr (.inr (.inr ⟨b, hb, .inl rfl⟩)))) (by rw [(h.tb b hb).1]; omega)) (fun k hk => bl _ (.inr (.inr (.inr (.inr ⟨b, hb, .inr hk⟩)))) (by rw [(h.tb b hb).2 k hk]; omega))
    cq := h.cq, bq := h.bq, t0 := h.t0, tc := h.tc, tb := h.tb
    fk := fun k hk => ⟨(h.fk k hk).1, Nat.lt_of_lt_of_le (h.fk k hk).2.1 hf.size, (h.fk k hk).2.2⟩ }
/-- The map of blocks is another one. -/
theorem PM.mapB (h : PM w base s ops) {kb : Nat} {fB : Int → Nat} {kB : List Int} (hf : Fr (fun k => k = s.bm) w w') (hm : KMap 3 w' s.bm kb fB kB) : PM w' base { s with kb := kb, fB := fB, kB := kB } ops := by
  have bl : ∀ k, Fk s k → s.tag k ≠ 3 → w'.heap[k]? = w.heap[k]? := fun k hk ht => hf.blk k (h.fk k hk).2.1 (fun e => ht (by rw [e]; exact h.t0.2.2))
  exact {
    cs := h.cs.fr hf fun k hk e => (h.fk s.bm (.inr (.inr (.inl rfl)))).2.2 (e ▸ hk)
    st := (bl _ (.inl rfl) (by rw [h.t0.1]; omega)).trans h.st
    mc := h.mc.same (bl _ (.inr (.inl rfl)) (by rw [h.t0.2.1]; omega))
    mb := hm
    ch := fun c hc => (h.ch c hc).same (bl _ (.inr (.inr (.inr (.inl ⟨c, hc, .inl rfl⟩)))) (by rw [(h.tc c hc).1]; omega)) (fun k hk => bl _ (.inr (.inr (.inr (.inl ⟨c, hc, .inr (.inl hk)⟩)))) (by rw [(h.tc c hc).2.1 k hk]; omega)) (fun k hk => bl _ (.inr (.inr (.inr (.inl ⟨c, hc, .inr (.inr hk)⟩)))) (by rw [(h.tc c hc).2.2 k hk]; omega))
    bk := fun b hb => (h.bk b hb).same (bl _ (.inr (.inr (.inr (.inr ⟨b, hb, .inl rfl⟩)))) (by rw [(h.tb b hb).1]; omega)) (fun k hk => bl _ (.inr (.inr (.inr (.inr ⟨b, hb, .inr hk⟩)))) (by rw [(h.tb b hb).2 k hk]; omega))
    cq := h.cq, bq := h.bq, t0 := h.t0, tc := h.tc, tb := h.tb
    fk := fun k hk => ⟨(h.fk k hk).1, Nat.lt_of_lt_of_le (h.fk k hk).2.1 hf.size, (h.fk k hk).2.2⟩ }
theorem mem_mid {α : Type} {A B : List α} {e e' x : α} (hx : x ∈ A ++ e' :: B) : x = e' ∨ (x ∈ A ++ e :: B ∧ (x ∈ A ∨ x ∈ B)) := by
  simp only [List.mem_append, List.mem_cons] at hx ⊢
  rcases hx with hx | hx | hx
  · exact .inr ⟨.inl hx, .inl hx⟩
  · exact .inl hx
  · exact .inr ⟨.inr (.inr hx), .inr hx⟩
theorem nodup_mid {α : Type} {f : α → Nat} {A B : List α} {e x : α} (h : ((A ++ e :: B).map f).Nodup) (hx : x ∈ A ∨ x ∈ B) : f x ≠ f e := fun hc => by
  simp only [List.map_append, List.map_cons, List.nodup_append, List.nodup_cons, List.mem_map, List.mem_cons] at h
  rcases hx with hx | hx
  · exact h.2.2 (f x) ⟨x, hx, rfl⟩ (f e) (.inl rfl) hc
  · exact h.2.1.1 ⟨x, hx, hc⟩
/-- One change is another one: its flag, or whom it waits for. -/
theorem PM.setC (h : PM w base s ops) {X Y : List Ch} {c c' : Ch} (hC : s.C = X ++ c :: Y) (hq : c'.q = c.q) (hdv : c'.dv = c.dv) (hd : c'.d = c.d) (hf : Fr (fun k => k = c.q) w w') (hr : w'.heap[c.q]? = some (.cells (chL c').toArray 125 (0, 0))) (ha : OwnL w' base c'.av c'.ah)
    (hav : ∀ k, c'.av.ownBlock = some k → c.av.ownBlock = some k ∨ ¬ Ak s k) :
    ∃ tg, PM w' base { s with C := X ++ c' :: Y, tag := tg } ops := by
  have hc : c ∈ s.C := by rw [hC]; simp
  have mem : ∀ x, x ∈ X ++ c' :: Y → x = c' ∨ (x ∈ s.C ∧ (x ∈ X ∨ x ∈ Y)) := fun x hx => by rw [hC]; exact mem_mid hx
  have hcq := h.cq
  rw [hC] at hcq
  have hlt : ∀ k, c'.av.ownBlock = some k → base ≤ k ∧ k < w'.heap.size := fun k hk => ha.lt k hk
  have bl : ∀ k, Fk s k → s.tag k ≠ 3 * c.q + 10 → w'.heap[k]? = w.heap[k]? := fun k hk ht => hf.blk k (h.fk k hk).2.1 (fun e => ht (by rw [e]; exact (h.tc c hc).1))
  have hcf : Fk s c.q := .inr (.inr (.inr (.inl ⟨c, hc, .inl rfl⟩)))
  have nb : ∀ b ∈ s.B, c.q ≠ b.q := fun b hb => h.cb hc hb
  let tg : Nat → Nat := fun k => if c'.av.ownBlock = some k then 3 * c.q + 12 else s.tag k
  have tgo : ∀ k, Fk s k → tg k = s.tag k := fun k hk => by
    show (if c'.av.ownBlock = some k then 3 * c.q + 12 else s.tag k) = s.tag k
    split
    · rename_i e
      rcases hav k e with e | e
      · exact ((h.tc c hc).2.2 k e).symm
      · exact absurd (.inl hk) e
    · rfl
  have fkc : ∀ x ∈ s.C, Fk s x.q := fun x hx => .inr (.inr (.inr (.inl ⟨x, hx, .inl rfl⟩)))
  have fkd : ∀ x ∈ s.C, ∀ k, x.dv.ownBlock = some k → Fk s k := fun x hx k hk => .inr (.inr (.inr (.inl ⟨x, hx, .inr (.inl hk)⟩)))
  have fka : ∀ x ∈ s.C, ∀ k, x.av.ownBlock = some k → Fk s k := fun x hx k hk => .inr (.inr (.inr (.inl ⟨x, hx, .inr (.inr hk)⟩)))
  have fkb : ∀ b ∈ s.B, Fk s b.q := fun b hb => .inr (.inr (.inr (.inr ⟨b, hb, .inl rfl⟩)))
  have fko : ∀ b ∈ s.B, ∀ k, b.ov.ownBlock = some k → Fk s k := fun b hb k hk => .inr (.inr (.inr (.inr ⟨b, hb, .inr hk⟩)))
  refine ⟨tg, ?_⟩
  exact {
    cs := h.cs.fr hf fun k hk e => (h.fk c.q hcf).2.2 (e ▸ hk)
    st := (bl _ (.inl rfl) (by rw [h.t0.1]; omega)).trans h.st
    mc := h.mc.same (bl _ (.inr (.inl rfl)) (by rw [h.t0.2.1]; omega))
    mb := h.mb.same (bl _ (.inr (.inr (.inl rfl))) (by rw [h.t0.2.2]; omega))
    ch := fun x hx => by
      rcases mem x hx with rfl | ⟨hx, hx2⟩
      · refine ⟨by rw [hq]; exact hr, ?_, ha⟩
        rw [hdv, hd]
        exact row_same (h.ch c hc).dat fun k hk => bl k (fkd c hc k hk) (by rw [(h.tc c hc).2.1 k hk]; omega)
      · have hne : x.q ≠ c.q := nodup_mid hcq hx2
        exact (h.ch x hx).same (bl _ (fkc x hx) (by rw [(h.tc x hx).1]; omega)) (fun k hk => bl _ (fkd x hx k hk) (by rw [(h.tc x hx).2.1 k hk]; omega)) (fun k hk => bl _ (fka x hx k hk) (by rw [(h.tc x hx).2.2 k hk]; omega))
    bk := fun b hb => by
      have hne := nb b hb
      exact (h.bk b hb).same (bl _ (fkb b hb) (by rw [(h.tb b hb).1]; omega)) (fun k hk => bl _ (fko b hb k hk) (by rw [(h.tb b hb).2 k hk]; omega))
    cq := by simpa [hq] using hcq
    bq := h.bq
    t0 := ⟨(tgo _ (.inl rfl)).trans h.t0.1, (tgo _ (.inr (.inl rfl))).trans h.t0.2.1, (tgo _ (.inr (.inr (.inl rfl)))).trans h.t0.2.2⟩
    tc := fun x hx => by
      rcases mem x hx with rfl | ⟨hx, hx2⟩
      · rw [hq, hdv]
        refine ⟨(tgo _ hcf).trans (h.tc c hc).1, fun k hk => (tgo k (fkd c hc k hk)).trans ((h.tc c hc).2.1 k hk), fun k hk => ?_⟩
        show (if x.av.ownBlock = some k then 3 * c.q + 12 else s.tag k) = 3 * c.q + 12
        rw [if_pos hk]
      · exact ⟨(tgo _ (fkc x hx)).trans (h.tc x hx).1, fun k hk => (tgo k (fkd x hx k hk)).trans ((h.tc x hx).2.1 k hk), fun k hk => (tgo k (fka x hx k hk)).trans ((h.tc x hx).2.2 k hk)⟩
    tb := fun b hb => ⟨(tgo _ (fkb b hb)).trans (h.tb b hb).1, fun k hk => (tgo k (fko b hb k hk)).trans ((h.tb b hb).2 k hk)⟩
    fk := fun k hk => by
      have old : Fk s k → base ≤ k ∧ k < w'.heap.size ∧ ¬ Sk s.σ k := fun hk => ⟨(h.fk k hk).1, Nat.lt_of_lt_of_le (h.fk k hk).2.1 hf.size, (h.fk k hk).2.2⟩
      rcases hk with hk | hk | hk | ⟨x, hx, hk⟩ | hk
      · exact old (.inl hk)
      · exact old (.inr (.inl hk))
      · exact old (.inr (.inr (.inl hk)))
      · rcases mem x hx with rfl | ⟨hx, _⟩
        · rw [hq, hdv] at hk
          rcases hk with hk | hk | hk
          · exact old (by rw [hk]; exact hcf)
          · exact old (fkd c hc k hk)
          · rcases hav k hk with e | e
            · exact old (fka c hc k e)
            · exact ⟨(hlt k hk).1, (hlt k hk).2, fun c => e (.inr c)⟩
        · exact old (.inr (.inr (.inr (.inl ⟨x, hx, hk⟩))))
      · exact old (.inr (.inr (.inr (.inr hk)))) }
/-- One block is another one: its bytes, its list, its last changes. -/
theorem PM.setB (h : PM w base s ops) {X Y : List Bk} {b b' : Bk} {op : List Int} (hB : s.B = X ++ b :: Y) (hq : b'.q = b.q) (hf : Fr (fun k => k = b.q ∨ b.ov.ownBlock = some k) w w') (hr : w'.heap[b.q]? = some (.cells (bkL b').toArray 169 (0, 0))) (h1 : b'.ba.length = 256) (h2 : b'.la.length = 256) (ho : OwnL w' base b'.ov op)
    (hov : ∀ k, b'.ov.ownBlock = some k → b.ov.ownBlock = some k ∨ ¬ Ak s k) :
    ∃ tg, PM w' base { s with B := X ++ b' :: Y, tag := tg } (fun q => if q = b.q then op else ops q) := by
  have hb : b ∈ s.B := by rw [hB]; simp
  have mem : ∀ x, x ∈ X ++ b' :: Y → x = b' ∨ (x ∈ s.B ∧ (x ∈ X ∨ x ∈ Y)) := fun x hx => by rw [hB]; exact mem_mid hx
  have hbq := h.bq
  rw [hB] at hbq
  have hlt : ∀ k, b'.ov.ownBlock = some k → base ≤ k ∧ k < w'.heap.size := fun k hk => ho.lt k hk
  have bl : ∀ k, Fk s k → s.tag k ≠ 3 * b.q + 10 → s.tag k ≠ 3 * b.q + 11 → w'.heap[k]? = w.heap[k]? := fun k hk ht ht2 => hf.blk k (h.fk k hk).2.1 (fun e => by
    rcases e with e | e
    · exact ht (by rw [e]; exact (h.tb b hb).1)
    · exact ht2 ((h.tb b hb).2 k e))
  have hbf : Fk s b.q := .inr (.inr (.inr (.inr ⟨b, hb, .inl rfl⟩)))
  have nb : ∀ c ∈ s.C, c.q ≠ b.q := fun c hc => h.cb hc hb
  let tg : Nat → Nat := fun k => if b'.ov.ownBlock = some k then 3 * b.q + 11 else s.tag k
  have tgo : ∀ k, Fk s k → tg k = s.tag k := fun k hk => by
    show (if b'.ov.ownBlock = some k then 3 * b.q + 11 else s.tag k) = s.tag k
    split
    · rename_i e
      rcases hov k e with e | e
      · exact ((h.tb b hb).2 k e).symm
      · exact absurd (.inl hk) e
    · rfl
  have fkc : ∀ x ∈ s.C, Fk s x.q := fun x hx => .inr (.inr (.inr (.inl ⟨x, hx, .inl rfl⟩)))
  have fkd : ∀ x ∈ s.C, ∀ k, x.dv.ownBlock = some k → Fk s k := fun x hx k hk => .inr (.inr (.inr (.inl ⟨x, hx, .inr (.inl hk)⟩)))
  have fka : ∀ x ∈ s.C, ∀ k, x.av.ownBlock = some k → Fk s k := fun x hx k hk => .inr (.inr (.inr (.inl ⟨x, hx, .inr (.inr hk)⟩)))
  have fkb : ∀ b ∈ s.B, Fk s b.q := fun b hb => .inr (.inr (.inr (.inr ⟨b, hb, .inl rfl⟩)))
  have fko : ∀ b ∈ s.B, ∀ k, b.ov.ownBlock = some k → Fk s k := fun b hb k hk => .inr (.inr (.inr (.inr ⟨b, hb, .inr hk⟩)))
  refine ⟨tg, ?_⟩
  exact {
    cs := h.cs.fr hf fun k hk e => by
      rcases e with e | e
      · exact (h.fk b.q hbf).2.2 (e ▸ hk)
      · exact (h.fk k (fko b hb k e)).2.2 hk
    st := (bl _ (.inl rfl) (by rw [h.t0.1]; omega) (by rw [h.t0.1]; omega)).trans h.st
    mc := h.mc.same (bl _ (.inr (.inl rfl)) (by rw [h.t0.2.1]; omega) (by rw [h.t0.2.1]; omega))
    mb := h.mb.same (bl _ (.inr (.inr (.inl rfl))) (by rw [h.t0.2.2]; omega) (by rw [h.t0.2.2]; omega))
    ch := fun x hx => by
      have hne := nb x hx
      exact (h.ch x hx).same (bl _ (fkc x hx) (by rw [(h.tc x hx).1]; omega) (by rw [(h.tc x hx).1]; omega)) (fun k hk => bl _ (fkd x hx k hk) (by rw [(h.tc x hx).2.1 k hk]; omega) (by rw [(h.tc x hx).2.1 k hk]; omega)) (fun k hk => bl _ (fka x hx k hk) (by rw [(h.tc x hx).2.2 k hk]; omega) (by rw [(h.tc x hx).2.2 k hk]; omega))
    bk := fun x hx => by
      rcases mem x hx with rfl | ⟨hx, hx2⟩
      · refine ⟨by rw [hq]; exact hr, h1, h2, ?_⟩
        show OwnL w' base x.ov (if x.q = b.q then op else ops x.q)
        rw [if_pos hq]; exact ho
      · have hne : x.q ≠ b.q := nodup_mid hbq hx2
        show BkAt w' base x (if x.q = b.q then op else ops x.q)
        rw [if_neg hne]
        exact (h.bk x hx).same (bl _ (fkb x hx) (by rw [(h.tb x hx).1]; omega) (by rw [(h.tb x hx).1]; omega)) (fun k hk => bl _ (fko x hx k hk) (by rw [(h.tb x hx).2 k hk]; omega) (by rw [(h.tb x hx).2 k hk]; omega))
    cq := h.cq
    bq := by simpa [hq] using hbq
    t0 := ⟨(tgo _ (.inl rfl)).trans h.t0.1, (tgo _ (.inr (.inl rfl))).trans h.t0.2.1, (tgo _ (.inr (.inr (.inl rfl)))).trans h.t0.2.2⟩
    tc := fun x hx => ⟨(tgo _ (fkc x hx)).trans (h.tc x hx).1, fun k hk => (tgo k (fkd x hx k hk)).trans ((h.tc x hx).2.1 k hk), fun k hk => (tgo k (fka x hx k hk)).trans ((h.tc x hx).2.2 k hk)⟩
    tb := fun x hx => by
      rcases mem x hx with rfl | ⟨hx, hx2⟩
      · rw [hq]
        refine ⟨(tgo _ hbf).trans (h.tb b hb).1, fun k hk => ?_⟩
        show (if x.ov.ownBlock = some k then 3 * b.q + 11 else s.tag k) = 3 * b.q + 11
        rw [if_pos hk]
      · exact ⟨(tgo _ (fkb x hx)).trans (h.tb x hx).1, fun k hk => (tgo k (fko x hx k hk)).trans ((h.tb x hx).2 k hk)⟩
    fk := fun k hk => by
      have old : Fk s k → base ≤ k ∧ k < w'.heap.size ∧ ¬ Sk s.σ k := fun hk => ⟨(h.fk k hk).1, Nat.lt_of_lt_of_le (h.fk k hk).2.1 hf.size, (h.fk k hk).2.2⟩
      rcases hk with hk | hk | hk | hk | ⟨x, hx, hk⟩
      · exact old (.inl hk)
      · exact old (.inr (.inl hk))
      · exact old (.inr (.inr (.inl hk)))
      · exact old (.inr (.inr (.inr (.inl hk))))
      · rcases mem x hx with rfl | ⟨hx, _⟩
        · rw [hq] at hk
          rcases hk with hk | hk
          · exact old (by rw [hk]; exact hbf)
          · rcases hov k hk with e | e
            · exact old (fko b hb k e)
            · exact ⟨(hlt k hk).1, (hlt k hk).2, fun c => e (.inr c)⟩
        · exact old (.inr (.inr (.inr (.inr ⟨x, hx, hk⟩)))) }
end
end Go.Proofs.YtaljaledeljllaaGreat
