/- A store of changes in memory: its own blocks, and what each step turns. -/
import Derived.Test.YtadadidccbhopaaGreatKPmod
import Derived.Test.YtadadidccbhopaaGreatJKMap2
import Derived.Test.YtadadidccbhopaaGreatJCdir7
namespace Go.Proofs.YtadadidccbhopaaGreat
open Go.RowKit
set_option maxRecDepth 100000
theorem Tryz.infoL : (Tryz.prog.info? 2).map (fun i => (i.zero, i.size, i.bytes)) = some (some (.int .i64 0), 1, 8) := by kernel_rfl
/-- The slice v is the call's own, and its numbers (of 64 bits) are l. -/
def OwnL (w : World) (base : Nat) (v : Value) (l : List Int) : Prop := w.ownsRow base 2 1 v l.length (ivs l)
theorem OwnL.nil (w : World) (base : Nat) : OwnL w base (.slice none 0 0) [] := World.ownsRow_nil _ _ _ _
theorem OwnL.lt {w : World} {base : Nat} {v : Value} {l : List Int} (h : OwnL w base v l) : ∀ k, v.ownBlock = some k → base ≤ k ∧ k < w.heap.size := World.ownsRow.lt h
theorem row_same {w w' : World} {base e size : Nat} {v : Value} {m : Nat} {xs : List Value} (h : w.ownsRow base e size v m xs) (hb : ∀ k, v.ownBlock = some k → w'.heap[k]? = w.heap[k]?) : w'.ownsRow base e size v m xs := by
  obtain ⟨h1, h2⟩ := h
  refine ⟨h1, ?_⟩
  rcases h2 with h2 | ⟨g, cap, cur, hv, hg, hh, r⟩
  · exact .inl h2
  · exact .inr ⟨g, cap, cur, hv, hg, by rw [hb g (by rw [hv]; rfl)]; exact hh, r⟩
theorem row_mono {w : World} {base b' e size : Nat} {v : Value} {m : Nat} {xs : List Value} (h : w.ownsRow base e size v m xs) (hb : b' ≤ base) : w.ownsRow b' e size v m xs := by
  obtain ⟨h1, h2⟩ := h
  refine ⟨h1, ?_⟩
  rcases h2 with h2 | ⟨g, cap, cur, hv, hg, r⟩
  · exact .inl h2
  · exact .inr ⟨g, cap, cur, hv, by omega, r⟩
theorem OwnL.form {w : World} {base : Nat} {v : Value} {l : List Int} (h : OwnL w base v l) : ∃ ao cap, v = .slice ao l.length cap ∧ SrcI w ao l ∧ l.length ≤ cap ∧ (cap : Int) ≤ 9223372036854775807 ∧ (ao = none → cap = 0) := by
  obtain ⟨h1, h2⟩ := h
  rcases h2 with ⟨rfl, h3⟩ | ⟨g, cap, cur, rfl, hg, hh, hn, hm, hs, hx⟩
  · obtain rfl : l = [] := List.eq_nil_of_length_eq_zero h3
    exact ⟨none, 0, rfl, SrcI.nil _ _, by simp, by omega, fun _ => rfl⟩
  · refine ⟨some ⟨g, 0, none⟩, cap, rfl, .inr ⟨g, 0, rfl, (Array.getElem?_eq_some_iff.1 hh).1, fun j hj => ?_⟩, hn, by unfold maxLen at hm; omega, fun h => by cases h⟩
    rw [Nat.zero_add, cell_of_row w g j _ _ _ hh]
    have e : (cur.toList.take (l.length * 1))[j]? = (ivs l)[j]? := by rw [hx]
    rw [List.getElem?_take] at e
    simp only [Nat.mul_one, hj, if_true] at e
    simpa [ivs, hj] using e
def chL (c : Ch) : List Value := [.int .i64 (c.b : Int), .int .i64 (c.fr : Int), c.dv, c.av, .bool c.wr]
def bkL (b : Bk) : List Value := bvs b.ba ++ b.ov :: ivs b.la
/-- A store in memory: what its parts hold. -/
structure PSt where
  p : Nat
  cm : Nat
  bm : Nat
  kc : Nat
  kb : Nat
  cnt : Nat
  fC : Int → Nat
  kC : List Int
  fB : Int → Nat
  kB : List Int
  C : List Ch
  B : List Bk
  tag : Nat → Nat
  σ : CSt
def stL (s : PSt) : List Value := [.pointer (some ⟨s.σ.dp, 0, none⟩), .pointer (some ⟨s.σ.p, 0, none⟩), .int .i64 (s.cnt : Int), .map (some s.cm), .map (some s.bm)]
/-- Its own blocks. -/
def Fk (s : PSt) (k : Nat) : Prop := k = s.p ∨ k = s.cm ∨ k = s.bm ∨ (∃ c ∈ s.C, k = c.q ∨ c.dv.ownBlock = some k ∨ c.av.ownBlock = some k) ∨ ∃ b ∈ s.B, k = b.q ∨ b.ov.ownBlock = some k
def Ak (s : PSt) (k : Nat) : Prop := Fk s k ∨ Sk s.σ k
structure ChAt (w : World) (base : Nat) (c : Ch) : Prop where
  cell : w.heap[c.q]? = some (.cells (chL c).toArray 146 (0, 0))
  dat : Own w base c.dv c.d
  ahd : OwnL w base c.av c.ah
structure BkAt (w : World) (base : Nat) (b : Bk) (op : List Int) : Prop where
  cell : w.heap[b.q]? = some (.cells (bkL b).toArray 190 (0, 0))
  l1 : b.ba.length = 256
  l2 : b.la.length = 256
  opn : OwnL w base b.ov op
/-- The store s lies in w; ops says the open changes of each block. -/
structure PM (w : World) (base : Nat) (s : PSt) (ops : Nat → List Int) : Prop where
  cs : CS w base s.σ (nums s.σ.L)
  st : w.heap[s.p]? = some (.cells (stL s).toArray 124 (0, 0))
  mc : KMap 2 w s.cm s.kc s.fC s.kC
  mb : KMap 3 w s.bm s.kb s.fB s.kB
  ch : ∀ c ∈ s.C, ChAt w base c
  bk : ∀ b ∈ s.B, BkAt w base b (ops b.q)
  cq : (s.C.map (·.q)).Nodup
  bq : (s.B.map (·.q)).Nodup
  t0 : s.tag s.p = 1 ∧ s.tag s.cm = 2 ∧ s.tag s.bm = 3
  tc : ∀ c ∈ s.C, s.tag c.q = 3 * c.q + 10 ∧ (∀ k, c.dv.ownBlock = some k → s.tag k = 3 * c.q + 11) ∧ ∀ k, c.av.ownBlock = some k → s.tag k = 3 * c.q + 12
  tb : ∀ b ∈ s.B, s.tag b.q = 3 * b.q + 10 ∧ ∀ k, b.ov.ownBlock = some k → s.tag k = 3 * b.q + 11
  fk : ∀ k, Fk s k → base ≤ k ∧ k < w.heap.size ∧ ¬ Sk s.σ k
section
variable {w w' : World} {base : Nat} {s : PSt} {ops : Nat → List Int}
theorem PM.lt (h : PM w base s ops) {k : Nat} (hk : Ak s k) : k < w.heap.size := by
  rcases hk with hk | hk
  · exact (h.fk k hk).2.1
  · exact h.cs.sk_size hk
theorem PM.bs (h : PM w base s ops) : base ≤ w.heap.size := h.cs.bs
theorem PM.cb (h : PM w base s ops) {c : Ch} {b : Bk} (hc : c ∈ s.C) (hb : b ∈ s.B) : c.q ≠ b.q := fun e => by
  have h1 := (h.ch c hc).cell
  rw [e, (h.bk b hb).cell] at h1
  simp only [Option.some.injEq, Obj.cells.injEq] at h1
  exact absurd h1.2.1 (by decide)
theorem ChAt.same {c : Ch} (h : ChAt w base c) (hq : w'.heap[c.q]? = w.heap[c.q]?) (hd : ∀ k, c.dv.ownBlock = some k → w'.heap[k]? = w.heap[k]?) (ha : ∀ k, c.av.ownBlock = some k → w'.heap[k]? = w.heap[k]?) : ChAt w' base c :=
  ⟨hq.trans h.cell, row_same h.dat hd, row_same h.ahd ha⟩
theorem BkAt.same {b : Bk} {op : List Int} (h : BkAt w base b op) (hq : w'.heap[b.q]? = w.heap[b.q]?) (ho : ∀ k, b.ov.ownBlock = some k → w'.heap[k]? = w.heap[k]?) : BkAt w' base b op :=
  ⟨hq.trans h.cell, h.l1, h.l2, row_same h.opn ho⟩
/-- Under changes of other blocks. -/
theorem PM.fr (h : PM w base s ops) {S : Nat → Prop} (hf : Fr S w w') (hS : ∀ k, Ak s k → ¬ S k) : PM w' base s ops := by
  have bl : ∀ k, Fk s k → w'.heap[k]? = w.heap[k]? := fun k hk => hf.blk k (h.fk k hk).2.1 (hS k (.inl hk))
  exact {
    cs := h.cs.fr hf fun k hk => hS k (.inr hk)
    st := (bl _ (.inl rfl)).trans h.st
    mc := h.mc.same (bl _ (.inr (.inl rfl)))
    mb := h.mb.same (bl _ (.inr (.inr (.inl rfl))))
    ch := fun c hc => (h.ch c hc).same (bl _ (.inr (.inr (.inr (.inl ⟨c, hc, .inl rfl⟩))))) (fun k hk => bl _ (.inr (.inr (.inr (.inl ⟨c, hc, .inr (.inl hk)⟩))))) (fun k hk => bl _ (.inr (.inr (.inr (.inl ⟨c, hc, .inr (.inr hk)⟩)))))
    bk := fun b hb => (h.bk b hb).same (bl _ (.inr (.inr (.inr (.inr ⟨b, hb, .inl rfl⟩))))) (fun k hk => bl _ (.inr (.inr (.inr (.inr ⟨b, hb, .inr hk⟩)))))
    cq := h.cq, bq := h.bq, t0 := h.t0, tc := h.tc, tb := h.tb
    fk := fun k hk => ⟨(h.fk k hk).1, Nat.lt_of_lt_of_le (h.fk k hk).2.1 hf.size, (h.fk k hk).2.2⟩ }
theorem PM.up (h : PM w base s ops) (hb : Below w.heap.size w w') : PM w' base s ops := h.fr (S := fun _ => False) (Fr.of_below hb) fun _ _ c => c
/-- The cache is another one. -/
theorem PM.cache (h : PM w base s ops) {σ' : CSt} (hD : Done base s.σ σ' w w') (hp : σ'.p = s.σ.p) (hd : σ'.dp = s.σ.dp) : PM w' base { s with σ := σ' } ops := by
  have hf := hD.st.fr
  have bl : ∀ k, Fk s k → w'.heap[k]? = w.heap[k]? := fun k hk => hf.blk k (h.fk k hk).2.1 (h.fk k hk).2.2
  exact {
    cs := hD.cs
    st := by
      have := (bl _ (.inl rfl)).trans h.st
      simp only [stL, hp, hd] at this ⊢
      exact this
    mc := h.mc.same (bl _ (.inr (.inl rfl)))
    mb := h.mb.same (bl _ (.inr (.inr (.inl rfl))))
    ch := fun c hc => (h.ch c hc).same (bl _ (.inr (.inr (.inr (.inl ⟨c, hc, .inl rfl⟩))))) (fun k hk => bl _ (.inr (.inr (.inr (.inl ⟨c, hc, .inr (.inl hk)⟩))))) (fun k hk => bl _ (.inr (.inr (.inr (.inl ⟨c, hc, .inr (.inr hk)⟩)))))
    bk := fun b hb => (h.bk b hb).same (bl _ (.inr (.inr (.inr (.inr ⟨b, hb, .inl rfl⟩))))) (fun k hk => bl _ (.inr (.inr (.inr (.inr ⟨b, hb, .inr hk⟩)))))
    cq := h.cq, bq := h.bq, t0 := h.t0, tc := h.tc, tb := h.tb
    fk := fun k hk => ⟨(h.fk k hk).1, Nat.lt_of_lt_of_le (h.fk k hk).2.1 hf.size, fun c => by
      rcases hD.st.sub k c with c | c
      · exact (h.fk k hk).2.2 c
      · have := (h.fk k hk).2.1; omega⟩ }
/-- The count is another one. -/
theorem PM.cnt (h : PM w base s ops) (n : Nat) : PM (w.setCell ⟨s.p, 2, none⟩ (.int .i64 (n : Int))) base { s with cnt := n } ops := by
  have hf : Fr (fun k => k = s.p) w (w.setCell ⟨s.p, 2, none⟩ (.int .i64 (n : Int))) := (Fr.refl _ _).setCell s.p 2 _ rfl
  have ne : ∀ k, Fk s k → s.tag k ≠ 1 → k ≠ s.p := fun k _ ht e => ht (by rw [e]; exact h.t0.1)
  have bl : ∀ k, Fk s k → s.tag k ≠ 1 → (w.setCell ⟨s.p, 2, none⟩ (.int .i64 (n : Int))).heap[k]? = w.heap[k]? := fun k hk ht => hf.blk k (h.fk k hk).2.1 (ne k hk ht)
  exact {
    cs := h.cs.fr hf fun k hk e => (h.fk s.p (.inl rfl)).2.2 (e ▸ hk)
    st := by
      have := heap_setCell_same w s.p 2 _ 124 (.int .i64 (n : Int)) h.st
      exact this
    mc := h.mc.same (bl _ (.inr (.inl rfl)) (by rw [h.t0.2.1]; omega))
    mb := h.mb.same (bl _ (.inr (.inr (.inl rfl))) (by rw [h.t0.2.2]; omega))
    ch := fun c hc => (h.ch c hc).same (bl _ (.inr (.inr (.inr (.inl ⟨c, hc, .inl rfl⟩)))) (by rw [(h.tc c hc).1]; omega)) (fun k hk => bl _ (.inr (.inr (.inr (.inl ⟨c, hc, .inr (.inl hk)⟩)))) (by rw [(h.tc c hc).2.1 k hk]; omega)) (fun k hk => bl _ (.inr (.inr (.inr (.inl ⟨c, hc, .inr (.inr hk)⟩)))) (by rw [(h.tc c hc).2.2 k hk]; omega))
    bk := fun b hb => (h.bk b hb).same (bl _ (.inr (.inr (.inr (.inr ⟨b, hb, .inl rfl⟩)))) (by rw [(h.tb b hb).1]; omega)) (fun k hk => bl _ (.inr (.inr (.inr (.inr ⟨b, hb, .inr hk⟩)))) (by rw [(h.tb b hb).2 k hk]; omega))
    cq := h.cq, bq := h.bq, t0 := h.t0, tc := h.tc, tb := h.tb
    fk := fun k hk => ⟨(h.fk k hk).1, Nat.lt_of_lt_of_le (h.fk k hk).2.1 hf.size, (h.fk k hk).2.2⟩ }
/-- The map of changes is another one. -/
theorem PM.mapC (h : PM w base s ops) {kc : Nat} {fC : Int → Nat} {kC : List Int} (hf : Fr (fun k => k = s.cm) w w') (hm : KMap 2 w' s.cm kc fC kC) : PM w' base { s with kc := kc, fC := fC, kC := kC } ops := by
  have bl : ∀ k, Fk s k → s.tag k ≠ 2 → w'.heap[k]? = w.heap[k]? := fun k hk ht => hf.blk k (h.fk k hk).2.1 (fun e => ht (by rw [e]; exact h.t0.2.1))
  exact {
    cs := h.cs.fr hf fun k hk e => (h.fk s.cm (.inr (.inl rfl))).2.2 (e ▸ hk)
    st := (bl _ (.inl rfl) (by rw [h.t0.1]; omega)).trans h.st
    mc := hm
    mb := h.mb.same (bl _ (.inr (.inr (.inl rfl))) (by rw [h.t0.2.2]; omega))
    ch := fun c hc => (h.ch c hc).same (bl _ (.inr (.inr (.inr (.inl ⟨c, hc, .inl rfl⟩)))) (by rw [(h.tc c hc).1]; omega)) (fun k hk => bl _ (.inr (.inr (.inr (.inl ⟨c, hc, .inr (.inl hk)⟩)))) (by rw [(h.tc c hc).2.1 k hk]; omega)) (fun k hk => bl _ (.inr (.inr (.inr (.inl ⟨c, hc, .inr (.inr hk)⟩)))) (by rw [(h.tc c hc).2.2 k hk]; omega))
    bk := fun b hb => (h.bk b hb).same (bl _ (.inr (.inr (.inr (.inr ⟨b, hb, .inl rfl⟩)))) (by rw [(h.tb b hb).1]; omega)) (fun k hk => bl _ (.inr (.inr (.inr (.inr ⟨b, hb, .inr hk⟩)))) (by rw [(h.tb b hb).2 k hk]; omega))
    cq := h.cq, bq := h.bq, t0 := h.t0, tc := h.tc, tb := h.tb
    fk := fun k hk => ⟨(h.fk k hk).1, Nat.lt_of_lt_of_le (h.fk k hk).2.1 hf.size, (h.fk k hk).2.2⟩ }
/-- The map of blocks is another one. -/
theorem PM.mapB (h : PM w base s ops) {kb : Nat} {fB : Int → Nat} {kB : List Int} (hf : Fr (fun k => k = s.bm) w w') (hm : KMap 3 w' s.bm kb fB kB) : PM w' base { s with kb := kb, fB := fB, kB := kB } ops := by
  have bl : ∀ k, Fk s k → s.tag k ≠ 3 → w'.heap[k]? = w.heap[k]? := fun k hk ht => hf.blk k (h.fk k hk).2.1 (fun e => ht (by rw [e]; exact h.t0.2.2))
  exact {
    cs := h.cs.fr hf fun k hk e => (h.fk s.bm (.inr (.inr (.inl rfl)))).2.2 (e ▸ hk)
    st := (bl _ (.inl rfl) (by rw [h.t0.1]; omega)).trans h.st
    mc := h.mc.same (bl _ (.inr (.inl rfl)) (by rw [h.t0.2.1]; omega))
    mb := hm
    ch := fun c hc => (h.ch c hc).same (bl _ (.inr (.inr (.inr (.inl ⟨c, hc, .inl rfl⟩)))) (by rw [(h.tc c hc).1]; omega)) (fun k hk => bl _ (.inr (.inr (.inr (.inl ⟨c, hc, .inr (.inl hk)⟩)))) (by rw [(h.tc c hc).2.1 k hk]; omega)) (fun k hk => bl _ (.inr (.inr (.inr (.inl ⟨c, hc, .inr (.inr hk)⟩)))) (by rw [(h.tc c hc).2.2 k hk]; omega))
    bk := fun b hb => (h.bk b hb).same (bl _ (.inr (.inr (.inr (.inr ⟨b, hb, .inl rfl⟩)))) (by rw [(h.tb b hb).1]; omega)) (fun k hk => bl _ (.inr (.inr (.inr (.inr ⟨b, hb, .inr hk⟩)))) (by rw [(h.tb b hb).2 k hk]; omega))
    cq := h.cq, bq := h.bq, t0 := h.t0, tc := h.tc, tb := h.tb
    fk := fun k hk => ⟨(h.fk k hk).1, Nat.lt_of_lt_of_le (h.fk k hk).2.1 hf.size, (h.fk k hk).2.2⟩ }
theorem mem_mid {α : Type} {A B : List α} {e e' x : α} (hx : x ∈ A ++ e' :: B) : x = e' ∨ (x ∈ A ++ e :: B ∧ (x ∈ A ∨ x ∈ B)) := by
  simp only [List.mem_append, List.mem_cons] at hx ⊢
  rcases hx with hx | hx | hx
  · exact .inr ⟨.inl hx, .inl hx⟩
  · exact .inl hx
  · exact .inr ⟨.inr (.inr hx), .inr hx⟩
theorem nodup_mid {α : Type} {f : α → Nat} {A B : List α} {e x : α} (h : ((A ++ e :: B).map f).Nodup) (hx : x ∈ A ∨ x ∈ B) : f x ≠ f e := fun hc => by
  simp only [List.map_append, List.map_cons, List.nodup_append, List.nodup_cons, List.mem_map, List.mem_cons] at h
  rcases hx with hx | hx
  · exact h.2.2 (f x) ⟨x, hx, rfl⟩ (f e) (.inl rfl) hc
  · exact h.2.1.1 ⟨x, hx, hc⟩
/-- One change is another one: its flag, or whom it waits for. -/
theorem PM.setC (h : PM w base s ops) {X Y : List Ch} {c c' : Ch} (hC : s.C = X ++ c :: Y) (hq : c'.q = c.q) (hdv : c'.dv = c.dv) (hd : c'.d = c.d) (hf : Fr (fun k => k = c.q) w w') (hr : w'.heap[c.q]? = some (.cells (chL c').toArray 146 (0, 0))) (ha : OwnL w' base c'.av c'.ah)
    (hav : ∀ k, c'.av.ownBlock = some k → c.av.ownBlock = some k ∨ ¬ Ak s k) :
    ∃ tg, PM w' base { s with C := X ++ c' :: Y, tag := tg } ops := by
  have hc : c ∈ s.C := by rw [hC]; simp
  have mem : ∀ x, x ∈ X ++ c' :: Y → x = c' ∨ (x ∈ s.C ∧ (x ∈ X ∨ x ∈ Y)) := fun x hx => by rw [hC]; exact mem_mid hx
  have hcq := h.cq
  rw [hC] at hcq
  have hlt : ∀ k, c'.av.ownBlock = some k → base ≤ k ∧ k < w'.heap.size := fun k hk => ha.lt k hk
  have bl : ∀ k, Fk s k → s.tag k ≠ 3 * c.q + 10 → w'.heap[k]? = w.heap[k]? := fun k hk ht => hf.blk k (h.fk k hk).2.1 (fun e => ht (by rw [e]; exact (h.tc c hc).1))
  have hcf : Fk s c.q := .inr (.inr (.inr (.inl ⟨c, hc, .inl rfl⟩)))
  have nb : ∀ b ∈ s.B, c.q ≠ b.q := fun b hb => h.cb hc hb
  let tg : Nat → Nat := fun k => if c'.av.ownBlock = some k then 3 * c.q + 12 else s.tag k
  have tgo : ∀ k, Fk s k → tg k = s.tag k := fun k hk => by
    show (if c'.av.ownBlock = some k then 3 * c.q + 12 else s.tag k) = s.tag k
    split
    · rename_i e
      rcases hav k e with e | e
      · exact ((h.tc c hc).2.2 k e).symm
      · exact absurd (.inl hk) e
    · rfl
  have fkc : ∀ x ∈ s.C, Fk s x.q := fun x hx => .inr (.inr (.inr (.inl ⟨x, hx, .inl rfl⟩)))
  have fkd : ∀ x ∈ s.C, ∀ k, x.dv.ownBlock = some k → Fk s k := fun x hx k hk => .inr (.inr (.inr (.inl ⟨x, hx, .inr (.inl hk)⟩)))
  have fka : ∀ x ∈ s.C, ∀ k, x.av.ownBlock = some k → Fk s k := fun x hx k hk => .inr (.inr (.inr (.inl ⟨x, hx, .inr (.inr hk)⟩)))
  have fkb : ∀ b ∈ s.B, Fk s b.q := fun b hb => .inr (.inr (.inr (.inr ⟨b, hb, .inl rfl⟩)))
  have fko : ∀ b ∈ s.B, ∀ k, b.ov.ownBlock = some k → Fk s k := fun b hb k hk => .inr (.inr (.inr (.inr ⟨b, hb, .inr hk⟩)))
  refine ⟨tg, ?_⟩
  exact {
    cs := h.cs.fr hf fun k hk e => (h.fk c.q hcf).2.2 (e ▸ hk)
    st := (bl _ (.inl rfl) (by rw [h.t0.1]; omega)).trans h.st
    mc := h.mc.same (bl _ (.inr (.inl rfl)) (by rw [h.t0.2.1]; omega))
    mb := h.mb.same (bl _ (.inr (.inr (.inl rfl))) (by rw [h.t0.2.2]; omega))
    ch := fun x hx => by
      rcases mem x hx with rfl | ⟨hx, hx2⟩
      · refine ⟨by rw [hq]; exact hr, ?_, ha⟩
        rw [hdv, hd]
        exact row_same (h.ch c hc).dat fun k hk => bl k (fkd c hc k hk) (by rw [(h.tc c hc).2.1 k hk]; omega)
      · have hne : x.q ≠ c.q := nodup_mid hcq hx2
        exact (h.ch x hx).same (bl _ (fkc x hx) (by rw [(h.tc x hx).1]; omega)) (fun k hk => bl _ (fkd x hx k hk) (by rw [(h.tc x hx).2.1 k hk]; omega)) (fun k hk => bl _ (fka x hx k hk) (by rw [(h.tc x hx).2.2 k hk]; omega))
    bk := fun b hb => by
      have hne := nb b hb
      exact (h.bk b hb).same (bl _ (fkb b hb) (by rw [(h.tb b hb).1]; omega)) (fun k hk => bl _ (fko b hb k hk) (by rw [(h.tb b hb).2 k hk]; omega))
    cq := by simpa [hq] using hcq
    bq := h.bq
    t0 := ⟨(tgo _ (.inl rfl)).trans h.t0.1, (tgo _ (.inr (.inl rfl))).trans h.t0.2.1, (tgo _ (.inr (.inr (.inl rfl)))).trans h.t0.2.2⟩
    tc := fun x hx => by
      rcases mem x hx with rfl | ⟨hx, hx2⟩
      · rw [hq, hdv]
        refine ⟨(tgo _ hcf).trans (h.tc c hc).1, fun k hk => (tgo k (fkd c hc k hk)).trans ((h.tc c hc).2.1 k hk), fun k hk => ?_⟩
        show (if x.av.ownBlock = some k then 3 * c.q + 12 else s.tag k) = 3 * c.q + 12
        rw [if_pos hk]
      · exact ⟨(tgo _ (fkc x hx)).trans (h.tc x hx).1, fun k hk => (tgo k (fkd x hx k hk)).trans ((h.tc x hx).2.1 k hk), fun k hk => (tgo k (fka x hx k hk)).trans ((h.tc x hx).2.2 k hk)⟩
    tb := fun b hb => ⟨(tgo _ (fkb b hb)).trans (h.tb b hb).1, fun k hk => (tgo k (fko b hb k hk)).trans ((h.tb b hb).2 k hk)⟩
    fk := fun k hk => by
      have old : Fk s k → base ≤ k ∧ k < w'.heap.size ∧ ¬ Sk s.σ k := fun hk => ⟨(h.fk k hk).1, Nat.lt_of_lt_of_le (h.fk k hk).2.1 hf.size, (h.fk k hk).2.2⟩
      rcases hk with hk | hk | hk | ⟨x, hx, hk⟩ | hk
      · exact old (.inl hk)
      · exact old (.inr (.inl hk))
      · exact old (.inr (.inr (.inl hk)))
      · rcases mem x hx with rfl | ⟨hx, _⟩
        · rw [hq, hdv] at hk
          rcases hk with hk | hk | hk
          · exact old (by rw [hk]; exact hcf)
          · exact old (fkd c hc k hk)
          · rcases hav k hk with e | e
            · exact old (fka c hc k e)
            · exact ⟨(hlt k hk).1, (hlt k hk).2, fun c => e (.inr c)⟩
        · exact old (.inr (.inr (.inr (.inl ⟨x, hx, hk⟩))))
      · exact old (.inr (.inr (.inr (.inr hk)))) }
/-- One block is another one: its bytes, its list, its last changes. -/
theorem PM.setB (h : PM w base s ops) {X Y : List Bk} {b b' : Bk} {op : List Int} (hB : s.B = X ++ b :: Y) (hq : b'.q = b.q) (hf : Fr (fun k => k = b.q ∨ b.ov.ownBlock = some k) w w') (hr : w'.heap[b.q]? = some (.cells (bkL b').toArray 190 (0, 0))) (h1 : b'.ba.length = 256) (h2 : b'.la.length = 256) (ho : OwnL w' base b'.ov op)
    (hov : ∀ k, b'.ov.ownBlock = some k → b.ov.ownBlock = some k ∨ ¬ Ak s k) :
    ∃ tg, PM w' base { s with B := X ++ b' :: Y, tag := tg } (fun q => if q = b.q then op else ops q) := by
  have hb : b ∈ s.B := by rw [hB]; simp
  have mem : ∀ x, x ∈ X ++ b' :: Y → x = b' ∨ (x ∈ s.B ∧ (x ∈ X ∨ x ∈ Y)) := fun x hx => by rw [hB]; exact mem_mid hx
  have hbq := h.bq
  rw [hB] at hbq
  have hlt : ∀ k, b'.ov.ownBlock = some k → base ≤ k ∧ k < w'.heap.size := fun k hk => ho.lt k hk
  have bl : ∀ k, Fk s k → s.tag k ≠ 3 * b.q + 10 → s.tag k ≠ 3 * b.q + 11 → w'.heap[k]? = w.heap[k]? := fun k hk ht ht2 => hf.blk k (h.fk k hk).2.1 (fun e => by
    rcases e with e | e
    · exact ht (by rw [e]; exact (h.tb b hb).1)
    · exact ht2 ((h.tb b hb).2 k e))
  have hbf : Fk s b.q := .inr (.inr (.inr (.inr ⟨b, hb, .inl rfl⟩)))
  have nb : ∀ c ∈ s.C, c.q ≠ b.q := fun c hc => h.cb hc hb
  let tg : Nat → Nat := fun k => if b'.ov.ownBlock = some k then 3 * b.q + 11 else s.tag k
  have tgo : ∀ k, Fk s k → tg k = s.tag k := fun k hk => by
    show (if b'.ov.ownBlock = some k then 3 * b.q + 11 else s.tag k) = s.tag k
    split
    · rename_i e
      rcases hov k e with e | e
      · exact ((h.tb b hb).2 k e).symm
      · exact absurd (.inl hk) e
    · rfl
  have fkc : ∀ x ∈ s.C, Fk s x.q := fun x hx => .inr (.inr (.inr (.inl ⟨x, hx, .inl rfl⟩)))
  have fkd : ∀ x ∈ s.C, ∀ k, x.dv.ownBlock = some k → Fk s k := fun x hx k hk => .inr (.inr (.inr (.inl ⟨x, hx, .inr (.inl hk)⟩)))
  have fka : ∀ x ∈ s.C, ∀ k, x.av.ownBlock = some k → Fk s k := fun x hx k hk => .inr (.inr (.inr (.inl ⟨x, hx, .inr (.inr hk)⟩)))
  have fkb : ∀ b ∈ s.B, Fk s b.q := fun b hb => .inr (.inr (.inr (.inr ⟨b, hb, .inl rfl⟩)))
  have fko : ∀ b ∈ s.B, ∀ k, b.ov.ownBlock = some k → Fk s k := fun b hb k hk => .inr (.inr (.inr (.inr ⟨b, hb, .inr hk⟩)))
  refine ⟨tg, ?_⟩
  exact {
    cs := h.cs.fr hf fun k hk e => by
      rcases e with e | e
      · exact (h.fk b.q hbf).2.2 (e ▸ hk)
      · exact (h.fk k (fko b hb k e)).2.2 hk
    st := (bl _ (.inl rfl) (by rw [h.t0.1]; omega) (by rw [h.t0.1]; omega)).trans h.st
    mc := h.mc.same (bl _ (.inr (.inl rfl)) (by rw [h.t0.2.1]; omega) (by rw [h.t0.2.1]; omega))
    mb := h.mb.same (bl _ (.inr (.inr (.inl rfl))) (by rw [h.t0.2.2]; omega) (by rw [h.t0.2.2]; omega))
    ch := fun x hx => by
      have hne := nb x hx
      exact (h.ch x hx).same (bl _ (fkc x hx) (by rw [(h.tc x hx).1]; omega) (by rw [(h.tc x hx).1]; omega)) (fun k hk => bl _ (fkd x hx k hk) (by rw [(h.tc x hx).2.1 k hk]; omega) (by rw [(h.tc x hx).2.1 k hk]; omega)) (fun k hk => bl _ (fka x hx k hk) (by rw [(h.tc x hx).2.2 k hk]; omega) (by rw [(h.tc x hx).2.2 k hk]; omega))
    bk := fun x hx => by
      rcases mem x hx with rfl | ⟨hx, hx2⟩
      · refine ⟨by rw [hq]; exact hr, h1, h2, ?_⟩
        show OwnL w' base x.ov (if x.q = b.q then op else ops x.q)
        rw [if_pos hq]; exact ho
      · have hne : x.q ≠ b.q := nodup_mid hbq hx2
        show BkAt w' base x (if x.q = b.q then op else ops x.q)
        rw [if_neg hne]
        exact (h.bk x hx).same (bl _ (fkb x hx) (by rw [(h.tb x hx).1]; omega) (by rw [(h.tb x hx).1]; omega)) (fun k hk => bl _ (fko x hx k hk) (by rw [(h.tb x hx).2 k hk]; omega) (by rw [(h.tb x hx).2 k hk]; omega))
    cq := h.cq
    bq := by simpa [hq] using hbq
    t0 := ⟨(tgo _ (.inl rfl)).trans h.t0.1, (tgo _ (.inr (.inl rfl))).trans h.t0.2.1, (tgo _ (.inr (.inr (.inl rfl)))).trans h.t0.2.2⟩
    tc := fun x hx => ⟨(tgo _ (fkc x hx)).trans (h.tc x hx).1, fun k hk => (tgo k (fkd x hx k hk)).trans ((h.tc x hx).2.1 k hk), fun k hk => (tgo k (fka x hx k hk)).trans ((h.tc x hx).2.2 k hk)⟩
    tb := fun x hx => by
      rcases mem x hx with rfl | ⟨hx, hx2⟩
      · rw [hq]
        refine ⟨(tgo _ hbf).trans (h.tb b hb).1, fun k hk => ?_⟩
        show (if x.ov.ownBlock = some k then 3 * b.q + 11 else s.tag k) = 3 * b.q + 11
        rw [if_pos hk]
      · exact ⟨(tgo _ (fkb x hx)).trans (h.tb x hx).1, fun k hk => (tgo k (fko x hx k hk)).trans ((h.tb x hx).2 k hk)⟩
    fk := fun k hk => by
      have old : Fk s k → base ≤ k ∧ k < w'.heap.size ∧ ¬ Sk s.σ k := fun hk => ⟨(h.fk k hk).1, Nat.lt_of_lt_of_le (h.fk k hk).2.1 hf.size, (h.fk k hk).2.2⟩
      rcases hk with hk | hk | hk | hk | ⟨x, hx, hk⟩
      · exact old (.inl hk)
      · exact old (.inr (.inl hk))
      · exact old (.inr (.inr (.inl hk)))
      · exact old (.inr (.inr (.inr (.inl hk))))
      · rcases mem x hx with rfl | ⟨hx, _⟩
        · rw [hq] at hk
          rcases hk with hk | hk
          · exact old (by rw [hk]; exact hbf)
          · rcases hov k hk with e | e
            · exact old (fko b hb k e)
            · exact ⟨(hlt k hk).1, (hlt k hk).2, fun c => e (.inr c)⟩
        · exact old (.inr (.inr (.inr (.inr ⟨x, hx, hk⟩)))) }
end
end Go.Proofs.YtadadidccbhopaaGreat
/- A store through the steps of a call. -/
namespace Go.Proofs.YtadadidccbhopaaGreat
open Go.RowKit
set_option maxRecDepth 100000
section
variable {w w' w0 : World} {base : Nat} {s s' s0 : PSt} {ops ops' : Nat → List Int}
theorem PM.c0 (h : PM w base s ops) : w.cell? ⟨s.p, 0, none⟩ = some (.pointer (some ⟨s.σ.dp, 0, none⟩)) := by rw [cell_of_row w s.p 0 _ _ _ h.st]; rfl
theorem PM.c1 (h : PM w base s ops) : w.cell? ⟨s.p, 1, none⟩ = some (.pointer (some ⟨s.σ.p, 0, none⟩)) := by rw [cell_of_row w s.p 1 _ _ _ h.st]; rfl
theorem PM.c2 (h : PM w base s ops) : w.cell? ⟨s.p, 2, none⟩ = some (.int .i64 (s.cnt : Int)) := by rw [cell_of_row w s.p 2 _ _ _ h.st]; rfl
theorem PM.c3 (h : PM w base s ops) : w.cell? ⟨s.p, 3, none⟩ = some (.map (some s.cm)) := by rw [cell_of_row w s.p 3 _ _ _ h.st]; rfl
theorem PM.c4 (h : PM w base s ops) : w.cell? ⟨s.p, 4, none⟩ = some (.map (some s.bm)) := by rw [cell_of_row w s.p 4 _ _ _ h.st]; rfl
theorem PM.pf (h : PM w base s ops) (o : Nat) : w.frozen? ⟨s.p, o, none⟩ = false := frozen_of_row w s.p o _ _ h.st
theorem PM.lookC (h : PM w base s ops) (x : Int) (hx : -9223372036854775808 ≤ x ∧ x ≤ 9223372036854775807) : (Instr.lookup 121 (.map (some s.cm)) (.int .i64 x) false).run Tryz.prog w = .ok (ptrV (s.fC x)) w :=
  h.mc.look Tryz.underlying2 Tryz.underlying121 zeroCh x hx
theorem PM.lookB (h : PM w base s ops) (x : Int) (hx : -9223372036854775808 ≤ x ∧ x ≤ 9223372036854775807) : (Instr.lookup 122 (.map (some s.bm)) (.int .i64 x) false).run Tryz.prog w = .ok (ptrV (s.fB x)) w :=
  h.mb.look Tryz.underlying3 Tryz.underlying122 zeroBk x hx
theorem ChAt.c0 {c : Ch} (h : ChAt w base c) : w.cell? ⟨c.q, 0, none⟩ = some (.int .i64 (c.b : Int)) := by rw [cell_of_row w c.q 0 _ _ _ h.cell]; rfl
theorem ChAt.c1 {c : Ch} (h : ChAt w base c) : w.cell? ⟨c.q, 1, none⟩ = some (.int .i64 (c.fr : Int)) := by rw [cell_of_row w c.q 1 _ _ _ h.cell]; rfl
theorem ChAt.c2 {c : Ch} (h : ChAt w base c) : w.cell? ⟨c.q, 2, none⟩ = some c.dv := by rw [cell_of_row w c.q 2 _ _ _ h.cell]; rfl
theorem ChAt.c3 {c : Ch} (h : ChAt w base c) : w.cell? ⟨c.q, 3, none⟩ = some c.av := by rw [cell_of_row w c.q 3 _ _ _ h.cell]; rfl
theorem ChAt.c4 {c : Ch} (h : ChAt w base c) : w.cell? ⟨c.q, 4, none⟩ = some (.bool c.wr) := by rw [cell_of_row w c.q 4 _ _ _ h.cell]; rfl
theorem ChAt.fz {c : Ch} (h : ChAt w base c) (o : Nat) : w.frozen? ⟨c.q, o, none⟩ = false := frozen_of_row w c.q o _ _ h.cell
theorem BkAt.fz {b : Bk} {op : List Int} (h : BkAt w base b op) (o : Nat) : w.frozen? ⟨b.q, o, none⟩ = false := frozen_of_row w b.q o _ _ h.cell
theorem BkAt.cell' {b : Bk} {op : List Int} (h : BkAt w base b op) (j : Nat) : w.cell? ⟨b.q, j, none⟩ = (bkL b)[j]? := by rw [cell_of_row w b.q j _ _ _ h.cell]; simp
theorem BkAt.c1 {b : Bk} {op : List Int} (h : BkAt w base b op) : w.cell? ⟨b.q, 256, none⟩ = some b.ov := by
  rw [h.cell', bkL, List.getElem?_append_right (by rw [bvs_length, h.l1]; omega), bvs_length, h.l1]; rfl
theorem BkAt.c2 {b : Bk} {op : List Int} (h : BkAt w base b op) (j : Nat) (hj : j < 256) : w.cell? ⟨b.q, 257 + j, none⟩ = some (.int .i64 (b.la.getD j 0)) := by
  rw [h.cell', bkL, List.getElem?_append_right (by rw [bvs_length, h.l1]; omega), bvs_length, h.l1, show 257 + j - 256 = j + 1 by omega, List.getElem?_cons_succ]
  simp [ivs, h.l2, hj]
theorem BkAt.range {b : Bk} {op : List Int} (h : BkAt w base b op) : w.rangeAt b.q 0 (bvs b.ba) := fun j v hv => by
  have hj : j < (bvs b.ba).length := (List.getElem?_eq_some_iff.1 hv).1
  rw [Nat.zero_add, h.cell', bkL, List.getElem?_append_left hj]; exact hv
/-- From (s0, w0) to (s, w). -/
structure PRun (base : Nat) (s0 : PSt) (w0 : World) (s : PSt) (ops : Nat → List Int) (w : World) : Prop where
  pm : PM w base s ops
  fr : Fr (Ak s0) w0 w
  sub : ∀ k, Ak s k → Ak s0 k ∨ w0.heap.size ≤ k
  be : Below base w0 w
theorem PRun.start (h : PM w base s ops) : PRun base s w s ops w := ⟨h, Fr.refl _ _, fun _ h => .inl h, Below.refl _ _⟩
theorem PRun.next (h : PRun base s0 w0 s ops w) (hp : PM w' base s' ops') (hf : Fr (Ak s) w w') (hs : ∀ k, Ak s' k → Ak s k ∨ w0.heap.size ≤ k) (hb : Below base w w') : PRun base s0 w0 s' ops' w' := by
  have hz := h.fr.size
  refine ⟨hp, ⟨Nat.le_trans h.fr.size hf.size, fun j hj hn => ?_, hf.os.trans h.fr.os, hf.tape.trans h.fr.tape, hf.output.trans h.fr.output⟩, fun j hj => ?_, h.be.trans hb⟩
  · refine (hf.blk j (by omega) (fun c => ?_)).trans (h.fr.blk j hj hn)
    rcases h.sub j c with c | c
    · exact hn c
    · omega
  · rcases hs j hj with c | c
    · exact h.sub j c
    · exact .inr c
theorem PRun.trans {s1 : PSt} {w1 : World} (h : PRun base s0 w0 s ops w) (k : PRun base s w s1 ops' w1) : PRun base s0 w0 s1 ops' w1 :=
  h.next k.pm k.fr (fun j hj => by
    rcases k.sub j hj with c | c
    · exact .inl c
    · exact .inr (by have := h.fr.size; omega)) k.be
theorem PRun.up (h : PRun base s0 w0 s ops w) (hb : Below w.heap.size w w') : PRun base s0 w0 s ops w' :=
  h.next (h.pm.up hb) (Fr.of_below hb) (fun _ h => .inl h) (hb.mono h.pm.bs)
/-- Other blocks turn: those of the call's own. -/
theorem PRun.other (h : PRun base s0 w0 s ops w) {S : Nat → Prop} (hf : Fr S w w') (hS : ∀ k, S k → ¬ Ak s k ∧ w0.heap.size ≤ k) (hb : Below base w w') : PRun base s0 w0 s ops w' := by
  refine ⟨h.pm.fr hf fun k hk c => (hS k c).1 hk, ⟨Nat.le_trans h.fr.size hf.size, fun j hj hn => ?_, hf.os.trans h.fr.os, hf.tape.trans h.fr.tape, hf.output.trans h.fr.output⟩, h.sub, h.be.trans hb⟩
  exact (hf.blk j (by have := h.fr.size; omega) (fun c => by have := (hS j c).2; omega)).trans (h.fr.blk j hj hn)
theorem PRun.cache (h : PRun base s0 w0 s ops w) {σ' : CSt} (hD : Done base s.σ σ' w w') (hp : σ'.p = s.σ.p) (hd : σ'.dp = s.σ.dp) : PRun base s0 w0 { s with σ := σ' } ops w' :=
  h.next (h.pm.cache hD hp hd) (hD.st.fr.mono fun k _ hk => .inr hk) (fun k hk => by
    rcases hk with hk | hk
    · exact .inl (.inl hk)
    · rcases hD.st.sub k hk with hk | hk
      · exact .inl (.inr hk)
      · exact .inr (by have := h.fr.size; omega)) hD.be
theorem PRun.cnt (h : PRun base s0 w0 s ops w) (n : Nat) : PRun base s0 w0 { s with cnt := n } ops (w.setCell ⟨s.p, 2, none⟩ (.int .i64 (n : Int))) :=
  h.next (h.pm.cnt n) ((Fr.refl _ _).setCell s.p 2 _ (.inl (.inl rfl))) (fun _ h => .inl h) ((Below.refl _ _).setCell (h.pm.fk s.p (.inl rfl)).1 _)
theorem PRun.mapC (h : PRun base s0 w0 s ops w) {kc : Nat} {fC : Int → Nat} {kC : List Int} (hf : w.grownBy w' (some s.cm)) (hm : KMap 2 w' s.cm kc fC kC) : PRun base s0 w0 { s with kc := kc, fC := fC, kC := kC } ops w' :=
  h.next (h.pm.mapC (Fr.of_grown hf) hm) ((Fr.of_grown hf).mono fun k _ hk => .inl (.inr (.inl hk))) (fun _ h => .inl h) ((Below.refl _ _).grown hf h.pm.bs fun k hk => by cases hk; exact (h.pm.fk s.cm (.inr (.inl rfl))).1)
theorem PRun.mapB (h : PRun base s0 w0 s ops w) {kb : Nat} {fB : Int → Nat} {kB : List Int} (hf : w.grownBy w' (some s.bm)) (hm : KMap 3 w' s.bm kb fB kB) : PRun base s0 w0 { s with kb := kb, fB := fB, kB := kB } ops w' :=
  h.next (h.pm.mapB (Fr.of_grown hf) hm) ((Fr.of_grown hf).mono fun k _ hk => .inl (.inr (.inr (.inl hk)))) (fun _ h => .inl h) ((Below.refl _ _).grown hf h.pm.bs fun k hk => by cases hk; exact (h.pm.fk s.bm (.inr (.inr (.inl rfl)))).1)
theorem PRun.setC (h : PRun base s0 w0 s ops w) {X Y : List Ch} {c c' : Ch} (hC : s.C = X ++ c :: Y) (hq : c'.q = c.q) (hdv : c'.dv = c.dv) (hd : c'.d = c.d) (hf : Fr (fun k => k = c.q) w w') (hb : Below base w w') (hr : w'.heap[c.q]? = some (.cells (chL c').toArray 146 (0, 0))) (ha : OwnL w' base c'.av c'.ah)
    (hav : ∀ k, c'.av.ownBlock = some k → c.av.ownBlock = some k ∨ (¬ Ak s k ∧ w0.heap.size ≤ k)) :
    ∃ tg, PRun base s0 w0 { s with C := X ++ c' :: Y, tag := tg } ops w' := by
  have hc : c ∈ s.C := by rw [hC]; simp
  obtain ⟨tg, hp⟩ := h.pm.setC hC hq hdv hd hf hr ha (fun k hk => (hav k hk).imp id fun h => h.1)
  refine ⟨tg, h.next hp (hf.mono fun k _ hk => .inl (.inr (.inr (.inr (.inl ⟨c, hc, .inl hk⟩))))) (fun k hk => ?_) hb⟩
  rcases hk with (hk | hk | hk | ⟨x, hx, hk⟩ | hk) | hk
  · exact .inl (.inl (.inl hk))
  · exact .inl (.inl (.inr (.inl hk)))
  · exact .inl (.inl (.inr (.inr (.inl hk))))
  · rcases mem_mid (e := c) hx with rfl | ⟨hx, _⟩
    · rw [hq, hdv] at hk
      rcases hk with hk | hk | hk
      · exact .inl (.inl (.inr (.inr (.inr (.inl ⟨c, hc, .inl hk⟩)))))
      · exact .inl (.inl (.inr (.inr (.inr (.inl ⟨c, hc, .inr (.inl hk)⟩)))))
      · rcases hav k hk with e | e
        · exact .inl (.inl (.inr (.inr (.inr (.inl ⟨c, hc, .inr (.inr e)⟩)))))
        · exact .inr e.2
    · exact .inl (.inl (.inr (.inr (.inr (.inl ⟨x, by rw [hC]; exact hx, hk⟩)))))
  · exact .inl (.inl (.inr (.inr (.inr (.inr hk)))))
  · exact .inl (.inr hk)
theorem PRun.setB (h : PRun base s0 w0 s ops w) {X Y : List Bk} {b b' : Bk} {op : List Int} (hB : s.B = X ++ b :: Y) (hq : b'.q = b.q) (hf : Fr (fun k => k = b.q ∨ b.ov.ownBlock = some k) w w') (hb0 : Below base w w') (hr : w'.heap[b.q]? = some (.cells (bkL b').toArray 190 (0, 0))) (h1 : b'.ba.length = 256) (h2 : b'.la.length = 256) (ho : OwnL w' base b'.ov op)
    (hov : ∀ k, b'.ov.ownBlock = some k → b.ov.ownBlock = some k ∨ (¬ Ak s k ∧ w0.heap.size ≤ k)) :
    ∃ tg, PRun base s0 w0 { s with B := X ++ b' :: Y, tag := tg } (fun q => if q = b.q then op else ops q) w' := by
  have hb : b ∈ s.B := by rw [hB]; simp
  obtain ⟨tg, hp⟩ := h.pm.setB hB hq hf hr h1 h2 ho (fun k hk => (hov k hk).imp id fun h => h.1)
  refine ⟨tg, h.next hp (hf.mono fun k _ hk => .inl (.inr (.inr (.inr (.inr ⟨b, hb, hk⟩))))) (fun k hk => ?_) hb0⟩
  rcases hk with (hk | hk | hk | hk | ⟨x, hx, hk⟩) | hk
  · exact .inl (.inl (.inl hk))
  · exact .inl (.inl (.inr (.inl hk)))
  · exact .inl (.inl (.inr (.inr (.inl hk))))
  · exact .inl (.inl (.inr (.inr (.inr (.inl hk)))))
  · rcases mem_mid (e := b) hx with rfl | ⟨hx, _⟩
    · rw [hq] at hk
      rcases hk with hk | hk
      · exact .inl (.inl (.inr (.inr (.inr (.inr ⟨b, hb, .inl hk⟩)))))
      · rcases hov k hk with e | e
        · exact .inl (.inl (.inr (.inr (.inr (.inr ⟨b, hb, .inr e⟩)))))
        · exact .inr e.2
    · exact .inl (.inl (.inr (.inr (.inr (.inr ⟨x, by rw [hB]; exact hx, hk⟩)))))
  · exact .inl (.inr hk)
/-- A new change in memory. -/
theorem PRun.newC (h : PRun base s0 w0 s ops w) {c : Ch} (hb : Below w.heap.size w w') (hc : ChAt w' base c) (hq : w.heap.size ≤ c.q) (hdv : ∀ k, c.dv.ownBlock = some k → w.heap.size ≤ k ∧ k ≠ c.q) (hav : c.av.ownBlock = none) :
    ∃ tg, PRun base s0 w0 { s with C := s.C ++ [c], tag := tg } ops w' := by
  have hu := h.pm.up hb
  let tg : Nat → Nat := fun k => if k = c.q then 3 * c.q + 10 else if c.dv.ownBlock = some k then 3 * c.q + 11 else s.tag k
  have lt0 : ∀ k, Ak s k → k < w.heap.size := fun k hk => h.pm.lt hk
  have tgo : ∀ k, Fk s k → tg k = s.tag k := fun k hk => by
    have h1 := lt0 k (.inl hk)
    show (if k = c.q then 3 * c.q + 10 else if c.dv.ownBlock = some k then 3 * c.q + 11 else s.tag k) = s.tag k
    rw [if_neg (by omega), if_neg (fun e => by have := (hdv k e).1; omega)]
  have fkc : ∀ x ∈ s.C, Fk s x.q := fun x hx => .inr (.inr (.inr (.inl ⟨x, hx, .inl rfl⟩)))
  have fkd : ∀ x ∈ s.C, ∀ k, x.dv.ownBlock = some k → Fk s k := fun x hx k hk => .inr (.inr (.inr (.inl ⟨x, hx, .inr (.inl hk)⟩)))
  have fka : ∀ x ∈ s.C, ∀ k, x.av.ownBlock = some k → Fk s k := fun x hx k hk => .inr (.inr (.inr (.inl ⟨x, hx, .inr (.inr hk)⟩)))
  have fkb : ∀ b ∈ s.B, Fk s b.q := fun b hb => .inr (.inr (.inr (.inr ⟨b, hb, .inl rfl⟩)))
  have fko : ∀ b ∈ s.B, ∀ k, b.ov.ownBlock = some k → Fk s k := fun b hb k hk => .inr (.inr (.inr (.inr ⟨b, hb, .inr hk⟩)))
  have hql : c.q < w'.heap.size := (Array.getElem?_eq_some_iff.1 hc.cell).1
  have nsk : ∀ k, w.heap.size ≤ k → ¬ Sk s.σ k := fun k hk c => by have := h.pm.cs.sk_size c; omega
  refine ⟨tg, h.next (s' := { s with C := s.C ++ [c], tag := tg }) ?_ (Fr.of_below hb) (fun k hk => ?_) (hb.mono h.pm.bs)⟩
  · exact {
      cs := hu.cs, st := hu.st, mc := hu.mc, mb := hu.mb
      ch := fun x hx => by
        rcases List.mem_append.1 hx with hx | hx
        · exact hu.ch x hx
        · rw [List.mem_singleton.1 hx]; exact hc
      bk := hu.bk
      cq := by
        rw [List.map_append, List.nodup_append]
        refine ⟨hu.cq, by simp, fun a ha b hb e => ?_⟩
        obtain ⟨x, hx, rfl⟩ := List.mem_map.1 ha
        simp only [List.map_cons, List.map_nil, List.mem_singleton] at hb
        have := lt0 x.q (.inl (fkc x hx)); omega
      bq := hu.bq
      t0 := ⟨(tgo _ (.inl rfl)).trans hu.t0.1, (tgo _ (.inr (.inl rfl))).trans hu.t0.2.1, (tgo _ (.inr (.inr (.inl rfl)))).trans hu.t0.2.2⟩
      tc := fun x hx => by
        rcases List.mem_append.1 hx with hx | hx
        · exact ⟨(tgo _ (fkc x hx)).trans (hu.tc x hx).1, fun k hk => (tgo k (fkd x hx k hk)).trans ((hu.tc x hx).2.1 k hk), fun k hk => (tgo k (fka x hx k hk)).trans ((hu.tc x hx).2.2 k hk)⟩
        · rw [List.mem_singleton.1 hx]
          refine ⟨?_, fun k hk => ?_, fun k hk => by rw [hav] at hk; cases hk⟩
          · show (if c.q = c.q then 3 * c.q + 10 else _) = _
            rw [if_pos rfl]
          · show (if k = c.q then 3 * c.q + 10 else if c.dv.ownBlock = some k then 3 * c.q + 11 else s.tag k) = _
            rw [if_neg (hdv k hk).2, if_pos hk]
      tb := fun b hb => ⟨(tgo _ (fkb b hb)).trans (hu.tb b hb).1, fun k hk => (tgo k (fko b hb k hk)).trans ((hu.tb b hb).2 k hk)⟩
      fk := fun k hk => by
        rcases hk with hk | hk | hk | ⟨x, hx, hk⟩ | hk
        · exact hu.fk k (.inl hk)
        · exact hu.fk k (.inr (.inl hk))
        · exact hu.fk k (.inr (.inr (.inl hk)))
        · rcases List.mem_append.1 hx with hx | hx
          · exact hu.fk k (.inr (.inr (.inr (.inl ⟨x, hx, hk⟩))))
          · rw [List.mem_singleton.1 hx] at hk
            rcases hk with hk | hk | hk
            · exact ⟨by have := h.pm.bs; omega, by omega, nsk k (by omega)⟩
            · exact ⟨(hc.dat.lt k hk).1, (hc.dat.lt k hk).2, nsk k (hdv k hk).1⟩
            · rw [hav] at hk; cases hk
        · exact hu.fk k (.inr (.inr (.inr (.inr hk)))) }
  · have hz := h.fr.size
    rcases hk with (hk | hk | hk | ⟨x, hx, hk⟩ | hk) | hk
    · exact .inl (.inl (.inl hk))
    · exact .inl (.inl (.inr (.inl hk)))
    · exact .inl (.inl (.inr (.inr (.inl hk))))
    · rcases List.mem_append.1 hx with hx | hx
      · exact .inl (.inl (.inr (.inr (.inr (.inl ⟨x, hx, hk⟩)))))
      · rw [List.mem_singleton.1 hx] at hk
        rcases hk with hk | hk | hk
        · exact .inr (by omega)
        · exact .inr (by have := (hdv k hk).1; omega)
        · rw [hav] at hk; cases hk
    · exact .inl (.inl (.inr (.inr (.inr (.inr hk)))))
    · exact .inl (.inr hk)
/-- A new block in memory. -/
theorem PRun.newB (h : PRun base s0 w0 s ops w) {b : Bk} (hb : Below w.heap.size w w') (hc : BkAt w' base b []) (hq : w.heap.size ≤ b.q) (hov : b.ov.ownBlock = none) :
    ∃ tg, PRun base s0 w0 { s with B := s.B ++ [b], tag := tg } (fun q => if q = b.q then [] else ops q) w' := by
  have hu := h.pm.up hb
  let tg : Nat → Nat := fun k => if k = b.q then 3 * b.q + 10 else s.tag k
  have lt0 : ∀ k, Ak s k → k < w.heap.size := fun k hk => h.pm.lt hk
  have tgo : ∀ k, Fk s k → tg k = s.tag k := fun k hk => by
    have h1 := lt0 k (.inl hk)
    show (if k = b.q then 3 * b.q + 10 else s.tag k) = s.tag k
    rw [if_neg (by omega)]
  have fkc : ∀ x ∈ s.C, Fk s x.q := fun x hx => .inr (.inr (.inr (.inl ⟨x, hx, .inl rfl⟩)))
  have fkd : ∀ x ∈ s.C, ∀ k, x.dv.ownBlock = some k → Fk s k := fun x hx k hk => .inr (.inr (.inr (.inl ⟨x, hx, .inr (.inl hk)⟩)))
  have fka : ∀ x ∈ s.C, ∀ k, x.av.ownBlock = some k → Fk s k := fun x hx k hk => .inr (.inr (.inr (.inl ⟨x, hx, .inr (.inr hk)⟩)))
  have fkb : ∀ b ∈ s.B, Fk s b.q := fun b hb => .inr (.inr (.inr (.inr ⟨b, hb, .inl rfl⟩)))
  have fko : ∀ b ∈ s.B, ∀ k, b.ov.ownBlock = some k → Fk s k := fun b hb k hk => .inr (.inr (.inr (.inr ⟨b, hb, .inr hk⟩)))
  have hql : b.q < w'.heap.size := (Array.getElem?_eq_some_iff.1 hc.cell).1
  have nsk : ∀ k, w.heap.size ≤ k → ¬ Sk s.σ k := fun k hk c => by have := h.pm.cs.sk_size c; omega
  refine ⟨tg, h.next (s' := { s with B := s.B ++ [b], tag := tg }) ?_ (Fr.of_below hb) (fun k hk => ?_) (hb.mono h.pm.bs)⟩
  · exact {
      cs := hu.cs, st := hu.st, mc := hu.mc, mb := hu.mb, ch := hu.ch
      bk := fun x hx => by
        rcases List.mem_append.1 hx with hx | hx
        · show BkAt w' base x (if x.q = b.q then [] else ops x.q)
          rw [if_neg (by have := lt0 x.q (.inl (fkb x hx)); omega)]
          exact hu.bk x hx
        · rw [List.mem_singleton.1 hx]
          show BkAt w' base b (if b.q = b.q then [] else ops b.q)
          rw [if_pos rfl]; exact hc
      cq := hu.cq
      bq := by
        rw [List.map_append, List.nodup_append]
        refine ⟨hu.bq, by simp, fun a ha c hc e => ?_⟩
        obtain ⟨x, hx, rfl⟩ := List.mem_map.1 ha
        simp only [List.map_cons, List.map_nil, List.mem_singleton] at hc
        have := lt0 x.q (.inl (fkb x hx)); omega
      t0 := ⟨(tgo _ (.inl rfl)).trans hu.t0.1, (tgo _ (.inr (.inl rfl))).trans hu.t0.2.1, (tgo _ (.inr (.inr (.inl rfl)))).trans hu.t0.2.2⟩
      tc := fun x hx => ⟨(tgo _ (fkc x hx)).trans (hu.tc x hx).1, fun k hk => (tgo k (fkd x hx k hk)).trans ((hu.tc x hx).2.1 k hk), fun k hk => (tgo k (fka x hx k hk)).trans ((hu.tc x hx).2.2 k hk)⟩
      tb := fun x hx => by
        rcases List.mem_append.1 hx with hx | hx
        · exact ⟨(tgo _ (fkb x hx)).trans (hu.tb x hx).1, fun k hk => (tgo k (fko x hx k hk)).trans ((hu.tb x hx).2 k hk)⟩
        · rw [List.mem_singleton.1 hx]
          refine ⟨?_, fun k hk => by rw [hov] at hk; cases hk⟩
          show (if b.q = b.q then 3 * b.q + 10 else _) = _
          rw [if_pos rfl]
      fk := fun k hk => by
        rcases hk with hk | hk | hk | hk | ⟨x, hx, hk⟩
        · exact hu.fk k (.inl hk)
        · exact hu.fk k (.inr (.inl hk))
        · exact hu.fk k (.inr (.inr (.inl hk)))
        · exact hu.fk k (.inr (.inr (.inr (.inl hk))))
        · rcases List.mem_append.1 hx with hx | hx
          · exact hu.fk k (.inr (.inr (.inr (.inr ⟨x, hx, hk⟩))))
          · rw [List.mem_singleton.1 hx] at hk
            rcases hk with hk | hk
            · exact ⟨by have := h.pm.bs; omega, by omega, nsk k (by omega)⟩
            · rw [hov] at hk; cases hk }
  · have hz := h.fr.size
    rcases hk with (hk | hk | hk | hk | ⟨x, hx, hk⟩) | hk
    · exact .inl (.inl (.inl hk))
    · exact .inl (.inl (.inr (.inl hk)))
    · exact .inl (.inl (.inr (.inr (.inl hk))))
    · exact .inl (.inl (.inr (.inr (.inr (.inl hk)))))
    · rcases List.mem_append.1 hx with hx | hx
      · exact .inl (.inl (.inr (.inr (.inr (.inr ⟨x, hx, hk⟩)))))
      · rw [List.mem_singleton.1 hx] at hk
        rcases hk with hk | hk
        · exact .inr (by omega)
        · rw [hov] at hk; cases hk
    · exact .inl (.inr hk)
/-- Some changes and blocks are let go. -/
theorem PRun.less (h : PRun base s0 w0 s ops w) {C' : List Ch} {B' : List Bk} (hC : C'.Sublist s.C) (hB : B'.Sublist s.B) : PRun base s0 w0 { s with C := C', B := B' } ops w := by
  have fk' : ∀ k, Fk { s with C := C', B := B' } k → Fk s k := fun k hk => by
    rcases hk with hk | hk | hk | ⟨x, hx, hk⟩ | ⟨x, hx, hk⟩
    · exact .inl hk
    · exact .inr (.inl hk)
    · exact .inr (.inr (.inl hk))
    · exact .inr (.inr (.inr (.inl ⟨x, hC.subset hx, hk⟩)))
    · exact .inr (.inr (.inr (.inr ⟨x, hB.subset hx, hk⟩)))
  have hp := h.pm
  refine h.next (s' := { s with C := C', B := B' }) ?_ (Fr.refl _ _) (fun k hk => .inl (hk.imp (fk' k) id)) (Below.refl _ _)
  exact { cs := hp.cs, st := hp.st, mc := hp.mc, mb := hp.mb, ch := fun x hx => hp.ch x (hC.subset hx), bk := fun x hx => hp.bk x (hB.subset hx), cq := (hC.map _).nodup hp.cq, bq := (hB.map _).nodup hp.bq, t0 := hp.t0, tc := fun x hx => hp.tc x (hC.subset hx), tb := fun x hx => hp.tb x (hB.subset hx), fk := fun k hk => hp.fk k (fk' k hk) }
end
end Go.Proofs.YtadadidccbhopaaGreat
