/- A store through the steps of a call. -/
import Derived.Test.YtaljaledeljllaaGreatPst
namespace Go.Proofs.YtaljaledeljllaaGreat
open Go.RowKit
set_option maxRecDepth 100000
section
variable {w w' w0 : World} {base : Nat} {s s' s0 : PSt} {ops ops' : Nat → List Int}
theorem PM.c0 (h : PM w base s ops) : w.cell? ⟨s.p, 0, none⟩ = some (.pointer (some ⟨s.σ.dp, 0, none⟩)) := by rw [cell_of_row w s.p 0 _ _ _ h.st]; rfl
theorem PM.c1 (h : PM w base s ops) : w.cell? ⟨s.p, 1, none⟩ = some (.pointer (some ⟨s.σ.p, 0, none⟩)) := by rw [cell_of_row w s.p 1 _ _ _ h.st]; rfl
theorem PM.c2 (h : PM w base s ops) : w.cell? ⟨s.p, 2, none⟩ = some (.int .i64 (s.cnt : Int)) := by rw [cell_of_row w s.p 2 _ _ _ h.st]; rfl
theorem PM.c3 (h : PM w base s ops) : w.cell? ⟨s.p, 3, none⟩ = some (.map (some s.cm)) := by rw [cell_of_row w s.p 3 _ _ _ h.st]; rfl
theorem PM.c4 (h : PM w base s ops) : w.cell? ⟨s.p, 4, none⟩ = some (.map (some s.bm)) := by rw [cell_of_row w s.p 4 _ _ _ h.st]; rfl
theorem PM.pf (h : PM w base s ops) (o : Nat) : w.frozen? ⟨s.p, o, none⟩ = false := frozen_of_row w s.p o _ _ h.st
theorem PM.lookC (h : PM w base s ops) (x : Int) (hx : -9223372036854775808 ≤ x ∧ x ≤ 9223372036854775807) : (Instr.lookup 101 (.map (some s.cm)) (.int .i64 x) false).run Tryz.prog w = .ok (ptrV (s.fC x)) w :=
  h.mc.look Tryz.underlying2 Tryz.underlying101 zeroCh x hx
theorem PM.lookB (h : PM w base s ops) (x : Int) (hx : -9223372036854775808 ≤ x ∧ x ≤ 9223372036854775807) : (Instr.lookup 102 (.map (some s.bm)) (.int .i64 x) false).run Tryz.prog w = .ok (ptrV (s.fB x)) w :=
  h.mb.look Tryz.underlying3 Tryz.underlying102 zeroBk x hx
theorem ChAt.c0 {c : Ch} (h : ChAt w base c) : w.cell? ⟨c.q, 0, none⟩ = some (.int .i64 (c.b : Int)) := by rw [cell_of_row w c.q 0 _ _ _ h.cell]; rfl
theorem ChAt.c1 {c : Ch} (h : ChAt w base c) : w.cell? ⟨c.q, 1, none⟩ = some (.int .i64 (c.fr : Int)) := by rw [cell_of_row w c.q 1 _ _ _ h.cell]; rfl
theorem ChAt.c2 {c : Ch} (h : ChAt w base c) : w.cell? ⟨c.q, 2, none⟩ = some c.dv := by rw [cell_of_row w c.q 2 _ _ _ h.cell]; rfl
theorem ChAt.c3 {c : Ch} (h : ChAt w base c) : w.cell? ⟨c.q, 3, none⟩ = some c.av := by rw [cell_of_row w c.q 3 _ _ _ h.cell]; rfl
theorem ChAt.c4 {c : Ch} (h : ChAt w base c) : w.cell? ⟨c.q, 4, none⟩ = some (.bool c.wr) := by rw [cell_of_row w c.q 4 _ _ _ h.cell]; rfl
theorem ChAt.fz {c : Ch} (h : ChAt w base c) (o : Nat) : w.frozen? ⟨c.q, o, none⟩ = false := frozen_of_row w c.q o _ _ h.cell
theorem BkAt.fz {b : Bk} {op : List Int} (h : BkAt w base b op) (o : Nat) : w.frozen? ⟨b.q, o, none⟩ = false := frozen_of_row w b.q o _ _ h.cell
theorem BkAt.cell' {b : Bk} {op : List Int} (h : BkAt w base b op) (j : Nat) : w.cell? ⟨b.q, j, none⟩ = (bkL b)[j]? := by rw [cell_of_row w b.q j _ _ _ h.cell]; simp
theorem BkAt.c1 {b : Bk} {op : List Int} (h : BkAt w base b op) : w.cell? ⟨b.q, 256, none⟩ = some b.ov := by
  rw [h.cell', bkL, List.getElem?_append_right (by rw [bvs_length, h.l1]; omega), bvs_length, h.l1]; rfl
theorem BkAt.c2 {b : Bk} {op : List Int} (h : BkAt w base b op) (j : Nat) (hj : j < 256) : w.cell? ⟨b.q, 257 + j, none⟩ = some (.int .i64 (b.la.getD j 0)) := by
  rw [h.cell', bkL, List.getElem?_append_right (by rw [bvs_length, h.l1]; omega), bvs_length, h.l1, show 257 + j - 256 = j + 1 by omega, List.getElem?_cons_succ]
  simp [ivs, h.l2, hj]
theorem BkAt.range {b : Bk} {op : List Int} (h : BkAt w base b op) : w.rangeAt b.q 0 (bvs b.ba) := fun j v hv => by
  have hj : j < (bvs b.ba).length := (List.getElem?_eq_some_iff.1 hv).1
  rw [Nat.zero_add, h.cell', bkL, List.getElem?_append_left hj]; exact hv
/-- From (s0, w0) to (s, w). -/
structure PRun (base : Nat) (s0 : PSt) (w0 : World) (s : PSt) (ops : Nat → List Int) (w : World) : Prop where
  pm : PM w base s ops
  fr : Fr (Ak s0) w0 w
  sub : ∀ k, Ak s k → Ak s0 k ∨ w0.heap.size ≤ k
  be : Below base w0 w
theorem PRun.start (h : PM w base s ops) : PRun base s w s ops w := ⟨h, Fr.refl _ _, fun _ h => .inl h, Below.refl _ _⟩
theorem PRun.next (h : PRun base s0 w0 s ops w) (hp : PM w' base s' ops') (hf : Fr (Ak s) w w') (hs : ∀ k, Ak s' k → Ak s k ∨ w0.heap.size ≤ k) (hb : Below base w w') : PRun base s0 w0 s' ops' w' := by
  have hz := h.fr.size
  refine ⟨hp, ⟨Nat.le_trans h.fr.size hf.size, fun j hj hn => ?_⟩, fun j hj => ?_, h.be.trans hb⟩
  · refine (hf.blk j (by omega) (fun c => ?_)).trans (h.fr.blk j hj hn)
    rcases h.sub j c with c | c
    · exact hn c
    · omega
  · rcases hs j hj with c | c
    · exact h.sub j c
    · exact .inr c
theorem PRun.trans {s1 : PSt} {w1 : World} (h : PRun base s0 w0 s ops w) (k : PRun base s w s1 ops' w1) : PRun base s0 w0 s1 ops' w1 :=
  h.next k.pm k.fr (fun j hj => by
    rcases k.sub j hj with c | c
    · exact .inl c
    · exact .inr (by have := h.fr.size; omega)) k.be
theorem PRun.up (h : PRun base s0 w0 s ops w) (hb : Below w.heap.size w w') : PRun base s0 w0 s ops w' :=
  h.next (h.pm.up hb) (Fr.of_below hb) (fun _ h => .inl h) (hb.mono h.pm.bs)
/-- Other blocks turn: those of the call's own. -/
theorem PRun.other (h : PRun base s0 w0 s ops w) {S : Nat → Prop} (hf : Fr S w w') (hS : ∀ k, S k → ¬ Ak s k ∧ w0.heap.size ≤ k) (hb : Below base w w') : PRun base s0 w0 s ops w' := by
  refine ⟨h.pm.fr hf fun k hk c => (hS k c).1 hk, ⟨Nat.le_trans h.fr.size hf.size, fun j hj hn => ?_⟩, h.sub, h.be.trans hb⟩
  exact (hf.blk j (by have := h.fr.size; omega) (fun c => by have := (hS j c).2; omega)).trans (h.fr.blk j hj hn)
theorem PRun.cache (h : PRun base s0 w0 s ops w) {σ' : CSt} (hD : Done base s.σ σ' w w') (hp : σ'.p = s.σ.p) (hd : σ'.dp = s.σ.dp) : PRun base s0 w0 { s with σ := σ' } ops w' :=
  h.next (h.pm.cache hD hp hd) (hD.st.fr.mono fun k _ hk => .inr hk) (fun k hk => by
    rcases hk with hk | hk
    · exact .inl (.inl hk)
    · rcases hD.st.sub k hk with hk | hk
      · exact .inl (.inr hk)
      · exact .inr (by have := h.fr.size; omega)) hD.be
theorem PRun.cnt (h : PRun base s0 w0 s ops w) (n : Nat) : PRun base s0 w0 { s with cnt := n } ops (w.setCell ⟨s.p, 2, none⟩ (.int .i64 (n : Int))) :=
  h.next (h.pm.cnt n) ((Fr.refl _ _).setCell s.p 2 _ (.inl (.inl rfl))) (fun _ h => .inl h) ((Below.refl _ _).setCell (h.pm.fk s.p (.inl rfl)).1 _)
theorem PRun.mapC (h : PRun base s0 w0 s ops w) {kc : Nat} {fC : Int → Nat} {kC : List Int} (hf : w.grownBy w' (some s.cm)) (hm : KMap 2 w' s.cm kc fC kC) : PRun base s0 w0 { s with kc := kc, fC := fC, kC := kC } ops w' :=
  h.next (h.pm.mapC (Fr.of_grown hf) hm) ((Fr.of_grown hf).mono fun k _ hk => .inl (.inr (.inl hk))) (fun _ h => .inl h) ((Below.refl _ _).grown hf h.pm.bs fun k hk => by cases hk; exact (h.pm.fk s.cm (.inr (.inl rfl))).1)
theorem PRun.mapB (h : PRun base s0 w0 s ops w) {kb : Nat} {fB : Int → Nat} {kB : List Int} (hf : w.grownBy w' (some s.bm)) (hm : KMap 3 w' s.bm kb fB kB) : PRun base s0 w0 { s with kb := kb, fB := fB, kB := kB } ops w' :=
  h.next (h.pm.mapB (Fr.of_grown hf) hm) ((Fr.of_grown hf).mono fun k _ hk => .inl (.inr (.inr (.inl hk)))) (fun _ h => .inl h) ((Below.refl _ _).grown hf h.pm.bs fun k hk => by cases hk; exact (h.pm.fk s.bm (.inr (.inr (.inl rfl)))).1)
theorem PRun.setC (h : PRun base s0 w0 s ops w) {X Y : List Ch} {c c' : Ch} (hC : s.C = X ++ c :: Y) (hq : c'.q = c.q) (hdv : c'.dv = c.dv) (hd : c'.d = c.d) (hf : Fr (fun k => k = c.q) w w') (hb : Below base w w') (hr : w'.heap[c.q]? = some (.cells (chL c').toArray 125 (0, 0))) (ha : OwnL w' base c'.av c'.ah)
    (hav : ∀ k, c'.av.ownBlock = some k → c.av.ownBlock = some k ∨ (¬ Ak s k ∧ w0.heap.size ≤ k)) :
    ∃ tg, PRun base s0 w0 { s with C := X ++ c' :: Y, tag := tg } ops w' := by
  have hc : c ∈ s.C := by rw [hC]; simp
  obtain ⟨tg, hp⟩ := h.pm.setC hC hq hdv hd hf hr ha (fun k hk => (hav k hk).imp id fun h => h.1)
  refine ⟨tg, h.next hp (hf.mono fun k _ hk => .inl (.inr (.inr (.inr (.inl ⟨c, hc, .inl hk⟩))))) (fun k hk => ?_) hb⟩
  rcases hk with (hk | hk | hk | ⟨x, hx, hk⟩ | hk) | hk
  · exact .inl (.inl (.inl hk))
  · exact .inl (.inl (.inr (.inl hk)))
  · exact .inl (.inl (.inr (.inr (.inl hk))))
  · rcases mem_mid (e := c) hx with rfl | ⟨hx, _⟩
    · rw [hq, hdv] at hk
      rcases hk with hk | hk | hk
      · exact .inl (.inl (.inr (.inr (.inr (.inl ⟨c, hc, .inl hk⟩)))))
      · exact .inl (.inl (.inr (.inr (.inr (.inl ⟨c, hc, .inr (.inl hk)⟩)))))
      · rcases hav k hk with e | e
        · exact .inl (.inl (.inr (.inr (.inr (.inl ⟨c, hc, .inr (.inr e)⟩)))))
        · exact .inr e.2
    · exact .inl (.inl (.inr (.inr (.inr (.inl ⟨x, by rw [hC]; exact hx, hk⟩)))))
  · exact .inl (.inl (.inr (.inr (.inr (.inr hk)))))
  · exact .inl (.inr hk)
theorem PRun.setB (h : PRun base s0 w0 s ops w) {X Y : List Bk} {b b' : Bk} {op : List Int} (hB : s.B = X ++ b :: Y) (hq : b'.q = b.q) (hf : Fr (fun k => k = b.q ∨ b.ov.ownBlock = some k) w w') (hb0 : Below base w w') (hr : w'.heap[b.q]? = some (.cells (bkL b').toArray 169 (0, 0))) (h1 : b'.ba.length = 256) (h2 : b'.la.length = 256) (ho : OwnL w' base b'.ov op)
    (hov : ∀ k, b'.ov.ownBlock = some k → b.ov.ownBlock = some k ∨ (¬ Ak s k ∧ w0.heap.size ≤ k)) :
    ∃ tg, PRun base s0 w0 { s with B := X ++ b' :: Y, tag := tg } (fun q => if q = b.q then op else ops q) w' := by
  have hb : b ∈ s.B := by rw [hB]; simp
  obtain ⟨tg, hp⟩ := h.pm.setB hB hq hf hr h1 h2 ho (fun k hk => (hov k hk).imp id fun h => h.1)
  refine ⟨tg, h.next hp (hf.mono fun k _ hk => .inl (.inr (.inr (.inr (.inr ⟨b, hb, hk⟩))))) (fun k hk => ?_) hb0⟩
  rcases hk with (hk | hk | hk | hk | ⟨x, hx, hk⟩) | hk
  · exact .inl (.inl (.inl hk))
  · exact .inl (.inl (.inr (.inl hk)))
  · exact .inl (.inl (.inr (.inr (.inl hk))))
  · exact .inl (.inl (.inr (.inr (.inr (.inl hk)))))
  · rcases mem_mid (e := b) hx with rfl | ⟨hx, _⟩
    · rw [hq] at hk
      rcases hk with hk | hk
      · exact .inl (.inl (.inr (.inr (.inr (.inr ⟨b, hb, .inl hk⟩)))))
      · rcases hov k hk with e | e
        · exact .inl (.inl (.inr (.inr (.inr (.inr ⟨b, hb, .inr e⟩)))))
        · exact .inr e.2
    · exact .inl (.inl (.inr (.inr (.inr (.inr ⟨x, by rw [hB]; exact hx, hk⟩)))))
  · exact .inl (.inr hk)
/-- A new change in memory. -/
theorem PRun.newC (h : PRun base s0 w0 s ops w) {c : Ch} (hb : Below w.heap.size w w') (hc : ChAt w' base c) (hq : w.heap.size ≤ c.q) (hdv : ∀ k, c.dv.ownBlock = some k → w.heap.size ≤ k ∧ k ≠ c.q) (hav : c.av.ownBlock = none) :
    ∃ tg, PRun base s0 w0 { s with C := s.C ++ [c], tag := tg } ops w' := by
  have hu := h.pm.up hb
  let tg : Nat → Nat := fun k => if k = c.q then 3 * c.q + 10 else if c.dv.ownBlock = some k then 3 * c.q + 11 else s.tag k
  have lt0 : ∀ k, Ak s k → k < w.heap.size := fun k hk => h.pm.lt hk
  have tgo : ∀ k, Fk s k → tg k = s.tag k := fun k hk => by
    have h1 := lt0 k (.inl hk)
    show (if k = c.q then 3 * c.q + 10 else if c.dv.ownBlock = some k then 3 * c.q + 11 else s.tag k) = s.tag k
    rw [if_neg (by omega), if_neg (fun e => by have := (hdv k e).1; omega)]
  have fkc : ∀ x ∈ s.C, Fk s x.q := fun x hx => .inr (.inr (.inr (.inl ⟨x, hx, .inl rfl⟩)))
  have fkd : ∀ x ∈ s.C, ∀ k, x.dv.ownBlock = some k → Fk s k := fun x hx k hk => .inr (.inr (.inr (.inl ⟨x, hx, .inr (.inl hk)⟩)))
  have fka : ∀ x ∈ s.C, ∀ k, x.av.ownBlock = some k → Fk s k := fun x hx k hk => .inr (.inr (.inr (.inl ⟨x, hx, .inr (.inr hk)⟩)))
  have fkb : ∀ b ∈ s.B, Fk s b.q := fun b hb => .inr (.inr (.inr (.inr ⟨b, hb, .inl rfl⟩)))
  have fko : ∀ b ∈ s.B, ∀ k, b.ov.ownBlock = some k → Fk s k := fun b hb k hk => .inr (.inr (.inr (.inr ⟨b, hb, .inr hk⟩)))
  have hql : c.q < w'.heap.size := (Array.getElem?_eq_some_iff.1 hc.cell).1
  have nsk : ∀ k, w.heap.size ≤ k → ¬ Sk s.σ k := fun k hk c => by have := h.pm.cs.sk_size c; omega
  refine ⟨tg, h.next (s' := { s with C := s.C ++ [c], tag := tg }) ?_ (Fr.of_below hb) (fun k hk => ?_) (hb.mono h.pm.bs)⟩
  · exact {
      cs := hu.cs, st := hu.st, mc := hu.mc, mb := hu.mb
      ch := fun x hx => by
        rcases List.mem_append.1 hx with hx | hx
        · exact hu.ch x hx
        · rw [List.mem_singleton.1 hx]; exact hc
      bk := hu.bk
      cq := by
        rw [List.map_append, List.nodup_append]
        refine ⟨hu.cq, by simp, fun a ha b hb e => ?_⟩
        obtain ⟨x, hx, rfl⟩ := List.mem_map.1 ha
        simp only [List.map_cons, List.map_nil, List.mem_singleton] at hb
        have := lt0 x.q (.inl (fkc x hx)); omega
      bq := hu.bq
      t0 := ⟨(tgo _ (.inl rfl)).trans hu.t0.1, (tgo _ (.inr (.inl rfl))).trans hu.t0.2.1, (tgo _ (.inr (.inr (.inl rfl)))).trans hu.t0.2.2⟩
      tc := fun x hx => by
        rcases List.mem_append.1 hx with hx | hx
        · exact ⟨(tgo _ (fkc x hx)).trans (hu.tc x hx).1, fun k hk => (tgo k (fkd x hx k hk)).trans ((hu.tc x hx).2.1 k hk), fun k hk => (tgo k (fka x hx k hk)).trans ((hu.tc x hx).2.2 k hk)⟩
        · rw [List.mem_singleton.1 hx]
          refine ⟨?_, fun k hk => ?_, fun k hk => by rw [hav] at hk; cases hk⟩
          · show (if c.q = c.q then 3 * c.q + 10 else _) = _
            rw [if_pos rfl]
          · show (if k = c.q then 3 * c.q + 10 else if c.dv.ownBlock = some k then 3 * c.q + 11 else s.tag k) = _
            rw [if_neg (hdv k hk).2, if_pos hk]
      tb := fun b hb => ⟨(tgo _ (fkb b hb)).trans (hu.tb b hb).1, fun k hk => (tgo k (fko b hb k hk)).trans ((hu.tb b hb).2 k hk)⟩
      fk := fun k hk => by
        rcases hk with hk | hk | hk | ⟨x, hx, hk⟩ | hk
        · exact hu.fk k (.inl hk)
        · exact hu.fk k (.inr (.inl hk))
        · exact hu.fk k (.inr (.inr (.inl hk)))
        · rcases List.mem_append.1 hx with hx | hx
          · exact hu.fk k (.inr (.inr (.inr (.inl ⟨x, hx, hk⟩))))
          · rw [List.mem_singleton.1 hx] at hk
            rcases hk with hk | hk | hk
            · exact ⟨by have := h.pm.bs; omega, by omega, nsk k (by omega)⟩
            · exact ⟨(hc.dat.lt k hk).1, (hc.dat.lt k hk).2, nsk k (hdv k hk).1⟩
            · rw [hav] at hk; cases hk
        · exact hu.fk k (.inr (.inr (.inr (.inr hk)))) }
  · have hz := h.fr.size
    rcases hk with (hk | hk | hk | ⟨x, hx, hk⟩ | hk) | hk
    · exact .inl (.inl (.inl hk))
    · exact .inl (.inl (.inr (.inl hk)))
    · exact .inl (.inl (.inr (.inr (.inl hk))))
    · rcases List.mem_append.1 hx with hx | hx
      · exact .inl (.inl (.inr (.inr (.inr (.inl ⟨x, hx, hk⟩)))))
      · rw [List.mem_singleton.1 hx] at hk
        rcases hk with hk | hk | hk
        · exact .inr (by omega)
        · exact .inr (by have := (hdv k hk).1; omega)
        · rw [hav] at hk; cases hk
    · exact .inl (.inl (.inr (.inr (.inr (.inr hk)))))
    · exact .inl (.inr hk)
/-- A new block in memory. -/
theorem PRun.newB (h : PRun base s0 w0 s ops w) {b : Bk} (hb : Below w.heap.size w w') (hc : BkAt w' base b []) (hq : w.heap.size ≤ b.q) (hov : b.ov.ownBlock = none) :
    ∃ tg, PRun base s0 w0 { s with B := s.B ++ [b], tag := tg } (fun q => if q = b.q then [] else ops q) w' := by
  have hu := h.pm.up hb
  let tg : Nat → Nat := fun k => if k = b.q then 3 * b.q + 10 else s.tag k
  have lt0 : ∀ k, Ak s k → k < w.heap.size := fun k hk => h.pm.lt hk
  have tgo : ∀ k, Fk s k → tg k = s.tag k := fun k hk => by
    have h1 := lt0 k (.inl hk)
    show (if k = b.q then 3 * b.q + 10 else s.tag k) = s.tag k
    rw [if_neg (by omega)]
  have fkc : ∀ x ∈ s.C, Fk s x.q := fun x hx => .inr (.inr (.inr (.inl ⟨x, hx, .inl rfl⟩)))
  have fkd : ∀ x ∈ s.C, ∀ k, x.dv.ownBlock = some k → Fk s k := fun x hx k hk => .inr (.inr (.inr (.inl ⟨x, hx, .inr (.inl hk)⟩)))
  have fka : ∀ x ∈ s.C, ∀ k, x.av.ownBlock = some k → Fk s k := fun x hx k hk => .inr (.inr (.inr (.inl ⟨x, hx, .inr (.inr hk)⟩)))
  have fkb : ∀ b ∈ s.B, Fk s b.q := fun b hb => .inr (.inr (.inr (.inr ⟨b, hb, .inl rfl⟩)))
  have fko : ∀ b ∈ s.B, ∀ k, b.ov.ownBlock = some k → Fk s k := fun b hb k hk => .inr (.inr (.inr (.inr ⟨b, hb, .inr hk⟩)))
  have hql : b.q < w'.heap.size := (Array.getElem?_eq_some_iff.1 hc.cell).1
  have nsk : ∀ k, w.heap.size ≤ k → ¬ Sk s.σ k := fun k hk c => by have := h.pm.cs.sk_size c; omega
  refine ⟨tg, h.next (s' := { s with B := s.B ++ [b], tag := tg }) ?_ (Fr.of_below hb) (fun k hk => ?_) (hb.mono h.pm.bs)⟩
  · exact {
      cs := hu.cs, st := hu.st, mc := hu.mc, mb := hu.mb, ch := hu.ch
      bk := fun x hx => by
        rcases List.mem_append.1 hx with hx | hx
        · show BkAt w' base x (if x.q = b.q then [] else ops x.q)
          rw [if_neg (by have := lt0 x.q (.inl (fkb x hx)); omega)]
          exact hu.bk x hx
        · rw [List.mem_singleton.1 hx]
          show BkAt w' base b (if b.q = b.q then [] else ops b.q)
          rw [if_pos rfl]; exact hc
      cq := hu.cq
      bq := by
        rw [List.map_append, List.nodup_append]
        refine ⟨hu.bq, by simp, fun a ha c hc e => ?_⟩
        obtain ⟨x, hx, rfl⟩ := List.mem_map.1 ha
        simp only [List.map_cons, List.map_nil, List.mem_singleton] at hc
        have := lt0 x.q (.inl (fkb x hx)); omega
      t0 := ⟨(tgo _ (.inl rfl)).trans hu.t0.1, (tgo _ (.inr (.inl rfl))).trans hu.t0.2.1, (tgo _ (.inr (.inr (.inl rfl)))).trans hu.t0.2.2⟩
      tc := fun x hx => ⟨(tgo _ (fkc x hx)).trans (hu.tc x hx).1, fun k hk => (tgo k (fkd x hx k hk)).trans ((hu.tc x hx).2.1 k hk), fun k hk => (tgo k (fka x hx k hk)).trans ((hu.tc x hx).2.2 k hk)⟩
      tb := fun x hx => by
        rcases List.mem_append.1 hx with hx | hx
        · exact ⟨(tgo _ (fkb x hx)).trans (hu.tb x hx).1, fun k hk => (tgo k (fko x hx k hk)).trans ((hu.tb x hx).2 k hk)⟩
        · rw [List.mem_singleton.1 hx]
          refine ⟨?_, fun k hk => by rw [hov] at hk; cases hk⟩
          show (if b.q = b.q then 3 * b.q + 10 else _) = _
          rw [if_pos rfl]
      fk := fun k hk => by
        rcases hk with hk | hk | hk | hk | ⟨x, hx, hk⟩
        · exact hu.fk k (.inl hk)
        · exact hu.fk k (.inr (.inl hk))
        · exact hu.fk k (.inr (.inr (.inl hk)))
        · exact hu.fk k (.inr (.inr (.inr (.inl hk))))
        · rcases List.mem_append.1 hx with hx | hx
          · exact hu.fk k (.inr (.inr (.inr (.inr ⟨x, hx, hk⟩))))
          · rw [List.mem_singleton.1 hx] at hk
            rcases hk with hk | hk
            · exact ⟨by have := h.pm.bs; omega, by omega, nsk k (by omega)⟩
            · rw [hov] at hk; cases hk }
  · have hz := h.fr.size
    rcases hk with (hk | hk | hk | hk | ⟨x, hx, hk⟩) | hk
    · exact .inl (.inl (.inl hk))
    · exact .inl (.inl (.inr (.inl hk)))
    · exact .inl (.inl (.inr (.inr (.inl hk))))
    · exact .inl (.inl (.inr (.inr (.inr (.inl hk)))))
    · rcases List.mem_append.1 hx with hx | hx
      · exact .inl (.inl (.inr (.inr (.inr (.inr ⟨x, hx, hk⟩)))))
      · rw [List.mem_singleton.1 hx] at hk
        rcases hk with hk | hk
        · exact .inr (by omega)
        · rw [hov] at hk; cases hk
    · exact .inl (.inr hk)
/-- Some changes and blocks are let go. -/
theorem PRun.less (h : PRun base s0 w0 s ops w) {C' : List Ch} {B' : List Bk} (hC : C'.Sublist s.C) (hB : B'.Sublist s.B) : PRun base s0 w0 { s with C := C', B := B' } ops w := by
  have fk' : ∀ k, Fk { s with C := C', B := B' } k → Fk s k := fun k hk => by
    rcases hk with hk | hk | hk | ⟨x, hx, hk⟩ | ⟨x, hx, hk⟩
    · exact .inl hk
    · exact .inr (.inl hk)
    · exact .inr (.inr (.inl hk))
    · exact .inr (.inr (.inr (.inl ⟨x, hC.subset hx, hk⟩)))
    · exact .inr (.inr (.inr (.inr ⟨x, hB.subset hx, hk⟩)))
  have hp := h.pm
  refine h.next (s' := { s with C := C', B := B' }) ?_ (Fr.refl _ _) (fun k hk => .inl (hk.imp (fk' k) id)) (Below.refl _ _)
  exact { cs := hp.cs, st := hp.st, mc := hp.mc, mb := hp.mb, ch := fun x hx => hp.ch x (hC.subset hx), bk := fun x hx => hp.bk x (hB.subset hx), cq := (hC.map _).nodup hp.cq, bq := (hB.map _).nodup hp.bq, t0 := hp.t0, tc := fun x hx => hp.tc x (hC.subset hx), tb := fun x hx => hp.tb x (hB.subset hx), fk := fun k hk => hp.fk k (fk' k hk) }
end
end Go.Proofs.YtaljaledeljllaaGreat
