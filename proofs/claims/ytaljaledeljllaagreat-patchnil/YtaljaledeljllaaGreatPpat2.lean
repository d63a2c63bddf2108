/- Package patch: Patch. -/
import Derived.Test.YtaljaledeljllaaGreatPent
namespace Go.Proofs.YtaljaledeljllaaGreat
open Go.RowKit
set_option maxRecDepth 100000
def newCh (id n fr : Nat) (d : List UInt8) (q : Nat) (dv : Value) : Ch := ⟨id, n, fr, d, [], false, q, dv, .slice none 0 0⟩
/-- A block as one that has open changes: it was one, or is a new one. -/
inductive OpRel (s : PSt) (ops : Nat → List Int) (n : Nat) (d : List UInt8) : PSt → (Nat → List Int) → Bk → List Bk → List Bk → Prop
  | old {Y Z : List Bk} {b : Bk} (hB : s.B = Y ++ b :: Z) (hn : b.n = n) : OpRel s ops n d s ops b Y Z
  | new {q : Nat} {tg : Nat → Nat} {A B : List CE} {e : CE} (hno : s.fB n = 0) (hL : s.σ.L = A ++ e :: B) (hen : e.n = n) (hnd : (s.σ.L.map (·.n)).Nodup) :
      OpRel s ops n d { s with B := s.B ++ [newBk n q d], tag := tg, kb := s.kb + 1, fB := setF s.fB n (q + 1), kB := s.kB ++ [(n : Int)], σ := { s.σ with L := A ++ { e with pin := e.pin + 1 } :: B, K := s.σ.K + 1 } } (fun k => if k = q then [] else ops k) (newBk n q d) s.B []
theorem OpRel.eqs {s s2 : PSt} {ops o2 : Nat → List Int} {n : Nat} {d : List UInt8} {b : Bk} {Y Z : List Bk} (h : OpRel s ops n d s2 o2 b Y Z) : s2.p = s.p ∧ s2.C = s.C ∧ s2.cnt = s.cnt ∧ s2.kc = s.kc ∧ s2.kC = s.kC ∧ s2.fC = s.fC ∧ s2.cm = s.cm ∧ s2.B = Y ++ b :: Z ∧ s2.σ.p = s.σ.p ∧ s2.σ.dn = s.σ.dn ∧ s2.σ.most = s.σ.most ∧ s2.σ.K ≤ s.σ.K + 1 ∧ b.n = n ∧ s2.σ.dp = s.σ.dp := by
  cases h with
  | old hB hn => exact ⟨rfl, rfl, rfl, rfl, rfl, rfl, rfl, hB, rfl, rfl, rfl, by omega, hn, rfl⟩
  | new _ _ _ _ => exact ⟨rfl, rfl, rfl, rfl, rfl, rfl, rfl, rfl, rfl, rfl, rfl, by simp, rfl, rfl⟩
section
variable {w w' w0 : World} {base : Nat} {s s' s0 : PSt} {ops ops' : Nat → List Int}
theorem opened_any (h : PRun base s0 w0 s ops w) (n : Nat) (hn : (n : Int) ≤ 1000000) (hcase : (∃ Y b Z, s.B = Y ++ b :: Z ∧ b.n = n ∧ s.fB n = b.q + 1) ∨ (s.fB n = 0 ∧ (n : Int) ∉ s.kB)) (hkb : s.kb ≤ 1000000) (g c : Nat) (d : List UInt8) (hs : Src w (some ⟨g, 0, none⟩) d) (hd : d.length = 256) {A B : List CE} {e : CE} (hL : s.σ.L = A ++ e :: B) (hen : e.n = n) (hK : s.σ.K ≤ 1000000) :
    Calls Tryz.prog 83 #[.pointer (some ⟨s.p, 0, none⟩), .int .i64 (n : Int), .slice (some ⟨g, 0, none⟩) 256 c] w fun r w' => ∃ s2 o2 b Y Z, r = .returned (.pointer (some ⟨b.q, 0, none⟩)) ∧ PRun base s0 w0 s2 o2 w' ∧ OpRel s ops n d s2 o2 b Y Z ∧ Fr (Ak s) w w' ∧ ((o2 b.q).length ≤ (ops b.q).length) ∧ ∀ k, Ak s2 k → Ak s k ∨ w.heap.size ≤ k := by
  rcases hcase with ⟨Y, b, Z, hB, hbn, hf⟩ | ⟨hf, hk⟩
  · refine (opened_old h.pm n hn b.q hf _).mono ?_
    rintro r w' ⟨rfl, rfl⟩
    exact ⟨s, ops, b, Y, Z, rfl, h, .old hB hbn, Fr.refl _ _, Nat.le_refl _, fun _ h => .inl h⟩
  · have h' : PRun base s w s ops w := PRun.start h.pm
    refine (opened_new h' n hn hf hk hkb g c d hs hd hL hen hK).mono ?_
    rintro r w' ⟨q, tg, rfl, hq, hR, hFr⟩
    exact ⟨_, _, newBk n q d, s.B, [], rfl, h.trans hR, .new hf hL hen h.pm.cs.nd, hFr, by simp [newBk], hR.sub⟩
/-- What Patch leaves. -/
def PatchR (s : PSt) (ops : Nat → List Int) (n fr : Nat) (data : List UInt8) (after : List Int) (s' : PSt) (ops' : Nat → List Int) : Prop :=
  ∃ (d d2 : List UInt8) (pn pn3 : Nat) (σ1 σ3 : CSt) (s2 : PSt) (o2 : Nat → List Int) (b : Bk) (Y Z : List Bk) (q : Nat) (dv av ov : Value) (ah : List Int) (tg0 tg : Nat → Nat),
    (d, pn) = (ent s.σ.L n).getD (lst s.σ n, 0) ∧ d.length = 256 ∧ CRel s.σ σ1 n (some (d, pn)) ∧ OpRel { s with σ := σ1, C := s.C ++ [newCh (s.cnt + 1) n fr data q dv], tag := tg0 } ops n d s2 o2 b Y Z ∧
    s' = { s2 with cnt := s.cnt + 1, C := s.C ++ [{ newCh (s.cnt + 1) n fr data q dv with av := av, ah := ah }], B := Y ++ { b with ov := ov, la := laU b.la fr data.length ((s.cnt + 1 : Nat) : Int) } :: Z, kc := s.kc + 1, fC := setF s.fC ((s.cnt + 1 : Nat) : Int) (q + 1), kC := s.kC ++ [((s.cnt + 1 : Nat) : Int)], tag := tg, σ := σ3 } ∧
    ops' = (fun k => if k = b.q then o2 b.q ++ [((s.cnt + 1 : Nat) : Int)] else o2 k) ∧
    (∀ i, i ∈ ah ↔ (i ∈ after ∨ ∃ j, j < data.length ∧ i = b.la.getD (fr + j) 0) ∧ s.fC i ≠ 0) ∧ ah.length ≤ 2000 ∧
    CRel s2.σ σ3 n (some (layB d fr data, pn3)) ∧ (d2, pn3) = (ent s2.σ.L n).getD (lst s2.σ n, 0)
theorem Own.row {w : World} {base : Nat} {v : Value} {l : List UInt8} (h : Own w base v l) (hl : l.length = 256) : ∃ g cap t r, v = .slice (some ⟨g, 0, none⟩) 256 cap ∧ base ≤ g ∧ w.heap[g]? = some (.cells (bvs l ++ r).toArray t (0, 0)) ∧ 256 ≤ cap ∧ (cap : Int) ≤ 9223372036854775807 := by
  obtain ⟨h1, h2⟩ := h
  rcases h2 with ⟨rfl, h3⟩ | ⟨g, cap, cur, rfl, hg, hh, hn, hm, hs, hx⟩
  · omega
  · rw [Nat.mul_one] at hx
    refine ⟨g, cap, 5, cur.toList.drop l.length, by rw [hl], hg, ?_, by omega, by unfold maxLen at hm; omega⟩
    rw [← hx, List.take_append_drop]; exact hh
set_option maxHeartbeats 4000000 in
theorem patch_mem (h : PM w base s ops) (n fr : Nat) (hn : n < s.σ.dn) (hdn : s.σ.dn ≤ 4096) (data : List UInt8) (gd0 od0 dc0 : Nat) (hds : Src w (some ⟨gd0, od0, none⟩) data) (hd1 : 1 ≤ data.length) (hf : fr + data.length ≤ 256) (asp : Option Addr) (ac : Nat) (after : List Int) (has : SrcI w asp after) (hform : (asp = none ∧ after = []) ∨ ∃ b o, asp = some ⟨b, o, none⟩) (haf : ∀ b o, asp = some ⟨b, o, none⟩ → ¬ Ak s b ∧ b < w.heap.size) (hdf : ¬ Ak s gd0) (hal : after.length ≤ 1000) (hkn : ∀ i ∈ after, 1 ≤ i ∧ i ≤ (s.cnt : Int))
    (hK : s.σ.K ≤ 900000) (hlen : s.σ.L.length ≤ s.σ.most) (hm : s.σ.dn ≤ s.σ.most) (hcase : (∃ Y b Z, s.B = Y ++ b :: Z ∧ b.n = n ∧ s.fB n = b.q + 1) ∨ (s.fB n = 0 ∧ (n : Int) ∉ s.kB)) (hkb : s.kb ≤ 900000) (hkc : s.kc ≤ 900000) (hcnt : s.cnt ≤ 900000) (hno : ((s.cnt + 1 : Nat) : Int) ∉ s.kC) (hla : ∀ b ∈ s.B, ∀ i ∈ b.la, -9223372036854775808 ≤ i ∧ i ≤ 9223372036854775807) (hop : ∀ b ∈ s.B, (ops b.q).length ≤ 1000000) :
    Calls Tryz.prog 28 #[.pointer (some ⟨s.p, 0, none⟩), .int .i64 (n : Int), .int .i64 (fr : Int), .slice (some ⟨gd0, od0, none⟩) data.length dc0, .slice asp after.length ac] w fun r w' => r = .returned (.tuple #[.int .i64 ((s.cnt + 1 : Nat) : Int), .int .i64 0]) ∧ ∃ s' ops', PRun base s w s' ops' w' ∧ PatchR s ops n fr data after s' ops' := by
  have RC := preach_any h (n : Int)
  rw [if_neg (by omega)] at RC
  have egu : ∀ args w, (callFunc 79 args).run Tryz.prog w = .ok (.enter 79 args) w := enters_of Tryz.func79 (by kernel_rfl) rfl
  have CF := containsFunc_m 79 (.pointer (some ⟨s.p, 0, none⟩)) egu (fun x => decide (x < 1 ∨ (s.cnt : Int) < x)) asp ac after w has (by omega) (fun x hx m => (unknown_any (h.up (belowN (Below.refl _ _) m)) x).mono fun e w' hh => ⟨hh.1, m, hh.2⟩)
  rw [show after.any (fun x => decide (x < 1 ∨ (s.cnt : Int) < x)) = false by
    rw [List.any_eq_false]
    intro x hx
    have := hkn x hx
    simp; omega] at CF
  have HH : Hid (PM w base s ops) := h
  have HDS : Hid (Src w (some ⟨gd0, od0, none⟩) data ∧ ¬ Ak s gd0 ∧ gd0 < w.heap.size) := ⟨hds, hdf, by obtain ⟨b', o', e1, hlt, _⟩ := hds.at' (by omega); cases e1; exact hlt⟩
  have HAS : Hid (SrcI w asp after ∧ ∀ b o, asp = some ⟨b, o, none⟩ → ¬ Ak s b ∧ b < w.heap.size) := ⟨has, haf⟩
  obtain ⟨m, hmd⟩ : ∃ m, m = data.length := ⟨_, rfl⟩
  have HMD : Hid (m = data.length) := hmd
  rw [← hmd] at hd1 hf ⊢
  have hf' : (fr : Int) ≤ 256 - (m : Int) := by omega
  have hm0 : ¬ (m : Int) = 0 := by omega
  have hm0b : ((m : Int) == 0) = false := by simpa using hm0
  have hm256 : (m : Int) ≤ 256 := by omega
  have HKN : Hid (∀ i ∈ after, 1 ≤ i ∧ i ≤ (s.cnt : Int)) := hkn
  have HCASE : Hid ((∃ Y b Z, s.B = Y ++ b :: Z ∧ b.n = n ∧ s.fB n = b.q + 1) ∨ (s.fB n = 0 ∧ (n : Int) ∉ s.kB)) := hcase
  have HNO : Hid (((s.cnt + 1 : Nat) : Int) ∉ s.kC) := hno
  have HLA : Hid ((∀ b ∈ s.B, ∀ i ∈ b.la, -9223372036854775808 ≤ i ∧ i ≤ 9223372036854775807) ∧ ∀ b ∈ s.B, (ops b.q).length ≤ 1000000) := ⟨hla, hop⟩
  have HFORM : Hid ((asp = none ∧ after = []) ∨ ∃ b o, asp = some ⟨b, o, none⟩) := hform
  clear h hds has hmd hkn hcase hno hla hop hform haf hdf egu
  go_enter Tryz.func28, Tryz.ntmps28
  go_wp2_with (first | (go_at_call 72; refine RC.mono ?_; rintro e w1 ⟨rfl, hw1⟩; obtain rfl : w = w1 := hw1.symm) | (go_at_call 78; refine Hid.out ?_))
  change Calls _ _ _ _ _
  refine CF.mono ?_
  clear CF RC
  rintro e w2 ⟨⟨q0, rfl⟩, rfl⟩
  have hb2 : Below w.heap.size w (w.drewN q0) := belowN (Below.refl _ _) q0
  have P2 := HH.out.up hb2
  have c21 := P2.c1
  have RD := cr_read P2.cs n hn (by omega) hlen hm
  have HP2 : Hid (PM (w.drewN q0) base s ops) := P2
  have HZ2 : Hid ((w.drewN q0).heap.size = w.heap.size ∧ Below w.heap.size w (w.drewN q0)) := ⟨rfl, hb2⟩
  clear P2 hb2
  generalize w.drewN q0 = w2 at *
  go_wp2_with (first | (go_at_call 80; refine Hid.out ?_))
  change Calls _ _ _ _ _
  refine RD.mono ?_
  clear RD c21
  rintro r w3 ⟨v3, d, pn, σ1, rfl, hdpn, hO3, hS3, hD3, hC3, hd256⟩
  obtain ⟨g, cap, t3, r3, rfl, hg2, hgrow, hcap, hcapm⟩ := hO3.row hd256
  have R3 : PRun base s w { s with σ := σ1 } ops w3 := ((PRun.start HH.out).up HZ2.out.2).cache hD3 hC3.p hC3.dp
  have hgA : ∀ k, Ak { s with σ := σ1 } k → k ≠ g := fun k hk e => by
    subst e
    rcases hk with hk | hk
    · have := (HP2.out.fk k hk).2.1; omega
    · exact hS3 k rfl hk
  have HR3 : Hid (PRun base s w { s with σ := σ1 } ops w3) := R3
  have HG : Hid (w3.heap[g]? = some (.cells (bvs d ++ r3).toArray t3 (0, 0)) ∧ (∀ k, Ak { s with σ := σ1 } k → k ≠ g) ∧ w.heap.size ≤ g ∧ d.length = 256) := ⟨hgrow, hgA, by rw [← HZ2.out.1]; exact hg2, hd256⟩
  have HC3 : Hid ((d, pn) = (ent s.σ.L n).getD (lst s.σ n, 0) ∧ CRel s.σ σ1 n (some (d, pn))) := ⟨hdpn, hC3⟩
  have hK1 : σ1.K ≤ 900001 := by have := hC3.k1; omega
  have hdsA : ∀ b, ¬ Ak s b → b < w.heap.size → w3.heap[b]? = w.heap[b]? := fun b hb hlt => R3.fr.blk b hlt hb
  have hds3 : Src w3 (some ⟨gd0, od0, none⟩) data := by
    obtain ⟨b', o', e1, hlt, hc⟩ := HDS.out.1.at' (by rw [← HMD.out]; omega)
    cases e1
    exact .inr ⟨gd0, od0, rfl, by have := R3.fr.size; omega, fun j hj => (World.cell?_of_block (w := w) (a := ⟨gd0, od0 + j, none⟩) (hdsA gd0 HDS.out.2.1 hlt)).trans (hc j hj)⟩
  have has3 : SrcI w3 asp after := by
    rcases HAS.out.1 with h0 | ⟨b', o', e1, hlt, hc⟩
    · exact .inl h0
    · exact .inr ⟨b', o', e1, by have := R3.fr.size; omega, fun j hj => (World.cell?_of_block (w := w) (a := ⟨b', o' + j, none⟩) (hdsA b' (HAS.out.2 b' o' e1).1 hlt)).trans (hc j hj)⟩
  have HAS3 : Hid (SrcI w3 asp after) := has3
  have CLB := cloneB_any gd0 od0 dc0 data w3 hds3 (by rw [← HMD.out]; omega)
  rw [← HMD.out] at CLB
  clear R3 hgA hgrow hO3 hS3 hD3 hC3 hdpn hd256 hdsA hds3 has3 hg2
  go_wp2_with (first | (go_at_call 81; refine Hid.out ?_))
  change Calls _ _ _ _ _
  refine CLB.mono ?_
  clear CLB
  rintro e w4 ⟨dv, rfl, hO4, hb4⟩
  obtain ⟨da, dc, rfl, hdsrc, hdcl, hdcm, _⟩ := hO4.form
  rw [← HMD.out] at hO4 ⊢
  obtain ⟨gd, hgd⟩ : ∃ gd, da = some ⟨gd, 0, none⟩ := by
    rcases hO4.2 with ⟨h2, _⟩ | ⟨g', cap', cur, hv, _⟩
    · cases h2; rw [HMD.out] at hd1; rcases hdsrc with h0 | ⟨_, _, h0, _⟩
      · rw [h0] at hd1; simp at hd1
      · cases h0
    · cases hv; exact ⟨g', rfl⟩
  subst hgd
  have hb5 : Below w4.heap.size w4 (w4.alloc (.cells (chL (newCh (s.cnt + 1) n fr data w4.heap.size (.slice (some ⟨gd, 0, none⟩) m dc))).toArray 125)) := (Below.refl _ _).alloc (Nat.le_refl _) _
  have hb35 : Below w3.heap.size w3 (w4.alloc (.cells (chL (newCh (s.cnt + 1) n fr data w4.heap.size (.slice (some ⟨gd, 0, none⟩) m dc))).toArray 125)) := hb4.trans (hb5.mono hb4.size)
  obtain ⟨tg0, hR5⟩ := HR3.out.newC (c := newCh (s.cnt + 1) n fr data w4.heap.size (.slice (some ⟨gd, 0, none⟩) m dc)) hb35 ⟨heap_alloc_new _ _, row_mono (row_same hO4 fun j hj => hb5.block j (hO4.lt j hj).2) HR3.out.pm.bs, OwnL.nil _ _⟩ hb4.size (fun j hj => ⟨(hO4.lt j hj).1, by have := (hO4.lt j hj).2; show j ≠ w4.heap.size; omega⟩) rfl
  have HR5 : Hid (PRun base s w { s with σ := σ1, C := s.C ++ [newCh (s.cnt + 1) n fr data w4.heap.size (.slice (some ⟨gd, 0, none⟩) m dc)], tag := tg0 } ops (w4.alloc (.cells (chL (newCh (s.cnt + 1) n fr data w4.heap.size (.slice (some ⟨gd, 0, none⟩) m dc))).toArray 125))) := hR5
  have HB35 : Hid (Below w3.heap.size w3 (w4.alloc (.cells (chL (newCh (s.cnt + 1) n fr data w4.heap.size (.slice (some ⟨gd, 0, none⟩) m dc))).toArray 125))) := hb35
  have HW4 : Hid (w.heap.size ≤ w4.heap.size ∧ g < w3.heap.size ∧ w3.heap.size ≤ w4.heap.size ∧ w3.heap.size ≤ gd ∧ gd < w4.heap.size) := ⟨by have := HR3.out.fr.size; have := hb4.size; omega, (Array.getElem?_eq_some_iff.1 HG.out.1).1, hb4.size, (hO4.lt gd rfl).1, (hO4.lt gd rfl).2⟩
  clear hR5 hb35 hb5 hb4 hO4 hdsrc hdcl hdcm
  go_upto_region 12 with fail
  obtain ⟨w5, hw5⟩ : ∃ w5, w5 = w4.alloc (.cells (chL (newCh (s.cnt + 1) n fr data w4.heap.size (.slice (some ⟨gd, 0, none⟩) m dc))).toArray 125) := ⟨_, rfl⟩
  have hwe : w4.alloc (.cells #[Value.int .i64 (n : Int), Value.int .i64 (fr : Int), .slice (some ⟨gd, 0, none⟩) m dc, .slice none 0 0, .bool false] 125) = w5 := by rw [hw5]; rfl
  rw [hwe]
  rw [← hw5] at HR5 HB35
  obtain ⟨cq, hcq⟩ : ∃ cq, cq = w4.heap.size := ⟨_, rfl⟩
  rw [← hcq] at HR5 HW4 ⊢
  obtain ⟨c0, hc0⟩ : ∃ c0, c0 = newCh (s.cnt + 1) n fr data cq (.slice (some ⟨gd, 0, none⟩) m dc) := ⟨_, rfl⟩
  rw [← hc0] at HR5
  have hc0q : c0.q = cq := by rw [hc0]; rfl
  have HC0 : Hid (c0 = newCh (s.cnt + 1) n fr data cq (.slice (some ⟨gd, 0, none⟩) m dc)) := hc0
  obtain ⟨s1, hs1⟩ : ∃ s1, s1 = { s with σ := σ1, C := s.C ++ [c0], tag := tg0 } := ⟨_, rfl⟩
  have HS1 : Hid (s1 = { s with σ := σ1, C := s.C ++ [c0], tag := tg0 }) := hs1
  rw [← hs1] at HR5
  have hp1 : s1.p = s.p := by rw [hs1]
  have hg5 : w5.heap[g]? = some (.cells (bvs d ++ r3).toArray t3 (0, 0)) := (HB35.out.block g HW4.out.2.1).trans HG.out.1
  have hsrc5 : Src w5 (some ⟨g, 0, none⟩) d := .inr ⟨g, 0, rfl, (Array.getElem?_eq_some_iff.1 hg5).1, fun j hj => by
    rw [Nat.zero_add, cell_of_row w5 g j _ _ _ hg5, List.getElem?_toArray, List.getElem?_append_left (by rw [bvs_length]; exact hj)]
    simp [bvs, hj]⟩
  obtain ⟨A1, e1, B1, hL1, hen1, _, _⟩ := ent_some HC3.out.2.at'
  have OPN := opened_any HR5.out n (by omega) (by rw [hs1]; exact HCASE.out) (by rw [hs1]; show s.kb ≤ _; omega) g cap d hsrc5 HG.out.2.2.2 (by rw [hs1]; exact hL1) hen1 (by rw [hs1]; show σ1.K ≤ _; omega)
  rw [hp1] at OPN
  have hgA1 : ∀ k, Ak s1 k → k ≠ g := fun k hk e => by
    subst e
    rw [hs1] at hk
    rcases hk with (hk | hk | hk | ⟨x, hx, hk⟩ | hk) | hk
    · exact HG.out.2.1 k (.inl (.inl hk)) rfl
    · exact HG.out.2.1 k (.inl (.inr (.inl hk))) rfl
    · exact HG.out.2.1 k (.inl (.inr (.inr (.inl hk)))) rfl
    · rcases List.mem_append.1 hx with hx | hx
      · exact HG.out.2.1 k (.inl (.inr (.inr (.inr (.inl ⟨x, hx, hk⟩))))) rfl
      · rw [List.mem_singleton.1 hx, hc0] at hk
        have := HW4.out
        rcases hk with hk | hk | hk
        · have hk' : k = cq := hk; omega
        · have hk' : gd = k := by simpa [newCh, Value.ownBlock] using hk
          omega
        · cases hk
    · exact HG.out.2.1 k (.inl (.inr (.inr (.inr (.inr hk))))) rfl
    · exact HG.out.2.1 k (.inr hk) rfl
  have HG5 : Hid (w5.heap[g]? = some (.cells (bvs d ++ r3).toArray t3 (0, 0)) ∧ ∀ k, Ak s1 k → k ≠ g) := ⟨hg5, hgA1⟩
  have HAS5 : Hid (SrcI w5 asp after) := HAS3.out.below HB35.out (Nat.le_refl _)
  clear hwe hw5 hc0 hs1 hg5 hsrc5 hgA1 hL1 hen1 HR3 HAS3 hcq
  go_wp2_with (first | (go_at_call 83; refine Hid.out ?_))
  change Calls _ _ _ _ _
  refine OPN.mono ?_
  clear OPN
  rintro r w6 ⟨s2, o2, b, Y, Z, rfl, hR6, hOp, hFr6, hol, hsub6⟩
  obtain ⟨e1, e2, e3, e4, e5, e6, e7, e8, e9, e10, e11, e12, e13, e14⟩ := hOp.eqs
  have hg6 : w6.heap[g]? = some (.cells (bvs d ++ r3).toArray t3 (0, 0)) := (hFr6.blk g (Array.getElem?_eq_some_iff.1 HG5.out.1).1 (fun hA => HG5.out.2 g hA rfl)).trans HG5.out.1
  have hgA6 : ∀ k, Ak s2 k → k ≠ g := fun k hk e => by
    subst e
    rcases hsub6 k hk with h1 | h1
    · exact HG5.out.2 k h1 rfl
    · have := (Array.getElem?_eq_some_iff.1 HG5.out.1).1; omega
  have hAsub : ∀ b', ¬ Ak s b' → b' < w.heap.size → ¬ Ak s2 b' := fun b' h1 h2 hA => by
    rcases hR6.sub b' hA with h3 | h3
    · exact h1 h3
    · omega
  have has6 : SrcI w6 asp after := by
    rcases HAS.out.1 with h0 | ⟨b', o', e', hlt, hc⟩
    · exact .inl h0
    · exact .inr ⟨b', o', e', by have := hR6.fr.size; omega, fun j hj => (World.cell?_of_block (w := w) (a := ⟨b', o' + j, none⟩) (hR6.fr.blk b' hlt (HAS.out.2 b' o' e').1)).trans (hc j hj)⟩
  have hs1C : s1.C = s.C ++ [c0] := by rw [HS1.out]
  have hs1c : s1.cnt = s.cnt ∧ s1.kc = s.kc ∧ s1.kC = s.kC ∧ s1.fC = s.fC ∧ s1.B = s.B := by rw [HS1.out]; exact ⟨rfl, rfl, rfl, rfl, rfl⟩
  have hc0f : c0.av = .slice none 0 0 ∧ c0.fr = fr ∧ c0.d = data := by rw [HC0.out]; exact ⟨rfl, rfl, rfl⟩
  have hbla : ∀ i ∈ b.la, -9223372036854775808 ≤ i ∧ i ≤ 9223372036854775807 := by
    cases hOp with
    | old hB hn' => exact HLA.out.1 b (by rw [← hs1c.2.2.2.2, hB]; simp)
    | new _ _ _ _ =>
      intro i hi
      have : i = 0 := List.eq_of_mem_replicate hi
      omega
  have hbol : (o2 b.q).length ≤ 1000000 := by
    cases hOp with
    | old hB hn' => exact HLA.out.2 b (by rw [← hs1c.2.2.2.2, hB]; simp)
    | new _ _ _ _ =>
      refine Nat.le_trans (Nat.le_of_eq ?_) (Nat.zero_le 1000000)
      exact congrArg List.length (if_pos rfl)
  have ADD := add_any (PRun.start hR6.pm) (X := s.C) (c := c0) (by rw [e2, hs1C]) e8 hc0f.1 (by unfold fits; rw [hc0f.2.1, hc0f.2.2, ← HMD.out]; omega) (by rw [hc0f.2.2, ← HMD.out]; omega) (by rw [e3, hs1c.1]; omega) (by rw [e4, hs1c.2.1]; omega) (by rw [e3, e5, hs1c.1, hs1c.2.2.1]; exact HNO.out) asp ac after has6 HFORM.out (fun b' o' e' hbp => by
      have h1 := HAS.out.2 b' o' e'
      exact hAsub b' h1.1 h1.2 (.inl (.inl hbp))) hal (fun i hi => by have := HKN.out i hi; omega) hbla hbol
  have harg : (#[Value.pointer (some ⟨s2.p, 0, none⟩), .pointer (some ⟨c0.q, 0, none⟩), .pointer (some ⟨b.q, 0, none⟩), .slice asp after.length ac] : Array Value) = #[.pointer (some ⟨s.p, 0, none⟩), .pointer (some ⟨cq, 0, none⟩), .pointer (some ⟨b.q, 0, none⟩), .slice asp after.length ac] := by rw [e1, hp1, hc0q]
  rw [harg] at ADD
  have HE2 : Hid (s2.cnt = s.cnt ∧ s2.kc = s.kc ∧ s2.kC = s.kC ∧ s2.fC = s.fC) := ⟨e3.trans hs1c.1, e4.trans hs1c.2.1, e5.trans hs1c.2.2.1, e6.trans hs1c.2.2.2.1⟩
  clear harg
  have HR6 : Hid (PRun base s w s2 o2 w6) := hR6
  have HOp : Hid (OpRel s1 ops n d s2 o2 b Y Z) := hOp
  have HE : Hid (s2.p = s.p ∧ s2.σ.p = σ1.p ∧ s2.σ.dn = s.σ.dn ∧ s2.σ.most = s.σ.most ∧ s2.σ.K ≤ σ1.K + 1 ∧ s2.σ.L.length ≤ s2.σ.most) := by
    have hx : s1.σ = σ1 := by rw [HS1.out]
    rw [hx] at e9 e10 e11 e12
    refine ⟨e1.trans hp1, e9, e10.trans HC3.out.2.dn, e11.trans HC3.out.2.most, e12, ?_⟩
    have hl := HC3.out.2.len
    cases hOp with
    | old _ _ => rw [hx]; exact hl
    | new _ hL _ _ =>
      rw [hx] at hL
      show (_ ++ _ :: _ : List CE).length ≤ s1.σ.most
      rw [hx]
      rw [hL] at hl
      simpa using hl
  have HG6 : Hid (w6.heap[g]? = some (.cells (bvs d ++ r3).toArray t3 (0, 0)) ∧ ∀ k, Ak s2 k → k ≠ g) := ⟨hg6, hgA6⟩
  clear hR6 hOp hFr6 hol hsub6 e1 e2 e3 e4 e5 e6 e7 e8 e9 e10 e11 e12 e13 e14 hg6 hgA6 hAsub has6 hs1C hs1c hbla HR5 HG5 HAS5 HB35
  go_wp2_with (first | (go_at_call 82; refine Hid.out ?_))
  change Calls _ _ _ _ _
  refine ADD.mono ?_
  clear ADD
  rintro r w7 ⟨rfl, tg, av, ov, ah, hR7, hah, hahl⟩
  obtain ⟨s7, hs7⟩ : ∃ s7, s7 = { s2 with cnt := s.cnt + 1, C := s.C ++ [{ c0 with av := av, ah := ah }], B := Y ++ { b with ov := ov, la := laU b.la fr data.length ((s.cnt + 1 : Nat) : Int) } :: Z, kc := s.kc + 1, fC := setF s.fC ((s.cnt + 1 : Nat) : Int) (cq + 1), kC := s.kC ++ [((s.cnt + 1 : Nat) : Int)], tag := tg } := ⟨_, rfl⟩
  have hs7b : s7 = { s2 with cnt := s2.cnt + 1, C := s.C ++ [{ c0 with av := av, ah := ah }], B := Y ++ { b with ov := ov, la := laU b.la c0.fr c0.d.length ((s2.cnt + 1 : Nat) : Int) } :: Z, kc := s2.kc + 1, fC := setF s2.fC ((s2.cnt + 1 : Nat) : Int) (c0.q + 1), kC := s2.kC ++ [((s2.cnt + 1 : Nat) : Int)], tag := tg } := by
    rw [hs7, HE2.out.1, HE2.out.2.1, HE2.out.2.2.1, HE2.out.2.2.2, hc0q, hc0f.2.1, hc0f.2.2]
  rw [← hs7b, HE2.out.1] at hR7
  rw [hc0f.2.2, hc0f.2.1, HE2.out.2.2.2] at hah
  clear hs7b
  have hg7l : g < w6.heap.size := (Array.getElem?_eq_some_iff.1 HG6.out.1).1
  have hg7 : w7.heap[g]? = some (.cells (bvs d ++ r3).toArray t3 (0, 0)) := (hR7.fr.blk g hg7l (fun hA => HG6.out.2 g hA rfl)).trans HG6.out.1
  have hgA7 : ¬ Ak s7 g := fun hA => by
    rcases hR7.sub g hA with h1 | h1
    · exact HG6.out.2 g h1 rfl
    · omega
  have hch := hR7.pm.ch { c0 with av := av, ah := ah } (by rw [hs7]; simp)
  have d1 := hch.c1
  have d2 := hch.c2
  have hdat := hch.dat
  dsimp only at d1 d2 hdat
  have hc0d : c0.dv = .slice (some ⟨gd, 0, none⟩) m dc := by rw [HC0.out]; rfl
  rw [hc0q, hc0f.2.1] at d1
  rw [hc0q, hc0d, HMD.out] at d2
  have hdsrc7 : Src w7 (some ⟨gd, 0, none⟩) data := by
    obtain ⟨ao', cp', he', hs', _⟩ := hdat.form
    rw [hc0d, hc0f.2.2, HMD.out] at he'
    rw [hc0f.2.2] at hs'
    cases he'
    exact hs'
  have LY := lay_any cq g gd fr cap dc t3 d data r3 w7 d1 d2 hdsrc7 (by rw [← HMD.out]; omega) (by rw [← HMD.out]; omega) hg7 HG.out.2.2.2 hcap
  have HR7 : Hid (PRun base s w s7 (fun q => if q = b.q then o2 b.q ++ [((s.cnt + 1 : Nat) : Int)] else o2 q) w7) := HR6.out.trans hR7
  have HS7 : Hid (s7 = { s2 with cnt := s.cnt + 1, C := s.C ++ [{ c0 with av := av, ah := ah }], B := Y ++ { b with ov := ov, la := laU b.la fr data.length ((s.cnt + 1 : Nat) : Int) } :: Z, kc := s.kc + 1, fC := setF s.fC ((s.cnt + 1 : Nat) : Int) (cq + 1), kC := s.kC ++ [((s.cnt + 1 : Nat) : Int)], tag := tg }) := hs7
  have HAH : Hid ((∀ i, i ∈ ah ↔ (i ∈ after ∨ ∃ j, j < data.length ∧ i = b.la.getD (fr + j) 0) ∧ s.fC i ≠ 0) ∧ ah.length ≤ 2000) := ⟨hah, hahl⟩
  have HGA : Hid (¬ Ak s7 g) := hgA7
  clear hR7 hs7 hg7l hg7 hgA7 hch d1 d2 hdat hc0d hdsrc7 hah hahl HR6 HG6
  go_wp2_with (first | (go_at_call 84; refine Hid.out ?_))
  change Calls _ _ _ _ _
  refine LY.mono ?_
  clear LY
  rintro r w8 ⟨rfl, hg8, hf8, hb8⟩
  have hR8 := HR7.out.other hf8 (fun k hk => by subst hk; exact ⟨HGA.out, HG.out.2.2.1⟩) (hb8.mono (by have := HH.out.bs; have := HG.out.2.2.1; omega))
  have hsig : s7.σ = s2.σ ∧ s7.p = s2.p := by rw [HS7.out]; exact ⟨rfl, rfl⟩
  have hK2 : s2.σ.K ≤ 900002 := by have := HE.out.2.2.2.2.1; omega
  have hl256 : (layB d fr data).length = 256 := by rw [layB_length (by rw [HG.out.2.2.2, ← HMD.out]; omega)]; exact HG.out.2.2.2
  have hcs8 := hR8.pm.cs
  rw [hsig.1] at hcs8
  have LAY := cr_lay hcs8 n (by rw [HE.out.2.2.1]; exact hn) (by omega) HE.out.2.2.2.2.2 (by rw [HE.out.2.2.1, HE.out.2.2.2.1]; exact hm) (layB d fr data) g 0 cap (.inr ⟨g, 0, rfl, (Array.getElem?_eq_some_iff.1 hg8).1, fun j hj => by
    rw [Nat.zero_add, cell_of_row w8 g j _ _ _ hg8, List.getElem?_toArray, List.getElem?_append_left (by rw [bvs_length]; exact hj)]
    simp [bvs, hj]⟩) hl256 (fun hS => HGA.out (.inr (by rw [hsig.1]; exact hS)))
  have c81 := hR8.pm.c1
  rw [hsig.1, hsig.2, HE.out.1] at c81
  have HR8 : Hid (PRun base s w s7 (fun q => if q = b.q then o2 b.q ++ [((s.cnt + 1 : Nat) : Int)] else o2 q) w8) := hR8
  have HSG : Hid (s7.σ = s2.σ ∧ s7.p = s2.p) := hsig
  clear hR8 hsig hcs8 hg8 hf8 hb8 HR7 hl256
  go_wp2_with (first | (go_at_call 85; refine Hid.out ?_))
  change Calls _ _ _ _ _
  refine LAY.mono ?_
  clear LAY c81
  rintro r w9 ⟨pn3, σ3, d2, rfl, hdp3, hD9, hC9⟩
  have hR9 : PRun base s w { s7 with σ := σ3 } (fun q => if q = b.q then o2 b.q ++ [((s.cnt + 1 : Nat) : Int)] else o2 q) w9 := HR8.out.cache (by rw [HSG.out.1]; exact hD9) (by rw [HSG.out.1]; exact hC9.p) (by rw [HSG.out.1]; exact hC9.dp)
  have c92 := hR9.pm.c2
  dsimp only at c92
  rw [HSG.out.2, HE.out.1, show s7.cnt = s.cnt + 1 by rw [HS7.out]] at c92
  have HR9 : Hid (PRun base s w { s7 with σ := σ3 } (fun q => if q = b.q then o2 b.q ++ [((s.cnt + 1 : Nat) : Int)] else o2 q) w9) := hR9
  have HC9 : Hid ((d2, pn3) = (ent s2.σ.L n).getD (lst s2.σ n, 0) ∧ CRel s2.σ σ3 n (some (layB d fr data, pn3))) := ⟨hdp3, hC9⟩
  clear hR9 hD9 hC9 hdp3
  go_wp2
  go_ret2
  refine ⟨rfl, _, _, HR9.out, d, d2, pn, pn3, σ1, σ3, s2, o2, b, Y, Z, cq, .slice (some ⟨gd, 0, none⟩) m dc, av, ov, ah, tg0, tg, HC3.out.1, HG.out.2.2.2, HC3.out.2, ?_, ?_, rfl, HAH.out.1, HAH.out.2, HC9.out.2, HC9.out.1⟩
  · have := HOp.out
    rw [HS1.out, HC0.out] at this
    exact this
  · rw [HS7.out, HC0.out]
end
end Go.Proofs.YtaljaledeljllaaGreat
