/- Whom a change was told to wait for: held against what the store keeps; which changes may be written, as the document says it. -/
import Derived.Test.YtadadidccbhopaaGreatJPlog9
import Derived.Test.YtadadidccbhopaaGreatKProunds
namespace Go.Proofs.YtadadidccbhopaaGreat
open Go.RowKit
set_option maxRecDepth 100000
/-- A tells whom each change was told to wait for. -/
structure PA (s : PSt) (A : Nat → List Int) : Prop where
  lac : ∀ b ∈ s.B, ∀ j, opn s.C (b.la.getD j 0) = true → ∃ y ∈ s.C, (y.id : Int) = b.la.getD j 0 ∧ y.b = b.n ∧ cov y j
  ahc : ∀ c ∈ s.C, ∀ i ∈ c.ah, opn s.C i = true → i ∈ A c.id ∨ ∃ y ∈ s.C, (y.id : Int) = i ∧ y.b = c.b ∧ y.id < c.id ∧ ∃ j, cov y j ∧ cov c j
  afc : ∀ c ∈ s.C, ∀ i ∈ A c.id, opn s.C i = true → Rea s.C c i
  alt : ∀ c ∈ s.C, ∀ i ∈ A c.id, 1 ≤ i ∧ i < (c.id : Int)
section
variable {w w' : World} {base : Nat} {s s' : PSt} {ops ops' : Nat → List Int} {κ : Nat} {A : Nat → List Int}
theorem PA.made (hC : s.C = []) (hB : s.B = []) : PA s A := ⟨fun b hb => (by rw [hB] at hb; cases hb), fun c hc => (by rw [hC] at hc; cases hc), fun c hc => (by rw [hC] at hc; cases hc), fun c hc => (by rw [hC] at hc; cases hc)⟩
/-- The same changes, some more of them written, and the same blocks. -/
theorem PA.map (h : PA s A) {g : Ch → Ch} (hg : ∀ c, (g c).id = c.id ∧ (g c).b = c.b ∧ (g c).ah = c.ah ∧ (g c).fr = c.fr ∧ (g c).d = c.d) (hC : s'.C = s.C.map g) (hB : s'.B = s.B) : PA s' A := by
  have ho : ∀ i, opn s'.C i = opn s.C i := fun i => by
    rw [hC]
    unfold opn
    rw [List.any_map]
    congr 1
    funext c
    show decide (((g c).id : Int) = i) = _
    rw [(hg c).1]
  have hcv : ∀ c j, cov (g c) j ↔ cov c j := fun c j => by unfold cov; rw [(hg c).2.2.2.1, (hg c).2.2.2.2]
  refine ⟨fun b hb j hj => ?_, fun c hc i hi hio => ?_, fun c hc i hi hio => ?_, fun c hc i hi => by
    rw [hC] at hc
    obtain ⟨d, hd, rfl⟩ := List.mem_map.1 hc
    rw [(hg d).1] at hi ⊢
    exact h.alt d hd i hi⟩
  · rw [hB] at hb
    rw [ho] at hj
    obtain ⟨y, hy, h1, h2, h3⟩ := h.lac b hb j hj
    exact ⟨g y, by rw [hC]; exact List.mem_map.2 ⟨y, hy, rfl⟩, by rw [(hg y).1]; exact h1, by rw [(hg y).2.1]; exact h2, (hcv y j).2 h3⟩
  · rw [hC] at hc
    obtain ⟨d, hd, rfl⟩ := List.mem_map.1 hc
    rw [(hg d).2.2.1] at hi
    rw [ho] at hio
    rw [(hg d).1]
    rcases h.ahc d hd i hi hio with h1 | ⟨y, hy, h1, h2, h3, j, h4, h5⟩
    · exact .inl h1
    · exact .inr ⟨g y, by rw [hC]; exact List.mem_map.2 ⟨y, hy, rfl⟩, by rw [(hg y).1]; exact h1, by rw [(hg y).2.1, (hg d).2.1]; exact h2, by rw [(hg y).1]; exact h3, j, (hcv y j).2 h4, (hcv d j).2 h5⟩
  · rw [hC] at hc
    obtain ⟨d, hd, rfl⟩ := List.mem_map.1 hc
    rw [(hg d).1] at hi
    rw [ho] at hio
    rw [hC]
    exact (h.afc d hd i hi hio).map (fun c => ⟨(hg c).1, (hg c).2.2.1⟩)
/-- Fewer changes, and of the blocks what was. -/
theorem PA.less (h : PA s A) (hA : Asc s.C) (hw : ∀ c ∈ s.C, c.wr = true → ∀ i ∈ c.ah, opn s.C i = true → ∃ y ∈ s.C, (y.id : Int) = i ∧ y.b = c.b ∧ y.wr = true) (hr : ∀ x ∈ s.C, x ∈ s'.C ∨ (x.wr = true ∧ ∀ y ∈ s.C, y.wr = true → y.b = x.b → y ∉ s'.C)) (hs : s'.C.Sublist s.C) (hB : ∀ b' ∈ s'.B, ∃ b ∈ s.B, b.n = b'.n ∧ b.la = b'.la) : PA s' A := by
  have hsub := hs.subset
  have up : ∀ i, opn s'.C i = true → opn s.C i = true := fun i hi => by
    obtain ⟨c, hc, e⟩ := opn_iff.1 hi
    exact opn_iff.2 ⟨c, hsub hc, e⟩
  have dn : ∀ y ∈ s.C, opn s'.C (y.id : Int) = true → y ∈ s'.C := fun y hy ho => by
    obtain ⟨c, hc, e⟩ := opn_iff.1 ho
    have : c = y := hA.inj (hsub hc) hy (by omega)
    exact this ▸ hc
  refine ⟨fun b' hb' j hj => ?_, fun c hc i hi hio => ?_, fun c hc i hi hio => (h.afc c (hsub hc) i hi (up i hio)).less hA hw (fun x hx => hsub hx) hr hio, fun c hc i hi => h.alt c (hsub hc) i hi⟩
  · obtain ⟨b, hb, e1, e2⟩ := hB b' hb'
    obtain ⟨y, hy, h1, h2, h3⟩ := h.lac b hb j (by rw [e2]; exact up _ hj)
    rw [e2] at h1
    exact ⟨y, dn y hy (by rw [h1]; exact hj), h1, h2.trans e1, h3⟩
  · rcases h.ahc c (hsub hc) i hi (up i hio) with h1 | ⟨y, hy, h1, h2, h3, h4⟩
    · exact .inl h1
    · exact .inr ⟨y, dn y hy (by rw [h1]; exact hio), h1, h2, h3, h4⟩
/-- A change more. -/
theorem PA.patch (h : PA s A) (hL : PL s ops [] κ) {n fr : Nat} {data : List UInt8} {after : List Int} (hf : fr + data.length ≤ 256) (hkn : ∀ i ∈ after, 1 ≤ i ∧ i ≤ (s.cnt : Int)) (hR : PatchR s ops n fr data after s' ops') : PA s' (fun k => if k = s.cnt + 1 then after else A k) := by
  obtain ⟨d, d2, pn, pn3, σ1, σ3, s2, o2, b, Y, Z, q, dv, av, ov, ah, tg0, tg, hd, hdl, hC1, hO, hs', ho', hah, hal, hC3, hd2⟩ := hR
  have hop : ∀ i, s.fC i ≠ 0 ↔ opn s.C i = true := fun i => by
    have := lkC_opn hL.asc i
    rw [hL.fc]
    cases ho : opn s.C i
    · rw [ho] at this; simpa using this
    · rw [ho] at this; simpa using this
  obtain ⟨cN, hcN⟩ : ∃ cN : Ch, cN = { newCh (s.cnt + 1) n fr data q dv with av := av, ah := ah } := ⟨_, rfl⟩
  have e1 : cN.id = s.cnt + 1 ∧ cN.b = n ∧ cN.fr = fr ∧ cN.d = data ∧ cN.ah = ah := by rw [hcN]; exact ⟨rfl, rfl, rfl, rfl, rfl⟩
  have hCs : s'.C = s.C ++ [cN] := by rw [hs', hcN]
  have hBs : s'.B = Y ++ { b with ov := ov, la := laU b.la fr data.length ((s.cnt + 1 : Nat) : Int) } :: Z := by rw [hs']
  have hbn : b.n = n := hO.eqs.2.2.2.2.2.2.2.2.2.2.2.2.1
  -- the blocks ahead of the change
  have hbb : (∀ x ∈ Y ++ Z, x ∈ s.B) ∧ ((b ∈ s.B) ∨ b.la = List.replicate 256 0) := by
    cases hO with
    | old hB hn => exact ⟨fun x hx => by
        show x ∈ s.B
        have hB' : s.B = Y ++ b :: Z := hB
        rw [hB']
        rcases List.mem_append.1 hx with h | h
        · exact List.mem_append.2 (.inl h)
        · exact List.mem_append.2 (.inr (List.mem_cons_of_mem _ h)), .inl (by show b ∈ s.B; have hB' : s.B = Y ++ b :: Z := hB; rw [hB']; simp)⟩
    | new _ _ _ _ => exact ⟨fun x hx => by simpa using hx, .inr rfl⟩
  have hla : b.la.length = 256 := by
    rcases hbb.2 with h1 | h1
    · exact (hL.bal b h1).2
    · rw [h1]; simp
  have onew : ∀ i, opn s'.C i = true ↔ opn s.C i = true ∨ i = ((s.cnt + 1 : Nat) : Int) := fun i => by
    rw [hCs]
    simp only [opn_iff, List.mem_append, List.mem_singleton]
    constructor
    · rintro ⟨c, hc | rfl, e⟩
      · exact .inl ⟨c, hc, e⟩
      · exact .inr (by rw [← e, e1.1])
    · rintro (⟨c, hc, e⟩ | e)
      · exact ⟨c, .inl hc, e⟩
      · exact ⟨cN, .inr rfl, by rw [e1.1, e]⟩
  have old : ∀ i, i ≤ (s.cnt : Int) → opn s'.C i = true → opn s.C i = true := fun i hi ho => ((onew i).1 ho).resolve_right (by omega)
  have hin : ∀ c ∈ s.C, c ∈ s'.C := fun c hc => by rw [hCs]; exact List.mem_append.2 (.inl hc)
  have hcNm : cN ∈ s'.C := by rw [hCs]; simp
  -- the last changes of the block ahead
  have lacb : ∀ j, opn s.C (b.la.getD j 0) = true → ∃ y ∈ s.C, (y.id : Int) = b.la.getD j 0 ∧ y.b = n ∧ cov y j := fun j hj => by
    rcases hbb.2 with h1 | h1
    · obtain ⟨y, hy, k1, k2, k3⟩ := h.lac b h1 j hj
      exact ⟨y, hy, k1, k2.trans hbn, k3⟩
    · exfalso
      rw [h1, List.getD_eq_getElem?_getD] at hj
      obtain ⟨c, hc, e⟩ := opn_iff.1 hj
      have := (hL.idr c hc).1
      by_cases hj2 : j < 256
      · rw [List.getElem?_replicate, if_pos hj2] at e
        simp at e; omega
      · rw [List.getElem?_replicate, if_neg hj2] at e
        simp at e; omega
  have lab : ∀ j, b.la.getD j 0 ≤ (s.cnt : Int) := fun j => by
    rcases hbb.2 with h1 | h1
    · by_cases hj : j < b.la.length
      · have hm : b.la.getD j 0 ∈ b.la := by
          rw [List.getD_eq_getElem?_getD, List.getElem?_eq_getElem hj]; exact List.getElem_mem hj
        exact (hL.la b h1 _ hm).2
      · rw [List.getD_eq_getElem?_getD, List.getElem?_eq_none (by omega)]
        simp
    · rw [h1, List.getD_eq_getElem?_getD, List.getElem?_replicate]
      split <;> simp
  refine ⟨fun x hx j hj => ?_, fun c hc i hi hio => ?_, fun c hc i hi hio => ?_, fun c hc i hi => ?_⟩
  · rw [hBs] at hx
    by_cases hxb : x ∈ Y ++ Z
    · have hxB := hbb.1 x hxb
      have hle : x.la.getD j 0 ≤ (s.cnt : Int) := by
        by_cases hj2 : j < x.la.length
        · have hm : x.la.getD j 0 ∈ x.la := by
            rw [List.getD_eq_getElem?_getD, List.getElem?_eq_getElem hj2]; exact List.getElem_mem hj2
          exact (hL.la x hxB _ hm).2
        · rw [List.getD_eq_getElem?_getD, List.getElem?_eq_none (by omega)]
          simp
      obtain ⟨y, hy, k1, k2, k3⟩ := h.lac x hxB j (old _ hle hj)
      exact ⟨y, hin y hy, k1, k2, k3⟩
    · obtain rfl : x = { b with ov := ov, la := laU b.la fr data.length ((s.cnt + 1 : Nat) : Int) } := by
        rcases List.mem_append.1 hx with h1 | h1
        · exact absurd (List.mem_append.2 (.inl h1)) hxb
        · rcases List.mem_cons.1 h1 with h1 | h1
          · exact h1
          · exact absurd (List.mem_append.2 (.inr h1)) hxb
      have eg := laU_get (la := b.la) (fr := fr) (m := data.length) (by rw [hla]; exact hf) ((s.cnt + 1 : Nat) : Int) j
      change opn s'.C ((laU b.la fr data.length ((s.cnt + 1 : Nat) : Int)).getD j 0) = true at hj
      show ∃ y ∈ s'.C, (y.id : Int) = (laU b.la fr data.length ((s.cnt + 1 : Nat) : Int)).getD j 0 ∧ y.b = b.n ∧ cov y j
      rw [eg] at hj ⊢
      by_cases hj2 : fr ≤ j ∧ j < fr + data.length
      · rw [if_pos hj2]
        exact ⟨cN, hcNm, by rw [e1.1], by rw [e1.2.1, hbn], by unfold cov; rw [e1.2.2.1, e1.2.2.2.1]; exact hj2⟩
      · rw [if_neg hj2] at hj ⊢
        obtain ⟨y, hy, k1, k2, k3⟩ := lacb j (old _ (lab j) hj)
        exact ⟨y, hin y hy, k1, k2.trans hbn.symm, k3⟩
  · rw [hCs] at hc
    rcases List.mem_append.1 hc with hc | hc
    · have hid := (hL.idr c hc).2
      have hlt := (hL.ah c hc).1 i hi
      show i ∈ (if c.id = s.cnt + 1 then after else A c.id) ∨ _
      rw [if_neg (by omega)]
      rcases h.ahc c hc i hi (old i (by omega) hio) with h1 | ⟨y, hy, k1, k2, k3, k4⟩
      · exact .inl h1
      · exact .inr ⟨y, hin y hy, k1, k2, k3, k4⟩
    · obtain rfl := List.mem_singleton.1 hc
      rw [e1.2.2.2.2] at hi
      show i ∈ (if c.id = s.cnt + 1 then after else A c.id) ∨ _
      rw [if_pos e1.1]
      obtain ⟨h1, h2⟩ := hah.sub i hi
      rcases h1 with h1 | ⟨j, hj, rfl⟩
      · exact .inl h1
      · obtain ⟨y, hy, k1, k2, k3⟩ := lacb (fr + j) ((hop _).1 h2)
        exact .inr ⟨y, hin y hy, k1, by rw [e1.2.1]; exact k2, by rw [e1.1]; have := (hL.idr y hy).2; omega, fr + j, k3, by unfold cov; rw [e1.2.2.1, e1.2.2.2.1]; omega⟩
  · rw [hCs] at hc
    rcases List.mem_append.1 hc with hc | hc
    · have hid := (hL.idr c hc).2
      have hi' : i ∈ A c.id := by
        have : i ∈ (if c.id = s.cnt + 1 then after else A c.id) := hi
        rw [if_neg (by omega)] at this
        exact this
      exact (h.afc c hc i hi' (old i (by have := (h.alt c hc i hi').2; omega) hio)).mono hin
    · obtain rfl := List.mem_singleton.1 hc
      have hi' : i ∈ after := by
        have : i ∈ (if c.id = s.cnt + 1 then after else A c.id) := hi
        rw [if_pos e1.1] at this
        exact this
      exact (hah.all hL.ahl (fun x hx => (hL.idr x hx).2) e1.2.2.2.2 ⟨.inl hi', (hop i).2 (old i (hkn i hi').2 hio)⟩).mono hin
  · rw [hCs] at hc
    have hi2 : i ∈ (if c.id = s.cnt + 1 then after else A c.id) := hi
    rcases List.mem_append.1 hc with hc | hc
    · have hid := (hL.idr c hc).2
      rw [if_neg (by omega)] at hi2
      exact h.alt c hc i hi2
    · obtain rfl := List.mem_singleton.1 hc
      rw [if_pos e1.1] at hi2
      have := hkn i hi2
      rw [e1.1]
      omega
/-- Do two changes of a block meet? -/
def meetsC (a c : Ch) : Prop := a.b = c.b ∧ a.fr < c.fr + c.d.length ∧ c.fr < a.fr + a.d.length
theorem meetsC_iff {a c : Ch} (ha : 1 ≤ a.d.length) (hc : 1 ≤ c.d.length) : meetsC a c ↔ a.b = c.b ∧ ∃ j, cov a j ∧ cov c j := by
  unfold meetsC cov
  constructor
  · rintro ⟨h1, h2, h3⟩
    refine ⟨h1, ?_⟩
    by_cases h : a.fr ≤ c.fr
    · exact ⟨c.fr, by omega, by omega⟩
    · exact ⟨a.fr, by omega, by omega⟩
  · rintro ⟨h1, j, h2, h3⟩
    exact ⟨h1, by omega, by omega⟩
/-- One that may be written has all ahead that it meets so. -/
theorem may_meet (hL : PL s ops [] κ) {n : Nat} {c : Ch} (hc : c ∈ s.C) (hb : c.b = n) (hal : (c.id : Int) ∈ alw s.C n) {d : Ch} (hd : d ∈ s.C) (hlt : d.id < c.id) (hdb : d.b = c.b) (hj : ∃ j, cov d j ∧ cov c j) : (d.id : Int) ∈ alw s.C n := by
  obtain ⟨j, hj1, hj2⟩ := hj
  exact (hL.ahm c hc d hd hdb hlt j hj1 hj2).alw hL.asc hL.ahl (List.mem_filter.2 ⟨hc, by simp [hb]⟩) hal (opn_iff.2 ⟨d, hd, rfl⟩)
/-- Which changes may be written, as the document says it. -/
theorem may_iff (h : PA s A) (hL : PL s ops [] κ) {c : Ch} (hc : c ∈ s.C) : (c.id : Int) ∈ alw s.C c.b ↔ (∀ i ∈ A c.id, opn s.C i = true → ∃ d ∈ s.C, (d.id : Int) = i ∧ d.b = c.b ∧ (d.id : Int) ∈ alw s.C c.b) ∧ (∀ d ∈ s.C, d.id < c.id → meetsC d c → (d.id : Int) ∈ alw s.C c.b) := by
  have hah := fun c hc i hi => ((hL.ah c hc).1 i hi).2
  have hm := alw_mem hL.asc hah (c := c) (n := c.b) (List.mem_filter.2 ⟨hc, by simp⟩)
  constructor
  · intro hal
    refine ⟨fun i hi ho => ?_, fun d hd hlt hmt => ?_⟩
    · have h1 := (h.afc c hc i hi ho).alw hL.asc hL.ahl (List.mem_filter.2 ⟨hc, by simp⟩) hal ho
      have h2 : i ∈ cids (ofB s.C c.b) := (alw_sub s.C c.b).subset h1
      obtain ⟨d, hd, rfl⟩ := List.mem_map.1 h2
      obtain ⟨hd1, hd2⟩ := List.mem_filter.1 hd
      exact ⟨d, hd1, rfl, of_decide_eq_true hd2, h1⟩
    · obtain ⟨h1, h2⟩ := (meetsC_iff (hL.ft d hd).2 (hL.ft c hc).2).1 hmt
      exact may_meet hL hc rfl hal hd hlt h1 h2
  · rintro ⟨h1, h2⟩
    refine hm.2 fun i hi ho => ?_
    rcases h.ahc c hc i hi ho with h3 | ⟨y, hy, rfl, k2, k3, k4⟩
    · obtain ⟨d, _, e, _, hd⟩ := h1 i h3 ho
      rw [← e]; exact hd
    · exact h2 y hy k3 ((meetsC_iff (hL.ft y hy).2 (hL.ft c hc).2).2 ⟨k2, k4⟩)
end
end Go.Proofs.YtadadidccbhopaaGreat
/- A store of N blocks, with whom each change was told to wait for, and what lies on its disk: Patch, Write, Flush. -/
namespace Go.Proofs.YtadadidccbhopaaGreat
open Go.RowKit
set_option maxRecDepth 100000
/-- A store of N blocks in a walk. -/
structure GN (N : Nat) (w0 w : World) (p dp : Nat) (s : PSt) (ops : Nat → List Int) (κ : Nat) : Prop where
  pm : PM w w0.heap.size s ops
  pl : PL s ops [] κ
  be : Below w0.heap.size w0 w
  p : s.p = p
  dp : s.σ.dp = dp
  dn : s.σ.dn = N
section
variable {N : Nat} {w0 w w' : World} {p dp : Nat} {s s' : PSt} {ops ops' : Nat → List Int} {κ κ' : Nat} {A : Nat → List Int}
theorem GN.up (h : GN N w0 w p dp s ops κ) (hb : Below w.heap.size w w') : GN N w0 w' p dp s ops κ := { h with pm := h.pm.up hb, be := h.be.trans (hb.mono h.be.size) }
theorem GN.more (h : GN N w0 w p dp s ops κ) (hk : κ ≤ κ') : GN N w0 w p dp s ops κ' := { h with pl := h.pl.mono hk }
theorem GN.run (h : GN N w0 w p dp s ops κ) (hR : PRun w0.heap.size s w s' ops' w') (hL : PL s' ops' [] κ') (hp : s'.p = s.p) (hd : s'.σ.dp = s.σ.dp) (hn : s'.σ.dn = s.σ.dn) : GN N w0 w' p dp s' ops' κ' :=
  ⟨hR.pm, hL, h.be.trans hR.be, hp.trans h.p, hd.trans h.dp, hn.trans h.dn⟩
theorem GN.keep (h : GN N w0 w p dp s ops κ) {S : Nat → Prop} (hf : Fr S w w') (hS : ∀ k, Ak s k → ¬ S k) (hb : ∀ k, S k → w0.heap.size ≤ k) : GN N w0 w' p dp s ops κ :=
  { h with pm := h.pm.fr hf hS, be := h.be.trans (hf.below h.be.size hb) }
theorem GN.gw (h : GN 5 w0 w p dp s ops κ) : GW w0 w p dp s ops κ := ⟨h.pm, h.pl, h.be, h.p, h.dp, h.dn⟩
theorem GN.le8 (h : GN N w0 w p dp s ops κ) : N ≤ 8 := by have := h.pl.mdn; have := h.dn; omega
theorem gn_patch (h : GN N w0 w p dp s ops κ) (hA : PA s A) (hκ : κ ≤ 1000) (n fr : Nat) (hn : n < N) (data : List UInt8) (gd0 od0 dc0 : Nat) (hds : Src w (some ⟨gd0, od0, none⟩) data) (hd1 : 1 ≤ data.length) (hf : fr + data.length ≤ 256) (asp : Option Addr) (ac : Nat) (after : List Int) (has : SrcI w asp after) (haf : 1 ≤ after.length → ∀ b o, asp = some ⟨b, o, none⟩ → ¬ Ak s b ∧ b < w.heap.size) (hdf : ¬ Ak s gd0) (hal : after.length ≤ 1000) (hkn : ∀ i ∈ after, 1 ≤ i ∧ i ≤ (s.cnt : Int)) :
    Calls Tryz.prog 28 #[.pointer (some ⟨p, 0, none⟩), .int .i64 (n : Int), .int .i64 (fr : Int), .slice (some ⟨gd0, od0, none⟩) data.length dc0, .slice asp after.length ac] w fun r w' => r = .returned (.tuple #[.int .i64 ((s.cnt + 1 : Nat) : Int), .int .i64 0]) ∧ ∃ s' ops' c, GN N w0 w' p dp s' ops' (κ + 1) ∧ PA s' (fun k => if k = s.cnt + 1 then after else A k) ∧ PatchS s n fr data after s' c ∧ Fr (Ak s) w w' ∧ (∀ k, Ak s' k → Ak s k ∨ w.heap.size ≤ k) := by
  obtain rfl : s.p = p := h.p
  have hL := h.pl
  have hbd := hL.bd
  have hmd := hL.mdn
  have hdn := h.dn
  refine (patch_mem h.pm n fr (by omega) (by omega) data gd0 od0 dc0 hds hd1 hf asp ac after has haf hdf hal hkn (by omega) hL.len hmd.1 (hL.find n) (by omega) (by omega) (by omega) ?_ ?_ ?_ ?_).mono ?_
  · rw [hL.kc]
    intro hm
    obtain ⟨c, hc, e⟩ := List.mem_map.1 hm
    have := (hL.idr c hc).2
    omega
  · refine ⟨fun z hz => ⟨(hL.ah z hz).2, fun i hi => by have := (hL.ah z hz).1 i hi; have := hL.idr z hz; omega⟩, fun i hi => ?_⟩
    rw [hL.fc] at hi ⊢
    have ho : opn s.C i = true := by
      have h1 := lkC_opn hL.asc i
      cases ho : opn s.C i with
      | true => rfl
      | false => rw [ho] at h1; simp at h1; exact absurd h1 hi
    obtain ⟨z, hz, e⟩ := opn_iff.1 ho
    exact ⟨z, hz, e, by rw [← e]; exact lkC_at hL.asc hz⟩
  · intro b hb i hi
    have := hL.la b hb i hi
    omega
  · intro b hb
    rw [hL.op b hb]
    unfold cids
    rw [List.length_map]
    exact Nat.le_trans (List.length_filter_le _ _) (by have := hL.clen; omega)
  · rintro r w' ⟨rfl, s', ops', hR, hP⟩
    obtain ⟨c, hc⟩ := hP.short hL
    exact ⟨rfl, s', ops', c, h.run hR (hL.patch (by omega) hd1 hf hP hR.pm.bq) hc.p hc.dp hc.dn, hA.patch hL hf hkn hP, hc, hR.fr, hR.sub⟩
theorem gn_write (h : GN N w0 w p dp s ops κ) (hA : PA s A) (hκ : κ ≤ 1000) (n : Nat) (hn : n < N) (hc : ∃ c ∈ s.C, c.b = n) :
    Calls Tryz.prog 26 #[.pointer (some ⟨p, 0, none⟩), .int .i64 (n : Int)] w fun r w' => ∃ s', r = .returned (.int .i64 0) ∧ GN N w0 w' p dp s' ops (κ + 1) ∧ PA s' A ∧ s'.C = s.C.map (setW (alw s.C n)) ∧ s'.cnt = s.cnt ∧ s'.σ.sf = s.σ.sf ∧ s'.σ.ws = upd s.σ.ws n (s.σ.ws n ++ [lays (s.σ.sf n) (pickC (ofB s.C n) (alw s.C n))]) ∧ Fr (Ak s) w w' ∧ (∀ k, Ak s' k → Ak s k ∨ w.heap.size ≤ k) := by
  obtain rfl : s.p = p := h.p
  have hL := h.pl
  obtain ⟨c, hc, hcb⟩ := hc
  obtain ⟨b, hb, hbn⟩ := hL.cb c hc
  rw [hcb] at hbn
  have hbd := hL.bd
  have hmd := hL.mdn
  have hdn := h.dn
  obtain ⟨hop, hcs, hf, hofn, hfb⟩ := hL.alw_pre (by omega) hb hbn
  refine (write_mem h.pm n (by omega) (by omega) hb hfb hop (fun c hc => ?_) hL.asc hf (by have := hL.clen; omega) (by omega) hL.len hmd.1 hL.en.1 hL.en.2 (by have := hbd.2.2.2.2 n; omega)).mono ?_
  · have h1 := hL.idr c hc
    exact ⟨by rw [hL.fc]; exact lkC_at hL.asc hc, by omega, by have := (hL.ah c hc).2; omega, fun i hi => by have := (hL.ah c hc).1 i hi; omega, (hL.ft c hc).1, (hL.ft c hc).2⟩
  · rintro r w' ⟨rfl, s', hR, hW⟩
    have hP := hL.write hb hbn hW
    have hsf0 := hL.sfb b hb
    rw [hbn, if_neg (by simp)] at hsf0
    have hws' : s'.σ.ws = upd s.σ.ws n (s.σ.ws n ++ [lays (s.σ.sf n) (pickC (ofB s.C n) (alw s.C n))]) := by
      obtain ⟨σ1, vs', pn, d, tg, hdp, hC, rfl⟩ := hW
      rw [hsf0]
    have hsf' : s'.σ.sf = s.σ.sf := by
      obtain ⟨σ1, vs', pn, d, tg, hdp, hC, rfl⟩ := hW
      exact hC.sf
    obtain ⟨σ1, vs', pn, d, tg, hdp, hC, hs'⟩ := hW
    have hC' : s'.C = s.C.map (setW (alw s.C n)) := by rw [hs']; exact setW_fold _ _
    have hB' : s'.B = s.B := by rw [hs']
    refine ⟨s', rfl, h.run hR hP (by rw [hs']) (by rw [hs']; exact hC.dp) (by rw [hs']; exact hC.dn), ?_, hC', by rw [hs'], hsf', hws', hR.fr, hR.sub⟩
    exact hA.map (g := setW (alw s.C n)) (fun c => ⟨(setW_eqs (alw s.C n) c).1, (setW_eqs (alw s.C n) c).2.1, (setW_eqs (alw s.C n) c).2.2.2.2.1, (setW_eqs (alw s.C n) c).2.2.1, (setW_eqs (alw s.C n) c).2.2.2.1⟩) hC' hB'
theorem gn_flush (h : GN N w0 w p dp s ops κ) (hA : PA s A) (hκ : κ ≤ 1000) :
    Calls Tryz.prog 27 #[.pointer (some ⟨p, 0, none⟩)] w fun r w' => ∃ s' ops', r = .returned (.int .i64 0) ∧ GN N w0 w' p dp s' ops' (κ + 1) ∧ PA s' A ∧ s'.C = nwr s.C ∧ s'.cnt = s.cnt ∧ s'.σ.sf = lst s.σ ∧ s'.σ.ws = (fun _ => []) ∧ Fr (Ak s) w w' ∧ (∀ k, Ak s' k → Ak s k ∨ w.heap.size ≤ k) := by
  obtain rfl : s.p = p := h.p
  refine (pflush_any2 h.pm h.pl (by omega)).mono ?_
  rintro r w' ⟨rfl, s', ops', hR, hL, hC, hcnt, hp, hsf, hdn, _, hdp, hws, hB⟩
  refine ⟨s', ops', rfl, h.run hR hL hp hdp hdn, ?_, hC, hcnt, hsf, hws, hR.fr, hR.sub⟩
  refine hA.less h.pl.asc h.pl.wra (fun x hx => ?_) (by rw [hC]; exact List.filter_sublist) hB
  rw [hC]
  unfold nwr
  cases e : x.wr with
  | false => exact .inl (List.mem_filter.2 ⟨hx, by simp [e]⟩)
  | true => exact .inr ⟨rfl, fun y _ hyw _ hy => by have := (List.mem_filter.1 hy).2; simp [hyw] at this⟩
end
end Go.Proofs.YtadadidccbhopaaGreat
/- Package push: One, All. -/
namespace Go.Proofs.YtadadidccbhopaaGreat
open Go.RowKit
set_option maxRecDepth 100000
/-- The same changes, some more of them written. -/
def Sm (C C' : List Ch) : Prop := ∃ g : Ch → Ch, (∀ c, (g c).id = c.id ∧ (g c).b = c.b ∧ (g c).ah = c.ah ∧ (c.wr = true → (g c).wr = true)) ∧ C' = C.map g
theorem Sm.refl (C : List Ch) : Sm C C := ⟨fun c => c, fun _ => ⟨rfl, rfl, rfl, fun h => h⟩, by simp⟩
theorem Sm.setW (C : List Ch) (al : List Int) : Sm C (C.map (setW al)) := ⟨Go.Proofs.YtadadidccbhopaaGreat.setW al, fun c => ⟨(setW_id al c).1, (setW_id al c).2, by unfold Go.Proofs.YtadadidccbhopaaGreat.setW; split <;> rfl, setW_wr2⟩, rfl⟩
theorem Sm.step (C : List Ch) (x : Int) : Sm C (stepW C x).1 := by
  unfold stepW; split
  · exact Sm.refl C
  · exact Sm.setW C _
theorem Sm.opn {C C' : List Ch} (h : Sm C C') (i : Int) : opn C' i = opn C i := by
  obtain ⟨g, hg, rfl⟩ := h
  unfold Go.Proofs.YtadadidccbhopaaGreat.opn
  rw [List.any_map]
  congr 1
  funext c
  show decide (((g c).id : Int) = i) = _
  rw [(hg c).1]
theorem Sm.asc {C C' : List Ch} (h : Sm C C') (ha : Asc C) : Asc C' := by
  obtain ⟨g, hg, rfl⟩ := h
  unfold Asc at *
  rw [List.pairwise_map]
  exact ha.imp fun {a b} h => by rw [(hg a).1, (hg b).1]; exact h
theorem Sm.ah {C C' : List Ch} (h : Sm C C') (ha : ∀ c ∈ C, ∀ i ∈ c.ah, i < (c.id : Int)) : ∀ c ∈ C', ∀ i ∈ c.ah, i < (c.id : Int) := by
  obtain ⟨g, hg, rfl⟩ := h
  intro c hc i hi
  obtain ⟨d, hd, rfl⟩ := List.mem_map.1 hc
  rw [(hg d).2.2.1] at hi
  rw [(hg d).1]
  exact ha d hd i hi
/-- A change that waits for none is written, if its block's turn comes. -/
theorem fold_wr : ∀ (L : List Int) (C : List Ch) (c : Ch), Asc C → (∀ c ∈ C, ∀ i ∈ c.ah, i < (c.id : Int)) → c ∈ C → (∀ i ∈ c.ah, opn C i = false) → ((c.b : Int) ∈ L ∨ c.wr = true) → ∃ c' ∈ (foldW C L).1, c'.wr = true
  | [], C, c, _, _, hc, _, h => ⟨c, hc, h.resolve_left (by simp)⟩
  | x :: L, C, c, hA, hah, hc, hf, h => by
    have hs := Sm.step C x
    have key : ∃ d ∈ (stepW C x).1, d.b = c.b ∧ d.ah = c.ah ∧ ((d.b : Int) ∈ L ∨ d.wr = true) := by
      by_cases hx : (c.b : Int) = x
      · have hal : (c.id : Int) ∈ alw C c.b := (alw_mem hA hah (List.mem_filter.2 ⟨hc, by simp⟩)).2 fun i hi ho => by rw [hf i hi] at ho; cases ho
        unfold stepW
        rw [← hx, Int.toNat_natCast]
        by_cases hr : rdyN C c.b = 0
        · rw [if_pos hr]
          refine ⟨c, hc, rfl, rfl, .inr ?_⟩
          cases hw : c.wr with
          | true => rfl
          | false =>
            unfold rdyN at hr
            have hm : c ∈ nwr (pickC (ofB C c.b) (alw C c.b)) := List.mem_filter.2 ⟨List.mem_filter.2 ⟨List.mem_filter.2 ⟨hc, by simp⟩, by simpa using hal⟩, by simp [hw]⟩
            rw [List.eq_nil_of_length_eq_zero hr] at hm
            cases hm
        · rw [if_neg hr]
          refine ⟨setW (alw C c.b) c, List.mem_map.2 ⟨c, hc, rfl⟩, (setW_id _ c).2, by unfold setW; split <;> rfl, .inr ?_⟩
          unfold setW
          rw [if_pos hal]
      · obtain ⟨g, hg, e⟩ := hs
        refine ⟨g c, by rw [e]; exact List.mem_map.2 ⟨c, hc, rfl⟩, (hg c).2.1, (hg c).2.2.1, ?_⟩
        rcases h with h | h
        · rcases List.mem_cons.1 h with h | h
          · exact absurd h hx
          · exact .inl (by rw [(hg c).2.1]; exact h)
        · exact .inr ((hg c).2.2.2 h)
    obtain ⟨d, hd, e1, e2, h4⟩ := key
    simp only [foldW]
    exact fold_wr L _ d (hs.asc hA) (hs.ah hah) hd (fun i hi => by rw [hs.opn]; rw [e2] at hi; exact hf i hi) h4
theorem fold_less {C : List Ch} {L : List Int} (hA : Asc C) (hah : ∀ c ∈ C, ∀ i ∈ c.ah, i < (c.id : Int)) {c : Ch} (hc : c ∈ C) (hf : ∀ i ∈ c.ah, opn C i = false) (hL : (c.b : Int) ∈ L) : (nwr (foldW C L).1).length + 1 ≤ C.length := by
  obtain ⟨c', hc', hw⟩ := fold_wr L C c hA hah hc hf (.inl hL)
  have hl : (foldW C L).1.length = C.length := by
    have := congrArg List.length (foldW_same L C)
    simpa using this
  rw [← hl]
  unfold nwr
  have : ((foldW C L).1.filter fun c => !c.wr).length < (foldW C L).1.length := List.length_filter_lt_length_iff_exists.2 ⟨c', hc', by simp [hw]⟩
  omega
/-- What One goes on with. -/
def nxOne (id : Int) (C : List Ch) (L : List Int) : Prop := L.Pairwise (· < ·) ∧ ∀ x, x ∈ L ↔ ∃ c ∈ C, Rch C id c.id ∧ (c.b : Int) = x
/-- Among changes with a property there is a least one. -/
theorem least_ch (P : Ch → Prop) : ∀ (m : Nat) (C : List Ch), (∃ c ∈ C, P c ∧ c.id ≤ m) → ∃ c ∈ C, P c ∧ ∀ d ∈ C, P d → c.id ≤ d.id
  | 0, C, ⟨c, hc, hp, hm⟩ => ⟨c, hc, hp, fun d _ _ => by omega⟩
  | m + 1, C, h => by
    by_cases hx : ∃ c ∈ C, P c ∧ c.id ≤ m
    · exact least_ch P m C hx
    · obtain ⟨c, hc, hp, hm⟩ := h
      exact ⟨c, hc, hp, fun d hd hpd => by
        by_cases hdm : d.id ≤ m
        · exact absurd ⟨d, hd, hpd, hdm⟩ hx
        · omega⟩
theorem nxOne_goes (id : Int) : NextGoes (nxOne id) := fun C L hA hah hnx hL => by
  obtain ⟨x, hx⟩ : ∃ x, x ∈ L := by
    cases L with
    | nil => simp at hL
    | cons x r => exact ⟨x, by simp⟩
  obtain ⟨c0, hc0, hr0, _⟩ := (hnx.2 x).1 hx
  obtain ⟨c, hc, hr, hm⟩ := least_ch (fun c => Rch C id c.id) c0.id C ⟨c0, hc0, hr0, Nat.le_refl _⟩
  refine fold_less hA hah hc (fun i hi => ?_) ((hnx.2 _).2 ⟨c, hc, hr, rfl⟩)
  cases ho : opn C i with
  | false => rfl
  | true =>
    obtain ⟨d, hd, e⟩ := opn_iff.1 ho
    have h1 := hm d hd (by rw [e]; exact .ahead hc hr hi ho)
    have h2 := hah c hc i hi
    omega
section
variable {w0 w : World} {p dp : Nat} {s : PSt} {ops : Nat → List Int} {κ : Nat}
theorem asc_le5 {L : List Int} (hA : L.Pairwise (· < ·)) (h : ∀ x ∈ L, ∃ n : Nat, x = (n : Int) ∧ n < 5) : L.length ≤ 5 := by
  have := nodup_lt_len 5 (L.map Int.toNat) ?_ fun y hy => ?_
  · simpa using this
  · unfold List.Nodup
    rw [List.pairwise_map]
    refine hA.imp_of_mem fun {a b} ha hb hne e => ?_
    obtain ⟨n1, e1, _⟩ := h a ha
    obtain ⟨n2, e2, _⟩ := h b hb
    omega
  · obtain ⟨x, hx, rfl⟩ := List.mem_map.1 hy
    obtain ⟨n1, e1, h2⟩ := h x hx
    omega
theorem nxOne_ok (id : Int) (hid : -9223372036854775808 ≤ id ∧ id ≤ 9223372036854775807) : NextOk w0 p dp 102 #[.agg #[.pointer (some ⟨p, 0, none⟩), .int .i64 id]] (nxOne id) := fun w s ops κ h hκ => by
  refine (blocks_any h hκ id hid).mono ?_
  rintro r w' ⟨v, L, rfl, hO, hA, hm, hb⟩
  have h5 : ∀ x ∈ L, ∃ n : Nat, x = (n : Int) ∧ n < 5 ∧ ∃ c ∈ s.C, c.b = n := fun x hx => by
    obtain ⟨c, hc, _, e⟩ := (hm x).1 hx
    obtain ⟨b, hb, e2⟩ := h.pl.cb c hc
    have := h.pl.bdn b hb
    rw [h.dn] at this
    exact ⟨c.b, e.symm, by omega, c, hc, rfl⟩
  exact ⟨v, L, rfl, hO, ⟨hA, hm⟩, asc_le5 hA (fun x hx => by obtain ⟨n, e, h1, _⟩ := h5 x hx; exact ⟨n, e, h1⟩), h5, hb⟩
set_option maxHeartbeats 1000000 in
theorem one_any (h : GW w0 w p dp s ops κ) (K0 : Nat) (hK : κ + 7 * s.C.length ≤ K0) (hK0 : K0 ≤ 900) (id : Int) (hid : -9223372036854775808 ≤ id ∧ id ≤ 9223372036854775807) :
    Calls Tryz.prog 39 #[.pointer (some ⟨p, 0, none⟩), .int .i64 id] w fun e w' => ∃ (n : Nat) (s' : PSt) (ops' : Nat → List Int), e = .returned (.tuple #[.int .i64 (n : Int), .int .i64 0]) ∧ GW w0 w' p dp s' ops' K0 ∧ Rds (nxOne id) s.C s'.C n ∧ s'.cnt = s.cnt ∧ Fr (Ak s) w w' ∧ (∀ k, Ak s' k → Ak s k ∨ w.heap.size ≤ k) := by
  have RD := rounds_any h K0 hK hK0 102 #[.agg #[.pointer (some ⟨p, 0, none⟩), .int .i64 id]] (nxOne id) (nxOne_ok id hid) (nxOne_goes id) (enters_of Tryz.func102 (by kernel_rfl) rfl)
  clear h
  go_enter Tryz.func39, Tryz.ntmps39
  go_wp2_with (first | (go_at_call 101; refine Hid.out ?_))
  change Calls _ _ _ _ _
  refine RD.mono ?_
  clear RD
  rintro r w1 ⟨n, s', ops', rfl, h1⟩
  have H1 : Hid _ := h1
  clear h1
  go_wp2_with fail
  go_ret2
  exact ⟨n, s', ops', rfl, H1.out⟩
end
/-- The changes of known. -/
structure K3 (c1 c2 c3 : Ch) : Prop where
  i1 : c1.id = 1
  i2 : c2.id = 2
  i3 : c3.id = 3
  b1 : c1.b = 3
  b2 : c2.b = 4
  b3 : c3.b = 3
  w1 : c1.wr = false
  w2 : c2.wr = false
  w3 : c3.wr = false
  a1 : c1.ah = []
  a2 : ∀ i ∈ c2.ah, i = 1
  a2' : (1 : Int) ∈ c2.ah
  a3 : ∀ i ∈ c3.ah, i = 1 ∨ i = 2
  a3' : (2 : Int) ∈ c3.ah
/-- Rows that rise and have the same numbers are one. -/
theorem asc_ext : ∀ {A B : List Int}, A.Pairwise (· < ·) → B.Pairwise (· < ·) → (∀ x, x ∈ A ↔ x ∈ B) → A = B
  | [], [], _, _, _ => rfl
  | [], y :: B, _, _, h => absurd ((h y).2 (by simp)) (by simp)
  | x :: A, [], _, _, h => absurd ((h x).1 (by simp)) (by simp)
  | x :: A, y :: B, hA, hB, h => by
    obtain ⟨a1, a2⟩ := List.pairwise_cons.1 hA
    obtain ⟨b1, b2⟩ := List.pairwise_cons.1 hB
    have hxy : x = y := by
      have h1 := (h x).1 (by simp)
      have h2 := (h y).2 (by simp)
      rcases List.mem_cons.1 h1 with e | h1
      · exact e
      · rcases List.mem_cons.1 h2 with e | h2
        · exact e.symm
        · have := b1 x h1
          have := a1 y h2
          omega
    subst hxy
    congr 1
    refine asc_ext a2 b2 fun z => ?_
    constructor
    · intro hz
      rcases List.mem_cons.1 ((h z).1 (List.mem_cons_of_mem _ hz)) with e | hz'
      · have := a1 z hz; omega
      · exact hz'
    · intro hz
      rcases List.mem_cons.1 ((h z).2 (List.mem_cons_of_mem _ hz)) with e | hz'
      · have := b1 z hz; omega
      · exact hz'
end Go.Proofs.YtadadidccbhopaaGreat
