/- Whom a change was told to wait for: held against what the store keeps; which changes may be written, as the document says it. -/
import Derived.Test.YthaogbbclocmaaaGreatJPlog9
import Derived.Test.YthaogbbclocmaaaGreatJPmeet4
import Derived.Test.YthaogbbclocmaaaGreatProg
import Derived.Shelf.SlGeneric
import Derived.Shelf.SlIterI.Nil
import Derived.Shelf.SortM.Plain
import Derived.Shelf.SortM.SortNone
import Derived.Shelf.SlicesE.Clone
import Derived.Shelf.SlicesE.Compact
import Derived.Shelf.SlicesE.IndexFunc
import Derived.Shelf.SlicesG.SearchI
import Derived.Ground.GgzProg
import Derived.Ground.SlgmProg
import Derived.Ground.SlgnProg
import Derived.Ground.SlgfProg
import Derived.WalkMore
import Derived.Deep.CutBlock
import Derived.Deep.DeepCutAuto
import Derived.Lib.ConvBytes
import Derived.Deep.RegionLaw
namespace Go.Proofs.YthaogbbclocmaaaGreat
open Go.RowKit
set_option maxRecDepth 100000
/-- A tells whom each change was told to wait for. -/
structure PA (s : PSt) (A : Nat → List Int) : Prop where
  lac : ∀ b ∈ s.B, ∀ j, opn s.C (b.la.getD j 0) = true → ∃ y ∈ s.C, (y.id : Int) = b.la.getD j 0 ∧ y.b = b.n ∧ cov y j
  ahc : ∀ c ∈ s.C, ∀ i ∈ c.ah, opn s.C i = true → i ∈ A c.id ∨ ∃ y ∈ s.C, (y.id : Int) = i ∧ y.b = c.b ∧ y.id < c.id ∧ ∃ j, cov y j ∧ cov c j
  afc : ∀ c ∈ s.C, ∀ i ∈ A c.id, opn s.C i = true → Rea s.C c i
  alt : ∀ c ∈ s.C, ∀ i ∈ A c.id, 1 ≤ i ∧ i < (c.id : Int)
section
variable {w w' : World} {base : Nat} {s s' : PSt} {ops ops' : Nat → List Int} {κ : Nat} {A : Nat → List Int}
theorem PA.made (hC : s.C = []) (hB : s.B = []) : PA s A := ⟨fun b hb => (by rw [hB] at hb; cases hb), fun c hc => (by rw [hC] at hc; cases hc), fun c hc => (by rw [hC] at hc; cases hc), fun c hc => (by rw [hC] at hc; cases hc)⟩
/-- The same changes, some more of them written, and the same blocks. -/
theorem PA.map (h : PA s A) {g : Ch → Ch} (hg : ∀ c, (g c).id = c.id ∧ (g c).b = c.b ∧ (g c).ah = c.ah ∧ (g c).fr = c.fr ∧ (g c).d = c.d) (hC : s'.C = s.C.map g) (hB : s'.B = s.B) : PA s' A := by
  have ho : ∀ i, opn s'.C i = opn s.C i := fun i => by
    rw [hC]
    unfold opn
    rw [List.any_map]
    congr 1
    funext c
    show decide (((g c).id : Int) = i) = _
    rw [(hg c).1]
  have hcv : ∀ c j, cov (g c) j ↔ cov c j := fun c j => by unfold cov; rw [(hg c).2.2.2.1, (hg c).2.2.2.2]
  refine ⟨fun b hb j hj => ?_, fun c hc i hi hio => ?_, fun c hc i hi hio => ?_, fun c hc i hi => by
    rw [hC] at hc
    obtain ⟨d, hd, rfl⟩ := List.mem_map.1 hc
    rw [(hg d).1] at hi ⊢
    exact h.alt d hd i hi⟩
  · rw [hB] at hb
    rw [ho] at hj
    obtain ⟨y, hy, h1, h2, h3⟩ := h.lac b hb j hj
    exact ⟨g y, by rw [hC]; exact List.mem_map.2 ⟨y, hy, rfl⟩, by rw [(hg y).1]; exact h1, by rw [(hg y).2.1]; exact h2, (hcv y j).2 h3⟩
  · rw [hC] at hc
    obtain ⟨d, hd, rfl⟩ := List.mem_map.1 hc
    rw [(hg d).2.2.1] at hi
    rw [ho] at hio
    rw [(hg d).1]
    rcases h.ahc d hd i hi hio with h1 | ⟨y, hy, h1, h2, h3, j, h4, h5⟩
    · exact .inl h1
    · exact .inr ⟨g y, by rw [hC]; exact List.mem_map.2 ⟨y, hy, rfl⟩, by rw [(hg y).1]; exact h1, by rw [(hg y).2.1, (hg d).2.1]; exact h2, by rw [(hg y).1]; exact h3, j, (hcv y j).2 h4, (hcv d j).2 h5⟩
  · rw [hC] at hc
    obtain ⟨d, hd, rfl⟩ := List.mem_map.1 hc
    rw [(hg d).1] at hi
    rw [ho] at hio
    rw [hC]
    exact (h.afc d hd i hi hio).map (fun c => ⟨(hg c).1, (hg c).2.2.1⟩)
/-- Fewer changes, and of the blocks what was. -/
theorem PA.less (h : PA s A) (hA : Asc s.C) (hw : ∀ c ∈ s.C, c.wr = true → ∀ i ∈ c.ah, opn s.C i = true → ∃ y ∈ s.C, (y.id : Int) = i ∧ y.b = c.b ∧ y.wr = true) (hr : ∀ x ∈ s.C, x ∈ s'.C ∨ (x.wr = true ∧ ∀ y ∈ s.C, y.wr = true → y.b = x.b → y ∉ s'.C)) (hs : s'.C.Sublist s.C) (hB : ∀ b' ∈ s'.B, ∃ b ∈ s.B, b.n = b'.n ∧ b.la = b'.la) : PA s' A := by
  have hsub := hs.subset
  have up : ∀ i, opn s'.C i = true → opn s.C i = true := fun i hi => by
    obtain ⟨c, hc, e⟩ := opn_iff.1 hi
    exact opn_iff.2 ⟨c, hsub hc, e⟩
  have dn : ∀ y ∈ s.C, opn s'.C (y.id : Int) = true → y ∈ s'.C := fun y hy ho => by
    obtain ⟨c, hc, e⟩ := opn_iff.1 ho
    have : c = y := hA.inj (hsub hc) hy (by omega)
    exact this ▸ hc
  refine ⟨fun b' hb' j hj => ?_, fun c hc i hi hio => ?_, fun c hc i hi hio => (h.afc c (hsub hc) i hi (up i hio)).less hA hw (fun x hx => hsub hx) hr hio, fun c hc i hi => h.alt c (hsub hc) i hi⟩
  · obtain ⟨b, hb, e1, e2⟩ := hB b' hb'
    obtain ⟨y, hy, h1, h2, h3⟩ := h.lac b hb j (by rw [e2]; exact up _ hj)
    rw [e2] at h1
    exact ⟨y, dn y hy (by rw [h1]; exact hj), h1, h2.trans e1, h3⟩
  · rcases h.ahc c (hsub hc) i hi (up i hio) with h1 | ⟨y, hy, h1, h2, h3, h4⟩
    · exact .inl h1
    · exact .inr ⟨y, dn y hy (by rw [h1]; exact hio), h1, h2, h3, h4⟩
/-- A change more. -/
theorem PA.patch (h : PA s A) (hL : PL s ops [] κ) {n fr : Nat} {data : List UInt8} {after : List Int} (hf : fr + data.length ≤ 256) (hkn : ∀ i ∈ after, 1 ≤ i ∧ i ≤ (s.cnt : Int)) (hR : PatchR s ops n fr data after s' ops') : PA s' (fun k => if k = s.cnt + 1 then after else A k) := by
  obtain ⟨d, d2, pn, pn3, σ1, σ3, s2, o2, b, Y, Z, q, dv, av, ov, ah, tg0, tg, hd, hdl, hC1, hO, hs', ho', hah, hal, hC3, hd2⟩ := hR
  have hop : ∀ i, s.fC i ≠ 0 ↔ opn s.C i = true := fun i => by
    have := lkC_opn hL.asc i
    rw [hL.fc]
    cases ho : opn s.C i
    · rw [ho] at this; simpa using this
    · rw [ho] at this; simpa using this
  obtain ⟨cN, hcN⟩ : ∃ cN : Ch, cN = { newCh (s.cnt + 1) n fr data q dv with av := av, ah := ah } := ⟨_, rfl⟩
  have e1 : cN.id = s.cnt + 1 ∧ cN.b = n ∧ cN.fr = fr ∧ cN.d = data ∧ cN.ah = ah := by rw [hcN]; exact ⟨rfl, rfl, rfl, rfl, rfl⟩
  have hCs : s'.C = s.C ++ [cN] := by rw [hs', hcN]
  have hBs : s'.B = Y ++ { b with ov := ov, la := laU b.la fr data.length ((s.cnt + 1 : Nat) : Int) } :: Z := by rw [hs']
  have hbn : b.n = n := hO.eqs.2.2.2.2.2.2.2.2.2.2.2.2.1
  -- the blocks ahead of the change
  have hbb : (∀ x ∈ Y ++ Z, x ∈ s.B) ∧ ((b ∈ s.B) ∨ b.la = List.replicate 256 0) := by
    cases hO with
    | old hB hn => exact ⟨fun x hx => by
        show x ∈ s.B
        have hB' : s.B = Y ++ b :: Z := hB
        rw [hB']
        rcases List.mem_append.1 hx with h | h
        · exact List.mem_append.2 (.inl h)
        · exact List.mem_append.2 (.inr (List.mem_cons_of_mem _ h)), .inl (by show b ∈ s.B; have hB' : s.B = Y ++ b :: Z := hB; rw [hB']; simp)⟩
    | new _ _ _ _ => exact ⟨fun x hx => by simpa using hx, .inr rfl⟩
  have hla : b.la.length = 256 := by
    rcases hbb.2 with h1 | h1
    · exact (hL.bal b h1).2
    · rw [h1]; simp
  have onew : ∀ i, opn s'.C i = true ↔ opn s.C i = true ∨ i = ((s.cnt + 1 : Nat) : Int) := fun i => by
    rw [hCs]
    simp only [opn_iff, List.mem_append, List.mem_singleton]
    constructor
    · rintro ⟨c, hc | rfl, e⟩
      · exact .inl ⟨c, hc, e⟩
      · exact .inr (by rw [← e, e1.1])
    · rintro (⟨c, hc, e⟩ | e)
      · exact ⟨c, .inl hc, e⟩
      · exact ⟨cN, .inr rfl, by rw [e1.1, e]⟩
  have old : ∀ i, i ≤ (s.cnt : Int) → opn s'.C i = true → opn s.C i = true := fun i hi ho => ((onew i).1 ho).resolve_right (by omega)
  have hin : ∀ c ∈ s.C, c ∈ s'.C := fun c hc => by rw [hCs]; exact List.mem_append.2 (.inl hc)
  have hcNm : cN ∈ s'.C := by rw [hCs]; simp
  -- the last changes of the block ahead
  have lacb : ∀ j, opn s.C (b.la.getD j 0) = true → ∃ y ∈ s.C, (y.id : Int) = b.la.getD j 0 ∧ y.b = n ∧ cov y j := fun j hj => by
    rcases hbb.2 with h1 | h1
    · obtain ⟨y, hy, k1, k2, k3⟩ := h.lac b h1 j hj
      exact ⟨y, hy, k1, k2.trans hbn, k3⟩
    · exfalso
      rw [h1, List.getD_eq_getElem?_getD] at hj
      obtain ⟨c, hc, e⟩ := opn_iff.1 hj
      have := (hL.idr c hc).1
      by_cases hj2 : j < 256
      · rw [List.getElem?_replicate, if_pos hj2] at e
        simp at e; omega
      · rw [List.getElem?_replicate, if_neg hj2] at e
        simp at e; omega
  have lab : ∀ j, b.la.getD j 0 ≤ (s.cnt : Int) := fun j => by
    rcases hbb.2 with h1 | h1
    · by_cases hj : j < b.la.length
      · have hm : b.la.getD j 0 ∈ b.la := by
          rw [List.getD_eq_getElem?_getD, List.getElem?_eq_getElem hj]; exact List.getElem_mem hj
        exact (hL.la b h1 _ hm).2
      · rw [List.getD_eq_getElem?_getD, List.getElem?_eq_none (by omega)]
        simp
    · rw [h1, List.getD_eq_getElem?_getD, List.getElem?_replicate]
      split <;> simp
  refine ⟨fun x hx j hj => ?_, fun c hc i hi hio => ?_, fun c hc i hi hio => ?_, fun c hc i hi => ?_⟩
  · rw [hBs] at hx
    by_cases hxb : x ∈ Y ++ Z
    · have hxB := hbb.1 x hxb
      have hle : x.la.getD j 0 ≤ (s.cnt : Int) := by
        by_cases hj2 : j < x.la.length
        · have hm : x.la.getD j 0 ∈ x.la := by
            rw [List.getD_eq_getElem?_getD, List.getElem?_eq_getElem hj2]; exact List.getElem_mem hj2
          exact (hL.la x hxB _ hm).2
        · rw [List.getD_eq_getElem?_getD, List.getElem?_eq_none (by omega)]
          simp
      obtain ⟨y, hy, k1, k2, k3⟩ := h.lac x hxB j (old _ hle hj)
      exact ⟨y, hin y hy, k1, k2, k3⟩
    · obtain rfl : x = { b with ov := ov, la := laU b.la fr data.length ((s.cnt + 1 : Nat) : Int) } := by
        rcases List.mem_append.1 hx with h1 | h1
        · exact absurd (List.mem_append.2 (.inl h1)) hxb
        · rcases List.mem_cons.1 h1 with h1 | h1
          · exact h1
          · exact absurd (List.mem_append.2 (.inr h1)) hxb
      have eg := laU_get (la := b.la) (fr := fr) (m := data.length) (by rw [hla]; exact hf) ((s.cnt + 1 : Nat) : Int) j
      change opn s'.C ((laU b.la fr data.length ((s.cnt + 1 : Nat) : Int)).getD j 0) = true at hj
      show ∃ y ∈ s'.C, (y.id : Int) = (laU b.la fr data.length ((s.cnt + 1 : Nat) : Int)).getD j 0 ∧ y.b = b.n ∧ cov y j
      rw [eg] at hj ⊢
      by_cases hj2 : fr ≤ j ∧ j < fr + data.length
      · rw [if_pos hj2]
        exact ⟨cN, hcNm, by rw [e1.1], by rw [e1.2.1, hbn], by unfold cov; rw [e1.2.2.1, e1.2.2.2.1]; exact hj2⟩
      · rw [if_neg hj2] at hj ⊢
        obtain ⟨y, hy, k1, k2, k3⟩ := lacb j (old _ (lab j) hj)
        exact ⟨y, hin y hy, k1, k2.trans hbn.symm, k3⟩
  · rw [hCs] at hc
    rcases List.mem_append.1 hc with hc | hc
    · have hid := (hL.idr c hc).2
      have hlt := (hL.ah c hc).1 i hi
      show i ∈ (if c.id = s.cnt + 1 then after else A c.id) ∨ _
      rw [if_neg (by omega)]
      rcases h.ahc c hc i hi (old i (by omega) hio) with h1 | ⟨y, hy, k1, k2, k3, k4⟩
      · exact .inl h1
      · exact .inr ⟨y, hin y hy, k1, k2, k3, k4⟩
    · obtain rfl := List.mem_singleton.1 hc
      rw [e1.2.2.2.2] at hi
      show i ∈ (if c.id = s.cnt + 1 then after else A c.id) ∨ _
      rw [if_pos e1.1]
      obtain ⟨h1, h2⟩ := hah.sub i hi
      rcases h1 with h1 | ⟨j, hj, rfl⟩
      · exact .inl h1
      · obtain ⟨y, hy, k1, k2, k3⟩ := lacb (fr + j) ((hop _).1 h2)
        exact .inr ⟨y, hin y hy, k1, by rw [e1.2.1]; exact k2, by rw [e1.1]; have := (hL.idr y hy).2; omega, fr + j, k3, by unfold cov; rw [e1.2.2.1, e1.2.2.2.1]; omega⟩
  · rw [hCs] at hc
    rcases List.mem_append.1 hc with hc | hc
    · have hid := (hL.idr c hc).2
      have hi' : i ∈ A c.id := by
        have : i ∈ (if c.id = s.cnt + 1 then after else A c.id) := hi
        rw [if_neg (by omega)] at this
        exact this
      exact (h.afc c hc i hi' (old i (by have := (h.alt c hc i hi').2; omega) hio)).mono hin
    · obtain rfl := List.mem_singleton.1 hc
      have hi' : i ∈ after := by
        have : i ∈ (if c.id = s.cnt + 1 then after else A c.id) := hi
        rw [if_pos e1.1] at this
        exact this
      exact (hah.all hL.ahl (fun x hx => (hL.idr x hx).2) e1.2.2.2.2 ⟨.inl hi', (hop i).2 (old i (hkn i hi').2 hio)⟩).mono hin
  · rw [hCs] at hc
    have hi2 : i ∈ (if c.id = s.cnt + 1 then after else A c.id) := hi
    rcases List.mem_append.1 hc with hc | hc
    · have hid := (hL.idr c hc).2
      rw [if_neg (by omega)] at hi2
      exact h.alt c hc i hi2
    · obtain rfl := List.mem_singleton.1 hc
      rw [if_pos e1.1] at hi2
      have := hkn i hi2
      rw [e1.1]
      omega
/-- Do two changes of a block meet? -/
def meetsC (a c : Ch) : Prop := a.b = c.b ∧ a.fr < c.fr + c.d.length ∧ c.fr < a.fr + a.d.length
theorem meetsC_iff {a c : Ch} (ha : 1 ≤ a.d.length) (hc : 1 ≤ c.d.length) : meetsC a c ↔ a.b = c.b ∧ ∃ j, cov a j ∧ cov c j := by
  unfold meetsC cov
  constructor
  · rintro ⟨h1, h2, h3⟩
    refine ⟨h1, ?_⟩
    by_cases h : a.fr ≤ c.fr
    · exact ⟨c.fr, by omega, by omega⟩
    · exact ⟨a.fr, by omega, by omega⟩
  · rintro ⟨h1, j, h2, h3⟩
    exact ⟨h1, by omega, by omega⟩
/-- One that may be written has all ahead that it meets so. -/
theorem may_meet (hL : PL s ops [] κ) {n : Nat} {c : Ch} (hc : c ∈ s.C) (hb : c.b = n) (hal : (c.id : Int) ∈ alw s.C n) {d : Ch} (hd : d ∈ s.C) (hlt : d.id < c.id) (hdb : d.b = c.b) (hj : ∃ j, cov d j ∧ cov c j) : (d.id : Int) ∈ alw s.C n := by
  obtain ⟨j, hj1, hj2⟩ := hj
  exact (hL.ahm c hc d hd hdb hlt j hj1 hj2).alw hL.asc hL.ahl (List.mem_filter.2 ⟨hc, by simp [hb]⟩) hal (opn_iff.2 ⟨d, hd, rfl⟩)
/-- Which changes may be written, as the document says it. -/
theorem may_iff (h : PA s A) (hL : PL s ops [] κ) {c : Ch} (hc : c ∈ s.C) : (c.id : Int) ∈ alw s.C c.b ↔ (∀ i ∈ A c.id, opn s.C i = true → ∃ d ∈ s.C, (d.id : Int) = i ∧ d.b = c.b ∧ (d.id : Int) ∈ alw s.C c.b) ∧ (∀ d ∈ s.C, d.id < c.id → meetsC d c → (d.id : Int) ∈ alw s.C c.b) := by
  have hah := fun c hc i hi => ((hL.ah c hc).1 i hi).2
  have hm := alw_mem hL.asc hah (c := c) (n := c.b) (List.mem_filter.2 ⟨hc, by simp⟩)
  constructor
  · intro hal
    refine ⟨fun i hi ho => ?_, fun d hd hlt hmt => ?_⟩
    · have h1 := (h.afc c hc i hi ho).alw hL.asc hL.ahl (List.mem_filter.2 ⟨hc, by simp⟩) hal ho
      have h2 : i ∈ cids (ofB s.C c.b) := (alw_sub s.C c.b).subset h1
      obtain ⟨d, hd, rfl⟩ := List.mem_map.1 h2
      obtain ⟨hd1, hd2⟩ := List.mem_filter.1 hd
      exact ⟨d, hd1, rfl, of_decide_eq_true hd2, h1⟩
    · obtain ⟨h1, h2⟩ := (meetsC_iff (hL.ft d hd).2 (hL.ft c hc).2).1 hmt
      exact may_meet hL hc rfl hal hd hlt h1 h2
  · rintro ⟨h1, h2⟩
    refine hm.2 fun i hi ho => ?_
    rcases h.ahc c hc i hi ho with h3 | ⟨y, hy, rfl, k2, k3, k4⟩
    · obtain ⟨d, _, e, _, hd⟩ := h1 i h3 ho
      rw [← e]; exact hd
    · exact h2 y hy k3 ((meetsC_iff (hL.ft y hy).2 (hL.ft c hc).2).2 ⟨k2, k4⟩)
end
end Go.Proofs.YthaogbbclocmaaaGreat
/- A store of N blocks, with whom each change was told to wait for, and what lies on its disk: Patch, Write, Flush. -/
namespace Go.Proofs.YthaogbbclocmaaaGreat
open Go.RowKit
set_option maxRecDepth 100000
/-- A store of N blocks in a walk. -/
structure GN (N : Nat) (w0 w : World) (p dp : Nat) (s : PSt) (ops : Nat → List Int) (κ : Nat) : Prop where
  pm : PM w w0.heap.size s ops
  pl : PL s ops [] κ
  be : Below w0.heap.size w0 w
  p : s.p = p
  dp : s.σ.dp = dp
  dn : s.σ.dn = N
section
variable {N : Nat} {w0 w w' : World} {p dp : Nat} {s s' : PSt} {ops ops' : Nat → List Int} {κ κ' : Nat} {A : Nat → List Int}
theorem GN.up (h : GN N w0 w p dp s ops κ) (hb : Below w.heap.size w w') : GN N w0 w' p dp s ops κ := { h with pm := h.pm.up hb, be := h.be.trans (hb.mono h.be.size) }
theorem GN.more (h : GN N w0 w p dp s ops κ) (hk : κ ≤ κ') : GN N w0 w p dp s ops κ' := { h with pl := h.pl.mono hk }
theorem GN.run (h : GN N w0 w p dp s ops κ) (hR : PRun w0.heap.size s w s' ops' w') (hL : PL s' ops' [] κ') (hp : s'.p = s.p) (hd : s'.σ.dp = s.σ.dp) (hn : s'.σ.dn = s.σ.dn) : GN N w0 w' p dp s' ops' κ' :=
  ⟨hR.pm, hL, h.be.trans hR.be, hp.trans h.p, hd.trans h.dp, hn.trans h.dn⟩
theorem GN.keep (h : GN N w0 w p dp s ops κ) {S : Nat → Prop} (hf : Fr S w w') (hS : ∀ k, Ak s k → ¬ S k) (hb : ∀ k, S k → w0.heap.size ≤ k) : GN N w0 w' p dp s ops κ :=
  { h with pm := h.pm.fr hf hS, be := h.be.trans (hf.below h.be.size hb) }
theorem GN.le8 (h : GN N w0 w p dp s ops κ) : N ≤ 8 := by have := h.pl.mdn; have := h.dn; omega
theorem gn_patch (h : GN N w0 w p dp s ops κ) (hA : PA s A) (hκ : κ ≤ 1000) (n fr : Nat) (hn : n < N) (data : List UInt8) (gd0 od0 dc0 : Nat) (hds : Src w (some ⟨gd0, od0, none⟩) data) (hd1 : 1 ≤ data.length) (hf : fr + data.length ≤ 256) (asp : Option Addr) (ac : Nat) (after : List Int) (has : SrcI w asp after) (haf : 1 ≤ after.length → ∀ b o, asp = some ⟨b, o, none⟩ → ¬ Ak s b ∧ b < w.heap.size) (hdf : ¬ Ak s gd0) (hal : after.length ≤ 1000) (hkn : ∀ i ∈ after, 1 ≤ i ∧ i ≤ (s.cnt : Int)) :
    Calls Tryz.prog 28 #[.pointer (some ⟨p, 0, none⟩), .int .i64 (n : Int), .int .i64 (fr : Int), .slice (some ⟨gd0, od0, none⟩) data.length dc0, .slice asp after.length ac] w fun r w' => r = .returned (.tuple #[.int .i64 ((s.cnt + 1 : Nat) : Int), .int .i64 0]) ∧ ∃ s' ops' c, GN N w0 w' p dp s' ops' (κ + 1) ∧ PA s' (fun k => if k = s.cnt + 1 then after else A k) ∧ PatchS s n fr data after s' c ∧ Fr (Ak s) w w' ∧ (∀ k, Ak s' k → Ak s k ∨ w.heap.size ≤ k) := by
  obtain rfl : s.p = p := h.p
  have hL := h.pl
  have hbd := hL.bd
  have hmd := hL.mdn
  have hdn := h.dn
  refine (patch_mem h.pm n fr (by omega) (by omega) data gd0 od0 dc0 hds hd1 hf asp ac after has haf hdf hal hkn (by omega) hL.len hmd.1 (hL.find n) (by omega) (by omega) (by omega) ?_ ?_ ?_ ?_).mono ?_
  · rw [hL.kc]
    intro hm
    obtain ⟨c, hc, e⟩ := List.mem_map.1 hm
    have := (hL.idr c hc).2
    omega
  · refine ⟨fun z hz => ⟨(hL.ah z hz).2, fun i hi => by have := (hL.ah z hz).1 i hi; have := hL.idr z hz; omega⟩, fun i hi => ?_⟩
    rw [hL.fc] at hi ⊢
    have ho : opn s.C i = true := by
      have h1 := lkC_opn hL.asc i
      cases ho : opn s.C i with
      | true => rfl
      | false => rw [ho] at h1; simp at h1; exact absurd h1 hi
    obtain ⟨z, hz, e⟩ := opn_iff.1 ho
    exact ⟨z, hz, e, by rw [← e]; exact lkC_at hL.asc hz⟩
  · intro b hb i hi
    have := hL.la b hb i hi
    omega
  · intro b hb
    rw [hL.op b hb]
    unfold cids
    rw [List.length_map]
    exact Nat.le_trans (List.length_filter_le _ _) (by have := hL.clen; omega)
  · rintro r w' ⟨rfl, s', ops', hR, hP⟩
    obtain ⟨c, hc⟩ := hP.short hL
    exact ⟨rfl, s', ops', c, h.run hR (hL.patch (by omega) hd1 hf hP hR.pm.bq) hc.p hc.dp hc.dn, hA.patch hL hf hkn hP, hc, hR.fr, hR.sub⟩
theorem gn_write (h : GN N w0 w p dp s ops κ) (hA : PA s A) (hκ : κ ≤ 1000) (n : Nat) (hn : n < N) (hc : ∃ c ∈ s.C, c.b = n) :
    Calls Tryz.prog 26 #[.pointer (some ⟨p, 0, none⟩), .int .i64 (n : Int)] w fun r w' => ∃ s', r = .returned (.int .i64 0) ∧ GN N w0 w' p dp s' ops (κ + 1) ∧ PA s' A ∧ s'.C = s.C.map (setW (alw s.C n)) ∧ s'.cnt = s.cnt ∧ s'.σ.sf = s.σ.sf ∧ s'.σ.ws = upd s.σ.ws n (s.σ.ws n ++ [lays (s.σ.sf n) (pickC (ofB s.C n) (alw s.C n))]) ∧ Fr (Ak s) w w' ∧ (∀ k, Ak s' k → Ak s k ∨ w.heap.size ≤ k) := by
  obtain rfl : s.p = p := h.p
  have hL := h.pl
  obtain ⟨c, hc, hcb⟩ := hc
  obtain ⟨b, hb, hbn⟩ := hL.cb c hc
  rw [hcb] at hbn
  have hbd := hL.bd
  have hmd := hL.mdn
  have hdn := h.dn
  obtain ⟨hop, hcs, hf, hofn, hfb⟩ := hL.alw_pre (by omega) hb hbn
  refine (write_mem h.pm n (by omega) (by omega) hb hfb hop (fun c hc => ?_) hL.asc hf (by have := hL.clen; omega) (by omega) hL.len hmd.1 hL.en.1 hL.en.2 (by have := hbd.2.2.2.2 n; omega)).mono ?_
  · have h1 := hL.idr c hc
    exact ⟨by rw [hL.fc]; exact lkC_at hL.asc hc, by omega, by have := (hL.ah c hc).2; omega, fun i hi => by have := (hL.ah c hc).1 i hi; omega, (hL.ft c hc).1, (hL.ft c hc).2⟩
  · rintro r w' ⟨rfl, s', hR, hW⟩
    have hP := hL.write hb hbn hW
    have hsf0 := hL.sfb b hb
    rw [hbn, if_neg (by simp)] at hsf0
    have hws' : s'.σ.ws = upd s.σ.ws n (s.σ.ws n ++ [lays (s.σ.sf n) (pickC (ofB s.C n) (alw s.C n))]) := by
      obtain ⟨σ1, vs', pn, d, tg, hdp, hC, rfl⟩ := hW
      rw [hsf0]
    have hsf' : s'.σ.sf = s.σ.sf := by
      obtain ⟨σ1, vs', pn, d, tg, hdp, hC, rfl⟩ := hW
      exact hC.sf
    obtain ⟨σ1, vs', pn, d, tg, hdp, hC, hs'⟩ := hW
    have hC' : s'.C = s.C.map (setW (alw s.C n)) := by rw [hs']; exact setW_fold _ _
    have hB' : s'.B = s.B := by rw [hs']
    refine ⟨s', rfl, h.run hR hP (by rw [hs']) (by rw [hs']; exact hC.dp) (by rw [hs']; exact hC.dn), ?_, hC', by rw [hs'], hsf', hws', hR.fr, hR.sub⟩
    exact hA.map (g := setW (alw s.C n)) (fun c => ⟨(setW_eqs (alw s.C n) c).1, (setW_eqs (alw s.C n) c).2.1, (setW_eqs (alw s.C n) c).2.2.2.2.1, (setW_eqs (alw s.C n) c).2.2.1, (setW_eqs (alw s.C n) c).2.2.2.1⟩) hC' hB'
theorem gn_flush (h : GN N w0 w p dp s ops κ) (hA : PA s A) (hκ : κ ≤ 1000) :
    Calls Tryz.prog 27 #[.pointer (some ⟨p, 0, none⟩)] w fun r w' => ∃ s' ops', r = .returned (.int .i64 0) ∧ GN N w0 w' p dp s' ops' (κ + 1) ∧ PA s' A ∧ s'.C = nwr s.C ∧ s'.cnt = s.cnt ∧ s'.σ.sf = lst s.σ ∧ s'.σ.ws = (fun _ => []) ∧ Fr (Ak s) w w' ∧ (∀ k, Ak s' k → Ak s k ∨ w.heap.size ≤ k) := by
  obtain rfl : s.p = p := h.p
  refine (pflush_any2 h.pm h.pl (by omega)).mono ?_
  rintro r w' ⟨rfl, s', ops', hR, hL, hC, hcnt, hp, hsf, hdn, _, hdp, hws, hB⟩
  refine ⟨s', ops', rfl, h.run hR hL hp hdp hdn, ?_, hC, hcnt, hsf, hws, hR.fr, hR.sub⟩
  refine hA.less h.pl.asc h.pl.wra (fun x hx => ?_) (by rw [hC]; exact List.filter_sublist) hB
  rw [hC]
  unfold nwr
  cases e : x.wr with
  | false => exact .inl (List.mem_filter.2 ⟨hx, by simp [e]⟩)
  | true => exact .inr ⟨rfl, fun y _ hyw _ hy => by have := (List.mem_filter.1 hy).2; simp [hyw] at this⟩
end
end Go.Proofs.YthaogbbclocmaaaGreat
/- Package push: One, All. -/
namespace Go.Proofs.YthaogbbclocmaaaGreat
open Go.RowKit
set_option maxRecDepth 100000
section
variable {w0 w : World} {p dp : Nat} {s : PSt} {ops : Nat → List Int} {κ : Nat}
end
/-- The changes of known. -/
structure K3 (c1 c2 c3 : Ch) : Prop where
  i1 : c1.id = 1
  i2 : c2.id = 2
  i3 : c3.id = 3
  b1 : c1.b = 3
  b2 : c2.b = 4
  b3 : c3.b = 3
  w1 : c1.wr = false
  w2 : c2.wr = false
  w3 : c3.wr = false
  a1 : c1.ah = []
  a2 : ∀ i ∈ c2.ah, i = 1
  a2' : (1 : Int) ∈ c2.ah
  a3 : ∀ i ∈ c3.ah, i = 1 ∨ i = 2
  a3' : (2 : Int) ∈ c3.ah
end Go.Proofs.YthaogbbclocmaaaGreat
/- The document's disk (leveeref02.Disk) in memory, and its readers. -/
namespace Go.Proofs.YthaogbbclocmaaaGreat
open Go.RowKit
set_option maxRecDepth 100000
theorem alloc_size (w : World) (o : Obj) : (w.alloc o).heap.size = w.heap.size + 1 := by show (w.heap.push _).size = _; simp
theorem cell_one (w : World) (v : Value) (t : TypeId) (f : Nat × Nat) : (w.alloc (.cells #[v] t f)).cell? ⟨w.heap.size, 0, none⟩ = some v := by
  have h : (w.alloc (.cells #[v] t f)).heap[w.heap.size]? = some (.cells #[v] t f) := by show (w.heap.push _)[w.heap.size]? = _; simp
  unfold World.cell?; rw [h]; rfl
/-- Block i of the bytes l. -/
def blkOf (l : List UInt8) (i : Nat) : List UInt8 := (l.drop (i * 256)).take 256
theorem str_bytes (w : World) (l : List UInt8) : ∃ c w', (convert 9 36 (.string (str l))).run Tryz.prog w = .ok (.slice (some ⟨w.heap.size, 0, none⟩) l.length c) w' ∧ Src w' (some ⟨w.heap.size, 0, none⟩) l ∧ Below w.heap.size w w' := by
  have hsz : (str l).size = l.length := by simp [str, ByteArray.size]
  have h := Lib.run_convert_string_bytes (P := Tryz.prog) w 9 36 5 (str l) Tryz.underlying9 Tryz.underlying36 Tryz.underlying5
  rw [hsz] at h
  refine ⟨_, _, h, ?_, ⟨rfl, rfl, rfl, by rw [Lib.bytesWorld_size]; omega, fun k hk => Lib.bytesWorld_at_old w 5 (str l) k hk⟩⟩
  by_cases h0 : l = []
  · exact .inl h0
  · refine .inr ⟨_, _, rfl, by rw [Lib.bytesWorld_size]; omega, fun j hj => ?_⟩
    rw [Nat.zero_add, Lib.bytesWorld_cell w 5 (str l) j (by rw [hsz]; exact hj)]
    simp [str, bv, hj]
/-- The document's disk at block r: of block i the versions ver i, the safe one first. -/
structure RefAt (w : World) (base r n : Nat) (held : Bool) (left : Int) (ver : Nat → List (List UInt8)) (gb cb : Nat) (va vc : Nat → Nat) : Prop where
  nn : n ≤ 4096
  c0 : w.cell? ⟨r, 0, none⟩ = some (.slice (some ⟨gb, 0, none⟩) n cb)
  c1 : w.cell? ⟨r, 1, none⟩ = some (.bool held)
  c2 : w.cell? ⟨r, 2, none⟩ = some (.int .i64 left)
  rb : base ≤ r
  gl : gb < w.heap.size
  cl : n ≤ cb ∧ (cb : Int) ≤ 9223372036854775807
  row : ∀ i, i < n → w.cell? ⟨gb, i, none⟩ = some (.slice (some ⟨va i, 0, none⟩) (ver i).length (vc i)) ∧ va i < w.heap.size ∧ 1 ≤ (ver i).length ∧ (ver i).length ≤ 1000000 ∧ (ver i).length ≤ vc i ∧ (vc i : Int) ≤ 9223372036854775807
  vers : ∀ i, i < n → ∀ j, (h : j < (ver i).length) → w.cell? ⟨va i, j, none⟩ = some (.string (str (ver i)[j]))
section
variable {w : World} {base r n : Nat} {held : Bool} {left : Int} {ver : Nat → List (List UInt8)} {gb cb : Nat} {va vc : Nat → Nat}
theorem RefAt.below (h : RefAt w base r n held left ver gb cb va vc) {w' : World} {B : Nat} (hb : Below B w w') (hB : w.heap.size ≤ B) : RefAt w' base r n held left ver gb cb va vc := by
  have hr : r < w.heap.size := block_lt_of_cell h.c0
  have hg := h.gl
  have hs := hb.size
  exact {
    nn := h.nn, rb := h.rb, gl := by omega, cl := h.cl,
    c0 := (hb.cell (p := ⟨r, 0, none⟩) (show r < B by omega)).trans h.c0,
    c1 := (hb.cell (p := ⟨r, 1, none⟩) (show r < B by omega)).trans h.c1,
    c2 := (hb.cell (p := ⟨r, 2, none⟩) (show r < B by omega)).trans h.c2,
    row := fun i hi => ⟨(hb.cell (p := ⟨gb, i, none⟩) (show gb < B by omega)).trans (h.row i hi).1, by have := (h.row i hi).2.1; omega, (h.row i hi).2.2⟩,
    vers := fun i hi j hj => (hb.cell (p := ⟨va i, j, none⟩) (show va i < B by have := (h.row i hi).2.1; omega)).trans (h.vers i hi j hj) }
set_option maxHeartbeats 1000000 in
theorem there_in (h : RefAt w base r n held left ver gb cb va vc) (i : Nat) (hi : i < n) :
    Calls Tryz.prog 81 #[.pointer (some ⟨r, 0, none⟩), .int .i64 (i : Int)] w fun e w' => e = .returned (.bool true) ∧ w' = w := by
  have c0 := h.c0
  have hi' : (i : Int) < n := by omega
  have hi0 : (0 : Int) ≤ i := by omega
  clear h
  go_enter Tryz.func81, Tryz.ntmps81
  go_wp2
  go_ret
  exact ⟨rfl, rfl⟩
set_option maxHeartbeats 1000000 in
theorem rwrites_in (h : RefAt w base r n held left ver gb cb va vc) (i : Nat) (hi : i < n) :
    Calls Tryz.prog 79 #[.pointer (some ⟨r, 0, none⟩), .int .i64 (i : Int)] w fun e w' => e = .returned (.int .i64 (((ver i).length : Int) - 1)) ∧ w' = w := by
  have TH := there_in h i hi
  have c0 := h.c0
  have hi' : (i : Int) < n := by omega
  have hn := h.nn
  have hn' : (n : Int) ≤ 4096 := by omega
  obtain ⟨cr, _, hv1, hv2, _, _⟩ := h.row i hi
  have hv1' : (1 : Int) ≤ (ver i).length := by omega
  have hv2' : ((ver i).length : Int) ≤ 1000000 := by omega
  clear h
  go_enter Tryz.func79, Tryz.ntmps79
  go_wp2_with fail
  refine TH.mono ?_
  rintro e w1 ⟨rfl, rfl⟩
  clear TH
  go_wp2
  go_ret
  exact ⟨by go_num, rfl⟩
set_option maxHeartbeats 1000000 in
theorem rstopped_any (h : RefAt w base r n held left ver gb cb va vc) :
    Calls Tryz.prog 161 #[.pointer (some ⟨r, 0, none⟩)] w fun e w' => e = .returned (.bool (held && (left == 0))) ∧ w' = w := by
  have c1 := h.c1
  have c2 := h.c2
  clear h
  cases held with
  | false =>
    go_enter Tryz.func161, Tryz.ntmps161
    go_wp2
    go_ret
    exact ⟨rfl, rfl⟩
  | true =>
    go_enter Tryz.func161, Tryz.ntmps161
    go_wp2
    go_ret
    exact ⟨rfl, rfl⟩
set_option maxHeartbeats 1000000 in
theorem rsafe_in (h : RefAt w base r n held left ver gb cb va vc) (i : Nat) (hi : i < n) (y : List UInt8) (hy : (ver i)[0]? = some y) :
    Calls Tryz.prog 23 #[.pointer (some ⟨r, 0, none⟩), .int .i64 (i : Int)] w fun e w' => ∃ g c, e = .returned (.tuple #[.slice (some ⟨g, 0, none⟩) y.length c, .int .i64 0]) ∧ Src w' (some ⟨g, 0, none⟩) y ∧ Below w.heap.size w w' := by
  have TH := there_in h i hi
  have c0 := h.c0
  have hi' : (i : Int) < n := by omega
  have hn := h.nn
  have hn' : (n : Int) ≤ 4096 := by omega
  obtain ⟨cr, _, hv1, hv2, _, _⟩ := h.row i hi
  have hv1' : (0 : Int) < (ver i).length := by omega
  have cv := h.vers i hi 0 (by omega)
  rw [show (ver i)[0] = y from by rw [List.getElem?_eq_getElem (by omega)] at hy; exact Option.some.inj hy] at cv
  obtain ⟨c, w2, hcv, hsv, hbv⟩ := str_bytes w y
  clear h
  go_enter Tryz.func23, Tryz.ntmps23
  go_wp2_with fail
  refine TH.mono ?_
  rintro e w1 ⟨rfl, rfl⟩
  clear TH
  go_wp2
  go_ret2
  exact ⟨_, _, rfl, hsv, hbv⟩
set_option maxHeartbeats 1000000 in
theorem rread_in (h : RefAt w base r n held left ver gb cb va vc) (i : Nat) (hi : i < n) (m : Nat) (y : List UInt8) (hm : (ver i).length = m + 1) (hy : (ver i)[m]? = some y) :
    Calls Tryz.prog 63 #[.pointer (some ⟨r, 0, none⟩), .int .i64 (i : Int)] w fun e w' => ∃ g c, e = .returned (.tuple #[.slice (some ⟨g, 0, none⟩) y.length c, .int .i64 0]) ∧ Src w' (some ⟨g, 0, none⟩) y ∧ Below w.heap.size w w' := by
  have TH := there_in h i hi
  have c0 := h.c0
  have hi' : (i : Int) < n := by omega
  have hn := h.nn
  have hn' : (n : Int) ≤ 4096 := by omega
  obtain ⟨cr, _, hv1, hv2, _, _⟩ := h.row i hi
  have cv := h.vers i hi m (by omega)
  rw [show (ver i)[m] = y from by rw [List.getElem?_eq_getElem (by omega)] at hy; exact Option.some.inj hy] at cv
  rw [hm] at cr hv2
  have hm2 : (m : Int) + 1 ≤ 1000000 := by omega
  obtain ⟨c, w2, hcv, hsv, hbv⟩ := str_bytes w y
  clear h hm hy hv1
  go_enter Tryz.func63, Tryz.ntmps63
  go_wp2_with fail
  refine TH.mono ?_
  rintro e w1 ⟨rfl, rfl⟩
  clear TH
  go_wp2
  go_ret2
  exact ⟨_, _, rfl, hsv, hbv⟩
end
end Go.Proofs.YthaogbbclocmaaaGreat
/- The document's New of a disk. -/
namespace Go.Proofs.YthaogbbclocmaaaGreat
open Go.RowKit
set_option maxRecDepth 100000
theorem Tryz.info117 : (Tryz.prog.info? 117).map (fun i => (i.zero, i.size, i.bytes)) = some (some (.agg #[.slice none 0 0]), 1, 24) := by kernel_rfl
def rowL (va : Nat → Nat) (k : Nat) : List Value := (List.range k).map fun i => Value.slice (some ⟨va i, 0, none⟩) 1 1
/-- The document's disk behind k rounds of Load. -/
structure LoadL (w : World) (base r k : Nat) (l : List UInt8) (v : Value) (va : Nat → Nat) : Prop where
  c0 : w.cell? ⟨r, 0, none⟩ = some v
  c1 : w.cell? ⟨r, 1, none⟩ = some (.bool false)
  c2 : w.cell? ⟨r, 2, none⟩ = some (.int .i64 0)
  f0 : w.frozen? ⟨r, 0, none⟩ = false
  own : w.ownsRow base 117 1 v k (rowL va k)
  rb : base ≤ r
  ob : v.ownBlock ≠ some r
  at' : ∀ i, i < k → w.cell? ⟨va i, 0, none⟩ = some (.string (str (blkOf l i))) ∧ va i ≠ r ∧ v.ownBlock ≠ some (va i) ∧ va i < w.heap.size ∧ base ≤ va i
theorem run_app60 {P : Program} {o : Oper} {a : Act} {w w' : World} {s x : Operand} {sv xv v : Value} (hop : o.op = .call { callee := .builtin .append, args := #[s, x], argTypes := #[112, 112] }) (hty : o.type = 112) (hs : a.eval s = sv) (hx : a.eval x = xv) (hL : (Builtin.append_ #[112, 112] 112 #[sv, xv]).run P w = .ok v w') : (execOp a.eval o).run P w = .ok (.value v) w' := by
  unfold execOp
  simp only [hop, hty, resolve, invoke, builtin, Sem.run_bind, Sem.run_pure, Result.andThen_ok, List.map_toArray, List.map_cons, List.map_nil, hs, hx, hL]
theorem LoadL.drew {w : World} {base r k : Nat} {l : List UInt8} {v : Value} {va : Nat → Nat} (h : LoadL w base r k l v va) : LoadL w.drew base r k l v va := ⟨h.c0, h.c1, h.c2, h.f0, h.own, h.rb, h.ob, h.at'⟩
/-- The document's disk, its blocks apart and none frozen. -/
structure RefW (w : World) (base r n : Nat) (held : Bool) (left : Int) (ver : Nat → List (List UInt8)) (gb cb : Nat) (va vc : Nat → Nat) : Prop where
  at' : RefAt w base r n held left ver gb cb va vc
  fr : ∀ o, w.frozen? ⟨r, o, none⟩ = false
  fg : ∀ o, w.frozen? ⟨gb, o, none⟩ = false
  rg : r ≠ gb
  ar : ∀ i, i < n → va i ≠ r ∧ va i ≠ gb
section
variable {w : World} {base r n : Nat} {held : Bool} {left : Int} {ver : Nat → List (List UInt8)} {gb cb : Nat} {va vc : Nat → Nat}
theorem RefW.rl (h : RefW w base r n held left ver gb cb va vc) : r < w.heap.size := block_lt_of_cell h.at'.c0
end
/-- none: a block of 0 as a string. -/
theorem rnone_any (w : World) : Calls Tryz.prog 60 #[] w fun e w' => e = .returned (.string (str zer)) ∧ Below w.heap.size w w' := by
  have mk : (Instr.makeSlice 36 (.int .i64 256) (.int .i64 256)).run Tryz.prog w = .ok (.slice (some ⟨w.heap.size, 0, none⟩) 256 256) (w.alloc (.cells (bvs zer).toArray 5)) := make_any w 256 256 (by omega) (by omega)
  have hb : Blk (w.alloc (.cells (bvs zer).toArray 5)) w.heap.size 5 zer := heap_alloc_new _ _
  have cv := conv_str hb.src 256 256 zer_length.symm
  have HB : Hid (Below w.heap.size w (w.alloc (.cells (bvs zer).toArray 5))) := (Below.refl _ _).alloc (Nat.le_refl _) _
  clear hb
  go_enter Tryz.func60, Tryz.ntmps60
  go_wp2
  go_ret
  exact ⟨rfl, HB.out⟩
theorem LoadL.low {w w' : World} {base r k : Nat} {l : List UInt8} {v : Value} {va : Nat → Nat} (h : LoadL w base r k l v va) (hb : Below w.heap.size w w') : LoadL w' base r k l v va := by
  have hr : r < w.heap.size := block_lt_of_cell h.c0
  have hs := hb.size
  have ha : ∀ i, i < k → w'.cell? ⟨va i, 0, none⟩ = some (.string (str (blkOf l i))) ∧ va i ≠ r ∧ v.ownBlock ≠ some (va i) ∧ va i < w'.heap.size ∧ base ≤ va i := fun i hi => by
    obtain ⟨a1, a2, a3, a4, a5⟩ := h.at' i hi
    exact ⟨(hb.cell (p := ⟨va i, 0, none⟩) a4).trans a1, a2, a3, by omega, a5⟩
  exact ⟨(hb.cell (p := ⟨r, 0, none⟩) hr).trans h.c0, (hb.cell (p := ⟨r, 1, none⟩) hr).trans h.c1, (hb.cell (p := ⟨r, 2, none⟩) hr).trans h.c2, (hb.frozen (p := ⟨r, 0, none⟩) hr).trans h.f0, owns_below h.own hb (Nat.le_refl _), h.rb, h.ob, ha⟩
theorem LoadL.stepF {w : World} {base r k : Nat} {l : List UInt8} {v : Value} {va : Nat → Nat} (h : LoadL w base r k l v va) (hk : k ≤ 4096) (hbase : base ≤ w.heap.size) :
    ∃ ao ac g cp w4, v = .slice ao k ac ∧
      (Builtin.append_ #[112, 112] 112 #[.slice ao k ac, .slice (some ⟨w.heap.size + 1, 0, none⟩) 1 1]).run Tryz.prog ((w.alloc (.cells #[.string (str (blkOf l k))] 9)).alloc (.cells #[.slice (some ⟨w.heap.size, 0, none⟩) 1 1] 117)) = .ok (.slice (some ⟨g, 0, none⟩) (k + 1) cp) w4 ∧
      w4.cell? ⟨r, 0, none⟩ = some (.slice ao k ac) ∧ w4.frozen? ⟨r, 0, none⟩ = false ∧
      LoadL (w4.setCell ⟨r, 0, none⟩ (.slice (some ⟨g, 0, none⟩) (k + 1) cp)) base r (k + 1) l (.slice (some ⟨g, 0, none⟩) (k + 1) cp) (upd va k w.heap.size) ∧ Below base w (w4.setCell ⟨r, 0, none⟩ (.slice (some ⟨g, 0, none⟩) (k + 1) cp)) ∧
      (∀ o, w.frozen? ⟨r, o, none⟩ = false → (w4.setCell ⟨r, 0, none⟩ (.slice (some ⟨g, 0, none⟩) (k + 1) cp)).frozen? ⟨r, o, none⟩ = false) := by
  obtain ⟨i0, hi, hz0, hz1, hz2⟩ := info_parts Tryz.info117
  obtain ⟨ao, ac, hv⟩ : ∃ ao ac, v = .slice ao k ac := by
    obtain ⟨_, h2⟩ := h.own
    rcases h2 with ⟨h2, h3⟩ | ⟨g, cap, _, hv, _⟩
    · exact ⟨none, 0, by rw [h2, h3]⟩
    · exact ⟨_, cap, hv⟩
  have hrl : r < w.heap.size := block_lt_of_cell h.c0
  have s1 := alloc_size w (.cells #[.string (str (blkOf l k))] 9)
  have s2 := alloc_size (w.alloc (.cells #[.string (str (blkOf l k))] 9)) (.cells #[.slice (some ⟨w.heap.size, 0, none⟩) 1 1] 117)
  have hb2 : Below w.heap.size w ((w.alloc (.cells #[.string (str (blkOf l k))] 9)).alloc (.cells #[.slice (some ⟨w.heap.size, 0, none⟩) 1 1] 117)) := ((Below.refl _ _).alloc (Nat.le_refl _) _).alloc (by omega) _
  have hcs : ((w.alloc (.cells #[.string (str (blkOf l k))] 9)).alloc (.cells #[.slice (some ⟨w.heap.size, 0, none⟩) 1 1] 117)).cell? ⟨w.heap.size + 1, 0, none⟩ = some (.slice (some ⟨w.heap.size, 0, none⟩) 1 1) := by
    have := cell_one (w.alloc (.cells #[.string (str (blkOf l k))] 9)) (.slice (some ⟨w.heap.size, 0, none⟩) 1 1) 117 (0, 0)
    rw [s1] at this; exact this
  have hst : ((w.alloc (.cells #[.string (str (blkOf l k))] 9)).alloc (.cells #[.slice (some ⟨w.heap.size, 0, none⟩) 1 1] 117)).cell? ⟨w.heap.size, 0, none⟩ = some (.string (str (blkOf l k))) := by
    rw [World.cell?_alloc_lt _ _ _ (show w.heap.size < _ by rw [s1]; omega)]
    exact cell_one w _ 9 (0, 0)
  obtain ⟨W2, HW2⟩ : ∃ W2, W2 = ((w.alloc (.cells #[.string (str (blkOf l k))] 9)).alloc (.cells #[.slice (some ⟨w.heap.size, 0, none⟩) 1 1] 117)) := ⟨_, rfl⟩
  rw [← HW2] at hb2 hcs hst s2 ⊢
  obtain ⟨g, cp, w4, hrun, hown, hgrow, hat, hlt⟩ := run_append_lies (P := Tryz.prog) W2 112 112 base 117 i0 (.agg #[.slice none 0 0]) 1 24 Tryz.underlying112 hi hz0 hz1 hz2 rfl (by omega) v k _ (owns_below h.own hb2 (Nat.le_refl _)) ⟨w.heap.size + 1, 0, none⟩ 1 1 [.slice (some ⟨w.heap.size, 0, none⟩) 1 1] rfl (fun j u hj => by
    have hj0 : j = 0 := by have := (List.getElem?_eq_some_iff.1 hj).1; simp at this; omega
    subst hj0
    have hu : u = .slice (some ⟨w.heap.size, 0, none⟩) 1 1 := by simpa using hj.symm
    rw [addr_add, hu]; exact hcs) (by intro u hu; simp at hu; subst hu; rfl) (by omega) (by unfold maxLen; omega) (by omega) (by omega) (w.heap.size + 2) (by omega)
  have hblk : ∀ j, j < w.heap.size + 2 → some j ≠ v.ownBlock → w4.heap[j]? = W2.heap[j]? := fun j hj hne => hgrow.block j (by omega) hne
  have hrb : w4.heap[r]? = w.heap[r]? := (hblk r (by omega) (fun e => h.ob e.symm)).trans (hb2.block r hrl)
  have hs4 := hgrow.size
  have hgr : g ≠ r := by
    rcases hat with e | e
    · intro e2; exact h.ob (by rw [e, e2])
    · omega
  have hb4 : Below base w w4 := (hb2.mono hbase).grown hgrow (by omega) (fun j hj => (World.ownsRow.lt h.own j hj).1)
  rw [hv] at hrun
  refine ⟨ao, ac, g, cp, w4, hv, hrun, by rw [← hv]; exact (World.cell?_of_block (a := ⟨r, 0, none⟩) hrb).trans h.c0, (World.frozen?_of_block (a := ⟨r, 0, none⟩) hrb).trans h.f0, ?_, hb4.setCell h.rb _, fun o ho => by rw [World.frozen?_setCell]; exact (World.frozen?_of_block (a := ⟨r, o, none⟩) hrb).trans ho⟩
  have hc0 : w4.cell? ⟨r, 0, none⟩ = some v := (World.cell?_of_block (a := ⟨r, 0, none⟩) hrb).trans h.c0
  have hoth : ∀ j, j ≠ r → (w4.setCell ⟨r, 0, none⟩ (.slice (some ⟨g, 0, none⟩) (k + 1) cp)).heap[j]? = w4.heap[j]? := fun j hj => heap_setCell_other w4 ⟨r, 0, none⟩ j _ hj
  exact {
    c0 := World.cell?_setCell_same _ _ _ hc0
    c1 := (World.cell?_setCell_other _ _ _ _ (by simp)).trans ((World.cell?_of_block (a := ⟨r, 1, none⟩) hrb).trans h.c1)
    c2 := (World.cell?_setCell_other _ _ _ _ (by simp)).trans ((World.cell?_of_block (a := ⟨r, 2, none⟩) hrb).trans h.c2)
    f0 := by rw [World.frozen?_setCell]; exact (World.frozen?_of_block (a := ⟨r, 0, none⟩) hrb).trans h.f0
    own := by
      have e : rowL (upd va k w.heap.size) (k + 1) = rowL va k ++ [.slice (some ⟨w.heap.size, 0, none⟩) 1 1] := by
        unfold rowL
        rw [List.range_succ, List.map_append]
        congr 1
        · exact List.map_congr_left fun i hi => by rw [upd_other _ _ _ (by have := List.mem_range.1 hi; omega)]
        · simp [upd_same]
      rw [e]
      exact World.ownsRow.kept hown ⟨rfl, rfl, rfl, by simp [World.setCell], fun j _ hj => hoth j (fun e => hj (by rw [e]))⟩ (.inr (by intro e; exact hgr (by simpa [Value.ownBlock] using e)))
    rb := h.rb
    ob := by intro e; exact hgr (by simpa [Value.ownBlock] using e)
    at' := fun i hik => by
      have hsz : (w4.setCell ⟨r, 0, none⟩ (.slice (some ⟨g, 0, none⟩) (k + 1) cp)).heap.size = w4.heap.size := by simp [World.setCell]
      by_cases hi2 : i = k
      · subst hi2
        rw [upd_same]
        have hne : some w.heap.size ≠ v.ownBlock := fun e => by have := (World.ownsRow.lt h.own _ e.symm).2; omega
        refine ⟨?_, by omega, ?_, by omega, hbase⟩
        · rw [World.cell?_of_block (a := ⟨w.heap.size, 0, none⟩) (hoth w.heap.size (by omega)), World.cell?_of_block (a := ⟨w.heap.size, 0, none⟩) (hblk w.heap.size (by omega) hne)]
          exact hst
        · intro e
          have e2 : g = w.heap.size := by simpa [Value.ownBlock] using e
          rcases hat with e3 | e3
          · exact hne (by rw [e3, e2])
          · omega
      · rw [upd_other _ _ _ hi2]
        obtain ⟨a1, a2, a3, a4, a5⟩ := h.at' i (by omega)
        refine ⟨?_, a2, ?_, by omega, a5⟩
        · rw [World.cell?_of_block (a := ⟨va i, 0, none⟩) (hoth _ a2), World.cell?_of_block (a := ⟨va i, 0, none⟩) (hblk (va i) (by omega) (fun e => a3 e.symm)), World.cell?_of_block (a := ⟨va i, 0, none⟩) (hb2.block (va i) a4)]
          exact a1
        · intro e
          have e2 : g = va i := by simpa [Value.ownBlock] using e
          rcases hat with e3 | e3
          · exact a3 (by rw [e3, e2])
          · omega }
theorem LoadL.refW {w : World} {base r n : Nat} {l : List UInt8} {v : Value} {va : Nat → Nat} (h : LoadL w base r n l v va) (hf : ∀ o, w.frozen? ⟨r, o, none⟩ = false) (h1 : 1 ≤ n) (hn : n ≤ 4096) : ∃ gb cb, RefW w base r n false 0 (fun i => blkOf l i :: []) gb cb va (fun _ => 1) ∧ base ≤ gb ∧ ∀ i, i < n → base ≤ va i := by
  have ho := h.own
  obtain ⟨o1, o2⟩ := h.own
  rcases o2 with ⟨_, o3⟩ | ⟨g, cap, cur, hv, hg, hh, hn2, hm, hs, hx⟩
  · omega
  · subst hv
    have RA : RefAt w base r n false 0 (fun i => blkOf l i :: []) g cap va (fun _ => 1) := by
      refine { nn := by omega, c0 := h.c0, c1 := h.c1, c2 := h.c2, rb := h.rb, gl := (Array.getElem?_eq_some_iff.1 hh).1, cl := ⟨hn2, by unfold maxLen at hm; omega⟩, row := fun i hi => ⟨?_, (h.at' i hi).2.2.2.1, by simp, by simp, by simp, by omega⟩, vers := fun i hi j hj => ?_ }
      · rw [World.ownsRow.cellAt ho i (by omega)]
        simp [rowL, hi]
      · have hj0 : j = 0 := by simp at hj; omega
        subst hj0
        exact (h.at' i hi).1
    refine ⟨g, cap, ⟨RA, hf, fun o => World.ownsRow.frozenAt ho o, fun e => h.ob (by rw [e]; rfl), fun i hi => ⟨(h.at' i hi).2.1, fun e => (h.at' i hi).2.2.1 (by rw [e]; rfl)⟩⟩, hg, fun i hi => (h.at' i hi).2.2.2.2⟩
theorem blk_zer (n k : Nat) (hk : k < n) : blkOf (List.replicate (n * 256) 0) k = zer := by
  unfold blkOf zer
  rw [List.drop_replicate, List.take_replicate]
  congr 1
  omega
set_option maxRecDepth 100000 in
set_option maxHeartbeats 8000000 in
theorem rnew_go (n : Nat) (h1 : 1 ≤ n) (hn : n ≤ 40) (w : World) :
    Calls Tryz.prog 10 #[.int .i64 (n : Int)] w fun e w' => e = .returned (.tuple #[.pointer (some ⟨w.heap.size, 0, none⟩), .int .i64 0]) ∧ (∃ v va, LoadL w' w.heap.size w.heap.size n (List.replicate (n * 256) 0) v va) ∧ (∀ o, w'.frozen? ⟨w.heap.size, o, none⟩ = false) ∧ Below w.heap.size w w' := by
  have hn1 : ¬ (n : Int) < 1 := by omega
  have hn2 : ¬ (4096 : Int) < n := by omega
  have hzb : ∀ k, k < n → blkOf (List.replicate (n * 256) 0) k = zer := blk_zer n
  have h0 : Hid (LoadL (w.alloc (.cells #[.slice none 0 0, .bool false, .int .i64 0] 114)) w.heap.size w.heap.size 0 (List.replicate (n * 256) 0) (.slice none 0 0) (fun _ => 0)) := by
    have e : (w.alloc (.cells #[.slice none 0 0, .bool false, .int .i64 0] 114)).heap[w.heap.size]? = some (.cells #[.slice none 0 0, .bool false, .int .i64 0] 114 (0, 0)) := heap_alloc_new _ _
    exact { c0 := by rw [cell_of_row _ _ 0 _ _ _ e]; rfl, c1 := by rw [cell_of_row _ _ 1 _ _ _ e]; rfl, c2 := by rw [cell_of_row _ _ 2 _ _ _ e]; rfl, f0 := frozen_of_row _ _ 0 _ _ e, own := World.ownsRow_nil _ _ _ _, rb := Nat.le_refl _, ob := by simp [Value.ownBlock], at' := fun i hi => by omega }
  have hf0 : Hid (∀ o, (w.alloc (.cells #[.slice none 0 0, .bool false, .int .i64 0] 114)).frozen? ⟨w.heap.size, o, none⟩ = false) := fun o => frozen_of_row _ _ o _ _ (heap_alloc_new w _)
  have hb0 : Hid (Below w.heap.size w (w.alloc (.cells #[.slice none 0 0, .bool false, .int .i64 0] 114))) := (Below.refl _ _).alloc (Nat.le_refl _) _
  go_enter Tryz.func10, Tryz.ntmps10
  go_wp2_with fail
  go_loopw [5] (fun s wr => ∃ (k : Nat) (v : Value) (va : Nat → Nat), k ≤ n ∧ s = .int .i64 k ∧ Hid (LoadL wr w.heap.size w.heap.size k (List.replicate (n * 256) 0) v va) ∧ Hid (∀ o, wr.frozen? ⟨w.heap.size, o, none⟩ = false) ∧ Hid (Below w.heap.size w wr)) (fun s _ => n - (intOf s).toNat)
  case atStart => exact ⟨0, _, _, by omega, rfl, h0, hf0, hb0⟩
  case round =>
    obtain ⟨k, v, va, hk, rfl, HL, HFZ, HB⟩ := hrel
    clear h0 hb0 hf0
    by_cases hlt : (k : Int) < n
    · obtain ⟨ao, ac, rfl⟩ : ∃ ao ac, v = .slice ao k ac := by
        obtain ⟨_, h2⟩ := HL.out.own
        rcases h2 with ⟨h2, h3⟩ | ⟨g, cap, _, hv, _⟩
        · exact ⟨none, 0, by rw [h2, h3]⟩
        · exact ⟨_, cap, hv⟩
      have L1 := HL.out.drew
      have HBd : Hid (Below w.heap.size w wr.drew) := HB.out.drew
      have hlw : w.heap.size < wr.drew.heap.size := block_lt_of_cell L1.c0
      have HFd : Hid (∀ o, wr.drew.frozen? ⟨w.heap.size, o, none⟩ = false) := HFZ.out
      clear HL HB HFZ
      go_wp2_with fail
      refine wp_region_held_drew (S := (fun _ => True)) (by kernel_rfl) trivial (fun hH => ?_)
      generalize wr.drew = wd at *
      refine takeH (i := 0) (dst := some 19) (v := ?vn1) rfl rfl (by kernel_rfl) (by kernel_rfl) (by kernel_rfl) (fun _ _ _ h => h) rfl ?hyn1 hH rfl ?restn1
      case hyn1 => (intro W hW; clear hW; go_simp; try with_reducible rfl)
      (try simp only [Act.put, List.setIfInBounds_toArray, List.set_cons_zero, List.set_cons_succ])
      refine takeH (i := 1) (dst := some 20) (v := ?vn2) rfl rfl (by kernel_rfl) (by kernel_rfl) (by kernel_rfl) (fun _ _ _ h => h) rfl ?hyn2 hH rfl ?restn2
      case hyn2 => (intro W hW; clear hW; go_simp; try with_reducible rfl)
      (try simp only [Act.put, List.setIfInBounds_toArray, List.set_cons_zero, List.set_cons_succ])
      refine takeH (i := 2) (dst := some 21) (v := ?vn3) rfl rfl (by kernel_rfl) (by kernel_rfl) (by kernel_rfl) (fun _ _ _ h => h) rfl ?hyn3 hH rfl ?restn3
      case hyn3 => (intro W hW; clear hW; go_simp; try with_reducible rfl)
      (try simp only [Act.put, List.setIfInBounds_toArray, List.set_cons_zero, List.set_cons_succ])
      refine takeH (i := 3) (dst := some 22) (v := ?vn4) rfl rfl (by kernel_rfl) (by kernel_rfl) (by kernel_rfl) (fun _ _ _ h => h) rfl ?hyn4 hH rfl ?restn4
      case hyn4 => (intro W hW; clear hW; go_simp; try with_reducible rfl)
      (try simp only [Act.put, List.setIfInBounds_toArray, List.set_cons_zero, List.set_cons_succ])
      refine callH2 (i := 4) (j := 5) { dst := some 23, op := Go.Op.load 112 (Go.Operand.tmp 22), type := 112, pos := "ref.go:49", after := #[{ on := 3, ground := Go.Ground.data }], guard := none } { dst := some 24, op := Go.Op.call { callee := Go.Callee.value (Go.Operand.func 60), args := #[], argTypes := #[] }, type := 9, pos := "ref.go:49", after := #[], guard := none } (by kernel_rfl) rfl rfl rfl rfl (fun K hK => ?_) (fun K hK => ?_)
      · have cl := L1.c0
        go_simp
        clear hH cl
        refine hK.out _ _ trivial (fun hH => ?_)
        clear hK K
        (try simp only [Act.put, List.setIfInBounds_toArray, List.set_cons_zero, List.set_cons_succ])
        refine callH (i := 5) { dst := some 24, op := Go.Op.call { callee := Go.Callee.value (Go.Operand.func 60), args := #[], argTypes := #[] }, type := 9, pos := "ref.go:49", after := #[], guard := none } (by kernel_rfl) rfl rfl (fun K hK => ?_)
        go_simp
        refine (rnone_any _).mono ?_
        rintro e w5 ⟨rfl, b5⟩
        have L5 := L1.low b5
        have hz5 := b5.size
        clear hH
        refine hK.out _ _ trivial (fun hH => ?_)
        clear hK K
        (try simp only [Act.put, List.setIfInBounds_toArray, List.set_cons_zero, List.set_cons_succ])
        refine callH (i := 6) { dst := some 25, op := Go.Op.buildSlice 40 1 #[(0, Go.Operand.tmp 24)], type := 40, pos := "ref.go:49", after := #[{ on := 5, ground := Go.Ground.data }], guard := none } (by kernel_rfl) rfl rfl (fun K hK => ?_)
        go_simp
        clear hH
        refine hK.out _ _ trivial (fun hH => ?_)
        clear hK K
        (try simp only [Act.put, List.setIfInBounds_toArray, List.set_cons_zero, List.set_cons_succ])
        refine takeH (i := 7) (dst := some 26) (v := ?vn5) rfl rfl (by kernel_rfl) (by kernel_rfl) (by kernel_rfl) (fun _ _ _ h => h) rfl ?hyn5 hH rfl ?restn5
        case hyn5 => (intro W hW; clear hW; go_simp; try with_reducible rfl)
        (try simp only [Act.put, List.setIfInBounds_toArray, List.set_cons_zero, List.set_cons_succ])
        refine callH (i := 8) { dst := some 27, op := Go.Op.buildSlice 112 1 #[(0, Go.Operand.tmp 26)], type := 112, pos := "ref.go:49", after := #[{ on := 7, ground := Go.Ground.data }], guard := none } (by kernel_rfl) rfl rfl (fun K hK => ?_)
        go_simp
        clear hH
        refine hK.out _ _ trivial (fun hH => ?_)
        clear hK K
        (try simp only [Act.put, List.setIfInBounds_toArray, List.set_cons_zero, List.set_cons_succ])
        obtain ⟨ao', ac', g, cp, w4, ev, hrun, cA, fA, LN, BN, FN⟩ := L5.stepF (by omega) (by omega)
        obtain ⟨rfl, rfl⟩ : ao = ao' ∧ ac = ac' := by simpa using ev
        rw [hzb k (by omega)] at hrun
        refine readyH (i := 9) (v := .slice (some ⟨g, 0, none⟩) (k + 1) cp) (w' := w4) (by kernel_rfl) rfl rfl rfl (run_app60 rfl rfl rfl rfl hrun) rfl trivial ?_
        (try simp only [Act.put, List.setIfInBounds_toArray])
        refine takeH (i := 10) (dst := some 29) (v := ?vn6) rfl rfl (by kernel_rfl) (by kernel_rfl) (by kernel_rfl) (fun _ _ _ h => h) rfl ?hyn6 hH rfl ?restn6
        case hyn6 => (intro W hW; clear hW; go_simp; try with_reducible rfl)
        (try simp only [Act.put])
        refine takeH (i := 11) (dst := some 30) (v := ?vn7) rfl rfl (by kernel_rfl) (by kernel_rfl) (by kernel_rfl) (fun _ _ _ h => h) rfl ?hyn7 hH rfl ?restn7
        case hyn7 => (intro W hW; clear hW; go_simp; try with_reducible rfl)
        (try simp only [Act.put])
        refine callH (i := 12) { dst := none, op := Go.Op.store 112 (Go.Operand.tmp 30) (Go.Operand.tmp 28), type := 0, pos := "ref.go:49", after := #[{ on := 11, ground := Go.Ground.data }, { on := 9, ground := Go.Ground.data }, { on := 9, ground := Go.Ground.chain }, { on := 0, ground := Go.Ground.phase }, { on := 1, ground := Go.Ground.phase }, { on := 2, ground := Go.Ground.phase }, { on := 3, ground := Go.Ground.phase }, { on := 4, ground := Go.Ground.phase }, { on := 5, ground := Go.Ground.phase }, { on := 6, ground := Go.Ground.phase }, { on := 7, ground := Go.Ground.phase }, { on := 8, ground := Go.Ground.phase }, { on := 9, ground := Go.Ground.phase }], guard := none } (by kernel_rfl) rfl rfl (fun K hK => ?_)
        go_simp
        clear hH
        refine hK.out _ _ trivial (fun hH => ?_)
        clear hK K
        (try simp only [Act.put, List.setIfInBounds_toArray, List.set_cons_zero, List.set_cons_succ])
        refine wpAnyH_done (by kernel_rfl) ?_ _
        have HL2 : Hid _ := LN
        have HB2 : Hid (Below w.heap.size w (w4.setCell ⟨w.heap.size, 0, none⟩ (.slice (some ⟨g, 0, none⟩) (k + 1) cp))) := (HBd.out.trans (b5.mono (by omega))).trans BN
        have HF2 : Hid (∀ o, (w4.setCell ⟨w.heap.size, 0, none⟩ (.slice (some ⟨g, 0, none⟩) (k + 1) cp)).frozen? ⟨w.heap.size, o, none⟩ = false) := fun o => FN o ((b5.frozen (p := ⟨w.heap.size, o, none⟩) (show w.heap.size < wd.heap.size by omega)).trans (HFd.out o))
        clear FN
        clear hH cA fA LN BN hrun L5 b5 L1 ev
        go_wp2_with fail
        go_round
        case rel => exact ⟨k + 1, _, _, by omega, by go_num, HL2, HF2, HB2⟩
        case measure => simp [intOf]; omega
      · go_simp
        refine (rnone_any _).mono ?_
        rintro e w5 ⟨rfl, b5⟩
        have L5 := L1.low b5
        have hz5 := b5.size
        clear hH
        refine hK.out _ _ trivial (fun hH => ?_)
        clear hK K
        (try simp only [Act.put, List.setIfInBounds_toArray, List.set_cons_zero, List.set_cons_succ])
        refine callH2 (i := 4) (j := 6) { dst := some 23, op := Go.Op.load 112 (Go.Operand.tmp 22), type := 112, pos := "ref.go:49", after := #[{ on := 3, ground := Go.Ground.data }], guard := none } { dst := some 25, op := Go.Op.buildSlice 40 1 #[(0, Go.Operand.tmp 24)], type := 40, pos := "ref.go:49", after := #[{ on := 5, ground := Go.Ground.data }], guard := none } (by kernel_rfl) rfl rfl rfl rfl (fun K hK => ?_) (fun K hK => ?_)
        · have cl := L5.c0
          go_simp
          clear hH cl
          refine hK.out _ _ trivial (fun hH => ?_)
          clear hK K
          (try simp only [Act.put, List.setIfInBounds_toArray, List.set_cons_zero, List.set_cons_succ])
          refine callH (i := 6) { dst := some 25, op := Go.Op.buildSlice 40 1 #[(0, Go.Operand.tmp 24)], type := 40, pos := "ref.go:49", after := #[{ on := 5, ground := Go.Ground.data }], guard := none } (by kernel_rfl) rfl rfl (fun K hK => ?_)
          go_simp
          clear hH
          refine hK.out _ _ trivial (fun hH => ?_)
          clear hK K
          (try simp only [Act.put, List.setIfInBounds_toArray, List.set_cons_zero, List.set_cons_succ])
          refine takeH (i := 7) (dst := some 26) (v := ?vn8) rfl rfl (by kernel_rfl) (by kernel_rfl) (by kernel_rfl) (fun _ _ _ h => h) rfl ?hyn8 hH rfl ?restn8
          case hyn8 => (intro W hW; clear hW; go_simp; try with_reducible rfl)
          (try simp only [Act.put, List.setIfInBounds_toArray, List.set_cons_zero, List.set_cons_succ])
          refine callH (i := 8) { dst := some 27, op := Go.Op.buildSlice 112 1 #[(0, Go.Operand.tmp 26)], type := 112, pos := "ref.go:49", after := #[{ on := 7, ground := Go.Ground.data }], guard := none } (by kernel_rfl) rfl rfl (fun K hK => ?_)
          go_simp
          clear hH
          refine hK.out _ _ trivial (fun hH => ?_)
          clear hK K
          (try simp only [Act.put, List.setIfInBounds_toArray, List.set_cons_zero, List.set_cons_succ])
          obtain ⟨ao', ac', g, cp, w4, ev, hrun, cA, fA, LN, BN, FN⟩ := L5.stepF (by omega) (by omega)
          obtain ⟨rfl, rfl⟩ : ao = ao' ∧ ac = ac' := by simpa using ev
          rw [hzb k (by omega)] at hrun
          refine readyH (i := 9) (v := .slice (some ⟨g, 0, none⟩) (k + 1) cp) (w' := w4) (by kernel_rfl) rfl rfl rfl (run_app60 rfl rfl rfl rfl hrun) rfl trivial ?_
          (try simp only [Act.put, List.setIfInBounds_toArray])
          refine takeH (i := 10) (dst := some 29) (v := ?vn9) rfl rfl (by kernel_rfl) (by kernel_rfl) (by kernel_rfl) (fun _ _ _ h => h) rfl ?hyn9 hH rfl ?restn9
          case hyn9 => (intro W hW; clear hW; go_simp; try with_reducible rfl)
          (try simp only [Act.put])
          refine takeH (i := 11) (dst := some 30) (v := ?vn10) rfl rfl (by kernel_rfl) (by kernel_rfl) (by kernel_rfl) (fun _ _ _ h => h) rfl ?hyn10 hH rfl ?restn10
          case hyn10 => (intro W hW; clear hW; go_simp; try with_reducible rfl)
          (try simp only [Act.put])
          refine callH (i := 12) { dst := none, op := Go.Op.store 112 (Go.Operand.tmp 30) (Go.Operand.tmp 28), type := 0, pos := "ref.go:49", after := #[{ on := 11, ground := Go.Ground.data }, { on := 9, ground := Go.Ground.data }, { on := 9, ground := Go.Ground.chain }, { on := 0, ground := Go.Ground.phase }, { on := 1, ground := Go.Ground.phase }, { on := 2, ground := Go.Ground.phase }, { on := 3, ground := Go.Ground.phase }, { on := 4, ground := Go.Ground.phase }, { on := 5, ground := Go.Ground.phase }, { on := 6, ground := Go.Ground.phase }, { on := 7, ground := Go.Ground.phase }, { on := 8, ground := Go.Ground.phase }, { on := 9, ground := Go.Ground.phase }], guard := none } (by kernel_rfl) rfl rfl (fun K hK => ?_)
          go_simp
          clear hH
          refine hK.out _ _ trivial (fun hH => ?_)
          clear hK K
          (try simp only [Act.put, List.setIfInBounds_toArray, List.set_cons_zero, List.set_cons_succ])
          refine wpAnyH_done (by kernel_rfl) ?_ _
          have HL2 : Hid _ := LN
          have HB2 : Hid (Below w.heap.size w (w4.setCell ⟨w.heap.size, 0, none⟩ (.slice (some ⟨g, 0, none⟩) (k + 1) cp))) := (HBd.out.trans (b5.mono (by omega))).trans BN
          have HF2 : Hid (∀ o, (w4.setCell ⟨w.heap.size, 0, none⟩ (.slice (some ⟨g, 0, none⟩) (k + 1) cp)).frozen? ⟨w.heap.size, o, none⟩ = false) := fun o => FN o ((b5.frozen (p := ⟨w.heap.size, o, none⟩) (show w.heap.size < wd.heap.size by omega)).trans (HFd.out o))
          clear FN
          clear hH cA fA LN BN hrun L5 b5 L1 ev
          go_wp2_with fail
          go_round
          case rel => exact ⟨k + 1, _, _, by omega, by go_num, HL2, HF2, HB2⟩
          case measure => simp [intOf]; omega
        · go_simp
          clear hH
          refine hK.out _ _ trivial (fun hH => ?_)
          clear hK K
          (try simp only [Act.put, List.setIfInBounds_toArray, List.set_cons_zero, List.set_cons_succ])
          refine takeH (i := 7) (dst := some 26) (v := ?vn11) rfl rfl (by kernel_rfl) (by kernel_rfl) (by kernel_rfl) (fun _ _ _ h => h) rfl ?hyn11 hH rfl ?restn11
          case hyn11 => (intro W hW; clear hW; go_simp; try with_reducible rfl)
          (try simp only [Act.put, List.setIfInBounds_toArray, List.set_cons_zero, List.set_cons_succ])
          refine callH2 (i := 4) (j := 8) { dst := some 23, op := Go.Op.load 112 (Go.Operand.tmp 22), type := 112, pos := "ref.go:49", after := #[{ on := 3, ground := Go.Ground.data }], guard := none } { dst := some 27, op := Go.Op.buildSlice 112 1 #[(0, Go.Operand.tmp 26)], type := 112, pos := "ref.go:49", after := #[{ on := 7, ground := Go.Ground.data }], guard := none } (by kernel_rfl) rfl rfl rfl rfl (fun K hK => ?_) (fun K hK => ?_)
          · have cl := (World.cell?_alloc_lt w5 (.cells #[.string (str zer)] 9) ⟨w.heap.size, 0, none⟩ (show w.heap.size < w5.heap.size by omega)).trans L5.c0
            go_simp
            clear hH cl
            refine hK.out _ _ trivial (fun hH => ?_)
            clear hK K
            (try simp only [Act.put, List.setIfInBounds_toArray, List.set_cons_zero, List.set_cons_succ])
            refine callH (i := 8) { dst := some 27, op := Go.Op.buildSlice 112 1 #[(0, Go.Operand.tmp 26)], type := 112, pos := "ref.go:49", after := #[{ on := 7, ground := Go.Ground.data }], guard := none } (by kernel_rfl) rfl rfl (fun K hK => ?_)
            go_simp
            clear hH
            refine hK.out _ _ trivial (fun hH => ?_)
            clear hK K
            (try simp only [Act.put, List.setIfInBounds_toArray, List.set_cons_zero, List.set_cons_succ])
            obtain ⟨ao', ac', g, cp, w4, ev, hrun, cA, fA, LN, BN, FN⟩ := L5.stepF (by omega) (by omega)
            obtain ⟨rfl, rfl⟩ : ao = ao' ∧ ac = ac' := by simpa using ev
            rw [hzb k (by omega)] at hrun
            refine readyH (i := 9) (v := .slice (some ⟨g, 0, none⟩) (k + 1) cp) (w' := w4) (by kernel_rfl) rfl rfl rfl (run_app60 rfl rfl rfl rfl hrun) rfl trivial ?_
            (try simp only [Act.put, List.setIfInBounds_toArray])
            refine takeH (i := 10) (dst := some 29) (v := ?vn12) rfl rfl (by kernel_rfl) (by kernel_rfl) (by kernel_rfl) (fun _ _ _ h => h) rfl ?hyn12 hH rfl ?restn12
            case hyn12 => (intro W hW; clear hW; go_simp; try with_reducible rfl)
            (try simp only [Act.put])
            refine takeH (i := 11) (dst := some 30) (v := ?vn13) rfl rfl (by kernel_rfl) (by kernel_rfl) (by kernel_rfl) (fun _ _ _ h => h) rfl ?hyn13 hH rfl ?restn13
            case hyn13 => (intro W hW; clear hW; go_simp; try with_reducible rfl)
            (try simp only [Act.put])
            refine callH (i := 12) { dst := none, op := Go.Op.store 112 (Go.Operand.tmp 30) (Go.Operand.tmp 28), type := 0, pos := "ref.go:49", after := #[{ on := 11, ground := Go.Ground.data }, { on := 9, ground := Go.Ground.data }, { on := 9, ground := Go.Ground.chain }, { on := 0, ground := Go.Ground.phase }, { on := 1, ground := Go.Ground.phase }, { on := 2, ground := Go.Ground.phase }, { on := 3, ground := Go.Ground.phase }, { on := 4, ground := Go.Ground.phase }, { on := 5, ground := Go.Ground.phase }, { on := 6, ground := Go.Ground.phase }, { on := 7, ground := Go.Ground.phase }, { on := 8, ground := Go.Ground.phase }, { on := 9, ground := Go.Ground.phase }], guard := none } (by kernel_rfl) rfl rfl (fun K hK => ?_)
            go_simp
            clear hH
            refine hK.out _ _ trivial (fun hH => ?_)
            clear hK K
            (try simp only [Act.put, List.setIfInBounds_toArray, List.set_cons_zero, List.set_cons_succ])
            refine wpAnyH_done (by kernel_rfl) ?_ _
            have HL2 : Hid _ := LN
            have HB2 : Hid (Below w.heap.size w (w4.setCell ⟨w.heap.size, 0, none⟩ (.slice (some ⟨g, 0, none⟩) (k + 1) cp))) := (HBd.out.trans (b5.mono (by omega))).trans BN
            have HF2 : Hid (∀ o, (w4.setCell ⟨w.heap.size, 0, none⟩ (.slice (some ⟨g, 0, none⟩) (k + 1) cp)).frozen? ⟨w.heap.size, o, none⟩ = false) := fun o => FN o ((b5.frozen (p := ⟨w.heap.size, o, none⟩) (show w.heap.size < wd.heap.size by omega)).trans (HFd.out o))
            clear FN
            clear hH cA fA LN BN hrun L5 b5 L1 ev
            go_wp2_with fail
            go_round
            case rel => exact ⟨k + 1, _, _, by omega, by go_num, HL2, HF2, HB2⟩
            case measure => simp [intOf]; omega
          · go_simp
            clear hH
            refine hK.out _ _ trivial (fun hH => ?_)
            clear hK K
            (try simp only [Act.put, List.setIfInBounds_toArray, List.set_cons_zero, List.set_cons_succ])
            refine callH (i := 4) { dst := some 23, op := Go.Op.load 112 (Go.Operand.tmp 22), type := 112, pos := "ref.go:49", after := #[{ on := 3, ground := Go.Ground.data }], guard := none } (by kernel_rfl) rfl rfl (fun K hK => ?_)
            have cl := (World.cell?_alloc_lt (w5.alloc (.cells #[.string (str zer)] 9)) (.cells #[.slice (some ⟨w5.heap.size, 0, none⟩) 1 1] 117) ⟨w.heap.size, 0, none⟩ (show w.heap.size < (w5.alloc (.cells #[.string (str zer)] 9)).heap.size by rw [alloc_size]; omega)).trans ((World.cell?_alloc_lt w5 (.cells #[.string (str zer)] 9) ⟨w.heap.size, 0, none⟩ (show w.heap.size < w5.heap.size by omega)).trans L5.c0)
            go_simp
            clear hH cl
            refine hK.out _ _ trivial (fun hH => ?_)
            clear hK K
            (try simp only [Act.put, List.setIfInBounds_toArray, List.set_cons_zero, List.set_cons_succ])
            obtain ⟨ao', ac', g, cp, w4, ev, hrun, cA, fA, LN, BN, FN⟩ := L5.stepF (by omega) (by omega)
            obtain ⟨rfl, rfl⟩ : ao = ao' ∧ ac = ac' := by simpa using ev
            rw [hzb k (by omega)] at hrun
            refine readyH (i := 9) (v := .slice (some ⟨g, 0, none⟩) (k + 1) cp) (w' := w4) (by kernel_rfl) rfl rfl rfl (run_app60 rfl rfl rfl rfl hrun) rfl trivial ?_
            (try simp only [Act.put, List.setIfInBounds_toArray])
            refine takeH (i := 10) (dst := some 29) (v := ?vn14) rfl rfl (by kernel_rfl) (by kernel_rfl) (by kernel_rfl) (fun _ _ _ h => h) rfl ?hyn14 hH rfl ?restn14
            case hyn14 => (intro W hW; clear hW; go_simp; try with_reducible rfl)
            (try simp only [Act.put])
            refine takeH (i := 11) (dst := some 30) (v := ?vn15) rfl rfl (by kernel_rfl) (by kernel_rfl) (by kernel_rfl) (fun _ _ _ h => h) rfl ?hyn15 hH rfl ?restn15
            case hyn15 => (intro W hW; clear hW; go_simp; try with_reducible rfl)
            (try simp only [Act.put])
            refine callH (i := 12) { dst := none, op := Go.Op.store 112 (Go.Operand.tmp 30) (Go.Operand.tmp 28), type := 0, pos := "ref.go:49", after := #[{ on := 11, ground := Go.Ground.data }, { on := 9, ground := Go.Ground.data }, { on := 9, ground := Go.Ground.chain }, { on := 0, ground := Go.Ground.phase }, { on := 1, ground := Go.Ground.phase }, { on := 2, ground := Go.Ground.phase }, { on := 3, ground := Go.Ground.phase }, { on := 4, ground := Go.Ground.phase }, { on := 5, ground := Go.Ground.phase }, { on := 6, ground := Go.Ground.phase }, { on := 7, ground := Go.Ground.phase }, { on := 8, ground := Go.Ground.phase }, { on := 9, ground := Go.Ground.phase }], guard := none } (by kernel_rfl) rfl rfl (fun K hK => ?_)
            go_simp
            clear hH
            refine hK.out _ _ trivial (fun hH => ?_)
            clear hK K
            (try simp only [Act.put, List.setIfInBounds_toArray, List.set_cons_zero, List.set_cons_succ])
            refine wpAnyH_done (by kernel_rfl) ?_ _
            have HL2 : Hid _ := LN
            have HB2 : Hid (Below w.heap.size w (w4.setCell ⟨w.heap.size, 0, none⟩ (.slice (some ⟨g, 0, none⟩) (k + 1) cp))) := (HBd.out.trans (b5.mono (by omega))).trans BN
            have HF2 : Hid (∀ o, (w4.setCell ⟨w.heap.size, 0, none⟩ (.slice (some ⟨g, 0, none⟩) (k + 1) cp)).frozen? ⟨w.heap.size, o, none⟩ = false) := fun o => FN o ((b5.frozen (p := ⟨w.heap.size, o, none⟩) (show w.heap.size < wd.heap.size by omega)).trans (HFd.out o))
            clear FN
            clear hH cA fA LN BN hrun L5 b5 L1 ev
            go_wp2_with fail
            go_round
            case rel => exact ⟨k + 1, _, _, by omega, by go_num, HL2, HF2, HB2⟩
            case measure => simp [intOf]; omega
    · obtain rfl : k = n := by omega
      go_wp2_with fail
      go_ret2
      exact ⟨rfl, ⟨v, va, HL.out⟩, HFZ.out, HB.out⟩
theorem rnew_any (n : Nat) (h1 : 1 ≤ n) (hn : n ≤ 40) (w : World) :
    Calls Tryz.prog 10 #[.int .i64 (n : Int)] w fun e w' => e = .returned (.tuple #[.pointer (some ⟨w.heap.size, 0, none⟩), .int .i64 0]) ∧ (∃ gb cb va vc, RefW w' w.heap.size w.heap.size n false 0 (fun _ => zer :: []) gb cb va vc ∧ w.heap.size ≤ gb ∧ ∀ i, i < n → w.heap.size ≤ va i) ∧ Below w.heap.size w w' :=
  (rnew_go n h1 hn w).mono fun e w' ⟨h1', ⟨v, va, hL⟩, hf, hb⟩ => by
    obtain ⟨gb, cb, hR, hg, hv⟩ := hL.refW hf h1 (by omega)
    refine ⟨h1', ⟨gb, cb, va, fun _ => 1, ⟨?_, hR.fr, hR.fg, hR.rg, hR.ar⟩, hg, hv⟩, hb⟩
    have k := hR.at'
    refine { nn := k.nn, c0 := k.c0, c1 := k.c1, c2 := k.c2, rb := k.rb, gl := k.gl, cl := k.cl, row := fun i hi => k.row i hi, vers := fun i hi j hj => ?_ }
    have h := k.vers i hi j hj
    have hj0 : j = 0 := by simp at hj; omega
    subst hj0
    rw [h]
    simp [blk_zer n i hi]
end Go.Proofs.YthaogbbclocmaaaGreat
/- The document's store (leveeref11): Open. -/
namespace Go.Proofs.YthaogbbclocmaaaGreat
open Go.RowKit
set_option maxRecDepth 100000
/-- 'append' of one element onto an own row, as a step of a region that draws. -/
theorem step_app {ops : Array Oper} {o : Oper} {a : Act} {w : World} {K : Act → World → Prop} {Q : Exit → Act → World → Prop} {E : Prop} (hgd : o.guard = none) (s x : Operand) (t : TypeId)
    (ho : o.op = .call { callee := .builtin .append, args := #[s, x], argTypes := #[t, t] }) (base e : Nat) (i0 : TypeInfo) (z : Value) (size bytes : Nat) (hu : Tryz.prog.underlying t = some (.slice e)) (hi : Tryz.prog.info? e = some i0) (hz0 : i0.zero = some z) (hz1 : i0.size = size) (hz2 : i0.bytes = bytes) (hz3 : z.cells.size = size) (hsz : 0 < size) (hby : bytes ≤ 1000)
    (n : Nat) (xs ys : List Value) (v : Value) (hs : a.eval s = v) (g c : Nat) (hx : a.eval x = .slice (some ⟨g, 0, none⟩) 1 c) (hown : w.ownsRow base e size v n xs) (hyl : ys.length = size) (hsrc : ∀ j u, ys[j]? = some u → w.cell? ⟨g, j, none⟩ = some u) (hone : ∀ u ∈ ys, u.oneCell' = true) (hbase : base ≤ w.heap.size) (hb : n ≤ 1000000)
    (h : ∀ G cap w', w'.ownsRow base e size (.slice (some ⟨G, 0, none⟩) (n + 1) cap) (n + 1) (xs ++ ys) → w.grownBy w' v.ownBlock → (v.ownBlock = some G ∨ w.heap.size ≤ G) → K (a.put o.dst (.slice (some ⟨G, 0, none⟩) (n + 1) cap)) w') :
    if Region.wanted o (yielded ops a.tmps) = true then Oper.wp Tryz.prog o a w K Q else E := by
  have hw : Region.wanted o (yielded ops a.tmps) = true := by simp [Region.wanted, hgd]
  rw [if_pos hw]
  obtain ⟨G, cap, w', hr, hown', hgr, hat, _⟩ := run_append_lies (P := Tryz.prog) w t o.type base e i0 z size bytes hu hi hz0 hz1 hz2 hz3 hsz v n xs hown ⟨g, 0, none⟩ 1 c ys (by rw [hyl]; omega) (fun j u hj => by rw [addr_add, Nat.zero_add]; exact hsrc j u hj) hone (by omega) (by unfold maxLen; omega) (by
    have : (n + 1) * bytes ≤ 1000001 * 1000 := Nat.mul_le_mul (by omega) hby
    omega) hbase _ rfl
  unfold Oper.wp execOp
  simp only [ho, resolve, invoke, builtin]
  simp [hs, hx, hr, Result.andThen]
  refine h G cap w' hown' hgr ?_
  rcases hat with hat | hat
  · exact .inl hat
  · exact .inr (by omega)
/-- The texts of blocks. -/
def txs (n : Nat) : List Value := List.replicate n (Value.string (str zer))
theorem Tryz.infoS9 : (Tryz.prog.info? 9).map (fun i => (i.zero, i.size, i.bytes)) = some (some (.string ⟨#[]⟩), 1, 16) := by kernel_rfl
/-- The document's store at q, nothing open. -/
structure RSt0 (w0 w : World) (d q k : Nat) (v : Value) : Prop where
  be : Below w0.heap.size w0 w
  at' : w.heap[q]? = some (.cells #[.pointer (some ⟨d, 0, none⟩), v, .slice none 0 0, .int .i64 0] 43 (0, 0))
  ow : w.ownsRow (w0.heap.size + 1) 9 1 v k (txs k)
  qe : q = w0.heap.size
  sz : w0.heap.size + 1 ≤ w.heap.size
theorem RSt0.up {w0 w w' : World} {d q k : Nat} {v : Value} (h : RSt0 w0 w d q k v) (hb : Below w.heap.size w w') : RSt0 w0 w' d q k v := by
  have hq := h.qe
  have hz := h.sz
  exact ⟨h.be.trans (hb.mono h.be.size), (hb.block q (by omega)).trans h.at', row_same h.ow fun k hk => hb.block k (World.ownsRow.lt h.ow k hk).2, h.qe, by have := hb.size; omega⟩
theorem RSt0.next {w0 w w3 : World} {d q k : Nat} {v : Value} (h : RSt0 w0 w d q k v) {o : Obj} {G cap : Nat} (ho : w3.ownsRow (w0.heap.size + 1) 9 1 (.slice (some ⟨G, 0, none⟩) (k + 1) cap) (k + 1) (txs k ++ [Value.string (str zer)])) (hg : (w.alloc o).grownBy w3 v.ownBlock) :
    RSt0 w0 (w3.setCell ⟨q, 1, none⟩ (.slice (some ⟨G, 0, none⟩) (k + 1) cap)) d q (k + 1) (.slice (some ⟨G, 0, none⟩) (k + 1) cap) ∧ w3.heap[q]? = some (.cells #[.pointer (some ⟨d, 0, none⟩), v, .slice none 0 0, .int .i64 0] 43 (0, 0)) := by
  have hq := h.qe
  have hz := h.sz
  have hz3 := hg.size
  rw [size_alloc] at hz3
  have e : w3.heap[q]? = w.heap[q]? := by
    rw [hg.block q (by rw [size_alloc]; omega) (fun e => by have := (World.ownsRow.lt h.ow q e.symm).1; omega)]
    exact Below.heap_alloc _ _ _ (by omega)
  have hb3 : Below w0.heap.size w0 w3 := (h.be.alloc h.be.size o).trans ((Below.refl _ _).grown hg (by rw [size_alloc]; omega) (fun k hk => by have := (World.ownsRow.lt h.ow k hk).1; omega))
  refine ⟨⟨hb3.setCell (by show _ ≤ q; omega) _, ?_, ?_, h.qe, by rw [show (w3.setCell ⟨q, 1, none⟩ (.slice (some ⟨G, 0, none⟩) (k + 1) cap)).heap.size = w3.heap.size by simp [World.setCell]]; omega⟩, e.trans h.at'⟩
  · have := heap_setCell_same w3 q 1 _ _ (.slice (some ⟨G, 0, none⟩) (k + 1) cap) (e.trans h.at')
    exact this
  · have e2 : txs (k + 1) = txs k ++ [Value.string (str zer)] := by unfold txs; rw [List.replicate_succ']
    rw [e2]
    exact row_same ho fun k hk => heap_setCell_other w3 ⟨q, 1, none⟩ k _ (by have := (World.ownsRow.lt ho k hk).1; show k ≠ q; omega)
set_option maxHeartbeats 4000000 in
theorem ropen_any {base r n gb cb : Nat} {va vc : Nat → Nat} {w : World} (h : RefAt w base r n false 0 (fun _ => zer :: []) gb cb va vc) (hn : n ≤ 1000) :
    Calls Tryz.prog 13 #[.pointer (some ⟨r, 0, none⟩)] w fun e w' => e = .returned (.pointer (some ⟨w.heap.size, 0, none⟩)) ∧ ∃ v, RSt0 w w' r w.heap.size n v := by
  have HR : Hid (RefAt w base r n false 0 (fun _ => zer :: []) gb cb va vc) := h
  have hcb : (cb : Int) ≤ 9223372036854775807 := h.cl.2
  clear h
  go_enter Tryz.func13, Tryz.ntmps13
  go_wp2_with fail
  have HS0 : Hid (RSt0 w (w.alloc (.cells #[.pointer (some ⟨r, 0, none⟩), .slice none 0 0, .slice none 0 0, .int .i64 0] 43)) r w.heap.size 0 (.slice none 0 0)) := ⟨(Below.refl _ _).alloc (Nat.le_refl _) _, heap_alloc_new _ _, World.ownsRow_nil _ _ _ _, rfl, by rw [size_alloc]; omega⟩
  go_loopg [4, 5, 6] n (fun gg t4 _ _ W => ∃ (gw : World) (k : Nat) (v : Value), gw = W ∧ k ≤ n ∧ n - k ≤ gg ∧ t4 = .int .i64 k ∧ Hid (RSt0 w gw r w.heap.size k v))
  case atStart => exact ⟨_, 0, _, rfl, by omega, by omega, rfl, HS0⟩
  case round =>
    clear HS0
    obtain ⟨gw, k, v, rfl, hk, hgk, rfl, HS⟩ := hrel
    have c0 : gw.cell? ⟨r, 0, none⟩ = some (.slice (some ⟨gb, 0, none⟩) n cb) := (HR.out.below HS.out.be (Nat.le_refl _)).c0
    by_cases hlt : (k : Int) < (n : Int)
    · have RD := rread_in (HR.out.below HS.out.be (Nat.le_refl _)) k (by omega) 0 zer rfl rfl
      rw [show zer.length = 256 by simp [zer]] at RD
      go_wp2_with (first | (go_at_call 63; refine Hid.out ?_))
      change Calls _ _ _ _ _
      refine RD.mono ?_
      clear RD
      rintro r2 w2 ⟨g, c, rfl, hsr, hb2⟩
      have HS2 : Hid (RSt0 w w2 r w.heap.size k v) := HS.out.up hb2
      have CV := conv_str (hsr.below (Below.refl w2.heap.size w2).drew (Nat.le_refl _)) 256 c (by simp [zer])
      obtain ⟨ao, ca, hv⟩ : ∃ ao ca, v = .slice ao k ca := by
        obtain ⟨_, h2⟩ := HS2.out.ow
        rcases h2 with ⟨h2, h3⟩ | ⟨g, cap, _, hv, _⟩
        · exact ⟨none, 0, by rw [h2, h3]⟩
        · exact ⟨_, cap, hv⟩
      have q1 : w2.cell? ⟨w.heap.size, 1, none⟩ = some (.slice ao k ca) := by rw [← hv]; exact (cell_of_row _ _ _ _ _ _ HS2.out.at').trans rfl
      subst hv
      obtain ⟨i0, hi0, hz0, hz1, hz2⟩ := info_parts Tryz.infoS9
      have HI : Hid (Tryz.prog.info? 9 = some i0 ∧ i0.zero = some (.string ⟨#[]⟩) ∧ i0.size = 1 ∧ i0.bytes = 16) := ⟨hi0, hz0, hz1, hz2⟩
      clear hi0 hz0 hz1 hz2 hsr hb2 HS c0
      go_upto_region 6 with fail
      have HS3 : Hid (RSt0 w w2.drew r w.heap.size k (.slice ao k ca)) := HS2.out.up (Below.refl w2.heap.size w2).drew
      have q2 : (w2.alloc (.cells #[.string (str zer)] 9)).cell? ⟨w.heap.size, 1, none⟩ = some (.slice ao k ca) := (World.cell?_of_block (w := w2) (a := ⟨w.heap.size, 1, none⟩) (Below.heap_alloc _ _ _ (by have := HS2.out.sz; show w.heap.size < _; omega))).trans q1
      go_region_law (refine step_app rfl (.tmp 29) (.tmp 32) 40 rfl (w.heap.size + 1) 9 i0 _ 1 16 Tryz.underlying40 HI.out.1 HI.out.2.1 HI.out.2.2.1 HI.out.2.2.2 rfl (by decide) (by decide) k (txs k) [Value.string (str zer)] (.slice ao k ca) (by simp [Act.eval]) w2.heap.size 1 (by simp [Act.eval]) (row_same HS2.out.ow (fun l hl => Below.heap_alloc _ _ _ (World.ownsRow.lt HS2.out.ow l hl).2)) rfl (fun j u hj => by cases j with
        | zero => simp at hj; subst hj; exact (cell_of_row _ _ _ _ _ _ (heap_alloc_new w2.drew _)).trans rfl
        | succ j => simp at hj) (fun u hu => by simp at hu; subst hu; rfl) (show w.heap.size + 1 ≤ (w2.drew.alloc (.cells #[.string (str zer)] 9)).heap.size by rw [size_alloc]; have := HS3.out.sz; omega) (by omega) ?_; intro G cap w' ho hg hat; have hN := HS3.out.next (o := .cells #[.string (str zer)] 9) ho hg; have qz : w'.cell? ⟨w.heap.size, 1, none⟩ = some (.slice ao k ca) := (cell_of_row _ _ _ _ _ _ hN.2).trans rfl; have fzz : w'.frozen? ⟨w.heap.size, 1, none⟩ = false := frozen_of_row w' _ 1 _ _ hN.2; have HN : Hid (RSt0 w (w'.setCell ⟨w.heap.size, 1, none⟩ (.slice (some ⟨G, 0, none⟩) (k + 1) cap)) r w.heap.size (k + 1) (.slice (some ⟨G, 0, none⟩) (k + 1) cap)) := hN.1; clear ho hg hat hN)
      all_goals (
        go_wp2_with fail
        go_roundg (n - (k + 1))
        case measure => omega
        case rel => exact ⟨_, k + 1, _, rfl, by omega, by omega, by go_num, HN⟩)
    · go_wp2_with fail
      go_ret
      obtain rfl : k = n := by omega
      exact ⟨rfl, v, HS.out⟩
end Go.Proofs.YthaogbbclocmaaaGreat
