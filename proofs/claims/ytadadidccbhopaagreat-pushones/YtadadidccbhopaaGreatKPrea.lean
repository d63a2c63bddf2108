/- Which changes are reached from one by those that it goes behind. Nothing of a program. -/
import Derived.Test.YtadadidccbhopaaGreatKPmod
namespace Go.Proofs.YtadadidccbhopaaGreat
open Go.RowKit
set_option maxRecDepth 100000
/-- One goes behind number i, or behind a change of C that does. -/
inductive Rea (C : List Ch) : Ch → Int → Prop
  | ahead {c : Ch} {i : Int} : i ∈ c.ah → Rea C c i
  | step {c d : Ch} {i : Int} : d ∈ C → (d.id : Int) ∈ c.ah → Rea C d i → Rea C c i
theorem Rea.trans {C : List Ch} {c d : Ch} {j i : Int} (h : Rea C c j) (hj : j = (d.id : Int)) (hd : d ∈ C) (k : Rea C d i) : Rea C c i := by
  induction h with
  | ahead h => rw [hj] at h; exact .step hd h k
  | step h1 h2 _ ih => exact .step h1 h2 (ih hj)
theorem Rea.mono {C C' : List Ch} (hs : ∀ x ∈ C, x ∈ C') {c : Ch} {i : Int} (h : Rea C c i) : Rea C' c i := by
  induction h with
  | ahead h => exact .ahead h
  | step h1 h2 _ ih => exact .step (hs _ h1) h2 ih
theorem Rea.map {C : List Ch} {g : Ch → Ch} (hg : ∀ c, (g c).id = c.id ∧ (g c).ah = c.ah) {c : Ch} {i : Int} (h : Rea C c i) : Rea (C.map g) (g c) i := by
  induction h with
  | ahead h => exact .ahead (by rw [(hg _).2]; exact h)
  | step h1 h2 _ ih => exact .step (List.mem_map.2 ⟨_, h1, rfl⟩) (by rw [(hg _).2, (hg _).1]; exact h2) ih
theorem Rea.lt {C : List Ch} (hah : ∀ c ∈ C, ∀ i ∈ c.ah, i < (c.id : Int)) {c : Ch} {i : Int} (h : Rea C c i) : c ∈ C → i < (c.id : Int) := by
  induction h with
  | ahead h => exact fun hc => hah _ hc _ h
  | step h1 h2 _ ih => exact fun hc => by have := ih h1; have := hah _ hc _ h2; omega
/-- The greatest number that there is: one is behind it straight. -/
theorem Rea.top {C : List Ch} (hah : ∀ c ∈ C, ∀ i ∈ c.ah, i < (c.id : Int)) {c : Ch} {i : Int} (hm : ∀ x ∈ C, (x.id : Int) ≤ i) (h : Rea C c i) : i ∈ c.ah := by
  cases h with
  | ahead h => exact h
  | step h1 _ h3 => have := h3.lt hah h1; have := hm _ h1; omega
/-- If one may be written, all open ones that it reaches may. -/
theorem Rea.alw {C : List Ch} {n : Nat} (hA : Asc C) (hah : ∀ c ∈ C, ∀ i ∈ c.ah, i < (c.id : Int)) {c : Ch} {i : Int} (h : Rea C c i) : c ∈ ofB C n → (c.id : Int) ∈ alw C n → opn C i = true → i ∈ alw C n := by
  induction h with
  | ahead h => exact fun hc hal ho => (alw_mem hA hah hc).1 hal _ h ho
  | @step c d i h1 h2 _ ih =>
    intro hc hal ho
    have h3 : (d.id : Int) ∈ Go.Proofs.YtadadidccbhopaaGreat.alw C n := (alw_mem hA hah hc).1 hal _ h2 (opn_iff.2 ⟨_, h1, rfl⟩)
    refine ih ?_ h3 ho
    obtain ⟨y, hy, e⟩ := List.mem_map.1 ((alw_sub C n).subset h3)
    have : y = d := hA.inj (List.mem_filter.1 hy).1 h1 (by omega)
    exact this ▸ hy
/-- If one is written, all open ones that it reaches are, in its block. -/
theorem Rea.wr {C : List Ch} (hA : Asc C) (hw : ∀ c ∈ C, c.wr = true → ∀ i ∈ c.ah, opn C i = true → ∃ y ∈ C, (y.id : Int) = i ∧ y.b = c.b ∧ y.wr = true) {c : Ch} {i : Int} (h : Rea C c i) : c ∈ C → c.wr = true → opn C i = true → ∃ y ∈ C, (y.id : Int) = i ∧ y.b = c.b ∧ y.wr = true := by
  induction h with
  | ahead h => exact fun hc hwc ho => hw _ hc hwc _ h ho
  | @step c d i h1 h2 _ ih =>
    intro hc hwc ho
    obtain ⟨y, hy, e, hb, hyw⟩ := hw _ hc hwc _ h2 (opn_iff.2 ⟨_, h1, rfl⟩)
    obtain rfl : y = d := hA.inj hy h1 (by omega)
    obtain ⟨z, hz, e1, e2, e3⟩ := ih hy hyw ho
    exact ⟨z, hz, e1, e2.trans hb, e3⟩
/-- Fewer changes: those that went were written, with all written ones of their block. -/
theorem Rea.less {C C' : List Ch} (hA : Asc C) (hw : ∀ c ∈ C, c.wr = true → ∀ i ∈ c.ah, opn C i = true → ∃ y ∈ C, (y.id : Int) = i ∧ y.b = c.b ∧ y.wr = true) (hs : ∀ x ∈ C', x ∈ C) (hr : ∀ x ∈ C, x ∈ C' ∨ (x.wr = true ∧ ∀ y ∈ C, y.wr = true → y.b = x.b → y ∉ C')) {c : Ch} {i : Int} (h : Rea C c i) : opn C' i = true → Rea C' c i := by
  induction h with
  | ahead h => exact fun _ => .ahead h
  | @step c d i h1 h2 h3 ih =>
    intro ho
    rcases hr d h1 with h4 | ⟨h4, h5⟩
    · exact .step h4 h2 (ih ho)
    · obtain ⟨z, hz, e⟩ := opn_iff.1 ho
      obtain ⟨y, hy, e1, e2, e3⟩ := h3.wr hA hw h1 h4 (opn_iff.2 ⟨z, hs z hz, e⟩)
      obtain rfl : y = z := hA.inj hy (hs z hz) (by omega)
      exact absurd hz (h5 y hy e3 e2)
/-- Of some numbers those are kept behind which all others are. -/
structure EndsOf (C : List Ch) (F : Int → Prop) (ah : List Int) : Prop where
  sub : ∀ i ∈ ah, F i
  cov : ∀ i, F i → i ∈ ah ∨ ∃ z ∈ C, F (z.id : Int) ∧ i ∈ z.ah
theorem EndsOf.rea {C : List Ch} {F : Int → Prop} {ah : List Int} (h : EndsOf C F ah) (hah : ∀ c ∈ C, ∀ i ∈ c.ah, i < (c.id : Int)) {M : Nat} (hM : ∀ c ∈ C, c.id ≤ M) {c : Ch} (hc : c.ah = ah) : ∀ (k : Nat) (i : Int), (M : Int) - i ≤ k → F i → Rea C c i
  | 0, i, hk, hF => by
    rcases h.cov i hF with h1 | ⟨z, hz, hF', hi⟩
    · exact .ahead (by rw [hc]; exact h1)
    · have := hah z hz i hi; have := hM z hz; omega
  | k + 1, i, hk, hF => by
    rcases h.cov i hF with h1 | ⟨z, hz, hF', hi⟩
    · exact .ahead (by rw [hc]; exact h1)
    · have h2 := hah z hz i hi
      exact (h.rea hah hM hc k (z.id : Int) (by omega) hF').trans rfl hz (.ahead hi)
theorem EndsOf.all {C : List Ch} {F : Int → Prop} {ah : List Int} (h : EndsOf C F ah) (hah : ∀ c ∈ C, ∀ i ∈ c.ah, i < (c.id : Int)) {M : Nat} (hM : ∀ c ∈ C, c.id ≤ M) {c : Ch} (hc : c.ah = ah) {i : Int} (hF : F i) : Rea C c i := h.rea hah hM hc ((M : Int) - i).toNat i (by omega) hF
end Go.Proofs.YtadadidccbhopaaGreat
