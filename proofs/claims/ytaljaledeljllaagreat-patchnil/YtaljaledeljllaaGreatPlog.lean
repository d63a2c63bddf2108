/- What holds of a store between its calls. -/
import Derived.Test.YtaljaledeljllaaGreatPsettle
import Derived.Test.YtaljaledeljllaaGreatDFlush
namespace Go.Proofs.YtaljaledeljllaaGreat
open Go.RowKit
set_option maxRecDepth 100000
def lkC : List Ch → Int → Nat
  | [], _ => 0
  | c :: r, x => if (c.id : Int) = x then c.q + 1 else lkC r x
def lkB : List Bk → Int → Nat
  | [], _ => 0
  | b :: r, x => if (b.n : Int) = x then b.q + 1 else lkB r x
def bns (B : List Bk) : List Int := B.map fun b => (b.n : Int)
theorem lkC_at {C : List Ch} (h : Asc C) {c : Ch} (hc : c ∈ C) : lkC C c.id = c.q + 1 := by
  induction C with
  | nil => cases hc
  | cons x r ih =>
    obtain ⟨h1, h2⟩ := List.pairwise_cons.1 h
    rcases List.mem_cons.1 hc with hc | hc
    · subst hc; simp [lkC]
    · have := h1 c hc
      rw [lkC, if_neg (by omega)]
      exact ih h2 hc
theorem lkC_none : ∀ {C : List Ch} {i : Int}, (∀ c ∈ C, ¬ (c.id : Int) = i) → lkC C i = 0
  | [], _, _ => rfl
  | c :: r, i, h => by rw [lkC, if_neg (h c (by simp))]; exact lkC_none fun c hc => h c (by simp [hc])
theorem lkC_opn {C : List Ch} (h : Asc C) (i : Int) : decide (lkC C i = 0) = !opn C i := by
  by_cases ho : opn C i = true
  · obtain ⟨c, hc, rfl⟩ := opn_iff.1 ho
    rw [lkC_at h hc, ho]; simp
  · have hn : ∀ c ∈ C, ¬ (c.id : Int) = i := fun c hc e => ho (opn_iff.2 ⟨c, hc, e⟩)
    rw [lkC_none hn]
    simp [show opn C i = false by simpa using ho]
theorem lkC_add {C : List Ch} {c : Ch} (h : ∀ x ∈ C, ¬ x.id = c.id) : setF (lkC C) c.id (c.q + 1) = lkC (C ++ [c]) := by
  funext x
  unfold setF
  induction C with
  | nil => simp only [List.nil_append, lkC, eq_comm]
  | cons a r ih =>
    simp only [List.cons_append, lkC]
    have ih' := ih fun x hx => h x (by simp [hx])
    by_cases hx : x = c.id
    · rw [if_pos hx] at ih' ⊢
      rw [if_neg (by have := h a (by simp); omega)]; exact ih'
    · rw [if_neg hx] at ih' ⊢
      rw [ih']
theorem lkC_filter (p : Ch → Bool) {C : List Ch} (h : Asc C) (x : Int) : lkC (C.filter p) x = if opn (C.filter fun c => !p c) x then 0 else lkC C x := by
  by_cases ho : opn (C.filter fun c => !p c) x = true
  · rw [if_pos ho]
    obtain ⟨c, hc, rfl⟩ := opn_iff.1 ho
    obtain ⟨hc1, hc2⟩ := List.mem_filter.1 hc
    refine lkC_none fun y hy e => ?_
    obtain ⟨hy1, hy2⟩ := List.mem_filter.1 hy
    have := h.inj hy1 hc1 (by omega)
    subst this
    simp [hy2] at hc2
  · rw [if_neg ho]
    by_cases hC : ∃ c ∈ C, (c.id : Int) = x
    · obtain ⟨c, hc, rfl⟩ := hC
      have hp : p c = true := by
        apply Classical.byContradiction
        intro hn
        exact ho (opn_iff.2 ⟨c, List.mem_filter.2 ⟨hc, by simpa using hn⟩, rfl⟩)
      rw [lkC_at h hc, lkC_at (List.Pairwise.filter _ h) (List.mem_filter.2 ⟨hc, hp⟩)]
    · rw [lkC_none (fun c hc e => hC ⟨c, hc, e⟩), lkC_none (fun c hc e => hC ⟨c, (List.mem_filter.1 hc).1, e⟩)]
theorem lkB_at {B : List Bk} (h : (B.map (·.n)).Nodup) {b : Bk} (hb : b ∈ B) : lkB B b.n = b.q + 1 := by
  induction B with
  | nil => cases hb
  | cons x r ih =>
    obtain ⟨h1, h2⟩ := List.nodup_cons.1 h
    rcases List.mem_cons.1 hb with hb | hb
    · subst hb; simp [lkB]
    · rw [lkB, if_neg (fun e => h1 (List.mem_map.2 ⟨b, hb, by show b.n = x.n; omega⟩))]
      exact ih h2 hb
theorem lkB_none : ∀ {B : List Bk} {i : Int}, (∀ b ∈ B, ¬ (b.n : Int) = i) → lkB B i = 0
  | [], _, _ => rfl
  | c :: r, i, h => by rw [lkB, if_neg (h c (by simp))]; exact lkB_none fun c hc => h c (by simp [hc])
theorem lkB_same : ∀ {Y Z : List Bk} {b b' : Bk}, b'.n = b.n → b'.q = b.q → lkB (Y ++ b' :: Z) = lkB (Y ++ b :: Z)
  | [], Z, b, b', h1, h2 => by funext x; simp only [List.nil_append, lkB, h1, h2]
  | a :: r, Z, b, b', h1, h2 => by funext x; simp only [List.cons_append, lkB, lkB_same (Y := r) (Z := Z) h1 h2]
theorem lkB_add {B : List Bk} {b : Bk} (h : ∀ x ∈ B, ¬ x.n = b.n) : setF (lkB B) b.n (b.q + 1) = lkB (B ++ [b]) := by
  funext x
  unfold setF
  induction B with
  | nil => simp only [List.nil_append, lkB, eq_comm]
  | cons a r ih =>
    simp only [List.cons_append, lkB]
    have ih' := ih fun x hx => h x (by simp [hx])
    by_cases hx : x = b.n
    · rw [if_pos hx] at ih' ⊢
      rw [if_neg (by have := h a (by simp); omega)]; exact ih'
    · rw [if_neg hx] at ih' ⊢
      rw [ih']
theorem lkB_del {Y Z : List Bk} {b : Bk} (h : ((Y ++ b :: Z).map (·.n)).Nodup) : setF (lkB (Y ++ b :: Z)) b.n 0 = lkB (Y ++ Z) := by
  have hno : ∀ x ∈ Y ++ Z, ¬ x.n = b.n := fun x hx => by
    rcases List.mem_append.1 hx with hx | hx
    · exact nodup_mid h (.inl hx)
    · exact nodup_mid h (.inr hx)
  funext x
  unfold setF
  by_cases hx : x = b.n
  · rw [if_pos hx, lkB_none (fun y hy e => hno y hy (by omega))]
  · rw [if_neg hx]
    clear hno h
    induction Y with
    | nil => rw [List.nil_append, List.nil_append, lkB, if_neg (fun c => hx c.symm)]
    | cons a r ih => rw [List.cons_append, List.cons_append, lkB, lkB, ih]
/-- What holds of a store; pend are blocks that are not settled yet behind a flush. -/
structure PL (s : PSt) (ops : Nat → List Int) (pend : List Int) (κ : Nat) : Prop where
  asc : Asc s.C
  idr : ∀ c ∈ s.C, 1 ≤ c.id ∧ c.id ≤ s.cnt
  ft : ∀ c ∈ s.C, fits c ∧ 1 ≤ c.d.length
  fc : s.fC = lkC s.C
  kc : s.kC = cids s.C
  fb : s.fB = lkB s.B
  kb : s.kB = bns s.B
  bn : (s.B.map (·.n)).Nodup
  bdn : ∀ b ∈ s.B, b.n < s.σ.dn
  op : ∀ b ∈ s.B, ops b.q = cids (ofB s.C b.n)
  cb : ∀ c ∈ s.C, ∃ b ∈ s.B, b.n = c.b
  bc : ∀ b ∈ s.B, (b.n : Int) ∉ pend → ∃ c ∈ s.C, c.b = b.n
  pb : ∀ i ∈ pend, ∃ b ∈ s.B, (b.n : Int) = i
  bal : ∀ b ∈ s.B, b.ba.length = 256 ∧ b.la.length = 256
  ah : ∀ c ∈ s.C, (∀ i ∈ c.ah, 1 ≤ i ∧ i < (c.id : Int)) ∧ c.ah.length ≤ 2000
  la : ∀ b ∈ s.B, ∀ i ∈ b.la, 0 ≤ i ∧ i ≤ (s.cnt : Int)
  lam : ∀ b ∈ s.B, ∀ c ∈ s.C, c.b = b.n → ∀ j, cov c j → ∃ y ∈ s.C, (y.id : Int) = b.la.getD j 0 ∧ y.b = b.n ∧ cov y j ∧ c.id ≤ y.id
  ahm : ∀ c ∈ s.C, ∀ c' ∈ s.C, c'.b = c.b → c'.id < c.id → ∀ j, cov c' j → cov c j → ∃ y ∈ s.C, (y.id : Int) ∈ c.ah ∧ y.b = c.b ∧ cov y j ∧ c'.id ≤ y.id ∧ y.id < c.id
  wra : ∀ c ∈ s.C, c.wr = true → ∀ i ∈ c.ah, opn s.C i = true → ∃ y ∈ s.C, (y.id : Int) = i ∧ y.b = c.b ∧ y.wr = true
  len : s.σ.L.length ≤ s.σ.most
  mdn : s.σ.dn ≤ s.σ.most ∧ s.σ.dn ≤ 8
  en : s.σ.en = false ∧ s.σ.lf = 0
  bd : s.cnt ≤ κ ∧ s.kc ≤ κ ∧ s.kb ≤ κ ∧ s.σ.K ≤ 10 * κ ∧ ∀ n, (s.σ.ws n).length ≤ κ
  sfb : ∀ b ∈ s.B, s.σ.sf b.n = if (b.n : Int) ∈ pend then lays b.ba (wrs (ofB s.C b.n)) else b.ba
  lsb : ∀ b ∈ s.B, lst s.σ b.n = lays b.ba (wrs (ofB s.C b.n))
  cab : ∀ b ∈ s.B, ent s.σ.L b.n = some (lays b.ba (ofB s.C b.n), 1)
  cao : ∀ n, n < s.σ.dn → (∀ b ∈ s.B, ¬ b.n = n) → s.σ.ws n = [] ∧ (ent s.σ.L n = none ∨ ent s.σ.L n = some (s.σ.sf n, 0))
section
variable {s s' : PSt} {ops ops' : Nat → List Int} {pend : List Int} {κ : Nat}
/-- One that is written: so are those that it meets. -/
theorem PL.clo (h : PL s ops pend κ) : ∀ m : Nat, ∀ c ∈ s.C, c.id ≤ m → c.wr = true → ∀ c' ∈ s.C, c'.b = c.b → c'.id < c.id → ∀ j, cov c' j → cov c j → c'.wr = true := by
  intro m
  induction m with
  | zero => intro c hc hm; have := (h.idr c hc).1; omega
  | succ m ih =>
    intro c hc hm hw c' hc' hb hlt j hj hj'
    obtain ⟨y, hy, hya, hyb, hyj, hle, hyc⟩ := h.ahm c hc c' hc' hb hlt j hj hj'
    obtain ⟨z, hz, hzi, hzb, hzw⟩ := h.wra c hc hw (y.id : Int) hya (opn_iff.2 ⟨y, hy, rfl⟩)
    obtain rfl : z = y := h.asc.inj hz hy (by omega)
    by_cases e : c'.id = z.id
    · rw [h.asc.inj hc' hz e]; exact hzw
    · exact ih z hz (by omega) hzw c' hc' (by rw [hb, hyb]) (by omega) j hj hyj
/-- What is laid of those that were written, and then of the others, is all. -/
theorem PL.part (h : PL s ops pend κ) {b : Bk} (hb : b ∈ s.B) : lays (lays b.ba (wrs (ofB s.C b.n))) (nwr (ofB s.C b.n)) = lays b.ba (ofB s.C b.n) := by
  refine lays_part (fun c => c.wr) (h.bal b hb).1 (fun c hc => (h.ft c (List.mem_filter.1 hc).1).1) ?_
  refine List.Pairwise.imp_of_mem (fun {c c'} hc hc' hlt hw hw' j hj hj' => ?_) (h.asc.ofB b.n)
  obtain ⟨h1, h2⟩ := List.mem_filter.1 hc
  obtain ⟨h3, h4⟩ := List.mem_filter.1 hc'
  have := h.clo c'.id c' h3 (Nat.le_refl _) hw' c h1 (by simp at h2 h4; omega) hlt j hj' hj
  rw [hw] at this
  cases this
end
end Go.Proofs.YtaljaledeljllaaGreat
