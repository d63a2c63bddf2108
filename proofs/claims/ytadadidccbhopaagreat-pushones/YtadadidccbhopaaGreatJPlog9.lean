/- What holds of a store between its calls. -/
import Derived.Test.YtadadidccbhopaaGreatJPdirty2
import Derived.Test.YtadadidccbhopaaGreatJDOpen3
import Derived.Test.YtadadidccbhopaaGreatKPrea
namespace Go.Proofs.YtadadidccbhopaaGreat
open Go.RowKit
set_option maxRecDepth 100000
def lkC : List Ch → Int → Nat
  | [], _ => 0
  | c :: r, x => if (c.id : Int) = x then c.q + 1 else lkC r x
def lkB : List Bk → Int → Nat
  | [], _ => 0
  | b :: r, x => if (b.n : Int) = x then b.q + 1 else lkB r x
def bns (B : List Bk) : List Int := B.map fun b => (b.n : Int)
theorem lkC_at {C : List Ch} (h : Asc C) {c : Ch} (hc : c ∈ C) : lkC C c.id = c.q + 1 := by
  induction C with
  | nil => cases hc
  | cons x r ih =>
    obtain ⟨h1, h2⟩ := List.pairwise_cons.1 h
    rcases List.mem_cons.1 hc with hc | hc
    · subst hc; simp [lkC]
    · have := h1 c hc
      rw [lkC, if_neg (by omega)]
      exact ih h2 hc
theorem lkC_none : ∀ {C : List Ch} {i : Int}, (∀ c ∈ C, ¬ (c.id : Int) = i) → lkC C i = 0
  | [], _, _ => rfl
  | c :: r, i, h => by rw [lkC, if_neg (h c (by simp))]; exact lkC_none fun c hc => h c (by simp [hc])
theorem lkC_opn {C : List Ch} (h : Asc C) (i : Int) : decide (lkC C i = 0) = !opn C i := by
  by_cases ho : opn C i = true
  · obtain ⟨c, hc, rfl⟩ := opn_iff.1 ho
    rw [lkC_at h hc, ho]; simp
  · have hn : ∀ c ∈ C, ¬ (c.id : Int) = i := fun c hc e => ho (opn_iff.2 ⟨c, hc, e⟩)
    rw [lkC_none hn]
    simp [show opn C i = false by simpa using ho]
theorem lkC_add {C : List Ch} {c : Ch} (h : ∀ x ∈ C, ¬ x.id = c.id) : setF (lkC C) c.id (c.q + 1) = lkC (C ++ [c]) := by
  funext x
  unfold setF
  induction C with
  | nil => simp only [List.nil_append, lkC, eq_comm]
  | cons a r ih =>
    simp only [List.cons_append, lkC]
    have ih' := ih fun x hx => h x (by simp [hx])
    by_cases hx : x = c.id
    · rw [if_pos hx] at ih' ⊢
      rw [if_neg (by have := h a (by simp); omega)]; exact ih'
    · rw [if_neg hx] at ih' ⊢
      rw [ih']
theorem lkC_filter (p : Ch → Bool) {C : List Ch} (h : Asc C) (x : Int) : lkC (C.filter p) x = if opn (C.filter fun c => !p c) x then 0 else lkC C x := by
  by_cases ho : opn (C.filter fun c => !p c) x = true
  · rw [if_pos ho]
    obtain ⟨c, hc, rfl⟩ := opn_iff.1 ho
    obtain ⟨hc1, hc2⟩ := List.mem_filter.1 hc
    refine lkC_none fun y hy e => ?_
    obtain ⟨hy1, hy2⟩ := List.mem_filter.1 hy
    have := h.inj hy1 hc1 (by omega)
    subst this
    simp [hy2] at hc2
  · rw [if_neg ho]
    by_cases hC : ∃ c ∈ C, (c.id : Int) = x
    · obtain ⟨c, hc, rfl⟩ := hC
      have hp : p c = true := by
        apply Classical.byContradiction
        intro hn
        exact ho (opn_iff.2 ⟨c, List.mem_filter.2 ⟨hc, by simpa using hn⟩, rfl⟩)
      rw [lkC_at h hc, lkC_at (List.Pairwise.filter _ h) (List.mem_filter.2 ⟨hc, hp⟩)]
    · rw [lkC_none (fun c hc e => hC ⟨c, hc, e⟩), lkC_none (fun c hc e => hC ⟨c, (List.mem_filter.1 hc).1, e⟩)]
theorem lkB_at {B : List Bk} (h : (B.map (·.n)).Nodup) {b : Bk} (hb : b ∈ B) : lkB B b.n = b.q + 1 := by
  induction B with
  | nil => cases hb
  | cons x r ih =>
    obtain ⟨h1, h2⟩ := List.nodup_cons.1 h
    rcases List.mem_cons.1 hb with hb | hb
    · subst hb; simp [lkB]
    · rw [lkB, if_neg (fun e => h1 (List.mem_map.2 ⟨b, hb, by show b.n = x.n; omega⟩))]
      exact ih h2 hb
theorem lkB_none : ∀ {B : List Bk} {i : Int}, (∀ b ∈ B, ¬ (b.n : Int) = i) → lkB B i = 0
  | [], _, _ => rfl
  | c :: r, i, h => by rw [lkB, if_neg (h c (by simp))]; exact lkB_none fun c hc => h c (by simp [hc])
theorem lkB_same : ∀ {Y Z : List Bk} {b b' : Bk}, b'.n = b.n → b'.q = b.q → lkB (Y ++ b' :: Z) = lkB (Y ++ b :: Z)
  | [], Z, b, b', h1, h2 => by funext x; simp only [List.nil_append, lkB, h1, h2]
  | a :: r, Z, b, b', h1, h2 => by funext x; simp only [List.cons_append, lkB, lkB_same (Y := r) (Z := Z) h1 h2]
theorem lkB_add {B : List Bk} {b : Bk} (h : ∀ x ∈ B, ¬ x.n = b.n) : setF (lkB B) b.n (b.q + 1) = lkB (B ++ [b]) := by
  funext x
  unfold setF
  induction B with
  | nil => simp only [List.nil_append, lkB, eq_comm]
  | cons a r ih =>
    simp only [List.cons_append, lkB]
    have ih' := ih fun x hx => h x (by simp [hx])
    by_cases hx : x = b.n
    · rw [if_pos hx] at ih' ⊢
      rw [if_neg (by have := h a (by simp); omega)]; exact ih'
    · rw [if_neg hx] at ih' ⊢
      rw [ih']
theorem lkB_del {Y Z : List Bk} {b : Bk} (h : ((Y ++ b :: Z).map (·.n)).Nodup) : setF (lkB (Y ++ b :: Z)) b.n 0 = lkB (Y ++ Z) := by
  have hno : ∀ x ∈ Y ++ Z, ¬ x.n = b.n := fun x hx => by
    rcases List.mem_append.1 hx with hx | hx
    · exact nodup_mid h (.inl hx)
    · exact nodup_mid h (.inr hx)
  funext x
  unfold setF
  by_cases hx : x = b.n
  · rw [if_pos hx, lkB_none (fun y hy e => hno y hy (by omega))]
  · rw [if_neg hx]
    clear hno h
    induction Y with
    | nil => rw [List.nil_append, List.nil_append, lkB, if_neg (fun c => hx c.symm)]
    | cons a r ih => rw [List.cons_append, List.cons_append, lkB, lkB, ih]
/-- What holds of a store; pend are blocks that are not settled yet behind a flush. -/
structure PL (s : PSt) (ops : Nat → List Int) (pend : List Int) (κ : Nat) : Prop where
  asc : Asc s.C
  idr : ∀ c ∈ s.C, 1 ≤ c.id ∧ c.id ≤ s.cnt
  ft : ∀ c ∈ s.C, fits c ∧ 1 ≤ c.d.length
  fc : s.fC = lkC s.C
  kc : s.kC = cids s.C
  fb : s.fB = lkB s.B
  kb : s.kB = bns s.B
  bn : (s.B.map (·.n)).Nodup
  bdn : ∀ b ∈ s.B, b.n < s.σ.dn
  op : ∀ b ∈ s.B, ops b.q = cids (ofB s.C b.n)
  cb : ∀ c ∈ s.C, ∃ b ∈ s.B, b.n = c.b
  bc : ∀ b ∈ s.B, (b.n : Int) ∉ pend → ∃ c ∈ s.C, c.b = b.n
  pb : ∀ i ∈ pend, ∃ b ∈ s.B, (b.n : Int) = i
  bal : ∀ b ∈ s.B, b.ba.length = 256 ∧ b.la.length = 256
  ah : ∀ c ∈ s.C, (∀ i ∈ c.ah, 1 ≤ i ∧ i < (c.id : Int)) ∧ c.ah.length ≤ 2000
  la : ∀ b ∈ s.B, ∀ i ∈ b.la, 0 ≤ i ∧ i ≤ (s.cnt : Int)
  lam : ∀ b ∈ s.B, ∀ c ∈ s.C, c.b = b.n → ∀ j, cov c j → ∃ y ∈ s.C, (y.id : Int) = b.la.getD j 0 ∧ y.b = b.n ∧ cov y j ∧ c.id ≤ y.id
  ahm : ∀ c ∈ s.C, ∀ c' ∈ s.C, c'.b = c.b → c'.id < c.id → ∀ j, cov c' j → cov c j → Rea s.C c (c'.id : Int)
  wra : ∀ c ∈ s.C, c.wr = true → ∀ i ∈ c.ah, opn s.C i = true → ∃ y ∈ s.C, (y.id : Int) = i ∧ y.b = c.b ∧ y.wr = true
  len : s.σ.L.length ≤ s.σ.most
  mdn : s.σ.dn ≤ s.σ.most ∧ s.σ.dn ≤ 8
  en : s.σ.en = false ∧ s.σ.lf = 0
  bd : s.cnt ≤ κ ∧ s.kc ≤ κ ∧ s.kb ≤ κ ∧ s.σ.K ≤ 10 * κ ∧ ∀ n, (s.σ.ws n).length ≤ κ
  sfb : ∀ b ∈ s.B, s.σ.sf b.n = if (b.n : Int) ∈ pend then lays b.ba (wrs (ofB s.C b.n)) else b.ba
  lsb : ∀ b ∈ s.B, lst s.σ b.n = lays b.ba (wrs (ofB s.C b.n))
  cab : ∀ b ∈ s.B, ent s.σ.L b.n = some (lays b.ba (ofB s.C b.n), 1)
  cao : ∀ n, n < s.σ.dn → (∀ b ∈ s.B, ¬ b.n = n) → s.σ.ws n = [] ∧ (ent s.σ.L n = none ∨ ent s.σ.L n = some (s.σ.sf n, 0))
section
variable {s s' : PSt} {ops ops' : Nat → List Int} {pend : List Int} {κ : Nat}
theorem PL.ahl (h : PL s ops pend κ) : ∀ c ∈ s.C, ∀ i ∈ c.ah, i < (c.id : Int) := fun c hc i hi => ((h.ah c hc).1 i hi).2
/-- One that is written: so are those that it meets. -/
theorem PL.clo (h : PL s ops pend κ) : ∀ m : Nat, ∀ c ∈ s.C, c.id ≤ m → c.wr = true → ∀ c' ∈ s.C, c'.b = c.b → c'.id < c.id → ∀ j, cov c' j → cov c j → c'.wr = true := by
  intro m c hc hm hw c' hc' hb hlt j hj hj'
  obtain ⟨z, hz, hzi, _, hzw⟩ := (h.ahm c hc c' hc' hb hlt j hj hj').wr h.asc h.wra hc hw (opn_iff.2 ⟨c', hc', rfl⟩)
  obtain rfl : z = c' := h.asc.inj hz hc' (by omega)
  exact hzw
/-- What is laid of those that were written, and then of the others, is all. -/
theorem PL.part (h : PL s ops pend κ) {b : Bk} (hb : b ∈ s.B) : lays (lays b.ba (wrs (ofB s.C b.n))) (nwr (ofB s.C b.n)) = lays b.ba (ofB s.C b.n) := by
  refine lays_part (fun c => c.wr) (h.bal b hb).1 (fun c hc => (h.ft c (List.mem_filter.1 hc).1).1) ?_
  refine List.Pairwise.imp_of_mem (fun {c c'} hc hc' hlt hw hw' j hj hj' => ?_) (h.asc.ofB b.n)
  obtain ⟨h1, h2⟩ := List.mem_filter.1 hc
  obtain ⟨h3, h4⟩ := List.mem_filter.1 hc'
  have := h.clo c'.id c' h3 (Nat.le_refl _) hw' c h1 (by simp at h2 h4; omega) hlt j hj' hj
  rw [hw] at this
  cases this
end
end Go.Proofs.YtadadidccbhopaaGreat
/- What holds of a store: behind Write. -/
namespace Go.Proofs.YtadadidccbhopaaGreat
open Go.RowKit
set_option maxRecDepth 100000
def setW (al : List Int) (c : Ch) : Ch := if (c.id : Int) ∈ al then { c with wr := true } else c
theorem setW_fold (al : List Int) : ∀ C : List Ch, al.foldl setW1 C = C.map (setW al) := by
  induction al with
  | nil => intro C; exact (List.map_id' C).symm.trans (List.map_congr_left fun c _ => by simp [setW])
  | cons i al ih =>
    intro C
    rw [List.foldl_cons, ih, setW1, List.map_map]
    refine List.map_congr_left fun c _ => ?_
    show setW al (if (c.id : Int) = i then { c with wr := true } else c) = setW (i :: al) c
    by_cases h1 : (c.id : Int) = i
    · rw [if_pos h1]
      have e1 : setW (i :: al) c = { c with wr := true } := if_pos (List.mem_cons.2 (.inl h1))
      rw [e1]
      unfold setW
      split <;> rfl
    · rw [if_neg h1]
      by_cases h2 : (c.id : Int) ∈ al
      · exact (if_pos h2).trans (if_pos (List.mem_cons.2 (.inr h2))).symm
      · exact (if_neg h2).trans (if_neg (fun hm => (List.mem_cons.1 hm).elim h1 h2)).symm
theorem setW_eqs (al : List Int) (c : Ch) : (setW al c).id = c.id ∧ (setW al c).b = c.b ∧ (setW al c).fr = c.fr ∧ (setW al c).d = c.d ∧ (setW al c).ah = c.ah ∧ (setW al c).q = c.q := by
  unfold setW; split <;> exact ⟨rfl, rfl, rfl, rfl, rfl, rfl⟩
theorem setW_wr (al : List Int) (c : Ch) : (setW al c).wr = true ↔ (c.id : Int) ∈ al ∨ c.wr = true := by
  unfold setW
  split
  · simp [*]
  · simp [*]
theorem lays_map (al : List Int) : ∀ (l : List Ch) (x : List UInt8), lays x (l.map (setW al)) = lays x l
  | [], _ => rfl
  | c :: l, x => by
    rw [List.map_cons, lays_cons, lays_cons, (setW_eqs al c).2.2.1, (setW_eqs al c).2.2.2.1]; exact lays_map al l _
theorem ofB_map (al : List Int) (C : List Ch) (n : Nat) : ofB (C.map (setW al)) n = (ofB C n).map (setW al) := by
  unfold ofB
  rw [List.filter_map]
  congr 1
  exact List.filter_congr fun c _ => by simp [(setW_eqs al c).2.1]
theorem cids_map (al : List Int) (C : List Ch) : cids (C.map (setW al)) = cids C := by
  unfold cids
  rw [List.map_map]
  exact List.map_congr_left fun c _ => by simp [(setW_eqs al c).1]
theorem opn_map (al : List Int) (C : List Ch) (i : Int) : opn (C.map (setW al)) i = opn C i := by
  unfold opn
  rw [List.any_map]
  congr 1
  funext c
  simp [(setW_eqs al c).1]
theorem lkC_map (al : List Int) : ∀ C : List Ch, lkC (C.map (setW al)) = lkC C
  | [] => rfl
  | c :: r => by
    funext x
    rw [List.map_cons, lkC, lkC, (setW_eqs al c).1, (setW_eqs al c).2.2.2.2.2, lkC_map al r]
section
variable {s s' : PSt} {ops ops' : Nat → List Int} {pend : List Int} {κ : Nat}
theorem lastOf_end (z : List UInt8) (l : List (List UInt8)) (d : List UInt8) : lastOf z (l ++ [d]) = d := by
  cases l with
  | nil => rfl
  | cons x r =>
    show ((x :: (r ++ [d])).getLast (by simp)) = d
    exact List.getLast_append (l := x :: r) (l' := [d]) (by simp)
theorem lst_upd {σ : CSt} {ws : Nat → List (List UInt8)} {n : Nat} {d : List UInt8} {σ' : CSt} (h1 : σ'.sf = σ.sf) (h2 : σ'.ws = upd ws n (ws n ++ [d])) (m : Nat) : lst σ' m = if m = n then d else lastOf (σ.sf m) (ws m) := by
  unfold lst
  rw [h1, h2]
  unfold Go.Proofs.YtadadidccbhopaaGreat.upd
  split
  · exact lastOf_end _ _ _
  · rfl
theorem PL.alw_ids (h : PL s ops pend κ) {n : Nat} {c : Ch} (hc : c ∈ s.C) : (c.id : Int) ∈ alw s.C n → c.b = n := fun hm => by
  obtain ⟨x, hx, hxi⟩ := List.mem_map.1 ((alw_sub s.C n).subset hm)
  obtain ⟨h1, h2⟩ := List.mem_filter.1 hx
  obtain rfl := h.asc.inj h1 hc (by omega)
  simpa using h2
theorem PL.wr_alw (h : PL s ops pend κ) : ∀ m : Nat, ∀ c ∈ s.C, c.id ≤ m → c.wr = true → (c.id : Int) ∈ alw s.C c.b := by
  intro m
  induction m with
  | zero => intro c hc hm; have := (h.idr c hc).1; omega
  | succ m ih =>
    intro c hc hm hw
    have hof : c ∈ ofB s.C c.b := List.mem_filter.2 ⟨hc, by simp⟩
    rw [alw_mem h.asc (fun c hc i hi => ((h.ah c hc).1 i hi).2) hof]
    intro i hi ho
    obtain ⟨y, hy, hyi, hyb, hyw⟩ := h.wra c hc hw i hi ho
    have := ((h.ah c hc).1 i hi).2
    have h2 := ih y hy (by omega) hyw
    rw [hyi, hyb] at h2
    exact h2
theorem PL.wrs_pick (h : PL s ops pend κ) (n : Nat) : wrs ((ofB s.C n).map (setW (alw s.C n))) = (pickC (ofB s.C n) (alw s.C n)).map (setW (alw s.C n)) := by
  unfold wrs pickC
  rw [List.filter_map]
  congr 1
  refine List.filter_congr fun c hc => ?_
  obtain ⟨h1, h2⟩ := List.mem_filter.1 hc
  have hb : c.b = n := by simpa using h2
  show (setW (alw s.C n) c).wr = decide ((c.id : Int) ∈ alw s.C n)
  rw [Bool.eq_iff_iff, setW_wr, decide_eq_true_eq]
  constructor
  · rintro (hm | hw)
    · exact hm
    · have := h.wr_alw c.id c h1 (Nat.le_refl _) hw
      rw [hb] at this; exact this
  · exact .inl
theorem PL.wrs_other (h : PL s ops pend κ) {n m : Nat} (hm : ¬ m = n) : wrs ((ofB s.C m).map (setW (alw s.C n))) = (wrs (ofB s.C m)).map (setW (alw s.C n)) := by
  unfold wrs
  rw [List.filter_map]
  congr 1
  refine List.filter_congr fun c hc => ?_
  obtain ⟨h1, h2⟩ := List.mem_filter.1 hc
  have hb : c.b = m := by simpa using h2
  show (setW (alw s.C n) c).wr = c.wr
  rw [Bool.eq_iff_iff, setW_wr]
  constructor
  · rintro (hx | hw)
    · exact absurd (h.alw_ids h1 hx) (by omega)
    · exact hw
  · exact .inr
theorem PL.write (h : PL s ops [] κ) {n : Nat} {b : Bk} (hb : b ∈ s.B) (hbn : b.n = n) (hR : WriteR s n b (alw s.C n) s') : PL s' ops [] (κ + 1) := by
  obtain ⟨σ1, vs', pn, d, tg, hdp, hC, rfl⟩ := hR
  have mm : ∀ c ∈ s.C.map (setW (alw s.C n)), ∃ x ∈ s.C, c = setW (alw s.C n) x := fun c hc => by obtain ⟨x, hx, e⟩ := List.mem_map.1 hc; exact ⟨x, hx, e.symm⟩
  have mi : ∀ x ∈ s.C, setW (alw s.C n) x ∈ s.C.map (setW (alw s.C n)) := fun x hx => List.mem_map.2 ⟨x, hx, rfl⟩
  have ee := fun x => setW_eqs (alw s.C n) x
  have hcab := h.cab b hb
  rw [hbn] at hcab
  rw [hcab] at hdp
  have hdp' : d = lays b.ba (ofB s.C n) ∧ pn = 1 := by simpa using hdp
  have hws : upd s.σ.ws n (s.σ.ws n ++ [lays b.ba (pickC (ofB s.C n) (alw s.C n))]) = upd σ1.ws n (σ1.ws n ++ [lays b.ba (pickC (ofB s.C n) (alw s.C n))]) := by rw [hC.ws]
  have hbu : ∀ b' ∈ s.B, b'.n = n → b' = b := fun b' hb' e => by
    have h1 := lkB_at h.bn hb'
    obtain ⟨X, Y, hXY⟩ := List.append_of_mem hb
    have hbn' := h.bn
    rw [hXY] at hbn' hb'
    rcases mem_mid (e := b) hb' with rfl | ⟨_, h3⟩
    · rfl
    · exact absurd (e.trans hbn.symm) (nodup_mid hbn' h3)
  have hl : ∀ m, lst { σ1 with ws := upd s.σ.ws n (s.σ.ws n ++ [lays b.ba (pickC (ofB s.C n) (alw s.C n))]), vs := vs' } m = if m = n then lays b.ba (pickC (ofB s.C n) (alw s.C n)) else lst s.σ m := fun m => lst_upd (σ := s.σ) (ws := s.σ.ws) (n := n) (σ' := { σ1 with ws := upd s.σ.ws n (s.σ.ws n ++ [lays b.ba (pickC (ofB s.C n) (alw s.C n))]), vs := vs' }) hC.sf rfl m
  refine {
    asc := ?_, idr := ?_, ft := ?_, fc := ?_, kc := ?_, fb := h.fb, kb := h.kb, bn := h.bn, bdn := (fun b' hb' => (by rw [hC.dn]; exact h.bdn b' hb')), op := ?_, cb := ?_, bc := ?_, pb := (fun i hi => (by cases hi)), bal := h.bal, ah := ?_, la := h.la, lam := ?_, ahm := ?_, wra := ?_, len := hC.len, mdn := (by rw [hC.dn, hC.most]; exact h.mdn), en := (by rw [hC.en, hC.lf]; exact h.en), bd := ?_, sfb := ?_, lsb := ?_, cab := ?_, cao := ?_ }
  all_goals (try rw [setW_fold])
  · unfold Asc
    rw [List.pairwise_map]
    exact List.Pairwise.imp (fun {a c} hac => by rw [(ee a).1, (ee c).1]; exact hac) h.asc
  · intro c hc
    obtain ⟨x, hx, rfl⟩ := mm c hc
    rw [(ee x).1]; exact h.idr x hx
  · intro c hc
    obtain ⟨x, hx, rfl⟩ := mm c hc
    unfold fits
    rw [(ee x).2.2.1, (ee x).2.2.2.1]; exact h.ft x hx
  · rw [lkC_map]; exact h.fc
  · rw [cids_map]; exact h.kc
  · intro b' hb'
    rw [ofB_map, cids_map]; exact h.op b' hb'
  · intro c hc
    obtain ⟨x, hx, rfl⟩ := mm c hc
    rw [(ee x).2.1]; exact h.cb x hx
  · intro b' hb' hp
    obtain ⟨c, hc, e⟩ := h.bc b' hb' hp
    exact ⟨_, mi c hc, by rw [(ee c).2.1]; exact e⟩
  · intro c hc
    obtain ⟨x, hx, rfl⟩ := mm c hc
    rw [(ee x).1, (ee x).2.2.2.2.1]; exact h.ah x hx
  · intro b' hb' c hc hcb j hj
    obtain ⟨x, hx, rfl⟩ := mm c hc
    unfold cov at hj
    rw [(ee x).2.1] at hcb
    rw [(ee x).2.2.1, (ee x).2.2.2.1] at hj
    obtain ⟨y, hy, h1, h2, h3, h4⟩ := h.lam b' hb' x hx hcb j hj
    refine ⟨_, mi y hy, by rw [(ee y).1]; exact h1, by rw [(ee y).2.1]; exact h2, ?_, by rw [(ee y).1, (ee x).1]; exact h4⟩
    unfold cov
    rw [(ee y).2.2.1, (ee y).2.2.2.1]; exact h3
  · intro c hc c' hc' hcb hlt j hj hj'
    obtain ⟨x, hx, rfl⟩ := mm c hc
    obtain ⟨x', hx', rfl⟩ := mm c' hc'
    unfold cov at hj hj'
    rw [(ee x).2.1, (ee x').2.1] at hcb
    rw [(ee x).1, (ee x').1] at hlt
    rw [(ee x').2.2.1, (ee x').2.2.2.1] at hj
    rw [(ee x).2.2.1, (ee x).2.2.2.1] at hj'
    rw [(ee x').1]
    exact (h.ahm x hx x' hx' hcb hlt j hj hj').map (fun c => ⟨(ee c).1, (ee c).2.2.2.2.1⟩)
  · intro c hc hw i hi ho
    obtain ⟨x, hx, rfl⟩ := mm c hc
    rw [opn_map] at ho
    rw [(ee x).2.2.2.2.1] at hi
    rw [setW_wr] at hw
    rcases hw with hm | hw
    · have hxb := h.alw_ids hx hm
      have hof : x ∈ ofB s.C n := List.mem_filter.2 ⟨hx, by simpa using hxb⟩
      have hin := (alw_mem h.asc (fun c hc i hi => ((h.ah c hc).1 i hi).2) hof).1 hm i hi ho
      obtain ⟨y, hy, hyi⟩ := opn_iff.1 ho
      refine ⟨_, mi y hy, by rw [(ee y).1]; exact hyi, ?_, (setW_wr _ _).2 (.inl (by rw [hyi]; exact hin))⟩
      rw [(ee y).2.1, (ee x).2.1, hxb]
      exact h.alw_ids hy (by rw [hyi]; exact hin)
    · obtain ⟨y, hy, hyi, hyb, hyw⟩ := h.wra x hx hw i hi ho
      exact ⟨_, mi y hy, by rw [(ee y).1]; exact hyi, by rw [(ee y).2.1, (ee x).2.1]; exact hyb, (setW_wr _ _).2 (.inr hyw)⟩
  · obtain ⟨h1, h2, h3, h4, h5⟩ := h.bd
    refine ⟨by show s.cnt ≤ _; omega, by show s.kc ≤ _; omega, by show s.kb ≤ _; omega, by have := hC.k1; show σ1.K ≤ _; omega, fun m => ?_⟩
    show (upd s.σ.ws n _ m).length ≤ _
    unfold Go.Proofs.YtadadidccbhopaaGreat.upd
    split
    · have := h5 n; simp; omega
    · have := h5 m; omega
  · intro b' hb'
    have := h.sfb b' hb'
    show σ1.sf b'.n = _
    rw [hC.sf, this]; rfl
  · intro b' hb'
    rw [hl, ofB_map]
    by_cases e : b'.n = n
    · rw [if_pos e, hbu b' hb' e, hbn, h.wrs_pick, lays_map]
    · rw [if_neg e, h.wrs_other e, lays_map]; exact h.lsb b' hb'
  · intro b' hb'
    rw [ofB_map, lays_map]
    show ent σ1.L b'.n = _
    by_cases e : b'.n = n
    · rw [e, hC.at', hdp'.1, hdp'.2, hbu b' hb' e]
    · rw [hC.oth _ e]; exact h.cab b' hb'
  · intro m hm hno
    have hmn : ¬ m = n := fun e => hno b hb (by rw [hbn, e])
    obtain ⟨h1, h2⟩ := h.cao m (by rw [hC.dn] at hm; exact hm) hno
    refine ⟨?_, ?_⟩
    · show upd s.σ.ws n _ m = []
      unfold Go.Proofs.YtadadidccbhopaaGreat.upd
      rw [if_neg hmn]; exact h1
    · show ent σ1.L m = none ∨ ent σ1.L m = some (σ1.sf m, 0)
      rw [hC.oth m hmn, hC.sf]; exact h2
end
end Go.Proofs.YtadadidccbhopaaGreat
/- What holds of a store: behind Patch. -/
namespace Go.Proofs.YtadadidccbhopaaGreat
open Go.RowKit
set_option maxRecDepth 100000
/-- The block that Patch finds or opens, ahead of the change. -/
structure BkOk (s : PSt) (σ2 : CSt) (n : Nat) (b : Bk) (d : List UInt8) : Prop where
  bn : b.n = n
  bal : b.ba.length = 256 ∧ b.la.length = 256
  la : ∀ i ∈ b.la, 0 ≤ i ∧ i ≤ (s.cnt : Int)
  lam : ∀ c ∈ s.C, c.b = n → ∀ j, cov c j → ∃ y ∈ s.C, (y.id : Int) = b.la.getD j 0 ∧ y.b = n ∧ cov y j ∧ c.id ≤ y.id
  sf : s.σ.sf n = b.ba
  ls : lst s.σ n = lays b.ba (wrs (ofB s.C n))
  da : lays b.ba (ofB s.C n) = d
  en : ent σ2.L n = some (d, 1)
section
variable {s s' : PSt} {ops ops' : Nat → List Int} {κ : Nat}
theorem ofB_none {C : List Ch} {n : Nat} (h : ∀ c ∈ C, ¬ c.b = n) : ofB C n = [] := by
  unfold ofB
  rw [List.filter_eq_nil_iff]
  exact fun c hc => by simpa using h c hc
theorem PL.bkOk (h : PL s ops [] κ) {n : Nat} (hn : n < s.σ.dn) {d : List UInt8} {pn : Nat} {σ1 : CSt} {s1 s2 : PSt} {o2 : Nat → List Int} {b : Bk} {Y Z : List Bk}
    (hd : (d, pn) = (ent s.σ.L n).getD (lst s.σ n, 0)) (hdl : d.length = 256) (hC : CRel s.σ σ1 n (some (d, pn))) (hs1 : s1.σ = σ1) (hs1B : s1.B = s.B) (hs1f : s1.fB = s.fB) (hO : OpRel s1 ops n d s2 o2 b Y Z) : BkOk s s2.σ n b d := by
  cases hO with
  | old hB hbn =>
    have hb : b ∈ s.B := by rw [← hs1B, hB]; simp
    have hcab := h.cab b hb
    rw [hbn] at hcab
    rw [hcab] at hd
    have hdp : d = lays b.ba (ofB s.C n) ∧ pn = 1 := by simpa using hd
    have h1 := h.sfb b hb
    have h2 := h.lsb b hb
    have h3 := h.lam b hb
    rw [hbn] at h1 h2 h3
    exact ⟨hbn, h.bal b hb, h.la b hb, h3, by simpa using h1, h2, hdp.1.symm, by rw [hs1, hC.at', hdp.2]⟩
  | @new q tg A B e hno hL hen hnd =>
    have hnb : ∀ x ∈ s.B, ¬ x.n = n := fun x hx e => by
      have := lkB_at h.bn hx
      rw [← h.fb, ← hs1f, e, hno] at this
      omega
    have hnc : ∀ c ∈ s.C, ¬ c.b = n := fun c hc e => by
      obtain ⟨x, hx, hxn⟩ := h.cb c hc
      exact hnb x hx (hxn.trans e)
    obtain ⟨h1, h2⟩ := h.cao n hn hnb
    have hl : lst s.σ n = s.σ.sf n := by unfold lst; rw [h1]; rfl
    have hdp : d = s.σ.sf n ∧ pn = 0 := by
      rcases h2 with h2 | h2
      · rw [h2] at hd; rw [hl] at hd; simpa using hd
      · rw [h2] at hd; simpa using hd
    have hnA : ∀ x ∈ A, ¬ x.n = n := fun x hx hxn => by
      rw [hL] at hnd
      exact nodup_mid hnd (.inl hx) (hxn.trans hen.symm)
    refine ⟨rfl, ⟨hdl, by simp [newBk]⟩, fun i hi => ?_, fun c hc hb => absurd hb (hnc c hc), hdp.1.symm, ?_, ?_, ?_⟩
    · have : i = 0 := by simpa [newBk] using hi
      omega
    · rw [ofB_none hnc, hl]; exact hdp.1.symm
    · rw [ofB_none hnc]; rfl
    · have h3 := hC.at'
      rw [← hs1, hL] at h3
      have h4 := ent_at (A := A) (B := B) (e := e) (by rw [hen]; exact hnA)
      rw [hen, h3] at h4
      have h5 : d = e.d ∧ pn = e.pin := by simpa using h4
      have h6 := ent_at (A := A) (B := B) (e := { e with pin := e.pin + 1 }) (by show ∀ x ∈ A, ¬ x.n = e.n; rw [hen]; exact hnA)
      have h7 : ent (A ++ { e with pin := e.pin + 1 } :: B) n = some (e.d, e.pin + 1) := by rw [← hen]; exact h6
      show ent (A ++ { e with pin := e.pin + 1 } :: B) n = _
      rw [h7, ← h5.1, ← h5.2, hdp.2]
theorem ofB_snoc (C : List Ch) (c : Ch) (n : Nat) : ofB (C ++ [c]) n = if c.b = n then ofB C n ++ [c] else ofB C n := by
  unfold ofB
  rw [List.filter_append]
  split <;> simp [*]
theorem opn_snoc {C : List Ch} {c : Ch} {i : Int} (h : opn (C ++ [c]) i = true) (hi : i < (c.id : Int)) : opn C i = true := by
  obtain ⟨x, hx, hxi⟩ := opn_iff.1 h
  rcases List.mem_append.1 hx with hx | hx
  · exact opn_iff.2 ⟨x, hx, hxi⟩
  · obtain rfl : x = c := by simpa using hx
    omega
theorem wrs_snoc (l : List Ch) (c : Ch) (h : c.wr = false) : wrs (l ++ [c]) = wrs l := by
  unfold wrs
  rw [List.filter_append]; simp [h]
theorem PL.patch (h : PL s ops [] κ) {n fr : Nat} (hn : n < s.σ.dn) {data : List UInt8} {after : List Int} (hd1 : 1 ≤ data.length) (hf : fr + data.length ≤ 256) (hR : PatchR s ops n fr data after s' ops') (hq : (s'.B.map (·.q)).Nodup) : PL s' ops' [] (κ + 1) := by
  obtain ⟨d, d2, pn, pn3, σ1, σ3, s2, o2, b, Y, Z, q, dv, av, ov, ah, tg0, tg, hd, hdl, hC1, hO, hs', ho', hah, hal, hC3, hd2⟩ := hR
  have hk := h.bkOk (s1 := { s with σ := σ1, C := s.C ++ [newCh (s.cnt + 1) n fr data q dv], tag := tg0 }) hn hd hdl hC1 rfl rfl rfl hO
  have hpn3 : pn3 = 1 := by rw [hk.en] at hd2; simpa using congrArg Prod.snd hd2
  obtain ⟨c0, hc0⟩ : ∃ c0 : Ch, c0 = { newCh (s.cnt + 1) n fr data q dv with av := av, ah := ah } := ⟨_, rfl⟩
  obtain ⟨b0, hb0⟩ : ∃ b0 : Bk, b0 = { b with ov := ov, la := laU b.la fr data.length ((s.cnt + 1 : Nat) : Int) } := ⟨_, rfl⟩
  have e1 : c0.id = s.cnt + 1 := by rw [hc0]; rfl
  have e2 : c0.b = n := by rw [hc0]; rfl
  have e3 : c0.fr = fr := by rw [hc0]; rfl
  have e4 : c0.d = data := by rw [hc0]; rfl
  have e5 : c0.ah = ah := by rw [hc0]
  have e6 : c0.wr = false := by rw [hc0]; rfl
  have e7 : c0.q = q := by rw [hc0]; rfl
  have f1 : b0.n = n := by rw [hb0]; exact hk.bn
  have f2 : b0.q = b.q := by rw [hb0]
  have f3 : b0.ba = b.ba := by rw [hb0]
  have f4 : ∀ j, b0.la.getD j 0 = if fr ≤ j ∧ j < fr + data.length then ((s.cnt + 1 : Nat) : Int) else b.la.getD j 0 := fun j => by
    rw [hb0]; exact laU_get (by rw [hk.bal.2]; exact hf) _ j
  have f5 : b0.la.length = 256 := by rw [hb0]; exact (laU_length (by rw [hk.bal.2]; exact hf) _).trans hk.bal.2
  have f6 : ∀ i ∈ b0.la, 0 ≤ i ∧ i ≤ ((s.cnt + 1 : Nat) : Int) := fun i hi => by
    rw [hb0] at hi
    have hi' : i ∈ b.la.take fr ++ List.replicate data.length ((s.cnt + 1 : Nat) : Int) ++ b.la.drop (fr + data.length) := hi
    simp only [List.mem_append] at hi'
    rcases hi' with (hi | hi) | hi
    · have := hk.la i (List.mem_of_mem_take hi); omega
    · have := (List.mem_replicate.1 hi).2; omega
    · have := hk.la i (List.mem_of_mem_drop hi); omega
  obtain ⟨g1, g2, g3, g4, g5, g6, g7⟩ : s'.C = s.C ++ [c0] ∧ s'.B = Y ++ b0 :: Z ∧ s'.cnt = s.cnt + 1 ∧ s'.kc = s.kc + 1 ∧ s'.fC = setF s.fC (c0.id : Int) (c0.q + 1) ∧ s'.kC = s.kC ++ [(c0.id : Int)] ∧ s'.σ = σ3 := by
    rw [hs', hc0, hb0]; exact ⟨rfl, rfl, rfl, rfl, rfl, rfl, rfl⟩
  have g8 : s'.fB = s2.fB ∧ s'.kB = s2.kB ∧ s'.kb = s2.kb := by rw [hs']; exact ⟨rfl, rfl, rfl⟩
  have idn : ∀ x ∈ s.C, x.id < c0.id := fun x hx => by have := (h.idr x hx).2; omega
  -- the blocks
  obtain ⟨k1, k2, k3, k4, k5, k6, k7, k8, k9, k10, k11⟩ : (∀ x, x ∈ Y ∨ x ∈ Z → x ∈ s.B ∧ ¬ x.n = n) ∧ ((Y ++ b0 :: Z).map (·.n)).Nodup ∧ s'.fB = lkB (Y ++ b0 :: Z) ∧ s'.kB = bns (Y ++ b0 :: Z) ∧ s'.kb ≤ s.kb + 1 ∧ (∀ x ∈ s.B, ¬ x.n = n → x ∈ Y ++ b0 :: Z) ∧ (o2 b.q = cids (ofB s.C n)) ∧ (∀ x, x ∈ Y ∨ x ∈ Z → ¬ x.q = b.q → o2 x.q = ops x.q) ∧ s2.σ.sf = s.σ.sf ∧ s2.σ.ws = s.σ.ws ∧ (s2.σ.dn = s.σ.dn ∧ s2.σ.most = s.σ.most ∧ s2.σ.en = s.σ.en ∧ s2.σ.lf = s.σ.lf ∧ s2.σ.K ≤ s.σ.K + 2 ∧ ∀ m, ¬ m = n → ent s2.σ.L m = ent s.σ.L m) := by
    have hbn : b0.n = b.n := by rw [hb0]
    obtain ⟨u1, u2, u3⟩ := g8
    cases hO with
    | old hB _ =>
      have hB' : s.B = Y ++ b :: Z := hB
      have hbm : b ∈ s.B := by rw [hB']; simp
      have hnd := h.bn
      rw [hB'] at hnd
      have hno : ∀ x, x ∈ Y ∨ x ∈ Z → ¬ x.n = n := fun x hx e => nodup_mid hnd hx (e.trans hk.bn.symm)
      have hop := h.op b hbm
      rw [hk.bn] at hop
      refine ⟨fun x hx => ⟨?_, hno x hx⟩, ?_, ?_, ?_, by rw [u3]; exact Nat.le_succ _, fun x hx hxn => ?_, hop, fun x _ _ => rfl, hC1.sf, hC1.ws, hC1.dn, hC1.most, hC1.en, hC1.lf, by have := hC1.k1; show σ1.K ≤ _; omega, hC1.oth⟩
      · rw [hB']; rcases hx with hx | hx <;> simp [hx]
      · rw [List.map_append, List.map_cons, hbn, ← List.map_cons, ← List.map_append]; exact hnd
      · rw [u1]; exact (h.fb.trans (by rw [hB'])).trans (lkB_same hbn f2).symm
      · rw [u2]; refine (h.kb.trans (by rw [hB'])).trans ?_
        unfold bns
        rw [List.map_append, List.map_cons, List.map_append, List.map_cons, hbn]
      · rw [hB'] at hx
        rcases List.mem_append.1 hx with hx | hx
        · simp [hx]
        · rcases List.mem_cons.1 hx with hx | hx
          · rw [hx] at hxn; exact absurd hk.bn hxn
          · simp [hx]
    | @new q2 tg2 A B e hno hL hen hnd =>
      have hnb : ∀ x ∈ s.B, ¬ x.n = n := fun x hx e => by
        have := lkB_at h.bn hx
        have hno' : s.fB n = 0 := hno
        rw [← h.fb, e, hno'] at this
        omega
      have hnc : ∀ c ∈ s.C, ¬ c.b = n := fun c hc e => by
        obtain ⟨x, hx, hxn⟩ := h.cb c hc
        exact hnb x hx (hxn.trans e)
      refine ⟨fun x hx => ?_, ?_, ?_, ?_, by rw [u3]; exact Nat.le_refl _, fun x hx _ => by simp [hx], ?_, fun x _ hx => if_neg hx, hC1.sf, hC1.ws, hC1.dn, hC1.most, hC1.en, hC1.lf, by have := hC1.k1; show σ1.K + 1 ≤ _; omega, fun m hm => ?_⟩
      · rcases hx with hx | hx
        · exact ⟨hx, hnb x hx⟩
        · cases hx
      · rw [List.map_append, List.nodup_append]
        refine ⟨h.bn, by simp, fun a ha b' hb' => ?_⟩
        obtain ⟨x, hx, rfl⟩ := List.mem_map.1 ha
        have hb'' : b' = b0.n := by simpa using hb'
        rw [hb'', f1]; exact hnb x hx
      · rw [u1]
        have h3 := lkB_add (B := s.B) (b := b0) (by rw [f1]; exact hnb)
        rw [← h3, f1, f2, ← h.fb]; rfl
      · rw [u2]
        show s.kB ++ [(n : Int)] = _
        rw [h.kb]; unfold bns; simp [f1]
      · show (if q2 = q2 then [] else ops q2) = _
        rw [if_pos rfl, ofB_none hnc]; rfl
      · show ent (A ++ { e with pin := e.pin + 1 } :: B) m = _
        rw [← hC1.oth m hm]
        have hL' : σ1.L = A ++ e :: B := hL
        rw [hL', ent_other (e := e) (by rw [hen]; exact fun c => hm c.symm), ent_other (e := { e with pin := e.pin + 1 }) (by show ¬ e.n = m; rw [hen]; exact fun c => hm c.symm)]
  have mB : ∀ x ∈ Y ++ b0 :: Z, x = b0 ∨ (x ∈ s.B ∧ ¬ x.n = n ∧ (x ∈ Y ∨ x ∈ Z)) := fun x hx => by
    rcases mem_mid (e := b0) hx with rfl | ⟨_, h2⟩
    · exact .inl rfl
    · exact .inr ⟨(k1 x h2).1, (k1 x h2).2, h2⟩
  have mC : ∀ x ∈ s.C ++ [c0], x = c0 ∨ x ∈ s.C := fun x hx => by
    rcases List.mem_append.1 hx with hx | hx
    · exact .inr hx
    · exact .inl (by simpa using hx)
  have iC : ∀ x ∈ s.C, x ∈ s.C ++ [c0] := fun x hx => by simp [hx]
  obtain ⟨v1, v2, v3, v4, v5, v6⟩ := k11
  have hC := hC3
  have ws' : s'.σ.ws = s.σ.ws := by rw [g7, hC.ws, k10]
  have sf' : s'.σ.sf = s.σ.sf := by rw [g7, hC.sf, k9]
  have ls' : ∀ m, lst s'.σ m = lst s.σ m := fun m => by unfold lst; rw [ws', sf']
  have en' : ∀ m, ¬ m = n → ent s'.σ.L m = ent s.σ.L m := fun m hm => by rw [g7, hC.oth m hm, v6 m hm]
  rw [g2] at hq
  refine {
    asc := ?_, idr := ?_, ft := ?_, fc := ?_, kc := ?_, fb := ?_, kb := ?_, bn := ?_, bdn := ?_, op := ?_, cb := ?_, bc := ?_, pb := (fun i hi => (by cases hi)), bal := ?_, ah := ?_, la := ?_, lam := ?_, ahm := ?_, wra := ?_, len := ?_, mdn := ?_, en := ?_, bd := ?_, sfb := ?_, lsb := ?_, cab := ?_, cao := ?_ }
  all_goals (try rw [g1]); all_goals (try rw [g2])
  · refine List.pairwise_append.2 ⟨h.asc, by simp, fun a ha c hc => ?_⟩
    obtain rfl : c = c0 := by simpa using hc
    exact idn a ha
  · intro c hc
    rw [g3]
    rcases mC c hc with rfl | hc
    · omega
    · have := h.idr c hc; omega
  · intro c hc
    rcases mC c hc with rfl | hc
    · unfold fits; rw [e3, e4]; exact ⟨hf, hd1⟩
    · exact h.ft c hc
  · rw [g5, h.fc]
    exact lkC_add fun x hx => by have := idn x hx; omega
  · rw [g6, h.kc]; unfold cids; simp
  · exact k3
  · exact k4
  · exact k2
  · intro x hx
    rw [g7, hC.dn, v1]
    rcases mB x hx with rfl | ⟨h1, _⟩
    · rw [f1]; exact hn
    · exact h.bdn x h1
  · intro x hx
    rw [ho', ofB_snoc, e2]
    rcases mB x hx with rfl | ⟨h1, h2, h3⟩
    · rw [f1, f2]
      show (if b.q = b.q then _ else _) = _
      rw [if_pos rfl, if_pos rfl, k7]; unfold cids; simp [e1]
    · have hxq : ¬ x.q = b.q := by rw [← f2]; exact nodup_mid hq h3
      show (if x.q = b.q then _ else _) = _
      rw [if_neg hxq, if_neg (fun e => h2 e.symm), k8 x h3 hxq]; exact h.op x h1
  · intro c hc
    rcases mC c hc with rfl | hc
    · exact ⟨b0, by simp, by rw [f1, e2]⟩
    · obtain ⟨x, hx, hxn⟩ := h.cb c hc
      by_cases e : x.n = n
      · exact ⟨b0, by simp, by rw [f1, ← e, hxn]⟩
      · exact ⟨x, k6 x hx e, hxn⟩
  · intro x hx _
    rcases mB x hx with rfl | ⟨h1, h2, _⟩
    · exact ⟨c0, by simp, by rw [f1, e2]⟩
    · obtain ⟨c, hc, e⟩ := h.bc x h1 (by simp)
      exact ⟨c, iC c hc, e⟩
  · intro x hx
    rcases mB x hx with rfl | ⟨h1, _⟩
    · rw [f3]; exact ⟨hk.bal.1, f5⟩
    · exact h.bal x h1
  · intro c hc
    rcases mC c hc with rfl | hc
    · rw [e5, e1]
      refine ⟨fun i hi => ?_, hal⟩
      obtain ⟨_, h2⟩ := hah.sub i hi
      rw [h.fc] at h2
      have h3 : opn s.C i = true := by
        have := lkC_opn h.asc i
        apply Classical.byContradiction
        intro hn'
        rw [show opn s.C i = false by simpa using hn'] at this
        simp at this
        exact h2 this
      obtain ⟨y, hy, rfl⟩ := opn_iff.1 h3
      have := h.idr y hy
      omega
    · exact h.ah c hc
  · intro x hx
    rw [g3]
    rcases mB x hx with rfl | ⟨h1, _⟩
    · exact f6
    · intro i hi
      have := h.la x h1 i hi; omega
  · intro x hx c hc hcb j hj
    rcases mB x hx with rfl | ⟨h1, h2, _⟩
    · rw [f1] at hcb
      rw [f4, f1]
      by_cases hj2 : fr ≤ j ∧ j < fr + data.length
      · rw [if_pos hj2]
        refine ⟨c0, by simp, by rw [e1], e2, by unfold cov; rw [e3, e4]; exact hj2, ?_⟩
        rcases mC c hc with rfl | hc
        · exact Nat.le_refl _
        · exact Nat.le_of_lt (idn c hc)
      · rw [if_neg hj2]
        rcases mC c hc with rfl | hc
        · unfold cov at hj; rw [e3, e4] at hj; exact absurd hj hj2
        · obtain ⟨y, hy, hr⟩ := hk.lam c hc hcb j hj
          exact ⟨y, iC y hy, hr⟩
    · rcases mC c hc with rfl | hc
      · exact absurd (hcb.symm.trans e2) h2
      · obtain ⟨y, hy, hr⟩ := h.lam x h1 c hc hcb j hj
        exact ⟨y, iC y hy, hr⟩
  · intro c hc c' hc' hcb hlt j hj hj'
    rcases mC c' hc' with rfl | hcs
    · exfalso
      rcases mC c hc with rfl | hc
      · omega
      · have := idn c hc; omega
    · rcases mC c hc with rfl | hc
      · rw [e2] at hcb
        obtain ⟨y, hy, hyi, hyb, hyj, hle⟩ := hk.lam c' hcs hcb j hj
        unfold cov at hj'
        rw [e3, e4] at hj'
        have hr : Rea s.C c (y.id : Int) := hah.all h.ahl (fun x hx => (h.idr x hx).2) e5 ⟨.inr ⟨j - fr, by omega, by rw [hyi]; congr 1; omega⟩, by rw [h.fc, lkC_at h.asc hy]; omega⟩
        by_cases e : c'.id = y.id
        · rw [e]; exact hr.mono iC
        · exact (hr.trans rfl hy (h.ahm y hy c' hcs (hcb.trans hyb.symm) (by omega) j hj hyj)).mono iC
      · exact (h.ahm c hc c' hcs hcb hlt j hj hj').mono iC
  · intro c hc hw i hi ho
    rcases mC c hc with rfl | hc
    · rw [e6] at hw; cases hw
    · have h1 := ((h.ah c hc).1 i hi).2
      have h2 := idn c hc
      obtain ⟨y, hy, hr⟩ := h.wra c hc hw i hi (opn_snoc ho (by omega))
      exact ⟨y, iC y hy, hr⟩
  · rw [g7]; exact hC.len
  · rw [g7, hC.dn, hC.most, v1, v2]; exact h.mdn
  · rw [g7, hC.en, hC.lf, v3, v4]; exact h.en
  · obtain ⟨h1, h2, h3, h4, h5⟩ := h.bd
    refine ⟨by omega, by omega, by omega, by have := hC.k1; rw [g7]; omega, fun m => ?_⟩
    rw [ws']
    have := h5 m; omega
  · intro x hx
    rw [sf']
    rcases mB x hx with rfl | ⟨h1, _⟩
    · rw [f1, f3, if_neg (by simp)]; exact hk.sf
    · exact h.sfb x h1
  · intro x hx
    rw [ls', ofB_snoc, e2]
    rcases mB x hx with rfl | ⟨h1, h2, _⟩
    · rw [f1, f3, if_pos rfl, wrs_snoc _ _ e6]; exact hk.ls
    · rw [if_neg (fun e => h2 e.symm)]; exact h.lsb x h1
  · intro x hx
    rw [ofB_snoc, e2]
    rcases mB x hx with rfl | ⟨h1, h2, _⟩
    · rw [f1, f3, if_pos rfl, lays_append, hk.da, lays_cons, lays_nil, e3, e4, g7, hC.at', hpn3]
    · rw [if_neg (fun e => h2 e.symm), en' _ h2]; exact h.cab x h1
  · intro m hm hno
    have hmn : ¬ m = n := fun e => hno b0 (by simp) (by rw [f1, e])
    obtain ⟨h1, h2⟩ := h.cao m (by rw [g7, hC.dn, v1] at hm; exact hm) (fun x hx e => hno x (k6 x hx (fun e2 => hmn (e.symm.trans e2))) e)
    rw [ws', sf', en' m hmn]
    exact ⟨h1, h2⟩
end
end Go.Proofs.YtadadidccbhopaaGreat
/- What holds of a store: behind a flush, and behind each block that is settled. -/
namespace Go.Proofs.YtadadidccbhopaaGreat
open Go.RowKit
set_option maxRecDepth 100000
/-- Neither of the block n nor written. -/
def left (n : Nat) (c : Ch) : Bool := !(decide (c.b = n) && c.wr)
def setl (C : List Ch) (n : Nat) : List Ch := C.filter (left n)
theorem left_iff {n : Nat} {c : Ch} : left n c = true ↔ ¬ (c.b = n ∧ c.wr = true) := by
  unfold left
  by_cases h1 : c.b = n <;> cases h2 : c.wr <;> simp [h1]
theorem mem_setl {C : List Ch} {n : Nat} {c : Ch} : c ∈ setl C n ↔ c ∈ C ∧ ¬ (c.b = n ∧ c.wr = true) := by
  unfold setl
  rw [List.mem_filter, left_iff]
theorem setl_sub (C : List Ch) (n : Nat) : (setl C n).Sublist C := List.filter_sublist
theorem ofB_setl (C : List Ch) (n m : Nat) : ofB (setl C n) m = if m = n then nwr (ofB C n) else ofB C m := by
  unfold ofB setl nwr left
  rw [List.filter_filter]
  split
  · rename_i e
    subst e
    rw [List.filter_filter]
    refine List.filter_congr fun c _ => ?_
    by_cases h1 : c.b = m <;> simp [h1]
  · rename_i e
    refine List.filter_congr fun c _ => ?_
    by_cases h1 : c.b = m
    · simp [h1, e]
    · simp [h1]
theorem mem_wrs {C : List Ch} {n : Nat} {c : Ch} : c ∈ wrs (ofB C n) ↔ c ∈ C ∧ c.b = n ∧ c.wr = true := by
  unfold wrs ofB
  rw [List.mem_filter, List.mem_filter]
  simp [and_assoc]
theorem mem_nwr {C : List Ch} {n : Nat} {c : Ch} : c ∈ nwr (ofB C n) ↔ c ∈ C ∧ c.b = n ∧ c.wr = false := by
  unfold nwr ofB
  rw [List.mem_filter, List.mem_filter]
  simp [and_assoc]
theorem wrs_nwr (l : List Ch) : wrs (nwr l) = [] := by
  unfold wrs nwr
  rw [List.filter_filter, List.filter_eq_nil_iff]
  intro c _; cases c.wr <;> simp
theorem setl_opn {C : List Ch} {n : Nat} {i : Int} (h : opn (setl C n) i = true) : opn C i = true := by
  obtain ⟨x, hx, hxi⟩ := opn_iff.1 h
  exact opn_iff.2 ⟨x, (mem_setl.1 hx).1, hxi⟩
theorem lkC_setl {C : List Ch} (h : Asc C) (n : Nat) : delF (lkC C) (cids (wrs (ofB C n))) = lkC (setl C n) := by
  funext x
  rw [delF_eq]
  have := lkC_filter (left n) h x
  unfold setl
  rw [this]
  have e : (x ∈ cids (wrs (ofB C n))) ↔ opn (C.filter fun c => !left n c) x = true := by
    rw [opn_iff]
    unfold cids
    rw [List.mem_map]
    constructor
    · rintro ⟨c, hc, rfl⟩
      obtain ⟨h1, h2, h3⟩ := mem_wrs.1 hc
      exact ⟨c, List.mem_filter.2 ⟨h1, by simp [left, h2, h3]⟩, rfl⟩
    · rintro ⟨c, hc, rfl⟩
      obtain ⟨h1, h2⟩ := List.mem_filter.1 hc
      have h3 : c.b = n ∧ c.wr = true := by simpa [left] using h2
      exact ⟨c, mem_wrs.2 ⟨h1, h3⟩, rfl⟩
  by_cases hx : x ∈ cids (wrs (ofB C n))
  · rw [if_pos hx, if_pos (e.1 hx)]
  · rw [if_neg hx, if_neg (fun h => hx (e.2 h))]
theorem cids_setl {C : List Ch} (h : Asc C) (n : Nat) : delK (cids C) (cids (wrs (ofB C n))) = cids (setl C n) := by
  rw [delK_eq]
  unfold setl cids
  rw [List.filter_map]
  congr 1
  refine List.filter_congr fun c hc => ?_
  show decide ((c.id : Int) ∉ (wrs (ofB C n)).map fun c => (c.id : Int)) = left n c
  rw [Bool.eq_iff_iff, decide_eq_true_eq, List.mem_map]
  constructor
  · intro hn
    exact left_iff.2 fun h1 => hn ⟨c, mem_wrs.2 ⟨hc, h1⟩, rfl⟩
  · rintro hl ⟨x, hx, e⟩
    obtain ⟨h1, h2, h3⟩ := mem_wrs.1 hx
    obtain rfl := h.inj h1 hc (by omega)
    simp [left, h2, h3] at hl
section
variable {s s' : PSt} {ops ops' : Nat → List Int} {pend : List Int} {κ : Nat}
theorem PL.mono (h : PL s ops pend κ) {κ' : Nat} (hk : κ ≤ κ') : PL s ops pend κ' :=
  { h with bd := (by obtain ⟨h1, h2, h3, h4, h5⟩ := h.bd; exact ⟨by omega, by omega, by omega, by omega, fun n => by have := h5 n; omega⟩) }
/-- The disk was flushed: all blocks that have open changes are to be settled. -/
theorem PL.flushed (h : PL s ops [] κ) {σ' : CSt} (hL : σ'.L = s.σ.L) (hm : σ'.most = s.σ.most) (hdn : σ'.dn = s.σ.dn) (hen : σ'.en = s.σ.en) (hlf : σ'.lf = s.σ.lf) (hK : σ'.K = s.σ.K) (hsf : σ'.sf = lst s.σ) (hws : σ'.ws = fun _ => []) : PL { s with σ := σ' } ops s.kB κ :=
  { h with
    bdn := (fun b hb => (by show b.n < σ'.dn; rw [hdn]; exact h.bdn b hb))
    bc := (fun b hb hn => absurd (by show (b.n : Int) ∈ s.kB; rw [h.kb]; exact List.mem_map.2 ⟨b, hb, rfl⟩) hn)
    pb := (fun i hi => (by
      rw [h.kb] at hi
      obtain ⟨b, hb, e⟩ := List.mem_map.1 hi
      exact ⟨b, hb, e⟩))
    len := (by show σ'.L.length ≤ σ'.most; rw [hL, hm]; exact h.len)
    mdn := (by show σ'.dn ≤ σ'.most ∧ σ'.dn ≤ 8; rw [hdn, hm]; exact h.mdn)
    en := (by show σ'.en = false ∧ σ'.lf = 0; rw [hen, hlf]; exact h.en)
    bd := (by
      obtain ⟨h1, h2, h3, h4, _⟩ := h.bd
      exact ⟨h1, h2, h3, by show σ'.K ≤ _; rw [hK]; exact h4, fun n => by show (σ'.ws n).length ≤ _; rw [hws]; exact Nat.zero_le _⟩)
    sfb := (fun b hb => (by
      show σ'.sf b.n = _
      rw [hsf, if_pos (by show (b.n : Int) ∈ s.kB; rw [h.kb]; exact List.mem_map.2 ⟨b, hb, rfl⟩)]
      exact h.lsb b hb))
    lsb := (fun b hb => (by
      show lst σ' b.n = _
      unfold lst
      rw [hws, hsf]
      exact h.lsb b hb))
    cab := (fun b hb => (by show ent σ'.L b.n = _; rw [hL]; exact h.cab b hb))
    cao := (fun n hn hno => (by
      obtain ⟨h1, h2⟩ := h.cao n (by have : n < σ'.dn := hn; rw [hdn] at this; exact this) hno
      have hl : lst s.σ n = s.σ.sf n := by unfold lst; rw [h1]; rfl
      refine ⟨by show σ'.ws n = []; rw [hws], ?_⟩
      show ent σ'.L n = none ∨ ent σ'.L n = some (σ'.sf n, 0)
      rw [hL, hsf, hl]; exact h2)) }
theorem PL.keeps (h : PL s ops pend κ) {n : Nat} {c y : Ch} (hc : c ∈ setl s.C n) (hy : y ∈ s.C) (hb : c.b = y.b) (hle : c.id ≤ y.id) {j : Nat} (hj : cov c j) (hj' : cov y j) : y ∈ setl s.C n := by
  obtain ⟨h1, h2⟩ := mem_setl.1 hc
  refine mem_setl.2 ⟨hy, fun h3 => h2 ⟨hb.trans h3.1, ?_⟩⟩
  by_cases e : c.id = y.id
  · rw [h.asc.inj h1 hy e]; exact h3.2
  · exact h.clo y.id y hy (Nat.le_refl _) h3.2 c h1 hb (by omega) j hj hj'
theorem Rea.setl {C : List Ch} {n : Nat} (hA : Asc C) (hw : ∀ c ∈ C, c.wr = true → ∀ i ∈ c.ah, opn C i = true → ∃ y ∈ C, (y.id : Int) = i ∧ y.b = c.b ∧ y.wr = true) {c : Ch} {i : Int} (h : Rea C c i) (ho : opn (setl C n) i = true) : Rea (Go.Proofs.YtadadidccbhopaaGreat.setl C n) c i := by
  refine h.less hA hw (fun x hx => (mem_setl.1 hx).1) (fun x hx => ?_) ho
  by_cases hm : x ∈ Go.Proofs.YtadadidccbhopaaGreat.setl C n
  · exact .inl hm
  · have h1 : x.b = n ∧ x.wr = true := Classical.byContradiction fun hn => hm (mem_setl.2 ⟨hx, hn⟩)
    exact .inr ⟨h1.2, fun y _ hyw hyb hy => (mem_setl.1 hy).2 ⟨hyb.trans h1.1, hyw⟩⟩
/-- A block is settled: its written changes are safe. -/
theorem PL.settled (h : PL s ops pend κ) {n : Nat} {b : Bk} {Y Z : List Bk} (hB : s.B = Y ++ b :: Z) (hbn : b.n = n) (hp : (n : Int) ∈ pend) (hq : (s.B.map (·.q)).Nodup) (hne : nwr (ofB s.C n) ≠ []) (tg : Nat → Nat) (ov : Value) :
    PL { s with C := setl s.C n, fC := delF s.fC (cids (wrs (ofB s.C n))), kC := delK s.kC (cids (wrs (ofB s.C n))), B := Y ++ { b with ba := lays b.ba (wrs (ofB s.C n)), ov := ov } :: Z, tag := tg } (fun q => if q = b.q then cids (nwr (ofB s.C n)) else ops q) (pend.filter fun y => decide (y ≠ (n : Int))) κ := by
  have hbm : b ∈ s.B := by rw [hB]; simp
  obtain ⟨b0, hb0⟩ : ∃ b0 : Bk, b0 = { b with ba := lays b.ba (wrs (ofB s.C n)), ov := ov } := ⟨_, rfl⟩
  rw [← hb0]
  have f1 : b0.n = n := by rw [hb0]; exact hbn
  have f2 : b0.q = b.q := by rw [hb0]
  have f3 : b0.ba = lays b.ba (wrs (ofB s.C n)) := by rw [hb0]
  have f4 : b0.la = b.la := by rw [hb0]
  have hnd := h.bn
  rw [hB] at hnd hq
  have mB : ∀ x ∈ Y ++ b0 :: Z, x = b0 ∨ (x ∈ s.B ∧ ¬ x.n = n ∧ ¬ x.q = b.q) := fun x hx => by
    rcases mem_mid (e := b) hx with rfl | ⟨h1, h2⟩
    · exact .inl rfl
    · exact .inr ⟨by rw [hB]; exact h1, by rw [← hbn]; exact nodup_mid hnd h2, nodup_mid hq h2⟩
  have iB : ∀ x ∈ s.B, ¬ x.n = n → x ∈ Y ++ b0 :: Z := fun x hx hxn => by
    rw [hB] at hx
    rcases List.mem_append.1 hx with hx | hx
    · simp [hx]
    · rcases List.mem_cons.1 hx with hx | hx
      · rw [hx] at hxn; exact absurd hbn hxn
      · simp [hx]
  have hb0' : b0.n = b.n := f1.trans hbn.symm
  have sub := fun c (hc : c ∈ setl s.C n) => (mem_setl.1 hc).1
  have hpf : ∀ x : Bk, ¬ x.n = n → ((x.n : Int) ∈ pend.filter (fun y => decide (y ≠ (n : Int))) ↔ (x.n : Int) ∈ pend) := fun x hx => by
    rw [List.mem_filter]
    exact ⟨fun h => h.1, fun h => ⟨h, by simp; omega⟩⟩
  have hnp : ¬ (n : Int) ∈ pend.filter (fun y => decide (y ≠ (n : Int))) := fun hm => by simpa using (List.mem_filter.1 hm).2
  have hpart := h.part hbm
  rw [hbn] at hpart
  refine {
    asc := h.asc.sublist (setl_sub _ _), idr := (fun c hc => h.idr c (sub c hc)), ft := (fun c hc => h.ft c (sub c hc)), fc := (by show delF s.fC _ = _; rw [h.fc]; exact lkC_setl h.asc n), kc := (by show delK s.kC _ = _; rw [h.kc]; exact cids_setl h.asc n), fb := ?_, kb := ?_, bn := ?_, bdn := ?_, op := ?_, cb := ?_, bc := ?_, pb := ?_, bal := ?_, ah := (fun c hc => h.ah c (sub c hc)), la := ?_, lam := ?_, ahm := ?_, wra := ?_, len := h.len, mdn := h.mdn, en := h.en, bd := h.bd, sfb := ?_, lsb := ?_, cab := ?_, cao := ?_ }
  · show s.fB = _
    rw [h.fb, hB]; exact (lkB_same hb0' f2).symm
  · show s.kB = _
    rw [h.kb, hB]; unfold bns
    rw [List.map_append, List.map_cons, List.map_append, List.map_cons, hb0']
  · show ((Y ++ b0 :: Z).map (·.n)).Nodup
    rw [List.map_append, List.map_cons, hb0', ← List.map_cons, ← List.map_append]; exact hnd
  · intro x hx
    rcases mB x hx with rfl | ⟨h1, _⟩
    · rw [hb0']; exact h.bdn b hbm
    · exact h.bdn x h1
  · intro x hx
    show (if x.q = b.q then _ else _) = cids (ofB (setl s.C n) x.n)
    rw [ofB_setl]
    rcases mB x hx with rfl | ⟨h1, h2, h3⟩
    · rw [if_pos f2, if_pos f1]
    · rw [if_neg h3, if_neg h2]; exact h.op x h1
  · intro c hc
    obtain ⟨x, hx, hxn⟩ := h.cb c (sub c hc)
    by_cases e : x.n = n
    · exact ⟨b0, by simp, by rw [f1, ← e, hxn]⟩
    · exact ⟨x, iB x hx e, hxn⟩
  · intro x hx hxp
    rcases mB x hx with rfl | ⟨h1, h2, _⟩
    · obtain ⟨c, hc⟩ := List.exists_mem_of_ne_nil _ hne
      obtain ⟨h1, h2, h3⟩ := mem_nwr.1 hc
      exact ⟨c, mem_setl.2 ⟨h1, fun h => by rw [h3] at h; cases h.2⟩, by rw [f1]; exact h2⟩
    · obtain ⟨c, hc, e⟩ := h.bc x h1 (fun hm => hxp ((hpf x h2).2 hm))
      exact ⟨c, mem_setl.2 ⟨hc, fun h => h2 (e.symm.trans h.1)⟩, e⟩
  · intro i hi
    obtain ⟨h1, h2⟩ := List.mem_filter.1 hi
    obtain ⟨x, hx, rfl⟩ := h.pb i h1
    have h3 : ¬ (x.n : Int) = n := by simpa using h2
    exact ⟨x, iB x hx (fun e => h3 (by rw [e])), rfl⟩
  · intro x hx
    rcases mB x hx with rfl | ⟨h1, _⟩
    · rw [f3, f4]; exact ⟨lays_length (h.bal b hbm).1 fun c hc => (h.ft c (mem_wrs.1 hc).1).1, (h.bal b hbm).2⟩
    · exact h.bal x h1
  · intro x hx
    rcases mB x hx with rfl | ⟨h1, _⟩
    · rw [f4]; exact h.la b hbm
    · exact h.la x h1
  · intro x hx c hc hcb j hj
    have key : ∀ x' ∈ s.B, x'.n = x.n → x'.la = x.la → ∃ y ∈ setl s.C n, (y.id : Int) = x.la.getD j 0 ∧ y.b = x.n ∧ cov y j ∧ c.id ≤ y.id := fun x' hx' e1 e2 => by
      obtain ⟨y, hy, h1, h2, h3, h4⟩ := h.lam x' hx' c (sub c hc) (by rw [e1]; exact hcb) j hj
      exact ⟨y, h.keeps hc hy (by rw [hcb, h2, e1]) h4 hj h3, by rw [← e2]; exact h1, by rw [← e1]; exact h2, h3, h4⟩
    rcases mB x hx with rfl | ⟨h1, _⟩
    · exact key b hbm hb0'.symm f4.symm
    · exact key x h1 rfl rfl
  · intro c hc c' hc' hcb hlt j hj hj'
    exact (h.ahm c (sub c hc) c' (sub c' hc') hcb hlt j hj hj').setl h.asc h.wra (opn_iff.2 ⟨c', hc', rfl⟩)
  · intro c hc hw i hi ho
    obtain ⟨y, hy, h1, h2, h3⟩ := h.wra c (sub c hc) hw i hi (setl_opn ho)
    obtain ⟨z, hz, hzi⟩ := opn_iff.1 ho
    obtain rfl := h.asc.inj (sub z hz) hy (by omega)
    exact ⟨z, hz, h1, h2, h3⟩
  · intro x hx
    show s.σ.sf x.n = if _ then lays x.ba (wrs (ofB (setl s.C n) x.n)) else _
    rcases mB x hx with rfl | ⟨h1, h2, _⟩
    · rw [f1, if_neg hnp, f3]
      have := h.sfb b hbm
      rw [hbn, if_pos hp] at this; exact this
    · rw [ofB_setl, if_neg h2]
      have := h.sfb x h1
      by_cases hm : (x.n : Int) ∈ pend
      · rw [if_pos hm] at this; rw [if_pos ((hpf x h2).2 hm)]; exact this
      · rw [if_neg hm] at this; rw [if_neg (fun h => hm ((hpf x h2).1 h))]; exact this
  · intro x hx
    show lst s.σ x.n = lays x.ba (wrs (ofB (setl s.C n) x.n))
    rw [ofB_setl]
    rcases mB x hx with rfl | ⟨h1, h2, _⟩
    · rw [f1, if_pos rfl, wrs_nwr, lays_nil, f3]
      have := h.lsb b hbm
      rw [hbn] at this; exact this
    · rw [if_neg h2]; exact h.lsb x h1
  · intro x hx
    show ent s.σ.L x.n = some (lays x.ba (ofB (setl s.C n) x.n), 1)
    rw [ofB_setl]
    rcases mB x hx with rfl | ⟨h1, h2, _⟩
    · rw [f1, if_pos rfl, f3, hpart]
      have := h.cab b hbm
      rw [hbn] at this; exact this
    · rw [if_neg h2]; exact h.cab x h1
  · intro m hm hno
    refine h.cao m hm fun x hx e => ?_
    by_cases e2 : x.n = n
    · exact hno b0 (by simp) (by rw [f1, ← e2, e])
    · exact hno x (iB x hx e2) e
/-- A block is settled that has no open change any more. -/
theorem PL.gone (h : PL s ops pend κ) {n : Nat} {b : Bk} {Y Z : List Bk} (hB : s.B = Y ++ b :: Z) (hbn : b.n = n) (hp : (n : Int) ∈ pend) (hq : (s.B.map (·.q)).Nodup) (hne : nwr (ofB s.C n) = []) (tg : Nat → Nat) {A E : List CE} {e : CE} (hL : s.σ.L = A ++ e :: E) (hen : e.n = n) (hnl : (s.σ.L.map (·.n)).Nodup) (hK : s.σ.K + 1 ≤ 10 * κ) (hws : s.σ.ws n = []) :
    PL { s with C := setl s.C n, fC := delF s.fC (cids (wrs (ofB s.C n))), kC := delK s.kC (cids (wrs (ofB s.C n))), B := Y ++ Z, tag := tg, fB := setF s.fB n 0, kB := s.kB.filter (fun y => decide (y ≠ (n : Int))), σ := { s.σ with L := A ++ { e with pin := e.pin - 1 } :: E, K := s.σ.K + 1 } } (fun q => if q = b.q then [] else ops q) (pend.filter fun y => decide (y ≠ (n : Int))) κ := by
  have hbm : b ∈ s.B := by rw [hB]; simp
  have hnd := h.bn
  rw [hB] at hnd hq
  have mB : ∀ x ∈ Y ++ Z, x ∈ s.B ∧ ¬ x.n = n ∧ ¬ x.q = b.q := fun x hx => by
    have h2 := List.mem_append.1 hx
    exact ⟨by rw [hB]; rcases h2 with h2 | h2 <;> simp [h2], by rw [← hbn]; exact nodup_mid hnd h2, nodup_mid hq h2⟩
  have iB : ∀ x ∈ s.B, ¬ x.n = n → x ∈ Y ++ Z := fun x hx hxn => by
    rw [hB] at hx
    rcases List.mem_append.1 hx with hx | hx
    · simp [hx]
    · rcases List.mem_cons.1 hx with hx | hx
      · rw [hx] at hxn; exact absurd hbn hxn
      · simp [hx]
  have sub := fun c (hc : c ∈ setl s.C n) => (mem_setl.1 hc).1
  have hcn : ∀ c ∈ setl s.C n, ¬ c.b = n := fun c hc hcb => by
    obtain ⟨h1, h2⟩ := mem_setl.1 hc
    have h3 : c ∈ nwr (ofB s.C n) := mem_nwr.2 ⟨h1, hcb, by cases hw : c.wr with | false => rfl | true => exact absurd ⟨hcb, hw⟩ h2⟩
    rw [hne] at h3; cases h3
  have hpf : ∀ x : Bk, ¬ x.n = n → ((x.n : Int) ∈ pend.filter (fun y => decide (y ≠ (n : Int))) ↔ (x.n : Int) ∈ pend) := fun x hx => by
    rw [List.mem_filter]
    exact ⟨fun h => h.1, fun h => ⟨h, by simp; omega⟩⟩
  have hpart := h.part hbm
  rw [hbn, hne, lays_nil] at hpart
  have hnA : ∀ x ∈ A, ¬ x.n = n := fun x hx hxn => by
    rw [hL] at hnl
    exact nodup_mid hnl (.inl hx) (hxn.trans hen.symm)
  have eo : ∀ m, ¬ m = n → ent (A ++ { e with pin := e.pin - 1 } :: E) m = ent s.σ.L m := fun m hm => by
    rw [hL, ent_other (e := e) (by rw [hen]; exact fun c => hm c.symm), ent_other (e := { e with pin := e.pin - 1 }) (by show ¬ e.n = m; rw [hen]; exact fun c => hm c.symm)]
  have en : ent (A ++ { e with pin := e.pin - 1 } :: E) n = some (s.σ.sf n, 0) := by
    have h1 := h.cab b hbm
    have h2 := h.sfb b hbm
    rw [hbn] at h1 h2
    rw [if_pos hp] at h2
    have h4 := ent_at (A := A) (B := E) (e := e) (by rw [hen]; exact hnA)
    rw [hen, ← hL, h1] at h4
    have h5 : lays b.ba (ofB s.C n) = e.d ∧ 1 = e.pin := by simpa using h4
    have h6 := ent_at (A := A) (B := E) (e := { e with pin := e.pin - 1 }) (by show ∀ x ∈ A, ¬ x.n = e.n; rw [hen]; exact hnA)
    have h7 : ent (A ++ { e with pin := e.pin - 1 } :: E) n = some (e.d, e.pin - 1) := by rw [← hen]; exact h6
    rw [h7, ← h5.1, ← h5.2, ← hpart, h2]
  refine {
    asc := h.asc.sublist (setl_sub _ _), idr := (fun c hc => h.idr c (sub c hc)), ft := (fun c hc => h.ft c (sub c hc)), fc := (by show delF s.fC _ = _; rw [h.fc]; exact lkC_setl h.asc n), kc := (by show delK s.kC _ = _; rw [h.kc]; exact cids_setl h.asc n), fb := ?_, kb := ?_, bn := ?_, bdn := (fun x hx => h.bdn x (mB x hx).1), op := ?_, cb := ?_, bc := ?_, pb := ?_, bal := (fun x hx => h.bal x (mB x hx).1), ah := (fun c hc => h.ah c (sub c hc)), la := (fun x hx => h.la x (mB x hx).1), lam := ?_, ahm := ?_, wra := ?_, len := ?_, mdn := h.mdn, en := h.en, bd := ?_, sfb := ?_, lsb := ?_, cab := ?_, cao := ?_ }
  · show setF s.fB n 0 = _
    rw [h.fb, hB, ← hbn]; exact lkB_del hnd
  · show s.kB.filter _ = bns (Y ++ Z)
    rw [h.kb, hB]
    unfold bns
    rw [List.map_append, List.map_cons, List.filter_append, List.filter_cons_of_neg (by simp [hbn]), ← List.filter_append, ← List.map_append]
    refine List.filter_eq_self.2 fun i hi => ?_
    obtain ⟨x, hx, rfl⟩ := List.mem_map.1 hi
    have := (mB x hx).2.1
    simp; omega
  · show ((Y ++ Z).map (·.n)).Nodup
    exact hnd.sublist (List.Sublist.map _ (List.Sublist.append (List.Sublist.refl _) (List.sublist_cons_self _ _)))
  · intro x hx
    obtain ⟨h1, h2, h3⟩ := mB x hx
    show (if x.q = b.q then _ else _) = cids (ofB (setl s.C n) x.n)
    rw [ofB_setl, if_neg h3, if_neg h2]; exact h.op x h1
  · intro c hc
    obtain ⟨x, hx, hxn⟩ := h.cb c (sub c hc)
    exact ⟨x, iB x hx (fun e => hcn c hc (by rw [← hxn, e])), hxn⟩
  · intro x hx hxp
    obtain ⟨h1, h2, _⟩ := mB x hx
    obtain ⟨c, hc, e⟩ := h.bc x h1 (fun hm => hxp ((hpf x h2).2 hm))
    exact ⟨c, mem_setl.2 ⟨hc, fun h => h2 (e.symm.trans h.1)⟩, e⟩
  · intro i hi
    obtain ⟨h1, h2⟩ := List.mem_filter.1 hi
    obtain ⟨x, hx, rfl⟩ := h.pb i h1
    have h3 : ¬ (x.n : Int) = n := by simpa using h2
    exact ⟨x, iB x hx (fun e => h3 (by rw [e])), rfl⟩
  · intro x hx c hc hcb j hj
    obtain ⟨y, hy, h1, h2, h3, h4⟩ := h.lam x (mB x hx).1 c (sub c hc) hcb j hj
    exact ⟨y, h.keeps hc hy (by rw [hcb, h2]) h4 hj h3, h1, h2, h3, h4⟩
  · intro c hc c' hc' hcb hlt j hj hj'
    exact (h.ahm c (sub c hc) c' (sub c' hc') hcb hlt j hj hj').setl h.asc h.wra (opn_iff.2 ⟨c', hc', rfl⟩)
  · intro c hc hw i hi ho
    obtain ⟨y, hy, h1, h2, h3⟩ := h.wra c (sub c hc) hw i hi (setl_opn ho)
    obtain ⟨z, hz, hzi⟩ := opn_iff.1 ho
    obtain rfl := h.asc.inj (sub z hz) hy (by omega)
    exact ⟨z, hz, h1, h2, h3⟩
  · have := h.len
    rw [hL] at this
    show (A ++ { e with pin := e.pin - 1 } :: E).length ≤ s.σ.most
    simpa using this
  · obtain ⟨h1, h2, h3, h4, h5⟩ := h.bd
    exact ⟨h1, h2, h3, hK, h5⟩
  · intro x hx
    obtain ⟨h1, h2, _⟩ := mB x hx
    show s.σ.sf x.n = if _ then lays x.ba (wrs (ofB (setl s.C n) x.n)) else _
    rw [ofB_setl, if_neg h2]
    have := h.sfb x h1
    by_cases hm : (x.n : Int) ∈ pend
    · rw [if_pos hm] at this; rw [if_pos ((hpf x h2).2 hm)]; exact this
    · rw [if_neg hm] at this; rw [if_neg (fun h => hm ((hpf x h2).1 h))]; exact this
  · intro x hx
    obtain ⟨h1, h2, _⟩ := mB x hx
    show lst s.σ x.n = lays x.ba (wrs (ofB (setl s.C n) x.n))
    rw [ofB_setl, if_neg h2]; exact h.lsb x h1
  · intro x hx
    obtain ⟨h1, h2, _⟩ := mB x hx
    show ent (A ++ { e with pin := e.pin - 1 } :: E) x.n = some (lays x.ba (ofB (setl s.C n) x.n), 1)
    rw [ofB_setl, if_neg h2, eo _ h2]; exact h.cab x h1
  · intro m hm hno
    show s.σ.ws m = [] ∧ (ent (A ++ { e with pin := e.pin - 1 } :: E) m = none ∨ ent (A ++ { e with pin := e.pin - 1 } :: E) m = some (s.σ.sf m, 0))
    by_cases hmn : m = n
    · subst hmn
      exact ⟨hws, .inr en⟩
    · rw [eo m hmn]
      exact h.cao m hm fun x hx e2 => hno x (iB x hx (fun e3 => hmn (by rw [← e2, e3]))) e2
end
end Go.Proofs.YtadadidccbhopaaGreat
/- Package cache: Flush; package patch: Flush. -/
namespace Go.Proofs.YtadadidccbhopaaGreat
open Go.RowKit
set_option maxRecDepth 100000
section
variable {w w' w0 : World} {base : Nat} {σ : CSt} {s s' s0 : PSt} {ops ops' : Nat → List Int} {κ : Nat}
set_option maxHeartbeats 2000000 in
theorem cflush_any (h : CS w base σ (nums σ.L)) (hen : σ.en = false) (hlf : σ.lf = 0) :
    Calls Tryz.prog 86 #[.pointer (some ⟨σ.p, 0, none⟩)] w fun r w' => r = .returned (.int .i64 0) ∧ ∃ vs', Done base σ { σ with sf := lst σ, ws := fun _ => [], vs := vs' } w w' := by
  have hg : goesB σ.en σ.lf = true := by rw [hen, hlf]; rfl
  have hgl : goesL σ.en σ.lf = σ.lf := by rw [hen, hlf]; rfl
  have FL := flush_fr h.disk (by rw [hlf]; omega) hg (openL σ.ws σ.dn) rfl
  have q0 := h.c0
  have H : Hid (CS w base σ (nums σ.L)) := h
  clear h hen hlf hg
  go_enter Tryz.func86, Tryz.ntmps86
  go_wp2_with fail
  refine FL.mono ?_
  clear FL
  rintro r w2 ⟨rfl, ⟨vs', hD, hV⟩, hbe, hf⟩
  rw [hgl] at hD
  have HD : Hid (DiskAt w2 base σ.dp σ.dn σ.en σ.lf (lst σ) (fun _ => []) σ.dq vs') := hD.congr (fun i hi => by rw [(setS_all σ.ws σ.sf _ σ.dn i hi).1, List.take_length]; rfl) (fun i hi => (setS_all σ.ws σ.sf _ σ.dn i hi).2)
  have HV : Hid (VN σ.vs vs') := hV
  have HF : Hid (Fr (PQ σ.dp σ.dq) w w2 ∧ Below base w w2) := ⟨hf, hbe⟩
  clear hD hV hf hbe hgl
  go_wp2
  go_ret
  have hS : ∀ k, PQ σ.dp σ.dq k → Dk σ.dp σ.dq σ.dn σ.vs k := fun k hk => by
    rcases hk with hk | hk
    · exact .inl hk
    · exact .inr (.inl hk)
  have hv : ∀ k, Dk σ.dp σ.dq σ.dn vs' k → Dk σ.dp σ.dq σ.dn σ.vs k ∨ w.heap.size ≤ k := fun k hk => by
    rcases hk with hk | hk | ⟨j, hj, hk⟩
    · exact .inl (.inl hk)
    · exact .inl (.inr (.inl hk))
    · rcases HV.out j with e | e
      · rw [e] at hk; exact .inl (.inr (.inr ⟨j, hj, hk⟩))
      · rw [e] at hk; cases hk
  exact ⟨rfl, vs', H.out.setDisk HD.out HF.out.1 hS hv, Step.setDisk HF.out.1 hS hv, HF.out.2⟩
theorem PL.clen {pend : List Int} (h : PL s ops pend κ) : s.C.length ≤ s.cnt + 1 := by
  have h1 : (s.C.map (·.id)).Nodup := by
    unfold List.Nodup
    rw [List.pairwise_map]
    exact List.Pairwise.imp (fun hab => by omega) h.asc
  have := nodup_lt_len (s.cnt + 1) _ h1 (fun x hx => by
    obtain ⟨c, hc, rfl⟩ := List.mem_map.1 hx
    have := (h.idr c hc).2; omega)
  simpa using this
/-- What a flush of a block leaves as it was. -/
structure Kin (s s' : PSt) : Prop where
  p : s'.p = s.p
  cnt : s'.cnt = s.cnt
  sf : s'.σ.sf = s.σ.sf
  ws : s'.σ.ws = s.σ.ws
  dn : s'.σ.dn = s.σ.dn
  most : s'.σ.most = s.σ.most
  dp : s'.σ.dp = s.σ.dp
  cp : s'.σ.p = s.σ.p
  la : ∀ b' ∈ s'.B, ∃ b ∈ s.B, b.n = b'.n ∧ b.la = b'.la
theorem Kin.refl (s : PSt) : Kin s s := ⟨rfl, rfl, rfl, rfl, rfl, rfl, rfl, rfl, fun b hb => ⟨b, hb, rfl, rfl⟩⟩
theorem Kin.trans {a b c : PSt} (h : Kin a b) (k : Kin b c) : Kin a c :=
  ⟨k.p.trans h.p, k.cnt.trans h.cnt, k.sf.trans h.sf, k.ws.trans h.ws, k.dn.trans h.dn, k.most.trans h.most, k.dp.trans h.dp, k.cp.trans h.cp, fun b' hb' => by
    obtain ⟨b1, h1, h2, h3⟩ := k.la b' hb'
    obtain ⟨b0, h4, h5, h6⟩ := h.la b1 h1
    exact ⟨b0, h4, h5.trans h2, h6.trans h3⟩⟩
theorem settle_pl {pend : List Int} (h : PRun base s0 w0 s ops w) (hL : PL s ops pend κ) {n : Nat} (hp : (n : Int) ∈ pend) (hK : s.σ.K + 1 ≤ 10 * κ) (hκ : κ ≤ 50000) (hws : s.σ.ws n = []) :
    Calls Tryz.prog 87 #[.pointer (some ⟨s.p, 0, none⟩), .int .i64 (n : Int)] w fun r w' => r = .returned (.tuple #[]) ∧ ∃ s' ops', PRun base s0 w0 s' ops' w' ∧ PL s' ops' (pend.filter fun y => decide (y ≠ (n : Int))) κ ∧ s'.C = setl s.C n ∧ s'.σ.K ≤ s.σ.K + 1 ∧ Kin s s' := by
  obtain ⟨b, hb, hbn⟩ := hL.pb _ hp
  have hbn' : b.n = n := by omega
  obtain ⟨Y, Z, hB⟩ := List.append_of_mem hb
  have hbd := hL.bd
  have hdn := hL.mdn
  have hbdn := hL.bdn b hb
  have hfb : s.fB n = b.q + 1 := by rw [hL.fb, ← hbn']; exact lkB_at hL.bn hb
  have hop := hL.op b hb
  have hcab := hL.cab b hb
  rw [hbn'] at hop hcab
  obtain ⟨A, e, E, hLL, hen, _, hpin⟩ := ent_some hcab
  refine (psettle_any h n (by omega) hB hfb (ofB s.C n) hop (fun c hc => ?_) (hL.asc.ofB n) ?_ ?_ hLL hen (by omega) (by rw [hpin]; exact Nat.le_refl _)).mono ?_
  · have hc' := (List.mem_filter.1 hc).1
    have h1 := hL.idr c hc'
    exact ⟨hc', by rw [hL.fc]; exact lkC_at hL.asc hc', by omega, (hL.ft c hc').1, (hL.ft c hc').2, by rw [hL.kc]; exact List.mem_map.2 ⟨c, hc', rfl⟩⟩
  · have := hL.clen
    exact Nat.le_trans (List.length_filter_le _ _) (by omega)
  · rw [hL.kb]; exact List.mem_map.2 ⟨b, hb, hbn⟩
  · rintro r w' ⟨rfl, tg, ov, ⟨hne, hR⟩ | ⟨hne, hR⟩⟩
    · exact ⟨rfl, _, _, hR.less (C' := setl s.C n) (setl_sub _ _) (List.Sublist.refl _), hL.settled hB hbn' hp h.pm.bq hne tg ov, rfl, Nat.le_succ _, ⟨rfl, rfl, rfl, rfl, rfl, rfl, rfl, rfl, fun b' hb' => by
        rcases List.mem_append.1 hb' with h1 | h1
        · exact ⟨b', by rw [hB]; exact List.mem_append.2 (.inl h1), rfl, rfl⟩
        · rcases List.mem_cons.1 h1 with rfl | h1
          · exact ⟨b, hb, rfl, rfl⟩
          · exact ⟨b', by rw [hB]; exact List.mem_append.2 (.inr (List.mem_cons_of_mem _ h1)), rfl, rfl⟩⟩⟩
    · exact ⟨rfl, _, _, hR.less (C' := setl s.C n) (setl_sub _ _) (List.Sublist.refl _), hL.gone hB hbn' hp h.pm.bq hne tg hLL hen h.pm.cs.nd hK hws, rfl, Nat.le_refl _, ⟨rfl, rfl, rfl, rfl, rfl, rfl, rfl, rfl, fun b' hb' => by
        rcases List.mem_append.1 hb' with h1 | h1
        · exact ⟨b', by rw [hB]; exact List.mem_append.2 (.inl h1), rfl, rfl⟩
        · exact ⟨b', by rw [hB]; exact List.mem_append.2 (.inr (List.mem_cons_of_mem _ h1)), rfl, rfl⟩⟩⟩
/-- Those that are written and of one of these blocks are gone. -/
def flt (C : List Ch) (l : List Int) : List Ch := C.filter fun c => !(c.wr && l.contains (c.b : Int))
theorem flt_nil (C : List Ch) : flt C [] = C := List.filter_eq_self.2 fun c _ => by simp
theorem flt_snoc (C : List Ch) (l : List Int) (n : Nat) : flt C (l ++ [(n : Int)]) = setl (flt C l) n := by
  unfold flt setl
  rw [List.filter_filter]
  refine List.filter_congr fun c _ => ?_
  unfold left
  cases c.wr <;> by_cases h1 : c.b = n
  · simp
  · simp
  · simp [h1]
  · have h2 : ¬ (c.b : Int) = n := by omega
    simp [h1, h2]
set_option maxHeartbeats 2000000 in
theorem pflush_any2 (h : PM w base s ops) (hL : PL s ops [] κ) (hκ : κ ≤ 40000) :
    Calls Tryz.prog 27 #[.pointer (some ⟨s.p, 0, none⟩)] w fun r w' => r = .returned (.int .i64 0) ∧ ∃ s' ops', PRun base s w s' ops' w' ∧ PL s' ops' [] (κ + 1) ∧ s'.C = nwr s.C ∧ s'.cnt = s.cnt ∧ s'.p = s.p ∧ s'.σ.sf = lst s.σ ∧ s'.σ.dn = s.σ.dn ∧ s'.σ.most = s.σ.most ∧ s'.σ.dp = s.σ.dp ∧ s'.σ.ws = (fun _ => []) ∧ (∀ b' ∈ s'.B, ∃ b ∈ s.B, b.n = b'.n ∧ b.la = b'.la) := by
  have CF := cflush_any h.cs hL.en.1 hL.en.2
  have c1 := h.c1
  have HH : Hid (PM w base s ops) := h
  have HL : Hid (PL s ops [] κ) := hL
  clear h hL
  go_enter Tryz.func27, Tryz.ntmps27
  go_wp2_with fail
  refine CF.mono ?_
  clear CF
  rintro r w1 ⟨rfl, vs', hD⟩
  obtain ⟨s1, hs1⟩ : ∃ s1 : PSt, s1 = { s with σ := { s.σ with sf := lst s.σ, ws := fun _ => [], vs := vs' } } := ⟨_, rfl⟩
  have hR1 : PRun base s w s1 ops w1 := by rw [hs1]; exact (PRun.start HH.out).cache hD rfl rfl
  have hL1 : PL s1 ops s.kB (κ + 1) := by rw [hs1]; exact (HL.out.flushed (σ' := { s.σ with sf := lst s.σ, ws := fun _ => [], vs := vs' }) rfl rfl rfl rfl rfl rfl rfl rfl).mono (Nat.le_succ _)
  have e1 : s1.p = s.p ∧ s1.kB = s.kB ∧ s1.C = s.C ∧ s1.cnt = s.cnt ∧ s1.σ.sf = lst s.σ ∧ s1.σ.ws = (fun _ => []) ∧ s1.σ.dn = s.σ.dn ∧ s1.σ.most = s.σ.most ∧ s1.σ.dp = s.σ.dp ∧ s1.σ.K = s.σ.K := by rw [hs1]; exact ⟨rfl, rfl, rfl, rfl, rfl, rfl, rfl, rfl, rfl, rfl⟩
  have HB1 : Hid (s1.B = s.B) := by show _ = _; rw [hs1]
  have hkl : s.kB.length ≤ 8 := by
    have h1 := nodup_lt_len s.σ.dn (s.B.map (·.n)) HL.out.bn (fun x hx => by
      obtain ⟨b, hb, rfl⟩ := List.mem_map.1 hx
      exact HL.out.bdn b hb)
    have h2 := HL.out.mdn
    rw [HL.out.kb]; unfold bns
    simp at h1 ⊢; omega
  have DY := pdirty_any hR1.pm (by rw [e1.2.1]; omega)
  rw [e1.2.1, e1.1] at DY
  have HR1 : Hid (PRun base s w s1 ops w1) := hR1
  have HL1 : Hid (PL s1 ops s.kB (κ + 1)) := hL1
  have HE : Hid (s1.p = s.p ∧ s1.kB = s.kB ∧ s1.C = s.C ∧ s1.cnt = s.cnt ∧ s1.σ.sf = lst s.σ ∧ s1.σ.ws = (fun _ => []) ∧ s1.σ.dn = s.σ.dn ∧ s1.σ.most = s.σ.most ∧ s1.σ.dp = s.σ.dp ∧ s1.σ.K = s.σ.K) := e1
  clear hR1 hL1 e1 hs1 hD c1
  go_wp2_with (go_at_call 33; refine Hid.out ?_)
  change Calls _ _ _ _ _
  refine DY.mono ?_
  clear DY
  rintro r w2 ⟨v, ss, rfl, ho, hpm, _, hb2⟩
  obtain ⟨va, vc, rfl, hvs, hvl, hvc, hvn⟩ := ho.form
  have hnd : ss.Nodup := by
    refine hpm.nodup_iff.2 ?_
    rw [HL.out.kb]; unfold bns
    have := HL.out.bn
    unfold List.Nodup at this ⊢
    rw [List.pairwise_map] at this ⊢
    exact this.imp fun hab => by omega
  have hsl : ss.length ≤ 8 := by rw [hpm.length_eq]; exact hkl
  have HS0 : Hid (SrcI w2 va ss ∧ ∀ b o, va = some ⟨b, o, none⟩ → w1.heap.size ≤ b ∧ b < w2.heap.size) := ⟨hvs, fun b o e => by have := ho.lt b (by rw [e]; rfl); exact this⟩
  have HR2 : Hid (PRun base s1 w2 s1 ops w2 ∧ PRun base s w s1 ops w2) := ⟨PRun.start (HR1.out.pm.up hb2), HR1.out.up hb2⟩
  have HSS : Hid (ss.Perm s.kB ∧ ss.Nodup) := ⟨hpm, hnd⟩
  clear ho hpm hb2 hvs hnd hkl
  go_wp2
  go_loopg [5, 19] ss.length (fun gg _ t19 W => ∃ (gw : World) (k : Nat) (s2 : PSt) (o2 : Nat → List Int), gw = W ∧ k ≤ ss.length ∧ ss.length - k ≤ gg ∧ t19 = .int .i64 k ∧ Hid (PRun base s1 w2 s2 o2 gw) ∧ Hid (PL s2 o2 (s.kB.filter fun y => decide (y ∉ ss.take k)) (κ + 1)) ∧ Hid (Kin s1 s2 ∧ s2.C = flt s.C (ss.take k) ∧ s2.σ.K ≤ s.σ.K + k))
  case atStart =>
    refine ⟨_, 0, s1, ops, rfl, by omega, by omega, rfl, HR2.out.1, ?_, Kin.refl _, ?_, ?_⟩
    · rw [List.take_zero, List.filter_eq_self.2 (fun _ _ => by simp)]; exact HL1.out
    · rw [List.take_zero, flt_nil]; exact HE.out.2.2.1
    · rw [HE.out.2.2.2.2.2.2.2.2.2]; exact Nat.le_refl _
  case round =>
    obtain ⟨gw, k, s2, o2, rfl, hk, hgg, rfl, HR, HP, HK⟩ := hrel
    by_cases hlt : k < ss.length
    · have hltz : (k : Int) < (ss.length : Int) := by omega
      have hmem : ss.getD k 0 ∈ ss := by rw [List.getD_eq_getElem?_getD, List.getElem?_eq_getElem hlt]; exact List.getElem_mem hlt
      have htk := take_succ_getD ss k hlt
      have hnot : ss.getD k 0 ∉ ss.take k := fun hm => by
        have h1 := HSS.out.2
        rw [← List.take_append_drop k ss] at h1
        have h2 := (List.nodup_append.1 h1).2.2
        refine h2 _ hm (ss.getD k 0) ?_ rfl
        rw [List.getD_eq_getElem?_getD, List.getElem?_eq_getElem hlt, Option.getD_some, List.drop_eq_getElem_cons hlt]
        exact List.mem_cons.2 (.inl rfl)
      have hpd : ss.getD k 0 ∈ s.kB.filter fun y => decide (y ∉ ss.take k) := List.mem_filter.2 ⟨HSS.out.1.subset hmem, by simpa using hnot⟩
      obtain ⟨b, hb, hbn⟩ := HP.out.pb _ hpd
      obtain ⟨n, hn⟩ : ∃ n, n = b.n := ⟨_, rfl⟩
      rw [← hn] at hbn
      obtain ⟨b0, off, rfl, hb0, hcc⟩ : ∃ b off, va = some ⟨b, off, none⟩ ∧ b < w2.heap.size ∧ ∀ j, j < ss.length → w2.cell? ⟨b, off + j, none⟩ = some (.int .i64 (ss.getD j 0)) := by
        rcases HS0.out.1 with h0 | h1
        · rw [h0] at hlt; simp at hlt
        · exact h1
      have ck : gw.cell? ⟨b0, off + k, none⟩ = some (.int .i64 (n : Int)) := by
        rw [hbn, ← hcc k hlt]
        exact fr_cell HR.out.fr (a := ⟨b0, off + k, none⟩) hb0 (fun hA => by
          have h1 := HR1.out.pm.lt hA
          have h2 := (HS0.out.2 b0 off rfl).1
          have h3 : b0 < w1.heap.size := h1
          omega)
      have SE := settle_pl HR.out HP.out (n := n) (by rw [hbn]; exact hpd) (by have := HK.out.2.2; have := HL.out.bd.2.2.2.1; omega) (by omega) (by rw [HK.out.1.ws, HE.out.2.2.2.2.2.1])
      rw [HK.out.1.p, HE.out.1] at SE
      have HN : Hid ((n : Int) = ss.getD k 0 ∧ ss.take (k + 1) = ss.take k ++ [ss.getD k 0]) := ⟨hbn, htk⟩
      clear hcc hmem hnot hpd hb hbn hn htk
      go_wp2_with (go_at_call 87; refine Hid.out ?_)
      change Calls _ _ _ _ _
      refine SE.mono ?_
      clear SE
      rintro r w3 ⟨rfl, s3, o3, hR3, hP3, hC3, hK3, hKin⟩
      have HR3 : Hid (PRun base s1 w2 s3 o3 w3) := hR3
      have HP3 : Hid (PL s3 o3 (s.kB.filter fun y => decide (y ∉ ss.take (k + 1))) (κ + 1)) := by
        rw [HN.out.2]
        rw [List.filter_filter] at hP3
        have ef : (s.kB.filter fun y => decide (y ∉ ss.take k ++ [ss.getD k 0])) = s.kB.filter fun a => decide (a ≠ (n : Int)) && decide (a ∉ ss.take k) := List.filter_congr fun y _ => by
          rw [← HN.out.1]
          simp [not_or]
          exact Bool.and_comm _ _
        rw [ef]; exact hP3
      have HK3 : Hid (Kin s1 s3 ∧ s3.C = flt s.C (ss.take (k + 1)) ∧ s3.σ.K ≤ s.σ.K + (k + 1)) := ⟨HK.out.1.trans hKin, by rw [hC3, HK.out.2.1, HN.out.2, ← HN.out.1, flt_snoc], by have := HK.out.2.2; omega⟩
      clear hR3 hP3 hC3 hK3 hKin
      go_wp2
      go_roundg (ss.length - (k + 1))
      case measure => omega
      case rel => exact ⟨_, k + 1, s3, o3, rfl, by omega, by omega, by go_num, HR3, HP3, HK3⟩
    · have hltz : ¬ (k : Int) < (ss.length : Int) := by omega
      have HKN : Hid (ss.take k = ss) := List.take_of_length_le (by omega)
      go_wp2
      go_ret
      have hP := HP.out
      have hK := HK.out
      rw [HKN.out] at hP hK
      have hno : (s.kB.filter fun y => decide (y ∉ ss)) = [] := by
        rw [List.filter_eq_nil_iff]
        intro y hy
        simpa using HSS.out.1.symm.subset hy
      rw [hno] at hP
      refine ⟨rfl, s2, o2, HR2.out.2.trans HR.out, hP, ?_, ?_, ?_, ?_, ?_, ?_, ?_, ?_, ?_⟩
      · rw [hK.2.1]
        unfold flt nwr
        refine List.filter_congr fun c hc => ?_
        obtain ⟨b, hb, hbn⟩ := HL.out.cb c hc
        have : (c.b : Int) ∈ ss := HSS.out.1.symm.subset (by rw [HL.out.kb]; exact List.mem_map.2 ⟨b, hb, by rw [hbn]⟩)
        simp [this]
      · rw [hK.1.cnt]; exact HE.out.2.2.2.1
      · rw [hK.1.p]; exact HE.out.1
      · rw [hK.1.sf]; exact HE.out.2.2.2.2.1
      · rw [hK.1.dn]; exact HE.out.2.2.2.2.2.2.1
      · rw [hK.1.most]; exact HE.out.2.2.2.2.2.2.2.1
      · rw [hK.1.dp]; exact HE.out.2.2.2.2.2.2.2.2.1
      · rw [hK.1.ws]; exact HE.out.2.2.2.2.2.1
      · intro b' hb'
        have := hK.1.la b' hb'
        rw [HB1.out] at this
        exact this
theorem pflush_any (h : PM w base s ops) (hL : PL s ops [] κ) (hκ : κ ≤ 40000) :
    Calls Tryz.prog 27 #[.pointer (some ⟨s.p, 0, none⟩)] w fun r w' => r = .returned (.int .i64 0) ∧ ∃ s' ops', PRun base s w s' ops' w' ∧ PL s' ops' [] (κ + 1) ∧ s'.C = nwr s.C ∧ s'.cnt = s.cnt ∧ s'.p = s.p ∧ s'.σ.sf = lst s.σ ∧ s'.σ.dn = s.σ.dn ∧ s'.σ.most = s.σ.most ∧ s'.σ.dp = s.σ.dp ∧ s'.σ.ws = (fun _ => []) := by
  refine (pflush_any2 h hL hκ).mono ?_
  rintro r w' ⟨rfl, s', o', h1, h2, h3, h4, h5, h6, h7, h8, h9, h10, _⟩
  exact ⟨rfl, s', o', h1, h2, h3, h4, h5, h6, h7, h8, h9, h10⟩
end
end Go.Proofs.YtadadidccbhopaaGreat
/- Package patch: Open, Safe, Read, Image, Ready of a store. -/
namespace Go.Proofs.YtadadidccbhopaaGreat
open Go.RowKit
set_option maxRecDepth 100000
section
variable {w w' w0 : World} {base : Nat} {σ : CSt} {s s' s0 : PSt} {ops ops' : Nat → List Int} {κ : Nat}
theorem PL.touch (h : PL s ops [] κ) {n : Nat} {σ1 : CSt} {d : List UInt8} {pn : Nat} (hd : (d, pn) = (ent s.σ.L n).getD (lst s.σ n, 0)) (hC : CRel s.σ σ1 n (some (d, pn))) : PL { s with σ := σ1 } ops [] (κ + 1) :=
  { h with
    bdn := (fun b hb => (by show b.n < σ1.dn; rw [hC.dn]; exact h.bdn b hb))
    len := hC.len
    mdn := (by show σ1.dn ≤ σ1.most ∧ σ1.dn ≤ 8; rw [hC.dn, hC.most]; exact h.mdn)
    en := (by show σ1.en = false ∧ σ1.lf = 0; rw [hC.en, hC.lf]; exact h.en)
    bd := (by
      obtain ⟨h1, h2, h3, h4, h5⟩ := h.bd
      have := hC.k1
      exact ⟨by show s.cnt ≤ _; omega, by show s.kc ≤ _; omega, by show s.kb ≤ _; omega, by show σ1.K ≤ _; omega, fun n => by show (σ1.ws n).length ≤ _; rw [hC.ws]; have := h5 n; omega⟩)
    sfb := (fun b hb => (by show σ1.sf b.n = _; rw [hC.sf]; exact h.sfb b hb))
    lsb := (fun b hb => (by show lst σ1 b.n = _; unfold lst; rw [hC.sf, hC.ws]; exact h.lsb b hb))
    cab := (fun b hb => (by
      show ent σ1.L b.n = _
      by_cases e : b.n = n
      · have h1 := h.cab b hb
        rw [e] at h1
        rw [h1] at hd
        rw [e, hC.at', hd]; rfl
      · rw [hC.oth _ e]; exact h.cab b hb))
    cao := (fun m hm hno => (by
      obtain ⟨h1, h2⟩ := h.cao m (by have : m < σ1.dn := hm; rw [hC.dn] at this; exact this) hno
      refine ⟨by show σ1.ws m = []; rw [hC.ws]; exact h1, ?_⟩
      show ent σ1.L m = none ∨ ent σ1.L m = some (σ1.sf m, 0)
      rw [hC.sf]
      by_cases e : m = n
      · subst e
        have hl : lst s.σ m = s.σ.sf m := by unfold lst; rw [h1]; rfl
        rw [hC.at', hd]
        rcases h2 with h2 | h2
        · rw [h2, hl]; exact .inr rfl
        · rw [h2]; exact .inr rfl
      · rw [hC.oth m e]; exact h2)) }
set_option maxHeartbeats 1000000 in
theorem popen_any (h : PM w base s ops) :
    Calls Tryz.prog 32 #[.pointer (some ⟨s.p, 0, none⟩)] w fun e w' => e = .returned (.int .i64 (s.kC.length : Int)) ∧ w' = w := by
  have q3 := h.c3
  have LN := fun ty => KMap.len (mt := 121) (et := 147) (by kernel_rfl) h.mc ty
  clear h
  go_enter Tryz.func32, Tryz.ntmps32
  go_wp2
  go_ret
  exact ⟨rfl, rfl⟩
set_option maxHeartbeats 1000000 in
theorem psafe_any (h : PM w base s ops) (x : Int) (hx : -9223372036854775808 ≤ x ∧ x ≤ 9223372036854775807) :
    Calls Tryz.prog 29 #[.pointer (some ⟨s.p, 0, none⟩), .int .i64 x] w fun e w' => e = .returned (.bool (decide (1 ≤ x ∧ x ≤ (s.cnt : Int) ∧ s.fC x = 0))) ∧ w' = w := by
  have UN := unknown_any h x
  have CL := closed_any h x hx
  clear h
  by_cases h1 : x < 1 ∨ (s.cnt : Int) < x
  · rw [decide_eq_true h1] at UN
    have e : decide (1 ≤ x ∧ x ≤ (s.cnt : Int) ∧ s.fC x = 0) = false := by simp; omega
    rw [e]
    clear CL e
    go_enter Tryz.func29, Tryz.ntmps29
    go_wp2_with fail
    refine UN.mono ?_
    rintro r w1 ⟨rfl, hw1⟩
    obtain rfl : w = w1 := hw1.symm
    go_wp2
    go_ret
    exact ⟨rfl, rfl⟩
  · rw [decide_eq_false h1] at UN
    have e : decide (1 ≤ x ∧ x ≤ (s.cnt : Int) ∧ s.fC x = 0) = decide (s.fC x = 0) := by
      by_cases h2 : s.fC x = 0
      · simp [h2]; omega
      · simp [h2]
    rw [e]
    clear e
    go_enter Tryz.func29, Tryz.ntmps29
    go_wp2_with fail
    refine UN.mono ?_
    rintro r w1 ⟨rfl, hw1⟩
    obtain rfl : w = w1 := hw1.symm
    go_wp2_with fail
    refine CL.mono ?_
    rintro r w1 ⟨rfl, hw1⟩
    obtain rfl : w = w1 := hw1.symm
    go_wp2
    go_ret
    exact ⟨rfl, rfl⟩
set_option maxHeartbeats 1000000 in
theorem pread_any (h : PM w base s ops) (hL : PL s ops [] κ) (hκ : κ ≤ 40000) (n : Nat) (hn : n < s.σ.dn) :
    Calls Tryz.prog 34 #[.pointer (some ⟨s.p, 0, none⟩), .int .i64 (n : Int)] w fun r w' => ∃ v d pn σ', r = .returned (.tuple #[v, .int .i64 0]) ∧ (d, pn) = (ent s.σ.L n).getD (lst s.σ n, 0) ∧ Own w' w.heap.size v d ∧ d.length = 256 ∧ PRun base s w { s with σ := σ' } ops w' ∧ PL { s with σ := σ' } ops [] (κ + 1) ∧ CRel s.σ σ' n (some (d, pn)) ∧ (∀ k, v.ownBlock = some k → ¬ Sk σ' k) := by
  have RD := cr_read h.cs n hn (by have := hL.bd.2.2.2.1; omega) hL.len hL.mdn.1
  have c1 := h.c1
  have HH : Hid (PM w base s ops) := h
  have HL : Hid (PL s ops [] κ) := hL
  clear h hL
  go_enter Tryz.func34, Tryz.ntmps34
  go_wp2_with fail
  refine RD.mono ?_
  clear RD
  rintro r w1 ⟨v, d, pn, σ', rfl, hd, hO, hS, hD, hC, hdl⟩
  have HX : Hid ((d, pn) = (ent s.σ.L n).getD (lst s.σ n, 0) ∧ Own w1 w.heap.size v d ∧ d.length = 256 ∧ PRun base s w { s with σ := σ' } ops w1 ∧ PL { s with σ := σ' } ops [] (κ + 1) ∧ CRel s.σ σ' n (some (d, pn)) ∧ (∀ k, v.ownBlock = some k → ¬ Sk σ' k)) := ⟨hd, hO, hdl, (PRun.start HH.out).cache hD hC.p hC.dp, HL.out.touch hd hC, hC, hS⟩
  clear hd hO hS hD hC hdl
  go_wp2
  go_ret2
  exact ⟨v, d, pn, σ', rfl, HX.out⟩
/-- What asking which changes may be written needs. -/
theorem PL.alw_pre (h : PL s ops [] κ) (hκ : κ ≤ 40000) {b : Bk} (hb : b ∈ s.B) {n : Nat} (hbn : b.n = n) : ops b.q = cids (ofB s.C n) ∧ (∀ c ∈ ofB s.C n, c ∈ s.C ∧ s.fC c.id = c.q + 1 ∧ (c.id : Int) ≤ 1000000 ∧ c.ah.length ≤ 1000000 ∧ ∀ i ∈ c.ah, -9223372036854775808 ≤ i ∧ i ≤ 9223372036854775807) ∧ (∀ i : Int, -9223372036854775808 ≤ i ∧ i ≤ 9223372036854775807 → decide (s.fC i = 0) = !opn s.C i) ∧ (ofB s.C n).length ≤ 1000000 ∧ s.fB n = b.q + 1 := by
  have hbd := h.bd
  refine ⟨by rw [← hbn]; exact h.op b hb, fun c hc => ?_, fun i _ => by rw [h.fc]; exact lkC_opn h.asc i, Nat.le_trans (List.length_filter_le _ _) (by have := h.clen; omega), by rw [h.fb, ← hbn]; exact lkB_at h.bn hb⟩
  have hc' := (List.mem_filter.1 hc).1
  have h1 := h.idr c hc'
  exact ⟨hc', by rw [h.fc]; exact lkC_at h.asc hc', by omega, by have := (h.ah c hc').2; omega, fun i hi => by have := (h.ah c hc').1 i hi; omega⟩
end
end Go.Proofs.YtadadidccbhopaaGreat
/- Package patch: Ready. -/
namespace Go.Proofs.YtadadidccbhopaaGreat
open Go.RowKit
set_option maxRecDepth 100000
section
variable {w w' w0 : World} {base : Nat} {σ : CSt} {s s' s0 : PSt} {ops ops' : Nat → List Int} {κ : Nat}
set_option maxHeartbeats 2000000 in
theorem pready_any (h : PM w base s ops) (hL : PL s ops [] κ) (hκ : κ ≤ 30000) (n : Nat) (hn : n < s.σ.dn) {b : Bk} (hb : b ∈ s.B) (hbn : b.n = n) :
    Calls Tryz.prog 72 #[.pointer (some ⟨s.p, 0, none⟩), .int .i64 (n : Int)] w fun r w' => r = .returned (.int .i64 ((nwr (pickC (ofB s.C n) (alw s.C n))).length : Int)) ∧ Below w.heap.size w w' := by
  have RC := preach_any h (n : Int)
  rw [if_neg (by omega)] at RC
  have hdn := hL.mdn
  obtain ⟨hop, hcs, hf, hofn, hfb⟩ := hL.alw_pre (by omega) hb hbn
  have AL := allowed_any h hb (ofB s.C n) hop hcs (hL.asc.ofB n) hf hofn
  have LK := h.lookB (n : Int) (by omega)
  rw [hfb] at LK
  simp only [ptrV] at LK
  have c4 := h.c4
  obtain ⟨al, hal⟩ : ∃ al, al = alw s.C n := ⟨_, rfl⟩
  have hal2 : allowG s.C (ofB s.C n) [] = al := hal.symm
  rw [hal2] at AL
  obtain ⟨P, hP⟩ : ∃ P, P = pickC (ofB s.C n) (alw s.C n) := ⟨_, rfl⟩
  have HPK : Hid (cids P = al) := by rw [hP, hal]; exact pick_ids (alw_sub s.C n) (hL.asc.ofB n)
  rw [← hP]
  have HPC : Hid ((∀ c ∈ P, c ∈ s.C ∧ s.fC c.id = c.q + 1 ∧ (c.id : Int) ≤ 1000000) ∧ P.length ≤ 1000000) := ⟨fun c hc => by
    rw [hP] at hc
    have := hcs c (List.mem_filter.1 hc).1
    exact ⟨this.1, this.2.1, this.2.2.1⟩, by rw [hP]; exact Nat.le_trans (List.length_filter_le _ _) hofn⟩
  have HH : Hid (PM w base s ops) := h
  clear h hL hb hbn hop hcs hf hofn hfb hal hal2 hP hdn
  go_enter Tryz.func72, Tryz.ntmps72
  go_wp2_with (first | (go_at_call 82; refine RC.mono ?_; rintro e w1 ⟨rfl, hw1⟩; obtain rfl : w = w1 := hw1.symm) | (go_at_call 83; refine Hid.out ?_))
  change Calls _ _ _ _ _
  refine AL.mono ?_
  clear AL RC LK c4
  rintro r w1 ⟨v, rfl, ho1, hb1⟩
  obtain ⟨va, vc, rfl, hvs, hvl, hvc, hvn⟩ := ho1.form
  obtain ⟨N, hN⟩ : ∃ N, N = P.length := ⟨_, rfl⟩
  have hpl : al.length = N := by
    have := congrArg List.length HPK.out
    simp [cids] at this
    omega
  rw [hpl]
  have hNb : N ≤ 1000000 := by rw [hN]; exact HPC.out.2
  have HN : Hid (N = P.length ∧ al.length = N) := ⟨hN, hpl⟩
  have HVS : Hid (SrcI w1 va al) := hvs
  have P1 := HH.out.up hb1
  have HP1 : Hid (PM w1 base s ops) := P1
  have HB1 : Hid (Below w.heap.size w w1) := hb1
  have c3 := P1.c3
  clear ho1 hvs hvl hvc hvn hb1 P1 hN hpl
  go_wp2
  go_loopg [5, 7, 30] N (fun gg t5 _ t30 W => ∃ (gw : World) (k : Nat), gw = W ∧ w1 = gw ∧ k ≤ N ∧ N - k ≤ gg ∧ t30 = .int .i64 k ∧ t5 = .int .i64 ((nwr (P.take k)).length : Int))
  case atStart => exact ⟨_, 0, rfl, rfl, by omega, by omega, rfl, rfl⟩
  case round =>
    obtain ⟨gw, k, rfl, hgw, hk, hgg, rfl, rfl⟩ := hrel
    subst hgw
    by_cases hlt : k < N
    · have hltz : (k : Int) < (N : Int) := by omega
      have hkl : k < P.length := by rw [← HN.out.1]; exact hlt
      obtain ⟨c, hc⟩ : ∃ c, c = P[k] := ⟨_, rfl⟩
      have hcP : c ∈ P := by rw [hc]; exact List.getElem_mem hkl
      have htk : P.take (k + 1) = P.take k ++ [c] := by rw [List.take_add_one, List.getElem?_eq_getElem hkl, Option.toList_some, ← hc]
      obtain ⟨hcC, hfc, hid⟩ := HPC.out.1 c hcP
      have hak : al.getD k 0 = (c.id : Int) := by
        rw [← HPK.out]
        unfold cids
        rw [List.getD_eq_getElem?_getD, List.getElem?_map, List.getElem?_eq_getElem hkl, hc]; rfl
      obtain ⟨b0, off, rfl, hb0, hcc⟩ : ∃ b off, va = some ⟨b, off, none⟩ ∧ b < w1.heap.size ∧ ∀ j, j < al.length → w1.cell? ⟨b, off + j, none⟩ = some (.int .i64 (al.getD j 0)) := by
        rcases HVS.out with h0 | h1
        · rw [h0] at HN; have := HN.out.2; simp at this; omega
        · exact h1
      have ck := hcc k (by rw [HN.out.2]; exact hlt)
      rw [hak] at ck
      have LK := HP1.out.lookC (c.id : Int) (by omega)
      rw [hfc] at LK
      simp only [ptrV] at LK
      have x4 : w1.cell? ⟨c.q, 4, none⟩ = some (.bool c.wr) := (HP1.out.ch c hcC).c4
      have hnl : (nwr (P.take k)).length ≤ 1000000 := Nat.le_trans (List.length_filter_le _ _) (by rw [List.length_take]; omega)
      obtain ⟨m, hm⟩ : ∃ m, m = (nwr (P.take k)).length := ⟨_, rfl⟩
      rw [← hm] at hnl
      rw [← hm]
      have HM : Hid (m = (nwr (P.take k)).length ∧ P.take (k + 1) = P.take k ++ [c]) := ⟨hm, htk⟩
      clear hcc hcP hcC hfc hak hc htk hm
      cases hw : c.wr with
      | true =>
        rw [hw] at x4
        have HW : Hid (c.wr = true) := hw
        clear hw
        go_wp2
        go_roundg (N - (k + 1))
        case measure => omega
        case rel => exact ⟨_, k + 1, rfl, rfl, by omega, by omega, by go_num, by rw [HM.out.2, (wrs_snoc_t HW.out).2, HM.out.1]⟩
      | false =>
        rw [hw] at x4
        have HW : Hid (c.wr = false) := hw
        clear hw
        go_wp2
        go_roundg (N - (k + 1))
        case measure => omega
        case rel => exact ⟨_, k + 1, rfl, rfl, by omega, by omega, by go_num, by rw [HM.out.2, (wrs_snoc_f HW.out).2, List.length_append, ← HM.out.1]; go_num⟩
    · have hltz : ¬ (k : Int) < (N : Int) := by omega
      have hkn : P.take k = P := List.take_of_length_le (by have := HN.out.1; omega)
      rw [hkn]
      go_wp2
      go_ret
      exact ⟨rfl, HB1.out⟩
end
end Go.Proofs.YtadadidccbhopaaGreat
/- Package cache: New; package patch: Open. -/
namespace Go.Proofs.YtadadidccbhopaaGreat
open Go.RowKit
set_option maxRecDepth 100000
section
variable {w w' : World} {base : Nat} {σ : CSt}
set_option maxHeartbeats 1000000 in
theorem cnew_any {dp dn dq : Nat} {en : Bool} {lf : Int} {sf : Nat → List UInt8} {ws : Nat → List (List UInt8)} {vs : Nat → Value} (h : DiskAt w base dp dn en lf sf ws dq vs) (most : Nat) (h1 : 1 ≤ most) (h2 : most ≤ 4096) :
    Calls Tryz.prog 61 #[.pointer (some ⟨dp, 0, none⟩), .int .i64 (most : Int)] w fun r w' => ∃ p mb, r = .returned (.tuple #[.pointer (some ⟨p, 0, none⟩), .int .i64 0]) ∧ CS w' base ⟨p, mb, 0, .slice none 0 0, most, [], dp, dn, dq, en, lf, sf, ws, vs⟩ [] ∧ w.heap.size ≤ p ∧ w.heap.size ≤ mb ∧ Below w.heap.size w w' := by
  have s1 : ∀ (v : World) (o : Obj), (v.alloc o).heap.size = v.heap.size + 1 := fun v o => by show (v.heap.push o).size = _; simp
  have hb0 : Below w.heap.size w (w.alloc (.map #[] 0)) := (Below.refl _ _).alloc (Nat.le_refl _) _
  have hb1 : Below w.heap.size w ((w.alloc (.map #[] 0)).alloc (.cells #[.pointer (some ⟨dp, 0, none⟩), .int .i64 (most : Int), .map (some w.heap.size), .slice none 0 0] 183)) := hb0.alloc (by rw [s1]; omega) _
  have hp := PMap.made w
  have hrow : ((w.alloc (.map #[] 0)).alloc (.cells #[.pointer (some ⟨dp, 0, none⟩), .int .i64 (most : Int), .map (some w.heap.size), .slice none 0 0] 183)).heap[w.heap.size + 1]? = some (.cells #[.pointer (some ⟨dp, 0, none⟩), .int .i64 (most : Int), .map (some w.heap.size), .slice none 0 0] 183 (0, 0)) := by
    have := heap_alloc_new (w.alloc (.map #[] 0)) (.cells #[.pointer (some ⟨dp, 0, none⟩), .int .i64 (most : Int), .map (some w.heap.size), .slice none 0 0] 183)
    rw [s1] at this; exact this
  have hbs : base ≤ w.heap.size := by have := h.pb; have := h.pl; omega
  have HC : Hid (CS ((w.alloc (.map #[] 0)).alloc (.cells #[.pointer (some ⟨dp, 0, none⟩), .int .i64 (most : Int), .map (some w.heap.size), .slice none 0 0] 183)) base ⟨w.heap.size + 1, w.heap.size, 0, .slice none 0 0, most, [], dp, dn, dq, en, lf, sf, ws, vs⟩ []) := {
    disk := h.below hb1 (Nat.le_refl _)
    c0 := by show World.cell? _ _ = _; rw [cell_of_row _ _ _ _ _ _ hrow]; rfl
    c1 := by show World.cell? _ _ = _; rw [cell_of_row _ _ _ _ _ _ hrow]; rfl
    c2 := by show World.cell? _ _ = _; rw [cell_of_row _ _ _ _ _ _ hrow]; rfl
    c3 := by show World.cell? _ _ = _; rw [cell_of_row _ _ _ _ _ _ hrow]; rfl
    fp := fun o => frozen_of_row _ _ _ _ _ hrow
    ord := OwnN.nil _ _
    map := hp.same (Below.heap_alloc _ _ _ (by rw [s1]; omega))
    blk := fun e he => by cases he
    nd := List.nodup_nil, qd := List.nodup_nil
    pm := by show w.heap.size + 1 ≠ w.heap.size; omega
    po := by show (none : Option Nat) ≠ _; simp
    mo := by show (none : Option Nat) ≠ _; simp
    bq := fun e he => by cases he
    pb := by show base ≤ w.heap.size + 1; omega
    mbb := hbs
    dk := fun k hk hC => by
      have hkl := (h.dk_lt hk).1
      rcases hC with hC | hC | hC | ⟨e, he, _⟩
      · have hC' : k = w.heap.size + 1 := hC
        omega
      · have hC' : k = w.heap.size := hC
        omega
      · have hC' : (none : Option Nat) = some k := hC
        cases hC'
      · cases he
    m1 := ⟨h1, h2⟩ }
  have hmk := run_makeMap (P := Tryz.prog) 180 w
  have hi1 : (1 : Int) ≤ most := by omega
  have hi2 : (most : Int) ≤ 4096 := by omega
  clear hp hrow h hb0
  go_enter Tryz.func61, Tryz.ntmps61
  go_wp2
  go_ret2
  exact ⟨w.heap.size + 1, w.heap.size, rfl, HC.out, by omega, by omega, hb1⟩
/-- An empty store. -/
def newS (p cm bm : Nat) (σ : CSt) : PSt := ⟨p, cm, bm, 0, 0, 0, fun _ => 0, [], fun _ => 0, [], [], [], fun k => if k = p then 1 else if k = cm then 2 else 3, σ⟩
theorem PM.made (h : CS w base σ (nums σ.L)) (hb : Below w.heap.size w w') {p cm bm : Nat} (h1 : w.heap.size ≤ p ∧ w.heap.size ≤ cm ∧ w.heap.size ≤ bm) (h2 : p ≠ cm ∧ p ≠ bm ∧ cm ≠ bm) (hp : w'.heap[p]? = some (.cells (stL (newS p cm bm σ)).toArray 124 (0, 0))) (hc : KMap 2 w' cm 0 (fun _ => 0) []) (hm : KMap 3 w' bm 0 (fun _ => 0) []) :
    PM w' base (newS p cm bm σ) (fun _ => []) where
  cs := h.up hb
  st := hp
  mc := hc
  mb := hm
  ch := fun c hc => by cases hc
  bk := fun b hb => by cases hb
  cq := List.nodup_nil
  bq := List.nodup_nil
  t0 := ⟨if_pos rfl, (if_neg (fun e => h2.1 e.symm)).trans (if_pos rfl), (if_neg (fun e => h2.2.1 e.symm)).trans (if_neg (fun e => h2.2.2 e.symm))⟩
  tc := fun c hc => by cases hc
  tb := fun b hb => by cases hb
  fk := fun k hk => by
    have hbs : base ≤ w.heap.size := by have := h.mbb; have := h.map.lt; omega
    have hpl : p < w'.heap.size := (Array.getElem?_eq_some_iff.1 hp).1
    have hcl := hc.lt
    have hml := hm.lt
    have hno : w.heap.size ≤ k → ¬ Sk σ k := fun hle hS => by have := h.sk_size hS; omega
    rcases hk with hk | hk | hk | ⟨c, hc, _⟩ | ⟨b, hb, _⟩
    · have hk' : k = p := hk
      exact ⟨by omega, by omega, hno (by omega)⟩
    · have hk' : k = cm := hk
      exact ⟨by omega, by omega, hno (by omega)⟩
    · have hk' : k = bm := hk
      exact ⟨by omega, by omega, hno (by omega)⟩
    · cases hc
    · cases hb
set_option maxHeartbeats 2000000 in
theorem popn_any {dp dn dq : Nat} {en : Bool} {lf : Int} {sf : Nat → List UInt8} {ws : Nat → List (List UInt8)} {vs : Nat → Value} (h : DiskAt w base dp dn en lf sf ws dq vs) (most : Nat) (h1 : 1 ≤ most) (h2 : most ≤ 4096) :
    Calls Tryz.prog 11 #[.pointer (some ⟨dp, 0, none⟩), .int .i64 (most : Int)] w fun r w' => ∃ p cm bm cp mb, r = .returned (.tuple #[.pointer (some ⟨p, 0, none⟩), .int .i64 0]) ∧ PM w' base (newS p cm bm ⟨cp, mb, 0, .slice none 0 0, most, [], dp, dn, dq, en, lf, sf, ws, vs⟩) (fun _ => []) ∧ Below w.heap.size w w' := by
  have CN := cnew_any h most h1 h2
  clear h
  go_enter Tryz.func11, Tryz.ntmps11
  go_wp2_with fail
  refine CN.mono ?_
  clear CN
  rintro r w1 ⟨cp, mb, rfl, hC, _, _, hb1⟩
  have HC : Hid (CS w1 base ⟨cp, mb, 0, .slice none 0 0, most, [], dp, dn, dq, en, lf, sf, ws, vs⟩ []) := hC
  have HB : Hid (Below w.heap.size w w1) := hb1
  have hm1 := fun w => run_makeMap (P := Tryz.prog) 121 w
  have hm2 := fun w => run_makeMap (P := Tryz.prog) 122 w
  clear hC hb1
  go_wp2
  go_ret2
  have s1 : ∀ (v : World) (o : Obj), (v.alloc o).heap.size = v.heap.size + 1 := fun v o => by show (v.heap.push o).size = _; simp
  have b0 : Below w1.heap.size w1 (w1.alloc (.map #[] 0)) := (Below.refl _ _).alloc (Nat.le_refl _) _
  have b1 : Below w1.heap.size w1 ((w1.alloc (.map #[] 0)).alloc (.map #[] 0)) := b0.alloc (by rw [s1]; omega) _
  have b2 : Below w1.heap.size w1 (((w1.alloc (.map #[] 0)).alloc (.map #[] 0)).alloc (.cells #[.pointer (some ⟨dp, 0, none⟩), .pointer (some ⟨cp, 0, none⟩), .int .i64 0, .map (some w1.heap.size), .map (some (w1.heap.size + 1))] 124)) := b1.alloc (by rw [s1, s1]; omega) _
  refine ⟨w1.heap.size + 2, w1.heap.size, w1.heap.size + 1, cp, mb, rfl, PM.made HC.out b2 ⟨by omega, by omega, by omega⟩ ⟨by omega, by omega, by omega⟩ ?_ ?_ ?_, HB.out.trans (b2.mono HB.out.size)⟩
  · have := heap_alloc_new ((w1.alloc (.map #[] 0)).alloc (.map #[] 0)) (.cells #[.pointer (some ⟨dp, 0, none⟩), .pointer (some ⟨cp, 0, none⟩), .int .i64 0, .map (some w1.heap.size), .map (some (w1.heap.size + 1))] 124)
    rw [s1, s1] at this; exact this
  · exact ((KMap.made w1).same (Below.heap_alloc _ _ _ (by rw [s1]; omega))).same (Below.heap_alloc _ _ _ (by rw [s1, s1]; omega))
  · have := KMap.made (kt := 3) (w1.alloc (.map #[] 0))
    rw [s1] at this
    exact this.same (Below.heap_alloc _ _ _ (by rw [s1, s1]; omega))
end
end Go.Proofs.YtadadidccbhopaaGreat
/- A store between its calls: Patch, Write, Flush and what they leave. -/
namespace Go.Proofs.YtadadidccbhopaaGreat
open Go.RowKit
set_option maxRecDepth 100000
section
variable {w w' w0 : World} {base : Nat} {σ : CSt} {s s' s0 : PSt} {ops ops' : Nat → List Int} {κ : Nat}
theorem PL.made {p cm bm : Nat} (hL : σ.L = []) (hm : σ.dn ≤ σ.most ∧ σ.dn ≤ 8) (hen : σ.en = false ∧ σ.lf = 0) (hK : σ.K = 0) (hws : σ.ws = fun _ => []) : PL (newS p cm bm σ) (fun _ => []) [] 0 where
  asc := List.Pairwise.nil
  idr := fun c hc => by cases hc
  ft := fun c hc => by cases hc
  fc := rfl
  kc := rfl
  fb := rfl
  kb := rfl
  bn := List.nodup_nil
  bdn := fun b hb => by cases hb
  op := fun b hb => by cases hb
  cb := fun c hc => by cases hc
  bc := fun b hb => by cases hb
  pb := fun i hi => by cases hi
  bal := fun b hb => by cases hb
  ah := fun c hc => by cases hc
  la := fun b hb => by cases hb
  lam := fun b hb => by cases hb
  ahm := fun c hc => by cases hc
  wra := fun c hc => by cases hc
  len := by show σ.L.length ≤ σ.most; rw [hL]; exact Nat.zero_le _
  mdn := hm
  en := hen
  bd := ⟨Nat.le_refl _, Nat.le_refl _, Nat.le_refl _, by show σ.K ≤ _; rw [hK]; omega, fun n => by show (σ.ws n).length ≤ 0; rw [hws]; exact Nat.le_refl _⟩
  sfb := fun b hb => by cases hb
  lsb := fun b hb => by cases hb
  cab := fun b hb => by cases hb
  cao := fun n _ _ => ⟨by show σ.ws n = []; rw [hws], .inl (by show ent σ.L n = none; rw [hL]; rfl)⟩
theorem PL.find (h : PL s ops [] κ) (n : Nat) : (∃ Y b Z, s.B = Y ++ b :: Z ∧ b.n = n ∧ s.fB n = b.q + 1) ∨ (s.fB n = 0 ∧ (n : Int) ∉ s.kB) := by
  by_cases hb : ∃ b ∈ s.B, b.n = n
  · obtain ⟨b, hb, hbn⟩ := hb
    obtain ⟨Y, Z, hB⟩ := List.append_of_mem hb
    exact .inl ⟨Y, b, Z, hB, hbn, by rw [h.fb, ← hbn]; exact lkB_at h.bn hb⟩
  · refine .inr ⟨by rw [h.fb]; exact lkB_none fun b hb' e => hb ⟨b, hb', by omega⟩, fun hm => ?_⟩
    rw [h.kb] at hm
    obtain ⟨b, hb', e⟩ := List.mem_map.1 hm
    exact hb ⟨b, hb', by omega⟩
/-- What Patch leaves, in short. -/
structure PatchS (s : PSt) (n fr : Nat) (data : List UInt8) (after : List Int) (s' : PSt) (c : Ch) : Prop where
  C : s'.C = s.C ++ [c]
  id : c.id = s.cnt + 1
  b : c.b = n
  fr : c.fr = fr
  d : c.d = data
  wr : c.wr = false
  ah : ∀ i ∈ c.ah, opn s.C i = true
  af : ∀ i ∈ after, opn s.C i = true → Rea s.C c i
  tp : ∀ i ∈ after, i = (s.cnt : Int) → opn s.C i = true → i ∈ c.ah
  cnt : s'.cnt = s.cnt + 1
  p : s'.p = s.p
  dn : s'.σ.dn = s.σ.dn
  sf : s'.σ.sf = s.σ.sf
  ws : s'.σ.ws = s.σ.ws
  dp : s'.σ.dp = s.σ.dp
theorem PatchR.short (h : PL s ops [] κ) {n fr : Nat} {data : List UInt8} {after : List Int} (hR : PatchR s ops n fr data after s' ops') : ∃ c, PatchS s n fr data after s' c := by
  obtain ⟨d, d2, pn, pn3, σ1, σ3, s2, o2, b, Y, Z, q, dv, av, ov, ah, tg0, tg, hd, hdl, hC1, hO, hs', ho', hah, hal, hC3, hd2⟩ := hR
  have hop : ∀ i, s.fC i ≠ 0 ↔ opn s.C i = true := fun i => by
    have := lkC_opn h.asc i
    rw [h.fc]
    cases ho : opn s.C i
    · rw [ho] at this; simpa using this
    · rw [ho] at this; simpa using this
  have he := hO.eqs
  refine ⟨{ newCh (s.cnt + 1) n fr data q dv with av := av, ah := ah }, ?_⟩
  rw [hs']
  refine ⟨rfl, rfl, rfl, rfl, rfl, rfl, fun i hi => (hop i).1 (hah.sub i hi).2, fun i hi ho => hah.all h.ahl (fun x hx => (h.idr x hx).2) rfl ⟨.inl hi, (hop i).2 ho⟩, fun i hi e ho => (hah.all h.ahl (fun x hx => (h.idr x hx).2) (c := { newCh (s.cnt + 1) n fr data q dv with av := av, ah := ah }) rfl ⟨.inl hi, (hop i).2 ho⟩).top h.ahl (fun x hx => by have := (h.idr x hx).2; omega), rfl, he.1, ?_, ?_, ?_, ?_⟩
  · show σ3.dn = _
    rw [hC3.dn, he.2.2.2.2.2.2.2.2.2.1]; exact hC1.dn
  · show σ3.sf = _
    rw [hC3.sf]
    cases hO with
    | old _ _ => exact hC1.sf
    | new _ _ _ _ => exact hC1.sf
  · show σ3.ws = _
    rw [hC3.ws]
    cases hO with
    | old _ _ => exact hC1.ws
    | new _ _ _ _ => exact hC1.ws
  · show σ3.dp = _
    rw [hC3.dp, he.2.2.2.2.2.2.2.2.2.2.2.2.2]; exact hC1.dp
theorem pw_patch (h : PM w base s ops) (hL : PL s ops [] κ) (hκ : κ ≤ 30000) (n fr : Nat) (hn : n < s.σ.dn) (data : List UInt8) (gd0 od0 dc0 : Nat) (hds : Src w (some ⟨gd0, od0, none⟩) data) (hd1 : 1 ≤ data.length) (hf : fr + data.length ≤ 256) (asp : Option Addr) (ac : Nat) (after : List Int) (has : SrcI w asp after) (hform : (asp = none ∧ after = []) ∨ ∃ b o, asp = some ⟨b, o, none⟩) (haf : ∀ b o, asp = some ⟨b, o, none⟩ → ¬ Ak s b ∧ b < w.heap.size) (hdf : ¬ Ak s gd0) (hal : after.length ≤ 1000) (hkn : ∀ i ∈ after, 1 ≤ i ∧ i ≤ (s.cnt : Int)) :
    Calls Tryz.prog 28 #[.pointer (some ⟨s.p, 0, none⟩), .int .i64 (n : Int), .int .i64 (fr : Int), .slice (some ⟨gd0, od0, none⟩) data.length dc0, .slice asp after.length ac] w fun r w' => r = .returned (.tuple #[.int .i64 ((s.cnt + 1 : Nat) : Int), .int .i64 0]) ∧ ∃ s' ops' c, PRun base s w s' ops' w' ∧ PL s' ops' [] (κ + 1) ∧ PatchS s n fr data after s' c := by
  have hbd := hL.bd
  have hmd := hL.mdn
  refine (patch_mem h n fr hn (by omega) data gd0 od0 dc0 hds hd1 hf asp ac after has (fun _ => have _ := hform; haf) hdf hal hkn (by omega) hL.len hmd.1 (hL.find n) (by omega) (by omega) (by omega) ?_ ?_ ?_ ?_).mono ?_
  · rw [hL.kc]
    intro hm
    obtain ⟨c, hc, e⟩ := List.mem_map.1 hm
    have := (hL.idr c hc).2
    omega
  · refine ⟨fun z hz => ⟨(hL.ah z hz).2, fun i hi => by have := (hL.ah z hz).1 i hi; have := hL.idr z hz; omega⟩, fun i hi => ?_⟩
    rw [hL.fc] at hi ⊢
    have ho : opn s.C i = true := by
      have h1 := lkC_opn hL.asc i
      cases ho : opn s.C i with
      | true => rfl
      | false => rw [ho] at h1; simp at h1; exact absurd h1 hi
    obtain ⟨z, hz, e⟩ := opn_iff.1 ho
    exact ⟨z, hz, e, by rw [← e]; exact lkC_at hL.asc hz⟩
  · intro b hb i hi
    have := hL.la b hb i hi
    omega
  · intro b hb
    rw [hL.op b hb]
    unfold cids
    rw [List.length_map]
    exact Nat.le_trans (List.length_filter_le _ _) (by have := hL.clen; omega)
  · rintro r w' ⟨rfl, s', ops', hR, hP⟩
    obtain ⟨c, hc⟩ := hP.short hL
    exact ⟨rfl, s', ops', c, hR, hL.patch hn hd1 hf hP hR.pm.bq, hc⟩
theorem pw_write (h : PM w base s ops) (hL : PL s ops [] κ) (hκ : κ ≤ 30000) (n : Nat) (hn : n < s.σ.dn) (hc : ∃ c ∈ s.C, c.b = n) :
    Calls Tryz.prog 26 #[.pointer (some ⟨s.p, 0, none⟩), .int .i64 (n : Int)] w fun r w' => r = .returned (.int .i64 0) ∧ ∃ s', PRun base s w s' ops w' ∧ PL s' ops [] (κ + 1) ∧ s'.C = s.C.map (setW (alw s.C n)) ∧ s'.cnt = s.cnt ∧ s'.p = s.p ∧ s'.σ.dn = s.σ.dn ∧ s'.σ.sf = s.σ.sf ∧ s'.σ.ws = upd s.σ.ws n (s.σ.ws n ++ [lays (s.σ.sf n) (pickC (ofB s.C n) (alw s.C n))]) ∧ s'.σ.dp = s.σ.dp := by
  obtain ⟨c, hc, hcb⟩ := hc
  obtain ⟨b, hb, hbn⟩ := hL.cb c hc
  rw [hcb] at hbn
  have hbd := hL.bd
  have hmd := hL.mdn
  obtain ⟨hop, hcs, hf, hofn, hfb⟩ := hL.alw_pre (by omega) hb hbn
  refine (write_mem h n hn (by omega) hb hfb hop (fun c hc => ?_) hL.asc hf (by have := hL.clen; omega) (by omega) hL.len hmd.1 hL.en.1 hL.en.2 (by have := hbd.2.2.2.2 n; omega)).mono ?_
  · have h1 := hL.idr c hc
    exact ⟨by rw [hL.fc]; exact lkC_at hL.asc hc, by omega, by have := (hL.ah c hc).2; omega, fun i hi => by have := (hL.ah c hc).1 i hi; omega, (hL.ft c hc).1, (hL.ft c hc).2⟩
  · rintro r w' ⟨rfl, s', hR, hW⟩
    have hP := hL.write hb hbn hW
    have hsf := hL.sfb b hb
    rw [hbn, if_neg (by simp)] at hsf
    obtain ⟨σ1, vs', pn, d, tg, hdp, hC, rfl⟩ := hW
    refine ⟨rfl, _, hR, hP, setW_fold _ _, rfl, rfl, hC.dn, hC.sf, ?_, hC.dp⟩
    rw [hsf]
end
end Go.Proofs.YtadadidccbhopaaGreat
