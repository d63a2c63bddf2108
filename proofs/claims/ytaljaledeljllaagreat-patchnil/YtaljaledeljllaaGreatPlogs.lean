/- What holds of a store: behind a flush, and behind each block that is settled. -/
import Derived.Test.YtaljaledeljllaaGreatPlogp
namespace Go.Proofs.YtaljaledeljllaaGreat
open Go.RowKit
set_option maxRecDepth 100000
/-- Neither of the block n nor written. -/
def left (n : Nat) (c : Ch) : Bool := !(decide (c.b = n) && c.wr)
def setl (C : List Ch) (n : Nat) : List Ch := C.filter (left n)
theorem left_iff {n : Nat} {c : Ch} : left n c = true ↔ ¬ (c.b = n ∧ c.wr = true) := by
  unfold left
  by_cases h1 : c.b = n <;> cases h2 : c.wr <;> simp [h1]
theorem mem_setl {C : List Ch} {n : Nat} {c : Ch} : c ∈ setl C n ↔ c ∈ C ∧ ¬ (c.b = n ∧ c.wr = true) := by
  unfold setl
  rw [List.mem_filter, left_iff]
theorem setl_sub (C : List Ch) (n : Nat) : (setl C n).Sublist C := List.filter_sublist
theorem ofB_setl (C : List Ch) (n m : Nat) : ofB (setl C n) m = if m = n then nwr (ofB C n) else ofB C m := by
  unfold ofB setl nwr left
  rw [List.filter_filter]
  split
  · rename_i e
    subst e
    rw [List.filter_filter]
    refine List.filter_congr fun c _ => ?_
    by_cases h1 : c.b = m <;> simp [h1]
  · rename_i e
    refine List.filter_congr fun c _ => ?_
    by_cases h1 : c.b = m
    · simp [h1, e]
    · simp [h1]
theorem mem_wrs {C : List Ch} {n : Nat} {c : Ch} : c ∈ wrs (ofB C n) ↔ c ∈ C ∧ c.b = n ∧ c.wr = true := by
  unfold wrs ofB
  rw [List.mem_filter, List.mem_filter]
  simp [and_assoc]
theorem mem_nwr {C : List Ch} {n : Nat} {c : Ch} : c ∈ nwr (ofB C n) ↔ c ∈ C ∧ c.b = n ∧ c.wr = false := by
  unfold nwr ofB
  rw [List.mem_filter, List.mem_filter]
  simp [and_assoc]
theorem wrs_nwr (l : List Ch) : wrs (nwr l) = [] := by
  unfold wrs nwr
  rw [List.filter_filter, List.filter_eq_nil_iff]
  intro c _; cases c.wr <;> simp
theorem setl_opn {C : List Ch} {n : Nat} {i : Int} (h : opn (setl C n) i = true) : opn C i = true := by
  obtain ⟨x, hx, hxi⟩ := opn_iff.1 h
  exact opn_iff.2 ⟨x, (mem_setl.1 hx).1, hxi⟩
theorem lkC_setl {C : List Ch} (h : Asc C) (n : Nat) : delF (lkC C) (cids (wrs (ofB C n))) = lkC (setl C n) := by
  funext x
  rw [delF_eq]
  have := lkC_filter (left n) h x
  unfold setl
  rw [this]
  have e : (x ∈ cids (wrs (ofB C n))) ↔ opn (C.filter fun c => !left n c) x = true := by
    rw [opn_iff]
    unfold cids
    rw [List.mem_map]
    constructor
    · rintro ⟨c, hc, rfl⟩
      obtain ⟨h1, h2, h3⟩ := mem_wrs.1 hc
      exact ⟨c, List.mem_filter.2 ⟨h1, by simp [left, h2, h3]⟩, rfl⟩
    · rintro ⟨c, hc, rfl⟩
      obtain ⟨h1, h2⟩ := List.mem_filter.1 hc
      have h3 : c.b = n ∧ c.wr = true := by simpa [left] using h2
      exact ⟨c, mem_wrs.2 ⟨h1, h3⟩, rfl⟩
  by_cases hx : x ∈ cids (wrs (ofB C n))
  · rw [if_pos hx, if_pos (e.1 hx)]
  · rw [if_neg hx, if_neg (fun h => hx (e.2 h))]
theorem cids_setl {C : List Ch} (h : Asc C) (n : Nat) : delK (cids C) (cids (wrs (ofB C n))) = cids (setl C n) := by
  rw [delK_eq]
  unfold setl cids
  rw [List.filter_map]
  congr 1
  refine List.filter_congr fun c hc => ?_
  show decide ((c.id : Int) ∉ (wrs (ofB C n)).map fun c => (c.id : Int)) = left n c
  rw [Bool.eq_iff_iff, decide_eq_true_eq, List.mem_map]
  constructor
  · intro hn
    exact left_iff.2 fun h1 => hn ⟨c, mem_wrs.2 ⟨hc, h1⟩, rfl⟩
  · rintro hl ⟨x, hx, e⟩
    obtain ⟨h1, h2, h3⟩ := mem_wrs.1 hx
    obtain rfl := h.inj h1 hc (by omega)
    simp [left, h2, h3] at hl
section
variable {s s' : PSt} {ops ops' : Nat → List Int} {pend : List Int} {κ : Nat}
theorem PL.mono (h : PL s ops pend κ) {κ' : Nat} (hk : κ ≤ κ') : PL s ops pend κ' :=
  { h with bd := (by obtain ⟨h1, h2, h3, h4, h5⟩ := h.bd; exact ⟨by omega, by omega, by omega, by omega, fun n => by have := h5 n; omega⟩) }
/-- The disk was flushed: all blocks that have open changes are to be settled. -/
theorem PL.flushed (h : PL s ops [] κ) {σ' : CSt} (hL : σ'.L = s.σ.L) (hm : σ'.most = s.σ.most) (hdn : σ'.dn = s.σ.dn) (hen : σ'.en = s.σ.en) (hlf : σ'.lf = s.σ.lf) (hK : σ'.K = s.σ.K) (hsf : σ'.sf = lst s.σ) (hws : σ'.ws = fun _ => []) : PL { s with σ := σ' } ops s.kB κ :=
  { h with
    bdn := (fun b hb => (by show b.n < σ'.dn; rw [hdn]; exact h.bdn b hb))
    bc := (fun b hb hn => absurd (by show (b.n : Int) ∈ s.kB; rw [h.kb]; exact List.mem_map.2 ⟨b, hb, rfl⟩) hn)
    pb := (fun i hi => (by
      rw [h.kb] at hi
      obtain ⟨b, hb, e⟩ := List.mem_map.1 hi
      exact ⟨b, hb, e⟩))
    len := (by show σ'.L.length ≤ σ'.most; rw [hL, hm]; exact h.len)
    mdn := (by show σ'.dn ≤ σ'.most ∧ σ'.dn ≤ 8; rw [hdn, hm]; exact h.mdn)
    en := (by show σ'.en = false ∧ σ'.lf = 0; rw [hen, hlf]; exact h.en)
    bd := (by
      obtain ⟨h1, h2, h3, h4, _⟩ := h.bd
      exact ⟨h1, h2, h3, by show σ'.K ≤ _; rw [hK]; exact h4, fun n => by show (σ'.ws n).length ≤ _; rw [hws]; exact Nat.zero_le _⟩)
    sfb := (fun b hb => (by
      show σ'.sf b.n = _
      rw [hsf, if_pos (by show (b.n : Int) ∈ s.kB; rw [h.kb]; exact List.mem_map.2 ⟨b, hb, rfl⟩)]
      exact h.lsb b hb))
    lsb := (fun b hb => (by
      show lst σ' b.n = _
      unfold lst
      rw [hws, hsf]
      exact h.lsb b hb))
    cab := (fun b hb => (by show ent σ'.L b.n = _; rw [hL]; exact h.cab b hb))
    cao := (fun n hn hno => (by
      obtain ⟨h1, h2⟩ := h.cao n (by have : n < σ'.dn := hn; rw [hdn] at this; exact this) hno
      have hl : lst s.σ n = s.σ.sf n := by unfold lst; rw [h1]; rfl
      refine ⟨by show σ'.ws n = []; rw [hws], ?_⟩
      show ent σ'.L n = none ∨ ent σ'.L n = some (σ'.sf n, 0)
      rw [hL, hsf, hl]; exact h2)) }
theorem PL.keeps (h : PL s ops pend κ) {n : Nat} {c y : Ch} (hc : c ∈ setl s.C n) (hy : y ∈ s.C) (hb : c.b = y.b) (hle : c.id ≤ y.id) {j : Nat} (hj : cov c j) (hj' : cov y j) : y ∈ setl s.C n := by
  obtain ⟨h1, h2⟩ := mem_setl.1 hc
  refine mem_setl.2 ⟨hy, fun h3 => h2 ⟨hb.trans h3.1, ?_⟩⟩
  by_cases e : c.id = y.id
  · rw [h.asc.inj h1 hy e]; exact h3.2
  · exact h.clo y.id y hy (Nat.le_refl _) h3.2 c h1 hb (by omega) j hj hj'
/-- A block is settled: its written changes are safe. -/
theorem PL.settled (h : PL s ops pend κ) {n : Nat} {b : Bk} {Y Z : List Bk} (hB : s.B = Y ++ b :: Z) (hbn : b.n = n) (hp : (n : Int) ∈ pend) (hq : (s.B.map (·.q)).Nodup) (hne : nwr (ofB s.C n) ≠ []) (tg : Nat → Nat) (ov : Value) :
    PL { s with C := setl s.C n, fC := delF s.fC (cids (wrs (ofB s.C n))), kC := delK s.kC (cids (wrs (ofB s.C n))), B := Y ++ { b with ba := lays b.ba (wrs (ofB s.C n)), ov := ov } :: Z, tag := tg } (fun q => if q = b.q then cids (nwr (ofB s.C n)) else ops q) (pend.filter fun y => decide (y ≠ (n : Int))) κ := by
  have hbm : b ∈ s.B := by rw [hB]; simp
  obtain ⟨b0, hb0⟩ : ∃ b0 : Bk, b0 = { b with ba := lays b.ba (wrs (ofB s.C n)), ov := ov } := ⟨_, rfl⟩
  rw [← hb0]
  have f1 : b0.n = n := by rw [hb0]; exact hbn
  have f2 : b0.q = b.q := by rw [hb0]
  have f3 : b0.ba = lays b.ba (wrs (ofB s.C n)) := by rw [hb0]
  have f4 : b0.la = b.la := by rw [hb0]
  have hnd := h.bn
  rw [hB] at hnd hq
  have mB : ∀ x ∈ Y ++ b0 :: Z, x = b0 ∨ (x ∈ s.B ∧ ¬ x.n = n ∧ ¬ x.q = b.q) := fun x hx => by
    rcases mem_mid (e := b) hx with rfl | ⟨h1, h2⟩
    · exact .inl rfl
    · exact .inr ⟨by rw [hB]; exact h1, by rw [← hbn]; exact nodup_mid hnd h2, nodup_mid hq h2⟩
  have iB : ∀ x ∈ s.B, ¬ x.n = n → x ∈ Y ++ b0 :: Z := fun x hx hxn => by
    rw [hB] at hx
    rcases List.mem_append.1 hx with hx | hx
    · simp [hx]
    · rcases List.mem_cons.1 hx with hx | hx
      · rw [hx] at hxn; exact absurd hbn hxn
      · simp [hx]
  have hb0' : b0.n = b.n := f1.trans hbn.symm
  have sub := fun c (hc : c ∈ setl s.C n) => (mem_setl.1 hc).1
  have hpf : ∀ x : Bk, ¬ x.n = n → ((x.n : Int) ∈ pend.filter (fun y => decide (y ≠ (n : Int))) ↔ (x.n : Int) ∈ pend) := fun x hx => by
    rw [List.mem_filter]
    exact ⟨fun h => h.1, fun h => ⟨h, by simp; omega⟩⟩
  have hnp : ¬ (n : Int) ∈ pend.filter (fun y => decide (y ≠ (n : Int))) := fun hm => by simpa using (List.mem_filter.1 hm).2
  have hpart := h.part hbm
  rw [hbn] at hpart
  refine {
    asc := h.asc.sublist (setl_sub _ _), idr := (fun c hc => h.idr c (sub c hc)), ft := (fun c hc => h.ft c (sub c hc)), fc := (by show delF s.fC _ = _; rw [h.fc]; exact lkC_setl h.asc n), kc := (by show delK s.kC _ = _; rw [h.kc]; exact cids_setl h.asc n), fb := ?_, kb := ?_, bn := ?_, bdn := ?_, op := ?_, cb := ?_, bc := ?_, pb := ?_, bal := ?_, ah := (fun c hc => h.ah c (sub c hc)), la := ?_, lam := ?_, ahm := ?_, wra := ?_, len := h.len, mdn := h.mdn, en := h.en, bd := h.bd, sfb := ?_, lsb := ?_, cab := ?_, cao := ?_ }
  · show s.fB = _
    rw [h.fb, hB]; exact (lkB_same hb0' f2).symm
  · show s.kB = _
    rw [h.kb, hB]; unfold bns
    rw [List.map_append, List.map_cons, List.map_append, List.map_cons, hb0']
  · show ((Y ++ b0 :: Z).map (·.n)).Nodup
    rw [List.map_append, List.map_cons, hb0', ← List.map_cons, ← List.map_append]; exact hnd
  · intro x hx
    rcases mB x hx with rfl | ⟨h1, _⟩
    · rw [hb0']; exact h.bdn b hbm
    · exact h.bdn x h1
  · intro x hx
    show (if x.q = b.q then _ else _) = cids (ofB (setl s.C n) x.n)
    rw [ofB_setl]
    rcases mB x hx with rfl | ⟨h1, h2, h3⟩
    · rw [if_pos f2, if_pos f1]
    · rw [if_neg h3, if_neg h2]; exact h.op x h1
  · intro c hc
    obtain ⟨x, hx, hxn⟩ := h.cb c (sub c hc)
    by_cases e : x.n = n
    · exact ⟨b0, by simp, by rw [f1, ← e, hxn]⟩
    · exact ⟨x, iB x hx e, hxn⟩
  · intro x hx hxp
    rcases mB x hx with rfl | ⟨h1, h2, _⟩
    · obtain ⟨c, hc⟩ := List.exists_mem_of_ne_nil _ hne
      obtain ⟨h1, h2, h3⟩ := mem_nwr.1 hc
      exact ⟨c, mem_setl.2 ⟨h1, fun h => by rw [h3] at h; cases h.2⟩, by rw [f1]; exact h2⟩
    · obtain ⟨c, hc, e⟩ := h.bc x h1 (fun hm => hxp ((hpf x h2).2 hm))
      exact ⟨c, mem_setl.2 ⟨hc, fun h => h2 (e.symm.trans h.1)⟩, e⟩
  · intro i hi
    obtain ⟨h1, h2⟩ := List.mem_filter.1 hi
    obtain ⟨x, hx, rfl⟩ := h.pb i h1
    have h3 : ¬ (x.n : Int) = n := by simpa using h2
    exact ⟨x, iB x hx (fun e => h3 (by rw [e])), rfl⟩
  · intro x hx
    rcases mB x hx with rfl | ⟨h1, _⟩
    · rw [f3, f4]; exact ⟨lays_length (h.bal b hbm).1 fun c hc => (h.ft c (mem_wrs.1 hc).1).1, (h.bal b hbm).2⟩
    · exact h.bal x h1
  · intro x hx
    rcases mB x hx with rfl | ⟨h1, _⟩
    · rw [f4]; exact h.la b hbm
    · exact h.la x h1
  · intro x hx c hc hcb j hj
    have key : ∀ x' ∈ s.B, x'.n = x.n → x'.la = x.la → ∃ y ∈ setl s.C n, (y.id : Int) = x.la.getD j 0 ∧ y.b = x.n ∧ cov y j ∧ c.id ≤ y.id := fun x' hx' e1 e2 => by
      obtain ⟨y, hy, h1, h2, h3, h4⟩ := h.lam x' hx' c (sub c hc) (by rw [e1]; exact hcb) j hj
      exact ⟨y, h.keeps hc hy (by rw [hcb, h2, e1]) h4 hj h3, by rw [← e2]; exact h1, by rw [← e1]; exact h2, h3, h4⟩
    rcases mB x hx with rfl | ⟨h1, _⟩
    · exact key b hbm hb0'.symm f4.symm
    · exact key x h1 rfl rfl
  · intro c hc c' hc' hcb hlt j hj hj'
    obtain ⟨y, hy, h1, h2, h3, h4, h5⟩ := h.ahm c (sub c hc) c' (sub c' hc') hcb hlt j hj hj'
    exact ⟨y, h.keeps hc' hy (by rw [hcb, h2]) h4 hj h3, h1, h2, h3, h4, h5⟩
  · intro c hc hw i hi ho
    obtain ⟨y, hy, h1, h2, h3⟩ := h.wra c (sub c hc) hw i hi (setl_opn ho)
    obtain ⟨z, hz, hzi⟩ := opn_iff.1 ho
    obtain rfl := h.asc.inj (sub z hz) hy (by omega)
    exact ⟨z, hz, h1, h2, h3⟩
  · intro x hx
    show s.σ.sf x.n = if _ then lays x.ba (wrs (ofB (setl s.C n) x.n)) else _
    rcases mB x hx with rfl | ⟨h1, h2, _⟩
    · rw [f1, if_neg hnp, f3]
      have := h.sfb b hbm
      rw [hbn, if_pos hp] at this; exact this
    · rw [ofB_setl, if_neg h2]
      have := h.sfb x h1
      by_cases hm : (x.n : Int) ∈ pend
      · rw [if_pos hm] at this; rw [if_pos ((hpf x h2).2 hm)]; exact this
      · rw [if_neg hm] at this; rw [if_neg (fun h => hm ((hpf x h2).1 h))]; exact this
  · intro x hx
    show lst s.σ x.n = lays x.ba (wrs (ofB (setl s.C n) x.n))
    rw [ofB_setl]
    rcases mB x hx with rfl | ⟨h1, h2, _⟩
    · rw [f1, if_pos rfl, wrs_nwr, lays_nil, f3]
      have := h.lsb b hbm
      rw [hbn] at this; exact this
    · rw [if_neg h2]; exact h.lsb x h1
  · intro x hx
    show ent s.σ.L x.n = some (lays x.ba (ofB (setl s.C n) x.n), 1)
    rw [ofB_setl]
    rcases mB x hx with rfl | ⟨h1, h2, _⟩
    · rw [f1, if_pos rfl, f3, hpart]
      have := h.cab b hbm
      rw [hbn] at this; exact this
    · rw [if_neg h2]; exact h.cab x h1
  · intro m hm hno
    refine h.cao m hm fun x hx e => ?_
    by_cases e2 : x.n = n
    · exact hno b0 (by simp) (by rw [f1, ← e2, e])
    · exact hno x (iB x hx e2) e
/-- A block is settled that has no open change any more. -/
theorem PL.gone (h : PL s ops pend κ) {n : Nat} {b : Bk} {Y Z : List Bk} (hB : s.B = Y ++ b :: Z) (hbn : b.n = n) (hp : (n : Int) ∈ pend) (hq : (s.B.map (·.q)).Nodup) (hne : nwr (ofB s.C n) = []) (tg : Nat → Nat) {A E : List CE} {e : CE} (hL : s.σ.L = A ++ e :: E) (hen : e.n = n) (hnl : (s.σ.L.map (·.n)).Nodup) (hK : s.σ.K + 1 ≤ 10 * κ) (hws : s.σ.ws n = []) :
    PL { s with C := setl s.C n, fC := delF s.fC (cids (wrs (ofB s.C n))), kC := delK s.kC (cids (wrs (ofB s.C n))), B := Y ++ Z, tag := tg, fB := setF s.fB n 0, kB := s.kB.filter (fun y => decide (y ≠ (n : Int))), σ := { s.σ with L := A ++ { e with pin := e.pin - 1 } :: E, K := s.σ.K + 1 } } (fun q => if q = b.q then [] else ops q) (pend.filter fun y => decide (y ≠ (n : Int))) κ := by
  have hbm : b ∈ s.B := by rw [hB]; simp
  have hnd := h.bn
  rw [hB] at hnd hq
  have mB : ∀ x ∈ Y ++ Z, x ∈ s.B ∧ ¬ x.n = n ∧ ¬ x.q = b.q := fun x hx => by
    have h2 := List.mem_append.1 hx
    exact ⟨by rw [hB]; rcases h2 with h2 | h2 <;> simp [h2], by rw [← hbn]; exact nodup_mid hnd h2, nodup_mid hq h2⟩
  have iB : ∀ x ∈ s.B, ¬ x.n = n → x ∈ Y ++ Z := fun x hx hxn => by
    rw [hB] at hx
    rcases List.mem_append.1 hx with hx | hx
    · simp [hx]
    · rcases List.mem_cons.1 hx with hx | hx
      · rw [hx] at hxn; exact absurd hbn hxn
      · simp [hx]
  have sub := fun c (hc : c ∈ setl s.C n) => (mem_setl.1 hc).1
  have hcn : ∀ c ∈ setl s.C n, ¬ c.b = n := fun c hc hcb => by
    obtain ⟨h1, h2⟩ := mem_setl.1 hc
    have h3 : c ∈ nwr (ofB s.C n) := mem_nwr.2 ⟨h1, hcb, by cases hw : c.wr with | false => rfl | true => exact absurd ⟨hcb, hw⟩ h2⟩
    rw [hne] at h3; cases h3
  have hpf : ∀ x : Bk, ¬ x.n = n → ((x.n : Int) ∈ pend.filter (fun y => decide (y ≠ (n : Int))) ↔ (x.n : Int) ∈ pend) := fun x hx => by
    rw [List.mem_filter]
    exact ⟨fun h => h.1, fun h => ⟨h, by simp; omega⟩⟩
  have hpart := h.part hbm
  rw [hbn, hne, lays_nil] at hpart
  have hnA : ∀ x ∈ A, ¬ x.n = n := fun x hx hxn => by
    rw [hL] at hnl
    exact nodup_mid hnl (.inl hx) (hxn.trans hen.symm)
  have eo : ∀ m, ¬ m = n → ent (A ++ { e with pin := e.pin - 1 } :: E) m = ent s.σ.L m := fun m hm => by
    rw [hL, ent_other (e := e) (by rw [hen]; exact fun c => hm c.symm), ent_other (e := { e with pin := e.pin - 1 }) (by show ¬ e.n = m; rw [hen]; exact fun c => hm c.symm)]
  have en : ent (A ++ { e with pin := e.pin - 1 } :: E) n = some (s.σ.sf n, 0) := by
    have h1 := h.cab b hbm
    have h2 := h.sfb b hbm
    rw [hbn] at h1 h2
    rw [if_pos hp] at h2
    have h4 := ent_at (A := A) (B := E) (e := e) (by rw [hen]; exact hnA)
    rw [hen, ← hL, h1] at h4
    have h5 : lays b.ba (ofB s.C n) = e.d ∧ 1 = e.pin := by simpa using h4
    have h6 := ent_at (A := A) (B := E) (e := { e with pin := e.pin - 1 }) (by show ∀ x ∈ A, ¬ x.n = e.n; rw [hen]; exact hnA)
    have h7 : ent (A ++ { e with pin := e.pin - 1 } :: E) n = some (e.d, e.pin - 1) := by rw [← hen]; exact h6
    rw [h7, ← h5.1, ← h5.2, ← hpart, h2]
  refine {
    asc := h.asc.sublist (setl_sub _ _), idr := (fun c hc => h.idr c (sub c hc)), ft := (fun c hc => h.ft c (sub c hc)), fc := (by show delF s.fC _ = _; rw [h.fc]; exact lkC_setl h.asc n), kc := (by show delK s.kC _ = _; rw [h.kc]; exact cids_setl h.asc n), fb := ?_, kb := ?_, bn := ?_, bdn := (fun x hx => h.bdn x (mB x hx).1), op := ?_, cb := ?_, bc := ?_, pb := ?_, bal := (fun x hx => h.bal x (mB x hx).1), ah := (fun c hc => h.ah c (sub c hc)), la := (fun x hx => h.la x (mB x hx).1), lam := ?_, ahm := ?_, wra := ?_, len := ?_, mdn := h.mdn, en := h.en, bd := ?_, sfb := ?_, lsb := ?_, cab := ?_, cao := ?_ }
  · show setF s.fB n 0 = _
    rw [h.fb, hB, ← hbn]; exact lkB_del hnd
  · show s.kB.filter _ = bns (Y ++ Z)
    rw [h.kb, hB]
    unfold bns
    rw [List.map_append, List.map_cons, List.filter_append, List.filter_cons_of_neg (by simp [hbn]), ← List.filter_append, ← List.map_append]
    refine List.filter_eq_self.2 fun i hi => ?_
    obtain ⟨x, hx, rfl⟩ := List.mem_map.1 hi
    have := (mB x hx).2.1
    simp; omega
  · show ((Y ++ Z).map (·.n)).Nodup
    exact hnd.sublist (List.Sublist.map _ (List.Sublist.append (List.Sublist.refl _) (List.sublist_cons_self _ _)))
  · intro x hx
    obtain ⟨h1, h2, h3⟩ := mB x hx
    show (if x.q = b.q then _ else _) = cids (ofB (setl s.C n) x.n)
    rw [ofB_setl, if_neg h3, if_neg h2]; exact h.op x h1
  · intro c hc
    obtain ⟨x, hx, hxn⟩ := h.cb c (sub c hc)
    exact ⟨x, iB x hx (fun e => hcn c hc (by rw [← hxn, e])), hxn⟩
  · intro x hx hxp
    obtain ⟨h1, h2, _⟩ := mB x hx
    obtain ⟨c, hc, e⟩ := h.bc x h1 (fun hm => hxp ((hpf x h2).2 hm))
    exact ⟨c, mem_setl.2 ⟨hc, fun h => h2 (e.symm.trans h.1)⟩, e⟩
  · intro i hi
    obtain ⟨h1, h2⟩ := List.mem_filter.1 hi
    obtain ⟨x, hx, rfl⟩ := h.pb i h1
    have h3 : ¬ (x.n : Int) = n := by simpa using h2
    exact ⟨x, iB x hx (fun e => h3 (by rw [e])), rfl⟩
  · intro x hx c hc hcb j hj
    obtain ⟨y, hy, h1, h2, h3, h4⟩ := h.lam x (mB x hx).1 c (sub c hc) hcb j hj
    exact ⟨y, h.keeps hc hy (by rw [hcb, h2]) h4 hj h3, h1, h2, h3, h4⟩
  · intro c hc c' hc' hcb hlt j hj hj'
    obtain ⟨y, hy, h1, h2, h3, h4, h5⟩ := h.ahm c (sub c hc) c' (sub c' hc') hcb hlt j hj hj'
    exact ⟨y, h.keeps hc' hy (by rw [hcb, h2]) h4 hj h3, h1, h2, h3, h4, h5⟩
  · intro c hc hw i hi ho
    obtain ⟨y, hy, h1, h2, h3⟩ := h.wra c (sub c hc) hw i hi (setl_opn ho)
    obtain ⟨z, hz, hzi⟩ := opn_iff.1 ho
    obtain rfl := h.asc.inj (sub z hz) hy (by omega)
    exact ⟨z, hz, h1, h2, h3⟩
  · have := h.len
    rw [hL] at this
    show (A ++ { e with pin := e.pin - 1 } :: E).length ≤ s.σ.most
    simpa using this
  · obtain ⟨h1, h2, h3, h4, h5⟩ := h.bd
    exact ⟨h1, h2, h3, hK, h5⟩
  · intro x hx
    obtain ⟨h1, h2, _⟩ := mB x hx
    show s.σ.sf x.n = if _ then lays x.ba (wrs (ofB (setl s.C n) x.n)) else _
    rw [ofB_setl, if_neg h2]
    have := h.sfb x h1
    by_cases hm : (x.n : Int) ∈ pend
    · rw [if_pos hm] at this; rw [if_pos ((hpf x h2).2 hm)]; exact this
    · rw [if_neg hm] at this; rw [if_neg (fun h => hm ((hpf x h2).1 h))]; exact this
  · intro x hx
    obtain ⟨h1, h2, _⟩ := mB x hx
    show lst s.σ x.n = lays x.ba (wrs (ofB (setl s.C n) x.n))
    rw [ofB_setl, if_neg h2]; exact h.lsb x h1
  · intro x hx
    obtain ⟨h1, h2, _⟩ := mB x hx
    show ent (A ++ { e with pin := e.pin - 1 } :: E) x.n = some (lays x.ba (ofB (setl s.C n) x.n), 1)
    rw [ofB_setl, if_neg h2, eo _ h2]; exact h.cab x h1
  · intro m hm hno
    show s.σ.ws m = [] ∧ (ent (A ++ { e with pin := e.pin - 1 } :: E) m = none ∨ ent (A ++ { e with pin := e.pin - 1 } :: E) m = some (s.σ.sf m, 0))
    by_cases hmn : m = n
    · subst hmn
      exact ⟨hws, .inr en⟩
    · rw [eo m hmn]
      exact h.cao m hm fun x hx e2 => hno x (iB x hx (fun e3 => hmn (by rw [← e2, e3]))) e2
end
end Go.Proofs.YtaljaledeljllaaGreat
