/- What holds of a store: behind Write. -/
import Derived.Test.YtaljaledeljllaaGreatPlog
namespace Go.Proofs.YtaljaledeljllaaGreat
open Go.RowKit
set_option maxRecDepth 100000
def setW (al : List Int) (c : Ch) : Ch := if (c.id : Int) ∈ al then { c with wr := true } else c
theorem setW_fold (al : List Int) : ∀ C : List Ch, al.foldl setW1 C = C.map (setW al) := by
  induction al with
  | nil => intro C; exact (List.map_id' C).symm.trans (List.map_congr_left fun c _ => by simp [setW])
  | cons i al ih =>
    intro C
    rw [List.foldl_cons, ih, setW1, List.map_map]
    refine List.map_congr_left fun c _ => ?_
    show setW al (if (c.id : Int) = i then { c with wr := true } else c) = setW (i :: al) c
    by_cases h1 : (c.id : Int) = i
    · rw [if_pos h1]
      have e1 : setW (i :: al) c = { c with wr := true } := if_pos (List.mem_cons.2 (.inl h1))
      rw [e1]
      unfold setW
      split <;> rfl
    · rw [if_neg h1]
      by_cases h2 : (c.id : Int) ∈ al
      · exact (if_pos h2).trans (if_pos (List.mem_cons.2 (.inr h2))).symm
      · exact (if_neg h2).trans (if_neg (fun hm => (List.mem_cons.1 hm).elim h1 h2)).symm
theorem setW_eqs (al : List Int) (c : Ch) : (setW al c).id = c.id ∧ (setW al c).b = c.b ∧ (setW al c).fr = c.fr ∧ (setW al c).d = c.d ∧ (setW al c).ah = c.ah ∧ (setW al c).q = c.q := by
  unfold setW; split <;> exact ⟨rfl, rfl, rfl, rfl, rfl, rfl⟩
theorem setW_wr (al : List Int) (c : Ch) : (setW al c).wr = true ↔ (c.id : Int) ∈ al ∨ c.wr = true := by
  unfold setW
  split
  · simp [*]
  · simp [*]
theorem lays_map (al : List Int) : ∀ (l : List Ch) (x : List UInt8), lays x (l.map (setW al)) = lays x l
  | [], _ => rfl
  | c :: l, x => by
    rw [List.map_cons, lays_cons, lays_cons, (setW_eqs al c).2.2.1, (setW_eqs al c).2.2.2.1]; exact lays_map al l _
theorem ofB_map (al : List Int) (C : List Ch) (n : Nat) : ofB (C.map (setW al)) n = (ofB C n).map (setW al) := by
  unfold ofB
  rw [List.filter_map]
  congr 1
  exact List.filter_congr fun c _ => by simp [(setW_eqs al c).2.1]
theorem cids_map (al : List Int) (C : List Ch) : cids (C.map (setW al)) = cids C := by
  unfold cids
  rw [List.map_map]
  exact List.map_congr_left fun c _ => by simp [(setW_eqs al c).1]
theorem opn_map (al : List Int) (C : List Ch) (i : Int) : opn (C.map (setW al)) i = opn C i := by
  unfold opn
  rw [List.any_map]
  congr 1
  funext c
  simp [(setW_eqs al c).1]
theorem lkC_map (al : List Int) : ∀ C : List Ch, lkC (C.map (setW al)) = lkC C
  | [] => rfl
  | c :: r => by
    funext x
    rw [List.map_cons, lkC, lkC, (setW_eqs al c).1, (setW_eqs al c).2.2.2.2.2, lkC_map al r]
section
variable {s s' : PSt} {ops ops' : Nat → List Int} {pend : List Int} {κ : Nat}
theorem lastOf_end (z : List UInt8) (l : List (List UInt8)) (d : List UInt8) : lastOf z (l ++ [d]) = d := by
  cases l with
  | nil => rfl
  | cons x r =>
    show ((x :: (r ++ [d])).getLast (by simp)) = d
    exact List.getLast_append (l := x :: r) (l' := [d]) (by simp)
theorem lst_upd {σ : CSt} {ws : Nat → List (List UInt8)} {n : Nat} {d : List UInt8} {σ' : CSt} (h1 : σ'.sf = σ.sf) (h2 : σ'.ws = upd ws n (ws n ++ [d])) (m : Nat) : lst σ' m = if m = n then d else lastOf (σ.sf m) (ws m) := by
  unfold lst
  rw [h1, h2]
  unfold Go.Proofs.YtaljaledeljllaaGreat.upd
  split
  · exact lastOf_end _ _ _
  · rfl
theorem PL.alw_ids (h : PL s ops pend κ) {n : Nat} {c : Ch} (hc : c ∈ s.C) : (c.id : Int) ∈ alw s.C n → c.b = n := fun hm => by
  obtain ⟨x, hx, hxi⟩ := List.mem_map.1 ((alw_sub s.C n).subset hm)
  obtain ⟨h1, h2⟩ := List.mem_filter.1 hx
  obtain rfl := h.asc.inj h1 hc (by omega)
  simpa using h2
theorem PL.wr_alw (h : PL s ops pend κ) : ∀ m : Nat, ∀ c ∈ s.C, c.id ≤ m → c.wr = true → (c.id : Int) ∈ alw s.C c.b := by
  intro m
  induction m with
  | zero => intro c hc hm; have := (h.idr c hc).1; omega
  | succ m ih =>
    intro c hc hm hw
    have hof : c ∈ ofB s.C c.b := List.mem_filter.2 ⟨hc, by simp⟩
    rw [alw_mem h.asc (fun c hc i hi => ((h.ah c hc).1 i hi).2) hof]
    intro i hi ho
    obtain ⟨y, hy, hyi, hyb, hyw⟩ := h.wra c hc hw i hi ho
    have := ((h.ah c hc).1 i hi).2
    have h2 := ih y hy (by omega) hyw
    rw [hyi, hyb] at h2
    exact h2
theorem PL.wrs_pick (h : PL s ops pend κ) (n : Nat) : wrs ((ofB s.C n).map (setW (alw s.C n))) = (pickC (ofB s.C n) (alw s.C n)).map (setW (alw s.C n)) := by
  unfold wrs pickC
  rw [List.filter_map]
  congr 1
  refine List.filter_congr fun c hc => ?_
  obtain ⟨h1, h2⟩ := List.mem_filter.1 hc
  have hb : c.b = n := by simpa using h2
  show (setW (alw s.C n) c).wr = decide ((c.id : Int) ∈ alw s.C n)
  rw [Bool.eq_iff_iff, setW_wr, decide_eq_true_eq]
  constructor
  · rintro (hm | hw)
    · exact hm
    · have := h.wr_alw c.id c h1 (Nat.le_refl _) hw
      rw [hb] at this; exact this
  · exact .inl
theorem PL.wrs_other (h : PL s ops pend κ) {n m : Nat} (hm : ¬ m = n) : wrs ((ofB s.C m).map (setW (alw s.C n))) = (wrs (ofB s.C m)).map (setW (alw s.C n)) := by
  unfold wrs
  rw [List.filter_map]
  congr 1
  refine List.filter_congr fun c hc => ?_
  obtain ⟨h1, h2⟩ := List.mem_filter.1 hc
  have hb : c.b = m := by simpa using h2
  show (setW (alw s.C n) c).wr = c.wr
  rw [Bool.eq_iff_iff, setW_wr]
  constructor
  · rintro (hx | hw)
    · exact absurd (h.alw_ids h1 hx) (by omega)
    · exact hw
  · exact .inr
theorem PL.write (h : PL s ops [] κ) {n : Nat} {b : Bk} (hb : b ∈ s.B) (hbn : b.n = n) (hR : WriteR s n b (alw s.C n) s') : PL s' ops [] (κ + 1) := by
  obtain ⟨σ1, vs', pn, d, tg, hdp, hC, rfl⟩ := hR
  have mm : ∀ c ∈ s.C.map (setW (alw s.C n)), ∃ x ∈ s.C, c = setW (alw s.C n) x := fun c hc => by obtain ⟨x, hx, e⟩ := List.mem_map.1 hc; exact ⟨x, hx, e.symm⟩
  have mi : ∀ x ∈ s.C, setW (alw s.C n) x ∈ s.C.map (setW (alw s.C n)) := fun x hx => List.mem_map.2 ⟨x, hx, rfl⟩
  have ee := fun x => setW_eqs (alw s.C n) x
  have hcab := h.cab b hb
  rw [hbn] at hcab
  rw [hcab] at hdp
  have hdp' : d = lays b.ba (ofB s.C n) ∧ pn = 1 := by simpa using hdp
  have hws : upd s.σ.ws n (s.σ.ws n ++ [lays b.ba (pickC (ofB s.C n) (alw s.C n))]) = upd σ1.ws n (σ1.ws n ++ [lays b.ba (pickC (ofB s.C n) (alw s.C n))]) := by rw [hC.ws]
  have hbu : ∀ b' ∈ s.B, b'.n = n → b' = b := fun b' hb' e => by
    have h1 := lkB_at h.bn hb'
    obtain ⟨X, Y, hXY⟩ := List.append_of_mem hb
    have hbn' := h.bn
    rw [hXY] at hbn' hb'
    rcases mem_mid (e := b) hb' with rfl | ⟨_, h3⟩
    · rfl
    · exact absurd (e.trans hbn.symm) (nodup_mid hbn' h3)
  have hl : ∀ m, lst { σ1 with ws := upd s.σ.ws n (s.σ.ws n ++ [lays b.ba (pickC (ofB s.C n) (alw s.C n))]), vs := vs' } m = if m = n then lays b.ba (pickC (ofB s.C n) (alw s.C n)) else lst s.σ m := fun m => lst_upd (σ := s.σ) (ws := s.σ.ws) (n := n) (σ' := { σ1 with ws := upd s.σ.ws n (s.σ.ws n ++ [lays b.ba (pickC (ofB s.C n) (alw s.C n))]), vs := vs' }) hC.sf rfl m
  refine {
    asc := ?_, idr := ?_, ft := ?_, fc := ?_, kc := ?_, fb := h.fb, kb := h.kb, bn := h.bn, bdn := (fun b' hb' => (by rw [hC.dn]; exact h.bdn b' hb')), op := ?_, cb := ?_, bc := ?_, pb := (fun i hi => (by cases hi)), bal := h.bal, ah := ?_, la := h.la, lam := ?_, ahm := ?_, wra := ?_, len := hC.len, mdn := (by rw [hC.dn, hC.most]; exact h.mdn), en := (by rw [hC.en, hC.lf]; exact h.en), bd := ?_, sfb := ?_, lsb := ?_, cab := ?_, cao := ?_ }
  all_goals (try rw [setW_fold])
  · unfold Asc
    rw [List.pairwise_map]
    exact List.Pairwise.imp (fun {a c} hac => by rw [(ee a).1, (ee c).1]; exact hac) h.asc
  · intro c hc
    obtain ⟨x, hx, rfl⟩ := mm c hc
    rw [(ee x).1]; exact h.idr x hx
  · intro c hc
    obtain ⟨x, hx, rfl⟩ := mm c hc
    unfold fits
    rw [(ee x).2.2.1, (ee x).2.2.2.1]; exact h.ft x hx
  · rw [lkC_map]; exact h.fc
  · rw [cids_map]; exact h.kc
  · intro b' hb'
    rw [ofB_map, cids_map]; exact h.op b' hb'
  · intro c hc
    obtain ⟨x, hx, rfl⟩ := mm c hc
    rw [(ee x).2.1]; exact h.cb x hx
  · intro b' hb' hp
    obtain ⟨c, hc, e⟩ := h.bc b' hb' hp
    exact ⟨_, mi c hc, by rw [(ee c).2.1]; exact e⟩
  · intro c hc
    obtain ⟨x, hx, rfl⟩ := mm c hc
    rw [(ee x).1, (ee x).2.2.2.2.1]; exact h.ah x hx
  · intro b' hb' c hc hcb j hj
    obtain ⟨x, hx, rfl⟩ := mm c hc
    unfold cov at hj
    rw [(ee x).2.1] at hcb
    rw [(ee x).2.2.1, (ee x).2.2.2.1] at hj
    obtain ⟨y, hy, h1, h2, h3, h4⟩ := h.lam b' hb' x hx hcb j hj
    refine ⟨_, mi y hy, by rw [(ee y).1]; exact h1, by rw [(ee y).2.1]; exact h2, ?_, by rw [(ee y).1, (ee x).1]; exact h4⟩
    unfold cov
    rw [(ee y).2.2.1, (ee y).2.2.2.1]; exact h3
  · intro c hc c' hc' hcb hlt j hj hj'
    obtain ⟨x, hx, rfl⟩ := mm c hc
    obtain ⟨x', hx', rfl⟩ := mm c' hc'
    unfold cov at hj hj'
    rw [(ee x).2.1, (ee x').2.1] at hcb
    rw [(ee x).1, (ee x').1] at hlt
    rw [(ee x').2.2.1, (ee x').2.2.2.1] at hj
    rw [(ee x).2.2.1, (ee x).2.2.2.1] at hj'
    obtain ⟨y, hy, h1, h2, h3, h4, h5⟩ := h.ahm x hx x' hx' hcb hlt j hj hj'
    refine ⟨_, mi y hy, by rw [(ee y).1, (ee x).2.2.2.2.1]; exact h1, by rw [(ee y).2.1, (ee x).2.1]; exact h2, ?_, by rw [(ee y).1, (ee x').1]; exact h4, by rw [(ee y).1, (ee x).1]; exact h5⟩
    unfold cov
    rw [(ee y).2.2.1, (ee y).2.2.2.1]; exact h3
  · intro c hc hw i hi ho
    obtain ⟨x, hx, rfl⟩ := mm c hc
    rw [opn_map] at ho
    rw [(ee x).2.2.2.2.1] at hi
    rw [setW_wr] at hw
    rcases hw with hm | hw
    · have hxb := h.alw_ids hx hm
      have hof : x ∈ ofB s.C n := List.mem_filter.2 ⟨hx, by simpa using hxb⟩
      have hin := (alw_mem h.asc (fun c hc i hi => ((h.ah c hc).1 i hi).2) hof).1 hm i hi ho
      obtain ⟨y, hy, hyi⟩ := opn_iff.1 ho
      refine ⟨_, mi y hy, by rw [(ee y).1]; exact hyi, ?_, (setW_wr _ _).2 (.inl (by rw [hyi]; exact hin))⟩
      rw [(ee y).2.1, (ee x).2.1, hxb]
      exact h.alw_ids hy (by rw [hyi]; exact hin)
    · obtain ⟨y, hy, hyi, hyb, hyw⟩ := h.wra x hx hw i hi ho
      exact ⟨_, mi y hy, by rw [(ee y).1]; exact hyi, by rw [(ee y).2.1, (ee x).2.1]; exact hyb, (setW_wr _ _).2 (.inr hyw)⟩
  · obtain ⟨h1, h2, h3, h4, h5⟩ := h.bd
    refine ⟨by show s.cnt ≤ _; omega, by show s.kc ≤ _; omega, by show s.kb ≤ _; omega, by have := hC.k1; show σ1.K ≤ _; omega, fun m => ?_⟩
    show (upd s.σ.ws n _ m).length ≤ _
    unfold Go.Proofs.YtaljaledeljllaaGreat.upd
    split
    · have := h5 n; simp; omega
    · have := h5 m; omega
  · intro b' hb'
    have := h.sfb b' hb'
    show σ1.sf b'.n = _
    rw [hC.sf, this]; rfl
  · intro b' hb'
    rw [hl, ofB_map]
    by_cases e : b'.n = n
    · rw [if_pos e, hbu b' hb' e, hbn, h.wrs_pick, lays_map]
    · rw [if_neg e, h.wrs_other e, lays_map]; exact h.lsb b' hb'
  · intro b' hb'
    rw [ofB_map, lays_map]
    show ent σ1.L b'.n = _
    by_cases e : b'.n = n
    · rw [e, hC.at', hdp'.1, hdp'.2, hbu b' hb' e]
    · rw [hC.oth _ e]; exact h.cab b' hb'
  · intro m hm hno
    have hmn : ¬ m = n := fun e => hno b hb (by rw [hbn, e])
    obtain ⟨h1, h2⟩ := h.cao m (by rw [hC.dn] at hm; exact hm) hno
    refine ⟨?_, ?_⟩
    · show upd s.σ.ws n _ m = []
      unfold Go.Proofs.YtaljaledeljllaaGreat.upd
      rw [if_neg hmn]; exact h1
    · show ent σ1.L m = none ∨ ent σ1.L m = some (σ1.sf m, 0)
      rw [hC.oth m hmn, hC.sf]; exact h2
end
end Go.Proofs.YtaljaledeljllaaGreat
