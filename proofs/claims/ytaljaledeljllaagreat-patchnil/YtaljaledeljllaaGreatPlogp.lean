/- What holds of a store: behind Patch. -/
import Derived.Test.YtaljaledeljllaaGreatPlogw
namespace Go.Proofs.YtaljaledeljllaaGreat
open Go.RowKit
set_option maxRecDepth 100000
/-- The block that Patch finds or opens, ahead of the change. -/
structure BkOk (s : PSt) (σ2 : CSt) (n : Nat) (b : Bk) (d : List UInt8) : Prop where
  bn : b.n = n
  bal : b.ba.length = 256 ∧ b.la.length = 256
  la : ∀ i ∈ b.la, 0 ≤ i ∧ i ≤ (s.cnt : Int)
  lam : ∀ c ∈ s.C, c.b = n → ∀ j, cov c j → ∃ y ∈ s.C, (y.id : Int) = b.la.getD j 0 ∧ y.b = n ∧ cov y j ∧ c.id ≤ y.id
  sf : s.σ.sf n = b.ba
  ls : lst s.σ n = lays b.ba (wrs (ofB s.C n))
  da : lays b.ba (ofB s.C n) = d
  en : ent σ2.L n = some (d, 1)
section
variable {s s' : PSt} {ops ops' : Nat → List Int} {κ : Nat}
theorem ofB_none {C : List Ch} {n : Nat} (h : ∀ c ∈ C, ¬ c.b = n) : ofB C n = [] := by
  unfold ofB
  rw [List.filter_eq_nil_iff]
  exact fun c hc => by simpa using h c hc
theorem PL.bkOk (h : PL s ops [] κ) {n : Nat} (hn : n < s.σ.dn) {d : List UInt8} {pn : Nat} {σ1 : CSt} {s1 s2 : PSt} {o2 : Nat → List Int} {b : Bk} {Y Z : List Bk}
    (hd : (d, pn) = (ent s.σ.L n).getD (lst s.σ n, 0)) (hdl : d.length = 256) (hC : CRel s.σ σ1 n (some (d, pn))) (hs1 : s1.σ = σ1) (hs1B : s1.B = s.B) (hs1f : s1.fB = s.fB) (hO : OpRel s1 ops n d s2 o2 b Y Z) : BkOk s s2.σ n b d := by
  cases hO with
  | old hB hbn =>
    have hb : b ∈ s.B := by rw [← hs1B, hB]; simp
    have hcab := h.cab b hb
    rw [hbn] at hcab
    rw [hcab] at hd
    have hdp : d = lays b.ba (ofB s.C n) ∧ pn = 1 := by simpa using hd
    have h1 := h.sfb b hb
    have h2 := h.lsb b hb
    have h3 := h.lam b hb
    rw [hbn] at h1 h2 h3
    exact ⟨hbn, h.bal b hb, h.la b hb, h3, by simpa using h1, h2, hdp.1.symm, by rw [hs1, hC.at', hdp.2]⟩
  | @new q tg A B e hno hL hen hnd =>
    have hnb : ∀ x ∈ s.B, ¬ x.n = n := fun x hx e => by
      have := lkB_at h.bn hx
      rw [← h.fb, ← hs1f, e, hno] at this
      omega
    have hnc : ∀ c ∈ s.C, ¬ c.b = n := fun c hc e => by
      obtain ⟨x, hx, hxn⟩ := h.cb c hc
      exact hnb x hx (hxn.trans e)
    obtain ⟨h1, h2⟩ := h.cao n hn hnb
    have hl : lst s.σ n = s.σ.sf n := by unfold lst; rw [h1]; rfl
    have hdp : d = s.σ.sf n ∧ pn = 0 := by
      rcases h2 with h2 | h2
      · rw [h2] at hd; rw [hl] at hd; simpa using hd
      · rw [h2] at hd; simpa using hd
    have hnA : ∀ x ∈ A, ¬ x.n = n := fun x hx hxn => by
      rw [hL] at hnd
      exact nodup_mid hnd (.inl hx) (hxn.trans hen.symm)
    refine ⟨rfl, ⟨hdl, by simp [newBk]⟩, fun i hi => ?_, fun c hc hb => absurd hb (hnc c hc), hdp.1.symm, ?_, ?_, ?_⟩
    · have : i = 0 := by simpa [newBk] using hi
      omega
    · rw [ofB_none hnc, hl]; exact hdp.1.symm
    · rw [ofB_none hnc]; rfl
    · have h3 := hC.at'
      rw [← hs1, hL] at h3
      have h4 := ent_at (A := A) (B := B) (e := e) (by rw [hen]; exact hnA)
      rw [hen, h3] at h4
      have h5 : d = e.d ∧ pn = e.pin := by simpa using h4
      have h6 := ent_at (A := A) (B := B) (e := { e with pin := e.pin + 1 }) (by show ∀ x ∈ A, ¬ x.n = e.n; rw [hen]; exact hnA)
      have h7 : ent (A ++ { e with pin := e.pin + 1 } :: B) n = some (e.d, e.pin + 1) := by rw [← hen]; exact h6
      show ent (A ++ { e with pin := e.pin + 1 } :: B) n = _
      rw [h7, ← h5.1, ← h5.2, hdp.2]
theorem ofB_snoc (C : List Ch) (c : Ch) (n : Nat) : ofB (C ++ [c]) n = if c.b = n then ofB C n ++ [c] else ofB C n := by
  unfold ofB
  rw [List.filter_append]
  split <;> simp [*]
theorem opn_snoc {C : List Ch} {c : Ch} {i : Int} (h : opn (C ++ [c]) i = true) (hi : i < (c.id : Int)) : opn C i = true := by
  obtain ⟨x, hx, hxi⟩ := opn_iff.1 h
  rcases List.mem_append.1 hx with hx | hx
  · exact opn_iff.2 ⟨x, hx, hxi⟩
  · obtain rfl : x = c := by simpa using hx
    omega
theorem wrs_snoc (l : List Ch) (c : Ch) (h : c.wr = false) : wrs (l ++ [c]) = wrs l := by
  unfold wrs
  rw [List.filter_append]; simp [h]
theorem PL.patch (h : PL s ops [] κ) {n fr : Nat} (hn : n < s.σ.dn) {data : List UInt8} {after : List Int} (hd1 : 1 ≤ data.length) (hf : fr + data.length ≤ 256) (hR : PatchR s ops n fr data after s' ops') (hq : (s'.B.map (·.q)).Nodup) : PL s' ops' [] (κ + 1) := by
  obtain ⟨d, d2, pn, pn3, σ1, σ3, s2, o2, b, Y, Z, q, dv, av, ov, ah, tg0, tg, hd, hdl, hC1, hO, hs', ho', hah, hal, hC3, hd2⟩ := hR
  have hk := h.bkOk (s1 := { s with σ := σ1, C := s.C ++ [newCh (s.cnt + 1) n fr data q dv], tag := tg0 }) hn hd hdl hC1 rfl rfl rfl hO
  have hpn3 : pn3 = 1 := by rw [hk.en] at hd2; simpa using congrArg Prod.snd hd2
  obtain ⟨c0, hc0⟩ : ∃ c0 : Ch, c0 = { newCh (s.cnt + 1) n fr data q dv with av := av, ah := ah } := ⟨_, rfl⟩
  obtain ⟨b0, hb0⟩ : ∃ b0 : Bk, b0 = { b with ov := ov, la := laU b.la fr data.length ((s.cnt + 1 : Nat) : Int) } := ⟨_, rfl⟩
  have e1 : c0.id = s.cnt + 1 := by rw [hc0]; rfl
  have e2 : c0.b = n := by rw [hc0]; rfl
  have e3 : c0.fr = fr := by rw [hc0]; rfl
  have e4 : c0.d = data := by rw [hc0]; rfl
  have e5 : c0.ah = ah := by rw [hc0]
  have e6 : c0.wr = false := by rw [hc0]; rfl
  have e7 : c0.q = q := by rw [hc0]; rfl
  have f1 : b0.n = n := by rw [hb0]; exact hk.bn
  have f2 : b0.q = b.q := by rw [hb0]
  have f3 : b0.ba = b.ba := by rw [hb0]
  have f4 : ∀ j, b0.la.getD j 0 = if fr ≤ j ∧ j < fr + data.length then ((s.cnt + 1 : Nat) : Int) else b.la.getD j 0 := fun j => by
    rw [hb0]; exact laU_get (by rw [hk.bal.2]; exact hf) _ j
  have f5 : b0.la.length = 256 := by rw [hb0]; exact (laU_length (by rw [hk.bal.2]; exact hf) _).trans hk.bal.2
  have f6 : ∀ i ∈ b0.la, 0 ≤ i ∧ i ≤ ((s.cnt + 1 : Nat) : Int) := fun i hi => by
    rw [hb0] at hi
    have hi' : i ∈ b.la.take fr ++ List.replicate data.length ((s.cnt + 1 : Nat) : Int) ++ b.la.drop (fr + data.length) := hi
    simp only [List.mem_append] at hi'
    rcases hi' with (hi | hi) | hi
    · have := hk.la i (List.mem_of_mem_take hi); omega
    · have := (List.mem_replicate.1 hi).2; omega
    · have := hk.la i (List.mem_of_mem_drop hi); omega
  obtain ⟨g1, g2, g3, g4, g5, g6, g7⟩ : s'.C = s.C ++ [c0] ∧ s'.B = Y ++ b0 :: Z ∧ s'.cnt = s.cnt + 1 ∧ s'.kc = s.kc + 1 ∧ s'.fC = setF s.fC (c0.id : Int) (c0.q + 1) ∧ s'.kC = s.kC ++ [(c0.id : Int)] ∧ s'.σ = σ3 := by
    rw [hs', hc0, hb0]; exact ⟨rfl, rfl, rfl, rfl, rfl, rfl, rfl⟩
  have g8 : s'.fB = s2.fB ∧ s'.kB = s2.kB ∧ s'.kb = s2.kb := by rw [hs']; exact ⟨rfl, rfl, rfl⟩
  have idn : ∀ x ∈ s.C, x.id < c0.id := fun x hx => by have := (h.idr x hx).2; omega
  -- the blocks
  obtain ⟨k1, k2, k3, k4, k5, k6, k7, k8, k9, k10, k11⟩ : (∀ x, x ∈ Y ∨ x ∈ Z → x ∈ s.B ∧ ¬ x.n = n) ∧ ((Y ++ b0 :: Z).map (·.n)).Nodup ∧ s'.fB = lkB (Y ++ b0 :: Z) ∧ s'.kB = bns (Y ++ b0 :: Z) ∧ s'.kb ≤ s.kb + 1 ∧ (∀ x ∈ s.B, ¬ x.n = n → x ∈ Y ++ b0 :: Z) ∧ (o2 b.q = cids (ofB s.C n)) ∧ (∀ x, x ∈ Y ∨ x ∈ Z → ¬ x.q = b.q → o2 x.q = ops x.q) ∧ s2.σ.sf = s.σ.sf ∧ s2.σ.ws = s.σ.ws ∧ (s2.σ.dn = s.σ.dn ∧ s2.σ.most = s.σ.most ∧ s2.σ.en = s.σ.en ∧ s2.σ.lf = s.σ.lf ∧ s2.σ.K ≤ s.σ.K + 2 ∧ ∀ m, ¬ m = n → ent s2.σ.L m = ent s.σ.L m) := by
    have hbn : b0.n = b.n := by rw [hb0]
    obtain ⟨u1, u2, u3⟩ := g8
    cases hO with
    | old hB _ =>
      have hB' : s.B = Y ++ b :: Z := hB
      have hbm : b ∈ s.B := by rw [hB']; simp
      have hnd := h.bn
      rw [hB'] at hnd
      have hno : ∀ x, x ∈ Y ∨ x ∈ Z → ¬ x.n = n := fun x hx e => nodup_mid hnd hx (e.trans hk.bn.symm)
      have hop := h.op b hbm
      rw [hk.bn] at hop
      refine ⟨fun x hx => ⟨?_, hno x hx⟩, ?_, ?_, ?_, by rw [u3]; exact Nat.le_succ _, fun x hx hxn => ?_, hop, fun x _ _ => rfl, hC1.sf, hC1.ws, hC1.dn, hC1.most, hC1.en, hC1.lf, by have := hC1.k1; show σ1.K ≤ _; omega, hC1.oth⟩
      · rw [hB']; rcases hx with hx | hx <;> simp [hx]
      · rw [List.map_append, List.map_cons, hbn, ← List.map_cons, ← List.map_append]; exact hnd
      · rw [u1]; exact (h.fb.trans (by rw [hB'])).trans (lkB_same hbn f2).symm
      · rw [u2]; refine (h.kb.trans (by rw [hB'])).trans ?_
        unfold bns
        rw [List.map_append, List.map_cons, List.map_append, List.map_cons, hbn]
      · rw [hB'] at hx
        rcases List.mem_append.1 hx with hx | hx
        · simp [hx]
        · rcases List.mem_cons.1 hx with hx | hx
          · rw [hx] at hxn; exact absurd hk.bn hxn
          · simp [hx]
    | @new q2 tg2 A B e hno hL hen hnd =>
      have hnb : ∀ x ∈ s.B, ¬ x.n = n := fun x hx e => by
        have := lkB_at h.bn hx
        have hno' : s.fB n = 0 := hno
        rw [← h.fb, e, hno'] at this
        omega
      have hnc : ∀ c ∈ s.C, ¬ c.b = n := fun c hc e => by
        obtain ⟨x, hx, hxn⟩ := h.cb c hc
        exact hnb x hx (hxn.trans e)
      refine ⟨fun x hx => ?_, ?_, ?_, ?_, by rw [u3]; exact Nat.le_refl _, fun x hx _ => by simp [hx], ?_, fun x _ hx => if_neg hx, hC1.sf, hC1.ws, hC1.dn, hC1.most, hC1.en, hC1.lf, by have := hC1.k1; show σ1.K + 1 ≤ _; omega, fun m hm => ?_⟩
      · rcases hx with hx | hx
        · exact ⟨hx, hnb x hx⟩
        · cases hx
      · rw [List.map_append, List.nodup_append]
        refine ⟨h.bn, by simp, fun a ha b' hb' => ?_⟩
        obtain ⟨x, hx, rfl⟩ := List.mem_map.1 ha
        have hb'' : b' = b0.n := by simpa using hb'
        rw [hb'', f1]; exact hnb x hx
      · rw [u1]
        have h3 := lkB_add (B := s.B) (b := b0) (by rw [f1]; exact hnb)
        rw [← h3, f1, f2, ← h.fb]; rfl
      · rw [u2]
        show s.kB ++ [(n : Int)] = _
        rw [h.kb]; unfold bns; simp [f1]
      · show (if q2 = q2 then [] else ops q2) = _
        rw [if_pos rfl, ofB_none hnc]; rfl
      · show ent (A ++ { e with pin := e.pin + 1 } :: B) m = _
        rw [← hC1.oth m hm]
        have hL' : σ1.L = A ++ e :: B := hL
        rw [hL', ent_other (e := e) (by rw [hen]; exact fun c => hm c.symm), ent_other (e := { e with pin := e.pin + 1 }) (by show ¬ e.n = m; rw [hen]; exact fun c => hm c.symm)]
  have mB : ∀ x ∈ Y ++ b0 :: Z, x = b0 ∨ (x ∈ s.B ∧ ¬ x.n = n ∧ (x ∈ Y ∨ x ∈ Z)) := fun x hx => by
    rcases mem_mid (e := b0) hx with rfl | ⟨_, h2⟩
    · exact .inl rfl
    · exact .inr ⟨(k1 x h2).1, (k1 x h2).2, h2⟩
  have mC : ∀ x ∈ s.C ++ [c0], x = c0 ∨ x ∈ s.C := fun x hx => by
    rcases List.mem_append.1 hx with hx | hx
    · exact .inr hx
    · exact .inl (by simpa using hx)
  have iC : ∀ x ∈ s.C, x ∈ s.C ++ [c0] := fun x hx => by simp [hx]
  obtain ⟨v1, v2, v3, v4, v5, v6⟩ := k11
  have hC := hC3
  have ws' : s'.σ.ws = s.σ.ws := by rw [g7, hC.ws, k10]
  have sf' : s'.σ.sf = s.σ.sf := by rw [g7, hC.sf, k9]
  have ls' : ∀ m, lst s'.σ m = lst s.σ m := fun m => by unfold lst; rw [ws', sf']
  have en' : ∀ m, ¬ m = n → ent s'.σ.L m = ent s.σ.L m := fun m hm => by rw [g7, hC.oth m hm, v6 m hm]
  rw [g2] at hq
  refine {
    asc := ?_, idr := ?_, ft := ?_, fc := ?_, kc := ?_, fb := ?_, kb := ?_, bn := ?_, bdn := ?_, op := ?_, cb := ?_, bc := ?_, pb := (fun i hi => (by cases hi)), bal := ?_, ah := ?_, la := ?_, lam := ?_, ahm := ?_, wra := ?_, len := ?_, mdn := ?_, en := ?_, bd := ?_, sfb := ?_, lsb := ?_, cab := ?_, cao := ?_ }
  all_goals (try rw [g1]); all_goals (try rw [g2])
  · refine List.pairwise_append.2 ⟨h.asc, by simp, fun a ha c hc => ?_⟩
    obtain rfl : c = c0 := by simpa using hc
    exact idn a ha
  · intro c hc
    rw [g3]
    rcases mC c hc with rfl | hc
    · omega
    · have := h.idr c hc; omega
  · intro c hc
    rcases mC c hc with rfl | hc
    · unfold fits; rw [e3, e4]; exact ⟨hf, hd1⟩
    · exact h.ft c hc
  · rw [g5, h.fc]
    exact lkC_add fun x hx => by have := idn x hx; omega
  · rw [g6, h.kc]; unfold cids; simp
  · exact k3
  · exact k4
  · exact k2
  · intro x hx
    rw [g7, hC.dn, v1]
    rcases mB x hx with rfl | ⟨h1, _⟩
    · rw [f1]; exact hn
    · exact h.bdn x h1
  · intro x hx
    rw [ho', ofB_snoc, e2]
    rcases mB x hx with rfl | ⟨h1, h2, h3⟩
    · rw [f1, f2]
      show (if b.q = b.q then _ else _) = _
      rw [if_pos rfl, if_pos rfl, k7]; unfold cids; simp [e1]
    · have hxq : ¬ x.q = b.q := by rw [← f2]; exact nodup_mid hq h3
      show (if x.q = b.q then _ else _) = _
      rw [if_neg hxq, if_neg (fun e => h2 e.symm), k8 x h3 hxq]; exact h.op x h1
  · intro c hc
    rcases mC c hc with rfl | hc
    · exact ⟨b0, by simp, by rw [f1, e2]⟩
    · obtain ⟨x, hx, hxn⟩ := h.cb c hc
      by_cases e : x.n = n
      · exact ⟨b0, by simp, by rw [f1, ← e, hxn]⟩
      · exact ⟨x, k6 x hx e, hxn⟩
  · intro x hx _
    rcases mB x hx with rfl | ⟨h1, h2, _⟩
    · exact ⟨c0, by simp, by rw [f1, e2]⟩
    · obtain ⟨c, hc, e⟩ := h.bc x h1 (by simp)
      exact ⟨c, iC c hc, e⟩
  · intro x hx
    rcases mB x hx with rfl | ⟨h1, _⟩
    · rw [f3]; exact ⟨hk.bal.1, f5⟩
    · exact h.bal x h1
  · intro c hc
    rcases mC c hc with rfl | hc
    · rw [e5, e1]
      refine ⟨fun i hi => ?_, hal⟩
      obtain ⟨_, h2⟩ := (hah i).1 hi
      rw [h.fc] at h2
      have h3 : opn s.C i = true := by
        have := lkC_opn h.asc i
        apply Classical.byContradiction
        intro hn'
        rw [show opn s.C i = false by simpa using hn'] at this
        simp at this
        exact h2 this
      obtain ⟨y, hy, rfl⟩ := opn_iff.1 h3
      have := h.idr y hy
      omega
    · exact h.ah c hc
  · intro x hx
    rw [g3]
    rcases mB x hx with rfl | ⟨h1, _⟩
    · exact f6
    · intro i hi
      have := h.la x h1 i hi; omega
  · intro x hx c hc hcb j hj
    rcases mB x hx with rfl | ⟨h1, h2, _⟩
    · rw [f1] at hcb
      rw [f4, f1]
      by_cases hj2 : fr ≤ j ∧ j < fr + data.length
      · rw [if_pos hj2]
        refine ⟨c0, by simp, by rw [e1], e2, by unfold cov; rw [e3, e4]; exact hj2, ?_⟩
        rcases mC c hc with rfl | hc
        · exact Nat.le_refl _
        · exact Nat.le_of_lt (idn c hc)
      · rw [if_neg hj2]
        rcases mC c hc with rfl | hc
        · unfold cov at hj; rw [e3, e4] at hj; exact absurd hj hj2
        · obtain ⟨y, hy, hr⟩ := hk.lam c hc hcb j hj
          exact ⟨y, iC y hy, hr⟩
    · rcases mC c hc with rfl | hc
      · exact absurd (hcb.symm.trans e2) h2
      · obtain ⟨y, hy, hr⟩ := h.lam x h1 c hc hcb j hj
        exact ⟨y, iC y hy, hr⟩
  · intro c hc c' hc' hcb hlt j hj hj'
    rcases mC c' hc' with rfl | hcs
    · exfalso
      rcases mC c hc with rfl | hc
      · omega
      · have := idn c hc; omega
    · rcases mC c hc with rfl | hc
      · rw [e2] at hcb
        obtain ⟨y, hy, hyi, hyb, hyj, hle⟩ := hk.lam c' hcs hcb j hj
        refine ⟨y, iC y hy, ?_, by rw [e2]; exact hyb, hyj, hle, idn y hy⟩
        rw [e5]
        unfold cov at hj'
        rw [e3, e4] at hj'
        refine (hah _).2 ⟨.inr ⟨j - fr, by omega, ?_⟩, ?_⟩
        · rw [hyi]; congr 1; omega
        · rw [h.fc, lkC_at h.asc hy]; omega
      · obtain ⟨y, hy, hr⟩ := h.ahm c hc c' hcs hcb hlt j hj hj'
        exact ⟨y, iC y hy, hr⟩
  · intro c hc hw i hi ho
    rcases mC c hc with rfl | hc
    · rw [e6] at hw; cases hw
    · have h1 := ((h.ah c hc).1 i hi).2
      have h2 := idn c hc
      obtain ⟨y, hy, hr⟩ := h.wra c hc hw i hi (opn_snoc ho (by omega))
      exact ⟨y, iC y hy, hr⟩
  · rw [g7]; exact hC.len
  · rw [g7, hC.dn, hC.most, v1, v2]; exact h.mdn
  · rw [g7, hC.en, hC.lf, v3, v4]; exact h.en
  · obtain ⟨h1, h2, h3, h4, h5⟩ := h.bd
    refine ⟨by omega, by omega, by omega, by have := hC.k1; rw [g7]; omega, fun m => ?_⟩
    rw [ws']
    have := h5 m; omega
  · intro x hx
    rw [sf']
    rcases mB x hx with rfl | ⟨h1, _⟩
    · rw [f1, f3, if_neg (by simp)]; exact hk.sf
    · exact h.sfb x h1
  · intro x hx
    rw [ls', ofB_snoc, e2]
    rcases mB x hx with rfl | ⟨h1, h2, _⟩
    · rw [f1, f3, if_pos rfl, wrs_snoc _ _ e6]; exact hk.ls
    · rw [if_neg (fun e => h2 e.symm)]; exact h.lsb x h1
  · intro x hx
    rw [ofB_snoc, e2]
    rcases mB x hx with rfl | ⟨h1, h2, _⟩
    · rw [f1, f3, if_pos rfl, lays_append, hk.da, lays_cons, lays_nil, e3, e4, g7, hC.at', hpn3]
    · rw [if_neg (fun e => h2 e.symm), en' _ h2]; exact h.cab x h1
  · intro m hm hno
    have hmn : ¬ m = n := fun e => hno b0 (by simp) (by rw [f1, e])
    obtain ⟨h1, h2⟩ := h.cao m (by rw [g7, hC.dn, v1] at hm; exact hm) (fun x hx e => hno x (k6 x hx (fun e2 => hmn (e.symm.trans e2))) e)
    rw [ws', sf', en' m hmn]
    exact ⟨h1, h2⟩
end
end Go.Proofs.YtaljaledeljllaaGreat
