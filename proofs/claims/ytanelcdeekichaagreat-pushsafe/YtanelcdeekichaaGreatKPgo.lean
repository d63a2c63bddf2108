/- The walk of leveelaw11.PatchGoes: the store between its calls, and what each call leaves. -/
import Derived.Test.YtanelcdeekichaaGreatKPafter
import Derived.Test.YtanelcdeekichaaGreatKDSafe
namespace Go.Proofs.YtanelcdeekichaaGreat
open Go.RowKit
set_option maxRecDepth 100000
/-- What a store owns lies behind the base. -/
theorem PM.base {w : World} {base : Nat} {s : PSt} {ops : Nat → List Int} (h : PM w base s ops) {k : Nat} (hk : Ak s k) : base ≤ k := by
  rcases hk with hk | hk | hk
  · exact (h.fk k hk).1
  · rcases hk with rfl | rfl | hk | ⟨e, he, rfl⟩
    · exact h.cs.pb
    · exact h.cs.mbb
    · exact (World.ownsRow.lt h.cs.ord k hk).1
    · exact (h.cs.bq e he).2.2.2
  · rcases hk with rfl | rfl | ⟨i, hi, hk⟩
    · exact h.cs.disk.pb
    · exact h.cs.disk.qb
    · exact (World.ownsRow.lt (h.cs.disk.wr i hi).1 k hk).1
/-- The store of a walk that began at w0. -/
structure GW (w0 w : World) (p dp : Nat) (s : PSt) (ops : Nat → List Int) (κ : Nat) : Prop where
  pm : PM w w0.heap.size s ops
  pl : PL s ops [] κ
  be : Below w0.heap.size w0 w
  p : s.p = p
  dp : s.σ.dp = dp
  dn : s.σ.dn = 5
section
variable {w0 w w' : World} {p dp : Nat} {s s' : PSt} {ops ops' : Nat → List Int} {κ κ' : Nat}
theorem GW.up (h : GW w0 w p dp s ops κ) (hb : Below w.heap.size w w') : GW w0 w' p dp s ops κ := { h with pm := h.pm.up hb, be := h.be.trans (hb.mono h.be.size) }
theorem GW.more (h : GW w0 w p dp s ops κ) (hk : κ ≤ κ') : GW w0 w p dp s ops κ' := { h with pl := h.pl.mono hk }
theorem GW.run (h : GW w0 w p dp s ops κ) (hR : PRun w0.heap.size s w s' ops' w') (hL : PL s' ops' [] κ') (hp : s'.p = s.p) (hd : s'.σ.dp = s.σ.dp) (hn : s'.σ.dn = s.σ.dn) : GW w0 w' p dp s' ops' κ' :=
  ⟨hR.pm, hL, h.be.trans hR.be, hp.trans h.p, hd.trans h.dp, hn.trans h.dn⟩
/-- Write of any number. -/
theorem gw_write (h : GW w0 w p dp s ops κ) (hκ : κ ≤ 1000) (b : Int) :
    Calls Tryz.prog 26 #[.pointer (some ⟨p, 0, none⟩), .int .i64 b] w fun r w' => ∃ e s', r = .returned (.int .i64 e) ∧ GW w0 w' p dp s' ops (κ + 1) ∧ s'.cnt = s.cnt := by
  obtain rfl : s.p = p := h.p
  by_cases hb : b < 0 ∨ (s.σ.dn : Int) ≤ b
  · refine (pwrite_out h.pm b hb).mono ?_
    rintro r w' ⟨rfl, rfl⟩
    exact ⟨3, s, rfl, h.more (Nat.le_succ _), rfl⟩
  · obtain ⟨n, rfl⟩ : ∃ n : Nat, b = (n : Int) := ⟨b.toNat, by omega⟩
    by_cases hc : ∃ c ∈ s.C, c.b = n
    · refine (pw_write h.pm h.pl (by omega) n (by omega) hc).mono ?_
      rintro r w' ⟨rfl, s', hR, hL, hC, hcnt, hp, hdn, hsf, hws, hdp⟩
      exact ⟨0, s', rfl, h.run hR hL hp hdp hdn, hcnt⟩
    · have hf : s.fB n = 0 := by
        rw [h.pl.fb]
        refine lkB_none fun b hb e => ?_
        obtain ⟨c, hc', hcb⟩ := h.pl.bc b hb (by simp)
        exact hc ⟨c, hc', by omega⟩
      refine (pwrite_none h.pm n (by omega) (by rw [h.dn]; omega) hf).mono ?_
      rintro r w' ⟨rfl, rfl⟩
      exact ⟨20, s, rfl, h.more (Nat.le_succ _), rfl⟩
/-- Patch of anything, behind changes that there are. -/
theorem gw_patch (h : GW w0 w p dp s ops κ) (hκ : κ ≤ 1000) (b fr : Int) (hfr : -9223372036854775808 ≤ fr ∧ fr ≤ 9223372036854775807) (D : List UInt8) (sp : Option Addr) (dc : Nat) (hD : Src w0 sp D) (hDl : D.length ≤ 1000000) (L : List Int) (asp : Option Addr) (ac : Nat) (hL : OwnL w w0.heap.size (.slice asp L.length ac) L) (hLn : ∀ k, (Value.slice asp L.length ac).ownBlock = some k → ¬ Ak s k) (hLl : L.length ≤ 4) (hLb : ∀ x ∈ L, 1 ≤ x ∧ x ≤ (s.cnt : Int)) :
    Calls Tryz.prog 28 #[.pointer (some ⟨p, 0, none⟩), .int .i64 b, .int .i64 fr, .slice sp D.length dc, .slice asp L.length ac] w fun r w' => ∃ (id : Nat) (e : Int) (s' : PSt) (ops' : Nat → List Int), r = .returned (.tuple #[.int .i64 (id : Int), .int .i64 e]) ∧ GW w0 w' p dp s' ops' (κ + 1) ∧ (e = 0 → s'.cnt = id) ∧ (¬ e = 0 → s'.cnt = s.cnt) ∧ Fr (Ak s) w w' := by
  obtain rfl : s.p = p := h.p
  by_cases hb : b < 0 ∨ (s.σ.dn : Int) ≤ b
  · refine (ppatch_out h.pm b hb fr _ _).mono ?_
    rintro r w' ⟨rfl, rfl⟩
    exact ⟨0, 3, s, ops, rfl, h.more (Nat.le_succ _), fun e => by omega, fun _ => rfl, Fr.refl _ _⟩
  · obtain ⟨n, rfl⟩ : ∃ n : Nat, b = (n : Int) := ⟨b.toNat, by omega⟩
    by_cases hs : D.length = 0 ∨ fr < 0 ∨ 256 - (D.length : Int) < fr
    · refine (ppatch_size h.pm n (by omega) fr hfr sp D.length dc (by omega) _ hs).mono ?_
      rintro r w' ⟨rfl, rfl⟩
      exact ⟨0, 4, s, ops, rfl, h.more (Nat.le_succ _), fun e => by omega, fun _ => rfl, Fr.refl _ _⟩
    · obtain ⟨f, rfl⟩ : ∃ f : Nat, fr = (f : Int) := ⟨fr.toNat, by omega⟩
      rcases hD with e | ⟨gb, go, rfl, hl, hc⟩
      · exact absurd (by rw [e]; rfl) (fun c : D.length = 0 => hs (.inl c))
      · obtain ⟨_, hf1⟩ := own_at hL
        refine (pw_patch h.pm h.pl (by omega) n f (by omega) D gb go dc (.inr ⟨gb, go, rfl, by have := h.be.size; omega, fun j hj => (h.be.cell (p := ⟨gb, go + j, none⟩) hl).trans (hc j hj)⟩) (by omega) (by omega) asp ac L (by
          obtain ⟨ao, cap, e, hs', _⟩ := hL.form
          cases e
          exact hs') (by
          rcases hf1 with ⟨e1, e2⟩ | ⟨g, e, _⟩
          · exact .inl ⟨e1, List.eq_nil_of_length_eq_zero e2⟩
          · exact .inr ⟨g, 0, e⟩) (fun b o e => by
          rcases hf1 with ⟨e1, e2⟩ | ⟨g, e1, e2, e3⟩
          · rw [e1] at e; cases e
          · rw [e1] at e; cases e
            exact ⟨hLn _ (by rw [e1]; rfl), e3⟩) (fun hA => by have := h.pm.base hA; omega) (by omega) hLb).mono ?_
        rintro r w' ⟨rfl, s', ops', c, hR, hL', hS⟩
        exact ⟨s.cnt + 1, 0, s', ops', rfl, h.run hR hL' hS.p hS.dp hS.dn, fun _ => hS.cnt, fun e => absurd rfl e, hR.fr⟩
/-- Flush. -/
theorem gw_flush (h : GW w0 w p dp s ops κ) (hκ : κ ≤ 1000) :
    Calls Tryz.prog 27 #[.pointer (some ⟨p, 0, none⟩)] w fun r w' => ∃ s' ops', r = .returned (.int .i64 0) ∧ GW w0 w' p dp s' ops' (κ + 1) ∧ s'.C = nwr s.C := by
  obtain rfl : s.p = p := h.p
  refine (pflush_any h.pm h.pl (by omega)).mono ?_
  rintro r w' ⟨rfl, s', ops', hR, hL, hC, hcnt, hp, hsf, hdn, _, hdp, hws⟩
  exact ⟨s', ops', rfl, h.run hR hL hp hdp hdn, hC⟩
/-- How many are open. -/
theorem gw_open (h : GW w0 w p dp s ops κ) :
    Calls Tryz.prog 32 #[.pointer (some ⟨p, 0, none⟩)] w fun r w' => r = .returned (.int .i64 (s.C.length : Int)) ∧ w' = w := by
  obtain rfl : s.p = p := h.p
  have := popen_any h.pm
  rw [h.pl.kc] at this
  rw [show (cids s.C).length = s.C.length from List.length_map _] at this
  exact this
theorem gw_clen (h : GW w0 w p dp s ops κ) : s.C.length ≤ κ + 1 := by have := h.pl.clen; have := h.pl.bd.1; omega
theorem nodup_len : ∀ (n : Nat) (l : List Nat), l.Nodup → (∀ x ∈ l, x < n) → l.length ≤ n
  | 0, l, _, h => by
    cases l with
    | nil => exact Nat.le_refl _
    | cons x r => exact absurd (h x List.mem_cons_self) (Nat.not_lt_zero _)
  | n + 1, l, hd, h => by
    have h1 := filter_ne_len n hd
    have h2 := nodup_len n (l.filter fun y => decide (y ≠ n)) (hd.sublist List.filter_sublist) fun x hx => by
      obtain ⟨hx1, hx2⟩ := List.mem_filter.1 hx
      have := h x hx1
      have := of_decide_eq_true hx2
      omega
    omega
/-- The blocks that have open changes. -/
theorem gw_dirty (h : GW w0 w p dp s ops κ) :
    Calls Tryz.prog 33 #[.pointer (some ⟨p, 0, none⟩)] w fun r w' => ∃ (v : Value) (ss : List Int), r = .returned v ∧ OwnI w' w.heap.size v ss ∧ ss.length ≤ 5 ∧ (∀ x ∈ ss, ∃ n : Nat, x = (n : Int) ∧ n < 5 ∧ ∃ c ∈ s.C, c.b = n) ∧ (∀ c ∈ s.C, (c.b : Int) ∈ ss) ∧ (s.C = [] → ss = []) ∧ Below w.heap.size w w' := by
  obtain rfl : s.p = p := h.p
  have hlen : s.kB.length ≤ 5 := by
    rw [h.pl.kb]
    have e : (bns s.B).length = (s.B.map (·.n)).length := by unfold bns; simp
    rw [e]
    have hd := h.pl.bn
    exact nodup_len 5 _ hd fun x hx => by
      obtain ⟨b, hb, rfl⟩ := List.mem_map.1 hx
      have := h.pl.bdn b hb
      rw [h.dn] at this
      exact this
  refine (pdirty_any h.pm (by omega)).mono ?_
  rintro r w' ⟨v, ss, rfl, hO, hP, _, hb⟩
  have hm : ∀ x, x ∈ ss ↔ ∃ b ∈ s.B, x = (b.n : Int) := fun x => by
    rw [hP.mem_iff, h.pl.kb]
    unfold bns
    simp [eq_comm]
  refine ⟨v, ss, rfl, hO, by rw [hP.length_eq]; exact hlen, fun x hx => ?_, fun c hc => ?_, fun hC => ?_, hb⟩
  · obtain ⟨b, hb, rfl⟩ := (hm x).1 hx
    have := h.pl.bdn b hb
    rw [h.dn] at this
    exact ⟨b.n, rfl, this, h.pl.bc b hb (by simp)⟩
  · obtain ⟨b, hb, e⟩ := h.pl.cb c hc
    exact (hm _).2 ⟨b, hb, by rw [e]⟩
  · refine List.eq_nil_iff_forall_not_mem.2 fun x hx => ?_
    obtain ⟨b, hb, _⟩ := (hm x).1 hx
    obtain ⟨c, hc, _⟩ := h.pl.bc b hb (by simp)
    rw [hC] at hc
    cases hc
/-- Between writes of dirty blocks: the same changes, and the least one is written if its block was. -/
structure Went (C C' : List Ch) (T : List Int) : Prop where
  same : C'.map (fun c => (c.id, c.b)) = C.map (fun c => (c.id, c.b))
  least : ∀ c, C.head? = some c → (c.b : Int) ∈ T → ∃ c' ∈ C', c'.wr = true
theorem Went.start (C : List Ch) : Went C C [] := ⟨rfl, fun _ _ h => by cases h⟩
theorem Went.mem {C C' : List Ch} {T : List Int} (h : Went C C' T) {n : Nat} (hc : ∃ c ∈ C, c.b = n) : ∃ c ∈ C', c.b = n := by
  obtain ⟨c, hc, e⟩ := hc
  have : (c.id, c.b) ∈ C'.map (fun c => (c.id, c.b)) := by rw [h.same]; exact List.mem_map.2 ⟨c, hc, rfl⟩
  obtain ⟨c', hc', e'⟩ := List.mem_map.1 this
  exact ⟨c', hc', by have := (Prod.mk.inj e').2; omega⟩
theorem Went.len {C C' : List Ch} {T : List Int} (h : Went C C' T) : C'.length = C.length := by
  have := congrArg List.length h.same
  simpa using this
theorem setW_id (al : List Int) (c : Ch) : (setW al c).id = c.id ∧ (setW al c).b = c.b := by unfold setW; split <;> exact ⟨rfl, rfl⟩
theorem setW_wr2 {al : List Int} {c : Ch} (h : c.wr = true) : (setW al c).wr = true := by unfold setW; split <;> first | rfl | exact h
theorem Went.next {C C' : List Ch} {T : List Int} (h : Went C C' T) (hA : Asc C') (hah : ∀ c ∈ C', ∀ i ∈ c.ah, i < (c.id : Int)) (n : Nat) : Went C (C'.map (setW (alw C' n))) (T ++ [(n : Int)]) := by
  refine ⟨?_, fun c hc hT => ?_⟩
  · rw [← h.same, List.map_map]
    refine List.map_congr_left fun c _ => ?_
    have := setW_id (alw C' n) c
    show ((setW (alw C' n) c).id, (setW (alw C' n) c).b) = _
    rw [this.1, this.2]
  · rcases List.mem_append.1 hT with h1 | h1
    · obtain ⟨c', hc', hw⟩ := h.least c hc h1
      exact ⟨_, List.mem_map.2 ⟨c', hc', rfl⟩, setW_wr2 hw⟩
    · have hcb : c.b = n := by have := List.mem_singleton.1 h1; omega
      obtain ⟨D, rfl⟩ : ∃ D, C = c :: D := by
        cases C with
        | nil => cases hc
        | cons a D => simp at hc; exact ⟨D, by rw [hc]⟩
      cases C' with
      | nil => have := h.len; simp at this
      | cons c' D' =>
        have e := h.same
        simp only [List.map_cons, List.cons.injEq, Prod.mk.injEq] at e
        have hb' : c'.b = n := by omega
        have hmem : c' ∈ ofB (c' :: D') n := List.mem_filter.2 ⟨List.mem_cons_self, by simp [hb']⟩
        have hal : (c'.id : Int) ∈ alw (c' :: D') n := (alw_mem hA hah hmem).2 fun i hi ho => by
          obtain ⟨y, hy, e⟩ := opn_iff.1 ho
          have h1 := hah c' List.mem_cons_self i hi
          rcases List.mem_cons.1 hy with rfl | hy
          · omega
          · have := (List.pairwise_cons.1 hA).1 y hy
            omega
        refine ⟨setW (alw (c' :: D') n) c', List.mem_map.2 ⟨c', List.mem_cons_self, rfl⟩, ?_⟩
        unfold setW
        rw [if_pos hal]
theorem Went.less {C C' : List Ch} {T : List Int} (h : Went C C' T) (hT : ∀ c ∈ C, (c.b : Int) ∈ T) (hC : 1 ≤ C.length) : (nwr C').length + 1 ≤ C.length := by
  cases C with
  | nil => simp at hC
  | cons c D =>
    obtain ⟨c', hc', hw⟩ := h.least c rfl (hT c List.mem_cons_self)
    rw [← h.len]
    unfold nwr
    have : (C'.filter fun c => !c.wr).length < C'.length := by
      refine List.length_filter_lt_length_iff_exists.2 ⟨c', hc', by simp [hw]⟩
    omega
/-- Write of a block that has open changes. -/
theorem gw_write_ok {C : List Ch} {T : List Int} (h : GW w0 w p dp s ops κ) (hW : Went C s.C T) (hκ : κ ≤ 1000) {n : Nat} (hn : n < 5) (hc : ∃ c ∈ C, c.b = n) :
    Calls Tryz.prog 26 #[.pointer (some ⟨p, 0, none⟩), .int .i64 (n : Int)] w fun r w' => ∃ s', r = .returned (.int .i64 0) ∧ GW w0 w' p dp s' ops (κ + 1) ∧ Went C s'.C (T ++ [(n : Int)]) ∧ Fr (Ak s) w w' ∧ (∀ k, Ak s' k → Ak s k ∨ w.heap.size ≤ k) := by
  obtain rfl : s.p = p := h.p
  refine (pw_write h.pm h.pl (by omega) n (by rw [h.dn]; exact hn) (hW.mem hc)).mono ?_
  rintro r w' ⟨rfl, s', hR, hL, hC, hcnt, hp, hdn, hsf, hws, hdp⟩
  refine ⟨s', rfl, h.run hR hL hp hdp hdn, ?_, hR.fr, hR.sub⟩
  rw [hC]
  exact hW.next h.pl.asc (fun c hc i hi => ((h.pl.ah c hc).1 i hi).2) n
/-- With none open: a block as it is read, and as it is safe. -/
theorem gw_read (h : GW w0 w p dp s ops κ) (hC : s.C = []) (hκ : κ ≤ 1000) (n : Nat) (hn : n < 5) :
    Calls Tryz.prog 34 #[.pointer (some ⟨p, 0, none⟩), .int .i64 (n : Int)] w fun r w' => ∃ v s', r = .returned (.tuple #[v, .int .i64 0]) ∧ GW w0 w' p dp s' ops (κ + 1) ∧ s'.C = [] ∧ Own w' w.heap.size v (s'.σ.sf n) ∧ (s'.σ.sf n).length = 256 ∧ DiskAt w' w0.heap.size dp 5 s'.σ.en s'.σ.lf s'.σ.sf s'.σ.ws s'.σ.dq s'.σ.vs := by
  obtain rfl : s.p = p := h.p
  refine (pread_any h.pm h.pl (by omega) n (by rw [h.dn]; exact hn)).mono ?_
  rintro r w' ⟨v, d, pn, σ', rfl, hd, hO, hl, hR, hL, hCR, _⟩
  have hB : ∀ b ∈ s.B, ¬ b.n = n := fun b hb _ => by
    obtain ⟨c, hc, _⟩ := h.pl.bc b hb (by simp)
    rw [hC] at hc
    cases hc
  obtain ⟨hws, hent⟩ := h.pl.cao n (by rw [h.dn]; exact hn) hB
  have hds : d = s.σ.sf n := by
    rcases hent with e | e
    · rw [e] at hd
      have := (Prod.mk.inj hd).1
      rw [this]
      unfold lst
      rw [hws]
      rfl
    · rw [e] at hd
      exact (Prod.mk.inj hd).1
  have hg := h.run hR hL rfl hCR.dp hCR.dn
  have hsf : σ'.sf n = d := by rw [hds, hCR.sf]
  refine ⟨v, { s with σ := σ' }, rfl, hg, hC, by rw [show ({ s with σ := σ' } : PSt).σ.sf n = d from hsf]; exact hO, by rw [show ({ s with σ := σ' } : PSt).σ.sf n = d from hsf]; exact hl, ?_⟩
  have := hg.pm.cs.disk
  rw [hg.dp, hg.dn] at this
  exact this
end
end Go.Proofs.YtanelcdeekichaaGreat
