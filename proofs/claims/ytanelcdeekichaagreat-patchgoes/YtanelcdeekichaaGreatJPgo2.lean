/- The walk of leveelaw11.PatchGoes: the store between its calls, and what each call leaves. -/
import Derived.Test.YtanelcdeekichaaGreatKPafter
import Derived.Test.YtanelcdeekichaaGreatKDSafe
import Derived.Deep.CutBlock
import Derived.Deep.DeepCutAuto
namespace Go.Proofs.YtanelcdeekichaaGreat
open Go.RowKit
set_option maxRecDepth 100000
/-- What a store owns lies behind the base. -/
theorem PM.base {w : World} {base : Nat} {s : PSt} {ops : Nat → List Int} (h : PM w base s ops) {k : Nat} (hk : Ak s k) : base ≤ k := by
  rcases hk with hk | hk | hk
  · exact (h.fk k hk).1
  · rcases hk with rfl | rfl | hk | ⟨e, he, rfl⟩
    · exact h.cs.pb
    · exact h.cs.mbb
    · exact (World.ownsRow.lt h.cs.ord k hk).1
    · exact (h.cs.bq e he).2.2.2
  · rcases hk with rfl | rfl | ⟨i, hi, hk⟩
    · exact h.cs.disk.pb
    · exact h.cs.disk.qb
    · exact (World.ownsRow.lt (h.cs.disk.wr i hi).1 k hk).1
/-- The store of a walk that began at w0. -/
structure GW (w0 w : World) (p dp : Nat) (s : PSt) (ops : Nat → List Int) (κ : Nat) : Prop where
  pm : PM w w0.heap.size s ops
  pl : PL s ops [] κ
  be : Below w0.heap.size w0 w
  p : s.p = p
  dp : s.σ.dp = dp
  dn : s.σ.dn = 5
section
variable {w0 w w' : World} {p dp : Nat} {s s' : PSt} {ops ops' : Nat → List Int} {κ κ' : Nat}
theorem GW.up (h : GW w0 w p dp s ops κ) (hb : Below w.heap.size w w') : GW w0 w' p dp s ops κ := { h with pm := h.pm.up hb, be := h.be.trans (hb.mono h.be.size) }
theorem GW.more (h : GW w0 w p dp s ops κ) (hk : κ ≤ κ') : GW w0 w p dp s ops κ' := { h with pl := h.pl.mono hk }
theorem GW.run (h : GW w0 w p dp s ops κ) (hR : PRun w0.heap.size s w s' ops' w') (hL : PL s' ops' [] κ') (hp : s'.p = s.p) (hd : s'.σ.dp = s.σ.dp) (hn : s'.σ.dn = s.σ.dn) : GW w0 w' p dp s' ops' κ' :=
  ⟨hR.pm, hL, h.be.trans hR.be, hp.trans h.p, hd.trans h.dp, hn.trans h.dn⟩
/-- Write of any number. -/
theorem gw_write (h : GW w0 w p dp s ops κ) (hκ : κ ≤ 1000) (b : Int) :
    Calls Tryz.prog 26 #[.pointer (some ⟨p, 0, none⟩), .int .i64 b] w fun r w' => ∃ e s', r = .returned (.int .i64 e) ∧ GW w0 w' p dp s' ops (κ + 1) ∧ s'.cnt = s.cnt := by
  obtain rfl : s.p = p := h.p
  by_cases hb : b < 0 ∨ (s.σ.dn : Int) ≤ b
  · refine (pwrite_out h.pm b hb).mono ?_
    rintro r w' ⟨rfl, rfl⟩
    exact ⟨3, s, rfl, h.more (Nat.le_succ _), rfl⟩
  · obtain ⟨n, rfl⟩ : ∃ n : Nat, b = (n : Int) := ⟨b.toNat, by omega⟩
    by_cases hc : ∃ c ∈ s.C, c.b = n
    · refine (pw_write h.pm h.pl (by omega) n (by omega) hc).mono ?_
      rintro r w' ⟨rfl, s', hR, hL, hC, hcnt, hp, hdn, hsf, hws, hdp⟩
      exact ⟨0, s', rfl, h.run hR hL hp hdp hdn, hcnt⟩
    · have hf : s.fB n = 0 := by
        rw [h.pl.fb]
        refine lkB_none fun b hb e => ?_
        obtain ⟨c, hc', hcb⟩ := h.pl.bc b hb (by simp)
        exact hc ⟨c, hc', by omega⟩
      refine (pwrite_none h.pm n (by omega) (by rw [h.dn]; omega) hf).mono ?_
      rintro r w' ⟨rfl, rfl⟩
      exact ⟨20, s, rfl, h.more (Nat.le_succ _), rfl⟩
/-- Patch of anything, behind changes that there are. -/
theorem gw_patch (h : GW w0 w p dp s ops κ) (hκ : κ ≤ 1000) (b fr : Int) (hfr : -9223372036854775808 ≤ fr ∧ fr ≤ 9223372036854775807) (D : List UInt8) (sp : Option Addr) (dc : Nat) (hD : Src w0 sp D) (hDl : D.length ≤ 1000000) (L : List Int) (asp : Option Addr) (ac : Nat) (hL : OwnL w w0.heap.size (.slice asp L.length ac) L) (hLn : ∀ k, (Value.slice asp L.length ac).ownBlock = some k → ¬ Ak s k) (hLl : L.length ≤ 4) (hLb : ∀ x ∈ L, 1 ≤ x ∧ x ≤ (s.cnt : Int)) :
    Calls Tryz.prog 28 #[.pointer (some ⟨p, 0, none⟩), .int .i64 b, .int .i64 fr, .slice sp D.length dc, .slice asp L.length ac] w fun r w' => ∃ (id : Nat) (e : Int) (s' : PSt) (ops' : Nat → List Int), r = .returned (.tuple #[.int .i64 (id : Int), .int .i64 e]) ∧ GW w0 w' p dp s' ops' (κ + 1) ∧ (e = 0 → s'.cnt = id) ∧ (¬ e = 0 → s'.cnt = s.cnt) ∧ Fr (Ak s) w w' := by
  obtain rfl : s.p = p := h.p
  by_cases hb : b < 0 ∨ (s.σ.dn : Int) ≤ b
  · refine (ppatch_out h.pm b hb fr _ _).mono ?_
    rintro r w' ⟨rfl, rfl⟩
    exact ⟨0, 3, s, ops, rfl, h.more (Nat.le_succ _), fun e => by omega, fun _ => rfl, Fr.refl _ _⟩
  · obtain ⟨n, rfl⟩ : ∃ n : Nat, b = (n : Int) := ⟨b.toNat, by omega⟩
    by_cases hs : D.length = 0 ∨ fr < 0 ∨ 256 - (D.length : Int) < fr
    · refine (ppatch_size h.pm n (by omega) fr hfr sp D.length dc (by omega) _ hs).mono ?_
      rintro r w' ⟨rfl, rfl⟩
      exact ⟨0, 4, s, ops, rfl, h.more (Nat.le_succ _), fun e => by omega, fun _ => rfl, Fr.refl _ _⟩
    · obtain ⟨f, rfl⟩ : ∃ f : Nat, fr = (f : Int) := ⟨fr.toNat, by omega⟩
      rcases hD with e | ⟨gb, go, rfl, hl, hc⟩
      · exact absurd (by rw [e]; rfl) (fun c : D.length = 0 => hs (.inl c))
      · obtain ⟨_, hf1⟩ := own_at hL
        refine (pw_patch h.pm h.pl (by omega) n f (by omega) D gb go dc (.inr ⟨gb, go, rfl, by have := h.be.size; omega, fun j hj => (h.be.cell (p := ⟨gb, go + j, none⟩) hl).trans (hc j hj)⟩) (by omega) (by omega) asp ac L (by
          obtain ⟨ao, cap, e, hs', _⟩ := hL.form
          cases e
          exact hs') (by
          rcases hf1 with ⟨e1, e2⟩ | ⟨g, e, _⟩
          · exact .inl ⟨e1, List.eq_nil_of_length_eq_zero e2⟩
          · exact .inr ⟨g, 0, e⟩) (fun b o e => by
          rcases hf1 with ⟨e1, e2⟩ | ⟨g, e1, e2, e3⟩
          · rw [e1] at e; cases e
          · rw [e1] at e; cases e
            exact ⟨hLn _ (by rw [e1]; rfl), e3⟩) (fun hA => by have := h.pm.base hA; omega) (by omega) hLb).mono ?_
        rintro r w' ⟨rfl, s', ops', c, hR, hL', hS⟩
        exact ⟨s.cnt + 1, 0, s', ops', rfl, h.run hR hL' hS.p hS.dp hS.dn, fun _ => hS.cnt, fun e => absurd rfl e, hR.fr⟩
/-- Flush. -/
theorem gw_flush (h : GW w0 w p dp s ops κ) (hκ : κ ≤ 1000) :
    Calls Tryz.prog 27 #[.pointer (some ⟨p, 0, none⟩)] w fun r w' => ∃ s' ops', r = .returned (.int .i64 0) ∧ GW w0 w' p dp s' ops' (κ + 1) ∧ s'.C = nwr s.C := by
  obtain rfl : s.p = p := h.p
  refine (pflush_any h.pm h.pl (by omega)).mono ?_
  rintro r w' ⟨rfl, s', ops', hR, hL, hC, hcnt, hp, hsf, hdn, _, hdp, hws⟩
  exact ⟨s', ops', rfl, h.run hR hL hp hdp hdn, hC⟩
/-- How many are open. -/
theorem gw_open (h : GW w0 w p dp s ops κ) :
    Calls Tryz.prog 32 #[.pointer (some ⟨p, 0, none⟩)] w fun r w' => r = .returned (.int .i64 (s.C.length : Int)) ∧ w' = w := by
  obtain rfl : s.p = p := h.p
  have := popen_any h.pm
  rw [h.pl.kc] at this
  rw [show (cids s.C).length = s.C.length from List.length_map _] at this
  exact this
theorem gw_clen (h : GW w0 w p dp s ops κ) : s.C.length ≤ κ + 1 := by have := h.pl.clen; have := h.pl.bd.1; omega
theorem nodup_len : ∀ (n : Nat) (l : List Nat), l.Nodup → (∀ x ∈ l, x < n) → l.length ≤ n
  | 0, l, _, h => by
    cases l with
    | nil => exact Nat.le_refl _
    | cons x r => exact absurd (h x List.mem_cons_self) (Nat.not_lt_zero _)
  | n + 1, l, hd, h => by
    have h1 := filter_ne_len n hd
    have h2 := nodup_len n (l.filter fun y => decide (y ≠ n)) (hd.sublist List.filter_sublist) fun x hx => by
      obtain ⟨hx1, hx2⟩ := List.mem_filter.1 hx
      have := h x hx1
      have := of_decide_eq_true hx2
      omega
    omega
/-- The blocks that have open changes. -/
theorem gw_dirty (h : GW w0 w p dp s ops κ) :
    Calls Tryz.prog 33 #[.pointer (some ⟨p, 0, none⟩)] w fun r w' => ∃ (v : Value) (ss : List Int), r = .returned v ∧ OwnI w' w.heap.size v ss ∧ ss.length ≤ 5 ∧ (∀ x ∈ ss, ∃ n : Nat, x = (n : Int) ∧ n < 5 ∧ ∃ c ∈ s.C, c.b = n) ∧ (∀ c ∈ s.C, (c.b : Int) ∈ ss) ∧ (s.C = [] → ss = []) ∧ Below w.heap.size w w' := by
  obtain rfl : s.p = p := h.p
  have hlen : s.kB.length ≤ 5 := by
    rw [h.pl.kb]
    have e : (bns s.B).length = (s.B.map (·.n)).length := by unfold bns; simp
    rw [e]
    have hd := h.pl.bn
    exact nodup_len 5 _ hd fun x hx => by
      obtain ⟨b, hb, rfl⟩ := List.mem_map.1 hx
      have := h.pl.bdn b hb
      rw [h.dn] at this
      exact this
  refine (pdirty_any h.pm (by omega)).mono ?_
  rintro r w' ⟨v, ss, rfl, hO, hP, _, hb⟩
  have hm : ∀ x, x ∈ ss ↔ ∃ b ∈ s.B, x = (b.n : Int) := fun x => by
    rw [hP.mem_iff, h.pl.kb]
    unfold bns
    simp [eq_comm]
  refine ⟨v, ss, rfl, hO, by rw [hP.length_eq]; exact hlen, fun x hx => ?_, fun c hc => ?_, fun hC => ?_, hb⟩
  · obtain ⟨b, hb, rfl⟩ := (hm x).1 hx
    have := h.pl.bdn b hb
    rw [h.dn] at this
    exact ⟨b.n, rfl, this, h.pl.bc b hb (by simp)⟩
  · obtain ⟨b, hb, e⟩ := h.pl.cb c hc
    exact (hm _).2 ⟨b, hb, by rw [e]⟩
  · refine List.eq_nil_iff_forall_not_mem.2 fun x hx => ?_
    obtain ⟨b, hb, _⟩ := (hm x).1 hx
    obtain ⟨c, hc, _⟩ := h.pl.bc b hb (by simp)
    rw [hC] at hc
    cases hc
/-- Between writes of dirty blocks: the same changes, and the least one is written if its block was. -/
structure Went (C C' : List Ch) (T : List Int) : Prop where
  same : C'.map (fun c => (c.id, c.b)) = C.map (fun c => (c.id, c.b))
  least : ∀ c, C.head? = some c → (c.b : Int) ∈ T → ∃ c' ∈ C', c'.wr = true
theorem Went.start (C : List Ch) : Went C C [] := ⟨rfl, fun _ _ h => by cases h⟩
theorem Went.mem {C C' : List Ch} {T : List Int} (h : Went C C' T) {n : Nat} (hc : ∃ c ∈ C, c.b = n) : ∃ c ∈ C', c.b = n := by
  obtain ⟨c, hc, e⟩ := hc
  have : (c.id, c.b) ∈ C'.map (fun c => (c.id, c.b)) := by rw [h.same]; exact List.mem_map.2 ⟨c, hc, rfl⟩
  obtain ⟨c', hc', e'⟩ := List.mem_map.1 this
  exact ⟨c', hc', by have := (Prod.mk.inj e').2; omega⟩
theorem Went.len {C C' : List Ch} {T : List Int} (h : Went C C' T) : C'.length = C.length := by
  have := congrArg List.length h.same
  simpa using this
theorem setW_id (al : List Int) (c : Ch) : (setW al c).id = c.id ∧ (setW al c).b = c.b := by unfold setW; split <;> exact ⟨rfl, rfl⟩
theorem setW_wr2 {al : List Int} {c : Ch} (h : c.wr = true) : (setW al c).wr = true := by unfold setW; split <;> first | rfl | exact h
theorem Went.next {C C' : List Ch} {T : List Int} (h : Went C C' T) (hA : Asc C') (hah : ∀ c ∈ C', ∀ i ∈ c.ah, i < (c.id : Int)) (n : Nat) : Went C (C'.map (setW (alw C' n))) (T ++ [(n : Int)]) := by
  refine ⟨?_, fun c hc hT => ?_⟩
  · rw [← h.same, List.map_map]
    refine List.map_congr_left fun c _ => ?_
    have := setW_id (alw C' n) c
    show ((setW (alw C' n) c).id, (setW (alw C' n) c).b) = _
    rw [this.1, this.2]
  · rcases List.mem_append.1 hT with h1 | h1
    · obtain ⟨c', hc', hw⟩ := h.least c hc h1
      exact ⟨_, List.mem_map.2 ⟨c', hc', rfl⟩, setW_wr2 hw⟩
    · have hcb : c.b = n := by have := List.mem_singleton.1 h1; omega
      obtain ⟨D, rfl⟩ : ∃ D, C = c :: D := by
        cases C with
        | nil => cases hc
        | cons a D => simp at hc; exact ⟨D, by rw [hc]⟩
      cases C' with
      | nil => have := h.len; simp at this
      | cons c' D' =>
        have e := h.same
        simp only [List.map_cons, List.cons.injEq, Prod.mk.injEq] at e
        have hb' : c'.b = n := by omega
        have hmem : c' ∈ ofB (c' :: D') n := List.mem_filter.2 ⟨List.mem_cons_self, by simp [hb']⟩
        have hal : (c'.id : Int) ∈ alw (c' :: D') n := (alw_mem hA hah hmem).2 fun i hi ho => by
          obtain ⟨y, hy, e⟩ := opn_iff.1 ho
          have h1 := hah c' List.mem_cons_self i hi
          rcases List.mem_cons.1 hy with rfl | hy
          · omega
          · have := (List.pairwise_cons.1 hA).1 y hy
            omega
        refine ⟨setW (alw (c' :: D') n) c', List.mem_map.2 ⟨c', List.mem_cons_self, rfl⟩, ?_⟩
        unfold setW
        rw [if_pos hal]
theorem Went.less {C C' : List Ch} {T : List Int} (h : Went C C' T) (hT : ∀ c ∈ C, (c.b : Int) ∈ T) (hC : 1 ≤ C.length) : (nwr C').length + 1 ≤ C.length := by
  cases C with
  | nil => simp at hC
  | cons c D =>
    obtain ⟨c', hc', hw⟩ := h.least c rfl (hT c List.mem_cons_self)
    rw [← h.len]
    unfold nwr
    have : (C'.filter fun c => !c.wr).length < C'.length := by
      refine List.length_filter_lt_length_iff_exists.2 ⟨c', hc', by simp [hw]⟩
    omega
/-- Write of a block that has open changes. -/
theorem gw_write_ok {C : List Ch} {T : List Int} (h : GW w0 w p dp s ops κ) (hW : Went C s.C T) (hκ : κ ≤ 1000) {n : Nat} (hn : n < 5) (hc : ∃ c ∈ C, c.b = n) :
    Calls Tryz.prog 26 #[.pointer (some ⟨p, 0, none⟩), .int .i64 (n : Int)] w fun r w' => ∃ s', r = .returned (.int .i64 0) ∧ GW w0 w' p dp s' ops (κ + 1) ∧ Went C s'.C (T ++ [(n : Int)]) ∧ Fr (Ak s) w w' ∧ (∀ k, Ak s' k → Ak s k ∨ w.heap.size ≤ k) := by
  obtain rfl : s.p = p := h.p
  refine (pw_write h.pm h.pl (by omega) n (by rw [h.dn]; exact hn) (hW.mem hc)).mono ?_
  rintro r w' ⟨rfl, s', hR, hL, hC, hcnt, hp, hdn, hsf, hws, hdp⟩
  refine ⟨s', rfl, h.run hR hL hp hdp hdn, ?_, hR.fr, hR.sub⟩
  rw [hC]
  exact hW.next h.pl.asc (fun c hc i hi => ((h.pl.ah c hc).1 i hi).2) n
/-- With none open: a block as it is read, and as it is safe. -/
theorem gw_read (h : GW w0 w p dp s ops κ) (hC : s.C = []) (hκ : κ ≤ 1000) (n : Nat) (hn : n < 5) :
    Calls Tryz.prog 34 #[.pointer (some ⟨p, 0, none⟩), .int .i64 (n : Int)] w fun r w' => ∃ v s', r = .returned (.tuple #[v, .int .i64 0]) ∧ GW w0 w' p dp s' ops (κ + 1) ∧ s'.C = [] ∧ Own w' w.heap.size v (s'.σ.sf n) ∧ (s'.σ.sf n).length = 256 ∧ DiskAt w' w0.heap.size dp 5 s'.σ.en s'.σ.lf s'.σ.sf s'.σ.ws s'.σ.dq s'.σ.vs := by
  obtain rfl : s.p = p := h.p
  refine (pread_any h.pm h.pl (by omega) n (by rw [h.dn]; exact hn)).mono ?_
  rintro r w' ⟨v, d, pn, σ', rfl, hd, hO, hl, hR, hL, hCR, _⟩
  have hB : ∀ b ∈ s.B, ¬ b.n = n := fun b hb _ => by
    obtain ⟨c, hc, _⟩ := h.pl.bc b hb (by simp)
    rw [hC] at hc
    cases hc
  obtain ⟨hws, hent⟩ := h.pl.cao n (by rw [h.dn]; exact hn) hB
  have hds : d = s.σ.sf n := by
    rcases hent with e | e
    · rw [e] at hd
      have := (Prod.mk.inj hd).1
      rw [this]
      unfold lst
      rw [hws]
      rfl
    · rw [e] at hd
      exact (Prod.mk.inj hd).1
  have hg := h.run hR hL rfl hCR.dp hCR.dn
  have hsf : σ'.sf n = d := by rw [hds, hCR.sf]
  refine ⟨v, { s with σ := σ' }, rfl, hg, hC, by rw [show ({ s with σ := σ' } : PSt).σ.sf n = d from hsf]; exact hO, by rw [show ({ s with σ := σ' } : PSt).σ.sf n = d from hsf]; exact hl, ?_⟩
  have := hg.pm.cs.disk
  rw [hg.dp, hg.dn] at this
  exact this
end
end Go.Proofs.YtanelcdeekichaaGreat
/- The walk of leveelaw11.PatchGoes. -/
namespace Go.Proofs.YtanelcdeekichaaGreat
open Go.RowKit
set_option maxRecDepth 100000
set_option maxHeartbeats 8000000 in
theorem patchGoes_any (sp : Option Addr) (m cap : Nat) (A : Nat → Act6) (w : World) (h1 : m ≤ cap ∧ (cap : Int) ≤ 9223372036854775807 ∧ ActsAt w sp m A) :
    Calls Tryz.prog 5 #[.slice sp m cap] w fun e w' => e = .returned (.bool true) ∧ Below w.heap.size w w' := by
  obtain ⟨hm1, hm2, hA⟩ := h1
  have NW := new_any w 5 (by omega) (by omega)
  rw [show ((5 : Nat) : Int) = 5 from rfl] at NW
  have HAA : Hid (ActsAt w sp m A) := hA
  have hmm : (m : Int) ≤ 9223372036854775807 := by omega
  clear hA
  go_enter Tryz.func5, Tryz.ntmps5
  go_wp2_with fail
  refine NW.mono ?_
  clear NW
  rintro r w1 ⟨dp, dq, rfl, hD1, hb1⟩
  have PO := popn_any hD1 5 (by omega) (by omega)
  rw [show ((5 : Nat) : Int) = 5 from rfl] at PO
  have HB1 : Hid (Below w.heap.size w w1) := hb1
  clear hD1 hb1
  go_wp2_with fail
  refine PO.mono ?_
  clear PO
  rintro r w2 ⟨p, cm, bm, cp, mb, rfl, hP2, hb2⟩
  obtain ⟨s2, hs2⟩ : ∃ s2, s2 = newS p cm bm ⟨cp, mb, 0, .slice none 0 0, 5, [], dp, 5, dq, false, 0, fun _ => zer, fun _ => [], fun _ => .slice none 0 0⟩ := ⟨_, rfl⟩
  have hL2 : PL s2 (fun _ => []) [] 0 := by rw [hs2]; exact PL.made rfl ⟨by show 5 ≤ 5; omega, by show 5 ≤ 8; omega⟩ ⟨rfl, rfl⟩ rfl rfl
  rw [← hs2] at hP2
  have e2 : s2.p = p ∧ s2.σ.dp = dp ∧ s2.σ.dn = 5 ∧ s2.cnt = 0 := by rw [hs2]; exact ⟨rfl, rfl, rfl, rfl⟩
  have K2 : Hid (GW w w2 p dp s2 (fun _ => []) 0) := ⟨hP2, hL2, HB1.out.trans (hb2.mono HB1.out.size), e2.1, e2.2.1, e2.2.2.1⟩
  have HC2 : Hid (s2.cnt = 0) := e2.2.2.2
  clear hs2 hL2 hP2 e2 hb2 HB1
  go_wp2
  go_loopg [7, 8, 9, 10, 11, 12] 40 (fun gg t7 t8 _ _ _ _ W => ∃ (gw : World) (k : Nat) (c : Nat) (s : PSt) (ops : Nat → List Int), gw = W ∧ k ≤ 40 ∧ 40 - k ≤ gg ∧ t8 = .int .i64 k ∧ t7 = .int .i64 c ∧ c ≤ 1000 ∧ Hid (s.cnt = c ∧ GW w gw p dp s ops (2 * k)))
  case atStart => exact ⟨_, 0, 0, s2, _, rfl, by omega, by omega, rfl, rfl, by omega, HC2.out, K2.out⟩
  case round =>
    clear K2 HC2
    obtain ⟨gw, k, c, s, ops, rfl, hk, hgg, rfl, rfl, hc1, HW⟩ := hrel
    by_cases hlt : k < m ∧ k < 40
    · have hlt1 : (k : Int) < (m : Int) := by omega
      have hlt2 : (k : Int) < 40 := by omega
      obtain ⟨ab, aoff, rfl, hab, hcc⟩ := HAA.out (by omega)
      obtain ⟨⟨a0, a1, a2, a3, a4, a5⟩, hok⟩ := hcc k hlt.1
      rw [addr_add] at a0 a1 a2 a3 a4 a5
      have tr : ∀ o, gw.cell? ⟨ab, o, none⟩ = w.cell? ⟨ab, o, none⟩ := fun o => HW.out.2.be.cell (p := ⟨ab, o, none⟩) hab
      rw [← tr] at a0 a1 a2 a3 a4 a5
      rw [Nat.add_zero] at a0
      clear tr
      obtain ⟨q, hq⟩ : ∃ q, q = A k := ⟨_, rfl⟩
      rw [← hq] at a0 a1 a2 a3 a4 a5 hok
      have HOK : Hid (q.Ok w) := hok
      clear hcc hok hq
      go_upto_region 11 with fail
      have HB3 : Hid (Below gw.heap.size gw (gw.alloc (.cells #[.int .i64 q.K, .int .i64 q.N, .int .i64 q.F, .slice q.dp q.D.length q.dc, .slice q.ap q.A.length q.ac, .bool false] 39))) := (Below.refl _ _).alloc (Nat.le_refl _) _
      have HW3 : Hid (GW w (gw.alloc (.cells #[.int .i64 q.K, .int .i64 q.N, .int .i64 q.F, .slice q.dp q.D.length q.dc, .slice q.ap q.A.length q.ac, .bool false] 39)) p dp s ops (2 * k)) := HW.out.2.up HB3.out
      have hrow := heap_alloc_new gw (.cells #[.int .i64 q.K, .int .i64 q.N, .int .i64 q.F, .slice q.dp q.D.length q.dc, .slice q.ap q.A.length q.ac, .bool false] 39)
      have HROW : Hid ((gw.alloc (.cells #[.int .i64 q.K, .int .i64 q.N, .int .i64 q.F, .slice q.dp q.D.length q.dc, .slice q.ap q.A.length q.ac, .bool false] 39)).heap[gw.heap.size]? = some (.cells #[.int .i64 q.K, .int .i64 q.N, .int .i64 q.F, .slice q.dp q.D.length q.dc, .slice q.ap q.A.length q.ac, .bool false] 39 (0, 0))) := hrow
      have b0 : (gw.alloc (.cells #[.int .i64 q.K, .int .i64 q.N, .int .i64 q.F, .slice q.dp q.D.length q.dc, .slice q.ap q.A.length q.ac, .bool false] 39)).cell? ⟨gw.heap.size, 0, none⟩ = some (.int .i64 q.K) := (cell_of_row _ _ _ _ _ _ hrow).trans rfl
      have b1 : (gw.alloc (.cells #[.int .i64 q.K, .int .i64 q.N, .int .i64 q.F, .slice q.dp q.D.length q.dc, .slice q.ap q.A.length q.ac, .bool false] 39)).cell? ⟨gw.heap.size, 1, none⟩ = some (.int .i64 q.N) := (cell_of_row _ _ _ _ _ _ hrow).trans rfl
      have b2 : (gw.alloc (.cells #[.int .i64 q.K, .int .i64 q.N, .int .i64 q.F, .slice q.dp q.D.length q.dc, .slice q.ap q.A.length q.ac, .bool false] 39)).cell? ⟨gw.heap.size, 2, none⟩ = some (.int .i64 q.F) := (cell_of_row _ _ _ _ _ _ hrow).trans rfl
      have b3 : (gw.alloc (.cells #[.int .i64 q.K, .int .i64 q.N, .int .i64 q.F, .slice q.dp q.D.length q.dc, .slice q.ap q.A.length q.ac, .bool false] 39)).cell? ⟨gw.heap.size, 3, none⟩ = some (.slice q.dp q.D.length q.dc) := (cell_of_row _ _ _ _ _ _ hrow).trans rfl
      have b4 : (gw.alloc (.cells #[.int .i64 q.K, .int .i64 q.N, .int .i64 q.F, .slice q.dp q.D.length q.dc, .slice q.ap q.A.length q.ac, .bool false] 39)).cell? ⟨gw.heap.size, 4, none⟩ = some (.slice q.ap q.A.length q.ac) := (cell_of_row _ _ _ _ _ _ hrow).trans rfl
      have b5 : (gw.alloc (.cells #[.int .i64 q.K, .int .i64 q.N, .int .i64 q.F, .slice q.dp q.D.length q.dc, .slice q.ap q.A.length q.ac, .bool false] 39)).cell? ⟨gw.heap.size, 5, none⟩ = some (.bool false) := (cell_of_row _ _ _ _ _ _ hrow).trans rfl
      have HBX : Hid (¬ Ak s gw.heap.size) := fun hA => by have := HW.out.2.pm.lt hA; omega
      have HZ3 : Hid (gw.heap.size < (gw.alloc (.cells #[.int .i64 q.K, .int .i64 q.N, .int .i64 q.F, .slice q.dp q.D.length q.dc, .slice q.ap q.A.length q.ac, .bool false] 39)).heap.size) := by show _ < _; rw [size_alloc]; omega
      have HCT : Hid (s.cnt = c) := HW.out.1
      clear hrow HW a0 a1 a2 a3 a4 a5
      generalize gw.alloc (.cells #[.int .i64 q.K, .int .i64 q.N, .int .i64 q.F, .slice q.dp q.D.length q.dc, .slice q.ap q.A.length q.ac, .bool false] 39) = W3 at *
      have hqal : (q.A.length : Int) ≤ 9223372036854775807 := HOK.out.al
      have hqdl : (q.D.length : Int) ≤ 9223372036854775807 := HOK.out.dl
      go_cut [10] (fun t wc => ∃ (w4 : World) (L : List Int) (i1 : Option Addr) (c1 l1 : Nat), w4 = wc ∧ t = .slice i1 l1 c1 ∧ Hid (Below W3.heap.size W3 w4 ∧ (¬ c = 0 → l1 = L.length ∧ OwnL w4 W3.heap.size (.slice i1 l1 c1) L ∧ L.length ≤ 4 ∧ ∀ x ∈ L, 1 ≤ x ∧ x ≤ (c : Int))))
      case first =>
        by_cases hc0 : c = 0
        · subst hc0
          have AF := after_raw q W3 0 (by omega)
          go_wp2_with (first | (go_at_call 14; refine Hid.out ?_))
          change Calls _ _ _ _ _
          refine AF.mono ?_
          rintro r w4 ⟨rfl, hb4⟩
          have HB4 : Hid (Below W3.heap.size W3 w4) := hb4
          clear AF hb4
          go_wp2_with fail
          go_meet
          exact ⟨_, [], _, _, _, rfl, rfl, HB4.out, fun h => by simp at h⟩
        · have AF := after_any q W3 ⟨HOK.out.k, HOK.out.n, HOK.out.f, HOK.out.d.below HW3.out.be (Nat.le_refl _), HOK.out.dl, HOK.out.a.below HW3.out.be (Nat.le_refl _), HOK.out.al, HOK.out.ab⟩ (c : Int) (by omega) (by omega)
          go_wp2_with (first | (go_at_call 14; refine Hid.out ?_))
          change Calls _ _ _ _ _
          refine AF.mono ?_
          rintro r w4 ⟨v, L, rfl, hO4, hl4, _, hb4, hB4⟩
          obtain ⟨i1, c1, rfl, _⟩ := hO4.form
          have H4 : Hid _ := And.intro hO4 (And.intro hl4 (And.intro hb4 hB4))
          clear AF hO4 hl4 hb4 hB4
          go_wp2_with fail
          go_meet
          exact ⟨_, L, _, _, _, rfl, rfl, H4.out.2.2.2, fun _ => ⟨rfl, H4.out.1, H4.out.2.1, H4.out.2.2.1⟩⟩
      case rest =>
        obtain ⟨w4, L4, i4, c4, l4, rfl, rfl, H4⟩ := hcut
        go_upto_if 57 with fail
        go_cut [10] (fun t wc => ∃ (L : List Int) (i1 : Option Addr) (c1 : Nat), t = .slice i1 L.length c1 ∧ wc = w4 ∧ Hid (OwnL w4 W3.heap.size (.slice i1 L.length c1) L ∧ L.length ≤ 4 ∧ ∀ x ∈ L, 1 ≤ x ∧ x ≤ (c : Int)))
        case first =>
          by_cases hc0 : c = 0
          · subst hc0
            go_wp2_with fail
            go_meet
            exact ⟨[], none, 0, rfl, rfl, OwnL.nil _ _, by simp, fun x hx => by cases hx⟩
          · have hc0b : ((c : Int) == 0) = false := by simp; exact hc0
            go_wp2_with fail
            go_meet
            obtain ⟨rfl, h1, h2, h3⟩ := H4.out.2 hc0
            exact ⟨L4, i4, c4, rfl, rfl, h1, h2, h3⟩
        case rest =>
          obtain ⟨L, i1, c1, rfl, hwc, HL⟩ := hcut
          obtain rfl : w4 = wc := hwc.symm
          have HB4 : Hid (Below W3.heap.size W3 w4) := H4.out.1
          have HW4 : Hid (GW w w4 p dp s ops (2 * k)) := HW3.out.up HB4.out
          have t4 : ∀ o, w4.cell? ⟨gw.heap.size, o, none⟩ = W3.cell? ⟨gw.heap.size, o, none⟩ := fun o => HB4.out.cell (p := ⟨gw.heap.size, o, none⟩) HZ3.out
          rw [← t4] at b0 b1 b2 b3
          have HROW4 : Hid (w4.heap[gw.heap.size]? = some (.cells #[.int .i64 q.K, .int .i64 q.N, .int .i64 q.F, .slice q.dp q.D.length q.dc, .slice q.ap q.A.length q.ac, .bool false] 39 (0, 0))) := (HB4.out.block _ HZ3.out).trans HROW.out
          clear H4 b4 b5 t4
          have HL4 : Hid (OwnL w4 w.heap.size (.slice i1 L.length c1) L ∧ ∀ j, (Value.slice i1 L.length c1).ownBlock = some j → ¬ Ak s j) := ⟨ownsRow_mono HL.out.1 HW3.out.be.size, fun j hj hA => by have h1 := (HL.out.1.lt j hj).1; have h2 := HW3.out.pm.lt hA; omega⟩
          go_upto_region 14 with fail
          go_cut [66] (fun t wc => ∃ b : Bool, t = .bool b ∧ wc = w4 ∧ Hid (b = true → q.D.length < 300))
          case first =>
            by_cases hK5 : q.K < 5
            · by_cases hDl : (q.D.length : Int) < 300
              · go_wp2_with fail
                go_meet
                exact ⟨true, rfl, rfl, fun _ => by omega⟩
              · go_wp2_with fail
                go_meet
                exact ⟨false, rfl, rfl, fun h => by cases h⟩
            · go_wp2_with fail
              go_meet
              exact ⟨false, rfl, rfl, fun h => by cases h⟩
          case rest =>
            obtain ⟨bb, rfl, hwc, HDL⟩ := hcut
            obtain rfl : w4 = wc := hwc.symm
            go_upto_if 66 with fail
            go_cut [7, 11, 12] (fun t7 _ _ wc => ∃ (w5 : World) (c' : Nat) (s' : PSt) (ops' : Nat → List Int), w5 = wc ∧ t7 = .int .i64 (c' : Int) ∧ c' ≤ 1000 ∧ Hid (s'.cnt = c' ∧ GW w w5 p dp s' ops' (2 * k + 1) ∧ w5.heap[gw.heap.size]? = some (.cells #[.int .i64 q.K, .int .i64 q.N, .int .i64 q.F, .slice q.dp q.D.length q.dc, .slice q.ap q.A.length q.ac, .bool false] 39 (0, 0))))
            case first =>
              cases bb with
              | false =>
                go_wp2_with fail
                go_meet
                exact ⟨_, c, s, ops, rfl, rfl, hc1, HCT.out, HW4.out.more (Nat.le_succ _), HROW4.out⟩
              | true =>
                have PA := gw_patch HW4.out (by omega) q.N q.F HOK.out.f q.D q.dp q.dc HOK.out.d (by have := HDL.out rfl; omega) L i1 c1 HL4.out.1 HL4.out.2 HL.out.2.1 (by rw [HCT.out]; exact HL.out.2.2)
                go_wp2_with (first | (go_at_call 28; refine Hid.out ?_))
                change Calls _ _ _ _ _
                refine PA.mono ?_
                clear PA
                rintro r w5 ⟨id, e, s5, o5, rfl, hG5, he1, he2, hf5⟩
                have HG5 : Hid (GW w w5 p dp s5 o5 (2 * k + 1)) := hG5
                have HE5 : Hid ((e = 0 → s5.cnt = id) ∧ (¬ e = 0 → s5.cnt = s.cnt)) := ⟨he1, he2⟩
                have HR5 : Hid (w5.heap[gw.heap.size]? = some (.cells #[.int .i64 q.K, .int .i64 q.N, .int .i64 q.F, .slice q.dp q.D.length q.dc, .slice q.ap q.A.length q.ac, .bool false] 39 (0, 0))) := (hf5.blk _ (by have := HB4.out.size; have := HZ3.out; omega) HBX.out).trans HROW4.out
                clear hG5 he1 he2 hf5
                by_cases he : e = 0
                · subst he
                  have HE6 : Hid (s5.cnt = id) := HE5.out.1 rfl
                  clear HE5
                  go_wp2_with fail
                  go_meet
                  exact ⟨_, id, s5, o5, rfl, rfl, by have := HG5.out.pl.bd.1; have := HE6.out; omega, HE6.out, HG5.out, HR5.out⟩
                · have heb : (e == 0) = false := by simp; exact he
                  go_wp2_with fail
                  go_meet
                  exact ⟨_, c, s5, o5, rfl, rfl, hc1, (HE5.out.2 he).trans HCT.out, HG5.out, HR5.out⟩
            case rest =>
              obtain ⟨w5, c', s', ops', rfl, rfl, hc', H5⟩ := hcut
              clear b0 b1 b2 b3 HW4 HL4 HL HB4 HROW4 HDL HW3 HROW HB3 HZ3 HBX HCT
              have b0 : w5.cell? ⟨gw.heap.size, 0, none⟩ = some (.int .i64 q.K) := (cell_of_row _ _ _ _ _ _ H5.out.2.2).trans rfl
              have b1 : w5.cell? ⟨gw.heap.size, 1, none⟩ = some (.int .i64 q.N) := (cell_of_row _ _ _ _ _ _ H5.out.2.2).trans rfl
              have WR := gw_write H5.out.2.1 (by omega) q.N
              by_cases h5 : q.K = 5 ∨ q.K = 6
              · rcases h5 with h5 | h5
                · rw [h5] at b0
                  go_wp2_with (first | (go_at_call 26; refine Hid.out ?_))
                  change Calls _ _ _ _ _
                  refine WR.mono ?_
                  clear WR
                  rintro r w6 ⟨e6, s6, rfl, hG6, hc6⟩
                  have H6 : Hid (s6.cnt = c' ∧ GW w w6 p dp s6 ops' (2 * k + 1 + 1)) := ⟨hc6.trans H5.out.1, hG6⟩
                  clear hG6 hc6
                  go_wp2_with fail
                  go_roundg (40 - (k + 1))
                  case measure => omega
                  case rel => exact ⟨_, k + 1, c', s6, ops', rfl, by omega, by omega, by go_num, rfl, hc', H6.out.1, H6.out.2.more (by omega)⟩
                · rw [h5] at b0
                  go_wp2_with (first | (go_at_call 26; refine Hid.out ?_))
                  change Calls _ _ _ _ _
                  refine WR.mono ?_
                  clear WR
                  rintro r w6 ⟨e6, s6, rfl, hG6, hc6⟩
                  have H6 : Hid (s6.cnt = c' ∧ GW w w6 p dp s6 ops' (2 * k + 1 + 1)) := ⟨hc6.trans H5.out.1, hG6⟩
                  clear hG6 hc6
                  go_wp2_with fail
                  go_roundg (40 - (k + 1))
                  case measure => omega
                  case rel => exact ⟨_, k + 1, c', s6, ops', rfl, by omega, by omega, by go_num, rfl, hc', H6.out.1, H6.out.2.more (by omega)⟩
              · have h55 : (q.K == 5) = false := by simp; omega
                have h66 : (q.K == 6) = false := by simp; omega
                clear WR h5
                go_wp2_with fail
                go_roundg (40 - (k + 1))
                case measure => omega
                case rel => exact ⟨_, k + 1, c', s', ops', rfl, by omega, by omega, by go_num, rfl, hc', H5.out.1, H5.out.2.1.more (by omega)⟩
    · clear hgg
      go_upto_region 7 with fail
      go_cut [45] (fun t wc => t = .bool false ∧ wc = gw)
      case first =>
        by_cases h1 : (k : Int) < (m : Int)
        · have h2 : ¬ (k : Int) < 40 := by omega
          go_wp2_with fail
          go_meet
          exact ⟨rfl, rfl⟩
        · go_wp2_with fail
          go_meet
          exact ⟨rfl, rfl⟩
      case rest =>
        obtain ⟨rfl, hwc⟩ := hcut
        obtain rfl : gw = wc := hwc.symm
        clear hlt
        have OP := gw_open HW.out.2
        have HCL : Hid (s.C.length ≤ 81) := by have := gw_clen HW.out.2; show _ ≤ _; omega
        obtain ⟨n, hn⟩ : ∃ n, s.C.length = n := ⟨_, rfl⟩
        rw [hn] at OP
        have HN : Hid (s.C.length = n ∧ n ≤ 81) := ⟨hn, hn ▸ HCL.out⟩
        have hn81 : (n : Int) ≤ 81 := by have := HN.out.2; omega
        clear hn HCL
        go_wp2_with (first | (go_at_call 32; refine Hid.out ?_))
        change Calls _ _ _ _ _
        refine OP.mono ?_
        clear OP
        rintro r w9 ⟨rfl, hw9⟩
        obtain rfl : gw = w9 := hw9.symm
        go_wp2_with fail
        have HG0 : Hid (s.C.length ≤ n ∧ GW w gw p dp s ops 80) := ⟨by have := HN.out.1; omega, HW.out.2.more (by omega)⟩
        clear HN HW hc1 hk
        go_loopg [14, 15, 16, 17] 81 (fun gg t14 _ _ _ W => ∃ (g6 : World) (i : Nat) (s : PSt) (ops : Nat → List Int), g6 = W ∧ i ≤ n ∧ n - i ≤ gg ∧ t14 = .int .i64 i ∧ Hid (s.C.length ≤ n - i ∧ GW w g6 p dp s ops (80 + 7 * i)))
        case atStart => exact ⟨_, 0, s, ops, rfl, by omega, by omega, rfl, HG0.out⟩
        case round =>
          clear HG0
          obtain ⟨g6, i, s, ops, rfl, hi, hgi, rfl, H6⟩ := hrel
          by_cases hin : (i : Int) < (n : Int)
          · have DT := gw_dirty H6.out.2
            go_wp2_with (first | (go_at_call 33; refine Hid.out ?_))
            change Calls _ _ _ _ _
            refine DT.mono ?_
            clear DT
            rintro r w7 ⟨v, ss, rfl, hO7, hl7, hs7, hc7, he7, hb7⟩
            have HNB : Hid (∀ j, v.ownBlock = some j → g6.heap.size ≤ j ∧ j < w7.heap.size) := fun j hj => hO7.lt j hj
            obtain ⟨_, hf7⟩ : v = v ∧ ∀ b o m0 c0, v = .slice (some ⟨b, o, none⟩) m0 c0 → g6.heap.size ≤ b ∧ b < w7.heap.size := ⟨rfl, fun b o m0 c0 e => by
              subst e
              rcases (own_at hO7).2 with ⟨e1, _⟩ | ⟨g, e1, e2, e3⟩
              · cases e1
              · cases e1; exact ⟨e2, e3⟩⟩
            obtain ⟨ao, ca, rfl, hsr, _⟩ := hO7.form
            have HS7 : Hid (SrcI w7 ao ss ∧ ∀ b o, ao = some ⟨b, o, none⟩ → ¬ Ak s b ∧ b < w7.heap.size) := ⟨hsr, fun b o e => by
              subst e
              have := hf7 b o _ _ rfl
              exact ⟨fun hA => by have := H6.out.2.pm.lt hA; omega, this.2⟩⟩
            have HM7 : Hid ((∀ x ∈ ss, ∃ n : Nat, x = (n : Int) ∧ n < 5 ∧ ∃ c ∈ s.C, c.b = n) ∧ (∀ c ∈ s.C, (c.b : Int) ∈ ss) ∧ (s.C = [] → ss = [])) := ⟨hs7, hc7, he7⟩
            have HG7 : Hid (GW w w7 p dp s ops (80 + 7 * i)) := H6.out.2.up hb7
            have hss5 : (ss.length : Int) ≤ 5 := by omega
            clear hO7 hs7 hc7 he7 hb7 hsr hf7 hl7 HNB
            have OP := gw_open HG7.out
            obtain ⟨cl, hcl⟩ : ∃ cl, s.C.length = cl := ⟨_, rfl⟩
            rw [hcl] at OP
            have HCL : Hid (s.C.length = cl) := hcl
            have hclb : (cl : Int) ≤ 81 := by have := H6.out.1; omega
            clear hcl
            go_wp2_with (first | (go_at_call 32; refine Hid.out ?_))
            change Calls _ _ _ _ _
            refine OP.mono ?_
            clear OP
            rintro r w8 ⟨rfl, hw8⟩
            obtain rfl : w7 = w8 := hw8.symm
            go_wp2_with fail
            go_loopg [17] 5 (fun gg t17 W => ∃ (g8 : World) (j : Nat) (s8 : PSt), g8 = W ∧ j ≤ ss.length ∧ ss.length - j ≤ gg ∧ t17 = .int .i64 j ∧ Hid (GW w g8 p dp s8 ops (80 + 7 * i + j) ∧ Went s.C s8.C (ss.take j) ∧ SrcI g8 ao ss ∧ ∀ b o, ao = some ⟨b, o, none⟩ → ¬ Ak s8 b ∧ b < g8.heap.size))
            case atStart => exact ⟨_, 0, s, rfl, by omega, by omega, rfl, HG7.out, Went.start _, HS7.out⟩
            case round =>
              obtain ⟨g8, j, s8, rfl, hj, hgj, rfl, H8⟩ := hrel
              by_cases hjl : (j : Int) < (ss.length : Int)
              · obtain ⟨rb, ro, nb, hao, hx, hnb, hcb, htk⟩ : ∃ rb ro, ∃ nb : Nat, ao = some ⟨rb, ro, none⟩ ∧ g8.cell? ⟨rb, ro + j, none⟩ = some (.int .i64 (nb : Int)) ∧ nb < 5 ∧ (∃ c ∈ s.C, c.b = nb) ∧ ss.take (j + 1) = ss.take j ++ [(nb : Int)] := by
                  rcases H8.out.2.2.1 with e | ⟨rb, ro, e, hl, hc⟩
                  · have hl0 : ss.length = 0 := by rw [e]; rfl
                    omega
                  · have hjn : j < ss.length := by omega
                    obtain ⟨nb, e1, e2, e3⟩ := HM7.out.1 _ (getD_mem hjn)
                    refine ⟨rb, ro, nb, e, by rw [← e1]; exact hc j hjn, e2, e3, ?_⟩
                    rw [List.take_add_one, List.getElem?_eq_getElem hjn, ← e1, List.getD_eq_getElem?_getD, List.getElem?_eq_getElem hjn]
                    rfl
                have WR := gw_write_ok H8.out.1 H8.out.2.1 (by omega) hnb hcb
                subst hao
                go_wp2_with (first | (go_at_call 26; refine Hid.out ?_))
                change Calls _ _ _ _ _
                refine WR.mono ?_
                clear WR
                rintro r w9 ⟨s9, rfl, hG9, hW9, hf9, hsub9⟩
                have H9 : Hid (GW w w9 p dp s9 ops (80 + 7 * i + (j + 1)) ∧ Went s.C s9.C (ss.take (j + 1)) ∧ SrcI w9 (some ⟨rb, ro, none⟩) ss ∧ ∀ b o, some (⟨rb, ro, none⟩ : Addr) = some ⟨b, o, none⟩ → ¬ Ak s9 b ∧ b < w9.heap.size) := by
                  obtain ⟨h1, h2⟩ := H8.out.2.2.2 rb ro rfl
                  have hz := hf9.size
                  refine ⟨hG9, by rw [htk]; exact hW9, ?_, fun b o e => ?_⟩
                  · rcases H8.out.2.2.1 with e | ⟨b, o, e, hl, hc⟩
                    · exact .inl e
                    · cases e
                      exact .inr ⟨_, _, rfl, by omega, fun l hl2 => (fr_cell hf9 (a := ⟨_, _, none⟩) h2 h1).trans (hc l hl2)⟩
                  · cases e
                    refine ⟨fun hA => ?_, by omega⟩
                    rcases hsub9 _ hA with h3 | h3
                    · exact h1 h3
                    · omega
                clear hG9 hW9 hf9 hsub9
                go_wp2_with fail
                go_roundg (ss.length - (j + 1))
                case measure => omega
                case rel => exact ⟨_, j + 1, s9, rfl, by omega, by omega, by go_num, H9.out⟩
              · have HT : Hid (ss.take j = ss) := List.take_of_length_le (by omega)
                have FL := gw_flush H8.out.1 (by omega)
                go_wp2_with (first | (go_at_call 27; refine Hid.out ?_))
                change Calls _ _ _ _ _
                refine FL.mono ?_
                clear FL
                rintro r w9 ⟨s9, o9, rfl, hG9, hC9⟩
                have HG9 : Hid (GW w w9 p dp s9 o9 (80 + 7 * i + j + 1)) := hG9
                have HL9 : Hid ((cl = 0 → s9.C.length = 0) ∧ (¬ cl = 0 → s9.C.length + 1 ≤ cl)) := by
                  have hw := H8.out.2.1
                  rw [HT.out] at hw
                  rw [hC9]
                  refine ⟨fun h => ?_, fun h => ?_⟩
                  · have h1 := hw.len
                    have h2 : (nwr s8.C).length ≤ s8.C.length := by unfold nwr; exact List.length_filter_le _ _
                    have := HCL.out
                    omega
                  · have := HCL.out
                    have := hw.less HM7.out.2.1 (by omega)
                    omega
                clear hG9 hC9
                go_upto_region 32 with fail
                go_cut [127] (fun t wc => t = .bool false ∧ wc = w9)
                case first =>
                  by_cases hcl0 : cl = 0
                  · subst hcl0
                    go_wp2_with fail
                    go_meet
                    exact ⟨rfl, rfl⟩
                  · have hcl1 : (0 : Int) < (cl : Int) := by omega
                    have OP := gw_open HG9.out
                    obtain ⟨c9, hc9⟩ : ∃ c9, s9.C.length = c9 := ⟨_, rfl⟩
                    rw [hc9] at OP
                    have hlt9 : (c9 : Int) < (cl : Int) := by have := HL9.out.2 hcl0; omega
                    go_wp2_with (first | (go_at_call 32; refine Hid.out ?_))
                    change Calls _ _ _ _ _
                    refine OP.mono ?_
                    clear OP
                    rintro r wx ⟨rfl, hwx⟩
                    obtain rfl : w9 = wx := hwx.symm
                    go_wp2_with fail
                    go_meet
                    exact ⟨congrArg Value.bool (decide_eq_false (by omega)), rfl⟩
                case rest =>
                  obtain ⟨rfl, hwc⟩ := hcut
                  obtain rfl : w9 = wc := hwc.symm
                  go_wp2_with fail
                  go_roundg (n - (i + 1))
                  case measure => omega
                  case rel =>
                    refine ⟨_, i + 1, s9, o9, rfl, by omega, by omega, by go_num, ?_, HG9.out.more (by omega)⟩
                    have h1 := H6.out.1
                    have h2 := HCL.out
                    by_cases hcl0 : cl = 0
                    · rw [HL9.out.1 hcl0]; omega
                    · have := HL9.out.2 hcl0; omega
          · have HZ : Hid (s.C = [] ∧ GW w g6 p dp s ops 700) := ⟨List.eq_nil_of_length_eq_zero (by have := H6.out.1; omega), H6.out.2.more (by omega)⟩
            clear H6
            go_wp2_with fail
            go_loopg [18, 19, 20, 21, 22] 5 (fun gg t18 _ _ _ _ W => ∃ (g9 : World) (b : Nat) (s : PSt) (ops : Nat → List Int), g9 = W ∧ b ≤ 5 ∧ 5 - b ≤ gg ∧ t18 = .int .i64 b ∧ Hid (s.C = [] ∧ GW w g9 p dp s ops (700 + b)))
            case atStart => exact ⟨_, 0, s, ops, rfl, by omega, by omega, rfl, HZ.out⟩
            case round =>
              clear HZ
              obtain ⟨g9, b, s, ops, rfl, hb, hgb, rfl, H9⟩ := hrel
              by_cases hb5 : (b : Int) < 5
              · have RD := gw_read H9.out.2 H9.out.1 (by omega) b (by omega)
                go_wp2_with (first | (go_at_call 34; refine Hid.out ?_))
                change Calls _ _ _ _ _
                refine RD.mono ?_
                clear RD
                rintro r wa ⟨v, sa, rfl, hGa, hCa, hOa, hla, hDa⟩
                obtain ⟨ao, ca, rfl, hsr, _⟩ := hOa.form
                rw [hla]
                have SF := safe_any hDa b (by omega)
                have HSR : Hid (Src wa ao (sa.σ.sf b) ∧ (sa.σ.sf b).length = 256) := ⟨hsr, hla⟩
                have HGa : Hid (sa.C = [] ∧ GW w wa p dp sa ops (700 + b + 1)) := ⟨hCa, hGa⟩
                clear hGa hCa hOa hla hDa hsr
                go_wp2_with (first | (go_at_call 22; refine Hid.out ?_))
                change Calls _ _ _ _ _
                refine SF.mono ?_
                clear SF
                rintro r wb ⟨gx, rfl, hblk, hgx, hbb⟩
                have CV1 := conv_str (HSR.out.1.below hbb (Nat.le_refl _)) 256 ca HSR.out.2.symm
                have CV2 := conv_str hblk.src 256 256 HSR.out.2.symm
                have HGb : Hid (sa.C = [] ∧ GW w wb p dp sa ops (700 + (b + 1))) := ⟨HGa.out.1, HGa.out.2.up hbb⟩
                clear hblk hbb HSR HGa hgx
                generalize str (sa.σ.sf b) = S at *
                go_wp2_with fail
                go_roundg (5 - (b + 1))
                case measure => omega
                case rel => exact ⟨_, b + 1, sa, ops, rfl, by omega, by omega, by go_num, HGb.out⟩
              · have OP := gw_open H9.out.2
                rw [H9.out.1] at OP
                have DT := gw_dirty H9.out.2
                go_wp2_with (first | (go_at_call 32; refine Hid.out ?_))
                change Calls _ _ _ _ _
                refine OP.mono ?_
                clear OP
                rintro r wx ⟨rfl, hwx⟩
                obtain rfl : g9 = wx := hwx.symm
                rw [show (([] : List Ch).length : Int) = 0 from rfl]
                go_wp2_with (first | (go_at_call 33; refine Hid.out ?_))
                change Calls _ _ _ _ _
                refine DT.mono ?_
                clear DT
                rintro r wy ⟨v, ss, rfl, hO7, _, _, _, he7, hb7⟩
                obtain ⟨ao, ca, rfl, _⟩ := hO7.form
                rw [show ss.length = 0 by rw [he7 H9.out.1]; rfl]
                have HBY : Hid (Below w.heap.size w wy) := H9.out.2.be.trans (hb7.mono H9.out.2.be.size)
                clear hO7 he7 hb7
                have KN := fun W => pknown_any W
                go_wp2_with (first | (go_at_call 24; refine Hid.out ?_))
                change Calls _ _ _ _ _
                refine (KN _).mono ?_
                clear KN
                rintro r wk ⟨rfl, hbk⟩
                have HBK : Hid (Below w.heap.size w wk) := HBY.out.trans (hbk.mono HBY.out.size)
                clear hbk
                go_wp2_with fail
                go_ret
                exact ⟨rfl, HBK.out⟩
end Go.Proofs.YtanelcdeekichaaGreat
