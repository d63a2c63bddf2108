/- A store between its calls: Patch, Write, Flush and what they leave. -/
import Derived.Test.YtaljaledeljllaaGreatPnew
namespace Go.Proofs.YtaljaledeljllaaGreat
open Go.RowKit
set_option maxRecDepth 100000
section
variable {w w' w0 : World} {base : Nat} {σ : CSt} {s s' s0 : PSt} {ops ops' : Nat → List Int} {κ : Nat}
theorem PL.made {p cm bm : Nat} (hL : σ.L = []) (hm : σ.dn ≤ σ.most ∧ σ.dn ≤ 8) (hen : σ.en = false ∧ σ.lf = 0) (hK : σ.K = 0) (hws : σ.ws = fun _ => []) : PL (newS p cm bm σ) (fun _ => []) [] 0 where
  asc := List.Pairwise.nil
  idr := fun c hc => by cases hc
  ft := fun c hc => by cases hc
  fc := rfl
  kc := rfl
  fb := rfl
  kb := rfl
  bn := List.nodup_nil
  bdn := fun b hb => by cases hb
  op := fun b hb => by cases hb
  cb := fun c hc => by cases hc
  bc := fun b hb => by cases hb
  pb := fun i hi => by cases hi
  bal := fun b hb => by cases hb
  ah := fun c hc => by cases hc
  la := fun b hb => by cases hb
  lam := fun b hb => by cases hb
  ahm := fun c hc => by cases hc
  wra := fun c hc => by cases hc
  len := by show σ.L.length ≤ σ.most; rw [hL]; exact Nat.zero_le _
  mdn := hm
  en := hen
  bd := ⟨Nat.le_refl _, Nat.le_refl _, Nat.le_refl _, by show σ.K ≤ _; rw [hK]; omega, fun n => by show (σ.ws n).length ≤ 0; rw [hws]; exact Nat.le_refl _⟩
  sfb := fun b hb => by cases hb
  lsb := fun b hb => by cases hb
  cab := fun b hb => by cases hb
  cao := fun n _ _ => ⟨by show σ.ws n = []; rw [hws], .inl (by show ent σ.L n = none; rw [hL]; rfl)⟩
theorem PL.find (h : PL s ops [] κ) (n : Nat) : (∃ Y b Z, s.B = Y ++ b :: Z ∧ b.n = n ∧ s.fB n = b.q + 1) ∨ (s.fB n = 0 ∧ (n : Int) ∉ s.kB) := by
  by_cases hb : ∃ b ∈ s.B, b.n = n
  · obtain ⟨b, hb, hbn⟩ := hb
    obtain ⟨Y, Z, hB⟩ := List.append_of_mem hb
    exact .inl ⟨Y, b, Z, hB, hbn, by rw [h.fb, ← hbn]; exact lkB_at h.bn hb⟩
  · refine .inr ⟨by rw [h.fb]; exact lkB_none fun b hb' e => hb ⟨b, hb', by omega⟩, fun hm => ?_⟩
    rw [h.kb] at hm
    obtain ⟨b, hb', e⟩ := List.mem_map.1 hm
    exact hb ⟨b, hb', by omega⟩
/-- What Patch leaves, in short. -/
structure PatchS (s : PSt) (n fr : Nat) (data : List UInt8) (after : List Int) (s' : PSt) (c : Ch) : Prop where
  C : s'.C = s.C ++ [c]
  id : c.id = s.cnt + 1
  b : c.b = n
  fr : c.fr = fr
  d : c.d = data
  wr : c.wr = false
  ah : ∀ i ∈ c.ah, opn s.C i = true
  af : ∀ i ∈ after, opn s.C i = true → i ∈ c.ah
  cnt : s'.cnt = s.cnt + 1
  p : s'.p = s.p
  dn : s'.σ.dn = s.σ.dn
  sf : s'.σ.sf = s.σ.sf
theorem PatchR.short (h : PL s ops [] κ) {n fr : Nat} {data : List UInt8} {after : List Int} (hR : PatchR s ops n fr data after s' ops') : ∃ c, PatchS s n fr data after s' c := by
  obtain ⟨d, d2, pn, pn3, σ1, σ3, s2, o2, b, Y, Z, q, dv, av, ov, ah, tg0, tg, hd, hdl, hC1, hO, hs', ho', hah, hal, hC3, hd2⟩ := hR
  have hop : ∀ i, s.fC i ≠ 0 ↔ opn s.C i = true := fun i => by
    have := lkC_opn h.asc i
    rw [h.fc]
    cases ho : opn s.C i
    · rw [ho] at this; simpa using this
    · rw [ho] at this; simpa using this
  have he := hO.eqs
  refine ⟨{ newCh (s.cnt + 1) n fr data q dv with av := av, ah := ah }, ?_⟩
  rw [hs']
  refine ⟨rfl, rfl, rfl, rfl, rfl, rfl, fun i hi => (hop i).1 ((hah i).1 hi).2, fun i hi ho => (hah i).2 ⟨.inl hi, (hop i).2 ho⟩, rfl, he.1, ?_, ?_⟩
  · show σ3.dn = _
    rw [hC3.dn, he.2.2.2.2.2.2.2.2.2.1]; exact hC1.dn
  · show σ3.sf = _
    rw [hC3.sf]
    cases hO with
    | old _ _ => exact hC1.sf
    | new _ _ _ _ => exact hC1.sf
theorem pw_patch (h : PM w base s ops) (hL : PL s ops [] κ) (hκ : κ ≤ 30000) (n fr : Nat) (hn : n < s.σ.dn) (data : List UInt8) (gd0 od0 dc0 : Nat) (hds : Src w (some ⟨gd0, od0, none⟩) data) (hd1 : 1 ≤ data.length) (hf : fr + data.length ≤ 256) (asp : Option Addr) (ac : Nat) (after : List Int) (has : SrcI w asp after) (hform : (asp = none ∧ after = []) ∨ ∃ b o, asp = some ⟨b, o, none⟩) (haf : ∀ b o, asp = some ⟨b, o, none⟩ → ¬ Ak s b ∧ b < w.heap.size) (hdf : ¬ Ak s gd0) (hal : after.length ≤ 1000) (hkn : ∀ i ∈ after, 1 ≤ i ∧ i ≤ (s.cnt : Int)) :
    Calls Tryz.prog 28 #[.pointer (some ⟨s.p, 0, none⟩), .int .i64 (n : Int), .int .i64 (fr : Int), .slice (some ⟨gd0, od0, none⟩) data.length dc0, .slice asp after.length ac] w fun r w' => r = .returned (.tuple #[.int .i64 ((s.cnt + 1 : Nat) : Int), .int .i64 0]) ∧ ∃ s' ops' c, PRun base s w s' ops' w' ∧ PL s' ops' [] (κ + 1) ∧ PatchS s n fr data after s' c := by
  have hbd := hL.bd
  have hmd := hL.mdn
  refine (patch_mem h n fr hn (by omega) data gd0 od0 dc0 hds hd1 hf asp ac after has hform haf hdf hal hkn (by omega) hL.len hmd.1 (hL.find n) (by omega) (by omega) (by omega) ?_ ?_ ?_).mono ?_
  · rw [hL.kc]
    intro hm
    obtain ⟨c, hc, e⟩ := List.mem_map.1 hm
    have := (hL.idr c hc).2
    omega
  · intro b hb i hi
    have := hL.la b hb i hi
    omega
  · intro b hb
    rw [hL.op b hb]
    unfold cids
    rw [List.length_map]
    exact Nat.le_trans (List.length_filter_le _ _) (by have := hL.clen; omega)
  · rintro r w' ⟨rfl, s', ops', hR, hP⟩
    obtain ⟨c, hc⟩ := hP.short hL
    exact ⟨rfl, s', ops', c, hR, hL.patch hn hd1 hf hP hR.pm.bq, hc⟩
theorem pw_write (h : PM w base s ops) (hL : PL s ops [] κ) (hκ : κ ≤ 30000) (n : Nat) (hn : n < s.σ.dn) (hc : ∃ c ∈ s.C, c.b = n) :
    Calls Tryz.prog 26 #[.pointer (some ⟨s.p, 0, none⟩), .int .i64 (n : Int)] w fun r w' => r = .returned (.int .i64 0) ∧ ∃ s', PRun base s w s' ops w' ∧ PL s' ops [] (κ + 1) ∧ s'.C = s.C.map (setW (alw s.C n)) ∧ s'.cnt = s.cnt ∧ s'.p = s.p ∧ s'.σ.dn = s.σ.dn ∧ s'.σ.sf = s.σ.sf ∧ lst s'.σ n = lays (s.σ.sf n) (pickC (ofB s.C n) (alw s.C n)) ∧ ∀ m, ¬ m = n → lst s'.σ m = lst s.σ m := by
  obtain ⟨c, hc, hcb⟩ := hc
  obtain ⟨b, hb, hbn⟩ := hL.cb c hc
  rw [hcb] at hbn
  have hbd := hL.bd
  have hmd := hL.mdn
  obtain ⟨hop, hcs, hf, hofn, hfb⟩ := hL.alw_pre (by omega) hb hbn
  refine (write_mem h n hn (by omega) hb hfb hop (fun c hc => ?_) hL.asc hf (by have := hL.clen; omega) (by omega) hL.len hmd.1 hL.en.1 hL.en.2 (by have := hbd.2.2.2.2 n; omega)).mono ?_
  · have h1 := hL.idr c hc
    exact ⟨by rw [hL.fc]; exact lkC_at hL.asc hc, by omega, by have := (hL.ah c hc).2; omega, fun i hi => by have := (hL.ah c hc).1 i hi; omega, (hL.ft c hc).1, (hL.ft c hc).2⟩
  · rintro r w' ⟨rfl, s', hR, hW⟩
    have hP := hL.write hb hbn hW
    have hsf := hL.sfb b hb
    rw [hbn, if_neg (by simp)] at hsf
    obtain ⟨σ1, vs', pn, d, tg, hdp, hC, rfl⟩ := hW
    refine ⟨rfl, _, hR, hP, setW_fold _ _, rfl, rfl, hC.dn, hC.sf, ?_, fun m hm => ?_⟩
    · rw [lst_upd (σ := s.σ) (ws := s.σ.ws) (n := n) (σ' := { σ1 with ws := upd s.σ.ws n (s.σ.ws n ++ [lays b.ba (pickC (ofB s.C n) (alw s.C n))]), vs := vs' }) hC.sf rfl n, if_pos rfl, hsf]
    · rw [lst_upd (σ := s.σ) (ws := s.σ.ws) (n := n) (σ' := { σ1 with ws := upd s.σ.ws n (s.σ.ws n ++ [lays b.ba (pickC (ofB s.C n) (alw s.C n))]), vs := vs' }) hC.sf rfl m, if_neg hm]; rfl
/-- A cell that is none of the store's. -/
structure Cl (w : World) (s : PSt) (g j : Nat) (v : Value) : Prop where
  lt : g < w.heap.size
  no : ¬ Ak s g
  at' : w.cell? ⟨g, j, none⟩ = some v
theorem Cl.run {g j : Nat} {v : Value} (h : Cl w s g j v) (hR : PRun base s w s' ops' w') : Cl w' s' g j v :=
  ⟨by have := hR.fr.size; have := h.lt; omega, fun hA => by
    rcases hR.sub g hA with h1 | h1
    · exact h.no h1
    · have := h.lt; omega, (fr_cell hR.fr (a := ⟨g, j, none⟩) h.lt h.no).trans h.at'⟩
end
end Go.Proofs.YtaljaledeljllaaGreat
