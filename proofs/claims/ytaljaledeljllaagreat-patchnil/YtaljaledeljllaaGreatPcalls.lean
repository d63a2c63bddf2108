/- Package patch: Open, Safe, Read, Image, Ready of a store. -/
import Derived.Test.YtaljaledeljllaaGreatPflush
namespace Go.Proofs.YtaljaledeljllaaGreat
open Go.RowKit
set_option maxRecDepth 100000
section
variable {w w' w0 : World} {base : Nat} {σ : CSt} {s s' s0 : PSt} {ops ops' : Nat → List Int} {κ : Nat}
theorem PL.touch (h : PL s ops [] κ) {n : Nat} {σ1 : CSt} {d : List UInt8} {pn : Nat} (hd : (d, pn) = (ent s.σ.L n).getD (lst s.σ n, 0)) (hC : CRel s.σ σ1 n (some (d, pn))) : PL { s with σ := σ1 } ops [] (κ + 1) :=
  { h with
    bdn := (fun b hb => (by show b.n < σ1.dn; rw [hC.dn]; exact h.bdn b hb))
    len := hC.len
    mdn := (by show σ1.dn ≤ σ1.most ∧ σ1.dn ≤ 8; rw [hC.dn, hC.most]; exact h.mdn)
    en := (by show σ1.en = false ∧ σ1.lf = 0; rw [hC.en, hC.lf]; exact h.en)
    bd := (by
      obtain ⟨h1, h2, h3, h4, h5⟩ := h.bd
      have := hC.k1
      exact ⟨by show s.cnt ≤ _; omega, by show s.kc ≤ _; omega, by show s.kb ≤ _; omega, by show σ1.K ≤ _; omega, fun n => by show (σ1.ws n).length ≤ _; rw [hC.ws]; have := h5 n; omega⟩)
    sfb := (fun b hb => (by show σ1.sf b.n = _; rw [hC.sf]; exact h.sfb b hb))
    lsb := (fun b hb => (by show lst σ1 b.n = _; unfold lst; rw [hC.sf, hC.ws]; exact h.lsb b hb))
    cab := (fun b hb => (by
      show ent σ1.L b.n = _
      by_cases e : b.n = n
      · have h1 := h.cab b hb
        rw [e] at h1
        rw [h1] at hd
        rw [e, hC.at', hd]; rfl
      · rw [hC.oth _ e]; exact h.cab b hb))
    cao := (fun m hm hno => (by
      obtain ⟨h1, h2⟩ := h.cao m (by have : m < σ1.dn := hm; rw [hC.dn] at this; exact this) hno
      refine ⟨by show σ1.ws m = []; rw [hC.ws]; exact h1, ?_⟩
      show ent σ1.L m = none ∨ ent σ1.L m = some (σ1.sf m, 0)
      rw [hC.sf]
      by_cases e : m = n
      · subst e
        have hl : lst s.σ m = s.σ.sf m := by unfold lst; rw [h1]; rfl
        rw [hC.at', hd]
        rcases h2 with h2 | h2
        · rw [h2, hl]; exact .inr rfl
        · rw [h2]; exact .inr rfl
      · rw [hC.oth m e]; exact h2)) }
set_option maxHeartbeats 1000000 in
theorem popen_any (h : PM w base s ops) :
    Calls Tryz.prog 32 #[.pointer (some ⟨s.p, 0, none⟩)] w fun e w' => e = .returned (.int .i64 (s.kC.length : Int)) ∧ w' = w := by
  have q3 := h.c3
  have LN := fun ty => KMap.len (mt := 101) (et := 126) (by kernel_rfl) h.mc ty
  clear h
  go_enter Tryz.func32, Tryz.ntmps32
  go_wp2
  go_ret
  exact ⟨rfl, rfl⟩
set_option maxHeartbeats 1000000 in
theorem psafe_any (h : PM w base s ops) (x : Int) (hx : -9223372036854775808 ≤ x ∧ x ≤ 9223372036854775807) :
    Calls Tryz.prog 29 #[.pointer (some ⟨s.p, 0, none⟩), .int .i64 x] w fun e w' => e = .returned (.bool (decide (1 ≤ x ∧ x ≤ (s.cnt : Int) ∧ s.fC x = 0))) ∧ w' = w := by
  have UN := unknown_any h x
  have CL := closed_any h x hx
  clear h
  by_cases h1 : x < 1 ∨ (s.cnt : Int) < x
  · rw [decide_eq_true h1] at UN
    have e : decide (1 ≤ x ∧ x ≤ (s.cnt : Int) ∧ s.fC x = 0) = false := by simp; omega
    rw [e]
    clear CL e
    go_enter Tryz.func29, Tryz.ntmps29
    go_wp2_with fail
    refine UN.mono ?_
    rintro r w1 ⟨rfl, hw1⟩
    obtain rfl : w = w1 := hw1.symm
    go_wp2
    go_ret
    exact ⟨rfl, rfl⟩
  · rw [decide_eq_false h1] at UN
    have e : decide (1 ≤ x ∧ x ≤ (s.cnt : Int) ∧ s.fC x = 0) = decide (s.fC x = 0) := by
      by_cases h2 : s.fC x = 0
      · simp [h2]; omega
      · simp [h2]
    rw [e]
    clear e
    go_enter Tryz.func29, Tryz.ntmps29
    go_wp2_with fail
    refine UN.mono ?_
    rintro r w1 ⟨rfl, hw1⟩
    obtain rfl : w = w1 := hw1.symm
    go_wp2_with fail
    refine CL.mono ?_
    rintro r w1 ⟨rfl, hw1⟩
    obtain rfl : w = w1 := hw1.symm
    go_wp2
    go_ret
    exact ⟨rfl, rfl⟩
set_option maxHeartbeats 1000000 in
theorem pread_any (h : PM w base s ops) (hL : PL s ops [] κ) (hκ : κ ≤ 40000) (n : Nat) (hn : n < s.σ.dn) :
    Calls Tryz.prog 34 #[.pointer (some ⟨s.p, 0, none⟩), .int .i64 (n : Int)] w fun r w' => ∃ v d pn σ', r = .returned (.tuple #[v, .int .i64 0]) ∧ (d, pn) = (ent s.σ.L n).getD (lst s.σ n, 0) ∧ Own w' w.heap.size v d ∧ d.length = 256 ∧ PRun base s w { s with σ := σ' } ops w' ∧ PL { s with σ := σ' } ops [] (κ + 1) ∧ CRel s.σ σ' n (some (d, pn)) ∧ (∀ k, v.ownBlock = some k → ¬ Sk σ' k) := by
  have RD := cr_read h.cs n hn (by have := hL.bd.2.2.2.1; omega) hL.len hL.mdn.1
  have c1 := h.c1
  have HH : Hid (PM w base s ops) := h
  have HL : Hid (PL s ops [] κ) := hL
  clear h hL
  go_enter Tryz.func34, Tryz.ntmps34
  go_wp2_with fail
  refine RD.mono ?_
  clear RD
  rintro r w1 ⟨v, d, pn, σ', rfl, hd, hO, hS, hD, hC, hdl⟩
  have HX : Hid ((d, pn) = (ent s.σ.L n).getD (lst s.σ n, 0) ∧ Own w1 w.heap.size v d ∧ d.length = 256 ∧ PRun base s w { s with σ := σ' } ops w1 ∧ PL { s with σ := σ' } ops [] (κ + 1) ∧ CRel s.σ σ' n (some (d, pn)) ∧ (∀ k, v.ownBlock = some k → ¬ Sk σ' k)) := ⟨hd, hO, hdl, (PRun.start HH.out).cache hD hC.p hC.dp, HL.out.touch hd hC, hC, hS⟩
  clear hd hO hS hD hC hdl
  go_wp2
  go_ret2
  exact ⟨v, d, pn, σ', rfl, HX.out⟩
/-- What asking which changes may be written needs. -/
theorem PL.alw_pre (h : PL s ops [] κ) (hκ : κ ≤ 40000) {b : Bk} (hb : b ∈ s.B) {n : Nat} (hbn : b.n = n) : ops b.q = cids (ofB s.C n) ∧ (∀ c ∈ ofB s.C n, c ∈ s.C ∧ s.fC c.id = c.q + 1 ∧ (c.id : Int) ≤ 1000000 ∧ c.ah.length ≤ 1000000 ∧ ∀ i ∈ c.ah, -9223372036854775808 ≤ i ∧ i ≤ 9223372036854775807) ∧ (∀ i : Int, -9223372036854775808 ≤ i ∧ i ≤ 9223372036854775807 → decide (s.fC i = 0) = !opn s.C i) ∧ (ofB s.C n).length ≤ 1000000 ∧ s.fB n = b.q + 1 := by
  have hbd := h.bd
  refine ⟨by rw [← hbn]; exact h.op b hb, fun c hc => ?_, fun i _ => by rw [h.fc]; exact lkC_opn h.asc i, Nat.le_trans (List.length_filter_le _ _) (by have := h.clen; omega), by rw [h.fb, ← hbn]; exact lkB_at h.bn hb⟩
  have hc' := (List.mem_filter.1 hc).1
  have h1 := h.idr c hc'
  exact ⟨hc', by rw [h.fc]; exact lkC_at h.asc hc', by omega, by have := (h.ah c hc').2; omega, fun i hi => by have := (h.ah c hc').1 i hi; omega⟩
set_option maxHeartbeats 2000000 in
theorem pimage_any (h : PM w base s ops) (hL : PL s ops [] κ) (hκ : κ ≤ 30000) (n : Nat) (hn : n < s.σ.dn) {b : Bk} (hb : b ∈ s.B) (hbn : b.n = n) :
    Calls Tryz.prog 35 #[.pointer (some ⟨s.p, 0, none⟩), .int .i64 (n : Int)] w fun r w' => ∃ g σ' d pn, r = .returned (.tuple #[.slice (some ⟨g, 0, none⟩) 256 256, .int .i64 0]) ∧ Blk w' g 110 (lays b.ba (pickC (ofB s.C n) (alw s.C n))) ∧ w.heap.size ≤ g ∧ PRun base s w { s with σ := σ' } ops w' ∧ PL { s with σ := σ' } ops [] (κ + 1) ∧ (d, pn) = (ent s.σ.L n).getD (lst s.σ n, 0) ∧ CRel s.σ σ' n (some (d, pn)) ∧ ¬ Ak { s with σ := σ' } g := by
  have RD := pread_any h hL (by omega) n hn
  have HL : Hid (PL s ops [] κ) := hL
  have HB : Hid (b ∈ s.B ∧ b.n = n) := ⟨hb, hbn⟩
  have hdn := hL.mdn
  obtain ⟨al, hal⟩ : ∃ al, al = alw s.C n := ⟨_, rfl⟩
  rw [← hal]
  clear h hL hb hbn
  go_enter Tryz.func35, Tryz.ntmps35
  go_wp2_with (go_at_call 34; refine Hid.out ?_)
  change Calls _ _ _ _ _
  refine RD.mono ?_
  clear RD
  rintro r w1 ⟨v, d, pn, σ', rfl, hd, hO, hdl, hR, hL1, hC, _⟩
  obtain ⟨hop, hcs, hf, hofn, hfb⟩ := hL1.alw_pre (by omega) HB.out.1 HB.out.2
  have AL := allowed_any hR.pm HB.out.1 (ofB s.C n) hop hcs (HL.out.asc.ofB n) hf hofn
  have LK := hR.pm.lookB (n : Int) (by omega)
  dsimp only at LK
  rw [show s.fB n = b.q + 1 from hfb] at LK
  simp only [ptrV] at LK
  have c4 := hR.pm.c4
  dsimp only at c4 AL
  have hal2 : allowG s.C (ofB s.C n) [] = al := hal.symm
  rw [hal2] at AL
  have HPK : Hid (cids (pickC (ofB s.C n) al) = al) := by rw [hal]; exact pick_ids (alw_sub s.C n) (HL.out.asc.ofB n)
  have HR : Hid (PRun base s w { s with σ := σ' } ops w1 ∧ PL { s with σ := σ' } ops [] (κ + 1) ∧ (d, pn) = (ent s.σ.L n).getD (lst s.σ n, 0) ∧ CRel s.σ σ' n (some (d, pn))) := ⟨hR, hL1, hd, hC⟩
  have HCS : Hid (∀ c ∈ ofB s.C n, c ∈ s.C ∧ s.fC c.id = c.q + 1 ∧ (c.id : Int) ≤ 1000000 ∧ fits c ∧ 1 ≤ c.d.length) := fun c hc => ⟨(hcs c hc).1, (hcs c hc).2.1, (hcs c hc).2.2.1, (HL.out.ft c (hcs c hc).1).1, (HL.out.ft c (hcs c hc).1).2⟩
  have HOF : Hid ((ofB s.C n).length ≤ 1000000) := hofn
  clear hd hO hdl hR hL1 hC hop hcs hf hofn hfb hal hal2
  go_wp2_with (go_at_call 73; refine Hid.out ?_)
  change Calls _ _ _ _ _
  refine AL.mono ?_
  clear AL LK c4
  rintro r w2 ⟨va, rfl, ho2, hb2⟩
  obtain ⟨vp, vc, rfl, hvs, hvl, hvc, hvn⟩ := ho2.form
  have hpl : (pickC (ofB s.C n) al).length = al.length := by
    have := congrArg List.length HPK.out
    simpa [cids] using this
  have IM := image_any (HR.out.1.pm.up hb2) HB.out.1 (pickC (ofB s.C n) al) vp vc (by rw [HPK.out]; exact hvs) (fun c hc => HCS.out c (List.mem_filter.1 hc).1) (Nat.le_trans (List.length_filter_le _ _) HOF.out)
  rw [hpl] at IM
  dsimp only at IM
  have HB2 : Hid (Below w1.heap.size w1 w2) := hb2
  clear ho2 hvs hvl hvc hvn hpl hb2
  go_wp2_with (go_at_call 75; refine Hid.out ?_)
  change Calls _ _ _ _ _
  refine IM.mono ?_
  clear IM
  rintro r w3 ⟨g, rfl, hg, hgl, hb3⟩
  have HX : Hid (Blk w3 g 110 (lays b.ba (pickC (ofB s.C n) al)) ∧ w2.heap.size ≤ g ∧ Below w2.heap.size w2 w3) := ⟨hg, hgl, hb3⟩
  clear hg hgl hb3
  go_wp2
  go_ret2
  refine ⟨g, σ', d, pn, rfl, HX.out.1, ?_, (HR.out.1.up HB2.out).up HX.out.2.2, HR.out.2.1, HR.out.2.2.1, HR.out.2.2.2, ?_⟩
  · have h1 := HR.out.1.fr.size
    have h2 := HB2.out.size
    have h3 := HX.out.2.1
    omega
  · intro hA
    have h1 := HR.out.1.pm.lt hA
    have h2 := HB2.out.size
    have h3 := HX.out.2.1
    omega
end
end Go.Proofs.YtaljaledeljllaaGreat
