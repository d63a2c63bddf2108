/- Package cache: Flush; package patch: Flush. -/
import Derived.Test.YtaljaledeljllaaGreatPlogs
namespace Go.Proofs.YtaljaledeljllaaGreat
open Go.RowKit
set_option maxRecDepth 100000
section
variable {w w' w0 : World} {base : Nat} {σ : CSt} {s s' s0 : PSt} {ops ops' : Nat → List Int} {κ : Nat}
set_option maxHeartbeats 2000000 in
theorem cflush_any (h : CS w base σ (nums σ.L)) (hen : σ.en = false) (hlf : σ.lf = 0) :
    Calls Tryz.prog 76 #[.pointer (some ⟨σ.p, 0, none⟩)] w fun r w' => r = .returned (.int .i64 0) ∧ ∃ vs', Done base σ { σ with sf := lst σ, ws := fun _ => [], vs := vs' } w w' := by
  have hg : goesB σ.en σ.lf = true := by rw [hen, hlf]; rfl
  have hgl : goesL σ.en σ.lf = σ.lf := by rw [hen, hlf]; rfl
  have FL := flush_fr h.disk (by rw [hlf]; omega) hg (openL σ.ws σ.dn) rfl
  have q0 := h.c0
  have H : Hid (CS w base σ (nums σ.L)) := h
  clear h hen hlf hg
  go_enter Tryz.func76, Tryz.ntmps76
  go_wp2_with fail
  refine FL.mono ?_
  clear FL
  rintro r w2 ⟨rfl, ⟨vs', hD, hV⟩, hbe, hf⟩
  rw [hgl] at hD
  have HD : Hid (DiskAt w2 base σ.dp σ.dn σ.en σ.lf (lst σ) (fun _ => []) σ.dq vs') := hD.congr (fun i hi => by rw [(setS_all σ.ws σ.sf _ σ.dn i hi).1, List.take_length]; rfl) (fun i hi => (setS_all σ.ws σ.sf _ σ.dn i hi).2)
  have HV : Hid (VN σ.vs vs') := hV
  have HF : Hid (Fr (PQ σ.dp σ.dq) w w2 ∧ Below base w w2) := ⟨hf, hbe⟩
  clear hD hV hf hbe hgl
  go_wp2
  go_ret
  have hS : ∀ k, PQ σ.dp σ.dq k → Dk σ.dp σ.dq σ.dn σ.vs k := fun k hk => by
    rcases hk with hk | hk
    · exact .inl hk
    · exact .inr (.inl hk)
  have hv : ∀ k, Dk σ.dp σ.dq σ.dn vs' k → Dk σ.dp σ.dq σ.dn σ.vs k ∨ w.heap.size ≤ k := fun k hk => by
    rcases hk with hk | hk | ⟨j, hj, hk⟩
    · exact .inl (.inl hk)
    · exact .inl (.inr (.inl hk))
    · rcases HV.out j with e | e
      · rw [e] at hk; exact .inl (.inr (.inr ⟨j, hj, hk⟩))
      · rw [e] at hk; cases hk
  exact ⟨rfl, vs', H.out.setDisk HD.out HF.out.1 hS hv, Step.setDisk HF.out.1 hS hv, HF.out.2⟩
theorem PL.clen {pend : List Int} (h : PL s ops pend κ) : s.C.length ≤ s.cnt + 1 := by
  have h1 : (s.C.map (·.id)).Nodup := by
    unfold List.Nodup
    rw [List.pairwise_map]
    exact List.Pairwise.imp (fun hab => by omega) h.asc
  have := nodup_lt_len (s.cnt + 1) _ h1 (fun x hx => by
    obtain ⟨c, hc, rfl⟩ := List.mem_map.1 hx
    have := (h.idr c hc).2; omega)
  simpa using this
/-- What a flush of a block leaves as it was. -/
structure Kin (s s' : PSt) : Prop where
  p : s'.p = s.p
  cnt : s'.cnt = s.cnt
  sf : s'.σ.sf = s.σ.sf
  ws : s'.σ.ws = s.σ.ws
  dn : s'.σ.dn = s.σ.dn
  most : s'.σ.most = s.σ.most
  dp : s'.σ.dp = s.σ.dp
  cp : s'.σ.p = s.σ.p
theorem Kin.refl (s : PSt) : Kin s s := ⟨rfl, rfl, rfl, rfl, rfl, rfl, rfl, rfl⟩
theorem Kin.trans {a b c : PSt} (h : Kin a b) (k : Kin b c) : Kin a c :=
  ⟨k.p.trans h.p, k.cnt.trans h.cnt, k.sf.trans h.sf, k.ws.trans h.ws, k.dn.trans h.dn, k.most.trans h.most, k.dp.trans h.dp, k.cp.trans h.cp⟩
theorem settle_pl {pend : List Int} (h : PRun base s0 w0 s ops w) (hL : PL s ops pend κ) {n : Nat} (hp : (n : Int) ∈ pend) (hK : s.σ.K + 1 ≤ 10 * κ) (hκ : κ ≤ 50000) (hws : s.σ.ws n = []) :
    Calls Tryz.prog 77 #[.pointer (some ⟨s.p, 0, none⟩), .int .i64 (n : Int)] w fun r w' => r = .returned (.tuple #[]) ∧ ∃ s' ops', PRun base s0 w0 s' ops' w' ∧ PL s' ops' (pend.filter fun y => decide (y ≠ (n : Int))) κ ∧ s'.C = setl s.C n ∧ s'.σ.K ≤ s.σ.K + 1 ∧ Kin s s' := by
  obtain ⟨b, hb, hbn⟩ := hL.pb _ hp
  have hbn' : b.n = n := by omega
  obtain ⟨Y, Z, hB⟩ := List.append_of_mem hb
  have hbd := hL.bd
  have hdn := hL.mdn
  have hbdn := hL.bdn b hb
  have hfb : s.fB n = b.q + 1 := by rw [hL.fb, ← hbn']; exact lkB_at hL.bn hb
  have hop := hL.op b hb
  have hcab := hL.cab b hb
  rw [hbn'] at hop hcab
  obtain ⟨A, e, E, hLL, hen, _, hpin⟩ := ent_some hcab
  refine (psettle_any h n (by omega) hB hfb (ofB s.C n) hop (fun c hc => ?_) (hL.asc.ofB n) ?_ ?_ hLL hen (by omega) (by rw [hpin]; exact Nat.le_refl _)).mono ?_
  · have hc' := (List.mem_filter.1 hc).1
    have h1 := hL.idr c hc'
    exact ⟨hc', by rw [hL.fc]; exact lkC_at hL.asc hc', by omega, (hL.ft c hc').1, (hL.ft c hc').2, by rw [hL.kc]; exact List.mem_map.2 ⟨c, hc', rfl⟩⟩
  · have := hL.clen
    exact Nat.le_trans (List.length_filter_le _ _) (by omega)
  · rw [hL.kb]; exact List.mem_map.2 ⟨b, hb, hbn⟩
  · rintro r w' ⟨rfl, tg, ov, ⟨hne, hR⟩ | ⟨hne, hR⟩⟩
    · exact ⟨rfl, _, _, hR.less (C' := setl s.C n) (setl_sub _ _) (List.Sublist.refl _), hL.settled hB hbn' hp h.pm.bq hne tg ov, rfl, Nat.le_succ _, ⟨rfl, rfl, rfl, rfl, rfl, rfl, rfl, rfl⟩⟩
    · exact ⟨rfl, _, _, hR.less (C' := setl s.C n) (setl_sub _ _) (List.Sublist.refl _), hL.gone hB hbn' hp h.pm.bq hne tg hLL hen h.pm.cs.nd hK hws, rfl, Nat.le_refl _, ⟨rfl, rfl, rfl, rfl, rfl, rfl, rfl, rfl⟩⟩
/-- Those that are written and of one of these blocks are gone. -/
def flt (C : List Ch) (l : List Int) : List Ch := C.filter fun c => !(c.wr && l.contains (c.b : Int))
theorem flt_nil (C : List Ch) : flt C [] = C := List.filter_eq_self.2 fun c _ => by simp
theorem flt_snoc (C : List Ch) (l : List Int) (n : Nat) : flt C (l ++ [(n : Int)]) = setl (flt C l) n := by
  unfold flt setl
  rw [List.filter_filter]
  refine List.filter_congr fun c _ => ?_
  unfold left
  cases c.wr <;> by_cases h1 : c.b = n
  · simp
  · simp
  · simp [h1]
  · have h2 : ¬ (c.b : Int) = n := by omega
    simp [h1, h2]
set_option maxHeartbeats 2000000 in
theorem pflush_any (h : PM w base s ops) (hL : PL s ops [] κ) (hκ : κ ≤ 40000) :
    Calls Tryz.prog 27 #[.pointer (some ⟨s.p, 0, none⟩)] w fun r w' => r = .returned (.int .i64 0) ∧ ∃ s' ops', PRun base s w s' ops' w' ∧ PL s' ops' [] (κ + 1) ∧ s'.C = nwr s.C ∧ s'.cnt = s.cnt ∧ s'.p = s.p ∧ s'.σ.sf = lst s.σ ∧ s'.σ.dn = s.σ.dn ∧ s'.σ.most = s.σ.most ∧ s'.σ.dp = s.σ.dp := by
  have CF := cflush_any h.cs hL.en.1 hL.en.2
  have c1 := h.c1
  have HH : Hid (PM w base s ops) := h
  have HL : Hid (PL s ops [] κ) := hL
  clear h hL
  go_enter Tryz.func27, Tryz.ntmps27
  go_wp2_with fail
  refine CF.mono ?_
  clear CF
  rintro r w1 ⟨rfl, vs', hD⟩
  obtain ⟨s1, hs1⟩ : ∃ s1 : PSt, s1 = { s with σ := { s.σ with sf := lst s.σ, ws := fun _ => [], vs := vs' } } := ⟨_, rfl⟩
  have hR1 : PRun base s w s1 ops w1 := by rw [hs1]; exact (PRun.start HH.out).cache hD rfl rfl
  have hL1 : PL s1 ops s.kB (κ + 1) := by rw [hs1]; exact (HL.out.flushed (σ' := { s.σ with sf := lst s.σ, ws := fun _ => [], vs := vs' }) rfl rfl rfl rfl rfl rfl rfl rfl).mono (Nat.le_succ _)
  have e1 : s1.p = s.p ∧ s1.kB = s.kB ∧ s1.C = s.C ∧ s1.cnt = s.cnt ∧ s1.σ.sf = lst s.σ ∧ s1.σ.ws = (fun _ => []) ∧ s1.σ.dn = s.σ.dn ∧ s1.σ.most = s.σ.most ∧ s1.σ.dp = s.σ.dp ∧ s1.σ.K = s.σ.K := by rw [hs1]; exact ⟨rfl, rfl, rfl, rfl, rfl, rfl, rfl, rfl, rfl, rfl⟩
  have hkl : s.kB.length ≤ 8 := by
    have h1 := nodup_lt_len s.σ.dn (s.B.map (·.n)) HL.out.bn (fun x hx => by
      obtain ⟨b, hb, rfl⟩ := List.mem_map.1 hx
      exact HL.out.bdn b hb)
    have h2 := HL.out.mdn
    rw [HL.out.kb]; unfold bns
    simp at h1 ⊢; omega
  have DY := pdirty_any hR1.pm (by rw [e1.2.1]; omega)
  rw [e1.2.1, e1.1] at DY
  have HR1 : Hid (PRun base s w s1 ops w1) := hR1
  have HL1 : Hid (PL s1 ops s.kB (κ + 1)) := hL1
  have HE : Hid (s1.p = s.p ∧ s1.kB = s.kB ∧ s1.C = s.C ∧ s1.cnt = s.cnt ∧ s1.σ.sf = lst s.σ ∧ s1.σ.ws = (fun _ => []) ∧ s1.σ.dn = s.σ.dn ∧ s1.σ.most = s.σ.most ∧ s1.σ.dp = s.σ.dp ∧ s1.σ.K = s.σ.K) := e1
  clear hR1 hL1 e1 hs1 hD c1
  go_wp2_with (go_at_call 33; refine Hid.out ?_)
  change Calls _ _ _ _ _
  refine DY.mono ?_
  clear DY
  rintro r w2 ⟨v, ss, rfl, ho, hpm, _, hb2⟩
  obtain ⟨va, vc, rfl, hvs, hvl, hvc, hvn⟩ := ho.form
  have hnd : ss.Nodup := by
    refine hpm.nodup_iff.2 ?_
    rw [HL.out.kb]; unfold bns
    have := HL.out.bn
    unfold List.Nodup at this ⊢
    rw [List.pairwise_map] at this ⊢
    exact this.imp fun hab => by omega
  have hsl : ss.length ≤ 8 := by rw [hpm.length_eq]; exact hkl
  have HS0 : Hid (SrcI w2 va ss ∧ ∀ b o, va = some ⟨b, o, none⟩ → w1.heap.size ≤ b ∧ b < w2.heap.size) := ⟨hvs, fun b o e => by have := ho.lt b (by rw [e]; rfl); exact this⟩
  have HR2 : Hid (PRun base s1 w2 s1 ops w2 ∧ PRun base s w s1 ops w2) := ⟨PRun.start (HR1.out.pm.up hb2), HR1.out.up hb2⟩
  have HSS : Hid (ss.Perm s.kB ∧ ss.Nodup) := ⟨hpm, hnd⟩
  clear ho hpm hb2 hvs hnd hkl
  go_wp2
  go_loopg [5, 19] ss.length (fun gg _ t19 W => ∃ (gw : World) (k : Nat) (s2 : PSt) (o2 : Nat → List Int), gw = W ∧ k ≤ ss.length ∧ ss.length - k ≤ gg ∧ t19 = .int .i64 k ∧ Hid (PRun base s1 w2 s2 o2 gw) ∧ Hid (PL s2 o2 (s.kB.filter fun y => decide (y ∉ ss.take k)) (κ + 1)) ∧ Hid (Kin s1 s2 ∧ s2.C = flt s.C (ss.take k) ∧ s2.σ.K ≤ s.σ.K + k))
  case atStart =>
    refine ⟨_, 0, s1, ops, rfl, by omega, by omega, rfl, HR2.out.1, ?_, Kin.refl _, ?_, ?_⟩
    · rw [List.take_zero, List.filter_eq_self.2 (fun _ _ => by simp)]; exact HL1.out
    · rw [List.take_zero, flt_nil]; exact HE.out.2.2.1
    · rw [HE.out.2.2.2.2.2.2.2.2.2]; exact Nat.le_refl _
  case round =>
    obtain ⟨gw, k, s2, o2, rfl, hk, hgg, rfl, HR, HP, HK⟩ := hrel
    by_cases hlt : k < ss.length
    · have hltz : (k : Int) < (ss.length : Int) := by omega
      have hmem : ss.getD k 0 ∈ ss := by rw [List.getD_eq_getElem?_getD, List.getElem?_eq_getElem hlt]; exact List.getElem_mem hlt
      have htk := take_succ_getD ss k hlt
      have hnot : ss.getD k 0 ∉ ss.take k := fun hm => by
        have h1 := HSS.out.2
        rw [← List.take_append_drop k ss] at h1
        have h2 := (List.nodup_append.1 h1).2.2
        refine h2 _ hm (ss.getD k 0) ?_ rfl
        rw [List.getD_eq_getElem?_getD, List.getElem?_eq_getElem hlt, Option.getD_some, List.drop_eq_getElem_cons hlt]
        exact List.mem_cons.2 (.inl rfl)
      have hpd : ss.getD k 0 ∈ s.kB.filter fun y => decide (y ∉ ss.take k) := List.mem_filter.2 ⟨HSS.out.1.subset hmem, by simpa using hnot⟩
      obtain ⟨b, hb, hbn⟩ := HP.out.pb _ hpd
      obtain ⟨n, hn⟩ : ∃ n, n = b.n := ⟨_, rfl⟩
      rw [← hn] at hbn
      obtain ⟨b0, off, rfl, hb0, hcc⟩ : ∃ b off, va = some ⟨b, off, none⟩ ∧ b < w2.heap.size ∧ ∀ j, j < ss.length → w2.cell? ⟨b, off + j, none⟩ = some (.int .i64 (ss.getD j 0)) := by
        rcases HS0.out.1 with h0 | h1
        · rw [h0] at hlt; simp at hlt
        · exact h1
      have ck : gw.cell? ⟨b0, off + k, none⟩ = some (.int .i64 (n : Int)) := by
        rw [hbn, ← hcc k hlt]
        exact fr_cell HR.out.fr (a := ⟨b0, off + k, none⟩) hb0 (fun hA => by
          have h1 := HR1.out.pm.lt hA
          have h2 := (HS0.out.2 b0 off rfl).1
          have h3 : b0 < w1.heap.size := h1
          omega)
      have SE := settle_pl HR.out HP.out (n := n) (by rw [hbn]; exact hpd) (by have := HK.out.2.2; have := HL.out.bd.2.2.2.1; omega) (by omega) (by rw [HK.out.1.ws, HE.out.2.2.2.2.2.1])
      rw [HK.out.1.p, HE.out.1] at SE
      have HN : Hid ((n : Int) = ss.getD k 0 ∧ ss.take (k + 1) = ss.take k ++ [ss.getD k 0]) := ⟨hbn, htk⟩
      clear hcc hmem hnot hpd hb hbn hn htk
      go_wp2_with (go_at_call 77; refine Hid.out ?_)
      change Calls _ _ _ _ _
      refine SE.mono ?_
      clear SE
      rintro r w3 ⟨rfl, s3, o3, hR3, hP3, hC3, hK3, hKin⟩
      have HR3 : Hid (PRun base s1 w2 s3 o3 w3) := hR3
      have HP3 : Hid (PL s3 o3 (s.kB.filter fun y => decide (y ∉ ss.take (k + 1))) (κ + 1)) := by
        rw [HN.out.2]
        rw [List.filter_filter] at hP3
        have ef : (s.kB.filter fun y => decide (y ∉ ss.take k ++ [ss.getD k 0])) = s.kB.filter fun a => decide (a ≠ (n : Int)) && decide (a ∉ ss.take k) := List.filter_congr fun y _ => by
          rw [← HN.out.1]
          simp [not_or]
          exact Bool.and_comm _ _
        rw [ef]; exact hP3
      have HK3 : Hid (Kin s1 s3 ∧ s3.C = flt s.C (ss.take (k + 1)) ∧ s3.σ.K ≤ s.σ.K + (k + 1)) := ⟨HK.out.1.trans hKin, by rw [hC3, HK.out.2.1, HN.out.2, ← HN.out.1, flt_snoc], by have := HK.out.2.2; omega⟩
      clear hR3 hP3 hC3 hK3 hKin
      go_wp2
      go_roundg (ss.length - (k + 1))
      case measure => omega
      case rel => exact ⟨_, k + 1, s3, o3, rfl, by omega, by omega, by go_num, HR3, HP3, HK3⟩
    · have hltz : ¬ (k : Int) < (ss.length : Int) := by omega
      have HKN : Hid (ss.take k = ss) := List.take_of_length_le (by omega)
      go_wp2
      go_ret
      have hP := HP.out
      have hK := HK.out
      rw [HKN.out] at hP hK
      have hno : (s.kB.filter fun y => decide (y ∉ ss)) = [] := by
        rw [List.filter_eq_nil_iff]
        intro y hy
        simpa using HSS.out.1.symm.subset hy
      rw [hno] at hP
      refine ⟨rfl, s2, o2, HR2.out.2.trans HR.out, hP, ?_, ?_, ?_, ?_, ?_, ?_, ?_⟩
      · rw [hK.2.1]
        unfold flt nwr
        refine List.filter_congr fun c hc => ?_
        obtain ⟨b, hb, hbn⟩ := HL.out.cb c hc
        have : (c.b : Int) ∈ ss := HSS.out.1.symm.subset (by rw [HL.out.kb]; exact List.mem_map.2 ⟨b, hb, by rw [hbn]⟩)
        simp [this]
      · rw [hK.1.cnt]; exact HE.out.2.2.2.1
      · rw [hK.1.p]; exact HE.out.1
      · rw [hK.1.sf]; exact HE.out.2.2.2.2.1
      · rw [hK.1.dn]; exact HE.out.2.2.2.2.2.2.1
      · rw [hK.1.most]; exact HE.out.2.2.2.2.2.2.2.1
      · rw [hK.1.dp]; exact HE.out.2.2.2.2.2.2.2.2.1
end
end Go.Proofs.YtaljaledeljllaaGreat
