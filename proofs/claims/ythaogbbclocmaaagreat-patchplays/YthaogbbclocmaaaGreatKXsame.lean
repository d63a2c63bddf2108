/- leveelaw11.same: all that can be seen of both stores. -/
import Derived.Test.YthaogbbclocmaaaGreatJXwaits6
import Derived.Test.YthaogbbclocmaaaGreatJXdo4
namespace Go.Proofs.YthaogbbclocmaaaGreat
open Go.RowKit
set_option maxRecDepth 100000
theorem NewB.form {w w1 : World} {s : PSt} {v : Value} {d : List UInt8} (h : NewB w w1 s v d) : ∃ ao cap, v = .slice ao d.length cap ∧ Src w1 ao d ∧ SpB w1 v d.length ∧ d.length ≤ 256 ∧ ∀ k, v.ownBlock = some k → w.heap.size ≤ k ∧ k < w1.heap.size ∧ ¬ Ak s k := by
  rcases h with ⟨rfl, rfl⟩ | ⟨hO, hl, hA⟩
  · exact ⟨none, 0, rfl, Src.nil _ _, .inl ⟨rfl, rfl⟩, by simp, fun k hk => by cases hk⟩
  · obtain ⟨ao, cap, e, hs, _⟩ := hO.form
    exact ⟨ao, cap, e, hs, SpB.of_own hO, by omega, fun k hk => ⟨(Own.lt hO k hk).1, (Own.lt hO k hk).2, hA k hk⟩⟩
theorem NewI.form {w w1 : World} {s : PSt} {v : Value} {d : List UInt8} (h : NewI w w1 s v d) : ∃ ao cap, v = .slice ao d.length cap ∧ Src w1 ao d ∧ SpB w1 v d.length ∧ d.length ≤ 256 ∧ ∀ k, v.ownBlock = some k → w.heap.size ≤ k ∧ k < w1.heap.size ∧ ¬ Ak s k := by
  rcases h with h | ⟨g, rfl, hg, hl, hw, hA⟩
  · exact h.form
  · refine ⟨_, 256, by rw [hl], hg.src, by rw [hl]; exact SpB.of_blk hg hl, by omega, fun k hk => ?_⟩
    cases hk
    exact ⟨hw, (Array.getElem?_eq_some_iff.1 hg).1, hA⟩
section
variable {N : Nat} {w0 w w' : World} {p dp ed q : Nat} {s : PSt} {ops : Nat → List Int} {κ m : Nat} {A : Nat → List Int} {L : List RCh} {D : Nat → Prop}
/-- What is left by being seen. -/
structure Seen (N : Nat) (w0 w w' : World) (p dp ed q : Nat) (s : PSt) (ops : Nat → List Int) (κ m : Nat) (A : Nat → List Int) (L : List RCh) (D : Nat → Prop) : Prop where
  out : ∃ s', BX N w0 w' p dp ed q s' ops κ m A L D ∧ s'.cnt = s.cnt ∧ Fr (Ak s) w w' ∧ ∀ k, Ak s' k → Ak s k ∨ w.heap.size ≤ k
set_option maxHeartbeats 16000000 in
theorem same11_any (h : BX N w0 w p dp ed q s ops κ m A L D) (hκ : κ ≤ 800) (b id : Int) (hid : -9223372036854775808 ≤ id ∧ id ≤ 9223372036854775807) :
    Calls Tryz.prog 16 #[.pointer (some ⟨p, 0, none⟩), .pointer (some ⟨q, 0, none⟩), .int .i64 b, .int .i64 id] w fun e w' => e = .returned (.bool true) ∧ Seen N w0 w w' p dp ed q s ops (κ + 2) m A L D := by
  have RD := xb_read h (by omega) b
  have HLT : Hid (∀ k, Ak s k ∨ D k → k < w.heap.size) := fun k hk => by
    rcases hk with hk | hk
    · exact h.gw.pm.lt hk
    · exact h.rs.ltD k hk
  have HBS : Hid (w0.heap.size ≤ w.heap.size) := h.gw.be.size
  clear h
  go_enter Tryz.func16, Tryz.ntmps16
  go_wp2_with (first | (go_at_call 34; refine Hid.out ?_))
  change Calls _ _ _ _ _
  refine RD.mono ?_
  clear RD
  rintro r w1 ⟨v, d, e, s1, rfl, hN1, hX1, hC1, hc1, _, hf1, hs1, RD⟩
  obtain ⟨ao, cap, rfl, hsx, hpx, hdl, hbx⟩ := hN1.form
  have H1 : Hid (BX N w0 w1 p dp ed q s1 ops (κ + 1) m A L D ∧ s1.cnt = s.cnt ∧ Fr (Ak s) w w1 ∧ (∀ k, Ak s1 k → Ak s k ∨ w.heap.size ≤ k) ∧ Src w1 ao d ∧ SpB w1 (.slice ao d.length cap) d.length ∧ d.length ≤ 256 ∧ ∀ k, (Value.slice ao d.length cap).ownBlock = some k → w.heap.size ≤ k ∧ k < w1.heap.size ∧ ¬ Ak s1 k) := ⟨hX1, hc1, hf1, hs1, hsx, hpx, hdl, hbx⟩
  clear hN1 hX1 hC1 hc1 hf1 hs1 hsx hpx hdl hbx
  go_wp2_with (first | (go_at_call 68; refine Hid.out ?_))
  change Calls _ _ _ _ _
  refine RD.mono ?_
  clear RD
  rintro r w2 ⟨xo, xc, rfl, hsy, hb2, hny⟩
  have IM := xb_image (H1.out.1.up hb2) (by omega) b
  have H2 : Hid (Src w2 xo d ∧ Below w1.heap.size w1 w2 ∧ ∀ b o, xo = some ⟨b, o, none⟩ → w1.heap.size ≤ b) := ⟨hsy, hb2, hny⟩
  clear hsy hb2 hny
  go_wp2_with (first | (go_at_call 69; refine Hid.out ?_))
  change Calls _ _ _ _ _
  refine IM.mono ?_
  clear IM
  rintro r w3 ⟨v3, d3, e3, s3, rfl, hN3, hX3, hC3, hc3, hf3, hs3, IM⟩
  obtain ⟨po, pc, rfl, hsp, hpp, hdl3, hbp⟩ := hN3.form
  have H3 : Hid (BX N w0 w3 p dp ed q s3 ops (κ + 1 + 1) m A L D ∧ s3.cnt = s1.cnt ∧ Fr (Ak s1) w2 w3 ∧ (∀ k, Ak s3 k → Ak s1 k ∨ w2.heap.size ≤ k) ∧ Src w3 po d3 ∧ SpB w3 (.slice po d3.length pc) d3.length ∧ d3.length ≤ 256 ∧ ∀ k, (Value.slice po d3.length pc).ownBlock = some k → w2.heap.size ≤ k ∧ k < w3.heap.size ∧ ¬ Ak s3 k) := ⟨hX3, hc3, hf3, hs3, hsp, hpp, hdl3, hbp⟩
  clear hN3 hX3 hC3 hc3 hf3 hs3 hsp hpp hdl3 hbp
  go_wp2_with (first | (go_at_call 70; refine Hid.out ?_))
  change Calls _ _ _ _ _
  refine IM.mono ?_
  clear IM
  rintro r w4 ⟨yo, yc, rfl, hsq, hb4⟩
  obtain ⟨u, be, PB, RB⟩ := xb_block (H3.out.1.up hb4) (by omega) id hid
  have RB4 := RB w4 (Below.refl _ _)
  have H4 : Hid (BX N w0 w4 p dp ed q s3 ops (κ + 2) m A L D ∧ Src w4 yo d3 ∧ Src w4 po d3 ∧ SpB w4 (.slice po d3.length pc) d3.length ∧ Src w4 ao d ∧ Src w4 xo d ∧ SpB w4 (.slice ao d.length cap) d.length ∧ Below w3.heap.size w3 w4) := by
    have f12 : Fr (fun _ => False) w1 w2 := Fr.of_below H2.out.2.1
    have f34 : Fr (fun _ => False) w3 w4 := Fr.of_below hb4
    have hno : ∀ k o, ao = some ⟨k, o, none⟩ → ¬ Ak s1 k := fun k o e hA => (H1.out.2.2.2.2.2.2.2 k (by rw [e]; rfl)).2.2 hA
    have hno2 : ∀ k, (Value.slice ao d.length cap).ownBlock = some k → ¬ Ak s1 k := fun k hk => (H1.out.2.2.2.2.2.2.2 k hk).2.2
    refine ⟨H3.out.1.up hb4, hsq, H3.out.2.2.2.2.1.below hb4 (Nat.le_refl _), H3.out.2.2.2.2.2.1.fr f34 (fun _ _ h => h), ?_, ?_, ?_, hb4⟩
    · exact (src_fr (H1.out.2.2.2.2.1.below H2.out.2.1 (Nat.le_refl _)) H3.out.2.2.1 hno).below hb4 (Nat.le_refl _)
    · refine (src_fr H2.out.1 H3.out.2.2.1 fun k o e hA => ?_).below hb4 (Nat.le_refl _)
      have h1 := H2.out.2.2 k o e
      have h2 := H1.out.1.gw.pm.lt hA
      omega
    · exact ((H1.out.2.2.2.2.2.1.fr f12 (fun _ _ h => h)).fr H3.out.2.2.1 hno2).fr f34 (fun _ _ h => h)
  clear hsq hb4 RB
  go_wp2_with (first | (go_at_call 46; refine PB.mono ?_; rintro r w5 ⟨rfl, hw5⟩; obtain rfl : w4 = w5 := hw5.symm) | (go_at_call 71; refine Hid.out ?_))
  change Calls _ _ _ _ _
  refine RB4.mono ?_
  rintro r w5 ⟨rfl, hw5⟩
  obtain rfl : w4 = w5 := hw5.symm
  clear RB4 PB
  have HST : Hid (d.length ≤ 256 ∧ d3.length ≤ 256) := ⟨H1.out.2.2.2.2.2.2.1, H3.out.2.2.2.2.2.2.1⟩
  have CV1 := conv_str H4.out.2.2.2.2.1 d.length cap rfl
  have CV2 := conv_str H4.out.2.2.2.2.2.1 d.length xc rfl
  have CV3 := conv_str H4.out.2.2.1 d3.length pc rfl
  have CV4 := conv_str H4.out.2.1 d3.length yc rfl
  have SP1 := spoilX_any H4.out.2.2.2.2.2.2.1 (by have := HST.out; omega)
  have HB1 : Hid (∀ k, (Value.slice ao d.length cap).ownBlock = some k → w.heap.size ≤ k ∧ k < w1.heap.size ∧ ¬ Ak s3 k) := fun k hk => by
    have h1 := H1.out.2.2.2.2.2.2.2 k hk
    refine ⟨h1.1, h1.2.1, fun hA => ?_⟩
    rcases H3.out.2.2.2.1 k hA with h2 | h2
    · exact h1.2.2 h2
    · have := H2.out.2.1.size; omega
  have HB3 : Hid (∀ k, (Value.slice po d3.length pc).ownBlock = some k → w2.heap.size ≤ k ∧ ¬ Ak s3 k) := fun k hk => ⟨(H3.out.2.2.2.2.2.2.2 k hk).1, (H3.out.2.2.2.2.2.2.2 k hk).2.2⟩
  generalize str d = S1 at *
  generalize str d3 = S3 at *
  go_upto_region 8 with fail
  clear CV1 CV2 CV3 CV4
  go_wp2_with (first | (go_at_call 67; refine Hid.out ?_))
  change Calls _ _ _ _ _
  refine SP1.mono ?_
  clear SP1
  rintro r w5 ⟨rfl, hf5⟩
  have hzz : w.heap.size ≤ w1.heap.size ∧ w1.heap.size ≤ w2.heap.size := ⟨H1.out.2.2.1.size, H2.out.2.1.size⟩
  have H5 : Hid (BX N w0 w5 p dp ed q s3 ops (κ + 2) m A L D ∧ SpB w5 (.slice po d3.length pc) d3.length ∧ Fr (fun k => w.heap.size ≤ k ∧ ¬ Ak s3 k) w4 w5) := by
    have hf : Fr (fun k => w.heap.size ≤ k ∧ ¬ Ak s3 k) w4 w5 := hf5.mono fun k _ hk => ⟨(HB1.out k hk).1, (HB1.out k hk).2.2⟩
    refine ⟨H4.out.1.keep hf (fun k hk hS => ?_) (fun k hS => by have := HBS.out; omega), H4.out.2.2.2.1.fr hf5 (fun k hk hk2 => ?_), hf⟩
    · rcases hk with hk | hk
      · exact hS.2 hk
      · have := HLT.out k (.inr hk); omega
    · have h1 := (HB1.out k hk2).2.1
      have h2 := (HB3.out k hk).1
      omega
  clear hf5
  have SP2 := spoilX_any H5.out.2.1 (by have := HST.out; omega)
  go_wp2_with (first | (go_at_call 67; refine Hid.out ?_))
  change Calls _ _ _ _ _
  refine SP2.mono ?_
  clear SP2
  rintro r w6 ⟨rfl, hf6⟩
  have H6 : Hid (BX N w0 w6 p dp ed q s3 ops (κ + 2) m A L D ∧ Fr (Ak s) w w6) := by
    have hf : Fr (fun k => w.heap.size ≤ k ∧ ¬ Ak s3 k) w5 w6 := hf6.mono fun k _ hk => ⟨by have := (HB3.out k hk).1; omega, (HB3.out k hk).2⟩
    refine ⟨H5.out.1.keep hf (fun k hk hS => ?_) (fun k hS => by have := HBS.out; omega), ?_⟩
    · rcases hk with hk | hk
      · exact hS.2 hk
      · have := HLT.out k (.inr hk); omega
    · have f1 : Fr (Ak s) w w2 := H1.out.2.2.1.trans (Fr.of_below H2.out.2.1)
      have f2 : Fr (Ak s) w w3 := f1.and H3.out.2.2.1 fun i hi hA => (H1.out.2.2.2.1 i hA).resolve_right (by omega)
      have f3 : Fr (Ak s) w w4 := f2.trans (Fr.of_below H4.out.2.2.2.2.2.2.2)
      have f4 : Fr (Ak s) w w5 := f3.and H5.out.2.2 fun i hi hS => by have := hS.1; omega
      exact f4.and hf fun i hi hS => by have := hS.1; omega
  have HSUB : Hid (s3.cnt = s.cnt ∧ ∀ k, Ak s3 k → Ak s k ∨ w.heap.size ≤ k) := ⟨by rw [H3.out.2.1]; exact H1.out.2.1, fun k hk => by
    rcases H3.out.2.2.2.1 k hk with h1 | h1
    · exact H1.out.2.2.2.1 k h1
    · exact .inr (by omega)⟩
  clear hf6 H1 H2 H3 H4 H5 HB1 HB3 HST hzz
  go_upto_region 10 with fail
  have HX0 : Hid (BX N w0 w6.drew p dp ed q s3 ops (κ + 2) m A L D) := H6.out.1.up (Below.refl _ _).drew
  obtain ⟨_, lo, lc, hlo⟩ := xb_open HX0.out
  have HSL : Hid (∀ W, BX N w0 W p dp ed q s3 ops (κ + 2) m A L D → Below w6.heap.size w6 W → W.cell? ⟨q, 2, none⟩ = some (.slice lo L.length lc)) := fun W _ hW => (hW.cell (p := ⟨q, 2, none⟩) H6.out.1.rs.ql.2).trans hlo
  have HBD : Hid (Below w6.heap.size w6 w6.drew) := (Below.refl _ _).drew
  have HS0 : Hid (w6.drew.cell? ⟨q, 2, none⟩ = some (.slice lo L.length lc)) := hlo
  have RY := xb_ready HX0.out (by omega) b
  clear hlo
  refine wp_region_held_drew (S := (fun W => W.cell? ⟨q, 2, none⟩ = some (.slice lo L.length lc))) (by kernel_rfl) HS0.out (fun hH => ?_)
  refine takeH (i := 0) (dst := some 94) (v := ?v1) rfl rfl (by kernel_rfl) (by kernel_rfl) (by kernel_rfl) (fun _ _ _ h => h) rfl ?hy1 hH rfl ?rest1
  case hy1 => (intro W hW; (try dsimp only at hW); go_simp; try with_reducible rfl)
  (try simp only [Act.put, List.setIfInBounds_toArray, List.set_cons_zero, List.set_cons_succ])
  refine takeH (i := 1) (dst := some 95) (v := ?v2) rfl rfl (by kernel_rfl) (by kernel_rfl) (by kernel_rfl) (fun _ _ _ h => h) rfl ?hy2 hH rfl ?rest2
  case hy2 => (intro W hW; (try dsimp only at hW); go_simp; try with_reducible rfl)
  (try simp only [Act.put, List.setIfInBounds_toArray, List.set_cons_zero, List.set_cons_succ])
  refine takeH (i := 2) (dst := some 96) (v := ?v3) rfl rfl (by kernel_rfl) (by kernel_rfl) (by kernel_rfl) (fun _ _ _ h => h) rfl ?hy3 hH rfl ?rest3
  case hy3 => (intro W hW; (try dsimp only at hW); go_simp; try with_reducible rfl)
  (try simp only [Act.put, List.setIfInBounds_toArray, List.set_cons_zero, List.set_cons_succ])
  refine takeH (i := 3) (dst := some 97) (v := ?v4) rfl rfl (by kernel_rfl) (by kernel_rfl) (by kernel_rfl) (fun _ _ _ h => h) rfl ?hy4 hH rfl ?rest4
  case hy4 => (intro W hW; (try dsimp only at hW); go_simp; try with_reducible rfl)
  (try simp only [Act.put, List.setIfInBounds_toArray, List.set_cons_zero, List.set_cons_succ])
  refine takeH (i := 5) (dst := some 99) (v := ?v5) rfl rfl (by kernel_rfl) (by kernel_rfl) (by kernel_rfl) (fun _ _ _ h => h) rfl ?hy5 hH rfl ?rest5
  case hy5 => (intro W hW; (try dsimp only at hW); go_simp; try with_reducible rfl)
  (try simp only [Act.put, List.setIfInBounds_toArray, List.set_cons_zero, List.set_cons_succ])
  refine takeH (i := 6) (dst := some 100) (v := ?v6) rfl rfl (by kernel_rfl) (by kernel_rfl) (by kernel_rfl) (fun _ _ _ h => h) rfl ?hy6 hH rfl ?rest6
  case hy6 => (intro W hW; (try dsimp only at hW); go_simp; try with_reducible rfl)
  (try simp only [Act.put, List.setIfInBounds_toArray, List.set_cons_zero, List.set_cons_succ])
  refine callH (i := 4) { dst := some 98, op := Go.Op.call { callee := Go.Callee.value (Go.Operand.func 72), args := #[Go.Operand.tmp 96, Go.Operand.tmp 97], argTypes := #[30, 3] }, type := 3, pos := "law.go:74", after := #[{ on := 2, ground := Go.Ground.data }, { on := 3, ground := Go.Ground.data }, { on := 1, ground := Go.Ground.chain }, { on := 1, ground := Go.Ground.guard }], guard := some (1, true) } (by kernel_rfl) rfl rfl (fun K hK => ?_)
  go_simp
  refine RY.mono ?_
  clear RY
  rintro r wa ⟨kr, rfl, hba, RR⟩
  have HX00 : Hid (BX N w0 w6.drew p dp ed q s3 ops (κ + 2) m A L D ∧ Below w6.heap.size w6 w6.drew) := ⟨HX0.out, HBD.out⟩
  have HXA : Hid (BX N w0 wa p dp ed q s3 ops (κ + 2) m A L D ∧ Below w6.heap.size w6 wa) := ⟨HX00.out.1.up hba, HX00.out.2.trans (hba.mono HX00.out.2.size)⟩
  have SHXA : Hid (wa.cell? ⟨q, 2, none⟩ = some (.slice lo L.length lc)) := HSL.out _ HXA.out.1 HXA.out.2
  have RRa := RR wa (Below.refl _ _)
  clear hba RR
  clear hH
  refine hK.out _ _ SHXA.out (fun hH => ?_)
  clear hK K
  (try simp only [Act.put, List.setIfInBounds_toArray, List.set_cons_zero, List.set_cons_succ])
  refine callH (i := 7) { dst := some 101, op := Go.Op.call { callee := Go.Callee.value (Go.Operand.func 73), args := #[Go.Operand.tmp 99, Go.Operand.tmp 100], argTypes := #[34, 3] }, type := 3, pos := "law.go:74", after := #[{ on := 5, ground := Go.Ground.data }, { on := 6, ground := Go.Ground.data }, { on := 4, ground := Go.Ground.chain }, { on := 1, ground := Go.Ground.guard }], guard := some (1, true) } (by kernel_rfl) rfl rfl (fun K hK => ?_)
  go_simp
  refine RRa.mono ?_
  clear RRa
  rintro r wb ⟨rfl, hbb⟩
  have HXB : Hid (BX N w0 wb p dp ed q s3 ops (κ + 2) m A L D ∧ Below w6.heap.size w6 wb) := ⟨HXA.out.1.up hbb, HXA.out.2.trans (hbb.mono HXA.out.2.size)⟩
  have SHXB : Hid (wb.cell? ⟨q, 2, none⟩ = some (.slice lo L.length lc)) := HSL.out _ HXB.out.1 HXB.out.2
  obtain ⟨sb, PS, RSf⟩ := xb_safe HXB.out.1 id hid
  have RSb := RSf wb (Below.refl _ _)
  have PO := (xb_open HXB.out.1).1
  clear hbb RSf
  clear hH
  refine hK.out _ _ SHXB.out (fun hH => ?_)
  clear hK K
  (try simp only [Act.put, List.setIfInBounds_toArray, List.set_cons_zero, List.set_cons_succ])
  refine takeH (i := 8) (dst := some 102) (v := ?v7) rfl rfl (by kernel_rfl) (by kernel_rfl) (by kernel_rfl) (fun _ _ _ h => h) rfl ?hy7 hH rfl ?rest7
  case hy7 => (intro W hW; (try dsimp only at hW); go_simp; try with_reducible rfl)
  (try simp only [Act.put, List.setIfInBounds_toArray, List.set_cons_zero, List.set_cons_succ])
  refine takeH (i := 9) (dst := some 103) (v := ?v8) rfl rfl (by kernel_rfl) (by kernel_rfl) (by kernel_rfl) (fun _ _ _ h => h) rfl ?hy8 hH rfl ?rest8
  case hy8 => (intro W hW; (try dsimp only at hW); go_simp; try with_reducible rfl)
  (try simp only [Act.put, List.setIfInBounds_toArray, List.set_cons_zero, List.set_cons_succ])
  refine takeH (i := 10) (dst := some 104) (v := ?v9) rfl rfl (by kernel_rfl) (by kernel_rfl) (by kernel_rfl) (fun _ _ _ h => h) rfl ?hy9 hH rfl ?rest9
  case hy9 => (intro W hW; (try dsimp only at hW); go_simp; try with_reducible rfl)
  (try simp only [Act.put, List.setIfInBounds_toArray, List.set_cons_zero, List.set_cons_succ])
  refine takeH (i := 11) (dst := some 105) (v := ?v10) rfl rfl (by kernel_rfl) (by kernel_rfl) (by kernel_rfl) (fun _ _ _ h => h) rfl ?hy10 hH rfl ?rest10
  case hy10 => (intro W hW; (try dsimp only at hW); go_simp; try with_reducible rfl)
  (try simp only [Act.put, List.setIfInBounds_toArray, List.set_cons_zero, List.set_cons_succ])
  refine takeH (i := 12) (dst := some 106) (v := ?v11) rfl rfl (by kernel_rfl) (by kernel_rfl) (by kernel_rfl) (fun _ _ _ h => h) rfl ?hy11 hH rfl ?rest11
  case hy11 => (intro W hW; (try dsimp only at hW); go_simp; try with_reducible rfl)
  (try simp only [Act.put, List.setIfInBounds_toArray, List.set_cons_zero, List.set_cons_succ])
  refine takeH (i := 14) (dst := some 108) (v := ?v12) rfl rfl (by kernel_rfl) (by kernel_rfl) (by kernel_rfl) (fun _ _ _ h => h) rfl ?hy12 hH rfl ?rest12
  case hy12 => (intro W hW; (try dsimp only at hW); go_simp; try with_reducible rfl)
  (try simp only [Act.put, List.setIfInBounds_toArray, List.set_cons_zero, List.set_cons_succ])
  refine takeH (i := 15) (dst := some 109) (v := ?v13) rfl rfl (by kernel_rfl) (by kernel_rfl) (by kernel_rfl) (fun _ _ _ h => h) rfl ?hy13 hH rfl ?rest13
  case hy13 => (intro W hW; (try dsimp only at hW); go_simp; try with_reducible rfl)
  (try simp only [Act.put, List.setIfInBounds_toArray, List.set_cons_zero, List.set_cons_succ])
  refine callH (i := 13) { dst := some 107, op := Go.Op.call { callee := Go.Callee.value (Go.Operand.func 29), args := #[Go.Operand.tmp 105, Go.Operand.tmp 106], argTypes := #[30, 2] }, type := 4, pos := "law.go:74", after := #[{ on := 11, ground := Go.Ground.data }, { on := 12, ground := Go.Ground.data }, { on := 10, ground := Go.Ground.chain }, { on := 10, ground := Go.Ground.guard }], guard := some (10, true) } (by kernel_rfl) rfl rfl (fun K hK => ?_)
  go_simp
  refine PS.mono ?_
  clear PS
  rintro r wc ⟨rfl, hwc⟩
  obtain rfl : wb = wc := hwc.symm
  clear hH
  refine hK.out _ _ SHXB.out (fun hH => ?_)
  clear hK K
  (try simp only [Act.put, List.setIfInBounds_toArray, List.set_cons_zero, List.set_cons_succ])
  refine callH (i := 16) { dst := some 110, op := Go.Op.call { callee := Go.Callee.value (Go.Operand.func 74), args := #[Go.Operand.tmp 108, Go.Operand.tmp 109], argTypes := #[34, 2] }, type := 4, pos := "law.go:74", after := #[{ on := 14, ground := Go.Ground.data }, { on := 15, ground := Go.Ground.data }, { on := 13, ground := Go.Ground.chain }, { on := 10, ground := Go.Ground.guard }], guard := some (10, true) } (by kernel_rfl) rfl rfl (fun K hK => ?_)
  go_simp
  refine RSb.mono ?_
  clear RSb
  rintro r wc ⟨rfl, hwc⟩
  obtain rfl : wb = wc := hwc.symm
  clear hH
  refine hK.out _ _ SHXB.out (fun hH => ?_)
  clear hK K
  (try simp only [Act.put, List.setIfInBounds_toArray, List.set_cons_zero, List.set_cons_succ])
  refine takeH (i := 17) (dst := some 111) (v := ?v14) rfl rfl (by kernel_rfl) (by kernel_rfl) (by kernel_rfl) (fun _ _ _ h => h) rfl ?hy14 hH rfl ?rest14
  case hy14 => (intro W hW; (try dsimp only at hW); go_simp; try with_reducible rfl)
  (try simp only [Act.put, List.setIfInBounds_toArray, List.set_cons_zero, List.set_cons_succ])
  refine takeH (i := 18) (dst := some 112) (v := ?v15) rfl rfl (by kernel_rfl) (by kernel_rfl) (by kernel_rfl) (fun _ _ _ h => h) rfl ?hy15 hH rfl ?rest15
  case hy15 => (intro W hW; (try dsimp only at hW); go_simp; try with_reducible rfl)
  (try simp only [Act.put, List.setIfInBounds_toArray, List.set_cons_zero, List.set_cons_succ])
  refine takeH (i := 19) (dst := some 113) (v := ?v16) rfl rfl (by kernel_rfl) (by kernel_rfl) (by kernel_rfl) (fun _ _ _ h => h) rfl ?hy16 hH rfl ?rest16
  case hy16 => (intro W hW; (try dsimp only at hW); go_simp; try with_reducible rfl)
  (try simp only [Act.put, List.setIfInBounds_toArray, List.set_cons_zero, List.set_cons_succ])
  refine takeH (i := 20) (dst := some 114) (v := ?v17) rfl rfl (by kernel_rfl) (by kernel_rfl) (by kernel_rfl) (fun _ _ _ h => h) rfl ?hy17 hH rfl ?rest17
  case hy17 => (intro W hW; (try dsimp only at hW); go_simp; try with_reducible rfl)
  (try simp only [Act.put, List.setIfInBounds_toArray, List.set_cons_zero, List.set_cons_succ])
  refine takeH (i := 22) (dst := some 116) (v := ?v18) rfl rfl (by kernel_rfl) (by kernel_rfl) (by kernel_rfl) (fun _ _ _ h => h) rfl ?hy18 hH rfl ?rest18
  case hy18 => (intro W hW; (try dsimp only at hW); go_simp; try with_reducible rfl)
  (try simp only [Act.put, List.setIfInBounds_toArray, List.set_cons_zero, List.set_cons_succ])
  refine takeH (i := 23) (dst := some 117) (v := ?v19) rfl rfl (by kernel_rfl) (by kernel_rfl) (by kernel_rfl) (fun _ _ _ h => h) rfl ?hy19 hH rfl ?rest19
  case hy19 => (intro W hW; (try dsimp only at hW); go_simp; try with_reducible rfl)
  (try simp only [Act.put, List.setIfInBounds_toArray, List.set_cons_zero, List.set_cons_succ])
  refine takeH (i := 24) (dst := some 118) (v := ?v20) rfl rfl (by kernel_rfl) (by kernel_rfl) (by kernel_rfl) (fun _ _ _ h => h) rfl ?hy20 hH rfl ?rest20
  case hy20 => (intro W hW; (try dsimp only at hW); go_simp; try with_reducible rfl)
  (try simp only [Act.put, List.setIfInBounds_toArray, List.set_cons_zero, List.set_cons_succ])
  refine takeH (i := 25) (dst := some 119) (v := ?v21) rfl rfl (by kernel_rfl) (by kernel_rfl) (by kernel_rfl) (fun _ _ _ h => h) rfl ?hy21 hH rfl ?rest21
  case hy21 => (intro W hW; have kq2 := hW; clear hW; go_simp; try with_reducible rfl)
  (try simp only [Act.put, List.setIfInBounds_toArray, List.set_cons_zero, List.set_cons_succ])
  refine takeH (i := 26) (dst := some 120) (v := ?v22) rfl rfl (by kernel_rfl) (by kernel_rfl) (by kernel_rfl) (fun _ _ _ h => h) rfl ?hy22 hH rfl ?rest22
  case hy22 => (intro W hW; (try dsimp only at hW); go_simp; try with_reducible rfl)
  (try simp only [Act.put, List.setIfInBounds_toArray, List.set_cons_zero, List.set_cons_succ])
  refine callH (i := 21) { dst := some 115, op := Go.Op.call { callee := Go.Callee.value (Go.Operand.func 32), args := #[Go.Operand.tmp 114], argTypes := #[30] }, type := 3, pos := "law.go:74", after := #[{ on := 20, ground := Go.Ground.data }, { on := 19, ground := Go.Ground.chain }, { on := 19, ground := Go.Ground.guard }], guard := some (19, true) } (by kernel_rfl) rfl rfl (fun K hK => ?_)
  go_simp
  refine PO.mono ?_
  clear PO
  rintro r wc ⟨rfl, hwc⟩
  obtain rfl : wb = wc := hwc.symm
  have DY := xb_dirty HXB.out.1
  clear hH
  refine hK.out _ _ SHXB.out (fun hH => ?_)
  clear hK K
  (try simp only [Act.put, List.setIfInBounds_toArray, List.set_cons_zero, List.set_cons_succ])
  refine takeH (i := 27) (dst := some 121) (v := ?v23) rfl rfl (by kernel_rfl) (by kernel_rfl) (by kernel_rfl) (fun _ _ _ h => h) rfl ?hy23 hH rfl ?rest23
  case hy23 => (intro W hW; (try dsimp only at hW); go_simp; try with_reducible rfl)
  (try simp only [Act.put, List.setIfInBounds_toArray, List.set_cons_zero, List.set_cons_succ])
  refine takeH (i := 28) (dst := some 122) (v := ?v24) rfl rfl (by kernel_rfl) (by kernel_rfl) (by kernel_rfl) (fun _ _ _ h => h) rfl ?hy24 hH rfl ?rest24
  case hy24 => (intro W hW; (try dsimp only at hW); go_simp; try with_reducible rfl)
  (try simp only [Act.put, List.setIfInBounds_toArray, List.set_cons_zero, List.set_cons_succ])
  refine takeH (i := 29) (dst := some 123) (v := ?v25) rfl rfl (by kernel_rfl) (by kernel_rfl) (by kernel_rfl) (fun _ _ _ h => h) rfl ?hy25 hH rfl ?rest25
  case hy25 => (intro W hW; (try dsimp only at hW); go_simp; try with_reducible rfl)
  (try simp only [Act.put, List.setIfInBounds_toArray, List.set_cons_zero, List.set_cons_succ])
  refine takeH (i := 30) (dst := some 124) (v := ?v26) rfl rfl (by kernel_rfl) (by kernel_rfl) (by kernel_rfl) (fun _ _ _ h => h) rfl ?hy26 hH rfl ?rest26
  case hy26 => (intro W hW; (try dsimp only at hW); go_simp; try with_reducible rfl)
  (try simp only [Act.put, List.setIfInBounds_toArray, List.set_cons_zero, List.set_cons_succ])
  refine takeH (i := 32) (dst := some 126) (v := ?v27) rfl rfl (by kernel_rfl) (by kernel_rfl) (by kernel_rfl) (fun _ _ _ h => h) rfl ?hy27 hH rfl ?rest27
  case hy27 => (intro W hW; (try dsimp only at hW); go_simp; try with_reducible rfl)
  (try simp only [Act.put, List.setIfInBounds_toArray, List.set_cons_zero, List.set_cons_succ])
  refine callH (i := 31) { dst := some 125, op := Go.Op.call { callee := Go.Callee.value (Go.Operand.func 33), args := #[Go.Operand.tmp 124], argTypes := #[30] }, type := 49, pos := "law.go:74", after := #[{ on := 30, ground := Go.Ground.data }, { on := 29, ground := Go.Ground.chain }, { on := 29, ground := Go.Ground.guard }], guard := some (29, true) } (by kernel_rfl) rfl rfl (fun K hK => ?_)
  go_simp
  refine DY.mono ?_
  clear DY
  rintro r wc ⟨v, xs, rfl, hO, hl8, _, hbc, DY⟩
  obtain ⟨io, ic, rfl, hsi, _⟩ := hO.form
  have HIX : Hid (SrcI wc io xs ∧ xs.length ≤ 1000) := ⟨hsi, by omega⟩
  have HXC : Hid (BX N w0 wc p dp ed q s3 ops (κ + 2) m A L D ∧ Below w6.heap.size w6 wc) := ⟨HXB.out.1.up hbc, HXB.out.2.trans (hbc.mono HXB.out.2.size)⟩
  have SHXC : Hid (wc.cell? ⟨q, 2, none⟩ = some (.slice lo L.length lc)) := HSL.out _ HXC.out.1 HXC.out.2
  have DYc := DY wc (Below.refl _ _)
  clear hO hl8 hbc hsi DY
  clear hH
  refine hK.out _ _ SHXC.out (fun hH => ?_)
  clear hK K
  (try simp only [Act.put, List.setIfInBounds_toArray, List.set_cons_zero, List.set_cons_succ])
  refine callH (i := 33) { dst := some 127, op := Go.Op.call { callee := Go.Callee.value (Go.Operand.func 75), args := #[Go.Operand.tmp 126], argTypes := #[34] }, type := 49, pos := "law.go:74", after := #[{ on := 32, ground := Go.Ground.data }, { on := 31, ground := Go.Ground.chain }, { on := 29, ground := Go.Ground.guard }], guard := some (29, true) } (by kernel_rfl) rfl rfl (fun K hK => ?_)
  go_simp
  refine DYc.mono ?_
  clear DYc
  rintro r wd ⟨v, rfl, hO, hbd⟩
  obtain ⟨jo, jc, rfl, hsj, _⟩ := hO.form
  have IN := eqInts_any (HIX.out.1.below hbd (Nat.le_refl _)) hsj HIX.out.2 ic jc
  have HXD : Hid (BX N w0 wd p dp ed q s3 ops (κ + 2) m A L D ∧ Below w6.heap.size w6 wd) := ⟨HXC.out.1.up hbd, HXC.out.2.trans (hbd.mono HXC.out.2.size)⟩
  have SHXD : Hid (wd.cell? ⟨q, 2, none⟩ = some (.slice lo L.length lc)) := HSL.out _ HXD.out.1 HXD.out.2
  clear hO hsj hbd
  clear hH
  refine hK.out _ _ SHXD.out (fun hH => ?_)
  clear hK K
  (try simp only [Act.put, List.setIfInBounds_toArray, List.set_cons_zero, List.set_cons_succ])
  refine callH (i := 34) { dst := some 128, op := Go.Op.call { callee := Go.Callee.value (Go.Operand.func 19), args := #[Go.Operand.tmp 125, Go.Operand.tmp 127], argTypes := #[49, 49] }, type := 4, pos := "law.go:74", after := #[{ on := 31, ground := Go.Ground.data }, { on := 33, ground := Go.Ground.data }, { on := 33, ground := Go.Ground.chain }, { on := 29, ground := Go.Ground.guard }], guard := some (29, true) } (by kernel_rfl) rfl rfl (fun K hK => ?_)
  go_simp
  refine IN.mono ?_
  clear IN
  rintro r we ⟨rfl, hbe⟩
  have HXE : Hid (BX N w0 we p dp ed q s3 ops (κ + 2) m A L D ∧ Below w6.heap.size w6 we) := ⟨HXD.out.1.up hbe, HXD.out.2.trans (hbe.mono HXD.out.2.size)⟩
  have SHXE : Hid (we.cell? ⟨q, 2, none⟩ = some (.slice lo L.length lc)) := HSL.out _ HXE.out.1 HXE.out.2
  have WT := xb_waits HXE.out.1 (by omega) id hid
  clear hbe
  clear hH
  refine hK.out _ _ SHXE.out (fun hH => ?_)
  clear hK K
  (try simp only [Act.put, List.setIfInBounds_toArray, List.set_cons_zero, List.set_cons_succ])
  refine takeH (i := 35) (dst := some 129) (v := ?v28) rfl rfl (by kernel_rfl) (by kernel_rfl) (by kernel_rfl) (fun _ _ _ h => h) rfl ?hy28 hH rfl ?rest28
  case hy28 => (intro W hW; (try dsimp only at hW); go_simp; try with_reducible rfl)
  (try simp only [Act.put, List.setIfInBounds_toArray, List.set_cons_zero, List.set_cons_succ])
  refine takeH (i := 36) (dst := some 130) (v := ?v29) rfl rfl (by kernel_rfl) (by kernel_rfl) (by kernel_rfl) (fun _ _ _ h => h) rfl ?hy29 hH rfl ?rest29
  case hy29 => (intro W hW; (try dsimp only at hW); go_simp; try with_reducible rfl)
  (try simp only [Act.put, List.setIfInBounds_toArray, List.set_cons_zero, List.set_cons_succ])
  refine takeH (i := 37) (dst := some 131) (v := ?v30) rfl rfl (by kernel_rfl) (by kernel_rfl) (by kernel_rfl) (fun _ _ _ h => h) rfl ?hy30 hH rfl ?rest30
  case hy30 => (intro W hW; (try dsimp only at hW); go_simp; try with_reducible rfl)
  (try simp only [Act.put, List.setIfInBounds_toArray, List.set_cons_zero, List.set_cons_succ])
  refine takeH (i := 38) (dst := some 132) (v := ?v31) rfl rfl (by kernel_rfl) (by kernel_rfl) (by kernel_rfl) (fun _ _ _ h => h) rfl ?hy31 hH rfl ?rest31
  case hy31 => (intro W hW; (try dsimp only at hW); go_simp; try with_reducible rfl)
  (try simp only [Act.put, List.setIfInBounds_toArray, List.set_cons_zero, List.set_cons_succ])
  refine takeH (i := 40) (dst := some 134) (v := ?v32) rfl rfl (by kernel_rfl) (by kernel_rfl) (by kernel_rfl) (fun _ _ _ h => h) rfl ?hy32 hH rfl ?rest32
  case hy32 => (intro W hW; (try dsimp only at hW); go_simp; try with_reducible rfl)
  (try simp only [Act.put, List.setIfInBounds_toArray, List.set_cons_zero, List.set_cons_succ])
  refine takeH (i := 41) (dst := some 135) (v := ?v33) rfl rfl (by kernel_rfl) (by kernel_rfl) (by kernel_rfl) (fun _ _ _ h => h) rfl ?hy33 hH rfl ?rest33
  case hy33 => (intro W hW; (try dsimp only at hW); go_simp; try with_reducible rfl)
  (try simp only [Act.put, List.setIfInBounds_toArray, List.set_cons_zero, List.set_cons_succ])
  refine callH (i := 39) { dst := some 133, op := Go.Op.call { callee := Go.Callee.value (Go.Operand.func 45), args := #[Go.Operand.tmp 131, Go.Operand.tmp 132], argTypes := #[30, 2] }, type := 37, pos := "law.go:74", after := #[{ on := 37, ground := Go.Ground.data }, { on := 38, ground := Go.Ground.data }, { on := 36, ground := Go.Ground.chain }, { on := 36, ground := Go.Ground.guard }], guard := some (36, true) } (by kernel_rfl) rfl rfl (fun K hK => ?_)
  go_simp
  refine WT.mono ?_
  clear WT
  rintro r wf ⟨v, ys, rfl, hO, _, hl9, hbf, WT⟩
  obtain ⟨ko, kc, rfl, hsk, _⟩ := hO.form
  have HIY : Hid (SrcI wf ko ys ∧ ys.length ≤ 1000) := ⟨hsk, hl9⟩
  have HXF : Hid (BX N w0 wf p dp ed q s3 ops (κ + 2) m A L D ∧ Below w6.heap.size w6 wf) := ⟨HXE.out.1.up hbf, HXE.out.2.trans (hbf.mono HXE.out.2.size)⟩
  have SHXF : Hid (wf.cell? ⟨q, 2, none⟩ = some (.slice lo L.length lc)) := HSL.out _ HXF.out.1 HXF.out.2
  have WTf := WT wf (Below.refl _ _)
  clear hO hl9 hbf hsk WT
  clear hH
  refine hK.out _ _ SHXF.out (fun hH => ?_)
  clear hK K
  (try simp only [Act.put, List.setIfInBounds_toArray, List.set_cons_zero, List.set_cons_succ])
  refine callH (i := 42) { dst := some 136, op := Go.Op.call { callee := Go.Callee.value (Go.Operand.func 77), args := #[Go.Operand.tmp 134, Go.Operand.tmp 135], argTypes := #[34, 2] }, type := 37, pos := "law.go:74", after := #[{ on := 40, ground := Go.Ground.data }, { on := 41, ground := Go.Ground.data }, { on := 39, ground := Go.Ground.chain }, { on := 36, ground := Go.Ground.guard }], guard := some (36, true) } (by kernel_rfl) rfl rfl (fun K hK => ?_)
  go_simp
  refine WTf.mono ?_
  clear WTf
  rintro r wg ⟨v, rfl, hO, hbg⟩
  obtain ⟨mo, mc, rfl, hsm, _⟩ := hO.form
  have SM := eqLongs_any (HIY.out.1.below hbg (Nat.le_refl _)) hsm HIY.out.2 kc mc
  have HXG : Hid (BX N w0 wg p dp ed q s3 ops (κ + 2) m A L D ∧ Below w6.heap.size w6 wg) := ⟨HXF.out.1.up hbg, HXF.out.2.trans (hbg.mono HXF.out.2.size)⟩
  have SHXG : Hid (wg.cell? ⟨q, 2, none⟩ = some (.slice lo L.length lc)) := HSL.out _ HXG.out.1 HXG.out.2
  clear hO hsm hbg
  clear hH
  refine hK.out _ _ SHXG.out (fun hH => ?_)
  clear hK K
  (try simp only [Act.put, List.setIfInBounds_toArray, List.set_cons_zero, List.set_cons_succ])
  refine callH (i := 43) { dst := some 137, op := Go.Op.call { callee := Go.Callee.value (Go.Operand.func 76), args := #[Go.Operand.tmp 133, Go.Operand.tmp 136], argTypes := #[37, 37] }, type := 4, pos := "law.go:74", after := #[{ on := 39, ground := Go.Ground.data }, { on := 42, ground := Go.Ground.data }, { on := 42, ground := Go.Ground.chain }, { on := 36, ground := Go.Ground.guard }], guard := some (36, true) } (by kernel_rfl) rfl rfl (fun K hK => ?_)
  go_simp
  refine SM.mono ?_
  clear SM
  rintro r wh ⟨rfl, hbh⟩
  have HXH : Hid (BX N w0 wh p dp ed q s3 ops (κ + 2) m A L D ∧ Below w6.heap.size w6 wh) := ⟨HXG.out.1.up hbh, HXG.out.2.trans (hbh.mono HXG.out.2.size)⟩
  have SHXH : Hid (wh.cell? ⟨q, 2, none⟩ = some (.slice lo L.length lc)) := HSL.out _ HXH.out.1 HXH.out.2
  clear hbh
  clear hH
  refine hK.out _ _ SHXH.out (fun hH => ?_)
  clear hK K
  (try simp only [Act.put, List.setIfInBounds_toArray, List.set_cons_zero, List.set_cons_succ])
  refine takeH (i := 44) (dst := some 138) (v := ?v34) rfl rfl (by kernel_rfl) (by kernel_rfl) (by kernel_rfl) (fun _ _ _ h => h) rfl ?hy34 hH rfl ?rest34
  case hy34 => (intro W hW; (try dsimp only at hW); go_simp; try with_reducible rfl)
  (try simp only [Act.put, List.setIfInBounds_toArray, List.set_cons_zero, List.set_cons_succ])
  refine takeH (i := 45) (dst := some 8) (v := ?v35) rfl rfl (by kernel_rfl) (by kernel_rfl) (by kernel_rfl) (fun _ _ _ h => h) rfl ?hy35 hH rfl ?rest35
  case hy35 => (intro W hW; (try dsimp only at hW); go_simp; try with_reducible rfl)
  (try simp only [Act.put, List.setIfInBounds_toArray, List.set_cons_zero, List.set_cons_succ])
  refine wpAnyH_done (by kernel_rfl) ?_ _
  clear hH
  go_wp2_with fail
  go_ret
  refine ⟨rfl, ⟨s3, HXH.out.1, HSUB.out.1, ?_, HSUB.out.2⟩⟩
  exact H6.out.2.trans (Fr.of_below HXH.out.2)
end
end Go.Proofs.YthaogbbclocmaaaGreat
