/- leveelaw10.do, kind by kind. -/
import Derived.Test.YtikpnfnbmbaljaaKZdo0
namespace Go.Proofs.Ytikpnfnbmbaljaa
open Go.RowKit
set_option maxRecDepth 100000
section
variable {pd n : Nat} {w0 w : World} {p q ed : Nat} {σ : CSt} {κ : Nat} {D : Nat → Prop}
set_option maxHeartbeats 8000000 in
theorem cdo_0 (h : KX pd n w0 w p q ed σ κ D) (hκ : κ ≤ 900) (B : Int) (hB : -9223372036854775808 ≤ B ∧ B ≤ 9223372036854775807) (sp : Option Addr) (cap : Nat) (l : List UInt8) (ha : Arg w0 sp cap l) (hab : 1 ≤ l.length → ∀ b o, sp = some ⟨b, o, none⟩ → b < w0.heap.size) :
    Calls Try.prog 10 #[.pointer (some ⟨p, 0, none⟩), .pointer (some ⟨q, 0, none⟩), .agg #[.int .i64 0, .int .i64 B, .slice sp l.length cap]] w fun e w' => e = .returned (.bool true) ∧ DoP pd n w0 p q ed (κ + 1) w' := by
  have HK : Hid (KX pd n w0 w p q ed σ κ D ∧ κ ≤ 1000 ∧ (-9223372036854775808 ≤ B ∧ B ≤ 9223372036854775807)) := ⟨h, by omega, hB⟩
  have HA : Hid (Arg w0 sp cap l ∧ (1 ≤ l.length → ∀ b o, sp = some ⟨b, o, none⟩ → b < w0.heap.size)) := ⟨ha, hab⟩
  have hle := ha.len
  have HB1 : Hid (Below w.heap.size w (w.alloc (.cells #[.int .i64 0, .int .i64 B, .slice sp l.length cap] 41))) := (Below.refl _ _).alloc (Nat.le_refl _) _
  have hrow := heap_alloc_new w (.cells #[.int .i64 0, .int .i64 B, .slice sp l.length cap] 41)
  have hz1 := size_alloc w (.cells #[.int .i64 0, .int .i64 B, .slice sp l.length cap] 41)
  clear h ha hab hB hκ
  go_enter Try.func10, Try.ntmps10
  go_upto_region 1 with fail
  generalize w.alloc (.cells #[.int .i64 0, .int .i64 B, .slice sp l.length cap] 41) = W1 at *
  have HZ1 : Hid (W1.heap.size = w.heap.size + 1) := hz1
  have HBX : Hid (∀ W, Below W1.heap.size W1 W → W.cell? ⟨w.heap.size, 0, none⟩ = some (.int .i64 0) ∧ W.cell? ⟨w.heap.size, 1, none⟩ = some (.int .i64 B) ∧ W.cell? ⟨w.heap.size, 2, none⟩ = some (.slice sp l.length cap)) := fun W hW => by
    have hr := (hW.block w.heap.size (by omega)).trans hrow
    exact ⟨(cell_of_row _ _ _ _ _ _ hr).trans rfl, (cell_of_row _ _ _ _ _ _ hr).trans rfl, (cell_of_row _ _ _ _ _ _ hr).trans rfl⟩
  obtain ⟨b0, b1, b2⟩ := HBX.out W1 (Below.refl _ _)
  have FA := fill_any W1 sp cap l ((HA.out.1.src.below HK.out.1.be (Nat.le_refl _)).below HB1.out (by have := HK.out.1.be.size; omega)) (by omega)
  clear hrow hz1
  go_wp2_with (first | (go_at_call 20; refine Hid.out ?_))
  change Calls _ _ _ _ _
  refine FA.mono ?_
  clear FA b0 b1 b2
  rintro r w2 ⟨gf, rfl, hBf, hgf, hb2⟩
  obtain ⟨b0, b1, b2⟩ := HBX.out w2 hb2
  have HF : Hid (Blk w2 gf 5 (fillL l) ∧ W1.heap.size ≤ gf ∧ Below W1.heap.size W1 w2) := ⟨hBf, hgf, hb2⟩
  obtain ⟨dl, hdl⟩ : ∃ dl, fillL l = dl := ⟨_, rfl⟩
  have hdn : dl.length = 256 := by rw [← hdl]; exact fillL_length _
  rw [hdl] at hBf
  have hA2 : Arg w2 (some ⟨gf, 0, none⟩) 256 dl := .inr ⟨gf, 0, rfl, by omega, by omega, by omega, by omega, hBf.src⟩
  have LE := lent_any (some ⟨gf, 0, none⟩) 256 dl w2 hA2
  rw [hdn] at LE
  have HDL : Hid (Arg w2 (some ⟨gf, 0, none⟩) 256 dl) := hA2
  have HDN : Hid (dl.length = 256) := hdn
  clear hBf hgf hb2 hA2 hdl hdn
  go_wp2_with (first | (go_at_call 23; refine Hid.out ?_))
  change Calls _ _ _ _ _
  refine LE.mono ?_
  clear LE b0 b1 b2
  rintro r w3 ⟨go, rfl, hBo, hgo, hb3⟩
  have hb13 : Below W1.heap.size W1 w3 := HF.out.2.2.trans (hb3.mono HF.out.2.2.size)
  have HG : Hid (Giv pd n w0 w3 p q ed σ κ D go (some ⟨gf, 0, none⟩) 256 dl) := by
    have hbw : Below w.heap.size w w3 := HB1.out.trans (hb13.mono HB1.out.size)
    have hz := HZ1.out
    have hz2 := HF.out.2.2.size
    have hzb := HK.out.1.be.size
    have hgl : go < w3.heap.size := (Array.getElem?_eq_some_iff.1 hBo).1
    refine ⟨HK.out.1.up hbw, hBo, HDL.out.below hb3 (Nat.le_refl _), ⟨fun hs => ?_, fun hs => ?_, by omega, hgl⟩, fun hl b o e => ?_⟩
    · have := HK.out.1.cs.sk_size hs; omega
    · have := (HK.out.1.no go hs).2.2; omega
    · cases e
      have hgz := HF.out.2.1
      have hgfl : gf < w2.heap.size := (Array.getElem?_eq_some_iff.1 HF.out.1).1
      have hb3s := hb3.size
      refine ⟨fun hs => ?_, fun hs => ?_, by show gf < w3.heap.size; omega, by show gf ≠ go; omega⟩
      · have h5 : gf < w.heap.size := HK.out.1.cs.sk_size hs; omega
      · have h5 : gf < w.heap.size := (HK.out.1.no gf hs).2.2; omega
  have HNB : Hid (¬ Sk σ w.heap.size ∧ ¬ D w.heap.size ∧ w.heap.size < w3.heap.size) := ⟨fun hs => by have := HK.out.1.cs.sk_size hs; omega, fun hs => by have := (HK.out.1.no _ hs).2.2; omega, by have := HZ1.out; have := hb13.size; omega⟩
  obtain ⟨b0, b1, b2⟩ := HBX.out w3 hb13
  have HC1 : Hid (w3.cell? ⟨w.heap.size, 1, none⟩ = some (.int .i64 B)) := b1
  clear hBo hgo hb3 hb13 HDL HF
  have RY := kx_read HG.out.kx HK.out.2.1 B
  go_wp2_with (first | (go_at_call 18; refine Hid.out ?_))
  change Calls _ _ _ _ _
  refine RY.mono ?_
  clear RY b0 b1 b2
  rintro r w4 ⟨v, d, er, rfl, hO, hd4, hf4, DY⟩
  obtain ⟨ao4, ca4, rfl, hs4, _⟩ := hO.form
  have b1 : w4.cell? ⟨w.heap.size, 1, none⟩ = some (.int .i64 B) := (fr_cell hf4 (a := ⟨w.heap.size, 1, none⟩) HNB.out.2.2 HNB.out.1).trans HC1.out
  have HD4 : Hid (d.length ≤ 256) := hd4
  clear hO hf4 hs4 hd4
  go_wp2_with (first | (go_at_call 24; refine Hid.out ?_))
  change Calls _ _ _ _ _
  refine DY.mono ?_
  clear DY b1
  rintro r w5 ⟨xo, xc, rfl, hsx, hO5, hP⟩
  obtain ⟨_, _, e5, hs5, _⟩ := hO5.form
  cases e5
  have CV1 := conv_str hs5 d.length ca4 rfl
  have CV2 := conv_str hsx d.length xc rfl
  have SP := spoilX_any (SpB.of_own hO5) (by have := HD4.out; omega)
  have HP : Hid (KPR pd n w0 p q ed σ (κ + 1) D w3 w5 (.slice ao4 d.length ca4) ∧ ∀ k, (Value.slice ao4 d.length ca4).ownBlock = some k → w3.heap.size ≤ k) := ⟨hP, fun k hk => (Own.lt hO5 k hk).1⟩
  clear hsx hO5 hs5 hP
  generalize str d = S1 at *
  go_wp2_with (first | (go_at_call 25; refine Hid.out ?_))
  change Calls _ _ _ _ _
  refine SP.mono ?_
  clear SP CV1 CV2
  rintro r w6 ⟨rfl, hf6⟩
  obtain ⟨⟨⟨σ5, D5, hX5, hsub5, hno5⟩, hf5⟩, hge⟩ := HP.out
  have h5 := (HG.out.next hX5 hsub5 hf5).keep hf6 (fun k hk hS => hk.elim (hno5 k hS).1 (hno5 k hS).2) (fun k hS => by have := hge k hS; have := HG.out.kx.be.size; omega) (fun hS => by have := hge _ hS; have := HG.out.no.2.2.2; omega) (fun b o e hl hS => by have := hge _ hS; have := (HG.out.nd hl b o e).2.2.1; omega)
  clear hf6 hX5 hsub5 hno5 hf5 hge
  have KT := h5.kept
  rw [HDN.out] at KT
  clear h5
  go_wp2_with (first | (go_at_call 36; refine Hid.out ?_))
  change Calls _ _ _ _ _
  refine KT.mono ?_
  clear KT
  rintro r w6 ⟨rfl, SPK⟩
  go_wp2_with (first | (go_at_call 25; refine Hid.out ?_))
  change Calls _ _ _ _ _
  refine SPK.mono ?_
  clear SPK
  rintro r w7 ⟨rfl, hE⟩
  have HE : Hid (DoP pd n w0 p q ed (κ + 1) w7) := hE
  clear hE
  go_wp2_with fail
  go_ret
  exact ⟨rfl, HE.out⟩
set_option maxHeartbeats 8000000 in
theorem cdo_1 (h : KX pd n w0 w p q ed σ κ D) (hκ : κ ≤ 900) (B : Int) (hB : -9223372036854775808 ≤ B ∧ B ≤ 9223372036854775807) (sp : Option Addr) (cap : Nat) (l : List UInt8) (ha : Arg w0 sp cap l) (hab : 1 ≤ l.length → ∀ b o, sp = some ⟨b, o, none⟩ → b < w0.heap.size) :
    Calls Try.prog 10 #[.pointer (some ⟨p, 0, none⟩), .pointer (some ⟨q, 0, none⟩), .agg #[.int .i64 1, .int .i64 B, .slice sp l.length cap]] w fun e w' => e = .returned (.bool true) ∧ DoP pd n w0 p q ed (κ + 1) w' := by
  have HK : Hid (KX pd n w0 w p q ed σ κ D ∧ κ ≤ 1000 ∧ (-9223372036854775808 ≤ B ∧ B ≤ 9223372036854775807)) := ⟨h, by omega, hB⟩
  have HA : Hid (Arg w0 sp cap l ∧ (1 ≤ l.length → ∀ b o, sp = some ⟨b, o, none⟩ → b < w0.heap.size)) := ⟨ha, hab⟩
  have hle := ha.len
  have HB1 : Hid (Below w.heap.size w (w.alloc (.cells #[.int .i64 1, .int .i64 B, .slice sp l.length cap] 41))) := (Below.refl _ _).alloc (Nat.le_refl _) _
  have hrow := heap_alloc_new w (.cells #[.int .i64 1, .int .i64 B, .slice sp l.length cap] 41)
  have hz1 := size_alloc w (.cells #[.int .i64 1, .int .i64 B, .slice sp l.length cap] 41)
  clear h ha hab hB hκ
  go_enter Try.func10, Try.ntmps10
  go_upto_region 1 with fail
  generalize w.alloc (.cells #[.int .i64 1, .int .i64 B, .slice sp l.length cap] 41) = W1 at *
  have HZ1 : Hid (W1.heap.size = w.heap.size + 1) := hz1
  have HBX : Hid (∀ W, Below W1.heap.size W1 W → W.cell? ⟨w.heap.size, 0, none⟩ = some (.int .i64 1) ∧ W.cell? ⟨w.heap.size, 1, none⟩ = some (.int .i64 B) ∧ W.cell? ⟨w.heap.size, 2, none⟩ = some (.slice sp l.length cap)) := fun W hW => by
    have hr := (hW.block w.heap.size (by omega)).trans hrow
    exact ⟨(cell_of_row _ _ _ _ _ _ hr).trans rfl, (cell_of_row _ _ _ _ _ _ hr).trans rfl, (cell_of_row _ _ _ _ _ _ hr).trans rfl⟩
  obtain ⟨b0, b1, b2⟩ := HBX.out W1 (Below.refl _ _)
  have FA := fill_any W1 sp cap l ((HA.out.1.src.below HK.out.1.be (Nat.le_refl _)).below HB1.out (by have := HK.out.1.be.size; omega)) (by omega)
  clear hrow hz1
  go_wp2_with (first | (go_at_call 20; refine Hid.out ?_))
  change Calls _ _ _ _ _
  refine FA.mono ?_
  clear FA b0 b1 b2
  rintro r w2 ⟨gf, rfl, hBf, hgf, hb2⟩
  obtain ⟨b0, b1, b2⟩ := HBX.out w2 hb2
  have HF : Hid (Blk w2 gf 5 (fillL l) ∧ W1.heap.size ≤ gf ∧ Below W1.heap.size W1 w2) := ⟨hBf, hgf, hb2⟩
  obtain ⟨dl, hdl⟩ : ∃ dl, fillL l = dl := ⟨_, rfl⟩
  have hdn : dl.length = 256 := by rw [← hdl]; exact fillL_length _
  rw [hdl] at hBf
  have hA2 : Arg w2 (some ⟨gf, 0, none⟩) 256 dl := .inr ⟨gf, 0, rfl, by omega, by omega, by omega, by omega, hBf.src⟩
  have LE := lent_any (some ⟨gf, 0, none⟩) 256 dl w2 hA2
  rw [hdn] at LE
  have HDL : Hid (Arg w2 (some ⟨gf, 0, none⟩) 256 dl) := hA2
  have HDN : Hid (dl.length = 256) := hdn
  clear hBf hgf hb2 hA2 hdl hdn
  go_wp2_with (first | (go_at_call 23; refine Hid.out ?_))
  change Calls _ _ _ _ _
  refine LE.mono ?_
  clear LE b0 b1 b2
  rintro r w3 ⟨go, rfl, hBo, hgo, hb3⟩
  have hb13 : Below W1.heap.size W1 w3 := HF.out.2.2.trans (hb3.mono HF.out.2.2.size)
  have HG : Hid (Giv pd n w0 w3 p q ed σ κ D go (some ⟨gf, 0, none⟩) 256 dl) := by
    have hbw : Below w.heap.size w w3 := HB1.out.trans (hb13.mono HB1.out.size)
    have hz := HZ1.out
    have hz2 := HF.out.2.2.size
    have hzb := HK.out.1.be.size
    have hgl : go < w3.heap.size := (Array.getElem?_eq_some_iff.1 hBo).1
    refine ⟨HK.out.1.up hbw, hBo, HDL.out.below hb3 (Nat.le_refl _), ⟨fun hs => ?_, fun hs => ?_, by omega, hgl⟩, fun hl b o e => ?_⟩
    · have := HK.out.1.cs.sk_size hs; omega
    · have := (HK.out.1.no go hs).2.2; omega
    · cases e
      have hgz := HF.out.2.1
      have hgfl : gf < w2.heap.size := (Array.getElem?_eq_some_iff.1 HF.out.1).1
      have hb3s := hb3.size
      refine ⟨fun hs => ?_, fun hs => ?_, by show gf < w3.heap.size; omega, by show gf ≠ go; omega⟩
      · have h5 : gf < w.heap.size := HK.out.1.cs.sk_size hs; omega
      · have h5 : gf < w.heap.size := (HK.out.1.no gf hs).2.2; omega
  have HNB : Hid (¬ Sk σ w.heap.size ∧ ¬ D w.heap.size ∧ w.heap.size < w3.heap.size) := ⟨fun hs => by have := HK.out.1.cs.sk_size hs; omega, fun hs => by have := (HK.out.1.no _ hs).2.2; omega, by have := HZ1.out; have := hb13.size; omega⟩
  obtain ⟨b0, b1, b2⟩ := HBX.out w3 hb13
  have HC1 : Hid (w3.cell? ⟨w.heap.size, 1, none⟩ = some (.int .i64 B)) := b1
  clear hBo hgo hb3 hb13 HDL HF
  have RY := kx_read HG.out.kx HK.out.2.1 B
  go_wp2_with (first | (go_at_call 18; refine Hid.out ?_))
  change Calls _ _ _ _ _
  refine RY.mono ?_
  clear RY b0 b1 b2
  rintro r w4 ⟨v, d, er, rfl, hO, hd4, hf4, DY⟩
  obtain ⟨ao4, ca4, rfl, hs4, _⟩ := hO.form
  have b1 : w4.cell? ⟨w.heap.size, 1, none⟩ = some (.int .i64 B) := (fr_cell hf4 (a := ⟨w.heap.size, 1, none⟩) HNB.out.2.2 HNB.out.1).trans HC1.out
  have HD4 : Hid (d.length ≤ 256) := hd4
  clear hO hf4 hs4 hd4
  go_wp2_with (first | (go_at_call 24; refine Hid.out ?_))
  change Calls _ _ _ _ _
  refine DY.mono ?_
  clear DY b1
  rintro r w5 ⟨xo, xc, rfl, hsx, hO5, hP⟩
  obtain ⟨_, _, e5, hs5, _⟩ := hO5.form
  cases e5
  have CV1 := conv_str hs5 d.length ca4 rfl
  have CV2 := conv_str hsx d.length xc rfl
  have SP := spoilX_any (SpB.of_own hO5) (by have := HD4.out; omega)
  have HP : Hid (KPR pd n w0 p q ed σ (κ + 1) D w3 w5 (.slice ao4 d.length ca4) ∧ ∀ k, (Value.slice ao4 d.length ca4).ownBlock = some k → w3.heap.size ≤ k) := ⟨hP, fun k hk => (Own.lt hO5 k hk).1⟩
  clear hsx hO5 hs5 hP
  generalize str d = S1 at *
  go_wp2_with (first | (go_at_call 25; refine Hid.out ?_))
  change Calls _ _ _ _ _
  refine SP.mono ?_
  clear SP CV1 CV2
  rintro r w6 ⟨rfl, hf6⟩
  obtain ⟨⟨⟨σ5, D5, hX5, hsub5, hno5⟩, hf5⟩, hge⟩ := HP.out
  have h5 := (HG.out.next hX5 hsub5 hf5).keep hf6 (fun k hk hS => hk.elim (hno5 k hS).1 (hno5 k hS).2) (fun k hS => by have := hge k hS; have := HG.out.kx.be.size; omega) (fun hS => by have := hge _ hS; have := HG.out.no.2.2.2; omega) (fun b o e hl hS => by have := hge _ hS; have := (HG.out.nd hl b o e).2.2.1; omega)
  clear hf6 hX5 hsub5 hno5 hf5 hge
  have KT := h5.kept
  rw [HDN.out] at KT
  clear h5
  go_wp2_with (first | (go_at_call 36; refine Hid.out ?_))
  change Calls _ _ _ _ _
  refine KT.mono ?_
  clear KT
  rintro r w6 ⟨rfl, SPK⟩
  go_wp2_with (first | (go_at_call 25; refine Hid.out ?_))
  change Calls _ _ _ _ _
  refine SPK.mono ?_
  clear SPK
  rintro r w7 ⟨rfl, hE⟩
  have HE : Hid (DoP pd n w0 p q ed (κ + 1) w7) := hE
  clear hE
  go_wp2_with fail
  go_ret
  exact ⟨rfl, HE.out⟩
set_option maxHeartbeats 8000000 in
theorem cdo_2 (h : KX pd n w0 w p q ed σ κ D) (hκ : κ ≤ 900) (B : Int) (hB : -9223372036854775808 ≤ B ∧ B ≤ 9223372036854775807) (sp : Option Addr) (cap : Nat) (l : List UInt8) (ha : Arg w0 sp cap l) (hab : 1 ≤ l.length → ∀ b o, sp = some ⟨b, o, none⟩ → b < w0.heap.size) :
    Calls Try.prog 10 #[.pointer (some ⟨p, 0, none⟩), .pointer (some ⟨q, 0, none⟩), .agg #[.int .i64 2, .int .i64 B, .slice sp l.length cap]] w fun e w' => e = .returned (.bool true) ∧ DoP pd n w0 p q ed (κ + 1) w' := by
  have HK : Hid (KX pd n w0 w p q ed σ κ D ∧ κ ≤ 1000 ∧ (-9223372036854775808 ≤ B ∧ B ≤ 9223372036854775807)) := ⟨h, by omega, hB⟩
  have HA : Hid (Arg w0 sp cap l ∧ (1 ≤ l.length → ∀ b o, sp = some ⟨b, o, none⟩ → b < w0.heap.size)) := ⟨ha, hab⟩
  have hle := ha.len
  have HB1 : Hid (Below w.heap.size w (w.alloc (.cells #[.int .i64 2, .int .i64 B, .slice sp l.length cap] 41))) := (Below.refl _ _).alloc (Nat.le_refl _) _
  have hrow := heap_alloc_new w (.cells #[.int .i64 2, .int .i64 B, .slice sp l.length cap] 41)
  have hz1 := size_alloc w (.cells #[.int .i64 2, .int .i64 B, .slice sp l.length cap] 41)
  clear h ha hab hB hκ
  go_enter Try.func10, Try.ntmps10
  go_upto_region 1 with fail
  generalize w.alloc (.cells #[.int .i64 2, .int .i64 B, .slice sp l.length cap] 41) = W1 at *
  have HZ1 : Hid (W1.heap.size = w.heap.size + 1) := hz1
  have HBX : Hid (∀ W, Below W1.heap.size W1 W → W.cell? ⟨w.heap.size, 0, none⟩ = some (.int .i64 2) ∧ W.cell? ⟨w.heap.size, 1, none⟩ = some (.int .i64 B) ∧ W.cell? ⟨w.heap.size, 2, none⟩ = some (.slice sp l.length cap)) := fun W hW => by
    have hr := (hW.block w.heap.size (by omega)).trans hrow
    exact ⟨(cell_of_row _ _ _ _ _ _ hr).trans rfl, (cell_of_row _ _ _ _ _ _ hr).trans rfl, (cell_of_row _ _ _ _ _ _ hr).trans rfl⟩
  obtain ⟨b0, b1, b2⟩ := HBX.out W1 (Below.refl _ _)
  have FA := fill_any W1 sp cap l ((HA.out.1.src.below HK.out.1.be (Nat.le_refl _)).below HB1.out (by have := HK.out.1.be.size; omega)) (by omega)
  clear hrow hz1
  go_wp2_with (first | (go_at_call 20; refine Hid.out ?_))
  change Calls _ _ _ _ _
  refine FA.mono ?_
  clear FA b0 b1 b2
  rintro r w2 ⟨gf, rfl, hBf, hgf, hb2⟩
  obtain ⟨b0, b1, b2⟩ := HBX.out w2 hb2
  have HF : Hid (Blk w2 gf 5 (fillL l) ∧ W1.heap.size ≤ gf ∧ Below W1.heap.size W1 w2) := ⟨hBf, hgf, hb2⟩
  obtain ⟨dl, hdl⟩ : ∃ dl, fillL l = dl := ⟨_, rfl⟩
  have hdn : dl.length = 256 := by rw [← hdl]; exact fillL_length _
  rw [hdl] at hBf
  have hA2 : Arg w2 (some ⟨gf, 0, none⟩) 256 dl := .inr ⟨gf, 0, rfl, by omega, by omega, by omega, by omega, hBf.src⟩
  have LE := lent_any (some ⟨gf, 0, none⟩) 256 dl w2 hA2
  rw [hdn] at LE
  have HDL : Hid (Arg w2 (some ⟨gf, 0, none⟩) 256 dl) := hA2
  have HDN : Hid (dl.length = 256) := hdn
  clear hBf hgf hb2 hA2 hdl hdn
  go_wp2_with (first | (go_at_call 23; refine Hid.out ?_))
  change Calls _ _ _ _ _
  refine LE.mono ?_
  clear LE b0 b1 b2
  rintro r w3 ⟨go, rfl, hBo, hgo, hb3⟩
  have hb13 : Below W1.heap.size W1 w3 := HF.out.2.2.trans (hb3.mono HF.out.2.2.size)
  have HG : Hid (Giv pd n w0 w3 p q ed σ κ D go (some ⟨gf, 0, none⟩) 256 dl) := by
    have hbw : Below w.heap.size w w3 := HB1.out.trans (hb13.mono HB1.out.size)
    have hz := HZ1.out
    have hz2 := HF.out.2.2.size
    have hzb := HK.out.1.be.size
    have hgl : go < w3.heap.size := (Array.getElem?_eq_some_iff.1 hBo).1
    refine ⟨HK.out.1.up hbw, hBo, HDL.out.below hb3 (Nat.le_refl _), ⟨fun hs => ?_, fun hs => ?_, by omega, hgl⟩, fun hl b o e => ?_⟩
    · have := HK.out.1.cs.sk_size hs; omega
    · have := (HK.out.1.no go hs).2.2; omega
    · cases e
      have hgz := HF.out.2.1
      have hgfl : gf < w2.heap.size := (Array.getElem?_eq_some_iff.1 HF.out.1).1
      have hb3s := hb3.size
      refine ⟨fun hs => ?_, fun hs => ?_, by show gf < w3.heap.size; omega, by show gf ≠ go; omega⟩
      · have h5 : gf < w.heap.size := HK.out.1.cs.sk_size hs; omega
      · have h5 : gf < w.heap.size := (HK.out.1.no gf hs).2.2; omega
  have HNB : Hid (¬ Sk σ w.heap.size ∧ ¬ D w.heap.size ∧ w.heap.size < w3.heap.size) := ⟨fun hs => by have := HK.out.1.cs.sk_size hs; omega, fun hs => by have := (HK.out.1.no _ hs).2.2; omega, by have := HZ1.out; have := hb13.size; omega⟩
  obtain ⟨b0, b1, b2⟩ := HBX.out w3 hb13
  have HC1 : Hid (w3.cell? ⟨w.heap.size, 1, none⟩ = some (.int .i64 B)) := b1
  clear hBo hgo hb3 hb13 HDL HF
  go_upto_region 16 with fail
  have HGD : Hid (Giv pd n w0 w3.drew p q ed σ κ D go (some ⟨gf, 0, none⟩) 256 dl) := HG.out.up (Below.refl _ _).drew
  have S0 : Hid (w3.drew.cell? ⟨w.heap.size, 1, none⟩ = some (.int .i64 B)) := b1
  have LY := kx_lay HGD.out.kx HK.out.2.1 B dl go (dl.length + 8) (some ⟨gf, 0, none⟩) 256 HGD.out.ext1 HGD.out.ext2
  rw [HDN.out] at LY
  clear b0 b1 b2
  refine wp_region_held_drew (S := (fun W => W.cell? ⟨w.heap.size, 1, none⟩ = some (.int .i64 B))) (by kernel_rfl) S0.out (fun hH => ?_)
  refine takeH (i := 0) (dst := some 59) (v := ?v1) rfl rfl (by kernel_rfl) (by kernel_rfl) (by kernel_rfl) (fun _ _ _ h => h) rfl ?hy1 hH rfl ?rest1
  case hy1 => (intro W hW; (try dsimp only at hW); go_simp; try with_reducible rfl)
  (try simp only [Act.put, List.setIfInBounds_toArray, List.set_cons_zero, List.set_cons_succ])
  refine takeH (i := 1) (dst := some 60) (v := ?v2) rfl rfl (by kernel_rfl) (by kernel_rfl) (by kernel_rfl) (fun _ _ _ h => h) rfl ?hy2 hH rfl ?rest2
  case hy2 => (intro W hW; (try dsimp only at hW); go_simp; try with_reducible rfl)
  (try simp only [Act.put, List.setIfInBounds_toArray, List.set_cons_zero, List.set_cons_succ])
  refine takeH (i := 2) (dst := some 61) (v := ?v3) rfl rfl (by kernel_rfl) (by kernel_rfl) (by kernel_rfl) (fun _ _ _ h => h) rfl ?hy3 hH rfl ?rest3
  case hy3 => (intro W hW; have e1 := hW; clear hW; go_simp; try with_reducible rfl)
  (try simp only [Act.put, List.setIfInBounds_toArray, List.set_cons_zero, List.set_cons_succ])
  refine takeH (i := 3) (dst := some 62) (v := ?v4) rfl rfl (by kernel_rfl) (by kernel_rfl) (by kernel_rfl) (fun _ _ _ h => h) rfl ?hy4 hH rfl ?rest4
  case hy4 => (intro W hW; (try dsimp only at hW); go_simp; try with_reducible rfl)
  (try simp only [Act.put, List.setIfInBounds_toArray, List.set_cons_zero, List.set_cons_succ])
  refine takeH (i := 5) (dst := some 64) (v := ?v5) rfl rfl (by kernel_rfl) (by kernel_rfl) (by kernel_rfl) (fun _ _ _ h => h) rfl ?hy5 hH rfl ?rest5
  case hy5 => (intro W hW; (try dsimp only at hW); go_simp; try with_reducible rfl)
  (try simp only [Act.put, List.setIfInBounds_toArray, List.set_cons_zero, List.set_cons_succ])
  refine takeH (i := 6) (dst := some 65) (v := ?v6) rfl rfl (by kernel_rfl) (by kernel_rfl) (by kernel_rfl) (fun _ _ _ h => h) rfl ?hy6 hH rfl ?rest6
  case hy6 => (intro W hW; (try dsimp only at hW); go_simp; try with_reducible rfl)
  (try simp only [Act.put, List.setIfInBounds_toArray, List.set_cons_zero, List.set_cons_succ])
  refine takeH (i := 7) (dst := some 66) (v := ?v7) rfl rfl (by kernel_rfl) (by kernel_rfl) (by kernel_rfl) (fun _ _ _ h => h) rfl ?hy7 hH rfl ?rest7
  case hy7 => (intro W hW; have e1 := hW; clear hW; go_simp; try with_reducible rfl)
  (try simp only [Act.put, List.setIfInBounds_toArray, List.set_cons_zero, List.set_cons_succ])
  refine takeH (i := 8) (dst := some 67) (v := ?v8) rfl rfl (by kernel_rfl) (by kernel_rfl) (by kernel_rfl) (fun _ _ _ h => h) rfl ?hy8 hH rfl ?rest8
  case hy8 => (intro W hW; (try dsimp only at hW); go_simp; try with_reducible rfl)
  (try simp only [Act.put, List.setIfInBounds_toArray, List.set_cons_zero, List.set_cons_succ])
  refine callH (i := 4) { dst := some 63, op := Go.Op.call { callee := Go.Callee.value (Go.Operand.func 19), args := #[Go.Operand.tmp 59, Go.Operand.tmp 61, Go.Operand.tmp 62], argTypes := #[31, 3, 39] }, type := 25, pos := "law.go:53", after := #[{ on := 0, ground := Go.Ground.data }, { on := 2, ground := Go.Ground.data }, { on := 3, ground := Go.Ground.data }], guard := none } (by kernel_rfl) rfl rfl (fun K hK => ?_)
  go_simp
  refine LY.mono ?_
  clear LY
  rintro r w4 ⟨er, rfl, hf4, DY⟩
  have S4 : Hid (w4.cell? ⟨w.heap.size, 1, none⟩ = some (.int .i64 B)) := (fr_cell hf4 (a := ⟨w.heap.size, 1, none⟩) HNB.out.2.2 HNB.out.1).trans HC1.out
  clear hf4
  clear hH
  refine hK.out _ _ S4.out (fun hH => ?_)
  clear hK K
  (try simp only [Act.put, List.setIfInBounds_toArray, List.set_cons_zero, List.set_cons_succ])
  refine callH (i := 9) { dst := some 68, op := Go.Op.call { callee := Go.Callee.value (Go.Operand.func 26), args := #[Go.Operand.tmp 64, Go.Operand.tmp 66, Go.Operand.tmp 67], argTypes := #[34, 3, 39] }, type := 25, pos := "law.go:53", after := #[{ on := 5, ground := Go.Ground.data }, { on := 7, ground := Go.Ground.data }, { on := 8, ground := Go.Ground.data }, { on := 4, ground := Go.Ground.chain }], guard := none } (by kernel_rfl) rfl rfl (fun K hK => ?_)
  go_simp
  refine DY.mono ?_
  clear DY
  rintro r w5 ⟨rfl, hP⟩
  have S5 : Hid (w5.cell? ⟨w.heap.size, 1, none⟩ = some (.int .i64 B)) := (fr_cell hP.fr (a := ⟨w.heap.size, 1, none⟩) HNB.out.2.2 (fun hs => hs.elim HNB.out.1 HNB.out.2.1)).trans HC1.out
  obtain ⟨σ5, D5, h5⟩ := HGD.out.ofP hP
  have HG5 : Hid (Giv pd n w0 w5 p q ed σ5 (κ + 1) D5 go (some ⟨gf, 0, none⟩) 256 dl) := h5
  clear hP h5
  clear hH
  refine hK.out _ _ S5.out (fun hH => ?_)
  clear hK K
  (try simp only [Act.put, List.setIfInBounds_toArray, List.set_cons_zero, List.set_cons_succ])
  refine takeH (i := 10) (dst := some 69) (v := ?v9) rfl rfl (by kernel_rfl) (by kernel_rfl) (by kernel_rfl) (fun _ _ _ h => h) rfl ?hy9 hH rfl ?rest9
  case hy9 => (intro W hW; (try dsimp only at hW); go_simp; try with_reducible rfl)
  (try simp only [Act.put, List.setIfInBounds_toArray, List.set_cons_zero, List.set_cons_succ])
  refine takeH (i := 11) (dst := some 9) (v := ?v10) rfl rfl (by kernel_rfl) (by kernel_rfl) (by kernel_rfl) (fun _ _ _ h => h) rfl ?hy10 hH rfl ?rest10
  case hy10 => (intro W hW; (try dsimp only at hW); go_simp; try with_reducible rfl)
  (try simp only [Act.put, List.setIfInBounds_toArray, List.set_cons_zero, List.set_cons_succ])
  refine wpAnyH_done (by kernel_rfl) ?_ _
  clear hH
  have h5 := HG5.out
  have KT := h5.kept
  rw [HDN.out] at KT
  clear h5
  go_wp2_with (first | (go_at_call 36; refine Hid.out ?_))
  change Calls _ _ _ _ _
  refine KT.mono ?_
  clear KT
  rintro r w6 ⟨rfl, SPK⟩
  go_wp2_with (first | (go_at_call 25; refine Hid.out ?_))
  change Calls _ _ _ _ _
  refine SPK.mono ?_
  clear SPK
  rintro r w7 ⟨rfl, hE⟩
  have HE : Hid (DoP pd n w0 p q ed (κ + 1) w7) := hE
  clear hE
  go_wp2_with fail
  go_ret
  exact ⟨rfl, HE.out⟩
set_option maxHeartbeats 8000000 in
theorem cdo_3 (h : KX pd n w0 w p q ed σ κ D) (hκ : κ ≤ 900) (B : Int) (hB : -9223372036854775808 ≤ B ∧ B ≤ 9223372036854775807) (sp : Option Addr) (cap : Nat) (l : List UInt8) (ha : Arg w0 sp cap l) (hab : 1 ≤ l.length → ∀ b o, sp = some ⟨b, o, none⟩ → b < w0.heap.size) :
    Calls Try.prog 10 #[.pointer (some ⟨p, 0, none⟩), .pointer (some ⟨q, 0, none⟩), .agg #[.int .i64 3, .int .i64 B, .slice sp l.length cap]] w fun e w' => e = .returned (.bool true) ∧ DoP pd n w0 p q ed (κ + 1) w' := by
  have HK : Hid (KX pd n w0 w p q ed σ κ D ∧ κ ≤ 1000 ∧ (-9223372036854775808 ≤ B ∧ B ≤ 9223372036854775807)) := ⟨h, by omega, hB⟩
  have HA : Hid (Arg w0 sp cap l ∧ (1 ≤ l.length → ∀ b o, sp = some ⟨b, o, none⟩ → b < w0.heap.size)) := ⟨ha, hab⟩
  have hle := ha.len
  have HB1 : Hid (Below w.heap.size w (w.alloc (.cells #[.int .i64 3, .int .i64 B, .slice sp l.length cap] 41))) := (Below.refl _ _).alloc (Nat.le_refl _) _
  have hrow := heap_alloc_new w (.cells #[.int .i64 3, .int .i64 B, .slice sp l.length cap] 41)
  have hz1 := size_alloc w (.cells #[.int .i64 3, .int .i64 B, .slice sp l.length cap] 41)
  clear h ha hab hB hκ
  go_enter Try.func10, Try.ntmps10
  go_upto_region 1 with fail
  generalize w.alloc (.cells #[.int .i64 3, .int .i64 B, .slice sp l.length cap] 41) = W1 at *
  have HZ1 : Hid (W1.heap.size = w.heap.size + 1) := hz1
  have HBX : Hid (∀ W, Below W1.heap.size W1 W → W.cell? ⟨w.heap.size, 0, none⟩ = some (.int .i64 3) ∧ W.cell? ⟨w.heap.size, 1, none⟩ = some (.int .i64 B) ∧ W.cell? ⟨w.heap.size, 2, none⟩ = some (.slice sp l.length cap)) := fun W hW => by
    have hr := (hW.block w.heap.size (by omega)).trans hrow
    exact ⟨(cell_of_row _ _ _ _ _ _ hr).trans rfl, (cell_of_row _ _ _ _ _ _ hr).trans rfl, (cell_of_row _ _ _ _ _ _ hr).trans rfl⟩
  obtain ⟨b0, b1, b2⟩ := HBX.out W1 (Below.refl _ _)
  have FA := fill_any W1 sp cap l ((HA.out.1.src.below HK.out.1.be (Nat.le_refl _)).below HB1.out (by have := HK.out.1.be.size; omega)) (by omega)
  clear hrow hz1
  go_wp2_with (first | (go_at_call 20; refine Hid.out ?_))
  change Calls _ _ _ _ _
  refine FA.mono ?_
  clear FA b0 b1 b2
  rintro r w2 ⟨gf, rfl, hBf, hgf, hb2⟩
  obtain ⟨b0, b1, b2⟩ := HBX.out w2 hb2
  have HF : Hid (Blk w2 gf 5 (fillL l) ∧ W1.heap.size ≤ gf ∧ Below W1.heap.size W1 w2) := ⟨hBf, hgf, hb2⟩
  obtain ⟨dl, hdl⟩ : ∃ dl, fillL l = dl := ⟨_, rfl⟩
  have hdn : dl.length = 256 := by rw [← hdl]; exact fillL_length _
  rw [hdl] at hBf
  have hA2 : Arg w2 (some ⟨gf, 0, none⟩) 256 dl := .inr ⟨gf, 0, rfl, by omega, by omega, by omega, by omega, hBf.src⟩
  have LE := lent_any (some ⟨gf, 0, none⟩) 256 dl w2 hA2
  rw [hdn] at LE
  have HDL : Hid (Arg w2 (some ⟨gf, 0, none⟩) 256 dl) := hA2
  have HDN : Hid (dl.length = 256) := hdn
  clear hBf hgf hb2 hA2 hdl hdn
  go_wp2_with (first | (go_at_call 23; refine Hid.out ?_))
  change Calls _ _ _ _ _
  refine LE.mono ?_
  clear LE b0 b1 b2
  rintro r w3 ⟨go, rfl, hBo, hgo, hb3⟩
  have hb13 : Below W1.heap.size W1 w3 := HF.out.2.2.trans (hb3.mono HF.out.2.2.size)
  have HG : Hid (Giv pd n w0 w3 p q ed σ κ D go (some ⟨gf, 0, none⟩) 256 dl) := by
    have hbw : Below w.heap.size w w3 := HB1.out.trans (hb13.mono HB1.out.size)
    have hz := HZ1.out
    have hz2 := HF.out.2.2.size
    have hzb := HK.out.1.be.size
    have hgl : go < w3.heap.size := (Array.getElem?_eq_some_iff.1 hBo).1
    refine ⟨HK.out.1.up hbw, hBo, HDL.out.below hb3 (Nat.le_refl _), ⟨fun hs => ?_, fun hs => ?_, by omega, hgl⟩, fun hl b o e => ?_⟩
    · have := HK.out.1.cs.sk_size hs; omega
    · have := (HK.out.1.no go hs).2.2; omega
    · cases e
      have hgz := HF.out.2.1
      have hgfl : gf < w2.heap.size := (Array.getElem?_eq_some_iff.1 HF.out.1).1
      have hb3s := hb3.size
      refine ⟨fun hs => ?_, fun hs => ?_, by show gf < w3.heap.size; omega, by show gf ≠ go; omega⟩
      · have h5 : gf < w.heap.size := HK.out.1.cs.sk_size hs; omega
      · have h5 : gf < w.heap.size := (HK.out.1.no gf hs).2.2; omega
  have HNB : Hid (¬ Sk σ w.heap.size ∧ ¬ D w.heap.size ∧ w.heap.size < w3.heap.size) := ⟨fun hs => by have := HK.out.1.cs.sk_size hs; omega, fun hs => by have := (HK.out.1.no _ hs).2.2; omega, by have := HZ1.out; have := hb13.size; omega⟩
  obtain ⟨b0, b1, b2⟩ := HBX.out w3 hb13
  have HC1 : Hid (w3.cell? ⟨w.heap.size, 1, none⟩ = some (.int .i64 B)) := b1
  clear hBo hgo hb3 hb13 HDL HF
  go_upto_region 16 with fail
  have HGD : Hid (Giv pd n w0 w3.drew p q ed σ κ D go (some ⟨gf, 0, none⟩) 256 dl) := HG.out.up (Below.refl _ _).drew
  have S0 : Hid (w3.drew.cell? ⟨w.heap.size, 1, none⟩ = some (.int .i64 B)) := b1
  have LY := kx_lay HGD.out.kx HK.out.2.1 B dl go (dl.length + 8) (some ⟨gf, 0, none⟩) 256 HGD.out.ext1 HGD.out.ext2
  rw [HDN.out] at LY
  clear b0 b1 b2
  refine wp_region_held_drew (S := (fun W => W.cell? ⟨w.heap.size, 1, none⟩ = some (.int .i64 B))) (by kernel_rfl) S0.out (fun hH => ?_)
  refine takeH (i := 0) (dst := some 59) (v := ?v11) rfl rfl (by kernel_rfl) (by kernel_rfl) (by kernel_rfl) (fun _ _ _ h => h) rfl ?hy11 hH rfl ?rest11
  case hy11 => (intro W hW; (try dsimp only at hW); go_simp; try with_reducible rfl)
  (try simp only [Act.put, List.setIfInBounds_toArray, List.set_cons_zero, List.set_cons_succ])
  refine takeH (i := 1) (dst := some 60) (v := ?v12) rfl rfl (by kernel_rfl) (by kernel_rfl) (by kernel_rfl) (fun _ _ _ h => h) rfl ?hy12 hH rfl ?rest12
  case hy12 => (intro W hW; (try dsimp only at hW); go_simp; try with_reducible rfl)
  (try simp only [Act.put, List.setIfInBounds_toArray, List.set_cons_zero, List.set_cons_succ])
  refine takeH (i := 2) (dst := some 61) (v := ?v13) rfl rfl (by kernel_rfl) (by kernel_rfl) (by kernel_rfl) (fun _ _ _ h => h) rfl ?hy13 hH rfl ?rest13
  case hy13 => (intro W hW; have e1 := hW; clear hW; go_simp; try with_reducible rfl)
  (try simp only [Act.put, List.setIfInBounds_toArray, List.set_cons_zero, List.set_cons_succ])
  refine takeH (i := 3) (dst := some 62) (v := ?v14) rfl rfl (by kernel_rfl) (by kernel_rfl) (by kernel_rfl) (fun _ _ _ h => h) rfl ?hy14 hH rfl ?rest14
  case hy14 => (intro W hW; (try dsimp only at hW); go_simp; try with_reducible rfl)
  (try simp only [Act.put, List.setIfInBounds_toArray, List.set_cons_zero, List.set_cons_succ])
  refine takeH (i := 5) (dst := some 64) (v := ?v15) rfl rfl (by kernel_rfl) (by kernel_rfl) (by kernel_rfl) (fun _ _ _ h => h) rfl ?hy15 hH rfl ?rest15
  case hy15 => (intro W hW; (try dsimp only at hW); go_simp; try with_reducible rfl)
  (try simp only [Act.put, List.setIfInBounds_toArray, List.set_cons_zero, List.set_cons_succ])
  refine takeH (i := 6) (dst := some 65) (v := ?v16) rfl rfl (by kernel_rfl) (by kernel_rfl) (by kernel_rfl) (fun _ _ _ h => h) rfl ?hy16 hH rfl ?rest16
  case hy16 => (intro W hW; (try dsimp only at hW); go_simp; try with_reducible rfl)
  (try simp only [Act.put, List.setIfInBounds_toArray, List.set_cons_zero, List.set_cons_succ])
  refine takeH (i := 7) (dst := some 66) (v := ?v17) rfl rfl (by kernel_rfl) (by kernel_rfl) (by kernel_rfl) (fun _ _ _ h => h) rfl ?hy17 hH rfl ?rest17
  case hy17 => (intro W hW; have e1 := hW; clear hW; go_simp; try with_reducible rfl)
  (try simp only [Act.put, List.setIfInBounds_toArray, List.set_cons_zero, List.set_cons_succ])
  refine takeH (i := 8) (dst := some 67) (v := ?v18) rfl rfl (by kernel_rfl) (by kernel_rfl) (by kernel_rfl) (fun _ _ _ h => h) rfl ?hy18 hH rfl ?rest18
  case hy18 => (intro W hW; (try dsimp only at hW); go_simp; try with_reducible rfl)
  (try simp only [Act.put, List.setIfInBounds_toArray, List.set_cons_zero, List.set_cons_succ])
  refine callH (i := 4) { dst := some 63, op := Go.Op.call { callee := Go.Callee.value (Go.Operand.func 19), args := #[Go.Operand.tmp 59, Go.Operand.tmp 61, Go.Operand.tmp 62], argTypes := #[31, 3, 39] }, type := 25, pos := "law.go:53", after := #[{ on := 0, ground := Go.Ground.data }, { on := 2, ground := Go.Ground.data }, { on := 3, ground := Go.Ground.data }], guard := none } (by kernel_rfl) rfl rfl (fun K hK => ?_)
  go_simp
  refine LY.mono ?_
  clear LY
  rintro r w4 ⟨er, rfl, hf4, DY⟩
  have S4 : Hid (w4.cell? ⟨w.heap.size, 1, none⟩ = some (.int .i64 B)) := (fr_cell hf4 (a := ⟨w.heap.size, 1, none⟩) HNB.out.2.2 HNB.out.1).trans HC1.out
  clear hf4
  clear hH
  refine hK.out _ _ S4.out (fun hH => ?_)
  clear hK K
  (try simp only [Act.put, List.setIfInBounds_toArray, List.set_cons_zero, List.set_cons_succ])
  refine callH (i := 9) { dst := some 68, op := Go.Op.call { callee := Go.Callee.value (Go.Operand.func 26), args := #[Go.Operand.tmp 64, Go.Operand.tmp 66, Go.Operand.tmp 67], argTypes := #[34, 3, 39] }, type := 25, pos := "law.go:53", after := #[{ on := 5, ground := Go.Ground.data }, { on := 7, ground := Go.Ground.data }, { on := 8, ground := Go.Ground.data }, { on := 4, ground := Go.Ground.chain }], guard := none } (by kernel_rfl) rfl rfl (fun K hK => ?_)
  go_simp
  refine DY.mono ?_
  clear DY
  rintro r w5 ⟨rfl, hP⟩
  have S5 : Hid (w5.cell? ⟨w.heap.size, 1, none⟩ = some (.int .i64 B)) := (fr_cell hP.fr (a := ⟨w.heap.size, 1, none⟩) HNB.out.2.2 (fun hs => hs.elim HNB.out.1 HNB.out.2.1)).trans HC1.out
  obtain ⟨σ5, D5, h5⟩ := HGD.out.ofP hP
  have HG5 : Hid (Giv pd n w0 w5 p q ed σ5 (κ + 1) D5 go (some ⟨gf, 0, none⟩) 256 dl) := h5
  clear hP h5
  clear hH
  refine hK.out _ _ S5.out (fun hH => ?_)
  clear hK K
  (try simp only [Act.put, List.setIfInBounds_toArray, List.set_cons_zero, List.set_cons_succ])
  refine takeH (i := 10) (dst := some 69) (v := ?v19) rfl rfl (by kernel_rfl) (by kernel_rfl) (by kernel_rfl) (fun _ _ _ h => h) rfl ?hy19 hH rfl ?rest19
  case hy19 => (intro W hW; (try dsimp only at hW); go_simp; try with_reducible rfl)
  (try simp only [Act.put, List.setIfInBounds_toArray, List.set_cons_zero, List.set_cons_succ])
  refine takeH (i := 11) (dst := some 9) (v := ?v20) rfl rfl (by kernel_rfl) (by kernel_rfl) (by kernel_rfl) (fun _ _ _ h => h) rfl ?hy20 hH rfl ?rest20
  case hy20 => (intro W hW; (try dsimp only at hW); go_simp; try with_reducible rfl)
  (try simp only [Act.put, List.setIfInBounds_toArray, List.set_cons_zero, List.set_cons_succ])
  refine wpAnyH_done (by kernel_rfl) ?_ _
  clear hH
  have h5 := HG5.out
  have KT := h5.kept
  rw [HDN.out] at KT
  clear h5
  go_wp2_with (first | (go_at_call 36; refine Hid.out ?_))
  change Calls _ _ _ _ _
  refine KT.mono ?_
  clear KT
  rintro r w6 ⟨rfl, SPK⟩
  go_wp2_with (first | (go_at_call 25; refine Hid.out ?_))
  change Calls _ _ _ _ _
  refine SPK.mono ?_
  clear SPK
  rintro r w7 ⟨rfl, hE⟩
  have HE : Hid (DoP pd n w0 p q ed (κ + 1) w7) := hE
  clear hE
  go_wp2_with fail
  go_ret
  exact ⟨rfl, HE.out⟩
end
end Go.Proofs.Ytikpnfnbmbaljaa
/- leveelaw10.do, kind by kind. -/
namespace Go.Proofs.Ytikpnfnbmbaljaa
open Go.RowKit
set_option maxRecDepth 100000
section
variable {pd n : Nat} {w0 w : World} {p q ed : Nat} {σ : CSt} {κ : Nat} {D : Nat → Prop}
set_option maxHeartbeats 8000000 in
theorem cdo_4 (h : KX pd n w0 w p q ed σ κ D) (hκ : κ ≤ 900) (B : Int) (hB : -9223372036854775808 ≤ B ∧ B ≤ 9223372036854775807) (sp : Option Addr) (cap : Nat) (l : List UInt8) (ha : Arg w0 sp cap l) (hab : 1 ≤ l.length → ∀ b o, sp = some ⟨b, o, none⟩ → b < w0.heap.size) :
    Calls Try.prog 10 #[.pointer (some ⟨p, 0, none⟩), .pointer (some ⟨q, 0, none⟩), .agg #[.int .i64 4, .int .i64 B, .slice sp l.length cap]] w fun e w' => e = .returned (.bool true) ∧ DoP pd n w0 p q ed (κ + 1) w' := by
  have HK : Hid (KX pd n w0 w p q ed σ κ D ∧ κ ≤ 1000 ∧ (-9223372036854775808 ≤ B ∧ B ≤ 9223372036854775807)) := ⟨h, by omega, hB⟩
  have HA : Hid (Arg w0 sp cap l ∧ (1 ≤ l.length → ∀ b o, sp = some ⟨b, o, none⟩ → b < w0.heap.size)) := ⟨ha, hab⟩
  have hle := ha.len
  have HB1 : Hid (Below w.heap.size w (w.alloc (.cells #[.int .i64 4, .int .i64 B, .slice sp l.length cap] 41))) := (Below.refl _ _).alloc (Nat.le_refl _) _
  have hrow := heap_alloc_new w (.cells #[.int .i64 4, .int .i64 B, .slice sp l.length cap] 41)
  have hz1 := size_alloc w (.cells #[.int .i64 4, .int .i64 B, .slice sp l.length cap] 41)
  clear h ha hab hB hκ
  go_enter Try.func10, Try.ntmps10
  go_upto_region 1 with fail
  generalize w.alloc (.cells #[.int .i64 4, .int .i64 B, .slice sp l.length cap] 41) = W1 at *
  have HZ1 : Hid (W1.heap.size = w.heap.size + 1) := hz1
  have HBX : Hid (∀ W, Below W1.heap.size W1 W → W.cell? ⟨w.heap.size, 0, none⟩ = some (.int .i64 4) ∧ W.cell? ⟨w.heap.size, 1, none⟩ = some (.int .i64 B) ∧ W.cell? ⟨w.heap.size, 2, none⟩ = some (.slice sp l.length cap)) := fun W hW => by
    have hr := (hW.block w.heap.size (by omega)).trans hrow
    exact ⟨(cell_of_row _ _ _ _ _ _ hr).trans rfl, (cell_of_row _ _ _ _ _ _ hr).trans rfl, (cell_of_row _ _ _ _ _ _ hr).trans rfl⟩
  obtain ⟨b0, b1, b2⟩ := HBX.out W1 (Below.refl _ _)
  have FA := fill_any W1 sp cap l ((HA.out.1.src.below HK.out.1.be (Nat.le_refl _)).below HB1.out (by have := HK.out.1.be.size; omega)) (by omega)
  clear hrow hz1
  go_wp2_with (first | (go_at_call 20; refine Hid.out ?_))
  change Calls _ _ _ _ _
  refine FA.mono ?_
  clear FA b0 b1 b2
  rintro r w2 ⟨gf, rfl, hBf, hgf, hb2⟩
  obtain ⟨b0, b1, b2⟩ := HBX.out w2 hb2
  have HF : Hid (Blk w2 gf 5 (fillL l) ∧ W1.heap.size ≤ gf ∧ Below W1.heap.size W1 w2) := ⟨hBf, hgf, hb2⟩
  obtain ⟨dl, hdl⟩ : ∃ dl, fillL l = dl := ⟨_, rfl⟩
  have hdn : dl.length = 256 := by rw [← hdl]; exact fillL_length _
  rw [hdl] at hBf
  have hA2 : Arg w2 (some ⟨gf, 0, none⟩) 256 dl := .inr ⟨gf, 0, rfl, by omega, by omega, by omega, by omega, hBf.src⟩
  have LE := lent_any (some ⟨gf, 0, none⟩) 256 dl w2 hA2
  rw [hdn] at LE
  have HDL : Hid (Arg w2 (some ⟨gf, 0, none⟩) 256 dl) := hA2
  have HDN : Hid (dl.length = 256) := hdn
  clear hBf hgf hb2 hA2 hdl hdn
  go_wp2_with (first | (go_at_call 23; refine Hid.out ?_))
  change Calls _ _ _ _ _
  refine LE.mono ?_
  clear LE b0 b1 b2
  rintro r w3 ⟨go, rfl, hBo, hgo, hb3⟩
  have hb13 : Below W1.heap.size W1 w3 := HF.out.2.2.trans (hb3.mono HF.out.2.2.size)
  have HG : Hid (Giv pd n w0 w3 p q ed σ κ D go (some ⟨gf, 0, none⟩) 256 dl) := by
    have hbw : Below w.heap.size w w3 := HB1.out.trans (hb13.mono HB1.out.size)
    have hz := HZ1.out
    have hz2 := HF.out.2.2.size
    have hzb := HK.out.1.be.size
    have hgl : go < w3.heap.size := (Array.getElem?_eq_some_iff.1 hBo).1
    refine ⟨HK.out.1.up hbw, hBo, HDL.out.below hb3 (Nat.le_refl _), ⟨fun hs => ?_, fun hs => ?_, by omega, hgl⟩, fun hl b o e => ?_⟩
    · have := HK.out.1.cs.sk_size hs; omega
    · have := (HK.out.1.no go hs).2.2; omega
    · cases e
      have hgz := HF.out.2.1
      have hgfl : gf < w2.heap.size := (Array.getElem?_eq_some_iff.1 HF.out.1).1
      have hb3s := hb3.size
      refine ⟨fun hs => ?_, fun hs => ?_, by show gf < w3.heap.size; omega, by show gf ≠ go; omega⟩
      · have h5 : gf < w.heap.size := HK.out.1.cs.sk_size hs; omega
      · have h5 : gf < w.heap.size := (HK.out.1.no gf hs).2.2; omega
  have HNB : Hid (¬ Sk σ w.heap.size ∧ ¬ D w.heap.size ∧ w.heap.size < w3.heap.size) := ⟨fun hs => by have := HK.out.1.cs.sk_size hs; omega, fun hs => by have := (HK.out.1.no _ hs).2.2; omega, by have := HZ1.out; have := hb13.size; omega⟩
  obtain ⟨b0, b1, b2⟩ := HBX.out w3 hb13
  have HC1 : Hid (w3.cell? ⟨w.heap.size, 1, none⟩ = some (.int .i64 B)) := b1
  clear hBo hgo hb3 hb13 HDL HF
  go_upto_region 18 with fail
  have HGD : Hid (Giv pd n w0 w3.drew p q ed σ κ D go (some ⟨gf, 0, none⟩) 256 dl) := HG.out.up (Below.refl _ _).drew
  have S0 : Hid (w3.drew.cell? ⟨w.heap.size, 1, none⟩ = some (.int .i64 B)) := b1
  have LY := kx_write0 HGD.out.kx HK.out.2.1 B none none 0 0
  clear b0 b1 b2
  refine wp_region_held_drew (S := (fun W => W.cell? ⟨w.heap.size, 1, none⟩ = some (.int .i64 B))) (by kernel_rfl) S0.out (fun hH => ?_)
  refine takeH (i := 0) (dst := some 72) (v := ?v21) rfl rfl (by kernel_rfl) (by kernel_rfl) (by kernel_rfl) (fun _ _ _ h => h) rfl ?hy21 hH rfl ?rest21
  case hy21 => (intro W hW; (try dsimp only at hW); go_simp; try with_reducible rfl)
  (try simp only [Act.put, List.setIfInBounds_toArray, List.set_cons_zero, List.set_cons_succ])
  refine takeH (i := 1) (dst := some 73) (v := ?v22) rfl rfl (by kernel_rfl) (by kernel_rfl) (by kernel_rfl) (fun _ _ _ h => h) rfl ?hy22 hH rfl ?rest22
  case hy22 => (intro W hW; (try dsimp only at hW); go_simp; try with_reducible rfl)
  (try simp only [Act.put, List.setIfInBounds_toArray, List.set_cons_zero, List.set_cons_succ])
  refine takeH (i := 2) (dst := some 74) (v := ?v23) rfl rfl (by kernel_rfl) (by kernel_rfl) (by kernel_rfl) (fun _ _ _ h => h) rfl ?hy23 hH rfl ?rest23
  case hy23 => (intro W hW; have e1 := hW; clear hW; go_simp; try with_reducible rfl)
  (try simp only [Act.put, List.setIfInBounds_toArray, List.set_cons_zero, List.set_cons_succ])
  refine takeH (i := 4) (dst := some 76) (v := ?v24) rfl rfl (by kernel_rfl) (by kernel_rfl) (by kernel_rfl) (fun _ _ _ h => h) rfl ?hy24 hH rfl ?rest24
  case hy24 => (intro W hW; (try dsimp only at hW); go_simp; try with_reducible rfl)
  (try simp only [Act.put, List.setIfInBounds_toArray, List.set_cons_zero, List.set_cons_succ])
  refine takeH (i := 5) (dst := some 77) (v := ?v25) rfl rfl (by kernel_rfl) (by kernel_rfl) (by kernel_rfl) (fun _ _ _ h => h) rfl ?hy25 hH rfl ?rest25
  case hy25 => (intro W hW; (try dsimp only at hW); go_simp; try with_reducible rfl)
  (try simp only [Act.put, List.setIfInBounds_toArray, List.set_cons_zero, List.set_cons_succ])
  refine takeH (i := 6) (dst := some 78) (v := ?v26) rfl rfl (by kernel_rfl) (by kernel_rfl) (by kernel_rfl) (fun _ _ _ h => h) rfl ?hy26 hH rfl ?rest26
  case hy26 => (intro W hW; have e1 := hW; clear hW; go_simp; try with_reducible rfl)
  (try simp only [Act.put, List.setIfInBounds_toArray, List.set_cons_zero, List.set_cons_succ])
  refine callH (i := 3) { dst := some 75, op := Go.Op.call { callee := Go.Callee.value (Go.Operand.func 21), args := #[Go.Operand.tmp 72, Go.Operand.tmp 74, Go.Operand.const (Go.Value.slice none 0 0)], argTypes := #[31, 3, 39] }, type := 25, pos := "law.go:55", after := #[{ on := 0, ground := Go.Ground.data }, { on := 2, ground := Go.Ground.data }], guard := none } (by kernel_rfl) rfl rfl (fun K hK => ?_)
  go_simp
  refine LY.mono ?_
  clear LY
  rintro r w4 ⟨er, rfl, hf4, DY⟩
  have S4 : Hid (w4.cell? ⟨w.heap.size, 1, none⟩ = some (.int .i64 B)) := (fr_cell hf4 (a := ⟨w.heap.size, 1, none⟩) HNB.out.2.2 HNB.out.1).trans HC1.out
  clear hf4
  clear hH
  refine hK.out _ _ S4.out (fun hH => ?_)
  clear hK K
  (try simp only [Act.put, List.setIfInBounds_toArray, List.set_cons_zero, List.set_cons_succ])
  refine callH (i := 7) { dst := some 79, op := Go.Op.call { callee := Go.Callee.value (Go.Operand.func 27), args := #[Go.Operand.tmp 76, Go.Operand.tmp 78, Go.Operand.const (Go.Value.slice none 0 0)], argTypes := #[34, 3, 39] }, type := 25, pos := "law.go:55", after := #[{ on := 4, ground := Go.Ground.data }, { on := 6, ground := Go.Ground.data }, { on := 3, ground := Go.Ground.chain }], guard := none } (by kernel_rfl) rfl rfl (fun K hK => ?_)
  go_simp
  refine DY.mono ?_
  clear DY
  rintro r w5 ⟨rfl, hP⟩
  have S5 : Hid (w5.cell? ⟨w.heap.size, 1, none⟩ = some (.int .i64 B)) := (fr_cell hP.fr (a := ⟨w.heap.size, 1, none⟩) HNB.out.2.2 (fun hs => hs.elim HNB.out.1 HNB.out.2.1)).trans HC1.out
  obtain ⟨σ5, D5, h5⟩ := HGD.out.ofP hP
  have HG5 : Hid (Giv pd n w0 w5 p q ed σ5 (κ + 1) D5 go (some ⟨gf, 0, none⟩) 256 dl) := h5
  clear hP h5
  clear hH
  refine hK.out _ _ S5.out (fun hH => ?_)
  clear hK K
  (try simp only [Act.put, List.setIfInBounds_toArray, List.set_cons_zero, List.set_cons_succ])
  refine takeH (i := 8) (dst := some 80) (v := ?v27) rfl rfl (by kernel_rfl) (by kernel_rfl) (by kernel_rfl) (fun _ _ _ h => h) rfl ?hy27 hH rfl ?rest27
  case hy27 => (intro W hW; (try dsimp only at hW); go_simp; try with_reducible rfl)
  (try simp only [Act.put, List.setIfInBounds_toArray, List.set_cons_zero, List.set_cons_succ])
  refine takeH (i := 9) (dst := some 9) (v := ?v28) rfl rfl (by kernel_rfl) (by kernel_rfl) (by kernel_rfl) (fun _ _ _ h => h) rfl ?hy28 hH rfl ?rest28
  case hy28 => (intro W hW; (try dsimp only at hW); go_simp; try with_reducible rfl)
  (try simp only [Act.put, List.setIfInBounds_toArray, List.set_cons_zero, List.set_cons_succ])
  refine wpAnyH_done (by kernel_rfl) ?_ _
  clear hH
  have h5 := HG5.out
  have KT := h5.kept
  rw [HDN.out] at KT
  clear h5
  go_wp2_with (first | (go_at_call 36; refine Hid.out ?_))
  change Calls _ _ _ _ _
  refine KT.mono ?_
  clear KT
  rintro r w6 ⟨rfl, SPK⟩
  go_wp2_with (first | (go_at_call 25; refine Hid.out ?_))
  change Calls _ _ _ _ _
  refine SPK.mono ?_
  clear SPK
  rintro r w7 ⟨rfl, hE⟩
  have HE : Hid (DoP pd n w0 p q ed (κ + 1) w7) := hE
  clear hE
  go_wp2_with fail
  go_ret
  exact ⟨rfl, HE.out⟩
set_option maxHeartbeats 8000000 in
theorem cdo_5 (h : KX pd n w0 w p q ed σ κ D) (hκ : κ ≤ 900) (B : Int) (hB : -9223372036854775808 ≤ B ∧ B ≤ 9223372036854775807) (sp : Option Addr) (cap : Nat) (l : List UInt8) (ha : Arg w0 sp cap l) (hab : 1 ≤ l.length → ∀ b o, sp = some ⟨b, o, none⟩ → b < w0.heap.size) :
    Calls Try.prog 10 #[.pointer (some ⟨p, 0, none⟩), .pointer (some ⟨q, 0, none⟩), .agg #[.int .i64 5, .int .i64 B, .slice sp l.length cap]] w fun e w' => e = .returned (.bool true) ∧ DoP pd n w0 p q ed (κ + 1) w' := by
  have HK : Hid (KX pd n w0 w p q ed σ κ D ∧ κ ≤ 1000 ∧ (-9223372036854775808 ≤ B ∧ B ≤ 9223372036854775807)) := ⟨h, by omega, hB⟩
  have HA : Hid (Arg w0 sp cap l ∧ (1 ≤ l.length → ∀ b o, sp = some ⟨b, o, none⟩ → b < w0.heap.size)) := ⟨ha, hab⟩
  have hle := ha.len
  have HB1 : Hid (Below w.heap.size w (w.alloc (.cells #[.int .i64 5, .int .i64 B, .slice sp l.length cap] 41))) := (Below.refl _ _).alloc (Nat.le_refl _) _
  have hrow := heap_alloc_new w (.cells #[.int .i64 5, .int .i64 B, .slice sp l.length cap] 41)
  have hz1 := size_alloc w (.cells #[.int .i64 5, .int .i64 B, .slice sp l.length cap] 41)
  clear h ha hab hB hκ
  go_enter Try.func10, Try.ntmps10
  go_upto_region 1 with fail
  generalize w.alloc (.cells #[.int .i64 5, .int .i64 B, .slice sp l.length cap] 41) = W1 at *
  have HZ1 : Hid (W1.heap.size = w.heap.size + 1) := hz1
  have HBX : Hid (∀ W, Below W1.heap.size W1 W → W.cell? ⟨w.heap.size, 0, none⟩ = some (.int .i64 5) ∧ W.cell? ⟨w.heap.size, 1, none⟩ = some (.int .i64 B) ∧ W.cell? ⟨w.heap.size, 2, none⟩ = some (.slice sp l.length cap)) := fun W hW => by
    have hr := (hW.block w.heap.size (by omega)).trans hrow
    exact ⟨(cell_of_row _ _ _ _ _ _ hr).trans rfl, (cell_of_row _ _ _ _ _ _ hr).trans rfl, (cell_of_row _ _ _ _ _ _ hr).trans rfl⟩
  obtain ⟨b0, b1, b2⟩ := HBX.out W1 (Below.refl _ _)
  have FA := fill_any W1 sp cap l ((HA.out.1.src.below HK.out.1.be (Nat.le_refl _)).below HB1.out (by have := HK.out.1.be.size; omega)) (by omega)
  clear hrow hz1
  go_wp2_with (first | (go_at_call 20; refine Hid.out ?_))
  change Calls _ _ _ _ _
  refine FA.mono ?_
  clear FA b0 b1 b2
  rintro r w2 ⟨gf, rfl, hBf, hgf, hb2⟩
  obtain ⟨b0, b1, b2⟩ := HBX.out w2 hb2
  have HF : Hid (Blk w2 gf 5 (fillL l) ∧ W1.heap.size ≤ gf ∧ Below W1.heap.size W1 w2) := ⟨hBf, hgf, hb2⟩
  obtain ⟨dl, hdl⟩ : ∃ dl, fillL l = dl := ⟨_, rfl⟩
  have hdn : dl.length = 256 := by rw [← hdl]; exact fillL_length _
  rw [hdl] at hBf
  have hA2 : Arg w2 (some ⟨gf, 0, none⟩) 256 dl := .inr ⟨gf, 0, rfl, by omega, by omega, by omega, by omega, hBf.src⟩
  have LE := lent_any (some ⟨gf, 0, none⟩) 256 dl w2 hA2
  rw [hdn] at LE
  have HDL : Hid (Arg w2 (some ⟨gf, 0, none⟩) 256 dl) := hA2
  have HDN : Hid (dl.length = 256) := hdn
  clear hBf hgf hb2 hA2 hdl hdn
  go_wp2_with (first | (go_at_call 23; refine Hid.out ?_))
  change Calls _ _ _ _ _
  refine LE.mono ?_
  clear LE b0 b1 b2
  rintro r w3 ⟨go, rfl, hBo, hgo, hb3⟩
  have hb13 : Below W1.heap.size W1 w3 := HF.out.2.2.trans (hb3.mono HF.out.2.2.size)
  have HG : Hid (Giv pd n w0 w3 p q ed σ κ D go (some ⟨gf, 0, none⟩) 256 dl) := by
    have hbw : Below w.heap.size w w3 := HB1.out.trans (hb13.mono HB1.out.size)
    have hz := HZ1.out
    have hz2 := HF.out.2.2.size
    have hzb := HK.out.1.be.size
    have hgl : go < w3.heap.size := (Array.getElem?_eq_some_iff.1 hBo).1
    refine ⟨HK.out.1.up hbw, hBo, HDL.out.below hb3 (Nat.le_refl _), ⟨fun hs => ?_, fun hs => ?_, by omega, hgl⟩, fun hl b o e => ?_⟩
    · have := HK.out.1.cs.sk_size hs; omega
    · have := (HK.out.1.no go hs).2.2; omega
    · cases e
      have hgz := HF.out.2.1
      have hgfl : gf < w2.heap.size := (Array.getElem?_eq_some_iff.1 HF.out.1).1
      have hb3s := hb3.size
      refine ⟨fun hs => ?_, fun hs => ?_, by show gf < w3.heap.size; omega, by show gf ≠ go; omega⟩
      · have h5 : gf < w.heap.size := HK.out.1.cs.sk_size hs; omega
      · have h5 : gf < w.heap.size := (HK.out.1.no gf hs).2.2; omega
  have HNB : Hid (¬ Sk σ w.heap.size ∧ ¬ D w.heap.size ∧ w.heap.size < w3.heap.size) := ⟨fun hs => by have := HK.out.1.cs.sk_size hs; omega, fun hs => by have := (HK.out.1.no _ hs).2.2; omega, by have := HZ1.out; have := hb13.size; omega⟩
  obtain ⟨b0, b1, b2⟩ := HBX.out w3 hb13
  have HC1 : Hid (w3.cell? ⟨w.heap.size, 1, none⟩ = some (.int .i64 B)) := b1
  clear hBo hgo hb3 hb13 HDL HF
  go_upto_region 21 with fail
  have HGD : Hid (Giv pd n w0 w3.drew p q ed σ κ D go (some ⟨gf, 0, none⟩) 256 dl) := HG.out.up (Below.refl _ _).drew
  have S0 : Hid (w3.drew.cell? ⟨w.heap.size, 1, none⟩ = some (.int .i64 B)) := b1
  have LY := kx_write HGD.out.kx HK.out.2.1 B dl go (dl.length + 8) (some ⟨gf, 0, none⟩) 256 HGD.out.ext1 HGD.out.ext2
  rw [HDN.out] at LY
  clear b0 b1 b2
  refine wp_region_held_drew (S := (fun W => W.cell? ⟨w.heap.size, 1, none⟩ = some (.int .i64 B))) (by kernel_rfl) S0.out (fun hH => ?_)
  refine takeH (i := 0) (dst := some 84) (v := ?v29) rfl rfl (by kernel_rfl) (by kernel_rfl) (by kernel_rfl) (fun _ _ _ h => h) rfl ?hy29 hH rfl ?rest29
  case hy29 => (intro W hW; (try dsimp only at hW); go_simp; try with_reducible rfl)
  (try simp only [Act.put, List.setIfInBounds_toArray, List.set_cons_zero, List.set_cons_succ])
  refine takeH (i := 1) (dst := some 85) (v := ?v30) rfl rfl (by kernel_rfl) (by kernel_rfl) (by kernel_rfl) (fun _ _ _ h => h) rfl ?hy30 hH rfl ?rest30
  case hy30 => (intro W hW; (try dsimp only at hW); go_simp; try with_reducible rfl)
  (try simp only [Act.put, List.setIfInBounds_toArray, List.set_cons_zero, List.set_cons_succ])
  refine takeH (i := 2) (dst := some 86) (v := ?v31) rfl rfl (by kernel_rfl) (by kernel_rfl) (by kernel_rfl) (fun _ _ _ h => h) rfl ?hy31 hH rfl ?rest31
  case hy31 => (intro W hW; have e1 := hW; clear hW; go_simp; try with_reducible rfl)
  (try simp only [Act.put, List.setIfInBounds_toArray, List.set_cons_zero, List.set_cons_succ])
  refine takeH (i := 3) (dst := some 87) (v := ?v32) rfl rfl (by kernel_rfl) (by kernel_rfl) (by kernel_rfl) (fun _ _ _ h => h) rfl ?hy32 hH rfl ?rest32
  case hy32 => (intro W hW; (try dsimp only at hW); go_simp; try with_reducible rfl)
  (try simp only [Act.put, List.setIfInBounds_toArray, List.set_cons_zero, List.set_cons_succ])
  refine takeH (i := 5) (dst := some 89) (v := ?v33) rfl rfl (by kernel_rfl) (by kernel_rfl) (by kernel_rfl) (fun _ _ _ h => h) rfl ?hy33 hH rfl ?rest33
  case hy33 => (intro W hW; (try dsimp only at hW); go_simp; try with_reducible rfl)
  (try simp only [Act.put, List.setIfInBounds_toArray, List.set_cons_zero, List.set_cons_succ])
  refine takeH (i := 6) (dst := some 90) (v := ?v34) rfl rfl (by kernel_rfl) (by kernel_rfl) (by kernel_rfl) (fun _ _ _ h => h) rfl ?hy34 hH rfl ?rest34
  case hy34 => (intro W hW; (try dsimp only at hW); go_simp; try with_reducible rfl)
  (try simp only [Act.put, List.setIfInBounds_toArray, List.set_cons_zero, List.set_cons_succ])
  refine takeH (i := 7) (dst := some 91) (v := ?v35) rfl rfl (by kernel_rfl) (by kernel_rfl) (by kernel_rfl) (fun _ _ _ h => h) rfl ?hy35 hH rfl ?rest35
  case hy35 => (intro W hW; have e1 := hW; clear hW; go_simp; try with_reducible rfl)
  (try simp only [Act.put, List.setIfInBounds_toArray, List.set_cons_zero, List.set_cons_succ])
  refine takeH (i := 8) (dst := some 92) (v := ?v36) rfl rfl (by kernel_rfl) (by kernel_rfl) (by kernel_rfl) (fun _ _ _ h => h) rfl ?hy36 hH rfl ?rest36
  case hy36 => (intro W hW; (try dsimp only at hW); go_simp; try with_reducible rfl)
  (try simp only [Act.put, List.setIfInBounds_toArray, List.set_cons_zero, List.set_cons_succ])
  refine callH (i := 4) { dst := some 88, op := Go.Op.call { callee := Go.Callee.value (Go.Operand.func 21), args := #[Go.Operand.tmp 84, Go.Operand.tmp 86, Go.Operand.tmp 87], argTypes := #[31, 3, 39] }, type := 25, pos := "law.go:57", after := #[{ on := 0, ground := Go.Ground.data }, { on := 2, ground := Go.Ground.data }, { on := 3, ground := Go.Ground.data }], guard := none } (by kernel_rfl) rfl rfl (fun K hK => ?_)
  go_simp
  refine LY.mono ?_
  clear LY
  rintro r w4 ⟨er, rfl, hf4, DY⟩
  have S4 : Hid (w4.cell? ⟨w.heap.size, 1, none⟩ = some (.int .i64 B)) := (fr_cell hf4 (a := ⟨w.heap.size, 1, none⟩) HNB.out.2.2 HNB.out.1).trans HC1.out
  clear hf4
  clear hH
  refine hK.out _ _ S4.out (fun hH => ?_)
  clear hK K
  (try simp only [Act.put, List.setIfInBounds_toArray, List.set_cons_zero, List.set_cons_succ])
  refine callH (i := 9) { dst := some 93, op := Go.Op.call { callee := Go.Callee.value (Go.Operand.func 27), args := #[Go.Operand.tmp 89, Go.Operand.tmp 91, Go.Operand.tmp 92], argTypes := #[34, 3, 39] }, type := 25, pos := "law.go:57", after := #[{ on := 5, ground := Go.Ground.data }, { on := 7, ground := Go.Ground.data }, { on := 8, ground := Go.Ground.data }, { on := 4, ground := Go.Ground.chain }], guard := none } (by kernel_rfl) rfl rfl (fun K hK => ?_)
  go_simp
  refine DY.mono ?_
  clear DY
  rintro r w5 ⟨rfl, hP⟩
  have S5 : Hid (w5.cell? ⟨w.heap.size, 1, none⟩ = some (.int .i64 B)) := (fr_cell hP.fr (a := ⟨w.heap.size, 1, none⟩) HNB.out.2.2 (fun hs => hs.elim HNB.out.1 HNB.out.2.1)).trans HC1.out
  obtain ⟨σ5, D5, h5⟩ := HGD.out.ofP hP
  have HG5 : Hid (Giv pd n w0 w5 p q ed σ5 (κ + 1) D5 go (some ⟨gf, 0, none⟩) 256 dl) := h5
  clear hP h5
  clear hH
  refine hK.out _ _ S5.out (fun hH => ?_)
  clear hK K
  (try simp only [Act.put, List.setIfInBounds_toArray, List.set_cons_zero, List.set_cons_succ])
  refine takeH (i := 10) (dst := some 94) (v := ?v37) rfl rfl (by kernel_rfl) (by kernel_rfl) (by kernel_rfl) (fun _ _ _ h => h) rfl ?hy37 hH rfl ?rest37
  case hy37 => (intro W hW; (try dsimp only at hW); go_simp; try with_reducible rfl)
  (try simp only [Act.put, List.setIfInBounds_toArray, List.set_cons_zero, List.set_cons_succ])
  refine takeH (i := 11) (dst := some 9) (v := ?v38) rfl rfl (by kernel_rfl) (by kernel_rfl) (by kernel_rfl) (fun _ _ _ h => h) rfl ?hy38 hH rfl ?rest38
  case hy38 => (intro W hW; (try dsimp only at hW); go_simp; try with_reducible rfl)
  (try simp only [Act.put, List.setIfInBounds_toArray, List.set_cons_zero, List.set_cons_succ])
  refine wpAnyH_done (by kernel_rfl) ?_ _
  clear hH
  have h5 := HG5.out
  have KT := h5.kept
  rw [HDN.out] at KT
  clear h5
  go_wp2_with (first | (go_at_call 36; refine Hid.out ?_))
  change Calls _ _ _ _ _
  refine KT.mono ?_
  clear KT
  rintro r w6 ⟨rfl, SPK⟩
  go_wp2_with (first | (go_at_call 25; refine Hid.out ?_))
  change Calls _ _ _ _ _
  refine SPK.mono ?_
  clear SPK
  rintro r w7 ⟨rfl, hE⟩
  have HE : Hid (DoP pd n w0 p q ed (κ + 1) w7) := hE
  clear hE
  go_wp2_with fail
  go_ret
  exact ⟨rfl, HE.out⟩
set_option maxHeartbeats 8000000 in
theorem cdo_6 (h : KX pd n w0 w p q ed σ κ D) (hκ : κ ≤ 900) (B : Int) (hB : -9223372036854775808 ≤ B ∧ B ≤ 9223372036854775807) (sp : Option Addr) (cap : Nat) (l : List UInt8) (ha : Arg w0 sp cap l) (hab : 1 ≤ l.length → ∀ b o, sp = some ⟨b, o, none⟩ → b < w0.heap.size) :
    Calls Try.prog 10 #[.pointer (some ⟨p, 0, none⟩), .pointer (some ⟨q, 0, none⟩), .agg #[.int .i64 6, .int .i64 B, .slice sp l.length cap]] w fun e w' => e = .returned (.bool true) ∧ DoP pd n w0 p q ed (κ + 1) w' := by
  have HK : Hid (KX pd n w0 w p q ed σ κ D ∧ κ ≤ 1000 ∧ (-9223372036854775808 ≤ B ∧ B ≤ 9223372036854775807)) := ⟨h, by omega, hB⟩
  have HA : Hid (Arg w0 sp cap l ∧ (1 ≤ l.length → ∀ b o, sp = some ⟨b, o, none⟩ → b < w0.heap.size)) := ⟨ha, hab⟩
  have hle := ha.len
  have HB1 : Hid (Below w.heap.size w (w.alloc (.cells #[.int .i64 6, .int .i64 B, .slice sp l.length cap] 41))) := (Below.refl _ _).alloc (Nat.le_refl _) _
  have hrow := heap_alloc_new w (.cells #[.int .i64 6, .int .i64 B, .slice sp l.length cap] 41)
  have hz1 := size_alloc w (.cells #[.int .i64 6, .int .i64 B, .slice sp l.length cap] 41)
  clear h ha hab hB hκ
  go_enter Try.func10, Try.ntmps10
  go_upto_region 1 with fail
  generalize w.alloc (.cells #[.int .i64 6, .int .i64 B, .slice sp l.length cap] 41) = W1 at *
  have HZ1 : Hid (W1.heap.size = w.heap.size + 1) := hz1
  have HBX : Hid (∀ W, Below W1.heap.size W1 W → W.cell? ⟨w.heap.size, 0, none⟩ = some (.int .i64 6) ∧ W.cell? ⟨w.heap.size, 1, none⟩ = some (.int .i64 B) ∧ W.cell? ⟨w.heap.size, 2, none⟩ = some (.slice sp l.length cap)) := fun W hW => by
    have hr := (hW.block w.heap.size (by omega)).trans hrow
    exact ⟨(cell_of_row _ _ _ _ _ _ hr).trans rfl, (cell_of_row _ _ _ _ _ _ hr).trans rfl, (cell_of_row _ _ _ _ _ _ hr).trans rfl⟩
  obtain ⟨b0, b1, b2⟩ := HBX.out W1 (Below.refl _ _)
  have FA := fill_any W1 sp cap l ((HA.out.1.src.below HK.out.1.be (Nat.le_refl _)).below HB1.out (by have := HK.out.1.be.size; omega)) (by omega)
  clear hrow hz1
  go_wp2_with (first | (go_at_call 20; refine Hid.out ?_))
  change Calls _ _ _ _ _
  refine FA.mono ?_
  clear FA b0 b1 b2
  rintro r w2 ⟨gf, rfl, hBf, hgf, hb2⟩
  obtain ⟨b0, b1, b2⟩ := HBX.out w2 hb2
  have HF : Hid (Blk w2 gf 5 (fillL l) ∧ W1.heap.size ≤ gf ∧ Below W1.heap.size W1 w2) := ⟨hBf, hgf, hb2⟩
  obtain ⟨dl, hdl⟩ : ∃ dl, fillL l = dl := ⟨_, rfl⟩
  have hdn : dl.length = 256 := by rw [← hdl]; exact fillL_length _
  rw [hdl] at hBf
  have hA2 : Arg w2 (some ⟨gf, 0, none⟩) 256 dl := .inr ⟨gf, 0, rfl, by omega, by omega, by omega, by omega, hBf.src⟩
  have LE := lent_any (some ⟨gf, 0, none⟩) 256 dl w2 hA2
  rw [hdn] at LE
  have HDL : Hid (Arg w2 (some ⟨gf, 0, none⟩) 256 dl) := hA2
  have HDN : Hid (dl.length = 256) := hdn
  clear hBf hgf hb2 hA2 hdl hdn
  go_wp2_with (first | (go_at_call 23; refine Hid.out ?_))
  change Calls _ _ _ _ _
  refine LE.mono ?_
  clear LE b0 b1 b2
  rintro r w3 ⟨go, rfl, hBo, hgo, hb3⟩
  have hb13 : Below W1.heap.size W1 w3 := HF.out.2.2.trans (hb3.mono HF.out.2.2.size)
  have HG : Hid (Giv pd n w0 w3 p q ed σ κ D go (some ⟨gf, 0, none⟩) 256 dl) := by
    have hbw : Below w.heap.size w w3 := HB1.out.trans (hb13.mono HB1.out.size)
    have hz := HZ1.out
    have hz2 := HF.out.2.2.size
    have hzb := HK.out.1.be.size
    have hgl : go < w3.heap.size := (Array.getElem?_eq_some_iff.1 hBo).1
    refine ⟨HK.out.1.up hbw, hBo, HDL.out.below hb3 (Nat.le_refl _), ⟨fun hs => ?_, fun hs => ?_, by omega, hgl⟩, fun hl b o e => ?_⟩
    · have := HK.out.1.cs.sk_size hs; omega
    · have := (HK.out.1.no go hs).2.2; omega
    · cases e
      have hgz := HF.out.2.1
      have hgfl : gf < w2.heap.size := (Array.getElem?_eq_some_iff.1 HF.out.1).1
      have hb3s := hb3.size
      refine ⟨fun hs => ?_, fun hs => ?_, by show gf < w3.heap.size; omega, by show gf ≠ go; omega⟩
      · have h5 : gf < w.heap.size := HK.out.1.cs.sk_size hs; omega
      · have h5 : gf < w.heap.size := (HK.out.1.no gf hs).2.2; omega
  have HNB : Hid (¬ Sk σ w.heap.size ∧ ¬ D w.heap.size ∧ w.heap.size < w3.heap.size) := ⟨fun hs => by have := HK.out.1.cs.sk_size hs; omega, fun hs => by have := (HK.out.1.no _ hs).2.2; omega, by have := HZ1.out; have := hb13.size; omega⟩
  obtain ⟨b0, b1, b2⟩ := HBX.out w3 hb13
  have HC1 : Hid (w3.cell? ⟨w.heap.size, 1, none⟩ = some (.int .i64 B)) := b1
  clear hBo hgo hb3 hb13 HDL HF
  go_upto_region 23 with fail
  have HGD : Hid (Giv pd n w0 w3.drew p q ed σ κ D go (some ⟨gf, 0, none⟩) 256 dl) := HG.out.up (Below.refl _ _).drew
  have S0 : Hid (w3.drew.cell? ⟨w.heap.size, 1, none⟩ = some (.int .i64 B)) := b1
  have LY := kx_pin HGD.out.kx HK.out.2.1 B HK.out.2.2
  clear b0 b1 b2
  refine wp_region_held_drew (S := (fun W => W.cell? ⟨w.heap.size, 1, none⟩ = some (.int .i64 B))) (by kernel_rfl) S0.out (fun hH => ?_)
  refine takeH (i := 0) (dst := some 97) (v := ?v39) rfl rfl (by kernel_rfl) (by kernel_rfl) (by kernel_rfl) (fun _ _ _ h => h) rfl ?hy39 hH rfl ?rest39
  case hy39 => (intro W hW; (try dsimp only at hW); go_simp; try with_reducible rfl)
  (try simp only [Act.put, List.setIfInBounds_toArray, List.set_cons_zero, List.set_cons_succ])
  refine takeH (i := 1) (dst := some 98) (v := ?v40) rfl rfl (by kernel_rfl) (by kernel_rfl) (by kernel_rfl) (fun _ _ _ h => h) rfl ?hy40 hH rfl ?rest40
  case hy40 => (intro W hW; (try dsimp only at hW); go_simp; try with_reducible rfl)
  (try simp only [Act.put, List.setIfInBounds_toArray, List.set_cons_zero, List.set_cons_succ])
  refine takeH (i := 2) (dst := some 99) (v := ?v41) rfl rfl (by kernel_rfl) (by kernel_rfl) (by kernel_rfl) (fun _ _ _ h => h) rfl ?hy41 hH rfl ?rest41
  case hy41 => (intro W hW; have e1 := hW; clear hW; go_simp; try with_reducible rfl)
  (try simp only [Act.put, List.setIfInBounds_toArray, List.set_cons_zero, List.set_cons_succ])
  refine takeH (i := 4) (dst := some 101) (v := ?v42) rfl rfl (by kernel_rfl) (by kernel_rfl) (by kernel_rfl) (fun _ _ _ h => h) rfl ?hy42 hH rfl ?rest42
  case hy42 => (intro W hW; (try dsimp only at hW); go_simp; try with_reducible rfl)
  (try simp only [Act.put, List.setIfInBounds_toArray, List.set_cons_zero, List.set_cons_succ])
  refine takeH (i := 5) (dst := some 102) (v := ?v43) rfl rfl (by kernel_rfl) (by kernel_rfl) (by kernel_rfl) (fun _ _ _ h => h) rfl ?hy43 hH rfl ?rest43
  case hy43 => (intro W hW; (try dsimp only at hW); go_simp; try with_reducible rfl)
  (try simp only [Act.put, List.setIfInBounds_toArray, List.set_cons_zero, List.set_cons_succ])
  refine takeH (i := 6) (dst := some 103) (v := ?v44) rfl rfl (by kernel_rfl) (by kernel_rfl) (by kernel_rfl) (fun _ _ _ h => h) rfl ?hy44 hH rfl ?rest44
  case hy44 => (intro W hW; have e1 := hW; clear hW; go_simp; try with_reducible rfl)
  (try simp only [Act.put, List.setIfInBounds_toArray, List.set_cons_zero, List.set_cons_succ])
  refine callH (i := 3) { dst := some 100, op := Go.Op.call { callee := Go.Callee.value (Go.Operand.func 28), args := #[Go.Operand.tmp 97, Go.Operand.tmp 99], argTypes := #[31, 3] }, type := 25, pos := "law.go:59", after := #[{ on := 0, ground := Go.Ground.data }, { on := 2, ground := Go.Ground.data }], guard := none } (by kernel_rfl) rfl rfl (fun K hK => ?_)
  go_simp
  refine LY.mono ?_
  clear LY
  rintro r w4 ⟨er, rfl, hf4, DY⟩
  have S4 : Hid (w4.cell? ⟨w.heap.size, 1, none⟩ = some (.int .i64 B)) := (fr_cell hf4 (a := ⟨w.heap.size, 1, none⟩) HNB.out.2.2 HNB.out.1).trans HC1.out
  clear hf4
  clear hH
  refine hK.out _ _ S4.out (fun hH => ?_)
  clear hK K
  (try simp only [Act.put, List.setIfInBounds_toArray, List.set_cons_zero, List.set_cons_succ])
  refine callH (i := 7) { dst := some 104, op := Go.Op.call { callee := Go.Callee.value (Go.Operand.func 29), args := #[Go.Operand.tmp 101, Go.Operand.tmp 103], argTypes := #[34, 3] }, type := 25, pos := "law.go:59", after := #[{ on := 4, ground := Go.Ground.data }, { on := 6, ground := Go.Ground.data }, { on := 3, ground := Go.Ground.chain }], guard := none } (by kernel_rfl) rfl rfl (fun K hK => ?_)
  go_simp
  refine DY.mono ?_
  clear DY
  rintro r w5 ⟨rfl, hP⟩
  have S5 : Hid (w5.cell? ⟨w.heap.size, 1, none⟩ = some (.int .i64 B)) := (fr_cell hP.fr (a := ⟨w.heap.size, 1, none⟩) HNB.out.2.2 (fun hs => hs.elim HNB.out.1 HNB.out.2.1)).trans HC1.out
  obtain ⟨σ5, D5, h5⟩ := HGD.out.ofP hP
  have HG5 : Hid (Giv pd n w0 w5 p q ed σ5 (κ + 1) D5 go (some ⟨gf, 0, none⟩) 256 dl) := h5
  clear hP h5
  clear hH
  refine hK.out _ _ S5.out (fun hH => ?_)
  clear hK K
  (try simp only [Act.put, List.setIfInBounds_toArray, List.set_cons_zero, List.set_cons_succ])
  refine takeH (i := 8) (dst := some 105) (v := ?v45) rfl rfl (by kernel_rfl) (by kernel_rfl) (by kernel_rfl) (fun _ _ _ h => h) rfl ?hy45 hH rfl ?rest45
  case hy45 => (intro W hW; (try dsimp only at hW); go_simp; try with_reducible rfl)
  (try simp only [Act.put, List.setIfInBounds_toArray, List.set_cons_zero, List.set_cons_succ])
  refine takeH (i := 9) (dst := some 9) (v := ?v46) rfl rfl (by kernel_rfl) (by kernel_rfl) (by kernel_rfl) (fun _ _ _ h => h) rfl ?hy46 hH rfl ?rest46
  case hy46 => (intro W hW; (try dsimp only at hW); go_simp; try with_reducible rfl)
  (try simp only [Act.put, List.setIfInBounds_toArray, List.set_cons_zero, List.set_cons_succ])
  refine wpAnyH_done (by kernel_rfl) ?_ _
  clear hH
  have h5 := HG5.out
  have KT := h5.kept
  rw [HDN.out] at KT
  clear h5
  go_wp2_with (first | (go_at_call 36; refine Hid.out ?_))
  change Calls _ _ _ _ _
  refine KT.mono ?_
  clear KT
  rintro r w6 ⟨rfl, SPK⟩
  go_wp2_with (first | (go_at_call 25; refine Hid.out ?_))
  change Calls _ _ _ _ _
  refine SPK.mono ?_
  clear SPK
  rintro r w7 ⟨rfl, hE⟩
  have HE : Hid (DoP pd n w0 p q ed (κ + 1) w7) := hE
  clear hE
  go_wp2_with fail
  go_ret
  exact ⟨rfl, HE.out⟩
set_option maxHeartbeats 8000000 in
theorem cdo_7 (h : KX pd n w0 w p q ed σ κ D) (hκ : κ ≤ 900) (B : Int) (hB : -9223372036854775808 ≤ B ∧ B ≤ 9223372036854775807) (sp : Option Addr) (cap : Nat) (l : List UInt8) (ha : Arg w0 sp cap l) (hab : 1 ≤ l.length → ∀ b o, sp = some ⟨b, o, none⟩ → b < w0.heap.size) :
    Calls Try.prog 10 #[.pointer (some ⟨p, 0, none⟩), .pointer (some ⟨q, 0, none⟩), .agg #[.int .i64 7, .int .i64 B, .slice sp l.length cap]] w fun e w' => e = .returned (.bool true) ∧ DoP pd n w0 p q ed (κ + 1) w' := by
  have HK : Hid (KX pd n w0 w p q ed σ κ D ∧ κ ≤ 1000 ∧ (-9223372036854775808 ≤ B ∧ B ≤ 9223372036854775807)) := ⟨h, by omega, hB⟩
  have HA : Hid (Arg w0 sp cap l ∧ (1 ≤ l.length → ∀ b o, sp = some ⟨b, o, none⟩ → b < w0.heap.size)) := ⟨ha, hab⟩
  have hle := ha.len
  have HB1 : Hid (Below w.heap.size w (w.alloc (.cells #[.int .i64 7, .int .i64 B, .slice sp l.length cap] 41))) := (Below.refl _ _).alloc (Nat.le_refl _) _
  have hrow := heap_alloc_new w (.cells #[.int .i64 7, .int .i64 B, .slice sp l.length cap] 41)
  have hz1 := size_alloc w (.cells #[.int .i64 7, .int .i64 B, .slice sp l.length cap] 41)
  clear h ha hab hB hκ
  go_enter Try.func10, Try.ntmps10
  go_upto_region 1 with fail
  generalize w.alloc (.cells #[.int .i64 7, .int .i64 B, .slice sp l.length cap] 41) = W1 at *
  have HZ1 : Hid (W1.heap.size = w.heap.size + 1) := hz1
  have HBX : Hid (∀ W, Below W1.heap.size W1 W → W.cell? ⟨w.heap.size, 0, none⟩ = some (.int .i64 7) ∧ W.cell? ⟨w.heap.size, 1, none⟩ = some (.int .i64 B) ∧ W.cell? ⟨w.heap.size, 2, none⟩ = some (.slice sp l.length cap)) := fun W hW => by
    have hr := (hW.block w.heap.size (by omega)).trans hrow
    exact ⟨(cell_of_row _ _ _ _ _ _ hr).trans rfl, (cell_of_row _ _ _ _ _ _ hr).trans rfl, (cell_of_row _ _ _ _ _ _ hr).trans rfl⟩
  obtain ⟨b0, b1, b2⟩ := HBX.out W1 (Below.refl _ _)
  have FA := fill_any W1 sp cap l ((HA.out.1.src.below HK.out.1.be (Nat.le_refl _)).below HB1.out (by have := HK.out.1.be.size; omega)) (by omega)
  clear hrow hz1
  go_wp2_with (first | (go_at_call 20; refine Hid.out ?_))
  change Calls _ _ _ _ _
  refine FA.mono ?_
  clear FA b0 b1 b2
  rintro r w2 ⟨gf, rfl, hBf, hgf, hb2⟩
  obtain ⟨b0, b1, b2⟩ := HBX.out w2 hb2
  have HF : Hid (Blk w2 gf 5 (fillL l) ∧ W1.heap.size ≤ gf ∧ Below W1.heap.size W1 w2) := ⟨hBf, hgf, hb2⟩
  obtain ⟨dl, hdl⟩ : ∃ dl, fillL l = dl := ⟨_, rfl⟩
  have hdn : dl.length = 256 := by rw [← hdl]; exact fillL_length _
  rw [hdl] at hBf
  have hA2 : Arg w2 (some ⟨gf, 0, none⟩) 256 dl := .inr ⟨gf, 0, rfl, by omega, by omega, by omega, by omega, hBf.src⟩
  have LE := lent_any (some ⟨gf, 0, none⟩) 256 dl w2 hA2
  rw [hdn] at LE
  have HDL : Hid (Arg w2 (some ⟨gf, 0, none⟩) 256 dl) := hA2
  have HDN : Hid (dl.length = 256) := hdn
  clear hBf hgf hb2 hA2 hdl hdn
  go_wp2_with (first | (go_at_call 23; refine Hid.out ?_))
  change Calls _ _ _ _ _
  refine LE.mono ?_
  clear LE b0 b1 b2
  rintro r w3 ⟨go, rfl, hBo, hgo, hb3⟩
  have hb13 : Below W1.heap.size W1 w3 := HF.out.2.2.trans (hb3.mono HF.out.2.2.size)
  have HG : Hid (Giv pd n w0 w3 p q ed σ κ D go (some ⟨gf, 0, none⟩) 256 dl) := by
    have hbw : Below w.heap.size w w3 := HB1.out.trans (hb13.mono HB1.out.size)
    have hz := HZ1.out
    have hz2 := HF.out.2.2.size
    have hzb := HK.out.1.be.size
    have hgl : go < w3.heap.size := (Array.getElem?_eq_some_iff.1 hBo).1
    refine ⟨HK.out.1.up hbw, hBo, HDL.out.below hb3 (Nat.le_refl _), ⟨fun hs => ?_, fun hs => ?_, by omega, hgl⟩, fun hl b o e => ?_⟩
    · have := HK.out.1.cs.sk_size hs; omega
    · have := (HK.out.1.no go hs).2.2; omega
    · cases e
      have hgz := HF.out.2.1
      have hgfl : gf < w2.heap.size := (Array.getElem?_eq_some_iff.1 HF.out.1).1
      have hb3s := hb3.size
      refine ⟨fun hs => ?_, fun hs => ?_, by show gf < w3.heap.size; omega, by show gf ≠ go; omega⟩
      · have h5 : gf < w.heap.size := HK.out.1.cs.sk_size hs; omega
      · have h5 : gf < w.heap.size := (HK.out.1.no gf hs).2.2; omega
  have HNB : Hid (¬ Sk σ w.heap.size ∧ ¬ D w.heap.size ∧ w.heap.size < w3.heap.size) := ⟨fun hs => by have := HK.out.1.cs.sk_size hs; omega, fun hs => by have := (HK.out.1.no _ hs).2.2; omega, by have := HZ1.out; have := hb13.size; omega⟩
  obtain ⟨b0, b1, b2⟩ := HBX.out w3 hb13
  have HC1 : Hid (w3.cell? ⟨w.heap.size, 1, none⟩ = some (.int .i64 B)) := b1
  clear hBo hgo hb3 hb13 HDL HF
  go_upto_region 25 with fail
  have HGD : Hid (Giv pd n w0 w3.drew p q ed σ κ D go (some ⟨gf, 0, none⟩) 256 dl) := HG.out.up (Below.refl _ _).drew
  have S0 : Hid (w3.drew.cell? ⟨w.heap.size, 1, none⟩ = some (.int .i64 B)) := b1
  have LY := kx_unpin HGD.out.kx HK.out.2.1 B HK.out.2.2
  clear b0 b1 b2
  refine wp_region_held_drew (S := (fun W => W.cell? ⟨w.heap.size, 1, none⟩ = some (.int .i64 B))) (by kernel_rfl) S0.out (fun hH => ?_)
  refine takeH (i := 0) (dst := some 108) (v := ?v47) rfl rfl (by kernel_rfl) (by kernel_rfl) (by kernel_rfl) (fun _ _ _ h => h) rfl ?hy47 hH rfl ?rest47
  case hy47 => (intro W hW; (try dsimp only at hW); go_simp; try with_reducible rfl)
  (try simp only [Act.put, List.setIfInBounds_toArray, List.set_cons_zero, List.set_cons_succ])
  refine takeH (i := 1) (dst := some 109) (v := ?v48) rfl rfl (by kernel_rfl) (by kernel_rfl) (by kernel_rfl) (fun _ _ _ h => h) rfl ?hy48 hH rfl ?rest48
  case hy48 => (intro W hW; (try dsimp only at hW); go_simp; try with_reducible rfl)
  (try simp only [Act.put, List.setIfInBounds_toArray, List.set_cons_zero, List.set_cons_succ])
  refine takeH (i := 2) (dst := some 110) (v := ?v49) rfl rfl (by kernel_rfl) (by kernel_rfl) (by kernel_rfl) (fun _ _ _ h => h) rfl ?hy49 hH rfl ?rest49
  case hy49 => (intro W hW; have e1 := hW; clear hW; go_simp; try with_reducible rfl)
  (try simp only [Act.put, List.setIfInBounds_toArray, List.set_cons_zero, List.set_cons_succ])
  refine takeH (i := 4) (dst := some 112) (v := ?v50) rfl rfl (by kernel_rfl) (by kernel_rfl) (by kernel_rfl) (fun _ _ _ h => h) rfl ?hy50 hH rfl ?rest50
  case hy50 => (intro W hW; (try dsimp only at hW); go_simp; try with_reducible rfl)
  (try simp only [Act.put, List.setIfInBounds_toArray, List.set_cons_zero, List.set_cons_succ])
  refine takeH (i := 5) (dst := some 113) (v := ?v51) rfl rfl (by kernel_rfl) (by kernel_rfl) (by kernel_rfl) (fun _ _ _ h => h) rfl ?hy51 hH rfl ?rest51
  case hy51 => (intro W hW; (try dsimp only at hW); go_simp; try with_reducible rfl)
  (try simp only [Act.put, List.setIfInBounds_toArray, List.set_cons_zero, List.set_cons_succ])
  refine takeH (i := 6) (dst := some 114) (v := ?v52) rfl rfl (by kernel_rfl) (by kernel_rfl) (by kernel_rfl) (fun _ _ _ h => h) rfl ?hy52 hH rfl ?rest52
  case hy52 => (intro W hW; have e1 := hW; clear hW; go_simp; try with_reducible rfl)
  (try simp only [Act.put, List.setIfInBounds_toArray, List.set_cons_zero, List.set_cons_succ])
  refine callH (i := 3) { dst := some 111, op := Go.Op.call { callee := Go.Callee.value (Go.Operand.func 30), args := #[Go.Operand.tmp 108, Go.Operand.tmp 110], argTypes := #[31, 3] }, type := 25, pos := "law.go:61", after := #[{ on := 0, ground := Go.Ground.data }, { on := 2, ground := Go.Ground.data }], guard := none } (by kernel_rfl) rfl rfl (fun K hK => ?_)
  go_simp
  refine LY.mono ?_
  clear LY
  rintro r w4 ⟨er, rfl, hf4, DY⟩
  have S4 : Hid (w4.cell? ⟨w.heap.size, 1, none⟩ = some (.int .i64 B)) := (fr_cell hf4 (a := ⟨w.heap.size, 1, none⟩) HNB.out.2.2 HNB.out.1).trans HC1.out
  clear hf4
  clear hH
  refine hK.out _ _ S4.out (fun hH => ?_)
  clear hK K
  (try simp only [Act.put, List.setIfInBounds_toArray, List.set_cons_zero, List.set_cons_succ])
  refine callH (i := 7) { dst := some 115, op := Go.Op.call { callee := Go.Callee.value (Go.Operand.func 31), args := #[Go.Operand.tmp 112, Go.Operand.tmp 114], argTypes := #[34, 3] }, type := 25, pos := "law.go:61", after := #[{ on := 4, ground := Go.Ground.data }, { on := 6, ground := Go.Ground.data }, { on := 3, ground := Go.Ground.chain }], guard := none } (by kernel_rfl) rfl rfl (fun K hK => ?_)
  go_simp
  refine DY.mono ?_
  clear DY
  rintro r w5 ⟨rfl, hP⟩
  have S5 : Hid (w5.cell? ⟨w.heap.size, 1, none⟩ = some (.int .i64 B)) := (fr_cell hP.fr (a := ⟨w.heap.size, 1, none⟩) HNB.out.2.2 (fun hs => hs.elim HNB.out.1 HNB.out.2.1)).trans HC1.out
  obtain ⟨σ5, D5, h5⟩ := HGD.out.ofP hP
  have HG5 : Hid (Giv pd n w0 w5 p q ed σ5 (κ + 1) D5 go (some ⟨gf, 0, none⟩) 256 dl) := h5
  clear hP h5
  clear hH
  refine hK.out _ _ S5.out (fun hH => ?_)
  clear hK K
  (try simp only [Act.put, List.setIfInBounds_toArray, List.set_cons_zero, List.set_cons_succ])
  refine takeH (i := 8) (dst := some 116) (v := ?v53) rfl rfl (by kernel_rfl) (by kernel_rfl) (by kernel_rfl) (fun _ _ _ h => h) rfl ?hy53 hH rfl ?rest53
  case hy53 => (intro W hW; (try dsimp only at hW); go_simp; try with_reducible rfl)
  (try simp only [Act.put, List.setIfInBounds_toArray, List.set_cons_zero, List.set_cons_succ])
  refine takeH (i := 9) (dst := some 9) (v := ?v54) rfl rfl (by kernel_rfl) (by kernel_rfl) (by kernel_rfl) (fun _ _ _ h => h) rfl ?hy54 hH rfl ?rest54
  case hy54 => (intro W hW; (try dsimp only at hW); go_simp; try with_reducible rfl)
  (try simp only [Act.put, List.setIfInBounds_toArray, List.set_cons_zero, List.set_cons_succ])
  refine wpAnyH_done (by kernel_rfl) ?_ _
  clear hH
  have h5 := HG5.out
  have KT := h5.kept
  rw [HDN.out] at KT
  clear h5
  go_wp2_with (first | (go_at_call 36; refine Hid.out ?_))
  change Calls _ _ _ _ _
  refine KT.mono ?_
  clear KT
  rintro r w6 ⟨rfl, SPK⟩
  go_wp2_with (first | (go_at_call 25; refine Hid.out ?_))
  change Calls _ _ _ _ _
  refine SPK.mono ?_
  clear SPK
  rintro r w7 ⟨rfl, hE⟩
  have HE : Hid (DoP pd n w0 p q ed (κ + 1) w7) := hE
  clear hE
  go_wp2_with fail
  go_ret
  exact ⟨rfl, HE.out⟩
end
end Go.Proofs.Ytikpnfnbmbaljaa
/- leveelaw10.do, kind by kind. -/
namespace Go.Proofs.Ytikpnfnbmbaljaa
open Go.RowKit
set_option maxRecDepth 100000
section
variable {pd n : Nat} {w0 w : World} {p q ed : Nat} {σ : CSt} {κ : Nat} {D : Nat → Prop}
set_option maxHeartbeats 8000000 in
theorem cdo_8 (h : KX pd n w0 w p q ed σ κ D) (hκ : κ ≤ 900) (B : Int) (hB : -9223372036854775808 ≤ B ∧ B ≤ 9223372036854775807) (sp : Option Addr) (cap : Nat) (l : List UInt8) (ha : Arg w0 sp cap l) (hab : 1 ≤ l.length → ∀ b o, sp = some ⟨b, o, none⟩ → b < w0.heap.size) :
    Calls Try.prog 10 #[.pointer (some ⟨p, 0, none⟩), .pointer (some ⟨q, 0, none⟩), .agg #[.int .i64 8, .int .i64 B, .slice sp l.length cap]] w fun e w' => e = .returned (.bool true) ∧ DoP pd n w0 p q ed (κ + 1) w' := by
  have HK : Hid (KX pd n w0 w p q ed σ κ D ∧ κ ≤ 1000 ∧ (-9223372036854775808 ≤ B ∧ B ≤ 9223372036854775807)) := ⟨h, by omega, hB⟩
  have HA : Hid (Arg w0 sp cap l ∧ (1 ≤ l.length → ∀ b o, sp = some ⟨b, o, none⟩ → b < w0.heap.size)) := ⟨ha, hab⟩
  have hle := ha.len
  have HB1 : Hid (Below w.heap.size w (w.alloc (.cells #[.int .i64 8, .int .i64 B, .slice sp l.length cap] 41))) := (Below.refl _ _).alloc (Nat.le_refl _) _
  have hrow := heap_alloc_new w (.cells #[.int .i64 8, .int .i64 B, .slice sp l.length cap] 41)
  have hz1 := size_alloc w (.cells #[.int .i64 8, .int .i64 B, .slice sp l.length cap] 41)
  clear h ha hab hB hκ
  go_enter Try.func10, Try.ntmps10
  go_upto_region 1 with fail
  generalize w.alloc (.cells #[.int .i64 8, .int .i64 B, .slice sp l.length cap] 41) = W1 at *
  have HZ1 : Hid (W1.heap.size = w.heap.size + 1) := hz1
  have HBX : Hid (∀ W, Below W1.heap.size W1 W → W.cell? ⟨w.heap.size, 0, none⟩ = some (.int .i64 8) ∧ W.cell? ⟨w.heap.size, 1, none⟩ = some (.int .i64 B) ∧ W.cell? ⟨w.heap.size, 2, none⟩ = some (.slice sp l.length cap)) := fun W hW => by
    have hr := (hW.block w.heap.size (by omega)).trans hrow
    exact ⟨(cell_of_row _ _ _ _ _ _ hr).trans rfl, (cell_of_row _ _ _ _ _ _ hr).trans rfl, (cell_of_row _ _ _ _ _ _ hr).trans rfl⟩
  obtain ⟨b0, b1, b2⟩ := HBX.out W1 (Below.refl _ _)
  have FA := fill_any W1 sp cap l ((HA.out.1.src.below HK.out.1.be (Nat.le_refl _)).below HB1.out (by have := HK.out.1.be.size; omega)) (by omega)
  clear hrow hz1
  go_wp2_with (first | (go_at_call 20; refine Hid.out ?_))
  change Calls _ _ _ _ _
  refine FA.mono ?_
  clear FA b0 b1 b2
  rintro r w2 ⟨gf, rfl, hBf, hgf, hb2⟩
  obtain ⟨b0, b1, b2⟩ := HBX.out w2 hb2
  have HF : Hid (Blk w2 gf 5 (fillL l) ∧ W1.heap.size ≤ gf ∧ Below W1.heap.size W1 w2) := ⟨hBf, hgf, hb2⟩
  obtain ⟨dl, hdl⟩ : ∃ dl, fillL l = dl := ⟨_, rfl⟩
  have hdn : dl.length = 256 := by rw [← hdl]; exact fillL_length _
  rw [hdl] at hBf
  have hA2 : Arg w2 (some ⟨gf, 0, none⟩) 256 dl := .inr ⟨gf, 0, rfl, by omega, by omega, by omega, by omega, hBf.src⟩
  have LE := lent_any (some ⟨gf, 0, none⟩) 256 dl w2 hA2
  rw [hdn] at LE
  have HDL : Hid (Arg w2 (some ⟨gf, 0, none⟩) 256 dl) := hA2
  have HDN : Hid (dl.length = 256) := hdn
  clear hBf hgf hb2 hA2 hdl hdn
  go_wp2_with (first | (go_at_call 23; refine Hid.out ?_))
  change Calls _ _ _ _ _
  refine LE.mono ?_
  clear LE b0 b1 b2
  rintro r w3 ⟨go, rfl, hBo, hgo, hb3⟩
  have hb13 : Below W1.heap.size W1 w3 := HF.out.2.2.trans (hb3.mono HF.out.2.2.size)
  have HG : Hid (Giv pd n w0 w3 p q ed σ κ D go (some ⟨gf, 0, none⟩) 256 dl) := by
    have hbw : Below w.heap.size w w3 := HB1.out.trans (hb13.mono HB1.out.size)
    have hz := HZ1.out
    have hz2 := HF.out.2.2.size
    have hzb := HK.out.1.be.size
    have hgl : go < w3.heap.size := (Array.getElem?_eq_some_iff.1 hBo).1
    refine ⟨HK.out.1.up hbw, hBo, HDL.out.below hb3 (Nat.le_refl _), ⟨fun hs => ?_, fun hs => ?_, by omega, hgl⟩, fun hl b o e => ?_⟩
    · have := HK.out.1.cs.sk_size hs; omega
    · have := (HK.out.1.no go hs).2.2; omega
    · cases e
      have hgz := HF.out.2.1
      have hgfl : gf < w2.heap.size := (Array.getElem?_eq_some_iff.1 HF.out.1).1
      have hb3s := hb3.size
      refine ⟨fun hs => ?_, fun hs => ?_, by show gf < w3.heap.size; omega, by show gf ≠ go; omega⟩
      · have h5 : gf < w.heap.size := HK.out.1.cs.sk_size hs; omega
      · have h5 : gf < w.heap.size := (HK.out.1.no gf hs).2.2; omega
  have HNB : Hid (¬ Sk σ w.heap.size ∧ ¬ D w.heap.size ∧ w.heap.size < w3.heap.size) := ⟨fun hs => by have := HK.out.1.cs.sk_size hs; omega, fun hs => by have := (HK.out.1.no _ hs).2.2; omega, by have := HZ1.out; have := hb13.size; omega⟩
  obtain ⟨b0, b1, b2⟩ := HBX.out w3 hb13
  have HC1 : Hid (w3.cell? ⟨w.heap.size, 1, none⟩ = some (.int .i64 B)) := b1
  clear hBo hgo hb3 hb13 HDL HF
  go_upto_region 27 with fail
  have HGD : Hid (Giv pd n w0 w3.drew p q ed σ κ D go (some ⟨gf, 0, none⟩) 256 dl) := HG.out.up (Below.refl _ _).drew
  have S0 : Hid (w3.drew.cell? ⟨w.heap.size, 1, none⟩ = some (.int .i64 B)) := b1
  have LY := kx_drop HGD.out.kx B HK.out.2.2
  clear b0 b1 b2
  refine wp_region_held_drew (S := (fun W => W.cell? ⟨w.heap.size, 1, none⟩ = some (.int .i64 B))) (by kernel_rfl) S0.out (fun hH => ?_)
  refine takeH (i := 0) (dst := some 119) (v := ?v55) rfl rfl (by kernel_rfl) (by kernel_rfl) (by kernel_rfl) (fun _ _ _ h => h) rfl ?hy55 hH rfl ?rest55
  case hy55 => (intro W hW; (try dsimp only at hW); go_simp; try with_reducible rfl)
  (try simp only [Act.put, List.setIfInBounds_toArray, List.set_cons_zero, List.set_cons_succ])
  refine takeH (i := 1) (dst := some 120) (v := ?v56) rfl rfl (by kernel_rfl) (by kernel_rfl) (by kernel_rfl) (fun _ _ _ h => h) rfl ?hy56 hH rfl ?rest56
  case hy56 => (intro W hW; (try dsimp only at hW); go_simp; try with_reducible rfl)
  (try simp only [Act.put, List.setIfInBounds_toArray, List.set_cons_zero, List.set_cons_succ])
  refine takeH (i := 2) (dst := some 121) (v := ?v57) rfl rfl (by kernel_rfl) (by kernel_rfl) (by kernel_rfl) (fun _ _ _ h => h) rfl ?hy57 hH rfl ?rest57
  case hy57 => (intro W hW; have e1 := hW; clear hW; go_simp; try with_reducible rfl)
  (try simp only [Act.put, List.setIfInBounds_toArray, List.set_cons_zero, List.set_cons_succ])
  refine takeH (i := 4) (dst := some 123) (v := ?v58) rfl rfl (by kernel_rfl) (by kernel_rfl) (by kernel_rfl) (fun _ _ _ h => h) rfl ?hy58 hH rfl ?rest58
  case hy58 => (intro W hW; (try dsimp only at hW); go_simp; try with_reducible rfl)
  (try simp only [Act.put, List.setIfInBounds_toArray, List.set_cons_zero, List.set_cons_succ])
  refine takeH (i := 5) (dst := some 124) (v := ?v59) rfl rfl (by kernel_rfl) (by kernel_rfl) (by kernel_rfl) (fun _ _ _ h => h) rfl ?hy59 hH rfl ?rest59
  case hy59 => (intro W hW; (try dsimp only at hW); go_simp; try with_reducible rfl)
  (try simp only [Act.put, List.setIfInBounds_toArray, List.set_cons_zero, List.set_cons_succ])
  refine takeH (i := 6) (dst := some 125) (v := ?v60) rfl rfl (by kernel_rfl) (by kernel_rfl) (by kernel_rfl) (fun _ _ _ h => h) rfl ?hy60 hH rfl ?rest60
  case hy60 => (intro W hW; have e1 := hW; clear hW; go_simp; try with_reducible rfl)
  (try simp only [Act.put, List.setIfInBounds_toArray, List.set_cons_zero, List.set_cons_succ])
  refine callH (i := 3) { dst := some 122, op := Go.Op.call { callee := Go.Callee.value (Go.Operand.func 32), args := #[Go.Operand.tmp 119, Go.Operand.tmp 121], argTypes := #[31, 3] }, type := 25, pos := "law.go:63", after := #[{ on := 0, ground := Go.Ground.data }, { on := 2, ground := Go.Ground.data }], guard := none } (by kernel_rfl) rfl rfl (fun K hK => ?_)
  go_simp
  refine LY.mono ?_
  clear LY
  rintro r w4 ⟨er, rfl, hf4, DY⟩
  have S4 : Hid (w4.cell? ⟨w.heap.size, 1, none⟩ = some (.int .i64 B)) := (fr_cell hf4 (a := ⟨w.heap.size, 1, none⟩) HNB.out.2.2 HNB.out.1).trans HC1.out
  clear hf4
  clear hH
  refine hK.out _ _ S4.out (fun hH => ?_)
  clear hK K
  (try simp only [Act.put, List.setIfInBounds_toArray, List.set_cons_zero, List.set_cons_succ])
  refine callH (i := 7) { dst := some 126, op := Go.Op.call { callee := Go.Callee.value (Go.Operand.func 33), args := #[Go.Operand.tmp 123, Go.Operand.tmp 125], argTypes := #[34, 3] }, type := 25, pos := "law.go:63", after := #[{ on := 4, ground := Go.Ground.data }, { on := 6, ground := Go.Ground.data }, { on := 3, ground := Go.Ground.chain }], guard := none } (by kernel_rfl) rfl rfl (fun K hK => ?_)
  go_simp
  refine DY.mono ?_
  clear DY
  rintro r w5 ⟨rfl, hP⟩
  have S5 : Hid (w5.cell? ⟨w.heap.size, 1, none⟩ = some (.int .i64 B)) := (fr_cell hP.fr (a := ⟨w.heap.size, 1, none⟩) HNB.out.2.2 (fun hs => hs.elim HNB.out.1 HNB.out.2.1)).trans HC1.out
  obtain ⟨σ5, D5, h5⟩ := HGD.out.ofP hP
  have HG5 : Hid (Giv pd n w0 w5 p q ed σ5 (κ + 1) D5 go (some ⟨gf, 0, none⟩) 256 dl) := h5
  clear hP h5
  clear hH
  refine hK.out _ _ S5.out (fun hH => ?_)
  clear hK K
  (try simp only [Act.put, List.setIfInBounds_toArray, List.set_cons_zero, List.set_cons_succ])
  refine takeH (i := 8) (dst := some 127) (v := ?v61) rfl rfl (by kernel_rfl) (by kernel_rfl) (by kernel_rfl) (fun _ _ _ h => h) rfl ?hy61 hH rfl ?rest61
  case hy61 => (intro W hW; (try dsimp only at hW); go_simp; try with_reducible rfl)
  (try simp only [Act.put, List.setIfInBounds_toArray, List.set_cons_zero, List.set_cons_succ])
  refine takeH (i := 9) (dst := some 9) (v := ?v62) rfl rfl (by kernel_rfl) (by kernel_rfl) (by kernel_rfl) (fun _ _ _ h => h) rfl ?hy62 hH rfl ?rest62
  case hy62 => (intro W hW; (try dsimp only at hW); go_simp; try with_reducible rfl)
  (try simp only [Act.put, List.setIfInBounds_toArray, List.set_cons_zero, List.set_cons_succ])
  refine wpAnyH_done (by kernel_rfl) ?_ _
  clear hH
  have h5 := HG5.out
  have KT := h5.kept
  rw [HDN.out] at KT
  clear h5
  go_wp2_with (first | (go_at_call 36; refine Hid.out ?_))
  change Calls _ _ _ _ _
  refine KT.mono ?_
  clear KT
  rintro r w6 ⟨rfl, SPK⟩
  go_wp2_with (first | (go_at_call 25; refine Hid.out ?_))
  change Calls _ _ _ _ _
  refine SPK.mono ?_
  clear SPK
  rintro r w7 ⟨rfl, hE⟩
  have HE : Hid (DoP pd n w0 p q ed (κ + 1) w7) := hE
  clear hE
  go_wp2_with fail
  go_ret
  exact ⟨rfl, HE.out⟩
set_option maxHeartbeats 8000000 in
theorem cdo_9 (h : KX pd n w0 w p q ed σ κ D) (hκ : κ ≤ 900) (B : Int) (hB : -9223372036854775808 ≤ B ∧ B ≤ 9223372036854775807) (sp : Option Addr) (cap : Nat) (l : List UInt8) (ha : Arg w0 sp cap l) (hab : 1 ≤ l.length → ∀ b o, sp = some ⟨b, o, none⟩ → b < w0.heap.size) :
    Calls Try.prog 10 #[.pointer (some ⟨p, 0, none⟩), .pointer (some ⟨q, 0, none⟩), .agg #[.int .i64 9, .int .i64 B, .slice sp l.length cap]] w fun e w' => e = .returned (.bool true) ∧ DoP pd n w0 p q ed (κ + 1) w' := by
  have HK : Hid (KX pd n w0 w p q ed σ κ D ∧ κ ≤ 1000 ∧ (-9223372036854775808 ≤ B ∧ B ≤ 9223372036854775807)) := ⟨h, by omega, hB⟩
  have HA : Hid (Arg w0 sp cap l ∧ (1 ≤ l.length → ∀ b o, sp = some ⟨b, o, none⟩ → b < w0.heap.size)) := ⟨ha, hab⟩
  have hle := ha.len
  have HB1 : Hid (Below w.heap.size w (w.alloc (.cells #[.int .i64 9, .int .i64 B, .slice sp l.length cap] 41))) := (Below.refl _ _).alloc (Nat.le_refl _) _
  have hrow := heap_alloc_new w (.cells #[.int .i64 9, .int .i64 B, .slice sp l.length cap] 41)
  have hz1 := size_alloc w (.cells #[.int .i64 9, .int .i64 B, .slice sp l.length cap] 41)
  clear h ha hab hB hκ
  go_enter Try.func10, Try.ntmps10
  go_upto_region 1 with fail
  generalize w.alloc (.cells #[.int .i64 9, .int .i64 B, .slice sp l.length cap] 41) = W1 at *
  have HZ1 : Hid (W1.heap.size = w.heap.size + 1) := hz1
  have HBX : Hid (∀ W, Below W1.heap.size W1 W → W.cell? ⟨w.heap.size, 0, none⟩ = some (.int .i64 9) ∧ W.cell? ⟨w.heap.size, 1, none⟩ = some (.int .i64 B) ∧ W.cell? ⟨w.heap.size, 2, none⟩ = some (.slice sp l.length cap)) := fun W hW => by
    have hr := (hW.block w.heap.size (by omega)).trans hrow
    exact ⟨(cell_of_row _ _ _ _ _ _ hr).trans rfl, (cell_of_row _ _ _ _ _ _ hr).trans rfl, (cell_of_row _ _ _ _ _ _ hr).trans rfl⟩
  obtain ⟨b0, b1, b2⟩ := HBX.out W1 (Below.refl _ _)
  have FA := fill_any W1 sp cap l ((HA.out.1.src.below HK.out.1.be (Nat.le_refl _)).below HB1.out (by have := HK.out.1.be.size; omega)) (by omega)
  clear hrow hz1
  go_wp2_with (first | (go_at_call 20; refine Hid.out ?_))
  change Calls _ _ _ _ _
  refine FA.mono ?_
  clear FA b0 b1 b2
  rintro r w2 ⟨gf, rfl, hBf, hgf, hb2⟩
  obtain ⟨b0, b1, b2⟩ := HBX.out w2 hb2
  have HF : Hid (Blk w2 gf 5 (fillL l) ∧ W1.heap.size ≤ gf ∧ Below W1.heap.size W1 w2) := ⟨hBf, hgf, hb2⟩
  obtain ⟨dl, hdl⟩ : ∃ dl, fillL l = dl := ⟨_, rfl⟩
  have hdn : dl.length = 256 := by rw [← hdl]; exact fillL_length _
  rw [hdl] at hBf
  have hA2 : Arg w2 (some ⟨gf, 0, none⟩) 256 dl := .inr ⟨gf, 0, rfl, by omega, by omega, by omega, by omega, hBf.src⟩
  have LE := lent_any (some ⟨gf, 0, none⟩) 256 dl w2 hA2
  rw [hdn] at LE
  have HDL : Hid (Arg w2 (some ⟨gf, 0, none⟩) 256 dl) := hA2
  have HDN : Hid (dl.length = 256) := hdn
  clear hBf hgf hb2 hA2 hdl hdn
  go_wp2_with (first | (go_at_call 23; refine Hid.out ?_))
  change Calls _ _ _ _ _
  refine LE.mono ?_
  clear LE b0 b1 b2
  rintro r w3 ⟨go, rfl, hBo, hgo, hb3⟩
  have hb13 : Below W1.heap.size W1 w3 := HF.out.2.2.trans (hb3.mono HF.out.2.2.size)
  have HG : Hid (Giv pd n w0 w3 p q ed σ κ D go (some ⟨gf, 0, none⟩) 256 dl) := by
    have hbw : Below w.heap.size w w3 := HB1.out.trans (hb13.mono HB1.out.size)
    have hz := HZ1.out
    have hz2 := HF.out.2.2.size
    have hzb := HK.out.1.be.size
    have hgl : go < w3.heap.size := (Array.getElem?_eq_some_iff.1 hBo).1
    refine ⟨HK.out.1.up hbw, hBo, HDL.out.below hb3 (Nat.le_refl _), ⟨fun hs => ?_, fun hs => ?_, by omega, hgl⟩, fun hl b o e => ?_⟩
    · have := HK.out.1.cs.sk_size hs; omega
    · have := (HK.out.1.no go hs).2.2; omega
    · cases e
      have hgz := HF.out.2.1
      have hgfl : gf < w2.heap.size := (Array.getElem?_eq_some_iff.1 HF.out.1).1
      have hb3s := hb3.size
      refine ⟨fun hs => ?_, fun hs => ?_, by show gf < w3.heap.size; omega, by show gf ≠ go; omega⟩
      · have h5 : gf < w.heap.size := HK.out.1.cs.sk_size hs; omega
      · have h5 : gf < w.heap.size := (HK.out.1.no gf hs).2.2; omega
  have HNB : Hid (¬ Sk σ w.heap.size ∧ ¬ D w.heap.size ∧ w.heap.size < w3.heap.size) := ⟨fun hs => by have := HK.out.1.cs.sk_size hs; omega, fun hs => by have := (HK.out.1.no _ hs).2.2; omega, by have := HZ1.out; have := hb13.size; omega⟩
  obtain ⟨b0, b1, b2⟩ := HBX.out w3 hb13
  have HC1 : Hid (w3.cell? ⟨w.heap.size, 1, none⟩ = some (.int .i64 B)) := b1
  clear hBo hgo hb3 hb13 HDL HF
  go_upto_region 29 with fail
  have HGD : Hid (Giv pd n w0 w3.drew p q ed σ κ D go (some ⟨gf, 0, none⟩) 256 dl) := HG.out.up (Below.refl _ _).drew
  have S0 : Hid (w3.drew.cell? ⟨q, 0, none⟩ = some (.pointer (some ⟨ed, 0, none⟩))) := by
    obtain ⟨v, base, ver, gb, cb, va, vc, hQ, _⟩ := HGD.out.kx.q
    exact hQ.c0
  have LY := kx_flush HGD.out.kx
  clear b0 b1 b2
  refine wp_region_held_drew (S := (fun W => W.cell? ⟨q, 0, none⟩ = some (.pointer (some ⟨ed, 0, none⟩)))) (by kernel_rfl) S0.out (fun hH => ?_)
  refine takeH (i := 0) (dst := some 130) (v := ?v63) rfl rfl (by kernel_rfl) (by kernel_rfl) (by kernel_rfl) (fun _ _ _ h => h) rfl ?hy63 hH rfl ?rest63
  case hy63 => (intro W hW; (try dsimp only at hW); go_simp; try with_reducible rfl)
  (try simp only [Act.put, List.setIfInBounds_toArray, List.set_cons_zero, List.set_cons_succ])
  refine takeH (i := 2) (dst := some 132) (v := ?v64) rfl rfl (by kernel_rfl) (by kernel_rfl) (by kernel_rfl) (fun _ _ _ h => h) rfl ?hy64 hH rfl ?rest64
  case hy64 => (intro W hW; (try dsimp only at hW); go_simp; try with_reducible rfl)
  (try simp only [Act.put, List.setIfInBounds_toArray, List.set_cons_zero, List.set_cons_succ])
  refine takeH (i := 3) (dst := some 133) (v := ?v65) rfl rfl (by kernel_rfl) (by kernel_rfl) (by kernel_rfl) (fun _ _ _ h => h) rfl ?hy65 hH rfl ?rest65
  case hy65 => (intro W hW; (try dsimp only at hW); go_simp; try with_reducible rfl)
  (try simp only [Act.put, List.setIfInBounds_toArray, List.set_cons_zero, List.set_cons_succ])
  refine takeH (i := 4) (dst := some 134) (v := ?v66) rfl rfl (by kernel_rfl) (by kernel_rfl) (by kernel_rfl) (fun _ _ _ h => h) rfl ?hy66 hH rfl ?rest66
  case hy66 => (intro W hW; (try dsimp only at hW); go_simp; try with_reducible rfl)
  (try simp only [Act.put, List.setIfInBounds_toArray, List.set_cons_zero, List.set_cons_succ])
  refine takeH (i := 5) (dst := some 135) (v := ?v67) rfl rfl (by kernel_rfl) (by kernel_rfl) (by kernel_rfl) (fun _ _ _ h => h) rfl ?hy67 hH rfl ?rest67
  case hy67 => (intro W hW; have e1 := hW; clear hW; go_simp; try with_reducible rfl)
  (try simp only [Act.put, List.setIfInBounds_toArray, List.set_cons_zero, List.set_cons_succ])
  refine callH (i := 1) { dst := some 131, op := Go.Op.call { callee := Go.Callee.value (Go.Operand.func 34), args := #[Go.Operand.tmp 130], argTypes := #[31] }, type := 25, pos := "law.go:65", after := #[{ on := 0, ground := Go.Ground.data }], guard := none } (by kernel_rfl) rfl rfl (fun K hK => ?_)
  go_simp
  refine LY.mono ?_
  clear LY
  rintro r w4 ⟨rfl, hf4, hq4, DYF⟩
  have S4 : Hid (w4.cell? ⟨q, 0, none⟩ = some (.pointer (some ⟨ed, 0, none⟩))) := hq4
  have DY := DYF w4 (Below.refl _ _)
  clear hf4 hq4 DYF
  clear hH
  refine hK.out _ _ S4.out (fun hH => ?_)
  clear hK K
  (try simp only [Act.put, List.setIfInBounds_toArray, List.set_cons_zero, List.set_cons_succ])
  refine callH (i := 6) { dst := some 136, op := Go.Op.call { callee := Go.Callee.value (Go.Operand.func 35), args := #[Go.Operand.tmp 135], argTypes := #[28] }, type := 25, pos := "law.go:65", after := #[{ on := 5, ground := Go.Ground.data }, { on := 1, ground := Go.Ground.chain }], guard := none } (by kernel_rfl) rfl rfl (fun K hK => ?_)
  go_simp
  refine DY.mono ?_
  clear DY
  rintro r w5 ⟨rfl, hP⟩
  obtain ⟨σ5, D5, h5⟩ := HGD.out.ofP hP
  have S5 : Hid (w5.cell? ⟨q, 0, none⟩ = some (.pointer (some ⟨ed, 0, none⟩))) := by
    obtain ⟨v, base, ver, gb, cb, va, vc, hQ, _⟩ := h5.kx.q
    exact hQ.c0
  have HG5 : Hid (Giv pd n w0 w5 p q ed σ5 (κ + 1) D5 go (some ⟨gf, 0, none⟩) 256 dl) := h5
  clear hP h5
  clear hH
  refine hK.out _ _ S5.out (fun hH => ?_)
  clear hK K
  (try simp only [Act.put, List.setIfInBounds_toArray, List.set_cons_zero, List.set_cons_succ])
  refine takeH (i := 7) (dst := some 137) (v := ?v68) rfl rfl (by kernel_rfl) (by kernel_rfl) (by kernel_rfl) (fun _ _ _ h => h) rfl ?hy68 hH rfl ?rest68
  case hy68 => (intro W hW; (try dsimp only at hW); go_simp; try with_reducible rfl)
  (try simp only [Act.put, List.setIfInBounds_toArray, List.set_cons_zero, List.set_cons_succ])
  refine takeH (i := 8) (dst := some 9) (v := ?v69) rfl rfl (by kernel_rfl) (by kernel_rfl) (by kernel_rfl) (fun _ _ _ h => h) rfl ?hy69 hH rfl ?rest69
  case hy69 => (intro W hW; (try dsimp only at hW); go_simp; try with_reducible rfl)
  (try simp only [Act.put, List.setIfInBounds_toArray, List.set_cons_zero, List.set_cons_succ])
  refine wpAnyH_done (by kernel_rfl) ?_ _
  clear hH
  have h5 := HG5.out
  have KT := h5.kept
  rw [HDN.out] at KT
  clear h5
  go_wp2_with (first | (go_at_call 36; refine Hid.out ?_))
  change Calls _ _ _ _ _
  refine KT.mono ?_
  clear KT
  rintro r w6 ⟨rfl, SPK⟩
  go_wp2_with (first | (go_at_call 25; refine Hid.out ?_))
  change Calls _ _ _ _ _
  refine SPK.mono ?_
  clear SPK
  rintro r w7 ⟨rfl, hE⟩
  have HE : Hid (DoP pd n w0 p q ed (κ + 1) w7) := hE
  clear hE
  go_wp2_with fail
  go_ret
  exact ⟨rfl, HE.out⟩
set_option maxHeartbeats 8000000 in
theorem cdo_10 (h : KX pd n w0 w p q ed σ κ D) (hκ : κ ≤ 900) (B : Int) (hB : -9223372036854775808 ≤ B ∧ B ≤ 9223372036854775807) (sp : Option Addr) (cap : Nat) (l : List UInt8) (ha : Arg w0 sp cap l) (hab : 1 ≤ l.length → ∀ b o, sp = some ⟨b, o, none⟩ → b < w0.heap.size) :
    Calls Try.prog 10 #[.pointer (some ⟨p, 0, none⟩), .pointer (some ⟨q, 0, none⟩), .agg #[.int .i64 10, .int .i64 B, .slice sp l.length cap]] w fun e w' => e = .returned (.bool true) ∧ DoP pd n w0 p q ed (κ + 1) w' := by
  have HK : Hid (KX pd n w0 w p q ed σ κ D ∧ κ ≤ 1000 ∧ (-9223372036854775808 ≤ B ∧ B ≤ 9223372036854775807)) := ⟨h, by omega, hB⟩
  have HA : Hid (Arg w0 sp cap l ∧ (1 ≤ l.length → ∀ b o, sp = some ⟨b, o, none⟩ → b < w0.heap.size)) := ⟨ha, hab⟩
  have hle := ha.len
  have HB1 : Hid (Below w.heap.size w (w.alloc (.cells #[.int .i64 10, .int .i64 B, .slice sp l.length cap] 41))) := (Below.refl _ _).alloc (Nat.le_refl _) _
  have hrow := heap_alloc_new w (.cells #[.int .i64 10, .int .i64 B, .slice sp l.length cap] 41)
  have hz1 := size_alloc w (.cells #[.int .i64 10, .int .i64 B, .slice sp l.length cap] 41)
  clear h ha hab hB hκ
  go_enter Try.func10, Try.ntmps10
  go_upto_region 1 with fail
  generalize w.alloc (.cells #[.int .i64 10, .int .i64 B, .slice sp l.length cap] 41) = W1 at *
  have HZ1 : Hid (W1.heap.size = w.heap.size + 1) := hz1
  have HBX : Hid (∀ W, Below W1.heap.size W1 W → W.cell? ⟨w.heap.size, 0, none⟩ = some (.int .i64 10) ∧ W.cell? ⟨w.heap.size, 1, none⟩ = some (.int .i64 B) ∧ W.cell? ⟨w.heap.size, 2, none⟩ = some (.slice sp l.length cap)) := fun W hW => by
    have hr := (hW.block w.heap.size (by omega)).trans hrow
    exact ⟨(cell_of_row _ _ _ _ _ _ hr).trans rfl, (cell_of_row _ _ _ _ _ _ hr).trans rfl, (cell_of_row _ _ _ _ _ _ hr).trans rfl⟩
  obtain ⟨b0, b1, b2⟩ := HBX.out W1 (Below.refl _ _)
  have FA := fill_any W1 sp cap l ((HA.out.1.src.below HK.out.1.be (Nat.le_refl _)).below HB1.out (by have := HK.out.1.be.size; omega)) (by omega)
  clear hrow hz1
  go_wp2_with (first | (go_at_call 20; refine Hid.out ?_))
  change Calls _ _ _ _ _
  refine FA.mono ?_
  clear FA b0 b1 b2
  rintro r w2 ⟨gf, rfl, hBf, hgf, hb2⟩
  obtain ⟨b0, b1, b2⟩ := HBX.out w2 hb2
  have HF : Hid (Blk w2 gf 5 (fillL l) ∧ W1.heap.size ≤ gf ∧ Below W1.heap.size W1 w2) := ⟨hBf, hgf, hb2⟩
  have hA2 : Arg w2 sp cap l := ((HA.out.1.below HK.out.1.be (Nat.le_refl _)).below HB1.out (by have := HK.out.1.be.size; omega)).below hb2 (by have := HB1.out.size; omega)
  have LE := lent_any sp cap l w2 hA2
  have HDL : Hid (Arg w2 sp cap l) := hA2
  clear hBf hgf hb2 hA2
  go_wp2_with (first | (go_at_call 23; refine Hid.out ?_))
  change Calls _ _ _ _ _
  refine LE.mono ?_
  clear LE b0 b1 b2
  rintro r w3 ⟨go, rfl, hBo, hgo, hb3⟩
  have hb13 : Below W1.heap.size W1 w3 := HF.out.2.2.trans (hb3.mono HF.out.2.2.size)
  have HG : Hid (Giv pd n w0 w3 p q ed σ κ D go sp cap l) := by
    have hbw : Below w.heap.size w w3 := HB1.out.trans (hb13.mono HB1.out.size)
    have hz := HZ1.out
    have hz2 := HF.out.2.2.size
    have hzb := HK.out.1.be.size
    have hgl : go < w3.heap.size := (Array.getElem?_eq_some_iff.1 hBo).1
    refine ⟨HK.out.1.up hbw, hBo, HDL.out.below hb3 (Nat.le_refl _), ⟨fun hs => ?_, fun hs => ?_, by omega, hgl⟩, fun hl b o e => ?_⟩
    · have := HK.out.1.cs.sk_size hs; omega
    · have := (HK.out.1.no go hs).2.2; omega
    · have h1 := HA.out.2 hl b o e
      refine ⟨fun hs => ?_, fun hs => ?_, by have := hbw.size; omega, by omega⟩
      · have := HK.out.1.cs.sk_ge hs; omega
      · have := (HK.out.1.no b hs).2.1; omega
  have HNB : Hid (¬ Sk σ w.heap.size ∧ ¬ D w.heap.size ∧ w.heap.size < w3.heap.size) := ⟨fun hs => by have := HK.out.1.cs.sk_size hs; omega, fun hs => by have := (HK.out.1.no _ hs).2.2; omega, by have := HZ1.out; have := hb13.size; omega⟩
  obtain ⟨b0, b1, b2⟩ := HBX.out w3 hb13
  have HC1 : Hid (w3.cell? ⟨w.heap.size, 1, none⟩ = some (.int .i64 B)) := b1
  clear hBo hgo hb3 hb13 HDL HF
  go_upto_region 16 with fail
  have HGD : Hid (Giv pd n w0 w3.drew p q ed σ κ D go sp cap l) := HG.out.up (Below.refl _ _).drew
  have S0 : Hid (w3.drew.cell? ⟨w.heap.size, 1, none⟩ = some (.int .i64 B)) := b1
  have LY := kx_lay HGD.out.kx HK.out.2.1 B l go (l.length + 8) sp cap HGD.out.ext1 HGD.out.ext2
  clear b0 b1 b2
  refine wp_region_held_drew (S := (fun W => W.cell? ⟨w.heap.size, 1, none⟩ = some (.int .i64 B))) (by kernel_rfl) S0.out (fun hH => ?_)
  refine takeH (i := 0) (dst := some 59) (v := ?v70) rfl rfl (by kernel_rfl) (by kernel_rfl) (by kernel_rfl) (fun _ _ _ h => h) rfl ?hy70 hH rfl ?rest70
  case hy70 => (intro W hW; (try dsimp only at hW); go_simp; try with_reducible rfl)
  (try simp only [Act.put, List.setIfInBounds_toArray, List.set_cons_zero, List.set_cons_succ])
  refine takeH (i := 1) (dst := some 60) (v := ?v71) rfl rfl (by kernel_rfl) (by kernel_rfl) (by kernel_rfl) (fun _ _ _ h => h) rfl ?hy71 hH rfl ?rest71
  case hy71 => (intro W hW; (try dsimp only at hW); go_simp; try with_reducible rfl)
  (try simp only [Act.put, List.setIfInBounds_toArray, List.set_cons_zero, List.set_cons_succ])
  refine takeH (i := 2) (dst := some 61) (v := ?v72) rfl rfl (by kernel_rfl) (by kernel_rfl) (by kernel_rfl) (fun _ _ _ h => h) rfl ?hy72 hH rfl ?rest72
  case hy72 => (intro W hW; have e1 := hW; clear hW; go_simp; try with_reducible rfl)
  (try simp only [Act.put, List.setIfInBounds_toArray, List.set_cons_zero, List.set_cons_succ])
  refine takeH (i := 3) (dst := some 62) (v := ?v73) rfl rfl (by kernel_rfl) (by kernel_rfl) (by kernel_rfl) (fun _ _ _ h => h) rfl ?hy73 hH rfl ?rest73
  case hy73 => (intro W hW; (try dsimp only at hW); go_simp; try with_reducible rfl)
  (try simp only [Act.put, List.setIfInBounds_toArray, List.set_cons_zero, List.set_cons_succ])
  refine takeH (i := 5) (dst := some 64) (v := ?v74) rfl rfl (by kernel_rfl) (by kernel_rfl) (by kernel_rfl) (fun _ _ _ h => h) rfl ?hy74 hH rfl ?rest74
  case hy74 => (intro W hW; (try dsimp only at hW); go_simp; try with_reducible rfl)
  (try simp only [Act.put, List.setIfInBounds_toArray, List.set_cons_zero, List.set_cons_succ])
  refine takeH (i := 6) (dst := some 65) (v := ?v75) rfl rfl (by kernel_rfl) (by kernel_rfl) (by kernel_rfl) (fun _ _ _ h => h) rfl ?hy75 hH rfl ?rest75
  case hy75 => (intro W hW; (try dsimp only at hW); go_simp; try with_reducible rfl)
  (try simp only [Act.put, List.setIfInBounds_toArray, List.set_cons_zero, List.set_cons_succ])
  refine takeH (i := 7) (dst := some 66) (v := ?v76) rfl rfl (by kernel_rfl) (by kernel_rfl) (by kernel_rfl) (fun _ _ _ h => h) rfl ?hy76 hH rfl ?rest76
  case hy76 => (intro W hW; have e1 := hW; clear hW; go_simp; try with_reducible rfl)
  (try simp only [Act.put, List.setIfInBounds_toArray, List.set_cons_zero, List.set_cons_succ])
  refine takeH (i := 8) (dst := some 67) (v := ?v77) rfl rfl (by kernel_rfl) (by kernel_rfl) (by kernel_rfl) (fun _ _ _ h => h) rfl ?hy77 hH rfl ?rest77
  case hy77 => (intro W hW; (try dsimp only at hW); go_simp; try with_reducible rfl)
  (try simp only [Act.put, List.setIfInBounds_toArray, List.set_cons_zero, List.set_cons_succ])
  refine callH (i := 4) { dst := some 63, op := Go.Op.call { callee := Go.Callee.value (Go.Operand.func 19), args := #[Go.Operand.tmp 59, Go.Operand.tmp 61, Go.Operand.tmp 62], argTypes := #[31, 3, 39] }, type := 25, pos := "law.go:53", after := #[{ on := 0, ground := Go.Ground.data }, { on := 2, ground := Go.Ground.data }, { on := 3, ground := Go.Ground.data }], guard := none } (by kernel_rfl) rfl rfl (fun K hK => ?_)
  go_simp
  refine LY.mono ?_
  clear LY
  rintro r w4 ⟨er, rfl, hf4, DY⟩
  have S4 : Hid (w4.cell? ⟨w.heap.size, 1, none⟩ = some (.int .i64 B)) := (fr_cell hf4 (a := ⟨w.heap.size, 1, none⟩) HNB.out.2.2 HNB.out.1).trans HC1.out
  clear hf4
  clear hH
  refine hK.out _ _ S4.out (fun hH => ?_)
  clear hK K
  (try simp only [Act.put, List.setIfInBounds_toArray, List.set_cons_zero, List.set_cons_succ])
  refine callH (i := 9) { dst := some 68, op := Go.Op.call { callee := Go.Callee.value (Go.Operand.func 26), args := #[Go.Operand.tmp 64, Go.Operand.tmp 66, Go.Operand.tmp 67], argTypes := #[34, 3, 39] }, type := 25, pos := "law.go:53", after := #[{ on := 5, ground := Go.Ground.data }, { on := 7, ground := Go.Ground.data }, { on := 8, ground := Go.Ground.data }, { on := 4, ground := Go.Ground.chain }], guard := none } (by kernel_rfl) rfl rfl (fun K hK => ?_)
  go_simp
  refine DY.mono ?_
  clear DY
  rintro r w5 ⟨rfl, hP⟩
  have S5 : Hid (w5.cell? ⟨w.heap.size, 1, none⟩ = some (.int .i64 B)) := (fr_cell hP.fr (a := ⟨w.heap.size, 1, none⟩) HNB.out.2.2 (fun hs => hs.elim HNB.out.1 HNB.out.2.1)).trans HC1.out
  obtain ⟨σ5, D5, h5⟩ := HGD.out.ofP hP
  have HG5 : Hid (Giv pd n w0 w5 p q ed σ5 (κ + 1) D5 go sp cap l) := h5
  clear hP h5
  clear hH
  refine hK.out _ _ S5.out (fun hH => ?_)
  clear hK K
  (try simp only [Act.put, List.setIfInBounds_toArray, List.set_cons_zero, List.set_cons_succ])
  refine takeH (i := 10) (dst := some 69) (v := ?v78) rfl rfl (by kernel_rfl) (by kernel_rfl) (by kernel_rfl) (fun _ _ _ h => h) rfl ?hy78 hH rfl ?rest78
  case hy78 => (intro W hW; (try dsimp only at hW); go_simp; try with_reducible rfl)
  (try simp only [Act.put, List.setIfInBounds_toArray, List.set_cons_zero, List.set_cons_succ])
  refine takeH (i := 11) (dst := some 9) (v := ?v79) rfl rfl (by kernel_rfl) (by kernel_rfl) (by kernel_rfl) (fun _ _ _ h => h) rfl ?hy79 hH rfl ?rest79
  case hy79 => (intro W hW; (try dsimp only at hW); go_simp; try with_reducible rfl)
  (try simp only [Act.put, List.setIfInBounds_toArray, List.set_cons_zero, List.set_cons_succ])
  refine wpAnyH_done (by kernel_rfl) ?_ _
  clear hH
  have h5 := HG5.out
  have KT := h5.kept
  clear h5
  go_wp2_with (first | (go_at_call 36; refine Hid.out ?_))
  change Calls _ _ _ _ _
  refine KT.mono ?_
  clear KT
  rintro r w6 ⟨rfl, SPK⟩
  go_wp2_with (first | (go_at_call 25; refine Hid.out ?_))
  change Calls _ _ _ _ _
  refine SPK.mono ?_
  clear SPK
  rintro r w7 ⟨rfl, hE⟩
  have HE : Hid (DoP pd n w0 p q ed (κ + 1) w7) := hE
  clear hE
  go_wp2_with fail
  go_ret
  exact ⟨rfl, HE.out⟩
set_option maxHeartbeats 8000000 in
theorem cdo_11 (h : KX pd n w0 w p q ed σ κ D) (hκ : κ ≤ 900) (B : Int) (hB : -9223372036854775808 ≤ B ∧ B ≤ 9223372036854775807) (sp : Option Addr) (cap : Nat) (l : List UInt8) (ha : Arg w0 sp cap l) (hab : 1 ≤ l.length → ∀ b o, sp = some ⟨b, o, none⟩ → b < w0.heap.size) :
    Calls Try.prog 10 #[.pointer (some ⟨p, 0, none⟩), .pointer (some ⟨q, 0, none⟩), .agg #[.int .i64 11, .int .i64 B, .slice sp l.length cap]] w fun e w' => e = .returned (.bool true) ∧ DoP pd n w0 p q ed (κ + 1) w' := by
  have HK : Hid (KX pd n w0 w p q ed σ κ D ∧ κ ≤ 1000 ∧ (-9223372036854775808 ≤ B ∧ B ≤ 9223372036854775807)) := ⟨h, by omega, hB⟩
  have HA : Hid (Arg w0 sp cap l ∧ (1 ≤ l.length → ∀ b o, sp = some ⟨b, o, none⟩ → b < w0.heap.size)) := ⟨ha, hab⟩
  have hle := ha.len
  have HB1 : Hid (Below w.heap.size w (w.alloc (.cells #[.int .i64 11, .int .i64 B, .slice sp l.length cap] 41))) := (Below.refl _ _).alloc (Nat.le_refl _) _
  have hrow := heap_alloc_new w (.cells #[.int .i64 11, .int .i64 B, .slice sp l.length cap] 41)
  have hz1 := size_alloc w (.cells #[.int .i64 11, .int .i64 B, .slice sp l.length cap] 41)
  clear h ha hab hB hκ
  go_enter Try.func10, Try.ntmps10
  go_upto_region 1 with fail
  generalize w.alloc (.cells #[.int .i64 11, .int .i64 B, .slice sp l.length cap] 41) = W1 at *
  have HZ1 : Hid (W1.heap.size = w.heap.size + 1) := hz1
  have HBX : Hid (∀ W, Below W1.heap.size W1 W → W.cell? ⟨w.heap.size, 0, none⟩ = some (.int .i64 11) ∧ W.cell? ⟨w.heap.size, 1, none⟩ = some (.int .i64 B) ∧ W.cell? ⟨w.heap.size, 2, none⟩ = some (.slice sp l.length cap)) := fun W hW => by
    have hr := (hW.block w.heap.size (by omega)).trans hrow
    exact ⟨(cell_of_row _ _ _ _ _ _ hr).trans rfl, (cell_of_row _ _ _ _ _ _ hr).trans rfl, (cell_of_row _ _ _ _ _ _ hr).trans rfl⟩
  obtain ⟨b0, b1, b2⟩ := HBX.out W1 (Below.refl _ _)
  have FA := fill_any W1 sp cap l ((HA.out.1.src.below HK.out.1.be (Nat.le_refl _)).below HB1.out (by have := HK.out.1.be.size; omega)) (by omega)
  clear hrow hz1
  go_wp2_with (first | (go_at_call 20; refine Hid.out ?_))
  change Calls _ _ _ _ _
  refine FA.mono ?_
  clear FA b0 b1 b2
  rintro r w2 ⟨gf, rfl, hBf, hgf, hb2⟩
  obtain ⟨b0, b1, b2⟩ := HBX.out w2 hb2
  have HF : Hid (Blk w2 gf 5 (fillL l) ∧ W1.heap.size ≤ gf ∧ Below W1.heap.size W1 w2) := ⟨hBf, hgf, hb2⟩
  have hA2 : Arg w2 sp cap l := ((HA.out.1.below HK.out.1.be (Nat.le_refl _)).below HB1.out (by have := HK.out.1.be.size; omega)).below hb2 (by have := HB1.out.size; omega)
  have LE := lent_any sp cap l w2 hA2
  have HDL : Hid (Arg w2 sp cap l) := hA2
  clear hBf hgf hb2 hA2
  go_wp2_with (first | (go_at_call 23; refine Hid.out ?_))
  change Calls _ _ _ _ _
  refine LE.mono ?_
  clear LE b0 b1 b2
  rintro r w3 ⟨go, rfl, hBo, hgo, hb3⟩
  have hb13 : Below W1.heap.size W1 w3 := HF.out.2.2.trans (hb3.mono HF.out.2.2.size)
  have HG : Hid (Giv pd n w0 w3 p q ed σ κ D go sp cap l) := by
    have hbw : Below w.heap.size w w3 := HB1.out.trans (hb13.mono HB1.out.size)
    have hz := HZ1.out
    have hz2 := HF.out.2.2.size
    have hzb := HK.out.1.be.size
    have hgl : go < w3.heap.size := (Array.getElem?_eq_some_iff.1 hBo).1
    refine ⟨HK.out.1.up hbw, hBo, HDL.out.below hb3 (Nat.le_refl _), ⟨fun hs => ?_, fun hs => ?_, by omega, hgl⟩, fun hl b o e => ?_⟩
    · have := HK.out.1.cs.sk_size hs; omega
    · have := (HK.out.1.no go hs).2.2; omega
    · have h1 := HA.out.2 hl b o e
      refine ⟨fun hs => ?_, fun hs => ?_, by have := hbw.size; omega, by omega⟩
      · have := HK.out.1.cs.sk_ge hs; omega
      · have := (HK.out.1.no b hs).2.1; omega
  have HNB : Hid (¬ Sk σ w.heap.size ∧ ¬ D w.heap.size ∧ w.heap.size < w3.heap.size) := ⟨fun hs => by have := HK.out.1.cs.sk_size hs; omega, fun hs => by have := (HK.out.1.no _ hs).2.2; omega, by have := HZ1.out; have := hb13.size; omega⟩
  obtain ⟨b0, b1, b2⟩ := HBX.out w3 hb13
  have HC1 : Hid (w3.cell? ⟨w.heap.size, 1, none⟩ = some (.int .i64 B)) := b1
  clear hBo hgo hb3 hb13 HDL HF
  go_upto_region 21 with fail
  have HGD : Hid (Giv pd n w0 w3.drew p q ed σ κ D go sp cap l) := HG.out.up (Below.refl _ _).drew
  have S0 : Hid (w3.drew.cell? ⟨w.heap.size, 1, none⟩ = some (.int .i64 B)) := b1
  have LY := kx_write HGD.out.kx HK.out.2.1 B l go (l.length + 8) sp cap HGD.out.ext1 HGD.out.ext2
  clear b0 b1 b2
  refine wp_region_held_drew (S := (fun W => W.cell? ⟨w.heap.size, 1, none⟩ = some (.int .i64 B))) (by kernel_rfl) S0.out (fun hH => ?_)
  refine takeH (i := 0) (dst := some 84) (v := ?v80) rfl rfl (by kernel_rfl) (by kernel_rfl) (by kernel_rfl) (fun _ _ _ h => h) rfl ?hy80 hH rfl ?rest80
  case hy80 => (intro W hW; (try dsimp only at hW); go_simp; try with_reducible rfl)
  (try simp only [Act.put, List.setIfInBounds_toArray, List.set_cons_zero, List.set_cons_succ])
  refine takeH (i := 1) (dst := some 85) (v := ?v81) rfl rfl (by kernel_rfl) (by kernel_rfl) (by kernel_rfl) (fun _ _ _ h => h) rfl ?hy81 hH rfl ?rest81
  case hy81 => (intro W hW; (try dsimp only at hW); go_simp; try with_reducible rfl)
  (try simp only [Act.put, List.setIfInBounds_toArray, List.set_cons_zero, List.set_cons_succ])
  refine takeH (i := 2) (dst := some 86) (v := ?v82) rfl rfl (by kernel_rfl) (by kernel_rfl) (by kernel_rfl) (fun _ _ _ h => h) rfl ?hy82 hH rfl ?rest82
  case hy82 => (intro W hW; have e1 := hW; clear hW; go_simp; try with_reducible rfl)
  (try simp only [Act.put, List.setIfInBounds_toArray, List.set_cons_zero, List.set_cons_succ])
  refine takeH (i := 3) (dst := some 87) (v := ?v83) rfl rfl (by kernel_rfl) (by kernel_rfl) (by kernel_rfl) (fun _ _ _ h => h) rfl ?hy83 hH rfl ?rest83
  case hy83 => (intro W hW; (try dsimp only at hW); go_simp; try with_reducible rfl)
  (try simp only [Act.put, List.setIfInBounds_toArray, List.set_cons_zero, List.set_cons_succ])
  refine takeH (i := 5) (dst := some 89) (v := ?v84) rfl rfl (by kernel_rfl) (by kernel_rfl) (by kernel_rfl) (fun _ _ _ h => h) rfl ?hy84 hH rfl ?rest84
  case hy84 => (intro W hW; (try dsimp only at hW); go_simp; try with_reducible rfl)
  (try simp only [Act.put, List.setIfInBounds_toArray, List.set_cons_zero, List.set_cons_succ])
  refine takeH (i := 6) (dst := some 90) (v := ?v85) rfl rfl (by kernel_rfl) (by kernel_rfl) (by kernel_rfl) (fun _ _ _ h => h) rfl ?hy85 hH rfl ?rest85
  case hy85 => (intro W hW; (try dsimp only at hW); go_simp; try with_reducible rfl)
  (try simp only [Act.put, List.setIfInBounds_toArray, List.set_cons_zero, List.set_cons_succ])
  refine takeH (i := 7) (dst := some 91) (v := ?v86) rfl rfl (by kernel_rfl) (by kernel_rfl) (by kernel_rfl) (fun _ _ _ h => h) rfl ?hy86 hH rfl ?rest86
  case hy86 => (intro W hW; have e1 := hW; clear hW; go_simp; try with_reducible rfl)
  (try simp only [Act.put, List.setIfInBounds_toArray, List.set_cons_zero, List.set_cons_succ])
  refine takeH (i := 8) (dst := some 92) (v := ?v87) rfl rfl (by kernel_rfl) (by kernel_rfl) (by kernel_rfl) (fun _ _ _ h => h) rfl ?hy87 hH rfl ?rest87
  case hy87 => (intro W hW; (try dsimp only at hW); go_simp; try with_reducible rfl)
  (try simp only [Act.put, List.setIfInBounds_toArray, List.set_cons_zero, List.set_cons_succ])
  refine callH (i := 4) { dst := some 88, op := Go.Op.call { callee := Go.Callee.value (Go.Operand.func 21), args := #[Go.Operand.tmp 84, Go.Operand.tmp 86, Go.Operand.tmp 87], argTypes := #[31, 3, 39] }, type := 25, pos := "law.go:57", after := #[{ on := 0, ground := Go.Ground.data }, { on := 2, ground := Go.Ground.data }, { on := 3, ground := Go.Ground.data }], guard := none } (by kernel_rfl) rfl rfl (fun K hK => ?_)
  go_simp
  refine LY.mono ?_
  clear LY
  rintro r w4 ⟨er, rfl, hf4, DY⟩
  have S4 : Hid (w4.cell? ⟨w.heap.size, 1, none⟩ = some (.int .i64 B)) := (fr_cell hf4 (a := ⟨w.heap.size, 1, none⟩) HNB.out.2.2 HNB.out.1).trans HC1.out
  clear hf4
  clear hH
  refine hK.out _ _ S4.out (fun hH => ?_)
  clear hK K
  (try simp only [Act.put, List.setIfInBounds_toArray, List.set_cons_zero, List.set_cons_succ])
  refine callH (i := 9) { dst := some 93, op := Go.Op.call { callee := Go.Callee.value (Go.Operand.func 27), args := #[Go.Operand.tmp 89, Go.Operand.tmp 91, Go.Operand.tmp 92], argTypes := #[34, 3, 39] }, type := 25, pos := "law.go:57", after := #[{ on := 5, ground := Go.Ground.data }, { on := 7, ground := Go.Ground.data }, { on := 8, ground := Go.Ground.data }, { on := 4, ground := Go.Ground.chain }], guard := none } (by kernel_rfl) rfl rfl (fun K hK => ?_)
  go_simp
  refine DY.mono ?_
  clear DY
  rintro r w5 ⟨rfl, hP⟩
  have S5 : Hid (w5.cell? ⟨w.heap.size, 1, none⟩ = some (.int .i64 B)) := (fr_cell hP.fr (a := ⟨w.heap.size, 1, none⟩) HNB.out.2.2 (fun hs => hs.elim HNB.out.1 HNB.out.2.1)).trans HC1.out
  obtain ⟨σ5, D5, h5⟩ := HGD.out.ofP hP
  have HG5 : Hid (Giv pd n w0 w5 p q ed σ5 (κ + 1) D5 go sp cap l) := h5
  clear hP h5
  clear hH
  refine hK.out _ _ S5.out (fun hH => ?_)
  clear hK K
  (try simp only [Act.put, List.setIfInBounds_toArray, List.set_cons_zero, List.set_cons_succ])
  refine takeH (i := 10) (dst := some 94) (v := ?v88) rfl rfl (by kernel_rfl) (by kernel_rfl) (by kernel_rfl) (fun _ _ _ h => h) rfl ?hy88 hH rfl ?rest88
  case hy88 => (intro W hW; (try dsimp only at hW); go_simp; try with_reducible rfl)
  (try simp only [Act.put, List.setIfInBounds_toArray, List.set_cons_zero, List.set_cons_succ])
  refine takeH (i := 11) (dst := some 9) (v := ?v89) rfl rfl (by kernel_rfl) (by kernel_rfl) (by kernel_rfl) (fun _ _ _ h => h) rfl ?hy89 hH rfl ?rest89
  case hy89 => (intro W hW; (try dsimp only at hW); go_simp; try with_reducible rfl)
  (try simp only [Act.put, List.setIfInBounds_toArray, List.set_cons_zero, List.set_cons_succ])
  refine wpAnyH_done (by kernel_rfl) ?_ _
  clear hH
  have h5 := HG5.out
  have KT := h5.kept
  clear h5
  go_wp2_with (first | (go_at_call 36; refine Hid.out ?_))
  change Calls _ _ _ _ _
  refine KT.mono ?_
  clear KT
  rintro r w6 ⟨rfl, SPK⟩
  go_wp2_with (first | (go_at_call 25; refine Hid.out ?_))
  change Calls _ _ _ _ _
  refine SPK.mono ?_
  clear SPK
  rintro r w7 ⟨rfl, hE⟩
  have HE : Hid (DoP pd n w0 p q ed (κ + 1) w7) := hE
  clear hE
  go_wp2_with fail
  go_ret
  exact ⟨rfl, HE.out⟩
end
end Go.Proofs.Ytikpnfnbmbaljaa
/- leveelaw10.do, kind by kind. -/
namespace Go.Proofs.Ytikpnfnbmbaljaa
open Go.RowKit
set_option maxRecDepth 100000
section
variable {pd n : Nat} {w0 w : World} {p q ed : Nat} {σ : CSt} {κ : Nat} {D : Nat → Prop}
set_option maxHeartbeats 8000000 in
theorem cdo_lo (h : KX pd n w0 w p q ed σ κ D) (hκ : κ ≤ 900) (K : Int) (hK : K < 0) (B : Int) (hB : -9223372036854775808 ≤ B ∧ B ≤ 9223372036854775807) (sp : Option Addr) (cap : Nat) (l : List UInt8) (ha : Arg w0 sp cap l) (hab : 1 ≤ l.length → ∀ b o, sp = some ⟨b, o, none⟩ → b < w0.heap.size) :
    Calls Try.prog 10 #[.pointer (some ⟨p, 0, none⟩), .pointer (some ⟨q, 0, none⟩), .agg #[.int .i64 K, .int .i64 B, .slice sp l.length cap]] w fun e w' => e = .returned (.bool true) ∧ DoP pd n w0 p q ed (κ + 1) w' := by
  have HK : Hid (KX pd n w0 w p q ed σ κ D ∧ κ ≤ 1000 ∧ (-9223372036854775808 ≤ B ∧ B ≤ 9223372036854775807)) := ⟨h, by omega, hB⟩
  have HA : Hid (Arg w0 sp cap l ∧ (1 ≤ l.length → ∀ b o, sp = some ⟨b, o, none⟩ → b < w0.heap.size)) := ⟨ha, hab⟩
  have hle := ha.len
  have HB1 : Hid (Below w.heap.size w (w.alloc (.cells #[.int .i64 K, .int .i64 B, .slice sp l.length cap] 41))) := (Below.refl _ _).alloc (Nat.le_refl _) _
  have hrow := heap_alloc_new w (.cells #[.int .i64 K, .int .i64 B, .slice sp l.length cap] 41)
  have hz1 := size_alloc w (.cells #[.int .i64 K, .int .i64 B, .slice sp l.length cap] 41)
  have n0 : (K == 0) = false := by simp; omega
  have n1 : (K == 1) = false := by simp; omega
  have n2 : (K == 2) = false := by simp; omega
  have n3 : (K == 3) = false := by simp; omega
  have n4 : (K == 4) = false := by simp; omega
  have n5 : (K == 5) = false := by simp; omega
  have n6 : (K == 6) = false := by simp; omega
  have n7 : (K == 7) = false := by simp; omega
  have n8 : (K == 8) = false := by simp; omega
  have n9 : (K == 9) = false := by simp; omega
  have n10 : (K == 10) = false := by simp; omega
  have n11 : (K == 11) = false := by simp; omega
  have m9 : ¬ (9 : Int) < K := by omega
  clear hK
  clear h ha hab hB hκ
  go_enter Try.func10, Try.ntmps10
  go_upto_region 1 with fail
  generalize w.alloc (.cells #[.int .i64 K, .int .i64 B, .slice sp l.length cap] 41) = W1 at *
  have HZ1 : Hid (W1.heap.size = w.heap.size + 1) := hz1
  have HBX : Hid (∀ W, Below W1.heap.size W1 W → W.cell? ⟨w.heap.size, 0, none⟩ = some (.int .i64 K) ∧ W.cell? ⟨w.heap.size, 1, none⟩ = some (.int .i64 B) ∧ W.cell? ⟨w.heap.size, 2, none⟩ = some (.slice sp l.length cap)) := fun W hW => by
    have hr := (hW.block w.heap.size (by omega)).trans hrow
    exact ⟨(cell_of_row _ _ _ _ _ _ hr).trans rfl, (cell_of_row _ _ _ _ _ _ hr).trans rfl, (cell_of_row _ _ _ _ _ _ hr).trans rfl⟩
  obtain ⟨b0, b1, b2⟩ := HBX.out W1 (Below.refl _ _)
  have FA := fill_any W1 sp cap l ((HA.out.1.src.below HK.out.1.be (Nat.le_refl _)).below HB1.out (by have := HK.out.1.be.size; omega)) (by omega)
  clear hrow hz1
  go_wp2_with (first | (go_at_call 20; refine Hid.out ?_))
  change Calls _ _ _ _ _
  refine FA.mono ?_
  clear FA b0 b1 b2
  rintro r w2 ⟨gf, rfl, hBf, hgf, hb2⟩
  obtain ⟨b0, b1, b2⟩ := HBX.out w2 hb2
  have HF : Hid (Blk w2 gf 5 (fillL l) ∧ W1.heap.size ≤ gf ∧ Below W1.heap.size W1 w2) := ⟨hBf, hgf, hb2⟩
  obtain ⟨dl, hdl⟩ : ∃ dl, fillL l = dl := ⟨_, rfl⟩
  have hdn : dl.length = 256 := by rw [← hdl]; exact fillL_length _
  rw [hdl] at hBf
  have hA2 : Arg w2 (some ⟨gf, 0, none⟩) 256 dl := .inr ⟨gf, 0, rfl, by omega, by omega, by omega, by omega, hBf.src⟩
  have LE := lent_any (some ⟨gf, 0, none⟩) 256 dl w2 hA2
  rw [hdn] at LE
  have HDL : Hid (Arg w2 (some ⟨gf, 0, none⟩) 256 dl) := hA2
  have HDN : Hid (dl.length = 256) := hdn
  clear hBf hgf hb2 hA2 hdl hdn
  go_wp2_with (first | (go_at_call 23; refine Hid.out ?_))
  change Calls _ _ _ _ _
  refine LE.mono ?_
  clear LE b0 b1 b2
  rintro r w3 ⟨go, rfl, hBo, hgo, hb3⟩
  have hb13 : Below W1.heap.size W1 w3 := HF.out.2.2.trans (hb3.mono HF.out.2.2.size)
  have HG : Hid (Giv pd n w0 w3 p q ed σ κ D go (some ⟨gf, 0, none⟩) 256 dl) := by
    have hbw : Below w.heap.size w w3 := HB1.out.trans (hb13.mono HB1.out.size)
    have hz := HZ1.out
    have hz2 := HF.out.2.2.size
    have hzb := HK.out.1.be.size
    have hgl : go < w3.heap.size := (Array.getElem?_eq_some_iff.1 hBo).1
    refine ⟨HK.out.1.up hbw, hBo, HDL.out.below hb3 (Nat.le_refl _), ⟨fun hs => ?_, fun hs => ?_, by omega, hgl⟩, fun hl b o e => ?_⟩
    · have := HK.out.1.cs.sk_size hs; omega
    · have := (HK.out.1.no go hs).2.2; omega
    · cases e
      have hgz := HF.out.2.1
      have hgfl : gf < w2.heap.size := (Array.getElem?_eq_some_iff.1 HF.out.1).1
      have hb3s := hb3.size
      refine ⟨fun hs => ?_, fun hs => ?_, by show gf < w3.heap.size; omega, by show gf ≠ go; omega⟩
      · have h5 : gf < w.heap.size := HK.out.1.cs.sk_size hs; omega
      · have h5 : gf < w.heap.size := (HK.out.1.no gf hs).2.2; omega
  have HNB : Hid (¬ Sk σ w.heap.size ∧ ¬ D w.heap.size ∧ w.heap.size < w3.heap.size) := ⟨fun hs => by have := HK.out.1.cs.sk_size hs; omega, fun hs => by have := (HK.out.1.no _ hs).2.2; omega, by have := HZ1.out; have := hb13.size; omega⟩
  obtain ⟨b0, b1, b2⟩ := HBX.out w3 hb13
  have HC1 : Hid (w3.cell? ⟨w.heap.size, 1, none⟩ = some (.int .i64 B)) := b1
  clear hBo hgo hb3 hb13 HDL HF
  have h5 : Giv pd n w0 w3 p q ed σ (κ + 1) D go (some ⟨gf, 0, none⟩) 256 dl := HG.out.next (HG.out.kx.more (by omega)) (fun _ hk => .inl hk) (Fr.refl _ _)
  have KT := h5.kept
  rw [HDN.out] at KT
  clear h5
  go_wp2_with (first | (go_at_call 36; refine Hid.out ?_))
  change Calls _ _ _ _ _
  refine KT.mono ?_
  clear KT
  rintro r w6 ⟨rfl, SPK⟩
  go_wp2_with (first | (go_at_call 25; refine Hid.out ?_))
  change Calls _ _ _ _ _
  refine SPK.mono ?_
  clear SPK
  rintro r w7 ⟨rfl, hE⟩
  have HE : Hid (DoP pd n w0 p q ed (κ + 1) w7) := hE
  clear hE
  go_wp2_with fail
  go_ret
  exact ⟨rfl, HE.out⟩
set_option maxHeartbeats 8000000 in
theorem cdo_hi (h : KX pd n w0 w p q ed σ κ D) (hκ : κ ≤ 900) (K : Int) (hK : 11 < K) (B : Int) (hB : -9223372036854775808 ≤ B ∧ B ≤ 9223372036854775807) (sp : Option Addr) (cap : Nat) (l : List UInt8) (ha : Arg w0 sp cap l) (hab : 1 ≤ l.length → ∀ b o, sp = some ⟨b, o, none⟩ → b < w0.heap.size) :
    Calls Try.prog 10 #[.pointer (some ⟨p, 0, none⟩), .pointer (some ⟨q, 0, none⟩), .agg #[.int .i64 K, .int .i64 B, .slice sp l.length cap]] w fun e w' => e = .returned (.bool true) ∧ DoP pd n w0 p q ed (κ + 1) w' := by
  have HK : Hid (KX pd n w0 w p q ed σ κ D ∧ κ ≤ 1000 ∧ (-9223372036854775808 ≤ B ∧ B ≤ 9223372036854775807)) := ⟨h, by omega, hB⟩
  have HA : Hid (Arg w0 sp cap l ∧ (1 ≤ l.length → ∀ b o, sp = some ⟨b, o, none⟩ → b < w0.heap.size)) := ⟨ha, hab⟩
  have hle := ha.len
  have HB1 : Hid (Below w.heap.size w (w.alloc (.cells #[.int .i64 K, .int .i64 B, .slice sp l.length cap] 41))) := (Below.refl _ _).alloc (Nat.le_refl _) _
  have hrow := heap_alloc_new w (.cells #[.int .i64 K, .int .i64 B, .slice sp l.length cap] 41)
  have hz1 := size_alloc w (.cells #[.int .i64 K, .int .i64 B, .slice sp l.length cap] 41)
  have n0 : (K == 0) = false := by simp; omega
  have n1 : (K == 1) = false := by simp; omega
  have n2 : (K == 2) = false := by simp; omega
  have n3 : (K == 3) = false := by simp; omega
  have n4 : (K == 4) = false := by simp; omega
  have n5 : (K == 5) = false := by simp; omega
  have n6 : (K == 6) = false := by simp; omega
  have n7 : (K == 7) = false := by simp; omega
  have n8 : (K == 8) = false := by simp; omega
  have n9 : (K == 9) = false := by simp; omega
  have n10 : (K == 10) = false := by simp; omega
  have n11 : (K == 11) = false := by simp; omega
  have m9 : (9 : Int) < K := by omega
  clear hK
  clear h ha hab hB hκ
  go_enter Try.func10, Try.ntmps10
  go_upto_region 1 with fail
  generalize w.alloc (.cells #[.int .i64 K, .int .i64 B, .slice sp l.length cap] 41) = W1 at *
  have HZ1 : Hid (W1.heap.size = w.heap.size + 1) := hz1
  have HBX : Hid (∀ W, Below W1.heap.size W1 W → W.cell? ⟨w.heap.size, 0, none⟩ = some (.int .i64 K) ∧ W.cell? ⟨w.heap.size, 1, none⟩ = some (.int .i64 B) ∧ W.cell? ⟨w.heap.size, 2, none⟩ = some (.slice sp l.length cap)) := fun W hW => by
    have hr := (hW.block w.heap.size (by omega)).trans hrow
    exact ⟨(cell_of_row _ _ _ _ _ _ hr).trans rfl, (cell_of_row _ _ _ _ _ _ hr).trans rfl, (cell_of_row _ _ _ _ _ _ hr).trans rfl⟩
  obtain ⟨b0, b1, b2⟩ := HBX.out W1 (Below.refl _ _)
  have FA := fill_any W1 sp cap l ((HA.out.1.src.below HK.out.1.be (Nat.le_refl _)).below HB1.out (by have := HK.out.1.be.size; omega)) (by omega)
  clear hrow hz1
  go_wp2_with (first | (go_at_call 20; refine Hid.out ?_))
  change Calls _ _ _ _ _
  refine FA.mono ?_
  clear FA b0 b1 b2
  rintro r w2 ⟨gf, rfl, hBf, hgf, hb2⟩
  obtain ⟨b0, b1, b2⟩ := HBX.out w2 hb2
  have HF : Hid (Blk w2 gf 5 (fillL l) ∧ W1.heap.size ≤ gf ∧ Below W1.heap.size W1 w2) := ⟨hBf, hgf, hb2⟩
  have hA2 : Arg w2 sp cap l := ((HA.out.1.below HK.out.1.be (Nat.le_refl _)).below HB1.out (by have := HK.out.1.be.size; omega)).below hb2 (by have := HB1.out.size; omega)
  have LE := lent_any sp cap l w2 hA2
  have HDL : Hid (Arg w2 sp cap l) := hA2
  clear hBf hgf hb2 hA2
  go_wp2_with (first | (go_at_call 23; refine Hid.out ?_))
  change Calls _ _ _ _ _
  refine LE.mono ?_
  clear LE b0 b1 b2
  rintro r w3 ⟨go, rfl, hBo, hgo, hb3⟩
  have hb13 : Below W1.heap.size W1 w3 := HF.out.2.2.trans (hb3.mono HF.out.2.2.size)
  have HG : Hid (Giv pd n w0 w3 p q ed σ κ D go sp cap l) := by
    have hbw : Below w.heap.size w w3 := HB1.out.trans (hb13.mono HB1.out.size)
    have hz := HZ1.out
    have hz2 := HF.out.2.2.size
    have hzb := HK.out.1.be.size
    have hgl : go < w3.heap.size := (Array.getElem?_eq_some_iff.1 hBo).1
    refine ⟨HK.out.1.up hbw, hBo, HDL.out.below hb3 (Nat.le_refl _), ⟨fun hs => ?_, fun hs => ?_, by omega, hgl⟩, fun hl b o e => ?_⟩
    · have := HK.out.1.cs.sk_size hs; omega
    · have := (HK.out.1.no go hs).2.2; omega
    · have h1 := HA.out.2 hl b o e
      refine ⟨fun hs => ?_, fun hs => ?_, by have := hbw.size; omega, by omega⟩
      · have := HK.out.1.cs.sk_ge hs; omega
      · have := (HK.out.1.no b hs).2.1; omega
  have HNB : Hid (¬ Sk σ w.heap.size ∧ ¬ D w.heap.size ∧ w.heap.size < w3.heap.size) := ⟨fun hs => by have := HK.out.1.cs.sk_size hs; omega, fun hs => by have := (HK.out.1.no _ hs).2.2; omega, by have := HZ1.out; have := hb13.size; omega⟩
  obtain ⟨b0, b1, b2⟩ := HBX.out w3 hb13
  have HC1 : Hid (w3.cell? ⟨w.heap.size, 1, none⟩ = some (.int .i64 B)) := b1
  clear hBo hgo hb3 hb13 HDL HF
  have h5 : Giv pd n w0 w3 p q ed σ (κ + 1) D go sp cap l := HG.out.next (HG.out.kx.more (by omega)) (fun _ hk => .inl hk) (Fr.refl _ _)
  have KT := h5.kept
  clear h5
  go_wp2_with (first | (go_at_call 36; refine Hid.out ?_))
  change Calls _ _ _ _ _
  refine KT.mono ?_
  clear KT
  rintro r w6 ⟨rfl, SPK⟩
  go_wp2_with (first | (go_at_call 25; refine Hid.out ?_))
  change Calls _ _ _ _ _
  refine SPK.mono ?_
  clear SPK
  rintro r w7 ⟨rfl, hE⟩
  have HE : Hid (DoP pd n w0 p q ed (κ + 1) w7) := hE
  clear hE
  go_wp2_with fail
  go_ret
  exact ⟨rfl, HE.out⟩
end
end Go.Proofs.Ytikpnfnbmbaljaa
