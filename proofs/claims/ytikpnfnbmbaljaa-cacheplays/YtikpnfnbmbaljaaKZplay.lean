/- The walk of leveelaw10.CachePlays. -/
import Derived.Test.YtikpnfnbmbaljaaJZst2
import Derived.Deep.CutBlock
import Derived.Deep.DeepCutAuto
import Derived.Deep.LoopGhost
namespace Go.Proofs.Ytikpnfnbmbaljaa
open Go.RowKit
set_option maxRecDepth 100000
set_option maxHeartbeats 32000000 in
theorem cachePlays_any (nn ms : Int) (sp : Option Addr) (m cap : Nat) (A : Acts) (w : World) (hnn : -9223372036854775808 ≤ nn ∧ nn ≤ 9223372036854775807) (hms : -9223372036854775808 ≤ ms ∧ ms ≤ 9223372036854775807) (harg : m ≤ cap ∧ (cap : Int) ≤ 9223372036854775807 ∧ ActsAt3 w sp m A) :
    Calls Try.prog 3 #[.int .i64 nn, .int .i64 ms, .slice sp m cap] w fun e w' => e = .returned (.bool true) ∧ Below w.heap.size w w' := by
  obtain ⟨hmc, hcap, hacts⟩ := harg
  have HACTS : Hid (ActsAt3 w sp m A) := hacts
  clear hacts
  have CT := count_any nn 8 w hnn (by omega) (by omega)
  clear hnn
  go_enter Try.func3, Try.ntmps3
  go_wp2_with fail
  refine CT.mono ?_
  clear CT
  rintro r w' ⟨mc, rfl, hm8, hw⟩
  obtain rfl : w = w' := hw.symm
  have NW := new_any w (1 + mc) (by omega) (by omega)
  rw [show ((1 + mc : Nat) : Int) = 1 + (mc : Int) by omega] at NW
  go_wp2_with fail
  refine NW.mono ?_
  clear NW
  rintro r w1 ⟨dp, dq, rfl, hD1, hb1⟩
  have HD1 : Hid (DiskAt w1 w.heap.size dp (1 + mc) false 0 (fun _ => zer) (fun _ => []) dq (fun _ => .slice none 0 0) ∧ Below w.heap.size w w1) := ⟨hD1, hb1⟩
  clear hD1 hb1
  have RN := rnew_any (1 + mc) (by omega) (by omega) w1
  rw [show ((1 + mc : Nat) : Int) = 1 + (mc : Int) by omega] at RN
  go_wp2_with fail
  refine RN.mono ?_
  clear RN
  rintro r w2 ⟨rfl, ⟨gb, cb, va, vc, hR, hgb, hva⟩, hb2⟩
  have HR2 : Hid (RefW w2 w1.heap.size w1.heap.size (1 + mc) false 0 (fun _ => zer :: []) gb cb va vc ∧ w1.heap.size ≤ gb ∧ (∀ i, i < 1 + mc → w1.heap.size ≤ va i) ∧ Below w1.heap.size w1 w2) := ⟨hR, hgb, hva, hb2⟩
  clear hR hgb hva hb2
  by_cases hmo : 1 ≤ ms ∧ ms ≤ 4096
  · obtain ⟨mo, rfl⟩ : ∃ mo : Nat, ms = (mo : Int) := ⟨ms.toNat, by omega⟩
    have CN := cnew_any (HD1.out.1.below HR2.out.2.2.2 (Nat.le_refl _)) mo (by omega) (by omega)
    go_wp2_with fail
    refine CN.mono ?_
    clear CN
    rintro r w3 ⟨p, mb, rfl, hC3, hp3, hmb3, hb3⟩
    have QN := qnew_any w3 w1.heap.size mo (by omega) (by omega)
    go_wp2_with fail
    refine QN.mono ?_
    clear QN
    rintro r w4 ⟨rfl, hQ4, hb4⟩
    obtain ⟨σ0, D0, HS0⟩ : ∃ σ0 D0, Hid (KX dp (1 + mc) w w4 p w3.heap.size w1.heap.size σ0 0 D0) := ⟨_, _, KX.start ⟨by omega, by omega⟩ HD1.out.1 HD1.out.2 HR2.out.1 HR2.out.2.1 HR2.out.2.2.1 HR2.out.2.2.2 hC3 hp3 hmb3 hb3 hQ4 hb4⟩
    clear hC3 hp3 hmb3 hb3 hQ4 hb4 HD1 HR2
    generalize w3.heap.size = q at HS0 ⊢
    generalize w1.heap.size = ed at HS0 ⊢
    go_wp2_with fail
    go_loopg [15] 51 (fun gk s15 wr => ∃ (k : Nat) (σ : CSt) (D : Nat → Prop), k + gk = 51 ∧ s15 = .int .i64 k ∧ Hid (KX dp (1 + mc) w wr p q ed σ k D))
    case atStart => exact ⟨0, _, _, rfl, rfl, HS0⟩
    case round =>
      obtain ⟨k, σ, D, hk, rfl, HS⟩ := hrel
      clear HS0
      by_cases hlt : (k : Int) < m ∧ (k : Int) < 50
      · obtain ⟨hlm, hl50⟩ := hlt
        obtain ⟨b, off, rfl, hbl, hcell⟩ := HACTS.out (by omega)
        have kc := fun (j : Nat) => HS.out.be.cell (p := ⟨b, off + k * 3 + j, none⟩) hbl
        have cc := hcell k (by omega)
        have e0 := (kc 0).trans cc.1
        have e1 := (kc 1).trans cc.2.1
        have e2 := (kc 2).trans cc.2.2.1
        have DO := cdo_any HS.out (by omega) (A.K k) (A.N k) cc.2.2.2.1 (A.P k) (A.C k) (A.D k) cc.2.2.2.2.2
        rw [Nat.add_zero] at e0
        clear kc cc hcell hbl
        generalize A.K k = K at *
        generalize A.N k = N at *
        generalize A.P k = DP at *
        generalize A.D k = DD at *
        generalize A.C k = DC at *
        go_wp2_with fail
        refine DO.mono ?_
        clear DO e0 e1 e2 HS
        rintro r w5 ⟨rfl, ⟨σ5, D5, hK5⟩⟩
        have HK5 : Hid (KX dp (1 + mc) w w5 p q ed σ5 (k + 1) D5) := hK5
        clear hK5
        have HE := kx_held HK5.out
        go_wp2_with fail
        refine HE.mono ?_
        clear HE
        rintro r w6 ⟨v6, xs, rfl, hO6, hx8, hb6, hdoc⟩
        have DC6 := hdoc w6 (Below.refl _ _)
        obtain ⟨a6, c6, rfl, hs6, _⟩ := hO6.form
        have HK6 : Hid (KX dp (1 + mc) w w6 p q ed σ5 (k + 1) D5) := HK5.out.up hb6
        have HS6 : Hid (SrcI w6 a6 xs) := hs6
        clear hO6 hs6 hdoc hb6 HK5
        go_wp2_with fail
        refine DC6.mono ?_
        clear DC6
        rintro r w7 ⟨v7, rfl, hO7, hb7⟩
        obtain ⟨a7, c7, rfl, hs7, _⟩ := hO7.form
        have HK7 : Hid (KX dp (1 + mc) w w7 p q ed σ5 (k + 1) D5) := HK6.out.up hb7
        have IN := eqInts_any (HS6.out.below hb7 (Nat.le_refl _)) hs7 (by omega) c6 c7
        clear hO7 hs7 hb7 HK6 HS6
        go_wp2_with fail
        refine IN.mono ?_
        clear IN
        rintro r w8 ⟨rfl, hb8⟩
        have HK8 : Hid (KX dp (1 + mc) w w8 p q ed σ5 (k + 1) D5) := HK7.out.up hb8
        clear hb8 HK7 hx8
        have HE := kx_dirty HK8.out
        go_wp2_with fail
        refine HE.mono ?_
        clear HE
        rintro r w9 ⟨v9, ys, rfl, hO6, hx8, hb6, hdoc⟩
        have DC6 := hdoc w9 (Below.refl _ _)
        obtain ⟨a9, c9, rfl, hs6, _⟩ := hO6.form
        have HK9 : Hid (KX dp (1 + mc) w w9 p q ed σ5 (k + 1) D5) := HK8.out.up hb6
        have HS6 : Hid (SrcI w9 a9 ys) := hs6
        clear hO6 hs6 hdoc hb6 HK8
        go_wp2_with fail
        refine DC6.mono ?_
        clear DC6
        rintro r w10 ⟨v10, rfl, hO7, hb7⟩
        obtain ⟨a10, c10, rfl, hs7, _⟩ := hO7.form
        have HK10 : Hid (KX dp (1 + mc) w w10 p q ed σ5 (k + 1) D5) := HK9.out.up hb7
        have IN := eqInts_any (HS6.out.below hb7 (Nat.le_refl _)) hs7 (by omega) c9 c10
        clear hO7 hs7 hb7 HK9 HS6
        go_wp2_with fail
        refine IN.mono ?_
        clear IN
        rintro r w11 ⟨rfl, hb8⟩
        have HK11 : Hid (KX dp (1 + mc) w w11 p q ed σ5 (k + 1) D5) := HK10.out.up hb8
        clear hb8 HK10 hx8
        go_wp2_with fail
        go_roundg (gk - 1)
        case measure => omega
        case rel => exact ⟨k + 1, σ5, D5, by omega, by go_num, HK11⟩
      · have hends : (¬ (k : Int) < m) ∨ ((k : Int) < m ∧ ¬ (k : Int) < 50) := by omega
        have SA := same10_any HS.out (by omega)
        have HB : Hid (Below w.heap.size w wr) := HS.out.be
        clear hlt HS
        rcases hends with hlm | ⟨hlm, hl50⟩
        all_goals
          go_wp2_with fail
          refine SA.mono ?_
          clear SA
          rintro r w5 ⟨rfl, h5⟩
          have HB5 : Hid (Below w.heap.size w w5) := HB.out.trans (h5.mono HB.out.size)
          clear h5 HB
          go_wp2_with fail
          refine (cknown_any _).mono ?_
          rintro e w6 ⟨rfl, h6⟩
          have HB2 := HB5.out.trans (h6.mono HB5.out.size)
          go_wp2
          go_ret
          exact ⟨rfl, HB2⟩
  · have CN := cnew_no w2 dp ms (by omega)
    have QN := qnew_no w2 w1.heap.size ms (by omega)
    have HB : Hid (Below w.heap.size w w2) := HD1.out.2.trans (HR2.out.2.2.2.mono HD1.out.2.size)
    clear hmo
    go_wp2_with fail
    refine CN.mono ?_
    clear CN
    rintro r w3 ⟨rfl, hw3⟩
    obtain rfl : w2 = w3 := hw3.symm
    go_wp2_with fail
    refine QN.mono ?_
    clear QN
    rintro r w3 ⟨rfl, hw3⟩
    obtain rfl : w2 = w3 := hw3.symm
    go_wp2_with fail
    refine (cknown_any _).mono ?_
    rintro e w6 ⟨rfl, h6⟩
    have HB2 := HB.out.trans (h6.mono HB.out.size)
    go_wp2
    go_ret
    exact ⟨rfl, HB2⟩
end Go.Proofs.Ytikpnfnbmbaljaa
