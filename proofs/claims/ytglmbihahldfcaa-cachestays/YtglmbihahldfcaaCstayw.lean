/- The walk of leveelaw10.CacheStays. -/
import Derived.Test.YtglmbihahldfcaaCstay
import Derived.Test.YtglmbihahldfcaaCacts
import Derived.Deep.CutBlock
import Derived.Deep.DeepCutAuto
import Derived.Deep.LoopGhost
namespace Go.Proofs.Ytglmbihahldfcaa
open Go.RowKit
set_option maxRecDepth 100000
theorem StW.start {w w2 : World} {base p mb k dp dq : Nat} (hC : CS w2 base ⟨p, mb, 0, .slice none 0 0, k, [], dp, 6, dq, false, 0, fun _ => zer, fun _ => [], fun _ => .slice none 0 0⟩ []) (hb : Below base w w2) (hk : k ≤ 4) :
    StW base k 0 w (w2.alloc (.cells (ivs (List.replicate 6 0)).toArray 3)) ⟨p, mb, 0, .slice none 0 0, k, [], dp, 6, dq, false, 0, fun _ => zer, fun _ => [], fun _ => .slice none 0 0⟩ p w2.heap.size (List.replicate 6 0) := by
  have hb2 : Below w2.heap.size w2 (w2.alloc (.cells (ivs (List.replicate 6 0)).toArray 3)) := (Below.refl _ _).alloc (Nat.le_refl _) _
  refine ⟨hC.up hb2, Nat.zero_le _, rfl, hk, rfl, rfl, Nat.le_refl _, heap_alloc_new _ _, rfl, fun hs => ?_, hC.bs, fun x hx => (by cases hx), fun n hn _ => ?_, hb.trans (hb2.mono hC.bs)⟩
  · have := hC.sk_size hs; omega
  · have : n = 0 ∨ n = 1 ∨ n = 2 ∨ n = 3 ∨ n = 4 ∨ n = 5 := by omega
    rcases this with rfl | rfl | rfl | rfl | rfl | rfl <;> rfl
set_option maxHeartbeats 32000000 in
theorem cacheStays_any (ms : Int) (sp : Option Addr) (m cap : Nat) (A : Acts) (w : World) (hms : -9223372036854775808 ≤ ms ∧ ms ≤ 9223372036854775807) (harg : m ≤ cap ∧ (cap : Int) ≤ 9223372036854775807 ∧ ActsAt w sp m A) :
    Calls Try.prog 5 #[.int .i64 ms, .slice sp m cap] w fun e w' => e = .returned (.bool true) ∧ Below w.heap.size w w' := by
  obtain ⟨hmc, hcap, hacts⟩ := harg
  have HACTS : Hid (ActsAt w sp m A) := hacts
  clear hacts
  have NW := new_any w 6 (by omega) (by omega)
  rw [show ((6 : Nat) : Int) = 6 from rfl] at NW
  have CT := fun W => count_any ms 4 W hms (by omega) (by omega)
  clear hms
  go_enter Try.func5, Try.ntmps5
  go_wp2_with fail
  refine NW.mono ?_
  clear NW
  rintro r w1 ⟨dp, dq, rfl, hD1, hb1⟩
  have HD1 : Hid (DiskAt w1 w.heap.size dp 6 false 0 (fun _ => zer) (fun _ => []) dq (fun _ => .slice none 0 0)) := hD1
  have HB1 : Hid (Below w.heap.size w w1) := hb1
  clear hD1 hb1
  go_wp2_with fail
  refine (CT _).mono ?_
  clear CT
  rintro r w1' ⟨mc, rfl, hm4, hw⟩
  obtain rfl : w1 = w1' := hw.symm
  have CN := cnew_any HD1.out (1 + mc) (by omega) (by omega)
  rw [show ((1 + mc : Nat) : Int) = 1 + (mc : Int) by omega] at CN
  go_wp2_with fail
  refine CN.mono ?_
  clear CN
  rintro r w2 ⟨p, mb, rfl, hC2, _, _, hb2⟩
  have HS0 : Hid (StW w.heap.size (1 + mc) 0 w (w2.alloc (.cells (ivs (List.replicate 6 0)).toArray 3)) _ p w2.heap.size (List.replicate 6 0)) := StW.start hC2 (HB1.out.trans (hb2.mono HB1.out.size)) (by omega)
  have hmk := make_ints w2 6 (by omega)
  rw [show ((6 : Nat) : Int) = 6 from rfl] at hmk
  clear hC2 hb2 HD1 HB1
  generalize ivs (List.replicate 6 0) = ivz at *
  go_wp2_with fail
  clear hmk
  generalize w2.alloc (.cells ivz.toArray 3) = w3 at HS0 ⊢
  obtain ⟨pb, hpb⟩ : ∃ pb, Hid (pb = w2.heap.size) := ⟨_, rfl⟩
  rw [← hpb.out] at HS0 ⊢
  clear hpb
  go_loopg [11] 61 (fun gk s11 wr => ∃ (k : Nat) (σ : CSt) (P : List Int), k + gk = 61 ∧ s11 = .int .i64 k ∧ Hid (StW w.heap.size (1 + mc) k w wr σ p pb P))
  case atStart => exact ⟨0, _, _, rfl, rfl, HS0⟩
  case round =>
    obtain ⟨k, σ, P, hk, rfl, HS⟩ := hrel
    clear HS0
    by_cases hlt : (k : Int) < m ∧ (k : Int) < 60
    · obtain ⟨hlm, hl60⟩ := hlt
      obtain ⟨b, off, rfl, hbl, hcell⟩ := HACTS.out (by omega)
      have kc := fun (j : Nat) => HS.out.be.cell (p := ⟨b, off + k * 3 + j, none⟩) hbl
      have cc := hcell k (by omega)
      have e0 := (kc 0).trans cc.1
      have e1 := (kc 1).trans cc.2.1
      have e2 := (kc 2).trans cc.2.2.1
      have hNb := cc.2.2.2.1
      have HSD : Hid (Src w (A.P k) (A.D k) ∧ ((A.D k).length : Int) ≤ 9223372036854775807) := cc.2.2.2.2.2
      rw [Nat.add_zero] at e0
      clear kc cc hcell hbl
      generalize A.K k = K at *
      generalize A.N k = N at *
      generalize A.P k = DP at *
      generalize A.D k = DD at *
      generalize A.C k = DC at *
      have CT := fun W => count_any N 6 W hNb (by omega) (by omega)
      clear hNb
      go_upto_region 11 with fail
      have HSA : Hid (StW w.heap.size (1 + mc) k w (wr.alloc (.cells #[.int .i64 K, .int .i64 N, .slice DP DD.length DC] 41)) σ p pb P) := HS.out.up ((Below.refl _ _).alloc (Nat.le_refl _) _)
      have HRA : Hid ((wr.alloc (.cells #[.int .i64 K, .int .i64 N, .slice DP DD.length DC] 41)).heap[wr.heap.size]? = some (.cells #[.int .i64 K, .int .i64 N, .slice DP DD.length DC] 41 (0, 0))) := heap_alloc_new _ _
      generalize wr.alloc (.cells #[.int .i64 K, .int .i64 N, .slice DP DD.length DC] 41) = wA at HSA HRA ⊢
      obtain ⟨pa, hpa⟩ : ∃ pa, Hid (pa = wr.heap.size) := ⟨_, rfl⟩
      rw [← hpa.out] at HRA ⊢
      clear e0 e1 e2 HS hpa
      have a1 : wA.cell? ⟨pa, 1, none⟩ = some (.int .i64 N) := by rw [cell_of_row wA pa 1 _ _ _ HRA.out]; rfl
      go_wp2_with fail
      refine (CT _).mono ?_
      clear CT
      rintro r wA' ⟨n, rfl, hn6, hw'⟩
      obtain rfl : wA = wA' := hw'.symm
      clear a1
      have DT := st_dirty HSA.out
      go_wp2_with fail
      refine DT.mono ?_
      clear DT
      rintro r wD ⟨ao, Y, dc, rfl, hsY, hY4, hoff, hYd, hbD⟩
      have HSD2 : Hid (StW w.heap.size (1 + mc) k w wD σ p pb P) := HSA.out.up hbD
      have HRD : Hid (wD.heap[pa]? = some (.cells #[.int .i64 K, .int .i64 N, .slice DP DD.length DC] 41 (0, 0))) := by
        show _ = _
        rw [hbD.block pa (Array.getElem?_eq_some_iff.1 HRA.out).1]; exact HRA.out
      have HY : Hid (SrcI wD ao Y ∧ (∀ b o, ao = some ⟨b, o, none⟩ → ¬ (Sk σ b ∨ b = pb)) ∧ ∀ x ∈ Y, ∃ e ∈ dl σ, (e.n : Int) = x) := ⟨hsY, hoff, hYd⟩
      clear hsY hoff hYd hbD HSA HRA
      have a0 : wD.cell? ⟨pa, 0, none⟩ = some (.int .i64 K) := by rw [cell_of_row wD pa 0 _ _ _ HRD.out]; rfl
      have a2 : wD.cell? ⟨pa, 2, none⟩ = some (.slice DP DD.length DC) := by rw [cell_of_row wD pa 2 _ _ _ HRD.out]; rfl
      have hk60 : k ≤ 60 := by omega
      by_cases hK : K = 0 ∨ K = 1 ∨ K = 2 ∨ K = 3 ∨ K = 6 ∨ K = 7
      · go_upto_block 2 with fail
        go_cut [] (fun wc => ∃ (σ' : CSt) (P' : List Int), Hid (StW w.heap.size (1 + mc) (k + 1) w wc σ' p pb P') ∧ Hid (SrcI wc ao Y) ∧ Hid (∀ x ∈ Y, x ∈ nums σ'.L))
        case first =>
          have hn6' : n < 6 := by omega
          have HCUT : Hid (∀ w7 wc σ' P', SrcI w7 ao Y → Aft w.heap.size (1 + mc) (k + 1) w p pb σ w7 wc σ' P' → StW w.heap.size (1 + mc) (k + 1) w wc σ' p pb P' ∧ SrcI wc ao Y ∧ ∀ x ∈ Y, x ∈ nums σ'.L) := fun w7 wc σ' P' hs ha =>
            ⟨ha.st, hs.fr ha.fr HY.out.2.1, fun x hx => by obtain ⟨e, he, rfl⟩ := HY.out.2.2 x hx; exact ha.dl e he⟩
          rcases hK with rfl | rfl | rfl | rfl | rfl | rfl
          · have RD := st_read HSD2.out (by omega) hn6'
            clear a0 a2
            go_wp2_with fail
            refine RD.mono ?_
            clear RD
            rintro r w8 ⟨⟨v8, x8, rfl⟩, σ', hA⟩
            have HA8 : Hid _ := hA
            clear hA
            go_wp2_with fail
            go_meet
            case rel => exact ⟨σ', P, HCUT.out _ _ _ _ HY.out.1 HA8.out⟩
          · have RD := st_read HSD2.out (by omega) hn6'
            clear a0 a2
            go_wp2_with fail
            refine RD.mono ?_
            clear RD
            rintro r w8 ⟨⟨v8, x8, rfl⟩, σ', hA⟩
            have HA8 : Hid _ := hA
            clear hA
            go_wp2_with fail
            go_meet
            case rel => exact ⟨σ', P, HCUT.out _ _ _ _ HY.out.1 HA8.out⟩
          · have FL := fill_any wD DP DC DD (HSD.out.1.below HSD2.out.be (Nat.le_refl _)) HSD.out.2
            clear a0
            go_wp2_with fail
            refine FL.mono ?_
            clear FL
            rintro r w7 ⟨gf, rfl, hgf, hgfl, hb7⟩
            have HS7 : Hid (StW w.heap.size (1 + mc) k w w7 σ p pb P) := HSD2.out.up hb7
            have HY7 : Hid (SrcI w7 ao Y) := HY.out.1.below hb7 (Nat.le_refl _)
            have LY := st_lay HS7.out (by omega) hn6' (fillL DD) gf 0 256 hgf.src (fillL_length _) (fun c => by have := HSD2.out.cs.sk_size c; omega)
            clear hgf hgfl hb7 a2
            go_wp2_with fail
            refine LY.mono ?_
            clear LY
            rintro r w8 ⟨⟨x8, rfl⟩, σ', hA⟩
            have HA8 : Hid _ := hA
            clear hA
            go_wp2_with fail
            go_meet
            case rel => exact ⟨σ', P, HCUT.out _ _ _ _ HY7.out HA8.out⟩
          · have FL := fill_any wD DP DC DD (HSD.out.1.below HSD2.out.be (Nat.le_refl _)) HSD.out.2
            clear a0
            go_wp2_with fail
            refine FL.mono ?_
            clear FL
            rintro r w7 ⟨gf, rfl, hgf, hgfl, hb7⟩
            have HS7 : Hid (StW w.heap.size (1 + mc) k w w7 σ p pb P) := HSD2.out.up hb7
            have HY7 : Hid (SrcI w7 ao Y) := HY.out.1.below hb7 (Nat.le_refl _)
            have LY := st_lay HS7.out (by omega) hn6' (fillL DD) gf 0 256 hgf.src (fillL_length _) (fun c => by have := HSD2.out.cs.sk_size c; omega)
            clear hgf hgfl hb7 a2
            go_wp2_with fail
            refine LY.mono ?_
            clear LY
            rintro r w8 ⟨⟨x8, rfl⟩, σ', hA⟩
            have HA8 : Hid _ := hA
            clear hA
            go_wp2_with fail
            go_meet
            case rel => exact ⟨σ', P, HCUT.out _ _ _ _ HY7.out HA8.out⟩
          · have PN := st_pin HSD2.out (by omega) hn6'
            have hg := HSD2.out.good n hn6'
            have HPL : Hid (P.length = 6) := HSD2.out.pl
            have hg0 := hg.1
            have hg1 := hg.2.1
            clear a0 a2 hg
            go_wp2_with fail
            refine PN.mono ?_
            clear PN
            rintro r w8 (⟨rfl, hrow, σ', P', hA⟩ | ⟨rfl, hA⟩)
            · have HA8 : Hid _ := hA
              have c8 := hrow.cell n (by rw [HPL.out]; exact hn6')
              have f8 := hrow.frozen n
              clear hA hrow HPL
              generalize P.getD n 0 = x at *
              go_wp2_with fail
              go_meet
              case rel => exact ⟨σ', P', HCUT.out _ _ _ _ HY.out.1 HA8.out⟩
            · have HA8 : Hid _ := hA
              clear hA hg0 hg1 HPL
              go_wp2_with fail
              go_meet
              case rel => exact ⟨σ, P, HCUT.out _ _ _ _ HY.out.1 HA8.out⟩
          · have PN := st_unpin HSD2.out (by omega) hn6'
            have hg := HSD2.out.good n hn6'
            have HPL : Hid (P.length = 6) := HSD2.out.pl
            have hg0 := hg.1
            have hg1 := hg.2.1
            clear a0 a2 hg
            go_wp2_with fail
            refine PN.mono ?_
            clear PN
            rintro r w8 (⟨rfl, hrow, σ', P', hA⟩ | ⟨x, rfl, hx0, hA⟩)
            · have HA8 : Hid _ := hA
              have c8 := hrow.cell n (by rw [HPL.out]; exact hn6')
              have f8 := hrow.frozen n
              clear hA hrow HPL
              generalize P.getD n 0 = x at *
              go_wp2_with fail
              go_meet
              case rel => exact ⟨σ', P', HCUT.out _ _ _ _ HY.out.1 HA8.out⟩
            · have HA8 : Hid _ := hA
              clear hA hg0 hg1 HPL
              go_wp2_with fail
              go_meet
              case rel => exact ⟨σ, P, HCUT.out _ _ _ _ HY.out.1 HA8.out⟩
        case rest =>
          obtain ⟨σ', P', HS8, HY8, HYN⟩ := hcut
          clear HSD2 HRD HY a0 a2 hK
          have HD := st_held HS8.out
          go_wp2_with fail
          refine HD.mono ?_
          clear HD
          rintro r w9 ⟨ah, Nn, hc, rfl, hNn, hsN, hNk, hN4, hb9⟩
          have HS9 : Hid (StW w.heap.size (1 + mc) (k + 1) w w9 σ' p pb P') := HS8.out.up hb9
          have HY9 : Hid (SrcI w9 ao Y) := HY8.out.below hb9 (Nat.le_refl _)
          have HN9 : Hid (SrcI w9 ah Nn) := hsN
          have HYN9 : Hid (∀ x ∈ Y, x ∈ Nn) := by rw [hNn]; exact HYN.out
          have HG9 : Hid (∀ j, j < 6 → 0 ≤ P'.getD j 0 ∧ P'.getD j 0 ≤ (k + 1 : Nat) ∧ (0 < P'.getD j 0 → (j : Int) ∈ Nn)) := by rw [hNn]; exact HS9.out.good
          have hNk' : (Nn.length : Int) ≤ 1 + (mc : Int) := by omega
          clear hNn hsN hb9 HS8 HY8 HYN hNk
          have AM := fun (x : Int) => among_any ah Nn hc x w9 HN9.out (by omega)
          go_wp2_with fail
          go_loopg [16] 5 (fun g2 s16 w2r => ∃ j : Nat, j + g2 = 5 ∧ j ≤ Y.length ∧ s16 = .int .i64 j ∧ Hid (w2r = w9))
          case atStart => exact ⟨0, rfl, Nat.zero_le _, rfl, rfl⟩
          case round =>
            obtain ⟨j, hj, hjl, rfl, HW2⟩ := hrel
            obtain rfl := HW2.out.symm
            clear HW2
            by_cases hjt : (j : Int) < Y.length
            · rcases HY9.out with hnil | ⟨b2, o2, rfl, hb2, hc2⟩
              · rw [hnil] at hjt; simp at hjt; omega
              have c2 := hc2 j (by omega)
              have AMj := AM (Y.getD j 0)
              rw [decide_eq_true (HYN9.out _ (mem_getD (l := Y) (k := j) (by omega)))] at AMj
              clear hc2 hb2
              generalize Y.getD j 0 = y at *
              go_wp2_with fail
              refine AMj.mono ?_
              clear AMj
              rintro r w10 ⟨rfl, hw10⟩
              obtain rfl := hw10.symm
              clear hw10
              go_wp2_with fail
              go_roundg (gk - 1)
              case measure => omega
              case rel => exact ⟨j + 1, by omega, by omega, by go_num, rfl⟩
            · go_wp2_with fail
              go_loopg [17] 7 (fun g3 s17 w3r => ∃ i : Nat, i + g3 = 7 ∧ i ≤ 6 ∧ s17 = .int .i64 i ∧ Hid (w3r = w9))
              case atStart => exact ⟨0, rfl, Nat.zero_le _, rfl, rfl⟩
              case round =>
                obtain ⟨i, hi, hi6, rfl, HW3⟩ := hrel
                obtain rfl := HW3.out.symm
                clear HW3
                by_cases hit : (i : Int) < 6
                · have c3 := HS9.out.row.cell i (by rw [HS9.out.pl]; omega)
                  obtain ⟨g1, g2', g3'⟩ := HG9.out i (by omega)
                  have hlt0 : ¬ P'.getD i 0 < 0 := by omega
                  have AMi := AM (i : Int)
                  have HG3 : Hid (0 < P'.getD i 0 → (i : Int) ∈ Nn) := g3'
                  clear g3' g2'
                  generalize P'.getD i 0 = x3 at *
                  by_cases hx3 : 0 < x3
                  · rw [decide_eq_true (HG3.out hx3)] at AMi
                    go_wp2_with fail
                    refine AMi.mono ?_
                    clear AMi
                    rintro r w10 ⟨rfl, hw10⟩
                    obtain rfl := hw10.symm
                    clear hw10
                    go_wp2_with fail
                    go_roundg (gk - 1)
                    case measure => omega
                    case rel => exact ⟨i + 1, by omega, by omega, by go_num, rfl⟩
                  · clear AMi
                    go_wp2_with fail
                    go_roundg (gk - 1)
                    case measure => omega
                    case rel => exact ⟨i + 1, by omega, by omega, by go_num, rfl⟩
                · go_wp2_with fail
                  go_roundg (60 - k)
                  case measure => omega
                  case rel => exact ⟨k + 1, σ', P', by omega, by go_num, HS9⟩
      · have z0 : (K == 0) = false := beq_eq_false_iff_ne.2 (by omega)
        have z1 : (K == 1) = false := beq_eq_false_iff_ne.2 (by omega)
        have z2 : (K == 2) = false := beq_eq_false_iff_ne.2 (by omega)
        have z3 : (K == 3) = false := beq_eq_false_iff_ne.2 (by omega)
        have z6 : (K == 6) = false := beq_eq_false_iff_ne.2 (by omega)
        have z7 : (K == 7) = false := beq_eq_false_iff_ne.2 (by omega)
        clear hK a2
        go_wp2_with fail
        go_roundg (gk - 1)
        case measure => omega
        case rel => exact ⟨k + 1, σ, P, by omega, by go_num, HSD2.out.more (Nat.le_succ _)⟩
    · have hends : (¬ (k : Int) < m) ∨ ((k : Int) < m ∧ ¬ (k : Int) < 60) := by omega
      have HB : Hid (Below w.heap.size w wr) := HS.out.be
      clear hlt HS
      rcases hends with hlm | ⟨hlm, hl60⟩
      all_goals
        go_wp2_with fail
        refine (cknown_any _).mono ?_
        rintro e w6 ⟨rfl, h6⟩
        have HB2 := HB.out.trans (h6.mono HB.out.size)
        go_wp2
        go_ret
        exact ⟨rfl, HB2⟩
end Go.Proofs.Ytglmbihahldfcaa
