/- The walk of leveelaw10.CacheReads. -/
import Derived.Test.YtglmbihahldfcaaCwro
import Derived.Deep.CutBlock
import Derived.Deep.DeepCutAuto
import Derived.Deep.LoopGhost
import Derived.Deep.QuietTactic
import Derived.BigQuiet
namespace Go.Proofs.Ytglmbihahldfcaa
open Go.RowKit
set_option maxRecDepth 100000
def HeapAt (w : World) (q : Nat) (o : Obj) : Prop := w.heap[q]? = some o
section
variable {w w' : World} {q : Nat} {o : Obj}
theorem HeapAt.lt (h : HeapAt w q o) : q < w.heap.size := (Array.getElem?_eq_some_iff.1 h).1
theorem HeapAt.up (h : HeapAt w q o) (hb : Below w.heap.size w w') : HeapAt w' q o := by unfold HeapAt; rw [hb.block q h.lt]; exact h
theorem HeapAt.fr {T : Nat → Prop} (h : HeapAt w q o) (hf : Fr T w w') (hq : ¬ T q) : HeapAt w' q o := by unfold HeapAt; rw [hf.blk q h.lt hq]; exact h
theorem HeapAt.store {g i : Nat} {v : Value} (h : HeapAt w q o) (hq : ¬ g = q) : HeapAt (w.setCell ⟨g, i, none⟩ v) q o := by unfold HeapAt; rw [Below.heap_setCell _ _ _ _ (fun e => hq e.symm)]; exact h
end
theorem RdC.start {w w2 : World} {base p mb k dp dq : Nat} {J : Nat → Prop} (hC : CS w2 base ⟨p, mb, 0, .slice none 0 0, k, [], dp, 4, dq, false, 0, fun _ => zer, fun _ => [], fun _ => .slice none 0 0⟩ []) (hb : Below base w w2) (hk : k ≤ 4) :
    RdC base 0 w (w2.alloc (.cells (svs (List.replicate 4 [])).toArray 9)) ⟨p, mb, 0, .slice none 0 0, k, [], dp, 4, dq, false, 0, fun _ => zer, fun _ => [], fun _ => .slice none 0 0⟩ p dp w2.heap.size (List.replicate 4 []) J := by
  have hb2 : Below w2.heap.size w2 (w2.alloc (.cells (svs (List.replicate 4 [])).toArray 9)) := (Below.refl _ _).alloc (Nat.le_refl _) _
  refine ⟨hC.up hb2, Nat.zero_le _, hk, rfl, rfl, rfl, rfl, rfl, Nat.le_refl _, fun _ => Nat.le_refl _, rfl, fun hs => ?_, by show w2.heap.size < (w2.heap.push _).size; simp, hC.bs, fun b hb => .inr ⟨?_, fun e he => by cases he⟩, hb.trans (hb2.mono hC.bs)⟩
  · have := hC.sk_size hs; omega
  · have : b = 0 ∨ b = 1 ∨ b = 2 ∨ b = 3 := by omega
    rcases this with rfl | rfl | rfl | rfl <;> rfl
theorem str_beq (a b : List UInt8) : ((str a).toList == (str b).toList) = (a == b) := by
  rw [Bool.eq_iff_iff]
  constructor
  · intro h
    have h2 := beq_iff_eq.1 h
    have : a = b := by
      apply str_inj
      rw [ByteArray.toList_eq, ByteArray.toList_eq] at h2
      exact WideShapes.bytes_inj h2
    simp [this]
  · intro h
    rw [beq_iff_eq.1 h]; simp
theorem WR.more {A : Acts} {i b : Nat} (h : WR A i b) : WR A (i + 1) b := by
  obtain ⟨j, h1, h2⟩ := h
  exact ⟨j, by omega, h2⟩
set_option maxHeartbeats 32000000 in
theorem cacheReads_any (ms : Int) (sp : Option Addr) (m cap : Nat) (A : Acts) (w : World) (hms : -9223372036854775808 ≤ ms ∧ ms ≤ 9223372036854775807) (harg : m ≤ cap ∧ (cap : Int) ≤ 9223372036854775807 ∧ ActsAt w sp m A) :
    Calls Try.prog 4 #[.int .i64 ms, .slice sp m cap] w fun e w' => e = .returned (.bool true) ∧ Below w.heap.size w w' := by
  obtain ⟨hmc, hcap, hacts⟩ := harg
  have HACTS : Hid (ActsAt w sp m A) := hacts
  clear hacts
  have NW := new_any w 4 (by omega) (by omega)
  rw [show ((4 : Nat) : Int) = 4 from rfl] at NW
  have CT := fun W => count_any ms 4 W hms (by omega) (by omega)
  clear hms
  go_enter Try.func4, Try.ntmps4
  go_wp2_with fail
  refine NW.mono ?_
  clear NW
  rintro r w1 ⟨dp, dq, rfl, hD1, hb1⟩
  have HD1 : Hid (DiskAt w1 w.heap.size dp 4 false 0 (fun _ => zer) (fun _ => []) dq (fun _ => .slice none 0 0)) := hD1
  have HB1 : Hid (Below w.heap.size w w1) := hb1
  clear hD1 hb1
  go_wp2_with fail
  refine (CT _).mono ?_
  clear CT
  rintro r w1' ⟨mc, rfl, hm4, hw⟩
  obtain rfl : w1 = w1' := hw.symm
  have CN := cnew_any HD1.out (1 + mc) (by omega) (by omega)
  rw [show ((1 + mc : Nat) : Int) = 1 + (mc : Int) by omega] at CN
  go_wp2_with fail
  refine CN.mono ?_
  clear CN
  rintro r w2 ⟨p, mb, rfl, hC2, _, _, hb2⟩
  have HS0 : Hid (RdC w.heap.size 0 w (w2.alloc (.cells (svs (List.replicate 4 [])).toArray 9)) _ p dp w2.heap.size (List.replicate 4 []) (WR A 0)) := RdC.start hC2 (HB1.out.trans (hb2.mono HB1.out.size)) (by omega)
  have HR0 : Hid (RowS (w2.alloc (.cells (svs (List.replicate 4 [])).toArray 9)) w2.heap.size (List.replicate 4 [])) := heap_alloc_new _ _
  have hmk := make_strs w2 4 (by omega)
  rw [show ((4 : Nat) : Int) = 4 from rfl] at hmk
  clear hC2 hb2 HD1 HB1
  generalize svs (List.replicate 4 []) = ivz at *
  go_wp2_with fail
  clear hmk
  generalize w2.alloc (.cells ivz.toArray 9) = w3 at HS0 HR0 ⊢
  obtain ⟨pb, hpb⟩ : ∃ pb, Hid (pb = w2.heap.size) := ⟨_, rfl⟩
  rw [← hpb.out] at HS0 HR0 ⊢
  clear hpb
  go_loopg [10] 51 (fun gk s10 wr => ∃ (k : Nat) (σ : CSt) (S : List (List UInt8)), k + gk = 51 ∧ s10 = .int .i64 k ∧ Hid (RdC w.heap.size k w wr σ p dp pb S (WR A k)) ∧ Hid (RowS wr pb S))
  case atStart => exact ⟨0, _, _, rfl, rfl, HS0, HR0⟩
  case round =>
    obtain ⟨k, σ, S, hk, rfl, HS, HR⟩ := hrel
    clear HS0 HR0
    by_cases hlt : (k : Int) < m ∧ (k : Int) < 50
    · obtain ⟨hlm, hl60⟩ := hlt
      obtain ⟨b, off, rfl, hbl, hcell⟩ := HACTS.out (by omega)
      have HBL : Hid (b < w.heap.size ∧ ∀ k, k < m → w.cell? ⟨b, off + k * 3, none⟩ = some (.int .i64 (A.K k)) ∧ w.cell? ⟨b, off + k * 3 + 1, none⟩ = some (.int .i64 (A.N k))) := ⟨hbl, fun k hk => ⟨(hcell k hk).1, (hcell k hk).2.1⟩⟩
      have kc := fun (j : Nat) => HS.out.be.cell (p := ⟨b, off + k * 3 + j, none⟩) hbl
      have cc := hcell k (by omega)
      have e0 := (kc 0).trans cc.1
      have e1 := (kc 1).trans cc.2.1
      have e2 := (kc 2).trans cc.2.2.1
      have HSD : Hid (Src w (A.P k) (A.D k) ∧ ((A.D k).length : Int) ≤ 9223372036854775807) := cc.2.2.2.2.2
      rw [Nat.add_zero] at e0
      clear kc cc hcell hbl
      obtain ⟨n, hn4, hnm⟩ : ∃ n : Nat, n < 4 ∧ A.N k % 4 = (n : Int) := ⟨(A.N k % 4).toNat, by omega, by omega⟩
      have HWR : Hid (A.K k = 5 → WR A (k + 1) n) := fun h => ⟨k, by omega, h, hnm⟩
      have CT := fun W => count_mod (A.N k) 4 W (by omega) (by omega)
      rw [hnm] at CT
      clear hnm
      generalize A.K k = K at *
      generalize A.N k = N at *
      generalize A.P k = DP at *
      generalize A.D k = DD at *
      generalize A.C k = DC at *
      go_upto_region 10 with fail
      have HSA : Hid (RdC w.heap.size k w (wr.alloc (.cells #[.int .i64 K, .int .i64 N, .slice DP DD.length DC] 41)) σ p dp pb S (WR A k)) := HS.out.up ((Below.refl _ _).alloc (Nat.le_refl _) _)
      have HRA : Hid (RowS (wr.alloc (.cells #[.int .i64 K, .int .i64 N, .slice DP DD.length DC] 41)) pb S) := HR.out.up ((Below.refl _ _).alloc (Nat.le_refl _) _)
      have HAA : Hid (HeapAt (wr.alloc (.cells #[.int .i64 K, .int .i64 N, .slice DP DD.length DC] 41)) wr.heap.size (.cells #[.int .i64 K, .int .i64 N, .slice DP DD.length DC] 41 (0, 0))) := heap_alloc_new _ _
      have HPA : Hid (¬ Sk σ wr.heap.size ∧ ¬ pb = wr.heap.size) := ⟨fun c => by have := HS.out.cs.sk_size c; omega, fun c => by have := HR.out.lt; omega⟩
      generalize wr.alloc (.cells #[.int .i64 K, .int .i64 N, .slice DP DD.length DC] 41) = wA at HSA HRA HAA ⊢
      obtain ⟨pa, hpa⟩ : ∃ pa, Hid (pa = wr.heap.size) := ⟨_, rfl⟩
      rw [← hpa.out] at HAA HPA ⊢
      clear e0 e1 e2 HS HR hpa
      have BY := rd_bytes HSA.out
      go_wp2_with fail
      refine BY.mono ?_
      clear BY
      rintro r wB ⟨gB, rfl, hsB, hlB, hbB⟩
      have HSB : Hid _ := HSA.out.up hbB
      have HRB : Hid (RowS wB pb S) := HRA.out.up hbB
      have HAB : Hid (HeapAt wB pa (.cells #[.int .i64 K, .int .i64 N, .slice DP DD.length DC] 41 (0, 0))) := HAA.out.up hbB
      have hcvB := conv_str hsB 1024 1024 hlB.symm
      have HX0 : Hid (str (DB (lst σ)) = str (DB (lst σ))) := rfl
      obtain ⟨X0, hX0⟩ : ∃ X0, Hid (X0 = str (DB (lst σ))) := ⟨_, rfl⟩
      rw [← hX0.out] at hcvB
      clear hsB hlB hbB HSA HRA HAA HX0
      have a1 : wB.cell? ⟨pa, 1, none⟩ = some (.int .i64 N) := by rw [cell_of_row wB pa 1 _ _ _ HAB.out]; rfl
      go_wp2_with fail
      refine (CT _).mono ?_
      clear CT hcvB
      rintro r wB' ⟨rfl, hw'⟩
      obtain rfl : wB = wB' := hw'.symm
      clear a1 hw'
      have a0 : wB.cell? ⟨pa, 0, none⟩ = some (.int .i64 K) := by rw [cell_of_row wB pa 0 _ _ _ HAB.out]; rfl
      have a2 : wB.cell? ⟨pa, 2, none⟩ = some (.slice DP DD.length DC) := by rw [cell_of_row wB pa 2 _ _ _ HAB.out]; rfl
      have hk50 : k ≤ 50 := by omega
      go_upto_block 2 with fail
      go_cut [] (fun wc => ∃ (σ' : CSt) (S' : List (List UInt8)), Hid (RdC w.heap.size (k + 1) w wc σ' p dp pb S' (WR A (k + 1))) ∧ Hid (RowS wc pb S') ∧ Hid (HeapAt wc pa (.cells #[.int .i64 K, .int .i64 N, .slice DP DD.length DC] 41 (0, 0))) ∧ Hid (K = 4 ∨ K = 5 ∨ lst σ' = lst σ))
      case first =>
        have HMORE : Hid (∀ b, WR A k b → WR A (k + 1) b) := fun b h => h.more
        by_cases hK23 : K = 2 ∨ K = 3
        · rcases hK23 with rfl | rfl
          · have FL := fill_any wB DP DC DD (HSD.out.1.below HSB.out.be (Nat.le_refl _)) HSD.out.2
            clear a0
            go_wp2_with fail
            refine FL.mono ?_
            clear FL
            rintro r w7 ⟨gf, rfl, hgf, hgfl, hb7⟩
            have HS7 : Hid _ := HSB.out.up hb7
            have HR7 : Hid (RowS w7 pb S) := HRB.out.up hb7
            have HA7 : Hid (HeapAt w7 pa _) := HAB.out.up hb7
            have LY := rd_lay HS7.out (by omega) hn4 (fillL DD) gf 0 256 hgf.src (fillL_length _) (fun c => by have := HSB.out.cs.sk_size c; omega)
            clear hgf hgfl hb7 a2
            go_wp2_with fail
            refine LY.mono ?_
            clear LY
            rintro r w8 (⟨rfl, σ', hA, hlst⟩ | ⟨rfl, hA⟩)
            · have HA8 : Hid (HeapAt w8 pa _) := HA7.out.fr hA.fr HPA.out.1
              have HR8 : Hid (RowS w8 pb S) := HR7.out.fr hA.fr HS7.out.off
              have HL8 : Hid _ := And.intro hA hlst
              have a2 : w8.cell? ⟨pa, 2, none⟩ = some (.slice DP DD.length DC) := by rw [cell_of_row w8 pa 2 _ _ _ HA8.out]; rfl
              have FL := fill_any w8 DP DC DD (HSD.out.1.below hA.st.be (Nat.le_refl _)) HSD.out.2
              clear hA hlst HA7 HR7
              go_wp2_with fail
              refine FL.mono ?_
              clear FL
              rintro r w9 ⟨gf2, rfl, hgf2, hgfl2, hb9⟩
              have HS9 : Hid _ := (HL8.out.1.st.up hb9).more (Nat.le_refl _) HMORE.out
              have HR9 : Hid (RowS w9 pb S) := HR8.out.up hb9
              have HA9 : Hid (HeapAt w9 pa _) := HA8.out.up hb9
              have hcv9 := conv_str hgf2.src 256 256 (fillL_length DD).symm
              have c9 := HR9.out.cell n (by rw [HSB.out.sl]; exact hn4)
              have f9 := HR9.out.frozen n
              clear hgf2 hgfl2 hb9 a2 HA8 HR8
              generalize S.getD n [] = s9 at *
              obtain ⟨X9, hX9⟩ : ∃ X9, Hid (X9 = str (fillL DD)) := ⟨_, rfl⟩
              rw [← hX9.out] at hcv9
              have hn4' : (n : Int) < 4 := by omega
              go_wp2_with fail
              go_meet
              case rel =>
                rw [hX9.out]
                exact ⟨σ', S.set n (fillL DD), HS9.out.store, HR9.out.set n (fillL DD), HA9.out.store HPA.out.2, .inr (.inr HL8.out.2)⟩
            · have HA8 : Hid (HeapAt w8 pa _) := HA7.out.fr hA.fr HPA.out.1
              have HR8 : Hid (RowS w8 pb S) := HR7.out.fr hA.fr HS7.out.off
              have HS8 : Hid _ := hA.st.more (Nat.le_refl _) HMORE.out
              clear hA HA7 HR7
              go_wp2_with fail
              go_meet
              case rel => exact ⟨σ, S, HS8, HR8, HA8, .inr (.inr rfl)⟩
          · have FL := fill_any wB DP DC DD (HSD.out.1.below HSB.out.be (Nat.le_refl _)) HSD.out.2
            clear a0
            go_wp2_with fail
            refine FL.mono ?_
            clear FL
            rintro r w7 ⟨gf, rfl, hgf, hgfl, hb7⟩
            have HS7 : Hid _ := HSB.out.up hb7
            have HR7 : Hid (RowS w7 pb S) := HRB.out.up hb7
            have HA7 : Hid (HeapAt w7 pa _) := HAB.out.up hb7
            have LY := rd_lay HS7.out (by omega) hn4 (fillL DD) gf 0 256 hgf.src (fillL_length _) (fun c => by have := HSB.out.cs.sk_size c; omega)
            clear hgf hgfl hb7 a2
            go_wp2_with fail
            refine LY.mono ?_
            clear LY
            rintro r w8 (⟨rfl, σ', hA, hlst⟩ | ⟨rfl, hA⟩)
            · have HA8 : Hid (HeapAt w8 pa _) := HA7.out.fr hA.fr HPA.out.1
              have HR8 : Hid (RowS w8 pb S) := HR7.out.fr hA.fr HS7.out.off
              have HL8 : Hid _ := And.intro hA hlst
              have a2 : w8.cell? ⟨pa, 2, none⟩ = some (.slice DP DD.length DC) := by rw [cell_of_row w8 pa 2 _ _ _ HA8.out]; rfl
              have FL := fill_any w8 DP DC DD (HSD.out.1.below hA.st.be (Nat.le_refl _)) HSD.out.2
              clear hA hlst HA7 HR7
              go_wp2_with fail
              refine FL.mono ?_
              clear FL
              rintro r w9 ⟨gf2, rfl, hgf2, hgfl2, hb9⟩
              have HS9 : Hid _ := (HL8.out.1.st.up hb9).more (Nat.le_refl _) HMORE.out
              have HR9 : Hid (RowS w9 pb S) := HR8.out.up hb9
              have HA9 : Hid (HeapAt w9 pa _) := HA8.out.up hb9
              have hcv9 := conv_str hgf2.src 256 256 (fillL_length DD).symm
              have c9 := HR9.out.cell n (by rw [HSB.out.sl]; exact hn4)
              have f9 := HR9.out.frozen n
              clear hgf2 hgfl2 hb9 a2 HA8 HR8
              generalize S.getD n [] = s9 at *
              obtain ⟨X9, hX9⟩ : ∃ X9, Hid (X9 = str (fillL DD)) := ⟨_, rfl⟩
              rw [← hX9.out] at hcv9
              have hn4' : (n : Int) < 4 := by omega
              go_wp2_with fail
              go_meet
              case rel =>
                rw [hX9.out]
                exact ⟨σ', S.set n (fillL DD), HS9.out.store, HR9.out.set n (fillL DD), HA9.out.store HPA.out.2, .inr (.inr HL8.out.2)⟩
            · have HA8 : Hid (HeapAt w8 pa _) := HA7.out.fr hA.fr HPA.out.1
              have HR8 : Hid (RowS w8 pb S) := HR7.out.fr hA.fr HS7.out.off
              have HS8 : Hid _ := hA.st.more (Nat.le_refl _) HMORE.out
              clear hA HA7 HR7
              go_wp2_with fail
              go_meet
              case rel => exact ⟨σ, S, HS8, HR8, HA8, .inr (.inr rfl)⟩
        · by_cases hK4 : K = 4
          · subst hK4
            have WO := rd_write_own HSB.out (by omega) hn4
            clear a0
            go_wp2_with fail
            refine WO.mono ?_
            clear WO
            rintro r w8 ⟨⟨x8, rfl⟩, σ', hA⟩
            have HA8 : Hid (HeapAt w8 pa _) := HAB.out.fr hA.fr HPA.out.1
            have HR8 : Hid (RowS w8 pb S) := HRB.out.fr hA.fr HSB.out.off
            have HS8 : Hid _ := hA.st.more (Nat.le_refl _) HMORE.out
            clear hA
            go_wp2_with fail
            go_meet
            case rel => exact ⟨σ', S, HS8, HR8, HA8, .inl (by first | exact rfl | trivial)⟩
          · by_cases hK5 : K = 5
            · subst hK5
              have FL := fill_any wB DP DC DD (HSD.out.1.below HSB.out.be (Nat.le_refl _)) HSD.out.2
              clear a0
              go_wp2_with fail
              refine FL.mono ?_
              clear FL
              rintro r w7 ⟨gf, rfl, hgf, hgfl, hb7⟩
              have HS7 : Hid _ := HSB.out.up hb7
              have HR7 : Hid (RowS w7 pb S) := HRB.out.up hb7
              have HA7 : Hid (HeapAt w7 pa _) := HAB.out.up hb7
              have WO := rd_write_img HS7.out (by omega) hn4 HMORE.out (HWR.out (by first | exact rfl | trivial)) (fillL DD) gf 0 256 hgf.src (fillL_length _) (fun c => by have := HSB.out.cs.sk_size c; omega)
              clear hgf hgfl hb7 a2
              go_wp2_with fail
              refine WO.mono ?_
              clear WO
              rintro r w8 ⟨⟨x8, rfl⟩, σ', hA⟩
              have HA8 : Hid (HeapAt w8 pa _) := HA7.out.fr hA.fr HPA.out.1
              have HR8 : Hid (RowS w8 pb S) := HR7.out.fr hA.fr HSB.out.off
              have HS8 : Hid _ := hA.st
              clear hA
              go_wp2_with fail
              go_meet
              case rel => exact ⟨σ', S, HS8, HR8, HA8, .inr (.inl (by first | exact rfl | trivial))⟩
            · by_cases hK8 : K = 8
              · subst hK8
                have DR := rd_drop HSB.out hn4
                clear a0 a2
                go_wp2_with fail
                refine DR.mono ?_
                clear DR
                rintro r w8 (⟨rfl, σ', hA, hlst⟩ | ⟨x8, rfl, hx8, hA⟩)
                · have HA8 : Hid (HeapAt w8 pa _) := HAB.out.fr hA.fr HPA.out.1
                  have HR8 : Hid (RowS w8 pb S) := HRB.out.fr hA.fr HSB.out.off
                  have HS8 : Hid _ := And.intro (hA.st.more (Nat.le_refl _) HMORE.out) hlst
                  have c9 := HR8.out.cell n (by rw [HSB.out.sl]; exact hn4)
                  have f9 := HR8.out.frozen n
                  clear hA hlst
                  generalize S.getD n [] = s9 at *
                  have hn4' : (n : Int) < 4 := by omega
                  go_wp2_with fail
                  go_meet
                  case rel => exact ⟨σ', S.set n [], HS8.out.1.store, HR8.out.set n [], HA8.out.store HPA.out.2, .inr (.inr HS8.out.2)⟩
                · have HA8 : Hid (HeapAt w8 pa _) := HAB.out.fr hA.fr HPA.out.1
                  have HR8 : Hid (RowS w8 pb S) := HRB.out.fr hA.fr HSB.out.off
                  have HS8 : Hid _ := hA.st.more (Nat.le_refl _) HMORE.out
                  clear hA
                  go_wp2_with fail
                  go_meet
                  case rel => exact ⟨σ, S, HS8, HR8, HA8, .inr (.inr rfl)⟩
              · have z2 : (K == 2) = false := beq_eq_false_iff_ne.2 (by omega)
                have z3 : (K == 3) = false := beq_eq_false_iff_ne.2 (by omega)
                have z4 : (K == 4) = false := beq_eq_false_iff_ne.2 (by omega)
                have z5 : (K == 5) = false := beq_eq_false_iff_ne.2 (by omega)
                have z8 : (K == 8) = false := beq_eq_false_iff_ne.2 (by omega)
                clear hK23 hK4 hK5 hK8
                have RD := rd_read HSB.out (by omega) hn4
                clear a0 a2
                go_wp2_with fail
                refine RD.mono ?_
                clear RD
                rintro r w8 (⟨ao, x, xc, rfl, hxl, hsx, hcase, σ', hA, hlst⟩ | ⟨rfl, hA⟩)
                · have HA8 : Hid (HeapAt w8 pa _) := HAB.out.fr hA.fr HPA.out.1
                  have HR8 : Hid (RowS w8 pb S) := HRB.out.fr hA.fr HSB.out.off
                  have HS8 : Hid (RdC w.heap.size (k + 1) w w8 σ' p dp pb S (WR A (k + 1))) := hA.st.more (Nat.le_refl _) HMORE.out
                  have HLS : Hid (lst σ' = lst σ) := hlst
                  have HCASE : Hid _ := hcase
                  have HSX : Hid (x.length = 256 ∧ Src w8 ao x) := ⟨hxl, hsx⟩
                  clear hA hlst hcase hxl hsx
                  have DR := rd_dread HS8.out hn4
                  rw [HLS.out] at DR
                  go_wp2_with fail
                  refine DR.mono ?_
                  clear DR
                  rintro r w9 ⟨gd, rfl, hsd, hld, hb9⟩
                  have HS9 : Hid _ := HS8.out.up hb9
                  have HR9 : Hid (RowS w9 pb S) := HR8.out.up hb9
                  have HA9 : Hid (HeapAt w9 pa _) := HA8.out.up hb9
                  have hdd : ∀ d, Below w9.heap.size w9 (w9.drewN d) := fun d => below_drewN (Below.refl _ _) d
                  have HEND : Hid (∀ d, RdC w.heap.size (k + 1) w (w9.drewN d) σ' p dp pb S (WR A (k + 1)) ∧ RowS (w9.drewN d) pb S ∧ HeapAt (w9.drewN d) pa (.cells #[.int .i64 K, .int .i64 N, .slice DP DD.length DC] 41 (0, 0))) := fun d => ⟨HS9.out.up (hdd d), HR9.out.up (hdd d), HA9.out.up (hdd d)⟩
                  have hn4' : (n : Int) < 4 := by omega
                  have q1 : ∀ d, Sem.run Try.prog (convert 39 9 (.slice ao 256 xc)) (w9.drewN d) = .ok (.string (str x)) (w9.drewN d) := fun d => conv_str ((HSX.out.2.below hb9 (Nat.le_refl _)).below (hdd d) (Nat.le_refl _)) 256 xc HSX.out.1.symm
                  have q2 : ∀ d, Sem.run Try.prog (convert 39 9 (.slice (some ⟨gd, 0, none⟩) 256 256)) (w9.drewN d) = .ok (.string (str (lst σ n))) (w9.drewN d) := fun d => conv_str (hsd.below (hdd d) (Nat.le_refl _)) 256 256 hld.symm
                  have c9 : ∀ d, (w9.drewN d).cell? ⟨pb, n, none⟩ = some (.string (str (S.getD n []))) := fun d => ((HEND.out d).2.1).cell n (by rw [HSB.out.sl]; exact hn4)
                  have HNE : Hid (((str x).toList == (str []).toList) = false) := by
                    show _ = _
                    rw [str_beq, beq_eq_false_iff_ne]
                    intro e
                    have := HSX.out.1
                    rw [e] at this; cases this
                  clear hsd hld hb9 hdd HS8 HR8 HA8 HS9 HR9 HA9 HSX
                  rcases HCASE.out with heq | ⟨hs0, hx⟩
                  · rw [← heq] at c9
                    clear HCASE HNE
                    generalize str x = X at *
                    generalize str (lst σ n) = Y at *
                    go_wp2_with fail
                    go_quiet (fail)
                    go_wp2_with fail
                    go_meet
                    case rel => exact ⟨σ', S, (HEND.out _).1, (HEND.out _).2.1, (HEND.out _).2.2, .inr (.inr HLS.out)⟩
                  · have c9' : ∀ d, (w9.drewN d).cell? ⟨pb, n, none⟩ = some (.string ({ data := #[] } : ByteArray)) := fun d => by have := c9 d; rw [hs0] at this; exact this
                    have hne : (str x).toList.isEmpty = false := by
                      have h0 := HNE.out
                      cases h : (str x).toList.isEmpty
                      · rfl
                      · rw [List.isEmpty_iff] at h
                        rw [h, ByteArray.toList_eq (str [])] at h0
                        cases h0
                    clear c9 HCASE HNE
                    by_cases hxy : x = lst σ n
                    · rw [← hxy] at q2
                      clear hx
                      generalize str x = X at *
                      go_wp2_with fail
                      go_quiet (fail)
                      go_wp2_with fail
                      go_meet
                      case rel => exact ⟨σ', S, (HEND.out _).1, (HEND.out _).2.1, (HEND.out _).2.2, .inr (.inr HLS.out)⟩
                    · have hJ : WR A k n := by
                        rcases hx with hx | hx
                        · exact absurd hx hxy
                        · exact hx
                      have hne2 : ((str x).toList == (str (lst σ n)).toList) = false := by rw [str_beq, beq_eq_false_iff_ne]; exact hxy
                      have WC := fun d => wrote_any b off m cap k n A (w9.drewN d) ⟨hmc, hcap⟩ (by omega) (by omega) (fun j hj => ⟨((HEND.out d).1.be.cell (p := ⟨b, off + j * 3, none⟩) HBL.out.1).trans (HBL.out.2 j hj).1, ((HEND.out d).1.be.cell (p := ⟨b, off + j * 3 + 1, none⟩) HBL.out.1).trans (HBL.out.2 j hj).2⟩) hJ
                      clear hx hJ hxy
                      generalize str x = X at *
                      generalize str (lst σ n) = Y at *
                      go_wp2_with fail
                      go_quiet (first | (go_at_call 27; refine Calls.quiet_of_same (WC _)))
                      go_wp2_with fail
                      go_meet
                      case rel => exact ⟨σ', S, (HEND.out _).1, (HEND.out _).2.1, (HEND.out _).2.2, .inr (.inr HLS.out)⟩
                · have HA8 : Hid (HeapAt w8 pa _) := HAB.out.fr hA.fr HPA.out.1
                  have HR8 : Hid (RowS w8 pb S) := HRB.out.fr hA.fr HSB.out.off
                  have HS8 : Hid (RdC w.heap.size (k + 1) w w8 σ p dp pb S (WR A (k + 1))) := hA.st.more (Nat.le_refl _) HMORE.out
                  clear hA
                  have DR := rd_dread HS8.out hn4
                  go_wp2_with fail
                  refine DR.mono ?_
                  clear DR
                  rintro r w9 ⟨gd, rfl, hsd, hld, hb9⟩
                  have hdd : ∀ d, Below w9.heap.size w9 (w9.drewN d) := fun d => below_drewN (Below.refl _ _) d
                  have HEND : Hid (∀ d, RdC w.heap.size (k + 1) w (w9.drewN d) σ p dp pb S (WR A (k + 1)) ∧ RowS (w9.drewN d) pb S ∧ HeapAt (w9.drewN d) pa (.cells #[.int .i64 K, .int .i64 N, .slice DP DD.length DC] 41 (0, 0))) := fun d => ⟨(HS8.out.up hb9).up (hdd d), (HR8.out.up hb9).up (hdd d), (HA8.out.up hb9).up (hdd d)⟩
                  clear hsd hld hb9 hdd HS8 HR8 HA8
                  go_wp2_with fail
                  go_quiet (fail)
                  go_wp2_with fail
                  go_meet
                  case rel => exact ⟨σ, S, (HEND.out _).1, (HEND.out _).2.1, (HEND.out _).2.2, .inr (.inr rfl)⟩
      case rest =>
        obtain ⟨σ', S', HS8, HR8, HA8, HL8⟩ := hcut
        clear HSB HRB HAB a0 a2 HWR
        have a0 : wc.cell? ⟨pa, 0, none⟩ = some (.int .i64 K) := by rw [cell_of_row wc pa 0 _ _ _ HA8.out]; rfl
        by_cases h4 : K = 4
        · go_wp2_with fail
          go_roundg (gk - 1)
          case measure => omega
          case rel => exact ⟨k + 1, σ', S', by omega, by go_num, HS8, HR8⟩
        · have z4 : (K == 4) = false := beq_eq_false_iff_ne.2 h4
          by_cases h5 : K = 5
          · go_wp2_with fail
            go_roundg (gk - 1)
            case measure => omega
            case rel => exact ⟨k + 1, σ', S', by omega, by go_num, HS8, HR8⟩
          · have z5 : (K == 5) = false := beq_eq_false_iff_ne.2 h5
            have BY := rd_bytes HS8.out
            have hll : lst σ' = lst σ := by rcases HL8.out with h | h | h; exact absurd h h4; exact absurd h h5; exact h
            rw [hll] at BY
            clear hll HL8
            go_wp2_with fail
            refine BY.mono ?_
            clear BY
            rintro r w9 ⟨gB2, rfl, hsB, hlB, hbB⟩
            have HS9 : Hid _ := HS8.out.up hbB
            have HR9 : Hid (RowS w9 pb S') := HR8.out.up hbB
            have hcvB := conv_str hsB 1024 1024 hlB.symm
            rw [← hX0.out] at hcvB
            clear hsB hlB hbB HS8 HR8
            go_wp2_with fail
            go_roundg (gk - 1)
            case measure => omega
            case rel => exact ⟨k + 1, σ', S', by omega, by go_num, HS9, HR9⟩
    · have hends : (¬ (k : Int) < m) ∨ ((k : Int) < m ∧ ¬ (k : Int) < 50) := by omega
      have HB : Hid (Below w.heap.size w wr) := HS.out.be
      clear hlt HS HR
      rcases hends with hlm | ⟨hlm, hl60⟩
      all_goals
        go_wp2_with fail
        refine (cknown_any _).mono ?_
        rintro e w6 ⟨rfl, h6⟩
        have HB2 := HB.out.trans (h6.mono HB.out.size)
        go_wp2
        go_ret
        exact ⟨rfl, HB2⟩
end Go.Proofs.Ytglmbihahldfcaa
