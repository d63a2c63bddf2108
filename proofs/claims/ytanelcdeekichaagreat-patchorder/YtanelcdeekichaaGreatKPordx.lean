/- The walk of leveelaw11.PatchOrder: to the loop. -/
import Derived.Test.YtanelcdeekichaaGreatJPordw3
import Derived.Deep.CutBlock
import Derived.Deep.DeepCutAuto
namespace Go.Proofs.YtanelcdeekichaaGreat
open Go.RowKit
set_option maxRecDepth 100000
set_option maxHeartbeats 8000000 in
theorem patchOrder_any (w : World) (sp : Option Addr) (m cap : Nat) (A : Nat → Act6) (hm : m ≤ cap ∧ (cap : Int) ≤ 9223372036854775807) (hA : ActsAt w sp m A) (sp2 : Option Addr) (cap2 : Nat) (pk : List Int) (hm2 : pk.length ≤ cap2 ∧ (cap2 : Int) ≤ 9223372036854775807) (hpk : SrcI w sp2 pk) :
    Calls Tryz.prog 4 #[.slice sp m cap, .slice sp2 pk.length cap2] w fun e w' => e = .returned (.bool true) ∧ Below w.heap.size w w' := by
  have NW := new_any w 5 (by omega) (by omega)
  rw [show ((5 : Nat) : Int) = 5 from rfl] at NW
  have HAA : Hid (ActsAt w sp m A) := hA
  have HPK : Hid (SrcI w sp2 pk) := hpk
  have hmm : (m : Int) ≤ 9223372036854775807 := by omega
  clear hA hpk
  go_enter Tryz.func4, Tryz.ntmps4
  go_wp2_with fail
  refine NW.mono ?_
  clear NW
  rintro r w1 ⟨dp, dq, rfl, hD1, hb1⟩
  have PO := popn_any hD1 5 (by omega) (by omega)
  rw [show ((5 : Nat) : Int) = 5 from rfl] at PO
  have HB1 : Hid (Below w.heap.size w w1) := hb1
  clear hD1 hb1
  go_wp2_with fail
  refine PO.mono ?_
  clear PO
  rintro r w2 ⟨p, cm, bm, cp, mb, rfl, hP2, hb2⟩
  obtain ⟨s2, hs2⟩ : ∃ s2, s2 = newS p cm bm ⟨cp, mb, 0, .slice none 0 0, 5, [], dp, 5, dq, false, 0, fun _ => zer, fun _ => [], fun _ => .slice none 0 0⟩ := ⟨_, rfl⟩
  have hL2 : PL s2 (fun _ => []) [] 0 := by rw [hs2]; exact PL.made rfl ⟨by show 5 ≤ 5; omega, by show 5 ≤ 8; omega⟩ ⟨rfl, rfl⟩ rfl rfl
  rw [← hs2] at hP2
  have hO2 : OI s2 (([] : List Mk).map fun m => (m.b, m.A.map Int.toNat)) := by rw [hs2]; exact OI.made rfl rfl rfl rfl
  have e2 : s2.p = p ∧ s2.σ.dp = dp ∧ s2.σ.dn = 5 := by rw [hs2]; exact ⟨rfl, rfl, rfl⟩
  have K2 : Hid (OW w w2 p dp s2 (fun _ => []) 0 (.slice none 0 0) []) := ⟨hP2, hL2, hO2, HB1.out.trans (hb2.mono HB1.out.size), e2.1, e2.2.1, e2.2.2, OwnM.nil _ _, (fun k hk => by cases hk), (fun i m hm => by simp at hm)⟩
  clear hs2 hL2 hP2 e2 hb2 HB1 hO2
  go_wp2
  go_loopg [9, 10, 11, 12, 13, 14, 15, 16, 17, 18] 60 (fun gg t9 t10 _ _ _ _ _ _ _ _ W => ∃ (gw : World) (k : Nat) (v : Value) (ms : List Mk) (s : PSt) (ops : Nat → List Int), gw = W ∧ k ≤ 60 ∧ 60 - k ≤ gg ∧ t10 = .int .i64 k ∧ v = t9 ∧ ms.length ≤ k ∧ (∃ ao c, v = .slice ao ms.length c ∧ ms.length ≤ c) ∧ Hid (OW w gw p dp s ops k v ms))
  case atStart => exact ⟨_, 0, .slice none 0 0, [], s2, _, rfl, by omega, by omega, rfl, rfl, by simp, ⟨none, 0, rfl, by simp⟩, K2⟩
  case round =>
    clear K2
    obtain ⟨gw, k, v, ms, s, ops, rfl, hk, hgg, rfl, rfl, hml, ⟨va, vc, rfl, hvc⟩, HW⟩ := hrel
    by_cases hlt : k < m ∧ k < 60
    · have hlt1 : (k : Int) < (m : Int) := by omega
      have hlt2 : (k : Int) < 60 := by omega
      obtain ⟨ab, aoff, rfl, hab, hcc⟩ := HAA.out (by omega)
      obtain ⟨⟨a0, a1, a2, a3, a4, a5⟩, hok⟩ := hcc k hlt.1
      rw [addr_add] at a0 a1 a2 a3 a4 a5
      have tr : ∀ o, gw.cell? ⟨ab, o, none⟩ = w.cell? ⟨ab, o, none⟩ := fun o => HW.out.be.cell (p := ⟨ab, o, none⟩) hab
      rw [← tr] at a0 a1 a2 a3 a4 a5
      rw [Nat.add_zero] at a0
      have CT := count_any (A k).N 5 
      clear tr
      obtain ⟨q, hq⟩ : ∃ q, q = A k := ⟨_, rfl⟩
      rw [← hq] at a0 a1 a2 a3 a4 a5 hok CT
      have HOK : Hid (q.Ok w) := hok
      have CT' := fun W => CT W hok.n (by omega) (by omega)
      clear hcc hok CT hq
      go_wp2_with (first | (go_at_call 25; refine Hid.out ?_))
      change Calls _ _ _ _ _
      refine (CT' _).mono ?_
      clear CT'
      rintro r w3 ⟨n, rfl, hn5, hw3⟩
      subst hw3
      have HB3 : Hid (Below gw.heap.size gw (gw.alloc (.cells #[.int .i64 q.K, .int .i64 q.N, .int .i64 q.F, .slice q.dp q.D.length q.dc, .slice q.ap q.A.length q.ac, .bool q.R] 39))) := (Below.refl _ _).alloc (Nat.le_refl _) _
      have HW3 : Hid (OW w (gw.alloc (.cells #[.int .i64 q.K, .int .i64 q.N, .int .i64 q.F, .slice q.dp q.D.length q.dc, .slice q.ap q.A.length q.ac, .bool q.R] 39)) p dp s ops k (.slice va ms.length vc) ms) := HW.out.up HB3.out
      clear a0 a1 a2 a3 a4 a5
      have hrow := heap_alloc_new gw (.cells #[.int .i64 q.K, .int .i64 q.N, .int .i64 q.F, .slice q.dp q.D.length q.dc, .slice q.ap q.A.length q.ac, .bool q.R] 39)
      have b0 : (gw.alloc (.cells #[.int .i64 q.K, .int .i64 q.N, .int .i64 q.F, .slice q.dp q.D.length q.dc, .slice q.ap q.A.length q.ac, .bool q.R] 39)).cell? ⟨gw.heap.size, 0, none⟩ = some (.int .i64 q.K) := (cell_of_row _ _ _ _ _ _ hrow).trans rfl
      have b4 : (gw.alloc (.cells #[.int .i64 q.K, .int .i64 q.N, .int .i64 q.F, .slice q.dp q.D.length q.dc, .slice q.ap q.A.length q.ac, .bool q.R] 39)).cell? ⟨gw.heap.size, 4, none⟩ = some (.slice q.ap q.A.length q.ac) := (cell_of_row _ _ _ _ _ _ hrow).trans rfl
      have HBX : Hid (¬ Ak s gw.heap.size) := fun hA => by have := HW.out.pm.lt hA; omega
      have HZ3 : Hid (gw.heap.size < (gw.alloc (.cells #[.int .i64 q.K, .int .i64 q.N, .int .i64 q.F, .slice q.dp q.D.length q.dc, .slice q.ap q.A.length q.ac, .bool q.R] 39)).heap.size) := by show _ < _; rw [size_alloc]; omega
      clear hrow HW
      generalize gw.alloc (.cells #[.int .i64 q.K, .int .i64 q.N, .int .i64 q.F, .slice q.dp q.D.length q.dc, .slice q.ap q.A.length q.ac, .bool q.R] 39) = W3 at *
      obtain ⟨K, hK⟩ : ∃ K, K = q.K := ⟨_, rfl⟩
      rw [← hK] at b0
      clear hK
      by_cases h5 : K = 5 ∨ K = 6
      · have WR := ow_write HW3.out (by omega) n (by omega)
        have h7 : ¬ K = 7 := by omega
        by_cases h55 : K = 5
        · go_wp2_with (first | (go_at_call 26; refine Hid.out ?_))
          change Calls _ _ _ _ _
          refine WR.mono ?_
          clear WR
          rintro r w4 ⟨e4, s4, rfl, hW4⟩
          have HW4 : Hid (OW w w4 p dp s4 ops (k + 1) (.slice va ms.length vc) ms) := hW4
          clear hW4
          go_wp2
          go_roundg (60 - (k + 1))
          case measure => omega
          case rel => exact ⟨_, k + 1, _, ms, s4, ops, rfl, by omega, by omega, by go_num, rfl, by omega, ⟨va, vc, rfl, hvc⟩, HW4⟩
        · have h66 : K = 6 := by omega
          go_wp2_with (first | (go_at_call 26; refine Hid.out ?_))
          change Calls _ _ _ _ _
          refine WR.mono ?_
          clear WR
          rintro r w4 ⟨e4, s4, rfl, hW4⟩
          have HW4 : Hid (OW w w4 p dp s4 ops (k + 1) (.slice va ms.length vc) ms) := hW4
          clear hW4
          go_wp2
          go_roundg (60 - (k + 1))
          case measure => omega
          case rel => exact ⟨_, k + 1, _, ms, s4, ops, rfl, by omega, by omega, by go_num, rfl, by omega, ⟨va, vc, rfl, hvc⟩, HW4⟩
      · have h55 : ¬ K = 5 := by omega
        have h66 : ¬ K = 6 := by omega
        clear h5
        by_cases h7 : K = 7
        · have FL := ow_flush HW3.out (by omega)
          go_wp2_with (first | (go_at_call 27; refine Hid.out ?_))
          change Calls _ _ _ _ _
          refine FL.mono ?_
          clear FL
          rintro r w4 ⟨s4, o4, rfl, hW4⟩
          have HW4 : Hid (OW w w4 p dp s4 o4 (k + 1) (.slice va ms.length vc) ms) := hW4
          clear hW4
          go_wp2
          go_roundg (60 - (k + 1))
          case measure => omega
          case rel => exact ⟨_, k + 1, _, ms, s4, o4, rfl, by omega, by omega, by go_num, rfl, by omega, ⟨va, vc, rfl, hvc⟩, HW4⟩
        · by_cases h04 : 0 ≤ K ∧ K ≤ 4
          · have HLE : Hid (ms.length ≤ k ∧ k < 60) := ⟨hml, hlt.2⟩
            have hml60 : (ms.length : Int) ≤ 60 := by omega
            have hqal : (q.A.length : Int) ≤ 9223372036854775807 := HOK.out.al
            clear h55 h66 h7
            go_upto_if 70 with fail
            go_cut [70] (fun t wc => t = .bool true ∧ wc = W3)
            case first =>
              rcases (show K = 0 ∨ K = 1 ∨ K = 2 ∨ K = 3 ∨ K = 4 by omega) with rfl | rfl | rfl | rfl | rfl
              all_goals (go_wp2_with fail; go_meet; exact ⟨rfl, rfl⟩)
            case rest =>
              obtain ⟨rfl, hwc⟩ := hcut
              obtain rfl : W3 = wc := hwc.symm
              clear b0 h04
              go_wp2_with fail
              go_loopg [13, 14, 15, 16] 4 (fun gg t13 t14 t15 _ W => ∃ (g3 : World) (j : Nat) (B : List Int) (i1 i2 : Option Addr) (c1 c2 : Nat), g3 = W ∧ j ≤ 4 ∧ 4 - j ≤ gg ∧ t15 = .int .i64 j ∧ t13 = .slice i1 j c1 ∧ t14 = .slice i2 j c2 ∧ Hid (B.length = j ∧ (∀ x ∈ B, 0 ≤ x ∧ x < (ms.length : Int)) ∧ TwoR W3 g3 (.slice i1 j c1) (.slice i2 j c2) B))
              case atStart => exact ⟨_, 0, [], none, none, 0, 0, rfl, by omega, by omega, rfl, rfl, rfl, rfl, (fun x hx => by cases hx), TwoR.nil _⟩
              case round =>
                obtain ⟨g3, j, B, i1, i2, c1, c2, rfl, hj, hgj, rfl, rfl, rfl, HG⟩ := hrel
                have b4' : g3.cell? ⟨gw.heap.size, 4, none⟩ = some (.slice q.ap q.A.length q.ac) := (HG.out.2.2.be.cell (p := ⟨gw.heap.size, 4, none⟩) HZ3.out).trans b4
                by_cases hin : j < q.A.length ∧ j < 4 ∧ 0 < ms.length
                · have in1 : (j : Int) < (q.A.length : Int) := by omega
                  have in2 : (j : Int) < 4 := by omega
                  have in3 : (0 : Int) < (ms.length : Int) := by omega
                  obtain ⟨qb, qo, hqp, hx, hxb⟩ : ∃ qb qo, q.ap = some ⟨qb, qo, none⟩ ∧ g3.cell? ⟨qb, qo + j, none⟩ = some (.int .i64 (q.A.getD j 0)) ∧ (-9223372036854775808 ≤ q.A.getD j 0 ∧ q.A.getD j 0 ≤ 9223372036854775807) := by
                    rcases HOK.out.a with e | ⟨qb, qo, e, hl, hc⟩
                    · rw [e] at hin; simp at hin
                    · refine ⟨qb, qo, e, ?_, ?_⟩
                      · exact ((HG.out.2.2.be.mono HW3.out.be.size).cell (p := ⟨qb, qo + j, none⟩) hl).trans ((HW3.out.be.cell (p := ⟨qb, qo + j, none⟩) hl).trans (hc j hin.1))
                      · exact HOK.out.ab _ (getD_mem hin.1)
                  rw [hqp] at b4'
                  generalize q.A.getD j 0 = x at *
                  have hxm : -1000 < x.tmod 1000 ∧ x.tmod 1000 < 1000 := ⟨by have := Int.lt_tmod_of_pos x (show (0:Int) < 1000 by omega); omega, Int.tmod_lt_of_pos x (by omega)⟩
                  have CT := fun W => count_any (x.tmod 1000) (ms.length : Int) W (by omega) (by omega) (by omega)
                  have HXM : Hid _ := hxm
                  clear hxm hqp
                  go_wp2_with (first | (go_at_call 25; refine Hid.out ?_))
                  change Calls _ _ _ _ _
                  refine (CT _).mono ?_
                  clear CT
                  rintro r w5 ⟨n5, rfl, hn5, hw5⟩
                  subst hw5
                  have HN5 : Hid ((n5 : Int) < (ms.length : Int)) := hn5
                  have hn5b : (n5 : Int) ≤ 60 := by omega
                  clear hn5 hx
                  go_wp2_with (first | (at_builtin; refine Hid.out ?_))
                  change wpList _ _ _ _ _ _
                  refine wpList_append_l rfl (.tmp 101) (.tmp 104) rfl W3.heap.size (B.map (· + 1)) ((n5 : Int) + 1) _ rfl _ _ rfl (row_same HG.out.2.2.o1 (fun l hl => Below.heap_alloc _ _ _ (HG.out.2.2.o1.lt l hl).2)) (heap_alloc_new _ _) (by have := HG.out.2.2.be.size; rw [size_alloc]; omega) (by have := HG.out.1; simp; omega) ?_
                  intro G1 k1 w6 ho6 hg6 hat6
                  have HS6 : Hid _ := HG.out.2.2.step1 hg6 hat6
                  have HO6 : Hid (OwnL w6 W3.heap.size (.slice (some ⟨G1, 0, none⟩) ((B.map (· + 1)).length + 1) k1) (B.map (· + 1) ++ [(n5 : Int) + 1])) := ho6
                  clear ho6 hg6 hat6
                  go_wp2_with (first | (at_builtin; refine Hid.out ?_))
                  change wpList _ _ _ _ _ _
                  refine wpList_append_iG rfl (.tmp 106) (.tmp 108) rfl W3.heap.size B (n5 : Int) _ rfl _ _ rfl (row_same HS6.out.2.1 (fun l hl => Below.heap_alloc _ _ _ (HS6.out.2.1.lt l hl).2)) (heap_alloc_new _ _) (by have := HS6.out.2.2.2; rw [size_alloc]; omega) (by have := HG.out.1; omega) ?_
                  intro G2 k2 w7 ho7 hg7 hat7
                  have HT7 : Hid _ := TwoR.step2 HS6.out.1 HO6.out HS6.out.2.1 HS6.out.2.2.1 ho7 hg7 hat7
                  clear ho7 hg7 hat7
                  go_wp2_with fail
                  go_roundg (4 - (j + 1))
                  case measure => omega
                  case rel =>
                    have hBl := HG.out.1
                    refine ⟨_, j + 1, B ++ [(n5 : Int)], some ⟨G1, 0, none⟩, some ⟨G2, 0, none⟩, k1, k2, rfl, by omega, by omega, by go_num, ?_, ?_, by simp [hBl], ?_, ?_⟩
                    · simp [hBl]
                    · simp [hBl]
                    · intro x hx
                      rcases List.mem_append.1 hx with hx | hx
                      · exact HG.out.2.1 x hx
                      · rw [List.mem_singleton.1 hx]; exact ⟨by omega, HN5.out⟩
                    · have := HT7.out
                      rw [show (B ++ [(n5 : Int)]).length = j + 1 by simp [hBl]] at this
                      exact this
                · go_upto_region 25 with fail
                  go_cut [89] (fun t wc => t = .bool false ∧ wc = g3)
                  case first =>
                    by_cases in1 : (j : Int) < (q.A.length : Int)
                    · by_cases in2 : (j : Int) < 4
                      · have in3 : Hid (¬ 0 < ms.length) := by show ¬ _; omega
                        clear hin
                        go_wp2_with fail
                        go_meet
                        exact ⟨congrArg Value.bool (decide_eq_false in3.out), rfl⟩
                      · go_wp2_with fail
                        go_meet
                        exact ⟨rfl, rfl⟩
                    · go_wp2_with fail
                      go_meet
                      exact ⟨rfl, rfl⟩
                  case rest =>
                    obtain ⟨rfl, hwc⟩ := hcut
                    obtain rfl : g3 = wc := hwc.symm
                    clear b4' hin b4
                    have HB5 : Hid (Below W3.heap.size W3 (g3.alloc (.cells #[.int .u8 1] 5))) := HG.out.2.2.be.alloc HG.out.2.2.be.size _
                    have hz3 := HG.out.2.2.be.size
                    obtain ⟨hm1, hf1⟩ := own_at HG.out.2.2.o1
                    obtain ⟨hm2, hf2⟩ := own_at HG.out.2.2.o2
                    have PA := ow_patch (HW3.out.up HB5.out) (by omega) (by omega) n (by omega) g3.heap.size 1 (.inr ⟨_, 0, rfl, by rw [size_alloc]; omega, fun l hl => by
                      obtain rfl : l = 0 := by simp at hl; omega
                      exact (cell_of_row _ _ _ _ _ _ (heap_alloc_new _ _)).trans rfl⟩) (fun hA' => by have := HW3.out.pm.lt hA'; omega) B HG.out.2.1 (by omega) i1 c1 (by
                      obtain ⟨ao, cap, e, hs, _⟩ := HG.out.2.2.o1.form
                      cases e
                      exact hs.below ((Below.refl _ _).alloc (Nat.le_refl _) _) (Nat.le_refl _)) (by
                      rcases hf1 with ⟨e1, e2⟩ | ⟨g, e, _⟩
                      · exact .inl ⟨e1, List.eq_nil_of_length_eq_zero (by simpa using e2)⟩
                      · exact .inr ⟨g, 0, e⟩) (fun b o e => by
                      rcases hf1 with ⟨e1, e2⟩ | ⟨g, e1, e2, e3⟩
                      · rw [e1] at e; cases e
                      · rw [e1] at e; cases e
                        exact ⟨fun hA' => by have := HW3.out.pm.lt hA'; omega, by rw [size_alloc]; omega⟩)
                    rw [HG.out.1] at PA
                    have HF2 : Hid _ := hf2
                    clear hf1 hf2 hm1 hm2
                    go_wp2_with (first | (go_at_call 28; refine Hid.out ?_))
                    change Calls _ _ _ _ _
                    refine PA.mono ?_
                    clear PA
                    rintro r w8 ⟨rfl, s8, ops8, hR8, hL8, hO8, hp8, hd8, hn8⟩
                    rw [show ((ms.length + 1 : Nat) : Int) = (ms.length : Int) + 1 by omega]
                    have H8 : Hid _ := And.intro hR8 (And.intro hL8 (And.intro hO8 (And.intro hp8 (And.intro hd8 hn8))))
                    clear hR8 hL8 hO8 hp8 hd8 hn8
                    go_wp2_with (first | (at_builtin; refine Hid.out ?_))
                    change wpList _ _ _ _ _ _
                    refine wpList_append_m rfl (.tmp 129) (.tmp 135) rfl w.heap.size ms ⟨n, ms.length, i2, B, c2⟩ _ rfl _ _ rfl (row_same (HW3.out.up HB5.out).own (fun l hl => ?_)) (fun l u hu => ?_) ?_ (by omega) ?_
                    · have hl2 := ((HW3.out.up HB5.out).own.lt l hl).2
                      rw [Below.heap_alloc _ _ _ (by have := H8.out.1.fr.size; omega)]
                      exact H8.out.1.fr.blk l hl2 ((HW3.out.up HB5.out).vno l hl)
                    · have hBl : B.length = j := HG.out.1
                      refine (cell_of_row _ _ _ _ _ _ (heap_alloc_new _ _)).trans ?_
                      rw [← hu]
                      unfold mkL
                      rw [hBl]
                      rcases l with _ | _ | _ | l <;> rfl
                    · rw [size_alloc]
                      have h1 := H8.out.1.fr.size
                      have h2 := HW3.out.be.size
                      have h3 := HB5.out.size
                      omega
                    · intro G9 c9 w9 ho9 hg9 hat9
                      have HO9 : Hid (ms.length + 1 ≤ c9 ∧ OW w w9 p dp s8 ops8 (k + 1) (.slice (some ⟨G9, 0, none⟩) (ms.length + 1) c9) (ms ++ [⟨n, ms.length, i2, B, c2⟩])) := by
                        obtain ⟨h1, h2, h3, h4, h5, h6⟩ := H8.out
                        have hc := own_cap ho9
                        rw [List.length_append] at hc
                        have := ow_mark (HW3.out.up HB5.out) h1 h2 (y := ⟨n, ms.length, i2, B, c2⟩) h3 h4 h5 h6 ho9 hg9 hat9 rfl (by show B.length ≤ 4; rw [HG.out.1]; exact hj) HG.out.2.1 (by
                          obtain ⟨ao, cap, e, hs, _⟩ := HG.out.2.2.o2.form
                          cases e
                          exact hs.below ((Below.refl _ _).alloc (Nat.le_refl _) _) (Nat.le_refl _)) (fun b o e => by
                          rcases HF2.out with ⟨e1, e2⟩ | ⟨g, e1, e2, e3⟩
                          · rw [show (⟨n, ms.length, i2, B, c2⟩ : Mk).sp = i2 from rfl, e1] at e; cases e
                          · rw [show (⟨n, ms.length, i2, B, c2⟩ : Mk).sp = i2 from rfl, e1] at e; cases e
                            have hz := HW3.out.be.size
                            refine ⟨by omega, by rw [size_alloc]; omega, fun hA' => by have := HW3.out.pm.lt hA'; omega, fun hv => by have := (HW3.out.own.lt _ hv).2; omega⟩)
                        rw [show (ms ++ [(⟨n, ms.length, i2, B, c2⟩ : Mk)]).length = ms.length + 1 by simp] at this
                        exact ⟨hc, this⟩
                      clear ho9 hg9 hat9
                      go_wp2_with fail
                      go_roundg (60 - (k + 1))
                      case measure => omega
                      case rel =>
                        have HOW9 : Hid (OW w w9 p dp s8 ops8 (k + 1) (.slice (some ⟨G9, 0, none⟩) (ms.length + 1) c9) (ms ++ [⟨n, ms.length, i2, B, c2⟩])) := HO9.out.2
                        exact ⟨_, k + 1, _, ms ++ [⟨n, ms.length, i2, B, c2⟩], s8, ops8, rfl, by omega, by omega, by go_num, rfl, by simp; omega, ⟨some ⟨G9, 0, none⟩, c9, by simp, by simp; exact HO9.out.1⟩, HOW9⟩
          · have g0 : ¬ K = 0 := by omega
            have g1 : ¬ K = 1 := by omega
            have g2 : ¬ K = 2 := by omega
            have g3 : ¬ K = 3 := by omega
            have g4 : ¬ K = 4 := by omega
            clear h04
            have HW4 : Hid (OW w W3 p dp s ops (k + 1) (.slice va ms.length vc) ms) := { HW3.out with pl := HW3.out.pl.mono (Nat.le_succ _) }
            go_wp2
            go_roundg (60 - (k + 1))
            case measure => omega
            case rel => exact ⟨_, k + 1, _, ms, s, ops, rfl, by omega, by omega, by go_num, rfl, by omega, ⟨va, vc, rfl, hvc⟩, HW4⟩
    · have hml60 : (ms.length : Int) ≤ 60 := by omega
      clear hgg
      go_upto_region 7 with fail
      go_cut [48] (fun t wc => t = .bool false ∧ wc = gw)
      case first =>
        by_cases h1 : (k : Int) < (m : Int)
        · have h2 : ¬ (k : Int) < 60 := by omega
          go_wp2_with fail
          go_meet
          exact ⟨rfl, rfl⟩
        · go_wp2_with fail
          go_meet
          exact ⟨rfl, rfl⟩
      case rest =>
        obtain ⟨rfl, hwc⟩ := hcut
        obtain rfl : gw = wc := hwc.symm
        clear hlt hk
        have MB := fun W => make_bools W ms.length (by omega)
        obtain ⟨sb, hsb⟩ : ∃ sb : Nat → Bool, sb = fun (i : Nat) => decide (1 ≤ (i : Int) + 1 ∧ (i : Int) + 1 ≤ (s.cnt : Int) ∧ s.fC ((i : Int) + 1) = 0) := ⟨_, rfl⟩
        have HSB : Hid (sb = fun (i : Nat) => decide (1 ≤ (i : Int) + 1 ∧ (i : Int) + 1 ≤ (s.cnt : Int) ∧ s.fC ((i : Int) + 1) = 0)) := hsb
        clear hsb
        go_wp2_with fail
        go_loopg [20] 60 (fun gg t20 W => ∃ (g4 : World) (i : Nat), g4 = W ∧ i ≤ ms.length ∧ ms.length - i ≤ gg ∧ t20 = .int .i64 i ∧ Hid (Below gw.heap.size gw g4 ∧ RowB g4 gw.heap.size (upTo sb i ms.length)))
        case atStart => exact ⟨_, 0, rfl, by omega, by omega, rfl, (Below.refl _ _).alloc (Nat.le_refl _) _, by rw [upTo_zero]; exact heap_alloc_new _ _⟩
        case round =>
          obtain ⟨g4, i, rfl, hi, hgi, rfl, H4⟩ := hrel
          by_cases hil : (i : Int) < (ms.length : Int)
          · have SF := psafe_any (HW.out.up H4.out.1).pm ((i : Int) + 1) (by omega)
            rw [HW.out.p, show decide (1 ≤ (i : Int) + 1 ∧ (i : Int) + 1 ≤ (s.cnt : Int) ∧ s.fC ((i : Int) + 1) = 0) = sb i by rw [HSB.out]] at SF
            have fz := H4.out.2.frozen i
            obtain ⟨b4, hb4⟩ : ∃ b4, sb i = b4 := ⟨_, rfl⟩
            have HR4 : Hid (RowB (g4.setCell ⟨gw.heap.size, i, none⟩ (.bool b4)) gw.heap.size (upTo sb (i + 1) ms.length)) := by
              have := H4.out.2.set i (sb i)
              rw [upTo_set, hb4] at this
              exact this
            rw [hb4] at SF
            have hcell : ∃ b, g4.cell? ⟨gw.heap.size, i, none⟩ = some (.bool b) := ⟨_, H4.out.2.cell (List.getElem?_eq_getElem (by rw [upTo_length]; omega))⟩
            obtain ⟨cb, hcb⟩ := hcell
            clear hb4
            go_wp2_with (first | (go_at_call 29; refine Hid.out ?_))
            change Calls _ _ _ _ _
            refine SF.mono ?_
            clear SF
            rintro r w9 ⟨rfl, hw9⟩
            obtain rfl : g4 = w9 := hw9.symm
            go_wp2_with fail
            go_roundg (ms.length - (i + 1))
            case measure => omega
            case rel => exact ⟨_, i + 1, rfl, by omega, by omega, by go_num, H4.out.1.setCell (Nat.le_refl _) _, HR4.out⟩
          · have hin : i = ms.length := by omega
            subst hin
            have HP4 : Hid (PickAt g4 s.σ.dq sp2 pk.length (fun l => pk.getD l 0)) := fun hm0 => by
              rcases HPK.out with e | ⟨pb, po, e, hl, hc⟩
              · rw [e] at hm0; simp at hm0
              · have hq := HW.out.pm.cs.disk.qb
                have hz := HW.out.be.size
                have hz2 := H4.out.1.size
                exact ⟨pb, po, e, by omega, by omega, fun l hl2 => ((H4.out.1.mono HW.out.be.size).cell (p := ⟨pb, po + l, none⟩) hl).trans ((HW.out.be.cell (p := ⟨pb, po + l, none⟩) hl).trans (hc l hl2))⟩
            have CR := pcrash_any (HW.out.up H4.out.1).pm sp2 pk.length cap2 (fun l => pk.getD l 0) HP4.out hm2
            rw [HW.out.dp] at CR
            go_wp2_with (first | (go_at_call 30; refine Hid.out ?_))
            change Calls _ _ _ _ _
            refine CR.mono ?_
            clear CR
            rintro r wb ⟨rfl, sf', vs', hD, hc, hb, hf⟩
            have HOC : Hid (OC w wb dp s.σ.dq sf' vs' (.slice va ms.length vc) ms gw.heap.size sb) := (HW.out.up H4.out.1).crash (by omega) (fun hA' => by have := HW.out.pm.lt hA'; omega) (fun l hl hs => by
              rw [HSB.out] at hs
              have := of_decide_eq_true hs
              rw [show ((l + 1 : Nat) : Int) = (l : Int) + 1 by omega]
              exact this.2.2) H4.out.2 (by rw [HW.out.dp]; exact hD) hc hb (by rw [HW.out.dp]; exact hf)
            clear hD hc hb hf HP4 H4 HW HSB
            have hml60 : (ms.length : Int) ≤ 60 := by omega
            go_wp2_with fail
            go_loopg [22, 23, 24, 25] 60 (fun gg t22 _ _ _ W => ∃ (g5 : World) (i : Nat), g5 = W ∧ i ≤ ms.length ∧ ms.length - i ≤ gg ∧ t22 = .int .i64 i ∧ Hid (Below wb.heap.size wb g5 ∧ RowB g5 wb.heap.size (upTo (onB sf' ms) i ms.length)))
            case atStart => exact ⟨_, 0, rfl, by omega, by omega, rfl, (Below.refl _ _).alloc (Nat.le_refl _) _, by rw [upTo_zero]; exact heap_alloc_new _ _⟩
            case round =>
              obtain ⟨g5, i, rfl, hi, hgi, rfl, H5⟩ := hrel
              by_cases hil : (i : Int) < (ms.length : Int)
              · obtain ⟨G, rfl, hGl⟩ : ∃ G, va = some ⟨G, 0, none⟩ ∧ G < wb.heap.size := by
                  rcases (own_at HOC.out.own).2 with ⟨e1, e2⟩ | ⟨G, e1, _, e3⟩
                  · omega
                  · exact ⟨G, e1, e3⟩
                obtain ⟨m0, hm0⟩ : ∃ m0, ms[i]? = some m0 := ⟨_, List.getElem?_eq_getElem (show i < ms.length by omega)⟩
                obtain ⟨hmb, hmk, hms, hmA, hmx⟩ := HOC.out.ml i m0 hm0
                obtain ⟨d0, d1, d2⟩ := HOC.out.own.cells hm0
                have tr : ∀ o, g5.cell? ⟨G, o, none⟩ = wb.cell? ⟨G, o, none⟩ := fun o => H5.out.1.cell (p := ⟨G, o, none⟩) hGl
                rw [← tr] at d0 d1 d2
                rw [hmk] at d1
                have RD := read_any (HOC.out.dk.below H5.out.1 (Nat.le_refl _)) m0.b hmb
                rw [show lastOf (sf' m0.b) [] = sf' m0.b from rfl] at RD
                obtain ⟨z, hz, hzo⟩ : ∃ z : Nat, z = (byt (sf' m0.b) i).toNat ∧ ((z : Int) == 1) = onB sf' ms i := ⟨_, rfl, by
                  rw [onB_some hm0]
                  generalize byt (sf' m0.b) i = u
                  by_cases hu : u = 1
                  · rw [hu]; rfl
                  · rw [show (u == 1) = false by simpa using hu]
                    have : ¬ ((u.toNat : Int) = 1) := fun h => hu (UInt8.toNat.inj (by show u.toNat = 1; omega))
                    simpa using this⟩
                have HSL : Hid ((sf' m0.b).length = 256) := HOC.out.sfl m0.b hmb
                clear tr
                go_wp2_with (first | (go_at_call 31; refine Hid.out ?_))
                change Calls _ _ _ _ _
                refine RD.mono ?_
                clear RD
                rintro r w6 ⟨gx, rfl, hblk, hgx, hb6⟩
                have x0 : w6.cell? ⟨gx, i, none⟩ = some (.int .u8 (z : Int)) := by
                  rw [hblk.cell i (by rw [HSL.out]; omega), hz]
                  unfold bv byt
                  rw [List.getD_eq_getElem?_getD, List.getElem?_eq_getElem (by rw [HSL.out]; omega)]
                  rfl
                have HB6 : Hid (Below wb.heap.size wb w6) := H5.out.1.trans (hb6.mono H5.out.1.size)
                have HR6 : Hid (RowB w6 wb.heap.size (upTo (onB sf' ms) i ms.length)) := H5.out.2.below hb6 H5.out.2.lt
                have trg : ∀ o, w6.cell? ⟨G, o, none⟩ = g5.cell? ⟨G, o, none⟩ := fun o => hb6.cell (p := ⟨G, o, none⟩) (by show G < _; have := H5.out.1.size; omega)
                rw [← trg] at d0 d1 d2
                have fz6 := HR6.out.frozen i
                obtain ⟨cb, hcb⟩ : ∃ b, w6.cell? ⟨wb.heap.size, i, none⟩ = some (.bool b) := ⟨_, HR6.out.cell (List.getElem?_eq_getElem (by rw [upTo_length]; omega))⟩
                clear hblk hb6 trg hz H5
                have HZO : Hid (((z : Int) == 1) = onB sf' ms i) := hzo
                clear hzo
                go_upto_region 46 with fail
                have HR7 : Hid (RowB (w6.setCell ⟨wb.heap.size, i, none⟩ (.bool ((z : Int) == 1))) wb.heap.size (upTo (onB sf' ms) (i + 1) ms.length)) := by
                  have := HR6.out.set i (onB sf' ms i)
                  rw [upTo_set] at this
                  rw [HZO.out]
                  exact this
                have HB7 : Hid (Below wb.heap.size wb (w6.setCell ⟨wb.heap.size, i, none⟩ (.bool ((z : Int) == 1)))) := HB6.out.setCell (Nat.le_refl _) _
                clear d0 d1 d2 x0 HB6 HR6 fz6 hcb hgx
                generalize w6.setCell ⟨wb.heap.size, i, none⟩ (.bool ((z : Int) == 1)) = W7 at *
                have e0 : W7.cell? ⟨gw.heap.size, i, none⟩ = some (.bool (sb i)) := (HB7.out.cell (p := ⟨gw.heap.size, i, none⟩) HOC.out.row.lt).trans (HOC.out.row.cell (upTo_get (by omega) (by omega)))
                have e1 : W7.cell? ⟨wb.heap.size, i, none⟩ = some (.bool (onB sf' ms i)) := HR7.out.cell (upTo_get (by omega) (by omega))
                have d2 : W7.cell? ⟨G, i * 3 + 2, none⟩ = some (.slice m0.sp m0.A.length m0.c) := (HB7.out.cell (p := ⟨G, i * 3 + 2, none⟩) hGl).trans (HOC.out.own.cells hm0).2.2
                have HSO : Hid (sb i = true → onB sf' ms i = true) := fun h => HOC.out.safe (by omega) h
                generalize sb i = b1 at *
                obtain ⟨ob, hob⟩ : ∃ ob, onB sf' ms i = ob := ⟨_, rfl⟩
                have HOB : Hid (onB sf' ms i = ob) := hob
                rw [hob] at e1
                clear hob
                go_cut [197] (fun t wc => t = .bool false ∧ wc = W7)
                case first =>
                  cases b1 with
                  | false =>
                    go_wp2_with fail
                    go_meet
                    exact ⟨rfl, rfl⟩
                  | true =>
                    obtain rfl : true = ob := (HSO.out rfl).symm.trans HOB.out
                    go_wp2_with fail
                    go_meet
                    exact ⟨rfl, rfl⟩
                case rest =>
                  obtain ⟨rfl, hwc⟩ := hcut
                  obtain rfl : W7 = wc := hwc.symm
                  clear e0 HSO HZO
                  have HMX : Hid (∀ x ∈ m0.A, 0 ≤ x ∧ x < (i : Int)) := hmx
                  have HMS : Hid (SrcI wb m0.sp m0.A) := hms
                  have hmA4 : (m0.A.length : Int) ≤ 4 := by omega
                  clear hmx hms hmA
                  go_wp2_with fail
                  go_loopg [25] 4 (fun gg t25 W => ∃ (g8 : World) (j : Nat), g8 = W ∧ Hid (W7 = g8) ∧ j ≤ m0.A.length ∧ m0.A.length - j ≤ gg ∧ t25 = .int .i64 j)
                  case atStart => exact ⟨_, 0, rfl, rfl, by omega, by omega, rfl⟩
                  case round =>
                    obtain ⟨g8, j, rfl, H8, hj, hgj, rfl⟩ := hrel
                    obtain rfl : W7 = g8 := H8.out
                    clear H8
                    by_cases hjl : (j : Int) < (m0.A.length : Int)
                    · obtain ⟨mb, mo, nx, hsp, hx, hxi, hxm⟩ : ∃ mb mo, ∃ nx : Nat, m0.sp = some ⟨mb, mo, none⟩ ∧ W7.cell? ⟨mb, mo + j, none⟩ = some (.int .i64 (nx : Int)) ∧ nx < i ∧ (nx : Int) ∈ m0.A := by
                        rcases HMS.out with e | ⟨mb, mo, e, hl, hc⟩
                        · have hl0 : m0.A.length = 0 := by rw [e]; rfl
                          omega
                        · have hmem := getD_mem (l := m0.A) (show j < m0.A.length by omega)
                          obtain ⟨b1, b2⟩ := HMX.out _ hmem
                          have en : ((m0.A.getD j 0).toNat : Int) = m0.A.getD j 0 := Int.toNat_of_nonneg b1
                          refine ⟨mb, mo, (m0.A.getD j 0).toNat, e, ?_, by omega, by rw [en]; exact hmem⟩
                          rw [en]
                          exact (HB7.out.cell (p := ⟨mb, mo + j, none⟩) hl).trans (hc j (by omega))
                      have hxl : (nx : Int) < (ms.length : Int) := by omega
                      have e2 : W7.cell? ⟨wb.heap.size, nx, none⟩ = some (.bool (onB sf' ms nx)) := HR7.out.cell (upTo_get (by omega) (by omega))
                      have HOR : Hid (ob = true → onB sf' ms nx = true) := fun h => by
                        have := HOC.out.order hm0 (HOB.out.trans h) hxm
                        rw [Int.toNat_natCast] at this
                        exact this
                      generalize onB sf' ms nx = b2 at *
                      rw [hsp] at d2
                      clear hsp hxm
                      go_upto_region 51 with fail
                      go_cut [225] (fun t wc => t = .bool false ∧ wc = W7)
                      case first =>
                        cases ob with
                        | false =>
                          go_wp2_with fail
                          go_meet
                          exact ⟨rfl, rfl⟩
                        | true =>
                          obtain rfl : true = b2 := (HOR.out rfl).symm
                          go_wp2_with fail
                          go_meet
                          exact ⟨rfl, rfl⟩
                      case rest =>
                        obtain ⟨rfl, hwc⟩ := hcut
                        obtain rfl : W7 = wc := hwc.symm
                        go_wp2_with fail
                        go_roundg (m0.A.length - (j + 1))
                        case measure => omega
                        case rel => exact ⟨_, j + 1, rfl, rfl, by omega, by omega, by go_num⟩
                    · go_wp2_with fail
                      go_roundg (ms.length - (i + 1))
                      case measure => omega
                      case rel => exact ⟨_, i + 1, rfl, by omega, by omega, by go_num, HB7.out, HR7.out⟩
              · have KN := fun W => pknown_any W
                go_wp2_with (first | (go_at_call 24; refine Hid.out ?_))
                change Calls _ _ _ _ _
                refine (KN _).mono ?_
                clear KN
                rintro r wk ⟨rfl, hbk⟩
                have HBK : Hid (Below w.heap.size w wk) := HOC.out.be.trans ((H5.out.1.mono HOC.out.be.size).trans (hbk.mono (Nat.le_trans HOC.out.be.size H5.out.1.size)))
                clear hbk
                go_wp2_with fail
                go_ret
                exact ⟨rfl, HBK.out⟩
theorem patchOrder_law (sp : Option Addr) (m cap : Nat) (A : Nat → Act6) (sp2 : Option Addr) (cap2 : Nat) (pk : List Int) (w : World) (h1 : m ≤ cap ∧ (cap : Int) ≤ 9223372036854775807 ∧ ActsAt w sp m A) (h2 : (pk.length ≤ cap2 ∧ (cap2 : Int) ≤ 9223372036854775807) ∧ SrcI w sp2 pk) :
    Calls Tryz.prog 4 #[.slice sp m cap, .slice sp2 pk.length cap2] w fun e w' => e = .returned (.bool true) ∧ Below w.heap.size w w' := patchOrder_any w sp m cap A ⟨h1.1, h1.2.1⟩ h1.2.2 sp2 cap2 pk h2.1 h2.2
end Go.Proofs.YtanelcdeekichaaGreat
