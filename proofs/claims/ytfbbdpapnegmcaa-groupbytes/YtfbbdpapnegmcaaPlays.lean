/- leveelaw06.GroupPlays. -/
import Derived.Test.YtfbbdpapnegmcaaBoth
import Derived.Deep.CutBlock
namespace Go.Proofs.Ytfbbdpapnegmcaa
open Go.RowKit
theorem rfresh_no (a i n no : Int) (hnb : numB a i n no = false) (w : World) :
    Calls Try.prog 14 #[.agg #[.int .i64 a, .int .i64 i, .int .i64 n], .int .i64 no] w fun e w' => e = .returned (.tuple #[.agg #[.int .i64 0, .slice none 0 0, .slice none 0 0], .int .i64 1]) ∧ Below w.heap.size w w' :=
  (rfresh_any a i n no w).mono fun e w' ⟨h, h2⟩ => by
    rcases h2 with ⟨_, rfl⟩ | ⟨h3, _⟩
    · exact ⟨rfl, h⟩
    · rw [hnb] at h3; cases h3
theorem rfresh_yes (a i n no : Int) (hnb : numB a i n no = true) (w : World) :
    Calls Try.prog 14 #[.agg #[.int .i64 a, .int .i64 i, .int .i64 n], .int .i64 no] w fun e w' => ∃ g1 c1 g2 c2, e = .returned (.tuple #[.agg #[.int .i64 no, .slice (some ⟨g1, 0, none⟩) 16 c1, .slice (some ⟨g2, 0, none⟩) 8 c2], .int .i64 0]) ∧ Arg w' (some ⟨g1, 0, none⟩) c1 (fillb z16 (kbl i)) ∧ Arg w' (some ⟨g2, 0, none⟩) c2 (fillb z8 (ksl no)) ∧ w.heap.size < g1 ∧ w.heap.size < g2 ∧ Below w.heap.size w w' :=
  (rfresh_any a i n no w).mono fun e w' ⟨h, h2⟩ => by
    rcases h2 with ⟨h3, _⟩ | ⟨_, g1, c1, g2, c2, rfl, h4, h5, h6, h7⟩
    · rw [hnb] at h3; cases h3
    · exact ⟨g1, c1, g2, c2, rfl, h4, h5, h6, h7, h⟩
theorem row_new (W : World) (t : TypeId) (x y z : Value) : Row3 (W.alloc (.cells #[x, y, z] t)) W.heap.size t x y z := heap_alloc_new _ _
set_option maxRecDepth 100000 in
set_option maxHeartbeats 4000000 in
theorem groupPlays_no (a i n no fr : Int) (sp : Option Addr) (m cap : Nat) (w : World) (hnb : numB a i n no = false) :
    Calls Try.prog 4 #[.agg #[.int .i64 a, .int .i64 i, .int .i64 n], .int .i64 no, .slice sp m cap, .int .i64 fr] w fun e w' => e = .returned (.bool true) ∧ Below w.heap.size w w' := by
  have hz := zero28
  have HL0 : Hid (Lies w w.heap.size a i n (w.alloc (.cells #[.int .i64 a, .int .i64 i, .int .i64 n] 23))) := ⟨by simp, by simp, by simp, (Below.refl _ _).alloc (Nat.le_refl _) _⟩
  have FR := fun W => fresh_no a i n no hnb W
  have RF := fun W => rfresh_no a i n no hnb W
  have SN := fun W => same_no 1 (by omega) (.int .i64 0) (.slice none 0 0) (.slice none 0 0) W
  clear hnb
  go_enter Try.func4, Try.ntmps4
  go_wp2_with fail
  refine (keep3 w.heap.size a i n w HL0.out (FR _)).mono ?_
  rintro e w2 ⟨rfl, m0, m1, m2, mb⟩
  have HL2 : Hid (Lies w w.heap.size a i n w2) := ⟨m0, m1, m2, mb⟩
  have hl2 : w.heap.size < w2.heap.size := block_lt_of_cell m0
  clear FR HL0 m0 m1 m2 mb
  have HN : Hid (HeadAt (w2.alloc (.cells (hA 0 z16 z8) 28)) w2.heap.size 0 z16 z8) := head_new w2 0 z16 z8 rfl rfl
  have HNB : Hid (Below w2.heap.size w2 (w2.alloc (.cells (hA 0 z16 z8) 28))) := (Below.refl _ _).alloc (Nat.le_refl _) _
  go_upto_region 2 with (first | ((with_reducible show wpList _ _ _ ({ dst := _, op := Op.store 28 _ _, type := _, pos := _, after := _, guard := _ } :: _) _ _); refine wpList_store_head rfl _ _ rfl (HN.out) rfl rfl rfl rfl ?_; intro w3 H3 b3 z3))
  have HP3 : Hid (PW w a i n 0 z16 z8 w2.heap.size w3) := ⟨lies_below (lies_below HL2.out HNB.out hl2) b3 hl2, H3, hl2⟩
  clear H3 b3 z3 HN HNB HL2 hl2
  have q0 := HP3.out.geo.1; have q1 := HP3.out.geo.2.1; have q2 := HP3.out.geo.2.2.1
  go_wp2_with fail
  refine (RF _).mono ?_
  rintro e w4 ⟨rfl, h4⟩
  have HP4 : Hid _ := HP3.out.up h4
  clear HP3 h4 q0 q1 q2 RF
  have HP5 : Hid (PW w a i n 0 z16 z8 w2.heap.size (w4.alloc (.cells #[.int .i64 0, .slice none 0 0, .slice none 0 0] 31))) := HP4.out.up ((Below.refl _ _).alloc (Nat.le_refl _) _)
  go_wp2_with (first | ((with_reducible show wpList _ _ _ ({ dst := _, op := Op.load 28 _, type := _, pos := _, after := _, guard := _ } :: _) _ _); refine wpList_load_head rfl _ rfl (HP5.out.head) rfl ?_))
  refine (SN _).mono ?_
  rintro e w5 ⟨rfl, h5⟩
  have HB5 : Hid (Below w.heap.size w w5) := (HP5.out.up h5).geo.2.2.2
  clear SN HP5 h5
  go_wp2_with fail
  refine (known_any _).mono ?_
  rintro e w6 ⟨rfl, h6⟩
  have HB := HB5.out.trans (h6.mono HB5.out.size)
  go_wp2
  go_ret
  exact ⟨rfl, HB⟩
set_option maxRecDepth 100000 in
set_option maxHeartbeats 32000000 in
theorem groupPlays_walk (a i n no fr : Int) (sp : Option Addr) (m cap : Nat) (A : Acts) (_hcap : m ≤ cap ∧ (cap : Int) ≤ 9223372036854775807) (w : World) (ha : ActsAt w sp m A) (hfr : fr ≤ 9223372036854775807) (hnb : numB a i n no = true) :
    Calls Try.prog 4 #[.agg #[.int .i64 a, .int .i64 i, .int .i64 n], .int .i64 no, .slice sp m cap, .int .i64 fr] w fun e w' => e = .returned (.bool true) ∧ Below w.heap.size w w' := by
  have hz := zero28
  have HL0 : Hid (Lies w w.heap.size a i n (w.alloc (.cells #[.int .i64 a, .int .i64 i, .int .i64 n] 23))) := ⟨by simp, by simp, by simp, (Below.refl _ _).alloc (Nat.le_refl _) _⟩
  have FR := fun W => fresh_yes a i n no hnb W
  have RF := fun W => rfresh_yes a i n no hnb W
  have HRG : Hid (rgB a i n no (fillb z16 (kbl i)) (fillb z8 (ksl no)) = true) := fresh_right hnb
  have HLB : Hid ((fillb z16 (kbl i)).length = 16) := fillb_length _ _
  have HLS : Hid ((fillb z8 (ksl no)).length = 8) := fillb_length _ _
  generalize fillb z16 (kbl i) = B0 at FR RF HRG HLB
  generalize fillb z8 (ksl no) = S0 at FR RF HRG HLS
  clear hnb
  go_enter Try.func4, Try.ntmps4
  go_wp2_with fail
  refine (keep3 w.heap.size a i n w HL0.out (FR _)).mono ?_
  rintro e w2 ⟨rfl, m0, m1, m2, mb⟩
  have HL2 : Hid (Lies w w.heap.size a i n w2) := ⟨m0, m1, m2, mb⟩
  have hl2 : w.heap.size < w2.heap.size := block_lt_of_cell m0
  clear FR HL0 m0 m1 m2 mb
  have HN : Hid (HeadAt (w2.alloc (.cells (hA 0 z16 z8) 28)) w2.heap.size 0 z16 z8) := head_new w2 0 z16 z8 rfl rfl
  have HNB : Hid (Below w2.heap.size w2 (w2.alloc (.cells (hA 0 z16 z8) 28))) := (Below.refl _ _).alloc (Nat.le_refl _) _
  go_upto_region 2 with (first | ((with_reducible show wpList _ _ _ ({ dst := _, op := Op.store 28 _ _, type := _, pos := _, after := _, guard := _ } :: _) _ _); refine wpList_store_head rfl _ _ rfl (HN.out) HLB.out HLS.out rfl rfl ?_; intro w3 H3 b3 z3))
  have HP3 : Hid (PW w a i n no B0 S0 w2.heap.size w3) := ⟨lies_below (lies_below HL2.out HNB.out hl2) b3 hl2, H3, hl2⟩
  obtain ⟨q, hq⟩ : ∃ q, Hid (q = w2.heap.size) := ⟨_, rfl⟩
  rw [← hq.out] at HP3 ⊢
  clear H3 b3 z3 HN HNB HL2 hl2 hq
  have q0 := HP3.out.geo.1; have q1 := HP3.out.geo.2.1; have q2 := HP3.out.geo.2.2.1
  go_wp2_with fail
  refine (RF _).mono ?_
  rintro e w4 ⟨g1, c1, g2, c2, rfl, a1, a2, hg1, hg2, h4⟩
  have HP4 : Hid _ := HP3.out.up h4
  have lq3 := HP3.out.lq
  have lg1 := a1.lt (by rw [HLB.out]; omega) g1 0 rfl
  have lg2 := a2.lt (by rw [HLS.out]; omega) g2 0 rfl
  have al : Below w4.heap.size w4 (w4.alloc (.cells #[.int .i64 no, .slice (some ⟨g1, 0, none⟩) 16 c1, .slice (some ⟨g2, 0, none⟩) 8 c2] 31)) := (Below.refl _ _).alloc (Nat.le_refl _) _
  have HQ : Hid (QW w a i n no B0 S0 q w4.heap.size (some ⟨g1, 0, none⟩) c1 (some ⟨g2, 0, none⟩) c2 (w4.alloc (.cells #[.int .i64 no, .slice (some ⟨g1, 0, none⟩) 16 c1, .slice (some ⟨g2, 0, none⟩) 8 c2] 31))) :=
    ⟨HP4.out.up al, row_new _ _ _ _ _, a1.below al (Nat.le_refl _), a2.below al (Nat.le_refl _), HP4.out.lq, by intro b off e; cases e; omega, by intro b off e; cases e; omega⟩
  clear HP3 HP4 h4 q0 q1 q2 RF al a1 a2 lg1 lg2 lq3 hg1 hg2
  have SY := fun W h1 h2 => same_yes no B0 S0 (some ⟨g1, 0, none⟩) (some ⟨g2, 0, none⟩) c1 c2 HLB.out HLS.out W h1 h2
  go_wp2_with (first | ((with_reducible show wpList _ _ _ ({ dst := _, op := Op.load 28 _, type := _, pos := _, after := _, guard := _ } :: _) _ _); refine wpList_load_head rfl _ rfl (HQ.out.pw.head) rfl ?_))
  refine (SY _ HQ.out.ab.src HQ.out.asl.src).mono ?_
  rintro e w5 ⟨rfl, h5⟩
  have HQ5 : Hid _ := HQ.out.up h5
  obtain ⟨r, hr⟩ : ∃ r, Hid (r = w4.heap.size) := ⟨_, rfl⟩
  rw [← hr.out] at HQ5 ⊢
  clear SY HQ h5 hr HLB HLS
  go_wp2_with fail
  go_loopg [13] 61 (fun gk s13 wr => ∃ (k : Nat) (bl sl : List UInt8) (p1 : Option Addr) (c1 : Nat) (p2 : Option Addr) (c2 : Nat), k + gk = 61 ∧ s13 = .int .i64 k ∧ Hid (QW w a i n no bl sl q r p1 c1 p2 c2 wr) ∧ Hid (rgB a i n no bl sl = true))
  case atStart => exact ⟨0, B0, S0, _, _, _, _, rfl, rfl, HQ5, HRG⟩
  case round =>
    obtain ⟨k, bl, sl, p1, c1, p2, c2, hk, rfl, HQ, HR⟩ := hrel
    clear HQ5 HRG
    by_cases hlt : (k : Int) < m ∧ (k : Int) < 60
    · obtain ⟨hlm, hl60⟩ := hlt
      obtain ⟨b, off, rfl, hbl, hcell⟩ := ha (by omega)
      have kc := fun (j : Nat) => HQ.out.pw.geo.2.2.2.cell (p := ⟨b, off + k * 3 + j, none⟩) hbl
      have cc := hcell k (by omega)
      have e0 := (kc 0).trans cc.1
      have e1 := (kc 1).trans cc.2.1
      have e2 := (kc 2).trans cc.2.2.1
      rw [Nat.add_zero] at e0
      clear kc cc hcell
      go_upto_region 11 with fail
      generalize A.K k = K at *
      generalize A.N k = N at *
      generalize A.O k = O at *
      have alA : Below wr.heap.size wr (wr.alloc (.cells #[.int .i64 K, .int .i64 N, .bool O] 52)) := (Below.refl _ _).alloc (Nat.le_refl _) _
      have HQA : Hid (QW w a i n no bl sl q r p1 c1 p2 c2 (wr.alloc (.cells #[.int .i64 K, .int .i64 N, .bool O] 52))) := HQ.out.up alA
      have HAA : Hid (Row3 (wr.alloc (.cells #[.int .i64 K, .int .i64 N, .bool O] 52)) wr.heap.size 52 (.int .i64 K) (.int .i64 N) (.bool O)) := row_new _ _ _ _ _
      have lra : r < wr.heap.size := HQ.out.lt
      generalize wr.alloc (.cells #[.int .i64 K, .int .i64 N, .bool O] 52) = wA at HQA HAA ⊢
      obtain ⟨pa, hpa⟩ : ∃ pa, Hid (pa = wr.heap.size) := ⟨_, rfl⟩
      rw [← hpa.out] at HAA lra ⊢
      clear alA e0 e1 e2 HQ hpa
      have HLB : Hid (bl.length = 16) := HQA.out.pw.head.lb
      have HLS : Hid (sl.length = 8) := HQA.out.pw.head.ls
      have lpa : pa < wA.heap.size := HAA.out.lt
      have HD1 : Hid (∀ b off, p1 = some ⟨b, off, none⟩ → b < wA.heap.size) := HQA.out.ab.lt (by rw [HLB.out]; omega)
      have HD2 : Hid (∀ b off, p2 = some ⟨b, off, none⟩ → b < wA.heap.size) := HQA.out.asl.lt (by rw [HLS.out]; omega)
      have HN : Hid (HeadAt (wA.alloc (.cells (hA 0 z16 z8) 28)) wA.heap.size 0 z16 z8) := head_new wA 0 z16 z8 rfl rfl
      have HNB : Hid (Below wA.heap.size wA (wA.alloc (.cells (hA 0 z16 z8) 28))) := (Below.refl _ _).alloc (Nat.le_refl _) _
      go_upto_region 12 with (first | ((with_reducible show wpList _ _ _ ({ dst := _, op := Op.load 28 _, type := _, pos := _, after := _, guard := _ } :: _) _ _); refine wpList_load_head rfl _ rfl (HQA.out.pw.head) rfl ?_) | ((with_reducible show wpList _ _ _ ({ dst := _, op := Op.store 28 _ _, type := _, pos := _, after := _, guard := _ } :: _) _ _); refine wpList_store_head rfl _ _ rfl (HN.out) HLB.out HLS.out rfl rfl ?_; intro w6 H6 b6 z6))
      have b6' : Below wA.heap.size wA w6 := HNB.out.trans b6
      have HQ6 : Hid _ := HQA.out.up b6'
      have HA6 : Hid (Row3 _ _ _ _ _ _) := HAA.out.up b6'
      have HX6 : Hid _ := H6
      obtain ⟨px, hpx⟩ : ∃ px, Hid (px = wA.heap.size) := ⟨_, rfl⟩
      rw [← hpx.out] at HX6 HD1 HD2 lpa ⊢
      clear H6 b6 z6 HN HNB b6' HQA HAA hpx
      have lpx : px < w6.heap.size := HX6.out.lt
      have r0 := HQ6.out.row.c0; have r1 := HQ6.out.row.c1; have r2 := HQ6.out.row.c2
      go_upto_region 13 with fail
      have alY : Below w6.heap.size w6 (w6.alloc (.cells #[.int .i64 no, .slice p1 16 c1, .slice p2 8 c2] 31)) := (Below.refl _ _).alloc (Nat.le_refl _) _
      have HQ7 : Hid (QW w a i n no bl sl q r p1 c1 p2 c2 (w6.alloc (.cells #[.int .i64 no, .slice p1 16 c1, .slice p2 8 c2] 31))) := HQ6.out.up alY
      have HA7 : Hid (Row3 (w6.alloc (.cells #[.int .i64 no, .slice p1 16 c1, .slice p2 8 c2] 31)) pa 52 (.int .i64 K) (.int .i64 N) (.bool O)) := HA6.out.up alY
      have HX7 : Hid (HeadAt (w6.alloc (.cells #[.int .i64 no, .slice p1 16 c1, .slice p2 8 c2] 31)) px no bl sl) := HX6.out.up alY
      have HY7 : Hid (Row3 (w6.alloc (.cells #[.int .i64 no, .slice p1 16 c1, .slice p2 8 c2] 31)) w6.heap.size 31 (.int .i64 no) (.slice p1 16 c1) (.slice p2 8 c2)) := row_new _ _ _ _ _
      generalize w6.alloc (.cells #[.int .i64 no, .slice p1 16 c1, .slice p2 8 c2] 31) = w7 at HQ7 HA7 HX7 HY7 ⊢
      obtain ⟨py, hpy⟩ : ∃ py, Hid (py = w6.heap.size) := ⟨_, rfl⟩
      rw [← hpy.out] at HY7 lpx ⊢
      clear alY HQ6 HA6 HX6 hpy r0 r1 r2
      obtain ⟨S, hS⟩ : ∃ S : Nat → Prop, Hid (S = fun j => j = q ∨ j = r ∨ j = px ∨ j = py) := ⟨_, rfl⟩
      have HO1 : Hid (OffS p1 S) := by
        intro b off e h
        have h1 := HD1.out b off e
        obtain ⟨h2, h3⟩ := HQ7.out.o1 b off e
        rw [hS.out] at h
        rcases h with h | h | h | h <;> omega
      have HO2 : Hid (OffS p2 S) := by
        intro b off e h
        have h1 := HD2.out b off e
        obtain ⟨h2, h3⟩ := HQ7.out.o2 b off e
        rw [hS.out] at h
        rcases h with h | h | h | h <;> omega
      have a0 := HA7.out.c0
      go_upto_block 2 with fail
      go_cut [10, 12] (fun s10 s12 wc => ∃ (er no2 : Int) (bl2 sl2 : List UInt8) (x0 : Int) (p3 : Option Addr) (n3 c3 : Nat) (p4 : Option Addr) (n4 c4 : Nat), s10 = .int .i64 er ∧ s12 = .int .i64 er ∧ Hid (QW w a i n no bl sl q r p1 c1 p2 c2 wc) ∧ Hid (HeadAt wc px no2 bl2 sl2) ∧ Hid (Row3 wc py 31 (.int .i64 x0) (.slice p3 n3 c3) (.slice p4 n4 c4)) ∧ Hid (Both a i n no S er no2 bl2 sl2 x0 p3 n3 c3 p4 n4 c4 wc))
      case first =>
        clear a0
        by_cases hK0 : K = 0
        · subst hK0
          obtain ⟨er, no2, bl2, sl2, hb2, hs2, U1, U2⟩ := useBlock_both a i n no N O bl sl S p1 p2 c1 c2 HLB.out HLS.out HR.out HO1.out HO2.out
          have HB2 : Hid (bl2.length = 16) := hb2
          have HS2 : Hid (sl2.length = 8) := hs2
          clear hb2 hs2
          have q0 := HQ7.out.pw.geo.1; have q1 := HQ7.out.pw.geo.2.1; have q2 := HQ7.out.pw.geo.2.2.1
          have a0 := HA7.out.c0; have a1 := HA7.out.c1; have a2 := HA7.out.c2
          go_wp2_with (first | ((with_reducible show wpList _ _ _ ({ dst := _, op := Op.load 28 _, type := _, pos := _, after := _, guard := _ } :: _) _ _); refine wpList_load_head rfl _ rfl (HQ7.out.pw.head) rfl ?_))
          refine (U1 _).mono ?_
          rintro e w8 ⟨rfl, h8⟩
          have HQ8 : Hid _ := HQ7.out.up h8
          have HA8 : Hid (Row3 _ _ _ _ _ _) := HA7.out.up h8
          have HX8 : Hid _ := HX7.out.up h8
          have HY8 : Hid (Row3 _ _ _ _ _ _) := HY7.out.up h8
          clear h8 HQ7 HA7 HX7 HY7 q0 q1 q2 a0 a1 a2 U1
          go_upto_region 19 with (first | ((with_reducible show wpList _ _ _ ({ dst := _, op := Op.store 28 _ _, type := _, pos := _, after := _, guard := _ } :: _) _ _); refine wpList_store_headO rfl _ _ rfl (HX8.out) HB2.out HS2.out rfl rfl ?_; intro w9 H9 o9 z9))
          have HQ9 : Hid _ := HQ8.out.only o9 (by omega) (fun b off e => Nat.ne_of_lt (HD1.out b off e)) (fun b off e => Nat.ne_of_lt (HD2.out b off e))
          have HA9 : Hid (Row3 _ _ _ _ _ _) := HA8.out.only o9 (show pa ≠ px by omega)
          have HY9 : Hid (Row3 _ _ _ _ _ _) := HY8.out.only o9 (show py ≠ px by omega)
          have HX9 : Hid _ := H9
          have HSS : Hid (∀ j, S j → j < w9.heap.size) := by
            intro j hj
            have l1 := HQ9.out.lt; have l2 := HQ9.out.lr; have l3 := HX9.out.lt; have l4 := HY9.out.lt
            rw [hS.out] at hj
            rcases hj with h | h | h | h <;> omega
          clear HQ8 HA8 HX8 HY8 H9 o9 z9
          have q0 := HQ9.out.pw.geo.1; have q1 := HQ9.out.pw.geo.2.1; have q2 := HQ9.out.pw.geo.2.2.1
          have a0 := HA9.out.c0; have a1 := HA9.out.c1; have a2 := HA9.out.c2
          have r0 := HQ9.out.row.c0; have r1 := HQ9.out.row.c1; have r2 := HQ9.out.row.c2
          go_wp2_with fail
          refine (U2 _ HQ9.out.ab HQ9.out.asl HSS.out).mono ?_
          rintro e w10 ⟨x0, p3, n3, c3, p4, n4, c4, rfl, hB, h10⟩
          have HQ10 : Hid _ := HQ9.out.up h10
          have HX10 : Hid _ := HX9.out.up h10
          have HY10 : Hid (Row3 _ _ _ _ _ _) := HY9.out.up h10
          have HB10 : Hid _ := hB
          clear HQ9 HA9 HX9 HY9 h10 hB q0 q1 q2 a0 a1 a2 r0 r1 r2 U2
          have s0 := HY10.out.c0; have s1 := HY10.out.c1; have s2 := HY10.out.c2; have f0 := HY10.out.fz 0; have f1 := HY10.out.fz 1; have f2 := HY10.out.fz 2
          go_wp2_with fail
          have o := only_set3 w10 py (.int .i64 x0) (.slice p3 n3 c3) (.slice p4 n4 c4)
          have HQ11 : Hid _ := HQ10.out.only o (by omega) (fun b off e => by have := HD1.out b off e; omega) (fun b off e => by have := HD2.out b off e; omega)
          have HX11 : Hid _ := HX10.out.only o (show px ≠ py by omega)
          have HY11 : Hid (Row3 _ _ _ _ _ _) := HY10.out.set (.int .i64 x0) (.slice p3 n3 c3) (.slice p4 n4 c4)
          have HB11 : Hid _ := HB10.out.only o (by rw [hS.out]; exact .inr (.inr (.inr rfl)))
          clear o
          go_meet
          case rel => exact ⟨er, no2, bl2, sl2, x0, p3, n3, c3, p4, n4, c4, rfl, rfl, HQ11, HX11, HY11, HB11⟩
        by_cases hK1 : K = 1
        · subst hK1
          obtain ⟨er, no2, bl2, sl2, hb2, hs2, U1, U2⟩ := useBlock_both a i n no N O bl sl S p1 p2 c1 c2 HLB.out HLS.out HR.out HO1.out HO2.out
          have HB2 : Hid (bl2.length = 16) := hb2
          have HS2 : Hid (sl2.length = 8) := hs2
          clear hb2 hs2
          have q0 := HQ7.out.pw.geo.1; have q1 := HQ7.out.pw.geo.2.1; have q2 := HQ7.out.pw.geo.2.2.1
          have a0 := HA7.out.c0; have a1 := HA7.out.c1; have a2 := HA7.out.c2
          go_wp2_with (first | ((with_reducible show wpList _ _ _ ({ dst := _, op := Op.load 28 _, type := _, pos := _, after := _, guard := _ } :: _) _ _); refine wpList_load_head rfl _ rfl (HQ7.out.pw.head) rfl ?_))
          refine (U1 _).mono ?_
          rintro e w8 ⟨rfl, h8⟩
          have HQ8 : Hid _ := HQ7.out.up h8
          have HA8 : Hid (Row3 _ _ _ _ _ _) := HA7.out.up h8
          have HX8 : Hid _ := HX7.out.up h8
          have HY8 : Hid (Row3 _ _ _ _ _ _) := HY7.out.up h8
          clear h8 HQ7 HA7 HX7 HY7 q0 q1 q2 a0 a1 a2 U1
          go_upto_region 19 with (first | ((with_reducible show wpList _ _ _ ({ dst := _, op := Op.store 28 _ _, type := _, pos := _, after := _, guard := _ } :: _) _ _); refine wpList_store_headO rfl _ _ rfl (HX8.out) HB2.out HS2.out rfl rfl ?_; intro w9 H9 o9 z9))
          have HQ9 : Hid _ := HQ8.out.only o9 (by omega) (fun b off e => Nat.ne_of_lt (HD1.out b off e)) (fun b off e => Nat.ne_of_lt (HD2.out b off e))
          have HA9 : Hid (Row3 _ _ _ _ _ _) := HA8.out.only o9 (show pa ≠ px by omega)
          have HY9 : Hid (Row3 _ _ _ _ _ _) := HY8.out.only o9 (show py ≠ px by omega)
          have HX9 : Hid _ := H9
          have HSS : Hid (∀ j, S j → j < w9.heap.size) := by
            intro j hj
            have l1 := HQ9.out.lt; have l2 := HQ9.out.lr; have l3 := HX9.out.lt; have l4 := HY9.out.lt
            rw [hS.out] at hj
            rcases hj with h | h | h | h <;> omega
          clear HQ8 HA8 HX8 HY8 H9 o9 z9
          have q0 := HQ9.out.pw.geo.1; have q1 := HQ9.out.pw.geo.2.1; have q2 := HQ9.out.pw.geo.2.2.1
          have a0 := HA9.out.c0; have a1 := HA9.out.c1; have a2 := HA9.out.c2
          have r0 := HQ9.out.row.c0; have r1 := HQ9.out.row.c1; have r2 := HQ9.out.row.c2
          go_wp2_with fail
          refine (U2 _ HQ9.out.ab HQ9.out.asl HSS.out).mono ?_
          rintro e w10 ⟨x0, p3, n3, c3, p4, n4, c4, rfl, hB, h10⟩
          have HQ10 : Hid _ := HQ9.out.up h10
          have HX10 : Hid _ := HX9.out.up h10
          have HY10 : Hid (Row3 _ _ _ _ _ _) := HY9.out.up h10
          have HB10 : Hid _ := hB
          clear HQ9 HA9 HX9 HY9 h10 hB q0 q1 q2 a0 a1 a2 r0 r1 r2 U2
          have s0 := HY10.out.c0; have s1 := HY10.out.c1; have s2 := HY10.out.c2; have f0 := HY10.out.fz 0; have f1 := HY10.out.fz 1; have f2 := HY10.out.fz 2
          go_wp2_with fail
          have o := only_set3 w10 py (.int .i64 x0) (.slice p3 n3 c3) (.slice p4 n4 c4)
          have HQ11 : Hid _ := HQ10.out.only o (by omega) (fun b off e => by have := HD1.out b off e; omega) (fun b off e => by have := HD2.out b off e; omega)
          have HX11 : Hid _ := HX10.out.only o (show px ≠ py by omega)
          have HY11 : Hid (Row3 _ _ _ _ _ _) := HY10.out.set (.int .i64 x0) (.slice p3 n3 c3) (.slice p4 n4 c4)
          have HB11 : Hid _ := HB10.out.only o (by rw [hS.out]; exact .inr (.inr (.inr rfl)))
          clear o
          go_meet
          case rel => exact ⟨er, no2, bl2, sl2, x0, p3, n3, c3, p4, n4, c4, rfl, rfl, HQ11, HX11, HY11, HB11⟩
        by_cases hK2 : K = 2
        · subst hK2
          obtain ⟨er, no2, bl2, sl2, hb2, hs2, U1, U2⟩ := useSlot_both a i n no N O bl sl S p1 p2 c1 c2 HLB.out HLS.out HR.out HO1.out HO2.out
          have HB2 : Hid (bl2.length = 16) := hb2
          have HS2 : Hid (sl2.length = 8) := hs2
          clear hb2 hs2
          have q0 := HQ7.out.pw.geo.1; have q1 := HQ7.out.pw.geo.2.1; have q2 := HQ7.out.pw.geo.2.2.1
          have a0 := HA7.out.c0; have a1 := HA7.out.c1; have a2 := HA7.out.c2
          go_wp2_with (first | ((with_reducible show wpList _ _ _ ({ dst := _, op := Op.load 28 _, type := _, pos := _, after := _, guard := _ } :: _) _ _); refine wpList_load_head rfl _ rfl (HQ7.out.pw.head) rfl ?_))
          refine (U1 _).mono ?_
          rintro e w8 ⟨rfl, h8⟩
          have HQ8 : Hid _ := HQ7.out.up h8
          have HA8 : Hid (Row3 _ _ _ _ _ _) := HA7.out.up h8
          have HX8 : Hid _ := HX7.out.up h8
          have HY8 : Hid (Row3 _ _ _ _ _ _) := HY7.out.up h8
          clear h8 HQ7 HA7 HX7 HY7 q0 q1 q2 a0 a1 a2 U1
          go_upto_region 23 with (first | ((with_reducible show wpList _ _ _ ({ dst := _, op := Op.store 28 _ _, type := _, pos := _, after := _, guard := _ } :: _) _ _); refine wpList_store_headO rfl _ _ rfl (HX8.out) HB2.out HS2.out rfl rfl ?_; intro w9 H9 o9 z9))
          have HQ9 : Hid _ := HQ8.out.only o9 (by omega) (fun b off e => Nat.ne_of_lt (HD1.out b off e)) (fun b off e => Nat.ne_of_lt (HD2.out b off e))
          have HA9 : Hid (Row3 _ _ _ _ _ _) := HA8.out.only o9 (show pa ≠ px by omega)
          have HY9 : Hid (Row3 _ _ _ _ _ _) := HY8.out.only o9 (show py ≠ px by omega)
          have HX9 : Hid _ := H9
          have HSS : Hid (∀ j, S j → j < w9.heap.size) := by
            intro j hj
            have l1 := HQ9.out.lt; have l2 := HQ9.out.lr; have l3 := HX9.out.lt; have l4 := HY9.out.lt
            rw [hS.out] at hj
            rcases hj with h | h | h | h <;> omega
          clear HQ8 HA8 HX8 HY8 H9 o9 z9
          have q0 := HQ9.out.pw.geo.1; have q1 := HQ9.out.pw.geo.2.1; have q2 := HQ9.out.pw.geo.2.2.1
          have a0 := HA9.out.c0; have a1 := HA9.out.c1; have a2 := HA9.out.c2
          have r0 := HQ9.out.row.c0; have r1 := HQ9.out.row.c1; have r2 := HQ9.out.row.c2
          go_wp2_with fail
          refine (U2 _ HQ9.out.ab HQ9.out.asl HSS.out).mono ?_
          rintro e w10 ⟨x0, p3, n3, c3, p4, n4, c4, rfl, hB, h10⟩
          have HQ10 : Hid _ := HQ9.out.up h10
          have HX10 : Hid _ := HX9.out.up h10
          have HY10 : Hid (Row3 _ _ _ _ _ _) := HY9.out.up h10
          have HB10 : Hid _ := hB
          clear HQ9 HA9 HX9 HY9 h10 hB q0 q1 q2 a0 a1 a2 r0 r1 r2 U2
          have s0 := HY10.out.c0; have s1 := HY10.out.c1; have s2 := HY10.out.c2; have f0 := HY10.out.fz 0; have f1 := HY10.out.fz 1; have f2 := HY10.out.fz 2
          go_wp2_with fail
          have o := only_set3 w10 py (.int .i64 x0) (.slice p3 n3 c3) (.slice p4 n4 c4)
          have HQ11 : Hid _ := HQ10.out.only o (by omega) (fun b off e => by have := HD1.out b off e; omega) (fun b off e => by have := HD2.out b off e; omega)
          have HX11 : Hid _ := HX10.out.only o (show px ≠ py by omega)
          have HY11 : Hid (Row3 _ _ _ _ _ _) := HY10.out.set (.int .i64 x0) (.slice p3 n3 c3) (.slice p4 n4 c4)
          have HB11 : Hid _ := HB10.out.only o (by rw [hS.out]; exact .inr (.inr (.inr rfl)))
          clear o
          go_meet
          case rel => exact ⟨er, no2, bl2, sl2, x0, p3, n3, c3, p4, n4, c4, rfl, rfl, HQ11, HX11, HY11, HB11⟩
        by_cases hK3 : K = 3
        · subst hK3
          obtain ⟨er, no2, bl2, sl2, hb2, hs2, U1, U2⟩ := useSlot_both a i n no N O bl sl S p1 p2 c1 c2 HLB.out HLS.out HR.out HO1.out HO2.out
          have HB2 : Hid (bl2.length = 16) := hb2
          have HS2 : Hid (sl2.length = 8) := hs2
          clear hb2 hs2
          have q0 := HQ7.out.pw.geo.1; have q1 := HQ7.out.pw.geo.2.1; have q2 := HQ7.out.pw.geo.2.2.1
          have a0 := HA7.out.c0; have a1 := HA7.out.c1; have a2 := HA7.out.c2
          go_wp2_with (first | ((with_reducible show wpList _ _ _ ({ dst := _, op := Op.load 28 _, type := _, pos := _, after := _, guard := _ } :: _) _ _); refine wpList_load_head rfl _ rfl (HQ7.out.pw.head) rfl ?_))
          refine (U1 _).mono ?_
          rintro e w8 ⟨rfl, h8⟩
          have HQ8 : Hid _ := HQ7.out.up h8
          have HA8 : Hid (Row3 _ _ _ _ _ _) := HA7.out.up h8
          have HX8 : Hid _ := HX7.out.up h8
          have HY8 : Hid (Row3 _ _ _ _ _ _) := HY7.out.up h8
          clear h8 HQ7 HA7 HX7 HY7 q0 q1 q2 a0 a1 a2 U1
          go_upto_region 23 with (first | ((with_reducible show wpList _ _ _ ({ dst := _, op := Op.store 28 _ _, type := _, pos := _, after := _, guard := _ } :: _) _ _); refine wpList_store_headO rfl _ _ rfl (HX8.out) HB2.out HS2.out rfl rfl ?_; intro w9 H9 o9 z9))
          have HQ9 : Hid _ := HQ8.out.only o9 (by omega) (fun b off e => Nat.ne_of_lt (HD1.out b off e)) (fun b off e => Nat.ne_of_lt (HD2.out b off e))
          have HA9 : Hid (Row3 _ _ _ _ _ _) := HA8.out.only o9 (show pa ≠ px by omega)
          have HY9 : Hid (Row3 _ _ _ _ _ _) := HY8.out.only o9 (show py ≠ px by omega)
          have HX9 : Hid _ := H9
          have HSS : Hid (∀ j, S j → j < w9.heap.size) := by
            intro j hj
            have l1 := HQ9.out.lt; have l2 := HQ9.out.lr; have l3 := HX9.out.lt; have l4 := HY9.out.lt
            rw [hS.out] at hj
            rcases hj with h | h | h | h <;> omega
          clear HQ8 HA8 HX8 HY8 H9 o9 z9
          have q0 := HQ9.out.pw.geo.1; have q1 := HQ9.out.pw.geo.2.1; have q2 := HQ9.out.pw.geo.2.2.1
          have a0 := HA9.out.c0; have a1 := HA9.out.c1; have a2 := HA9.out.c2
          have r0 := HQ9.out.row.c0; have r1 := HQ9.out.row.c1; have r2 := HQ9.out.row.c2
          go_wp2_with fail
          refine (U2 _ HQ9.out.ab HQ9.out.asl HSS.out).mono ?_
          rintro e w10 ⟨x0, p3, n3, c3, p4, n4, c4, rfl, hB, h10⟩
          have HQ10 : Hid _ := HQ9.out.up h10
          have HX10 : Hid _ := HX9.out.up h10
          have HY10 : Hid (Row3 _ _ _ _ _ _) := HY9.out.up h10
          have HB10 : Hid _ := hB
          clear HQ9 HA9 HX9 HY9 h10 hB q0 q1 q2 a0 a1 a2 r0 r1 r2 U2
          have s0 := HY10.out.c0; have s1 := HY10.out.c1; have s2 := HY10.out.c2; have f0 := HY10.out.fz 0; have f1 := HY10.out.fz 1; have f2 := HY10.out.fz 2
          go_wp2_with fail
          have o := only_set3 w10 py (.int .i64 x0) (.slice p3 n3 c3) (.slice p4 n4 c4)
          have HQ11 : Hid _ := HQ10.out.only o (by omega) (fun b off e => by have := HD1.out b off e; omega) (fun b off e => by have := HD2.out b off e; omega)
          have HX11 : Hid _ := HX10.out.only o (show px ≠ py by omega)
          have HY11 : Hid (Row3 _ _ _ _ _ _) := HY10.out.set (.int .i64 x0) (.slice p3 n3 c3) (.slice p4 n4 c4)
          have HB11 : Hid _ := HB10.out.only o (by rw [hS.out]; exact .inr (.inr (.inr rfl)))
          clear o
          go_meet
          case rel => exact ⟨er, no2, bl2, sl2, x0, p3, n3, c3, p4, n4, c4, rfl, rfl, HQ11, HX11, HY11, HB11⟩
        have f0 : (K == 0) = false := by simpa using hK0
        have f1 : (K == 1) = false := by simpa using hK1
        have f2 : (K == 2) = false := by simpa using hK2
        have f3 : (K == 3) = false := by simpa using hK3
        clear hK0 hK1 hK2 hK3
        have HB7 : Hid (Both a i n no S 0 no bl sl no p1 16 c1 p2 8 c2 w7) := ⟨fun _ => ⟨rfl, rfl, rfl, rfl, HR.out, HQ7.out.ab, HQ7.out.asl, HO1.out, HO2.out⟩, fun e => absurd rfl e⟩
        go_wp2_with fail
        go_meet
        case rel => exact ⟨0, no, bl, sl, no, p1, 16, c1, p2, 8, c2, rfl, rfl, HQ7, HX7, HY7, HB7⟩
      case rest =>
        obtain ⟨er, no2, bl2, sl2, x0, p3, n3, c3, p4, n4, c4, rfl, rfl, HQ8, HX8, HY8, HB8⟩ := hcut
        clear HQ7 HX7 HY7 HA7 a0 HD1 HD2 HO1 HO2
        have y0 := HY8.out.c0; have y1 := HY8.out.c1; have y2 := HY8.out.c2
        have SB := same_both HX8.out.lb HX8.out.ls HB8.out
        go_wp2_with (first | ((with_reducible show wpList _ _ _ ({ dst := _, op := Op.load 28 _, type := _, pos := _, after := _, guard := _ } :: _) _ _); refine wpList_load_head rfl _ rfl (HX8.out) rfl ?_))
        refine SB.mono ?_
        rintro e w9 ⟨rfl, h9⟩
        have HQ9 : Hid _ := HQ8.out.up h9
        have HX9 : Hid _ := HX8.out.up h9
        have HY9 : Hid (Row3 _ _ _ _ _ _) := HY8.out.up h9
        have HB9 : Hid _ := HB8.out.up h9
        clear SB h9 HQ8 HX8 HY8 HB8 y0 y1 y2
        go_upto_if 113 with fail
        go_cut [] (fun wc => ∃ (bl2 sl2 : List UInt8) (p3 : Option Addr) (c3 : Nat) (p4 : Option Addr) (c4 : Nat), Hid (QW w a i n no bl2 sl2 q r p3 c3 p4 c4 wc) ∧ Hid (rgB a i n no bl2 sl2 = true))
        case first =>
          by_cases he : er = 0
          · subst he
            obtain ⟨rfl, rfl, rfl, rfl, hrg, A3, A4, O3, O4⟩ := HB9.out.yes rfl
            have HRG : Hid _ := hrg
            have HA3 : Hid (Arg w9 p3 c3 bl2) := A3
            have HA4 : Hid (Arg w9 p4 c4 sl2) := A4
            have HO3 : Hid (Off2 p3 q r) := by
              intro b off e
              have h := O3 b off e
              rw [hS.out] at h
              exact ⟨fun e => h (.inl e), fun e => h (.inr (.inl e))⟩
            have HO4 : Hid (Off2 p4 q r) := by
              intro b off e
              have h := O4 b off e
              rw [hS.out] at h
              exact ⟨fun e => h (.inl e), fun e => h (.inr (.inl e))⟩
            have hLB := HX9.out.lb
            have hLS := HX9.out.ls
            have HLB2 : Hid _ := hLB
            have HLS2 : Hid _ := hLS
            have lqr : q < r := HQ9.out.lr
            clear hrg A3 A4 O3 O4 hLB hLS HB9
            go_upto_region 28 with (first | ((with_reducible show wpList _ _ _ ({ dst := _, op := Op.load 28 _, type := _, pos := _, after := _, guard := _ } :: _) _ _); refine wpList_load_head rfl _ rfl (HX9.out) rfl ?_) | ((with_reducible show wpList _ _ _ ({ dst := _, op := Op.store 28 _ _, type := _, pos := _, after := _, guard := _ } :: _) _ _); refine wpList_store_headO rfl _ _ rfl (HQ9.out.pw.head) HLB2.out HLS2.out rfl rfl ?_; intro w10 H10 o10 z10))
            have y := HY9.out.only o10 (show py ≠ q by omega)
            have y0 := y.c0; have y1 := y.c1; have y2 := y.c2
            have rr := HQ9.out.row.only o10 (show r ≠ q by omega)
            have r0 := rr.c0; have r1 := rr.c1; have r2 := rr.c2; have f0 := rr.fz 0; have f1 := rr.fz 1; have f2 := rr.fz 2
            have HNEW : Hid _ := HQ9.out.new HA3.out HA4.out HO3.out HO4.out o10 H10
            clear y rr H10 o10 z10 HA3 HA4 HO3 HO4 HQ9 HX9 HY9
            go_wp2_with fail
            go_meet
            case rel => exact ⟨bl2, sl2, p3, c3, p4, c4, HNEW, HRG⟩
          · have hef : (er == 0) = false := by simpa using he
            clear he
            go_wp2_with fail
            go_meet
            case rel => exact ⟨bl, sl, p1, c1, p2, c2, HQ9, HR⟩
        case rest =>
          obtain ⟨bl3, sl3, p5, c5, p6, c6, HQC, HRC⟩ := hcut
          clear HQ9 HX9 HY9 HB9 HR HLB HLS hS
          have HLB : Hid (bl3.length = 16) := HQC.out.pw.head.lb
          have HLS : Hid (sl3.length = 8) := HQC.out.pw.head.ls
          have FE := fun W => free_yes a i n no bl3 sl3 HLB.out HLS.out HRC.out W
          have RE := fun W h1 h2 => rfree_yes a i n no bl3 sl3 p5 p6 c5 c6 HLB.out HLS.out HRC.out W h1 h2
          have FB := fun W => findBlock_yes a i n no fr bl3 sl3 HLB.out HLS.out HRC.out W
          have RB := fun W h1 h2 => rfindBlock_yes a i n no fr bl3 sl3 p5 p6 c5 c6 HLB.out HLS.out HRC.out hfr W h1 h2
          have FS := fun W => findSlot_yes a i n no fr bl3 sl3 HLB.out HLS.out HRC.out W
          have RS := fun W h1 h2 => rfindSlot_yes a i n no fr bl3 sl3 p5 p6 c5 c6 HLB.out HLS.out HRC.out hfr W h1 h2
          generalize frN bl3 a = X1 at *
          generalize frN sl3 i = X2 at *
          have q0 := HQC.out.pw.geo.1; have q1 := HQC.out.pw.geo.2.1; have q2 := HQC.out.pw.geo.2.2.1
          go_wp2_with (first | ((with_reducible show wpList _ _ _ ({ dst := _, op := Op.load 28 _, type := _, pos := _, after := _, guard := _ } :: _) _ _); refine wpList_load_head rfl _ rfl (HQC.out.pw.head) rfl ?_))
          refine (FE _).mono ?_
          rintro e w11 ⟨rfl, h11⟩
          have HQ11 : Hid _ := HQC.out.up h11
          clear HQC h11 q0 q1 q2 FE
          have q0 := HQ11.out.pw.geo.1; have q1 := HQ11.out.pw.geo.2.1; have q2 := HQ11.out.pw.geo.2.2.1
          have r0 := HQ11.out.row.c0; have r1 := HQ11.out.row.c1; have r2 := HQ11.out.row.c2
          go_wp2_with fail
          refine (RE _ HQ11.out.ab.src HQ11.out.asl.src).mono ?_
          rintro e w12 ⟨rfl, h12⟩
          have Q12 := HQ11.out.up h12
          have HD : QW w a i n no bl3 sl3 q r p5 c5 p6 c6 w12.drew := Q12.up (Below.refl _ _).drew
          clear HQ11 h12 q0 q1 q2 r0 r1 r2 RE Q12
          go_wp2_with fail
          refine wp_region_held_drew (S := (fun W => QW w a i n no bl3 sl3 q r p5 c5 p6 c6 W)) (by kernel_rfl) HD (fun hH => ?_)
          refine takeH (i := 0) (dst := some 128) (v := ?v1) rfl rfl (by kernel_rfl) (by kernel_rfl) (by kernel_rfl) (fun _ _ _ h => h) rfl ?hy1 hH rfl ?rest1
          case hy1 => (intro W hW; have q0 := hW.pw.geo.1; have q1 := hW.pw.geo.2.1; have q2 := hW.pw.geo.2.2.1; have r0 := hW.row.c0; have r1 := hW.row.c1; have r2 := hW.row.c2; clear hW; go_simp; try with_reducible rfl)
          (try simp only [Act.put, List.setIfInBounds_toArray, List.set_cons_zero, List.set_cons_succ])
          refine takeH (i := 1) (dst := some 129) (v := ?v2) rfl rfl (by kernel_rfl) (by kernel_rfl) (by kernel_rfl) (fun _ _ _ h => h) rfl ?hy2 hH rfl ?rest2
          case hy2 => (intro W hW; have q0 := hW.pw.geo.1; have q1 := hW.pw.geo.2.1; have q2 := hW.pw.geo.2.2.1; have r0 := hW.row.c0; have r1 := hW.row.c1; have r2 := hW.row.c2; clear hW; go_simp; try with_reducible rfl)
          (try simp only [Act.put, List.setIfInBounds_toArray, List.set_cons_zero, List.set_cons_succ])
          refine takeH (i := 2) (dst := some 130) (v := ?v3) rfl rfl (by kernel_rfl) (by kernel_rfl) (by kernel_rfl) (fun _ _ _ h => h) rfl ?hy3 hH rfl ?rest3
          case hy3 => (intro W hW; have q0 := hW.pw.geo.1; have q1 := hW.pw.geo.2.1; have q2 := hW.pw.geo.2.2.1; have r0 := hW.row.c0; have r1 := hW.row.c1; have r2 := hW.row.c2; clear hW; go_simp; try with_reducible rfl)
          (try simp only [Act.put, List.setIfInBounds_toArray, List.set_cons_zero, List.set_cons_succ])
          refine takeH (i := 3) (dst := some 131) (v := ?v4) rfl rfl (by kernel_rfl) (by kernel_rfl) (by kernel_rfl) (fun _ _ _ h => h) rfl ?hy4 hH rfl ?rest4
          case hy4 => (intro W hW; have q0 := hW.pw.geo.1; have q1 := hW.pw.geo.2.1; have q2 := hW.pw.geo.2.2.1; have r0 := hW.row.c0; have r1 := hW.row.c1; have r2 := hW.row.c2; clear hW; go_simp; try with_reducible rfl)
          (try simp only [Act.put, List.setIfInBounds_toArray, List.set_cons_zero, List.set_cons_succ])
          refine takeH (i := 4) (dst := some 132) (v := ?v5) rfl rfl (by kernel_rfl) (by kernel_rfl) (by kernel_rfl) (fun _ _ _ h => h) rfl ?hy5 hH rfl ?rest5
          case hy5 => (intro W hW; have q0 := hW.pw.geo.1; have q1 := hW.pw.geo.2.1; have q2 := hW.pw.geo.2.2.1; have r0 := hW.row.c0; have r1 := hW.row.c1; have r2 := hW.row.c2; clear hW; go_simp; try with_reducible rfl)
          (try simp only [Act.put, List.setIfInBounds_toArray, List.set_cons_zero, List.set_cons_succ])
          refine takeH (i := 5) (dst := some 133) (v := ?v6) rfl rfl (by kernel_rfl) (by kernel_rfl) (by kernel_rfl) (fun _ _ _ h => h) rfl ?hy6 hH rfl ?rest6
          case hy6 => (intro W hW; have q0 := hW.pw.geo.1; have q1 := hW.pw.geo.2.1; have q2 := hW.pw.geo.2.2.1; have r0 := hW.row.c0; have r1 := hW.row.c1; have r2 := hW.row.c2; clear hW; go_simp; try with_reducible rfl)
          (try simp only [Act.put, List.setIfInBounds_toArray, List.set_cons_zero, List.set_cons_succ])
          refine takeH (i := 6) (dst := some 134) (v := ?v7) rfl rfl (by kernel_rfl) (by kernel_rfl) (by kernel_rfl) (fun _ _ _ h => h) rfl ?hy7 hH rfl ?rest7
          case hy7 => (intro W hW; have q0 := hW.pw.geo.1; have q1 := hW.pw.geo.2.1; have q2 := hW.pw.geo.2.2.1; have r0 := hW.row.c0; have r1 := hW.row.c1; have r2 := hW.row.c2; clear hW; go_simp; try with_reducible rfl)
          (try simp only [Act.put, List.setIfInBounds_toArray, List.set_cons_zero, List.set_cons_succ])
          refine takeH (i := 7) (dst := some 135) (v := ?v8) rfl rfl (by kernel_rfl) (by kernel_rfl) (by kernel_rfl) (fun _ _ _ h => h) rfl ?hy8 hH rfl ?rest8
          case hy8 => (intro W hW; have q0 := hW.pw.geo.1; have q1 := hW.pw.geo.2.1; have q2 := hW.pw.geo.2.2.1; have r0 := hW.row.c0; have r1 := hW.row.c1; have r2 := hW.row.c2; clear hW; go_simp; try with_reducible rfl)
          (try simp only [Act.put, List.setIfInBounds_toArray, List.set_cons_zero, List.set_cons_succ])
          refine takeH (i := 8) (dst := some 136) (v := ?v9) rfl rfl (by kernel_rfl) (by kernel_rfl) (by kernel_rfl) (fun _ _ _ h => h) rfl ?hy9 hH rfl ?rest9
          case hy9 => (intro W hW; have q0 := hW.pw.geo.1; have q1 := hW.pw.geo.2.1; have q2 := hW.pw.geo.2.2.1; have r0 := hW.row.c0; have r1 := hW.row.c1; have r2 := hW.row.c2; clear hW; go_simp; try with_reducible rfl)
          (try simp only [Act.put, List.setIfInBounds_toArray, List.set_cons_zero, List.set_cons_succ])
          refine takeH (i := 9) (dst := some 137) (v := ?v10) rfl rfl (by kernel_rfl) (by kernel_rfl) (by kernel_rfl) (fun _ _ _ h => h) rfl ?hy10 hH rfl ?rest10
          case hy10 => (intro W hW; have q0 := hW.pw.geo.1; have q1 := hW.pw.geo.2.1; have q2 := hW.pw.geo.2.2.1; have r0 := hW.row.c0; have r1 := hW.row.c1; have r2 := hW.row.c2; clear hW; go_simp; try with_reducible rfl)
          (try simp only [Act.put, List.setIfInBounds_toArray, List.set_cons_zero, List.set_cons_succ])
          refine takeH (i := 10) (dst := some 138) (v := ?v11) rfl rfl (by kernel_rfl) (by kernel_rfl) (by kernel_rfl) (fun _ _ _ h => h) rfl ?hy11 hH rfl ?rest11
          case hy11 => (intro W hW; refine exec_load_head (x := Operand.tmp 9) hW.pw.head ?_ ?_ <;> rfl)
          (try simp only [Act.put, List.setIfInBounds_toArray, List.set_cons_zero, List.set_cons_succ])
          refine takeH (i := 11) (dst := some 139) (v := ?v12) rfl rfl (by kernel_rfl) (by kernel_rfl) (by kernel_rfl) (fun _ _ _ h => h) rfl ?hy12 hH rfl ?rest12
          case hy12 => (intro W hW; have q0 := hW.pw.geo.1; have q1 := hW.pw.geo.2.1; have q2 := hW.pw.geo.2.2.1; have r0 := hW.row.c0; have r1 := hW.row.c1; have r2 := hW.row.c2; clear hW; go_simp; try with_reducible rfl)
          (try simp only [Act.put, List.setIfInBounds_toArray, List.set_cons_zero, List.set_cons_succ])
          refine takeH (i := 13) (dst := some 141) (v := ?v13) rfl rfl (by kernel_rfl) (by kernel_rfl) (by kernel_rfl) (fun _ _ _ h => h) rfl ?hy13 hH rfl ?rest13
          case hy13 => (intro W hW; have q0 := hW.pw.geo.1; have q1 := hW.pw.geo.2.1; have q2 := hW.pw.geo.2.2.1; have r0 := hW.row.c0; have r1 := hW.row.c1; have r2 := hW.row.c2; clear hW; go_simp; try with_reducible rfl)
          (try simp only [Act.put, List.setIfInBounds_toArray, List.set_cons_zero, List.set_cons_succ])
          refine takeH (i := 14) (dst := some 142) (v := ?v14) rfl rfl (by kernel_rfl) (by kernel_rfl) (by kernel_rfl) (fun _ _ _ h => h) rfl ?hy14 hH rfl ?rest14
          case hy14 => (intro W hW; have q0 := hW.pw.geo.1; have q1 := hW.pw.geo.2.1; have q2 := hW.pw.geo.2.2.1; have r0 := hW.row.c0; have r1 := hW.row.c1; have r2 := hW.row.c2; clear hW; go_simp; try with_reducible rfl)
          (try simp only [Act.put, List.setIfInBounds_toArray, List.set_cons_zero, List.set_cons_succ])
          refine takeH (i := 15) (dst := some 143) (v := ?v15) rfl rfl (by kernel_rfl) (by kernel_rfl) (by kernel_rfl) (fun _ _ _ h => h) rfl ?hy15 hH rfl ?rest15
          case hy15 => (intro W hW; have q0 := hW.pw.geo.1; have q1 := hW.pw.geo.2.1; have q2 := hW.pw.geo.2.2.1; have r0 := hW.row.c0; have r1 := hW.row.c1; have r2 := hW.row.c2; clear hW; go_simp; try with_reducible rfl)
          (try simp only [Act.put, List.setIfInBounds_toArray, List.set_cons_zero, List.set_cons_succ])
          refine callH (i := 12) { dst := some 140, op := Go.Op.call { callee := Go.Callee.value (Go.Operand.func 26), args := #[Go.Operand.tmp 137, Go.Operand.tmp 138, Go.Operand.tmp 139], argTypes := #[23, 28, 3] }, type := 3, pos := "law.go:115", after := #[{ on := 9, ground := Go.Ground.data }, { on := 10, ground := Go.Ground.data }, { on := 11, ground := Go.Ground.data }, { on := 8, ground := Go.Ground.chain }, { on := 8, ground := Go.Ground.guard }], guard := some (8, false) } (by kernel_rfl) rfl rfl (fun K hK => ?_)
          go_simp
          refine (FB _).mono ?_
          rintro e v1 ⟨⟨x1, rfl, i1⟩, m0⟩
          have m1 := hH.up m0
          clear m0 FB
          clear hH
          refine hK.out _ _ m1 (fun hH => ?_)
          clear hK K
          (try simp only [Act.put, List.setIfInBounds_toArray, List.set_cons_zero, List.set_cons_succ])
          refine callH (i := 16) { dst := some 144, op := Go.Op.call { callee := Go.Callee.value (Go.Operand.func 27), args := #[Go.Operand.tmp 141, Go.Operand.tmp 142, Go.Operand.tmp 143], argTypes := #[23, 31, 3] }, type := 3, pos := "law.go:115", after := #[{ on := 13, ground := Go.Ground.data }, { on := 14, ground := Go.Ground.data }, { on := 15, ground := Go.Ground.data }, { on := 12, ground := Go.Ground.chain }, { on := 8, ground := Go.Ground.guard }], guard := some (8, false) } (by kernel_rfl) rfl rfl (fun K hK => ?_)
          go_simp
          refine (RB _ m1.ab.src m1.asl.src).mono ?_
          rintro e v2 ⟨⟨y1, rfl, j1⟩, m0⟩
          obtain rfl := j1.same i1
          have m2 := m1.up m0
          clear m0 RB m1
          clear hH
          refine hK.out _ _ m2 (fun hH => ?_)
          clear hK K
          (try simp only [Act.put, List.setIfInBounds_toArray, List.set_cons_zero, List.set_cons_succ])
          refine takeH (i := 17) (dst := some 145) (v := ?v16) rfl rfl (by kernel_rfl) (by kernel_rfl) (by kernel_rfl) (fun _ _ _ h => h) rfl ?hy16 hH rfl ?rest16
          case hy16 => (intro W hW; have q0 := hW.pw.geo.1; have q1 := hW.pw.geo.2.1; have q2 := hW.pw.geo.2.2.1; have r0 := hW.row.c0; have r1 := hW.row.c1; have r2 := hW.row.c2; clear hW; go_simp; try with_reducible rfl)
          (try simp only [Act.put, List.setIfInBounds_toArray, List.set_cons_zero, List.set_cons_succ])
          refine takeH (i := 18) (dst := some 146) (v := ?v17) rfl rfl (by kernel_rfl) (by kernel_rfl) (by kernel_rfl) (fun _ _ _ h => h) rfl ?hy17 hH rfl ?rest17
          case hy17 => (intro W hW; have q0 := hW.pw.geo.1; have q1 := hW.pw.geo.2.1; have q2 := hW.pw.geo.2.2.1; have r0 := hW.row.c0; have r1 := hW.row.c1; have r2 := hW.row.c2; clear hW; go_simp; try with_reducible rfl)
          (try simp only [Act.put, List.setIfInBounds_toArray, List.set_cons_zero, List.set_cons_succ])
          refine takeH (i := 19) (dst := some 147) (v := ?v18) rfl rfl (by kernel_rfl) (by kernel_rfl) (by kernel_rfl) (fun _ _ _ h => h) rfl ?hy18 hH rfl ?rest18
          case hy18 => (intro W hW; have q0 := hW.pw.geo.1; have q1 := hW.pw.geo.2.1; have q2 := hW.pw.geo.2.2.1; have r0 := hW.row.c0; have r1 := hW.row.c1; have r2 := hW.row.c2; clear hW; go_simp; try with_reducible rfl)
          (try simp only [Act.put, List.setIfInBounds_toArray, List.set_cons_zero, List.set_cons_succ])
          refine takeH (i := 20) (dst := some 148) (v := ?v19) rfl rfl (by kernel_rfl) (by kernel_rfl) (by kernel_rfl) (fun _ _ _ h => h) rfl ?hy19 hH rfl ?rest19
          case hy19 => (intro W hW; have q0 := hW.pw.geo.1; have q1 := hW.pw.geo.2.1; have q2 := hW.pw.geo.2.2.1; have r0 := hW.row.c0; have r1 := hW.row.c1; have r2 := hW.row.c2; clear hW; go_simp; try with_reducible rfl)
          (try simp only [Act.put, List.setIfInBounds_toArray, List.set_cons_zero, List.set_cons_succ])
          refine takeH (i := 21) (dst := some 149) (v := ?v20) rfl rfl (by kernel_rfl) (by kernel_rfl) (by kernel_rfl) (fun _ _ _ h => h) rfl ?hy20 hH rfl ?rest20
          case hy20 => (intro W hW; refine exec_load_head (x := Operand.tmp 9) hW.pw.head ?_ ?_ <;> rfl)
          (try simp only [Act.put, List.setIfInBounds_toArray, List.set_cons_zero, List.set_cons_succ])
          refine takeH (i := 22) (dst := some 150) (v := ?v21) rfl rfl (by kernel_rfl) (by kernel_rfl) (by kernel_rfl) (fun _ _ _ h => h) rfl ?hy21 hH rfl ?rest21
          case hy21 => (intro W hW; have q0 := hW.pw.geo.1; have q1 := hW.pw.geo.2.1; have q2 := hW.pw.geo.2.2.1; have r0 := hW.row.c0; have r1 := hW.row.c1; have r2 := hW.row.c2; clear hW; go_simp; try with_reducible rfl)
          (try simp only [Act.put, List.setIfInBounds_toArray, List.set_cons_zero, List.set_cons_succ])
          refine takeH (i := 24) (dst := some 152) (v := ?v22) rfl rfl (by kernel_rfl) (by kernel_rfl) (by kernel_rfl) (fun _ _ _ h => h) rfl ?hy22 hH rfl ?rest22
          case hy22 => (intro W hW; have q0 := hW.pw.geo.1; have q1 := hW.pw.geo.2.1; have q2 := hW.pw.geo.2.2.1; have r0 := hW.row.c0; have r1 := hW.row.c1; have r2 := hW.row.c2; clear hW; go_simp; try with_reducible rfl)
          (try simp only [Act.put, List.setIfInBounds_toArray, List.set_cons_zero, List.set_cons_succ])
          refine takeH (i := 25) (dst := some 153) (v := ?v23) rfl rfl (by kernel_rfl) (by kernel_rfl) (by kernel_rfl) (fun _ _ _ h => h) rfl ?hy23 hH rfl ?rest23
          case hy23 => (intro W hW; have q0 := hW.pw.geo.1; have q1 := hW.pw.geo.2.1; have q2 := hW.pw.geo.2.2.1; have r0 := hW.row.c0; have r1 := hW.row.c1; have r2 := hW.row.c2; clear hW; go_simp; try with_reducible rfl)
          (try simp only [Act.put, List.setIfInBounds_toArray, List.set_cons_zero, List.set_cons_succ])
          refine takeH (i := 26) (dst := some 154) (v := ?v24) rfl rfl (by kernel_rfl) (by kernel_rfl) (by kernel_rfl) (fun _ _ _ h => h) rfl ?hy24 hH rfl ?rest24
          case hy24 => (intro W hW; have q0 := hW.pw.geo.1; have q1 := hW.pw.geo.2.1; have q2 := hW.pw.geo.2.2.1; have r0 := hW.row.c0; have r1 := hW.row.c1; have r2 := hW.row.c2; clear hW; go_simp; try with_reducible rfl)
          (try simp only [Act.put, List.setIfInBounds_toArray, List.set_cons_zero, List.set_cons_succ])
          refine callH (i := 23) { dst := some 151, op := Go.Op.call { callee := Go.Callee.value (Go.Operand.func 28), args := #[Go.Operand.tmp 148, Go.Operand.tmp 149, Go.Operand.tmp 150], argTypes := #[23, 28, 3] }, type := 3, pos := "law.go:115", after := #[{ on := 20, ground := Go.Ground.data }, { on := 21, ground := Go.Ground.data }, { on := 22, ground := Go.Ground.data }, { on := 19, ground := Go.Ground.chain }, { on := 19, ground := Go.Ground.guard }], guard := some (19, false) } (by kernel_rfl) rfl rfl (fun K hK => ?_)
          go_simp
          refine (FS _).mono ?_
          rintro e v3 ⟨⟨x2, rfl, i2⟩, m0⟩
          have m3 := m2.up m0
          clear m0 FS m2
          clear hH
          refine hK.out _ _ m3 (fun hH => ?_)
          clear hK K
          (try simp only [Act.put, List.setIfInBounds_toArray, List.set_cons_zero, List.set_cons_succ])
          refine callH (i := 27) { dst := some 155, op := Go.Op.call { callee := Go.Callee.value (Go.Operand.func 29), args := #[Go.Operand.tmp 152, Go.Operand.tmp 153, Go.Operand.tmp 154], argTypes := #[23, 31, 3] }, type := 3, pos := "law.go:115", after := #[{ on := 24, ground := Go.Ground.data }, { on := 25, ground := Go.Ground.data }, { on := 26, ground := Go.Ground.data }, { on := 23, ground := Go.Ground.chain }, { on := 19, ground := Go.Ground.guard }], guard := some (19, false) } (by kernel_rfl) rfl rfl (fun K hK => ?_)
          go_simp
          refine (RS _ m3.ab.src m3.asl.src).mono ?_
          rintro e v4 ⟨⟨y2, rfl, j2⟩, m0⟩
          obtain rfl := j2.same i2
          have m4 := m3.up m0
          clear m0 RS m3
          clear hH
          refine hK.out _ _ m4 (fun hH => ?_)
          clear hK K
          (try simp only [Act.put, List.setIfInBounds_toArray, List.set_cons_zero, List.set_cons_succ])
          refine takeH (i := 28) (dst := some 156) (v := ?v25) rfl rfl (by kernel_rfl) (by kernel_rfl) (by kernel_rfl) (fun _ _ _ h => h) rfl ?hy25 hH rfl ?rest25
          case hy25 => (intro W hW; have q0 := hW.pw.geo.1; have q1 := hW.pw.geo.2.1; have q2 := hW.pw.geo.2.2.1; have r0 := hW.row.c0; have r1 := hW.row.c1; have r2 := hW.row.c2; clear hW; go_simp; try with_reducible rfl)
          (try simp only [Act.put, List.setIfInBounds_toArray, List.set_cons_zero, List.set_cons_succ])
          refine takeH (i := 29) (dst := some 157) (v := ?v26) rfl rfl (by kernel_rfl) (by kernel_rfl) (by kernel_rfl) (fun _ _ _ h => h) rfl ?hy26 hH rfl ?rest26
          case hy26 => (intro W hW; have q0 := hW.pw.geo.1; have q1 := hW.pw.geo.2.1; have q2 := hW.pw.geo.2.2.1; have r0 := hW.row.c0; have r1 := hW.row.c1; have r2 := hW.row.c2; clear hW; go_simp; try with_reducible rfl)
          (try simp only [Act.put, List.setIfInBounds_toArray, List.set_cons_zero, List.set_cons_succ])
          refine wpAnyH_done (by kernel_rfl) ?_ _
          clear hH
          have HM : Hid _ := m4
          clear m4
          go_wp2_with fail
          go_roundg (gk - 1)
          case measure => omega
          case rel => exact ⟨k + 1, bl3, sl3, p5, c5, p6, c6, by omega, by go_num, HM, HRC⟩
    · have hends : (¬ (k : Int) < m) ∨ ((k : Int) < m ∧ ¬ (k : Int) < 60) := by omega
      have HB : Hid (Below w.heap.size w wr) := HQ.out.pw.geo.2.2.2
      clear hlt HQ HR
      rcases hends with hlm | ⟨hlm, hl60⟩
      all_goals
        go_wp2_with fail
        refine (known_any _).mono ?_
        rintro e w6 ⟨rfl, h6⟩
        have HB2 := HB.out.trans (h6.mono HB.out.size)
        go_wp2
        go_ret
        exact ⟨rfl, HB2⟩
set_option maxHeartbeats 4000000 in
theorem groupPlays_any (a i n no : Int) (sp : Option Addr) (m cap : Nat) (A : Acts) (fr : Int) (hfr : fr ≤ 9223372036854775807) (w : World) (harg : m ≤ cap ∧ (cap : Int) ≤ 9223372036854775807 ∧ ActsAt w sp m A) :
    Calls Try.prog 4 #[.agg #[.int .i64 a, .int .i64 i, .int .i64 n], .int .i64 no, .slice sp m cap, .int .i64 fr] w fun e w' => e = .returned (.bool true) ∧ Below w.heap.size w w' := by
  cases hnb : numB a i n no
  · exact groupPlays_no a i n no fr sp m cap w hnb
  · exact groupPlays_walk a i n no fr sp m cap A ⟨harg.1, harg.2.1⟩ w harg.2.2 hfr hnb
end Go.Proofs.Ytfbbdpapnegmcaa
