/- leveeref06.Put. -/
import Derived.Test.YtfbbdpapnegmcaaRbytes
namespace Go.Proofs.Ytfbbdpapnegmcaa
open Go.RowKit
attribute [local go_sem] wrapU
set_option maxHeartbeats 4000000 in
theorem rput_no (a i n no : Int) (bl sl : List UInt8) (spb sps : Option Addr) (capb caps : Nat) (hb : bl.length = 16) (hs : sl.length = 8) (hr : rgB a i n no bl sl = false) (w : World) (hsb : Src w spb bl) (hss : Src w sps sl) :
    Calls Try.prog 9 #[.agg #[.int .i64 a, .int .i64 i, .int .i64 n], .agg #[.int .i64 no, .slice spb 16 capb, .slice sps 8 caps]] w fun e w' => e = .returned (.tuple #[.slice none 0 0, .int .i64 1]) ∧ Below w.heap.size w w' := by
  have HX0 : Hid _ := XW.start w a i n (.int .i64 no) (.slice spb 16 capb) (.slice sps 8 caps)
  have RT := fun W (h : Below w.heap.size w W) => rright6_any a i n no bl sl spb sps capb caps hb hs W (hsb.below h (Nat.le_refl _)) (hss.below h (Nat.le_refl _))
  rw [hr] at RT
  clear hr
  go_enter Try.func9, Try.ntmps9
  go_wp2_with fail
  refine (RT _ HX0.out.geo.2.2.2).mono ?_
  rintro e w1 ⟨rfl, h1⟩
  have HB := (HX0.out.up h1).geo.2.2.2
  go_wp2
  go_ret2
  exact ⟨rfl, HB⟩
set_option maxRecDepth 100000 in
set_option maxHeartbeats 8000000 in
theorem rput_yes (a i n : Int) (N : Nat) (bl sl : List UInt8) (spb sps : Option Addr) (capb caps : Nat) (hb : bl.length = 16) (hs : sl.length = 8) (hr : rgB a i n N bl sl = true) (w : World) (hab : Arg w spb capb bl) (has : Arg w sps caps sl) :
    Calls Try.prog 9 #[.agg #[.int .i64 a, .int .i64 i, .int .i64 n], .agg #[.int .i64 (N : Int), .slice spb 16 capb, .slice sps 8 caps]] w fun e w' => ∃ v, e = .returned (.tuple #[v, .int .i64 0]) ∧ Own w' w.heap.size v (layL N (frN bl a).toNat (frN sl i).toNat bl sl) ∧ Below w.heap.size w w' := by
  obtain ⟨hok, _, hnn⟩ := rgB_ok hr
  have hbx := hok.box
  have hn16 : n ≤ 16 := by have := okG_iff.1 hok; omega
  have HX0 : Hid _ := XW.start w a i n (.int .i64 (N : Int)) (.slice spb 16 capb) (.slice sps 8 caps)
  have RT := fun W (h : Below w.heap.size w W) => rright6_any a i n N bl sl spb sps capb caps hb hs W (hab.src.below h (Nat.le_refl _)) (has.src.below h (Nat.le_refl _))
  have FE := fun W (h : Below w.heap.size w W) => rfree_yes a i n N bl sl spb sps capb caps hb hs hr W (hab.src.below h (Nat.le_refl _)) (has.src.below h (Nat.le_refl _))
  rw [hr] at RT
  obtain ⟨X, hX⟩ : ∃ X : Nat, frN bl a = X := Int.eq_ofNat_of_zero_le (by have := cnt_le (gb bl) a.toNat; unfold frN; omega)
  obtain ⟨Y, hY⟩ : ∃ Y : Nat, frN sl i = Y := Int.eq_ofNat_of_zero_le (by have := cnt_le (gb sl) i.toNat; unfold frN; omega)
  have hX2 : (X : Int) ≤ 128 := by rw [← hX]; unfold frN; omega
  have hY2 : (Y : Int) ≤ 64 := by rw [← hY]; unfold frN; omega
  rw [hX, hY] at FE
  rw [hX, hY, Int.toNat_natCast, Int.toNat_natCast]
  have HLE : Hid _ := layL_eq N X Y bl sl hb hs
  have u1 : InU (N : Int) := ⟨by omega⟩
  have u2 : InU (X : Int) := ⟨by omega⟩
  have u3 : InU (Y : Int) := ⟨by omega⟩
  have kc := fun (w : World) (C : Array Value) (n c : Nat) => Lib.run_convert_bytes_const (P := Try.prog) w 24 5 C n c Try.underlying24 Try.underlying5
  clear hr hok hX hY hbx
  go_enter Try.func9, Try.ntmps9
  go_wp2_with fail
  refine (RT _ HX0.out.geo.2.2.2).mono ?_
  rintro e w0 ⟨rfl, h0⟩
  have X0 := HX0.out.up h0
  have HX0' : Hid _ := X0
  have q0 := X0.geo.1; have q1 := X0.geo.2.1; have q2 := X0.geo.2.2.1; have r0 := X0.head.c0; have r1 := X0.head.c1; have r2 := X0.head.c2
  clear HX0 RT h0 X0
  go_wp2_with fail
  refine (FE _ HX0'.out.geo.2.2.2).mono ?_
  rintro e w1 ⟨rfl, h1⟩
  have HX1 : Hid (XW w a i n (.int .i64 (N : Int)) (.slice spb 16 capb) (.slice sps 8 caps) w1) := HX0'.out.up h1
  clear FE HX0' h1 q0 q1 q2 r0 r1 r2
  have hl1 : w.heap.size + 1 < w1.heap.size := HX1.out.head.lt
  have al1 : Below w1.heap.size w1 (w1.alloc (.cells (bvs markL).toArray 5 (4, 5))) := (Below.refl _ _).alloc (Nat.le_refl _) _
  obtain ⟨w2, HW2⟩ : ∃ w2, Hid (w2 = w1.alloc (.cells (bvs markL).toArray 5 (4, 5))) := ⟨_, rfl⟩
  have HM2 : Hid (Src w2 (some ⟨w1.heap.size, 0, none⟩) markL) := by rw [HW2.out]; exact src_row (heap_alloc_new _ _)
  have HX2 : Hid (XW w a i n (.int .i64 (N : Int)) (.slice spb 16 capb) (.slice sps 8 caps) w2) := by rw [HW2.out]; exact HX1.out.up al1
  go_upto_region 5 with fail
  rw [show w1.alloc (.cells #[.int .u8 76, .int .u8 71, .int .u8 82, .int .u8 80] 5 (4, 5)) = w2 from HW2.out.symm]
  clear HW2 al1 HX1 kc
  have hl2 : w.heap.size + 1 < w2.heap.size := HX2.out.head.lt
  have c2 := HX2.out.head.c0
  have RB : Calls Try.prog 32 #[.int .u64 (N : Int), .int .i64 2] w2 fun e w' => ∃ v, e = .returned v ∧ Own w' w2.heap.size v (leB 2 N) ∧ Below w2.heap.size w2 w' := rbytes_any N 2 w2 (by omega) (by omega)
  go_wp2_with fail
  clear c2
  refine RB.mono ?_
  rintro e w2b ⟨v2, rfl, o2, b2⟩
  clear RB
  obtain ⟨p2, k2, rfl, s2, _, _, n2⟩ := o2.form
  rw [leB_length]
  have HX2b : Hid (XW w a i n (.int .i64 (N : Int)) (.slice spb 16 capb) (.slice sps 8 caps) w2b) := HX2.out.up b2
  have hl2b : w.heap.size + 1 < w2b.heap.size := HX2b.out.head.lt
  have hs2 : Src w2b (some ⟨w1.heap.size, 0, none⟩) markL := HM2.out.below b2 (Nat.le_refl _)
  clear o2 HM2
  go_upto_region 6 with (at_builtin; refine wpList_append_new rfl (.tmp 21) (.tmp 25) rfl (w.heap.size + 1 + 1) markL (leB 2 N) w1.heap.size 0 4 rfl _ _ _ rfl (leB_length _ _).symm hs2 s2 (by rw [leB_length]; omega) (by rw [leB_length]; simp [markL]) (by omega) (by rw [leB_length]; simp [markL]) ?_; intro V3 w3 hO3 g3)
  have HX3 : Hid (XW w a i n (.int .i64 (N : Int)) (.slice spb 16 capb) (.slice sps 8 caps) w3) := HX2b.out.low g3 (by omega)
  have HO3 : Hid (Own w3 (w.heap.size + 1 + 1) V3 (markL ++ leB 2 N)) := hO3
  clear hs2 s2 b2 g3 n2 HX2 HX2b hl2 hl2b hO3
  have hl3 : w.heap.size + 1 < w3.heap.size := HX3.out.head.lt
  have c3 := HX3.out.head.c0
  have RB : Calls Try.prog 32 #[.int .u64 (X : Int), .int .i64 2] w3 fun e w' => ∃ v, e = .returned v ∧ Own w' w3.heap.size v (leB 2 X) ∧ Below w3.heap.size w3 w' := rbytes_any X 2 w3 (by omega) (by omega)
  go_wp2_with fail
  clear c3
  refine RB.mono ?_
  rintro e w3b ⟨v3, rfl, o3, b3⟩
  clear RB
  obtain ⟨p3, k3, rfl, s3, _, _, n3⟩ := o3.form
  rw [leB_length]
  have HX3b : Hid (XW w a i n (.int .i64 (N : Int)) (.slice spb 16 capb) (.slice sps 8 caps) w3b) := HX3.out.up b3
  have hl3b : w.heap.size + 1 < w3b.heap.size := HX3b.out.head.lt
  have hs3 : Own w3b (w.heap.size + 1 + 1) V3 (markL ++ leB 2 N) := HO3.out.below b3 (Nat.le_refl _)
  clear o3 HO3
  go_upto_region 7 with (at_builtin; refine wpList_append_bytes rfl (.tmp 27) (.tmp 30) rfl (w.heap.size + 1 + 1) (markL ++ leB 2 N) (leB 2 X) _ rfl _ _ _ rfl (leB_length _ _).symm hs3 s3 (by omega) (by simp [leB_length, markL]) n3 ?_; intro V4 w4 hO4 g4)
  have HX4 : Hid (XW w a i n (.int .i64 (N : Int)) (.slice spb 16 capb) (.slice sps 8 caps) w4) := HX3b.out.low g4 (by omega)
  have HO4 : Hid (Own w4 (w.heap.size + 1 + 1) V4 ((markL ++ leB 2 N) ++ leB 2 X)) := hO4
  clear hs3 s3 b3 g4 n3 HX3 HX3b hl3 hl3b hO4
  have hl4 : w.heap.size + 1 < w4.heap.size := HX4.out.head.lt
  have c4 := HX4.out.head.c0
  have RB : Calls Try.prog 32 #[.int .u64 (Y : Int), .int .i64 2] w4 fun e w' => ∃ v, e = .returned v ∧ Own w' w4.heap.size v (leB 2 Y) ∧ Below w4.heap.size w4 w' := rbytes_any Y 2 w4 (by omega) (by omega)
  go_wp2_with fail
  clear c4
  refine RB.mono ?_
  rintro e w4b ⟨v4, rfl, o4, b4⟩
  clear RB
  obtain ⟨p4, k4, rfl, s4, _, _, n4⟩ := o4.form
  rw [leB_length]
  have HX4b : Hid (XW w a i n (.int .i64 (N : Int)) (.slice spb 16 capb) (.slice sps 8 caps) w4b) := HX4.out.up b4
  have hl4b : w.heap.size + 1 < w4b.heap.size := HX4b.out.head.lt
  have hs4 : Own w4b (w.heap.size + 1 + 1) V4 ((markL ++ leB 2 N) ++ leB 2 X) := HO4.out.below b4 (Nat.le_refl _)
  clear o4 HO4
  go_wp2_with (at_builtin; refine wpList_append_bytes rfl (.tmp 32) (.tmp 35) rfl (w.heap.size + 1 + 1) ((markL ++ leB 2 N) ++ leB 2 X) (leB 2 Y) _ rfl _ _ _ rfl (leB_length _ _).symm hs4 s4 (by omega) (by simp [leB_length, markL]) n4 ?_; intro V5 w5 hO5 g5)
  have HX5 : Hid (XW w a i n (.int .i64 (N : Int)) (.slice spb 16 capb) (.slice sps 8 caps) w5) := HX4b.out.low g5 (by omega)
  have HO5 : Hid (Own w5 (w.heap.size + 1 + 1) V5 (((markL ++ leB 2 N) ++ leB 2 X) ++ leB 2 Y)) := hO5
  clear hs4 s4 b4 g5 n4 HX4 HX4b hl4 hl4b hO5
  have HP : Hid (Own w5 (w.heap.size + 1 + 1) V5 (p10 N X Y ++ List.replicate 0 0)) := by rw [List.replicate_zero, List.append_nil]; exact HO5.out
  clear HO5 u1 u2 u3
  go_loopw [8] (fun v wr => ∃ k : Nat, 10 + k ≤ 16 ∧ Hid (Own wr (w.heap.size + 1 + 1) v (p10 N X Y ++ List.replicate k 0)) ∧ Hid (XW w a i n (.int .i64 (N : Int)) (.slice spb 16 capb) (.slice sps 8 caps) wr)) (fun v _ => 16 - slen v)
  case atStart => exact ⟨0, by omega, HP, HX5⟩
  case round =>
    clear HP HX5
    obtain ⟨k, hk, HO, HXL⟩ := hrel
    obtain ⟨ao, cap, rfl, _, _, _, _⟩ := HO.out.form
    have hlen : (p10 N X Y ++ List.replicate k 0).length = 10 + k := by rw [List.length_append, p10_length, List.length_replicate]
    rw [hlen] at HO ⊢
    have HST : Hid _ := rep_step (p10 N X Y) k
    have hlw : w.heap.size + 1 < wr.heap.size := HXL.out.head.lt
    by_cases hlt : ((10 + k : Nat) : Int) < 16
    · go_upto_region 9 with fail
      have hO := HO.out
      generalize Value.slice ao (10 + k) cap = V at hO ⊢
      clear HO
      go_wp2_with (at_builtin; refine wpList_append_bytes rfl (.tmp 40) (.tmp 41) rfl (w.heap.size + 1 + 1) _ [0] _ rfl _ _ _ rfl rfl (hO.below ((Below.refl _ _).alloc (Nat.le_refl _) _) (Nat.le_refl _)) (Blk.src (t := 5) (heap_alloc_new _ _)) (by simp; omega) (by rw [hlen]; simp; omega) (fun h => by cases h) ?_; intro v' wn hO1 hb1)
      rw [HST.out] at hO1
      obtain ⟨ao', cap', rfl, _⟩ := hO1.form
      have XN := (HXL.out.up ((Below.refl _ _).alloc (Nat.le_refl _) _)).low hb1 (by omega)
      go_roundw
      case rel => exact ⟨k + 1, by omega, hO1, XN⟩
      case measure => simp [slen, p10_length]; omega
    · obtain rfl : k = 6 := by omega
      rw [show 10 + 6 = 16 from rfl] at HO hlen ⊢
      have hO := HO.out
      have b1 : Src wr spb bl := hab.src.below HXL.out.geo.2.2.2 (Nat.le_refl _)
      have r1 := HXL.out.head.c1
      go_upto_region 10 with fail
      generalize Value.slice ao 16 cap = V at hO ⊢
      clear HO HST hlt
      go_upto_region 11 with (at_builtin; refine wpList_append_bytes rfl (.tmp 43) (.tmp 45) rfl (w.heap.size + 1 + 1) _ bl _ rfl _ _ _ rfl hb.symm hO b1 (by omega) (by rw [hlen, hb]; omega) hab.nilcap ?_; intro V6 w6 hO6 g6)
      have HX6 : Hid (XW w a i n (.int .i64 (N : Int)) (.slice spb 16 capb) (.slice sps 8 caps) w6) := HXL.out.low g6 (by omega)
      have hl6 : w.heap.size + 1 < w6.heap.size := HX6.out.head.lt
      have b2 : Src w6 sps sl := has.src.below HX6.out.geo.2.2.2 (Nat.le_refl _)
      clear r1 g6 hO b1 HXL hlw
      have r2 := HX6.out.head.c2
      go_wp2_with (at_builtin; refine wpList_append_bytes rfl (.tmp 47) (.tmp 49) rfl (w.heap.size + 1 + 1) _ sl _ rfl _ _ _ rfl hs.symm hO6 b2 (by omega) (by rw [List.length_append, hlen, hb, hs]; omega) has.nilcap ?_; intro V7 w7 hO7 g7)
      have HX7 : Hid (XW w a i n (.int .i64 (N : Int)) (.slice spb 16 capb) (.slice sps 8 caps) w7) := HX6.out.low g7 (by omega)
      have HP7 : Hid (Own w7 (w.heap.size + 1 + 1) V7 (p40 N X Y bl sl ++ List.replicate 0 0)) := by rw [List.replicate_zero, List.append_nil]; exact hO7
      clear r2 g7 hO6 b2 HX6 hl6 hO7 hlen
      go_loopw [8] (fun v wr => ∃ k : Nat, 40 + k ≤ 256 ∧ Hid (Own wr (w.heap.size + 1 + 1) v (p40 N X Y bl sl ++ List.replicate k 0)) ∧ Hid (XW w a i n (.int .i64 (N : Int)) (.slice spb 16 capb) (.slice sps 8 caps) wr)) (fun v _ => 256 - slen v)
      case atStart => exact ⟨0, by omega, HP7, HX7⟩
      case round =>
        clear HP7 HX7
        obtain ⟨k, hk, HO, HXL⟩ := hrel
        obtain ⟨ao, cap, rfl, _, _, _, _⟩ := HO.out.form
        have hlen : (p40 N X Y bl sl ++ List.replicate k 0).length = 40 + k := by rw [List.length_append, p40_length _ _ _ _ _ hb hs, List.length_replicate]
        rw [hlen] at HO ⊢
        have HST : Hid _ := rep_step (p40 N X Y bl sl) k
        have hlw : w.heap.size + 1 < wr.heap.size := HXL.out.head.lt
        by_cases hlt : ((40 + k : Nat) : Int) < 256
        · go_upto_region 13 with fail
          have hO := HO.out
          generalize Value.slice ao (40 + k) cap = V at hO ⊢
          clear HO
          go_wp2_with (at_builtin; refine wpList_append_bytes rfl (.tmp 54) (.tmp 55) rfl (w.heap.size + 1 + 1) _ [0] _ rfl _ _ _ rfl rfl (hO.below ((Below.refl _ _).alloc (Nat.le_refl _) _) (Nat.le_refl _)) (Blk.src (t := 5) (heap_alloc_new _ _)) (by simp; omega) (by rw [hlen]; simp; omega) (fun h => by cases h) ?_; intro v' wn hO1 hb1)
          rw [HST.out] at hO1
          obtain ⟨ao', cap', rfl, _⟩ := hO1.form
          have XN := (HXL.out.up ((Below.refl _ _).alloc (Nat.le_refl _) _)).low hb1 (by omega)
          go_roundw
          case rel => exact ⟨k + 1, by omega, hO1, XN⟩
          case measure => simp [slen, p40_length _ _ _ _ _ hb hs]; omega
        · obtain rfl : k = 216 := by omega
          rw [show 40 + 216 = 256 from rfl] at HO ⊢
          have HZ : Hid (Own wr (w.heap.size + 1 + 1) (.slice ao 256 cap) (layL N X Y bl sl)) := by rw [HLE.out]; exact HO.out
          have HB := HXL.out.geo.2.2.2
          clear HO HST
          go_wp2
          go_ret2
          exact ⟨_, rfl, HZ.out.mono (by omega), HB⟩
end Go.Proofs.Ytfbbdpapnegmcaa
