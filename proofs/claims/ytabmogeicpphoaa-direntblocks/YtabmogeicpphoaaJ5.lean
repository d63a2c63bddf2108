/- leveeref07.Put. -/
import Derived.Test.YtabmogeicpphoaaJ4
import Derived.Test.YtabmogeicpphoaaKRright7
namespace Go.Proofs.Ytabmogeicpphoaa
open Go.RowKit
/-- An inode lies behind what there was. -/
structure PI (w0 : World) (i : Ino) (W : World) : Prop where
  b : Below w0.heap.size w0 W
  ino : InoAt W w0.heap.size i
theorem PI.up {w0 W W' : World} {i : Ino} (h : PI w0 i W) (hb : Below W.heap.size W W') : PI w0 i W' := ⟨h.b.trans (hb.mono h.b.size), h.ino.up hb⟩
theorem PI.low {w0 W W' : World} {i : Ino} (h : PI w0 i W) (hb : Below (w0.heap.size + 1) W W') : PI w0 i W' := ⟨h.b.trans (hb.mono (by omega)), h.ino.below hb (by omega)⟩
theorem PI.start (w : World) (i : Ino) (hn : i.ns.length = 8) : PI w i (w.alloc (.cells (iA i) 24)) := ⟨(Below.refl _ _).alloc (Nat.le_refl _) _, ino_new w i hn⟩
set_option maxHeartbeats 4000000 in
theorem rput7_no (i : Ino) (hn : i.ns.length = 8) (hr : rtB i = false) (w : World) :
    Calls Try.prog 10 #[.agg (iA i)] w fun e w' => e = .returned (.tuple #[.slice none 0 0, .int .i64 1]) ∧ Below w.heap.size w w' := by
  have HX : Hid _ := PI.start w i hn
  have RT := rright7_any i hn
  rw [hr] at RT
  clear hn hr
  go_enter Try.func10, Try.ntmps10
  go_wp2_with (first | ((with_reducible show wpList _ _ _ ({ dst := _, op := Op.load 24 _, type := _, pos := _, after := _, guard := _ } :: _) _ _); refine wpList_load_ino rfl _ rfl (HX.out.ino) rfl ?_))
  refine (RT _).mono ?_
  rintro e w1 ⟨rfl, h1⟩
  go_wp2
  go_ret2
  exact ⟨rfl, (HX.out.up h1).b⟩
/-- The bytes up to the name k. -/
def upB (i : Ino) (k : Nat) : List UInt8 := headL i ++ layN (i.ns.take k)
theorem upB_length {i : Ino} (hn : i.ns.length = 8) {k : Nat} (hk : k ≤ 8) : (upB i k).length = 16 + 2 * k := by simp [upB, headL_length, layN_length, hn]; omega
theorem upB_step {i : Ino} (hn : i.ns.length = 8) {k : Nat} (hk : k < 8) : upB i k ++ leB 2 (i.ns.getD k 0).toNat = upB i (k + 1) := by
  have e : i.ns.getD k 0 = i.ns[k] := by simp [show k < i.ns.length by omega]
  unfold upB
  rw [List.take_succ_eq_append_getElem (by omega), layN_append, e]
  simp [layN]
theorem upB_all {i : Ino} (hn : i.ns.length = 8) : upB i 8 ++ List.replicate 32 0 = layI i := by
  unfold upB layI
  rw [List.take_of_length_le (by omega)]
attribute [local go_sem] wrapU
set_option maxRecDepth 100000 in
set_option maxHeartbeats 8000000 in
theorem rput7_yes (i : Ino) (hn : i.ns.length = 8) (hr : rtB i = true) (w : World) :
    Calls Try.prog 10 #[.agg (iA i)] w fun e w' => ∃ v, e = .returned (.tuple #[v, .int .i64 0]) ∧ Own w' w.heap.size v (layI i) ∧ Below w.heap.size w w' := by
  have HX0 : Hid _ := PI.start w i hn
  have RT := rright7_any i hn
  rw [hr] at RT
  have HR : Hid (InR i) := rtB_inR hr
  have HN : Hid (i.ns.length = 8) := hn
  have hk := HR.out.k
  obtain ⟨L, HL⟩ : ∃ n : Nat, Hid (i.l = (n : Int)) := ⟨i.l.toNat, by have := HR.out.l; show _ = _; omega⟩
  obtain ⟨S, HSS⟩ : ∃ n : Nat, Hid (i.s = (n : Int)) := ⟨i.s.toNat, by have := HR.out.s; show _ = _; omega⟩
  obtain ⟨D, HD⟩ : ∃ n : Nat, Hid (i.d = (n : Int)) := ⟨i.d.toNat, by have := HR.out.d; show _ = _; omega⟩
  have hL : L ≤ 1000 := by have := HR.out.l; rw [HL.out] at this; omega
  have hS : S ≤ 1066496 := by have := HR.out.s; rw [HSS.out] at this; omega
  have hD : D ≤ 4611686018427387904 := by have := HR.out.d; rw [HD.out] at this; omega
  have u1 : InU (L : Int) := ⟨by omega⟩
  have u2 : InU (S : Int) := ⟨by omega⟩
  have u3 : InU (D : Int) := ⟨by omega⟩
  have HH : Hid (([UInt8.ofNat i.k.toNat, 0] ++ leB 2 L) ++ leB 4 S ++ leB 8 D = headL i) := by
    show _ = _
    unfold headL
    rw [HL.out, HSS.out, HD.out, Int.toNat_natCast, Int.toNat_natCast, Int.toNat_natCast]
  obtain ⟨bk, HBK⟩ : ∃ b : UInt8, Hid (b = UInt8.ofNat i.k.toNat) := ⟨_, rfl⟩
  rw [← HBK.out] at HH
  have hbk : bv bk = .int .u8 i.k := by
    rw [HBK.out]; unfold bv; congr 1
    have : (UInt8.ofNat i.k.toNat).toNat = i.k.toNat := by simp; omega
    rw [this]; omega
  clear hr hn
  go_enter Try.func10, Try.ntmps10
  go_wp2_with (first | ((with_reducible show wpList _ _ _ ({ dst := _, op := Op.load 24 _, type := _, pos := _, after := _, guard := _ } :: _) _ _); refine wpList_load_ino rfl _ rfl (HX0.out.ino) rfl ?_))
  refine (RT _).mono ?_
  rintro e w1 ⟨rfl, h1⟩
  have HX1 : Hid (PI w i w1) := HX0.out.up h1
  clear RT HX0 h1
  have hl1 : w.heap.size < w1.heap.size := HX1.out.ino.lt
  have c0 := HX1.out.ino.c0
  have al : Below w1.heap.size w1 (w1.alloc (.cells (bvs [bk, 0]).toArray 5)) := (Below.refl _ _).alloc (Nat.le_refl _) _
  have hO2 : Own (w1.alloc (.cells (bvs [bk, 0]).toArray 5)) (w.heap.size + 1) (.slice (some ⟨w1.heap.size, 0, none⟩) 2 2) [bk, 0] := Blk.own (l := [bk, 0]) (heap_alloc_new _ _) (by omega) (by simp)
  have HX2 : Hid (PI w i (w1.alloc (.cells (bvs [bk, 0]).toArray 5))) := HX1.out.up al
  obtain ⟨w2, HW2⟩ : ∃ w2, Hid (w2 = w1.alloc (.cells (bvs [bk, 0]).toArray 5)) := ⟨_, rfl⟩
  have hcs : w2 = w1.alloc (.cells #[.int .u8 i.k, .int .u8 0] 5) := by rw [HW2.out, ← hbk]; rfl
  rw [← HW2.out] at hO2 HX2
  go_upto_region 4 with fail
  rw [← hcs]
  clear hcs HW2 al HX1 c0
  have hl2 : w.heap.size < w2.heap.size := HX2.out.ino.lt
  generalize Value.slice (some ⟨w1.heap.size, 0, none⟩) 2 2 = V2 at hO2 ⊢
  have HO2 : Hid (Own w2 (w.heap.size + 1) V2 [bk, 0]) := hO2
  clear hO2 hbk
  have c2 := HX2.out.ino.c1
  rw [HL.out] at c2
  have RB : Calls Try.prog 49 #[.int .u64 (L : Int), .int .i64 2] w2 fun e w' => ∃ v, e = .returned v ∧ Own w' w2.heap.size v (leB 2 L) ∧ Below w2.heap.size w2 w' := rbytes_any L 2 w2 (by omega) (by omega)
  go_wp2_with fail
  clear c2
  refine RB.mono ?_
  rintro e w2b ⟨v2, rfl, o2, b2⟩
  clear RB
  obtain ⟨p2, k2, rfl, s2, _, _, n2⟩ := o2.form
  rw [leB_length]
  have HX2b : Hid (PI w i w2b) := HX2.out.up b2
  have hl2b : w.heap.size < w2b.heap.size := HX2b.out.ino.lt
  have hs2 : Own w2b (w.heap.size + 1) V2 ([bk, 0]) := HO2.out.below b2 (Nat.le_refl _)
  clear o2 HO2
  go_upto_region 5 with (at_builtin; refine wpList_append_bytes rfl (.tmp 13) (.tmp 17) rfl (w.heap.size + 1) ([bk, 0]) (leB 2 L) _ rfl _ _ _ rfl (leB_length _ _).symm hs2 s2 (by omega) (by simp [leB_length]) n2 ?_; intro V3 w3 hO3 g3)
  have HX3 : Hid (PI w i w3) := HX2b.out.low g3
  have HO3 : Hid (Own w3 (w.heap.size + 1) V3 (([bk, 0]) ++ leB 2 L)) := hO3
  clear hs2 s2 b2 g3 n2 HX2 HX2b hl2b hO3
  have hl3 : w.heap.size < w3.heap.size := HX3.out.ino.lt
  have c3 := HX3.out.ino.c2
  rw [HSS.out] at c3
  have RB : Calls Try.prog 49 #[.int .u64 (S : Int), .int .i64 4] w3 fun e w' => ∃ v, e = .returned v ∧ Own w' w3.heap.size v (leB 4 S) ∧ Below w3.heap.size w3 w' := rbytes_any S 4 w3 (by omega) (by omega)
  go_wp2_with fail
  clear c3
  refine RB.mono ?_
  rintro e w3b ⟨v3, rfl, o3, b3⟩
  clear RB
  obtain ⟨p3, k3, rfl, s3, _, _, n3⟩ := o3.form
  rw [leB_length]
  have HX3b : Hid (PI w i w3b) := HX3.out.up b3
  have hl3b : w.heap.size < w3b.heap.size := HX3b.out.ino.lt
  have hs3 : Own w3b (w.heap.size + 1) V3 ([bk, 0] ++ leB 2 L) := HO3.out.below b3 (Nat.le_refl _)
  clear o3 HO3
  go_upto_region 6 with (at_builtin; refine wpList_append_bytes rfl (.tmp 19) (.tmp 23) rfl (w.heap.size + 1) ([bk, 0] ++ leB 2 L) (leB 4 S) _ rfl _ _ _ rfl (leB_length _ _).symm hs3 s3 (by omega) (by simp [leB_length]) n3 ?_; intro V4 w4 hO4 g4)
  have HX4 : Hid (PI w i w4) := HX3b.out.low g4
  have HO4 : Hid (Own w4 (w.heap.size + 1) V4 (([bk, 0] ++ leB 2 L) ++ leB 4 S)) := hO4
  clear hs3 s3 b3 g4 n3 HX3 HX3b hl3b hO4
  have hl4 : w.heap.size < w4.heap.size := HX4.out.ino.lt
  have c4 := HX4.out.ino.c3
  rw [HD.out] at c4
  have RB : Calls Try.prog 49 #[.int .u64 (D : Int), .int .i64 8] w4 fun e w' => ∃ v, e = .returned v ∧ Own w' w4.heap.size v (leB 8 D) ∧ Below w4.heap.size w4 w' := rbytes_any D 8 w4 (by omega) (by omega)
  go_wp2_with fail
  clear c4
  refine RB.mono ?_
  rintro e w4b ⟨v4, rfl, o4, b4⟩
  clear RB
  obtain ⟨p4, k4, rfl, s4, _, _, n4⟩ := o4.form
  rw [leB_length]
  have HX4b : Hid (PI w i w4b) := HX4.out.up b4
  have hl4b : w.heap.size < w4b.heap.size := HX4b.out.ino.lt
  have hs4 : Own w4b (w.heap.size + 1) V4 ([bk, 0] ++ leB 2 L ++ leB 4 S) := HO4.out.below b4 (Nat.le_refl _)
  clear o4 HO4
  go_wp2_with (at_builtin; refine wpList_append_bytes rfl (.tmp 25) (.tmp 29) rfl (w.heap.size + 1) ([bk, 0] ++ leB 2 L ++ leB 4 S) (leB 8 D) _ rfl _ _ _ rfl (leB_length _ _).symm hs4 s4 (by omega) (by simp [leB_length]) n4 ?_; intro V5 w5 hO5 g5)
  have HX5 : Hid (PI w i w5) := HX4b.out.low g5
  have HO5 : Hid (Own w5 (w.heap.size + 1) V5 (([bk, 0] ++ leB 2 L ++ leB 4 S) ++ leB 8 D)) := hO5
  clear hs4 s4 b4 g5 n4 HX4 HX4b hl4b hO5
  have hl5 : w.heap.size < w5.heap.size := HX5.out.ino.lt
  have HP : Hid (Own w5 (w.heap.size + 1) V5 (upB i 0)) := by
    have h := HO5.out
    rw [HH.out] at h
    have e : upB i 0 = headL i := by simp [upB, layN]
    rw [e]; exact h
  clear HO5 HH hl2 hl3 hl4
  go_loopw [4, 5] (fun v t wr => ∃ k : Nat, k ≤ 6 ∧ t = .int .i64 k ∧ Hid (Own wr (w.heap.size + 1) v (upB i k)) ∧ Hid (PI w i wr)) (fun _ t _ => 6 - (intOf t).toNat)
  case atStart => exact ⟨0, by omega, rfl, HP, HX5⟩
  case round =>
    clear HP HX5
    obtain ⟨k, hk6, rfl, HO, HXL⟩ := hrel
    have hlen := upB_length HN.out (k := k) (by omega)
    have hlw : w.heap.size < wr.heap.size := HXL.out.ino.lt
    by_cases hlt : (k : Int) < 6
    · have hx := HR.out.ns k
      obtain ⟨x, HX⟩ : ∃ n : Nat, Hid (i.ns.getD k 0 = (n : Int)) := ⟨(i.ns.getD k 0).toNat, by show _ = _; omega⟩
      have HST : Hid _ := upB_step HN.out (k := k) (by omega)
      have ck := HXL.out.ino.name k (by omega)
      rw [HX.out] at hx ck HST
      rw [Int.toNat_natCast] at HST
      have u4' : InU (x : Int) := ⟨by omega⟩
      have RB : Calls Try.prog 49 #[.int .u64 (x : Int), .int .i64 2] wr fun e w' => ∃ v, e = .returned v ∧ Own w' wr.heap.size v (leB 2 x) ∧ Below wr.heap.size wr w' := rbytes_any x 2 wr (by omega) (by omega)
      have HLN : Hid _ := hlen
      clear hlen
      go_wp2_with fail
      clear ck
      refine RB.mono ?_
      rintro e wb ⟨vb, rfl, ob, bb⟩
      clear RB
      obtain ⟨pb, kb, rfl, sb, _, _, nb⟩ := ob.form
      rw [leB_length]
      have HXb : Hid (PI w i wb) := HXL.out.up bb
      have hlb : w.heap.size < wb.heap.size := HXb.out.ino.lt
      have hsb := HO.out.below bb (Nat.le_refl _)
      clear ob HO
      go_wp2_with (at_builtin; refine wpList_append_bytes rfl (.tmp 35) (.tmp 41) rfl (w.heap.size + 1) (upB i k) (leB 2 x) _ rfl _ _ _ rfl (leB_length _ _).symm hsb sb (by omega) (by rw [HLN.out, leB_length]; omega) nb ?_; intro vn wn hOn gn)
      rw [HST.out] at hOn
      have HXn : Hid (PI w i wn) := HXb.out.low gn
      go_roundw
      case rel => exact ⟨k + 1, by omega, by go_num, hOn, HXn⟩
      case measure => simp [intOf]; omega
    · obtain rfl : k = 6 := by omega
      have hx6 := HR.out.ns 6
      have hx7 := HR.out.ns 7
      obtain ⟨x6, HX6⟩ : ∃ n : Nat, Hid (i.ns.getD 6 0 = (n : Int)) := ⟨(i.ns.getD 6 0).toNat, by show _ = _; omega⟩
      obtain ⟨x7, HX7⟩ : ∃ n : Nat, Hid (i.ns.getD 7 0 = (n : Int)) := ⟨(i.ns.getD 7 0).toNat, by show _ = _; omega⟩
      have HST6 : Hid _ := upB_step HN.out (k := 6) (by omega)
      have HST7 : Hid _ := upB_step HN.out (k := 7) (by omega)
      have q6 : ∀ W, InoAt W w.heap.size i → W.cell? ⟨w.heap.size, 10, none⟩ = some (.int .i64 x6) := fun W h => by rw [← HX6.out]; exact h.name 6 (by omega)
      have q7 : ∀ W, InoAt W w.heap.size i → W.cell? ⟨w.heap.size, 11, none⟩ = some (.int .i64 x7) := fun W h => by rw [← HX7.out]; exact h.name 7 (by omega)
      have HQ6 : Hid _ := q6
      have HQ7 : Hid _ := q7
      clear q6 q7
      rw [HX6.out] at hx6 HST6
      rw [HX7.out] at hx7 HST7
      rw [Int.toNat_natCast] at HST6 HST7
      have u6 : InU (x6 : Int) := ⟨by omega⟩
      have u7 : InU (x7 : Int) := ⟨by omega⟩
      have HLN : Hid _ := hlen
      clear hlen
      have HLN7 : Hid _ := upB_length HN.out (k := 7) (by omega)
      have HLN8 : Hid _ := upB_length HN.out (k := 8) (by omega)
      go_upto_region 11 with fail
      obtain ⟨w6, HW6⟩ : ∃ x, Hid (x = wr) := ⟨_, rfl⟩
      obtain ⟨V6, HV6⟩ : ∃ x, Hid (x = u4) := ⟨_, rfl⟩
      rw [← HW6.out] at HO HXL hlw ⊢
      have HO6 : Hid (Own w6 (w.heap.size + 1) V6 (upB i 6)) := by rw [HV6.out]; exact HO.out
      rw [← HV6.out]
      have HX6p : Hid (PI w i w6) := HXL
      clear HO HXL HV6 HW6
      have c6 := HQ6.out _ HX6p.out.ino
      have RB : Calls Try.prog 49 #[.int .u64 (x6 : Int), .int .i64 2] w6 fun e w' => ∃ v, e = .returned v ∧ Own w' w6.heap.size v (leB 2 x6) ∧ Below w6.heap.size w6 w' := rbytes_any x6 2 w6 (by omega) (by omega)
      go_wp2_with fail
      clear c6
      refine RB.mono ?_
      rintro e w6b ⟨v6, rfl, o6, b6⟩
      clear RB
      obtain ⟨p6, k6, rfl, s6, _, _, n6⟩ := o6.form
      rw [leB_length]
      have HX6b : Hid (PI w i w6b) := HX6p.out.up b6
      have hl6b : w.heap.size < w6b.heap.size := HX6b.out.ino.lt
      have hs6 : Own w6b (w.heap.size + 1) V6 (upB i 6) := HO6.out.below b6 (Nat.le_refl _)
      clear o6 HO6
      go_upto_region 12 with (at_builtin; refine wpList_append_bytes rfl (.tmp 43) (.tmp 47) rfl (w.heap.size + 1) (upB i 6) (leB 2 x6) _ rfl _ _ _ rfl (leB_length _ _).symm hs6 s6 (by omega) (by rw [HLN.out, leB_length]; omega) n6 ?_; intro V7 w7 hO7 g7)
      have HX7p : Hid (PI w i w7) := HX6b.out.low g7
      have HO7 : Hid (Own w7 (w.heap.size + 1) V7 (upB i 7)) := by rw [HST6.out] at hO7; exact hO7
      clear hs6 s6 b6 g7 n6 HX6p HX6b hl6b hO7
      have hl7 : w.heap.size < w7.heap.size := HX7p.out.ino.lt
      have c7 := HQ7.out _ HX7p.out.ino
      have RB : Calls Try.prog 49 #[.int .u64 (x7 : Int), .int .i64 2] w7 fun e w' => ∃ v, e = .returned v ∧ Own w' w7.heap.size v (leB 2 x7) ∧ Below w7.heap.size w7 w' := rbytes_any x7 2 w7 (by omega) (by omega)
      go_wp2_with fail
      clear c7
      refine RB.mono ?_
      rintro e w7b ⟨v7, rfl, o7, b7⟩
      clear RB
      obtain ⟨p7, k7, rfl, s7, _, _, n7⟩ := o7.form
      rw [leB_length]
      have HX7b : Hid (PI w i w7b) := HX7p.out.up b7
      have hl7b : w.heap.size < w7b.heap.size := HX7b.out.ino.lt
      have hs7 : Own w7b (w.heap.size + 1) V7 (upB i 7) := HO7.out.below b7 (Nat.le_refl _)
      clear o7 HO7
      go_wp2_with (at_builtin; refine wpList_append_bytes rfl (.tmp 49) (.tmp 53) rfl (w.heap.size + 1) (upB i 7) (leB 2 x7) _ rfl _ _ _ rfl (leB_length _ _).symm hs7 s7 (by omega) (by rw [HLN7.out, leB_length]; omega) n7 ?_; intro V8 w8 hO8 g8)
      have HX8 : Hid (PI w i w8) := HX7b.out.low g8
      have HO8 : Hid (Own w8 (w.heap.size + 1) V8 (upB i 8)) := by rw [HST7.out] at hO8; exact hO8
      clear hs7 s7 b7 g8 n7 HX7p HX7b hl7b hO8
      have hl8 : w.heap.size < w8.heap.size := HX8.out.ino.lt
      have HP8 : Hid (Own w8 (w.heap.size + 1) V8 (upB i 8 ++ List.replicate 0 0)) := by rw [List.replicate_zero, List.append_nil]; exact HO8.out
      clear HO8 HST6 HST7 HQ6 HQ7 HLN HLN7 u6 u7 hx6 hx7
      go_loopw [4] (fun v wr => ∃ k : Nat, 32 + k ≤ 64 ∧ Hid (Own wr (w.heap.size + 1) v (upB i 8 ++ List.replicate k 0)) ∧ Hid (PI w i wr)) (fun v _ => 64 - slen v)
      case atStart => exact ⟨0, by omega, HP8, HX8⟩
      case round =>
        clear HP8 HX8
        obtain ⟨k, hk, HO, HXL⟩ := hrel
        obtain ⟨ao, cap, rfl, _, _, _, _⟩ := HO.out.form
        have hlen : (upB i 8 ++ List.replicate k 0).length = 32 + k := by rw [List.length_append, HLN8.out, List.length_replicate]
        rw [hlen] at HO ⊢
        have HST : Hid _ := rep_step (upB i 8) k
        have hlw : w.heap.size < wr.heap.size := HXL.out.ino.lt
        by_cases hlt : ((32 + k : Nat) : Int) < 64
        · go_upto_region 14 with fail
          have hO := HO.out
          generalize Value.slice ao (32 + k) cap = V at hO ⊢
          clear HO
          go_wp2_with (at_builtin; refine wpList_append_bytes rfl (.tmp 58) (.tmp 59) rfl (w.heap.size + 1) _ [0] _ rfl _ _ _ rfl rfl (hO.below ((Below.refl _ _).alloc (Nat.le_refl _) _) (Nat.le_refl _)) (Blk.src (t := 5) (heap_alloc_new _ _)) (by simp; omega) (by rw [hlen]; simp; omega) (fun h => by cases h) ?_; intro v' wn hO1 hb1)
          rw [HST.out] at hO1
          obtain ⟨ao', cap', rfl, _⟩ := hO1.form
          have XN := (HXL.out.up ((Below.refl _ _).alloc (Nat.le_refl _) _)).low hb1
          go_roundw
          case rel => exact ⟨k + 1, by omega, hO1, XN⟩
          case measure => simp [slen, HLN8.out]; omega
        · obtain rfl : k = 32 := by omega
          rw [show 32 + 32 = 64 from rfl] at HO ⊢
          have HZ : Hid (Own wr (w.heap.size + 1) (.slice ao 64 cap) (layI i)) := by rw [← upB_all HN.out]; exact HO.out
          have HB := HXL.out.b
          clear HO HST
          go_wp2
          go_ret2
          exact ⟨_, rfl, HZ.out.mono (by omega), HB⟩
end Go.Proofs.Ytabmogeicpphoaa
/- leveeref07.Get. -/
namespace Go.Proofs.Ytabmogeicpphoaa
open Go.RowKit
theorem exec_build_four {ev : Operand → Value} {oi : Oper} {w : World} {x0 x1 x2 x3 : Operand} {k l s d : Int} (ho : oi.op = .build 24 #[(0, x0), (1, x1), (2, x2), (3, x3)])
    (e0 : ev x0 = .int .i64 k) (e1 : ev x1 = .int .i64 l) (e2 : ev x2 = .int .i64 s) (e3 : ev x3 = .int .i64 d) :
    (execOp ev oi).run Try.prog w = .ok (.value (.agg (iA ⟨k, l, s, d, [0, 0, 0, 0, 0, 0, 0, 0]⟩))) w := by
  have h : (Instr.build 24 #[(0, .int .i64 k), (1, .int .i64 l), (2, .int .i64 s), (3, .int .i64 d)]).run Try.prog w = .ok (.agg (iA ⟨k, l, s, d, [0, 0, 0, 0, 0, 0, 0, 0]⟩)) w := run_build w 24 _ _ (by kernel_rfl)
  unfold execOp
  simp only [ho, List.map_toArray, List.map_cons, List.map_nil, e0, e1, e2, e3, Sem.run_bind, h, Result.andThen_ok]
  rfl
/-- The bytes, and the place for the answer. -/
structure RG (w0 : World) (bb off : Nat) (l : List UInt8) (W : World) : Prop where
  b : Below w0.heap.size w0 W
  res : InoAt W w0.heap.size zino
  src : Src W (some ⟨bb, off, none⟩) l
  hl : l.length = 64
  lt : bb < w0.heap.size
section
variable {w0 W W' : World} {bb off q : Nat} {l : List UInt8}
theorem RG.up (h : RG w0 bb off l W) (hb : Below W.heap.size W W') : RG w0 bb off l W' := ⟨h.b.trans (hb.mono h.b.size), h.res.up hb, h.src.below hb (Nat.le_refl _), h.hl, h.lt⟩
theorem RG.only (h : RG w0 bb off l W) (ho : Only q W W') (hq : w0.heap.size < q) : RG w0 bb off l W' :=
  ⟨h.b.trans (ho.bel.mono (by omega)), h.res.only ho (by omega), h.src.only ho (fun b o e => by cases e; have := h.lt; omega), h.hl, h.lt⟩
theorem RG.c0 (h : RG w0 bb off l W) : W.cell? ⟨bb, off, none⟩ = some (.int .u8 (nth l 0)) := by
  have := h.src.cell 0 (by have := h.hl; omega)
  rw [bv_nth (by have := h.hl; omega)] at this
  exact this
end
theorem only_setCell (W : World) (q j : Nat) (x : Value) : Only q W (W.setCell ⟨q, j, none⟩ x) :=
  ⟨(Below.refl _ _).setCell (by simp) _, fun k hk => heap_setCell_other _ ⟨q, j, none⟩ k x hk⟩
/-- With the new inode at q. -/
structure RH (w0 : World) (bb off : Nat) (l : List UInt8) (q : Nat) (i : Ino) (W : World) : Prop where
  g : RG w0 bb off l W
  ino : InoAt W q i
  lq : w0.heap.size < q
theorem RH.up {w0 W W' : World} {bb off q : Nat} {l : List UInt8} {i : Ino} (h : RH w0 bb off l q i W) (hb : Below W.heap.size W W') : RH w0 bb off l q i W' := ⟨h.g.up hb, h.ino.up hb, h.lq⟩
/-- Another name. -/
theorem InoAt.set {W : World} {q : Nat} {k l s d : Int} {ns : List Int} (h : InoAt W q ⟨k, l, s, d, ns⟩) (j : Nat) (x : Int) : InoAt (W.setCell ⟨q, 4 + j, none⟩ (.int .i64 x)) q ⟨k, l, s, d, ns.set j x⟩ := by
  have hn : ns.length = 8 := h.ln
  refine ⟨?_, by simpa using hn⟩
  have e : iA ⟨k, l, s, d, ns.set j x⟩ = (iA ⟨k, l, s, d, ns⟩).setIfInBounds (4 + j) (.int .i64 x) := by
    have e1 : 4 + j = j + 1 + 1 + 1 + 1 := by omega
    rw [e1]
    simp [iA, iL, ivs]
  rw [e]
  exact heap_setCell_same W q (4 + j) _ _ _ h.row
theorem RH.set {w0 W : World} {bb off q : Nat} {l : List UInt8} {k l' s d : Int} {ns : List Int} (h : RH w0 bb off l q ⟨k, l', s, d, ns⟩ W) (j : Nat) (x : Int) : RH w0 bb off l q ⟨k, l', s, d, ns.set j x⟩ (W.setCell ⟨q, 4 + j, none⟩ (.int .i64 x)) :=
  ⟨h.g.only (only_setCell W q (4 + j) _) h.lq, h.ino.set j x, h.lq⟩
theorem str_beq (a b : List UInt8) : ((str a).toList == (str b).toList) = (a == b) := by
  rw [Bool.eq_iff_iff]
  constructor
  · intro h
    have h2 := beq_iff_eq.1 h
    have : a = b := by
      apply str_inj
      rw [ByteArray.toList_eq, ByteArray.toList_eq] at h2
      exact WideShapes.bytes_inj h2
    simp [this]
  · intro h
    rw [beq_iff_eq.1 h]; simp
set_option maxHeartbeats 4000000 in
theorem rget7_size (sp : Option Addr) (n cap : Nat) (hn : ¬ (n : Int) = 64) (w : World) :
    Calls Try.prog 13 #[.slice sp n cap] w fun e w' => e = .returned (.tuple #[.agg (iA zino), .int .i64 4]) ∧ Below w.heap.size w w' := by
  have hz := zeroI
  have HB : Hid (Below w.heap.size w (w.alloc (.cells (iA zino) 24))) := (Below.refl _ _).alloc (Nat.le_refl _) _
  have HI : Hid (InoAt (w.alloc (.cells (iA zino) 24)) w.heap.size zino) := ino_new w zino rfl
  go_enter Try.func13, Try.ntmps13
  go_wp2_with (first | ((with_reducible show wpList _ _ _ ({ dst := _, op := Op.store 24 _ _, type := _, pos := _, after := _, guard := _ } :: _) _ _); refine wpList_store_ino rfl _ _ rfl (HI.out) rfl rfl rfl ?_; intro w4 H4 b4 z4))
  exact bodyPost_ret (results_ino rfl _ H4 rfl) rfl ⟨rfl, HB.out.trans b4⟩
def getR (l : List UInt8) : Int := if formI l then 0 else 8
attribute [local go_sem] wrapI
set_option maxRecDepth 100000 in
set_option maxHeartbeats 8000000 in
theorem rget7_main (bb off cap : Nat) (l : List UInt8) (hl : l.length = 64) (w : World) (hsrc : Src w (some ⟨bb, off, none⟩) l) (hc : (64 : Int) ≤ cap) (hm : (cap : Int) ≤ 9223372036854775807) :
    Calls Try.prog 13 #[.slice (some ⟨bb, off, none⟩) 64 cap] w fun e w' => e = .returned (.tuple #[.agg (iA (getI l)), .int .i64 (getR l)]) ∧ Below w.heap.size w w' := by
  have hz := zeroI
  have hbb : bb < w.heap.size := by
    obtain ⟨b', off', h1, h2, _⟩ := hsrc.at' (by omega)
    cases h1; exact h2
  have hb0 : Below w.heap.size w (w.alloc (.cells (iA zino) 24)) := (Below.refl _ _).alloc (Nat.le_refl _) _
  have HG0 : Hid (RG w bb off l (w.alloc (.cells (iA zino) 24))) := ⟨hb0, ino_new w zino rfl, hsrc.below hb0 (Nat.le_refl _), hl, hbb⟩
  have NG : ∀ o n : Nat, 0 < n → n ≤ 8 → o + n ≤ 64 → ∀ W, Src W (some ⟨bb, off, none⟩) l → Calls Try.prog 51 #[.slice (some ⟨bb, off + o, none⟩) n (cap - o)] W fun e w' => e = .returned (.int .u64 (rdP l o n : Int)) ∧ w' = W := by
    intro o n h0 h8 ho W hW
    exact rgetn_any (some ⟨bb, off + o, none⟩) ((l.drop o).take n) n (cap - o) W (hW.part o n (by omega) (by omega)) (by simp [hl]; omega) h0 h8
  have HL : Hid (l.length = 64) := hl
  have hs2 := slice_sl bb off 64 cap 2 2 2 4 (by omega) (by omega) (by omega) (by omega)
  have hs4 := slice_sl bb off 64 cap 4 4 4 8 (by omega) (by omega) (by omega) (by omega)
  have hs8 := slice_sl bb off 64 cap 8 8 8 16 (by omega) (by omega) (by omega) (by omega)
  have n2 := NG 2 2 (by omega) (by omega) (by omega)
  have n4 := NG 4 4 (by omega) (by omega) (by omega)
  have n8 := NG 8 8 (by omega) (by omega) (by omega)
  have x2 := rdP_lt (l := l) (o := 2) (n := 2) HL.out (by omega) (by omega)
  have x4 := rdP_lt (l := l) (o := 4) (n := 4) HL.out (by omega) (by omega)
  have HRD : Hid (rdI l = ⟨nth l 0, rdP l 2 2, rdP l 4 4, IntKind.i64.wrap (rdP l 8 8 : Int), rdNs l⟩) := rfl
  have HNG : Hid _ := NG
  generalize rdP l 2 2 = A2 at n2 x2 HRD
  generalize rdP l 4 4 = A4 at n4 x4 HRD
  obtain ⟨D8, HD8⟩ : ∃ x, Hid (x = IntKind.i64.wrap (rdP l 8 8 : Int)) := ⟨_, rfl⟩
  rw [← HD8.out] at HRD
  have hcv : IntKind.i64.wrap (rdP l 8 8 : Int) = D8 := HD8.out.symm
  generalize rdP l 8 8 = A8 at n8 HD8 hcv
  have i2 : In64 (A2 : Int) := ⟨by omega⟩
  have i4 : In64 (A4 : Int) := ⟨by omega⟩
  have z0 := nth_lo l 0
  have z1 := nth_hi l 0
  have i0 : In64 (nth l 0) := ⟨by omega⟩
  clear hsrc hl hb0 NG
  go_enter Try.func13, Try.ntmps13
  go_upto_region 3 with fail
  have gd := HG0.out.up (Below.refl _ _).drew
  go_cut [4] (fun s4 wc => ∃ q, s4 = .pointer (some ⟨q, 0, none⟩) ∧ RH w bb off l q ⟨nth l 0, A2, A4, D8, [0, 0, 0, 0, 0, 0, 0, 0]⟩ wc)
  case first =>
    refine wp_region_held_drew (S := (fun W => RG w bb off l W)) (by kernel_rfl) gd (fun hH => ?_)
    generalize (w.alloc (.cells (iA zino) 24)).drew = W0 at *
    refine takeH (i := 0) (dst := some 12) (v := ?vt1) rfl rfl (by kernel_rfl) (by kernel_rfl) (by kernel_rfl) (fun _ _ _ h => h) rfl ?hyt1 hH rfl ?restt1
    case hyt1 => (intro W hW; have s1 := hW.c0; clear hW; go_simp; try with_reducible rfl)
    (try simp only [Act.put, List.setIfInBounds_toArray, List.set_cons_zero, List.set_cons_succ])
    refine takeH (i := 1) (dst := some 13) (v := ?vt2) rfl rfl (by kernel_rfl) (by kernel_rfl) (by kernel_rfl) (fun _ _ _ h => h) rfl ?hyt2 hH rfl ?restt2
    case hyt2 => (intro W hW; have s1 := hW.c0; clear hW; go_simp; try with_reducible rfl)
    (try simp only [Act.put, List.setIfInBounds_toArray, List.set_cons_zero, List.set_cons_succ])
    refine takeH (i := 2) (dst := some 14) (v := ?vt3) rfl rfl (by kernel_rfl) (by kernel_rfl) (by kernel_rfl) (fun _ _ _ h => h) rfl ?hyt3 hH rfl ?restt3
    case hyt3 => (intro W hW; have s1 := hW.c0; clear hW; go_simp; try with_reducible rfl)
    (try simp only [Act.put, List.setIfInBounds_toArray, List.set_cons_zero, List.set_cons_succ])
    refine takeH (i := 3) (dst := some 15) (v := ?vt4) rfl rfl (by kernel_rfl) (by kernel_rfl) (by kernel_rfl) (fun _ _ _ h => h) rfl ?hyt4 hH rfl ?restt4
    case hyt4 => (intro W hW; have s1 := hW.c0; clear hW; go_simp; try with_reducible rfl)
    (try simp only [Act.put, List.setIfInBounds_toArray, List.set_cons_zero, List.set_cons_succ])
    refine takeH (i := 4) (dst := some 16) (v := ?vt5) rfl rfl (by kernel_rfl) (by kernel_rfl) (by kernel_rfl) (fun _ _ _ h => h) rfl ?hyt5 hH rfl ?restt5
    case hyt5 => (intro W hW; have s1 := hW.c0; clear hW; go_simp; try with_reducible rfl)
    (try simp only [Act.put, List.setIfInBounds_toArray, List.set_cons_zero, List.set_cons_succ])
    refine takeH (i := 5) (dst := some 17) (v := ?vt6) rfl rfl (by kernel_rfl) (by kernel_rfl) (by kernel_rfl) (fun _ _ _ h => h) rfl ?hyt6 hH rfl ?restt6
    case hyt6 => (intro W hW; have s1 := hW.c0; clear hW; go_simp; try with_reducible rfl)
    (try simp only [Act.put, List.setIfInBounds_toArray, List.set_cons_zero, List.set_cons_succ])
    refine takeH (i := 8) (dst := some 20) (v := ?vt7) rfl rfl (by kernel_rfl) (by kernel_rfl) (by kernel_rfl) (fun _ _ _ h => h) rfl ?hyt7 hH rfl ?restt7
    case hyt7 => (intro W hW; have s1 := hW.c0; clear hW; go_simp; try with_reducible rfl)
    (try simp only [Act.put, List.setIfInBounds_toArray, List.set_cons_zero, List.set_cons_succ])
    refine takeH (i := 9) (dst := some 21) (v := ?vt8) rfl rfl (by kernel_rfl) (by kernel_rfl) (by kernel_rfl) (fun _ _ _ h => h) rfl ?hyt8 hH rfl ?restt8
    case hyt8 => (intro W hW; have s1 := hW.c0; clear hW; go_simp; try with_reducible rfl)
    (try simp only [Act.put, List.setIfInBounds_toArray, List.set_cons_zero, List.set_cons_succ])
    refine takeH (i := 12) (dst := some 24) (v := ?vt9) rfl rfl (by kernel_rfl) (by kernel_rfl) (by kernel_rfl) (fun _ _ _ h => h) rfl ?hyt9 hH rfl ?restt9
    case hyt9 => (intro W hW; have s1 := hW.c0; clear hW; go_simp; try with_reducible rfl)
    (try simp only [Act.put, List.setIfInBounds_toArray, List.set_cons_zero, List.set_cons_succ])
    refine takeH (i := 13) (dst := some 25) (v := ?vt10) rfl rfl (by kernel_rfl) (by kernel_rfl) (by kernel_rfl) (fun _ _ _ h => h) rfl ?hyt10 hH rfl ?restt10
    case hyt10 => (intro W hW; have s1 := hW.c0; clear hW; go_simp; try with_reducible rfl)
    (try simp only [Act.put, List.setIfInBounds_toArray, List.set_cons_zero, List.set_cons_succ])
    refine callH2 (i := 6) (j := 17) { dst := some 18, op := Go.Op.call { callee := Go.Callee.value (Go.Operand.func 51), args := #[Go.Operand.tmp 17], argTypes := #[25] }, type := 67, pos := "ref.go:49", after := #[{ on := 5, ground := Go.Ground.data }], guard := none } { dst := some 4, op := Go.Op.alloc 24, type := 0, pos := "ref.go:49", after := #[], guard := none } (by kernel_rfl) rfl rfl rfl rfl (fun K hK => ?_) (fun K hK => ?_)
    · go_simp
      refine (n2 _ gd.src).mono ?_
      rintro e v11 ⟨rfl, hv11⟩
      rw [hv11]
      clear hv11 v11
      refine hK.out _ _ gd (fun hH => ?_)
      clear hK K
      (try simp only [Act.put, List.setIfInBounds_toArray, List.set_cons_zero, List.set_cons_succ])
      refine takeH (i := 7) (dst := some 19) (v := ?vt12) rfl rfl (by kernel_rfl) (by kernel_rfl) (by kernel_rfl) (fun _ _ _ h => h) rfl ?hyt12 hH rfl ?restt12
      case hyt12 => (intro W hW; have s1 := hW.c0; clear hW; go_simp; try with_reducible rfl)
      (try simp only [Act.put, List.setIfInBounds_toArray, List.set_cons_zero, List.set_cons_succ])
      refine callH2 (i := 10) (j := 17) { dst := some 22, op := Go.Op.call { callee := Go.Callee.value (Go.Operand.func 51), args := #[Go.Operand.tmp 21], argTypes := #[25] }, type := 67, pos := "ref.go:49", after := #[{ on := 9, ground := Go.Ground.data }, { on := 6, ground := Go.Ground.chain }], guard := none } { dst := some 4, op := Go.Op.alloc 24, type := 0, pos := "ref.go:49", after := #[], guard := none } (by kernel_rfl) rfl rfl rfl rfl (fun K hK => ?_) (fun K hK => ?_)
      · go_simp
        refine (n4 _ gd.src).mono ?_
        rintro e v13 ⟨rfl, hv13⟩
        rw [hv13]
        clear hv13 v13
        refine hK.out _ _ gd (fun hH => ?_)
        clear hK K
        (try simp only [Act.put, List.setIfInBounds_toArray, List.set_cons_zero, List.set_cons_succ])
        refine takeH (i := 11) (dst := some 23) (v := ?vt14) rfl rfl (by kernel_rfl) (by kernel_rfl) (by kernel_rfl) (fun _ _ _ h => h) rfl ?hyt14 hH rfl ?restt14
        case hyt14 => (intro W hW; have s1 := hW.c0; clear hW; go_simp; try with_reducible rfl)
        (try simp only [Act.put, List.setIfInBounds_toArray, List.set_cons_zero, List.set_cons_succ])
        refine callH2 (i := 14) (j := 17) { dst := some 26, op := Go.Op.call { callee := Go.Callee.value (Go.Operand.func 51), args := #[Go.Operand.tmp 25], argTypes := #[25] }, type := 67, pos := "ref.go:49", after := #[{ on := 13, ground := Go.Ground.data }, { on := 10, ground := Go.Ground.chain }], guard := none } { dst := some 4, op := Go.Op.alloc 24, type := 0, pos := "ref.go:49", after := #[], guard := none } (by kernel_rfl) rfl rfl rfl rfl (fun K hK => ?_) (fun K hK => ?_)
        · go_simp
          refine (n8 _ gd.src).mono ?_
          rintro e v15 ⟨rfl, hv15⟩
          rw [hv15]
          clear hv15 v15
          refine hK.out _ _ gd (fun hH => ?_)
          clear hK K
          (try simp only [Act.put, List.setIfInBounds_toArray, List.set_cons_zero, List.set_cons_succ])
          refine takeH (i := 15) (dst := some 27) (v := ?vt16) rfl rfl (by kernel_rfl) (by kernel_rfl) (by kernel_rfl) (fun _ _ _ h => h) rfl ?hyt16 hH rfl ?restt16
          case hyt16 => (intro W hW; have s1 := hW.c0; clear hW; go_simp; try with_reducible rfl)
          (try simp only [Act.put, List.setIfInBounds_toArray, List.set_cons_zero, List.set_cons_succ])
          refine takeH (i := 16) (dst := some 28) (v := ?vt17) rfl rfl (by kernel_rfl) (by kernel_rfl) (by kernel_rfl) (fun _ _ _ h => h) rfl ?hyt17 hH rfl ?restt17
          case hyt17 => (intro W hW; refine exec_build_four (k := nth l 0) (l := A2) (s := A4) (d := D8) (x0 := Operand.tmp 15) (x1 := Operand.tmp 19) (x2 := Operand.tmp 23) (x3 := Operand.tmp 27) ?_ ?_ ?_ ?_ ?_ <;> rfl)
          (try simp only [Act.put, List.setIfInBounds_toArray, List.set_cons_zero, List.set_cons_succ])
          refine callH (i := 17) { dst := some 4, op := Go.Op.alloc 24, type := 0, pos := "ref.go:49", after := #[], guard := none } (by kernel_rfl) rfl rfl (fun K hK => ?_)
          go_simp
          have al18 : Below W0.heap.size W0 (W0.alloc (.cells (iA zino) 24)) := (Below.refl _ _).alloc (Nat.le_refl _) _
          have d18 := gd.up al18
          have n18_ : InoAt (W0.alloc (.cells (iA zino) 24)) W0.heap.size zino := ino_new _ zino rfl
          have lq18 := gd.res.lt
          clear hH al18
          refine hK.out _ _ d18 (fun hH => ?_)
          clear hK K
          (try simp only [Act.put, List.setIfInBounds_toArray, List.set_cons_zero, List.set_cons_succ])
          refine callH (i := 18) { dst := none, op := Go.Op.store 24 (Go.Operand.tmp 4) (Go.Operand.tmp 28), type := 0, pos := "ref.go:49", after := #[{ on := 17, ground := Go.Ground.data }, { on := 16, ground := Go.Ground.data }, { on := 14, ground := Go.Ground.chain }, { on := 0, ground := Go.Ground.phase }, { on := 1, ground := Go.Ground.phase }, { on := 2, ground := Go.Ground.phase }, { on := 3, ground := Go.Ground.phase }, { on := 4, ground := Go.Ground.phase }, { on := 5, ground := Go.Ground.phase }, { on := 6, ground := Go.Ground.phase }, { on := 7, ground := Go.Ground.phase }, { on := 8, ground := Go.Ground.phase }, { on := 9, ground := Go.Ground.phase }, { on := 10, ground := Go.Ground.phase }, { on := 11, ground := Go.Ground.phase }, { on := 12, ground := Go.Ground.phase }, { on := 13, ground := Go.Ground.phase }, { on := 14, ground := Go.Ground.phase }, { on := 15, ground := Go.Ground.phase }, { on := 16, ground := Go.Ground.phase }, { on := 17, ground := Go.Ground.phase }], guard := none } (by kernel_rfl) rfl rfl (fun K hK => ?_)
          rw [if_pos (by rfl)]
          refine wp_store_inoO _ _ rfl n18_ (j := ⟨nth l 0, A2, A4, D8, [0, 0, 0, 0, 0, 0, 0, 0]⟩) rfl rfl rfl ?_
          intro v19 h19_ o19 z19
          have d19 := d18.only o19 lq18
          clear hH o19 z19
          refine hK.out _ _ d19 (fun hH => ?_)
          clear hK K
          (try simp only [Act.put])
          refine wpAnyH_done (by kernel_rfl) ?_ _
          clear hH
          go_wp2_with fail
          go_meet
          case rel => exact ⟨_, rfl, ⟨d19, h19_, lq18⟩⟩
        · go_simp
          have al20 : Below W0.heap.size W0 (W0.alloc (.cells (iA zino) 24)) := (Below.refl _ _).alloc (Nat.le_refl _) _
          have d20 := gd.up al20
          have n20_ : InoAt (W0.alloc (.cells (iA zino) 24)) W0.heap.size zino := ino_new _ zino rfl
          have lq20 := gd.res.lt
          clear hH al20
          refine hK.out _ _ d20 (fun hH => ?_)
          clear hK K
          (try simp only [Act.put, List.setIfInBounds_toArray, List.set_cons_zero, List.set_cons_succ])
          refine callH (i := 14) { dst := some 26, op := Go.Op.call { callee := Go.Callee.value (Go.Operand.func 51), args := #[Go.Operand.tmp 25], argTypes := #[25] }, type := 67, pos := "ref.go:49", after := #[{ on := 13, ground := Go.Ground.data }, { on := 10, ground := Go.Ground.chain }], guard := none } (by kernel_rfl) rfl rfl (fun K hK => ?_)
          go_simp
          refine (n8 _ d20.src).mono ?_
          rintro e v21 ⟨rfl, hv21⟩
          rw [hv21]
          clear hv21 v21
          refine hK.out _ _ d20 (fun hH => ?_)
          clear hK K
          (try simp only [Act.put, List.setIfInBounds_toArray, List.set_cons_zero, List.set_cons_succ])
          refine takeH (i := 15) (dst := some 27) (v := ?vt22) rfl rfl (by kernel_rfl) (by kernel_rfl) (by kernel_rfl) (fun _ _ _ h => h) rfl ?hyt22 hH rfl ?restt22
          case hyt22 => (intro W hW; have s1 := hW.c0; clear hW; go_simp; try with_reducible rfl)
          (try simp only [Act.put, List.setIfInBounds_toArray, List.set_cons_zero, List.set_cons_succ])
          refine takeH (i := 16) (dst := some 28) (v := ?vt23) rfl rfl (by kernel_rfl) (by kernel_rfl) (by kernel_rfl) (fun _ _ _ h => h) rfl ?hyt23 hH rfl ?restt23
          case hyt23 => (intro W hW; refine exec_build_four (k := nth l 0) (l := A2) (s := A4) (d := D8) (x0 := Operand.tmp 15) (x1 := Operand.tmp 19) (x2 := Operand.tmp 23) (x3 := Operand.tmp 27) ?_ ?_ ?_ ?_ ?_ <;> rfl)
          (try simp only [Act.put, List.setIfInBounds_toArray, List.set_cons_zero, List.set_cons_succ])
          refine callH (i := 18) { dst := none, op := Go.Op.store 24 (Go.Operand.tmp 4) (Go.Operand.tmp 28), type := 0, pos := "ref.go:49", after := #[{ on := 17, ground := Go.Ground.data }, { on := 16, ground := Go.Ground.data }, { on := 14, ground := Go.Ground.chain }, { on := 0, ground := Go.Ground.phase }, { on := 1, ground := Go.Ground.phase }, { on := 2, ground := Go.Ground.phase }, { on := 3, ground := Go.Ground.phase }, { on := 4, ground := Go.Ground.phase }, { on := 5, ground := Go.Ground.phase }, { on := 6, ground := Go.Ground.phase }, { on := 7, ground := Go.Ground.phase }, { on := 8, ground := Go.Ground.phase }, { on := 9, ground := Go.Ground.phase }, { on := 10, ground := Go.Ground.phase }, { on := 11, ground := Go.Ground.phase }, { on := 12, ground := Go.Ground.phase }, { on := 13, ground := Go.Ground.phase }, { on := 14, ground := Go.Ground.phase }, { on := 15, ground := Go.Ground.phase }, { on := 16, ground := Go.Ground.phase }, { on := 17, ground := Go.Ground.phase }], guard := none } (by kernel_rfl) rfl rfl (fun K hK => ?_)
          rw [if_pos (by rfl)]
          refine wp_store_inoO _ _ rfl n20_ (j := ⟨nth l 0, A2, A4, D8, [0, 0, 0, 0, 0, 0, 0, 0]⟩) rfl rfl rfl ?_
          intro v24 h24_ o24 z24
          have d24 := d20.only o24 lq20
          clear hH o24 z24
          refine hK.out _ _ d24 (fun hH => ?_)
          clear hK K
          (try simp only [Act.put])
          refine wpAnyH_done (by kernel_rfl) ?_ _
          clear hH
          go_wp2_with fail
          go_meet
          case rel => exact ⟨_, rfl, ⟨d24, h24_, lq20⟩⟩
      · go_simp
        have al25 : Below W0.heap.size W0 (W0.alloc (.cells (iA zino) 24)) := (Below.refl _ _).alloc (Nat.le_refl _) _
        have d25 := gd.up al25
        have n25_ : InoAt (W0.alloc (.cells (iA zino) 24)) W0.heap.size zino := ino_new _ zino rfl
        have lq25 := gd.res.lt
        clear hH al25
        refine hK.out _ _ d25 (fun hH => ?_)
        clear hK K
        (try simp only [Act.put, List.setIfInBounds_toArray, List.set_cons_zero, List.set_cons_succ])
        refine callH (i := 10) { dst := some 22, op := Go.Op.call { callee := Go.Callee.value (Go.Operand.func 51), args := #[Go.Operand.tmp 21], argTypes := #[25] }, type := 67, pos := "ref.go:49", after := #[{ on := 9, ground := Go.Ground.data }, { on := 6, ground := Go.Ground.chain }], guard := none } (by kernel_rfl) rfl rfl (fun K hK => ?_)
        go_simp
        refine (n4 _ d25.src).mono ?_
        rintro e v26 ⟨rfl, hv26⟩
        rw [hv26]
        clear hv26 v26
        refine hK.out _ _ d25 (fun hH => ?_)
        clear hK K
        (try simp only [Act.put, List.setIfInBounds_toArray, List.set_cons_zero, List.set_cons_succ])
        refine takeH (i := 11) (dst := some 23) (v := ?vt27) rfl rfl (by kernel_rfl) (by kernel_rfl) (by kernel_rfl) (fun _ _ _ h => h) rfl ?hyt27 hH rfl ?restt27
        case hyt27 => (intro W hW; have s1 := hW.c0; clear hW; go_simp; try with_reducible rfl)
        (try simp only [Act.put, List.setIfInBounds_toArray, List.set_cons_zero, List.set_cons_succ])
        refine callH (i := 14) { dst := some 26, op := Go.Op.call { callee := Go.Callee.value (Go.Operand.func 51), args := #[Go.Operand.tmp 25], argTypes := #[25] }, type := 67, pos := "ref.go:49", after := #[{ on := 13, ground := Go.Ground.data }, { on := 10, ground := Go.Ground.chain }], guard := none } (by kernel_rfl) rfl rfl (fun K hK => ?_)
        go_simp
        refine (n8 _ d25.src).mono ?_
        rintro e v28 ⟨rfl, hv28⟩
        rw [hv28]
        clear hv28 v28
        refine hK.out _ _ d25 (fun hH => ?_)
        clear hK K
        (try simp only [Act.put, List.setIfInBounds_toArray, List.set_cons_zero, List.set_cons_succ])
        refine takeH (i := 15) (dst := some 27) (v := ?vt29) rfl rfl (by kernel_rfl) (by kernel_rfl) (by kernel_rfl) (fun _ _ _ h => h) rfl ?hyt29 hH rfl ?restt29
        case hyt29 => (intro W hW; have s1 := hW.c0; clear hW; go_simp; try with_reducible rfl)
        (try simp only [Act.put, List.setIfInBounds_toArray, List.set_cons_zero, List.set_cons_succ])
        refine takeH (i := 16) (dst := some 28) (v := ?vt30) rfl rfl (by kernel_rfl) (by kernel_rfl) (by kernel_rfl) (fun _ _ _ h => h) rfl ?hyt30 hH rfl ?restt30
        case hyt30 => (intro W hW; refine exec_build_four (k := nth l 0) (l := A2) (s := A4) (d := D8) (x0 := Operand.tmp 15) (x1 := Operand.tmp 19) (x2 := Operand.tmp 23) (x3 := Operand.tmp 27) ?_ ?_ ?_ ?_ ?_ <;> rfl)
        (try simp only [Act.put, List.setIfInBounds_toArray, List.set_cons_zero, List.set_cons_succ])
        refine callH (i := 18) { dst := none, op := Go.Op.store 24 (Go.Operand.tmp 4) (Go.Operand.tmp 28), type := 0, pos := "ref.go:49", after := #[{ on := 17, ground := Go.Ground.data }, { on := 16, ground := Go.Ground.data }, { on := 14, ground := Go.Ground.chain }, { on := 0, ground := Go.Ground.phase }, { on := 1, ground := Go.Ground.phase }, { on := 2, ground := Go.Ground.phase }, { on := 3, ground := Go.Ground.phase }, { on := 4, ground := Go.Ground.phase }, { on := 5, ground := Go.Ground.phase }, { on := 6, ground := Go.Ground.phase }, { on := 7, ground := Go.Ground.phase }, { on := 8, ground := Go.Ground.phase }, { on := 9, ground := Go.Ground.phase }, { on := 10, ground := Go.Ground.phase }, { on := 11, ground := Go.Ground.phase }, { on := 12, ground := Go.Ground.phase }, { on := 13, ground := Go.Ground.phase }, { on := 14, ground := Go.Ground.phase }, { on := 15, ground := Go.Ground.phase }, { on := 16, ground := Go.Ground.phase }, { on := 17, ground := Go.Ground.phase }], guard := none } (by kernel_rfl) rfl rfl (fun K hK => ?_)
        rw [if_pos (by rfl)]
        refine wp_store_inoO _ _ rfl n25_ (j := ⟨nth l 0, A2, A4, D8, [0, 0, 0, 0, 0, 0, 0, 0]⟩) rfl rfl rfl ?_
        intro v31 h31_ o31 z31
        have d31 := d25.only o31 lq25
        clear hH o31 z31
        refine hK.out _ _ d31 (fun hH => ?_)
        clear hK K
        (try simp only [Act.put])
        refine wpAnyH_done (by kernel_rfl) ?_ _
        clear hH
        go_wp2_with fail
        go_meet
        case rel => exact ⟨_, rfl, ⟨d31, h31_, lq25⟩⟩
    · go_simp
      have al32 : Below W0.heap.size W0 (W0.alloc (.cells (iA zino) 24)) := (Below.refl _ _).alloc (Nat.le_refl _) _
      have d32 := gd.up al32
      have n32_ : InoAt (W0.alloc (.cells (iA zino) 24)) W0.heap.size zino := ino_new _ zino rfl
      have lq32 := gd.res.lt
      clear hH al32
      refine hK.out _ _ d32 (fun hH => ?_)
      clear hK K
      (try simp only [Act.put, List.setIfInBounds_toArray, List.set_cons_zero, List.set_cons_succ])
      refine callH (i := 6) { dst := some 18, op := Go.Op.call { callee := Go.Callee.value (Go.Operand.func 51), args := #[Go.Operand.tmp 17], argTypes := #[25] }, type := 67, pos := "ref.go:49", after := #[{ on := 5, ground := Go.Ground.data }], guard := none } (by kernel_rfl) rfl rfl (fun K hK => ?_)
      go_simp
      refine (n2 _ d32.src).mono ?_
      rintro e v33 ⟨rfl, hv33⟩
      rw [hv33]
      clear hv33 v33
      refine hK.out _ _ d32 (fun hH => ?_)
      clear hK K
      (try simp only [Act.put, List.setIfInBounds_toArray, List.set_cons_zero, List.set_cons_succ])
      refine takeH (i := 7) (dst := some 19) (v := ?vt34) rfl rfl (by kernel_rfl) (by kernel_rfl) (by kernel_rfl) (fun _ _ _ h => h) rfl ?hyt34 hH rfl ?restt34
      case hyt34 => (intro W hW; have s1 := hW.c0; clear hW; go_simp; try with_reducible rfl)
      (try simp only [Act.put, List.setIfInBounds_toArray, List.set_cons_zero, List.set_cons_succ])
      refine callH (i := 10) { dst := some 22, op := Go.Op.call { callee := Go.Callee.value (Go.Operand.func 51), args := #[Go.Operand.tmp 21], argTypes := #[25] }, type := 67, pos := "ref.go:49", after := #[{ on := 9, ground := Go.Ground.data }, { on := 6, ground := Go.Ground.chain }], guard := none } (by kernel_rfl) rfl rfl (fun K hK => ?_)
      go_simp
      refine (n4 _ d32.src).mono ?_
      rintro e v35 ⟨rfl, hv35⟩
      rw [hv35]
      clear hv35 v35
      refine hK.out _ _ d32 (fun hH => ?_)
      clear hK K
      (try simp only [Act.put, List.setIfInBounds_toArray, List.set_cons_zero, List.set_cons_succ])
      refine takeH (i := 11) (dst := some 23) (v := ?vt36) rfl rfl (by kernel_rfl) (by kernel_rfl) (by kernel_rfl) (fun _ _ _ h => h) rfl ?hyt36 hH rfl ?restt36
      case hyt36 => (intro W hW; have s1 := hW.c0; clear hW; go_simp; try with_reducible rfl)
      (try simp only [Act.put, List.setIfInBounds_toArray, List.set_cons_zero, List.set_cons_succ])
      refine callH (i := 14) { dst := some 26, op := Go.Op.call { callee := Go.Callee.value (Go.Operand.func 51), args := #[Go.Operand.tmp 25], argTypes := #[25] }, type := 67, pos := "ref.go:49", after := #[{ on := 13, ground := Go.Ground.data }, { on := 10, ground := Go.Ground.chain }], guard := none } (by kernel_rfl) rfl rfl (fun K hK => ?_)
      go_simp
      refine (n8 _ d32.src).mono ?_
      rintro e v37 ⟨rfl, hv37⟩
      rw [hv37]
      clear hv37 v37
      refine hK.out _ _ d32 (fun hH => ?_)
      clear hK K
      (try simp only [Act.put, List.setIfInBounds_toArray, List.set_cons_zero, List.set_cons_succ])
      refine takeH (i := 15) (dst := some 27) (v := ?vt38) rfl rfl (by kernel_rfl) (by kernel_rfl) (by kernel_rfl) (fun _ _ _ h => h) rfl ?hyt38 hH rfl ?restt38
      case hyt38 => (intro W hW; have s1 := hW.c0; clear hW; go_simp; try with_reducible rfl)
      (try simp only [Act.put, List.setIfInBounds_toArray, List.set_cons_zero, List.set_cons_succ])
      refine takeH (i := 16) (dst := some 28) (v := ?vt39) rfl rfl (by kernel_rfl) (by kernel_rfl) (by kernel_rfl) (fun _ _ _ h => h) rfl ?hyt39 hH rfl ?restt39
      case hyt39 => (intro W hW; refine exec_build_four (k := nth l 0) (l := A2) (s := A4) (d := D8) (x0 := Operand.tmp 15) (x1 := Operand.tmp 19) (x2 := Operand.tmp 23) (x3 := Operand.tmp 27) ?_ ?_ ?_ ?_ ?_ <;> rfl)
      (try simp only [Act.put, List.setIfInBounds_toArray, List.set_cons_zero, List.set_cons_succ])
      refine callH (i := 18) { dst := none, op := Go.Op.store 24 (Go.Operand.tmp 4) (Go.Operand.tmp 28), type := 0, pos := "ref.go:49", after := #[{ on := 17, ground := Go.Ground.data }, { on := 16, ground := Go.Ground.data }, { on := 14, ground := Go.Ground.chain }, { on := 0, ground := Go.Ground.phase }, { on := 1, ground := Go.Ground.phase }, { on := 2, ground := Go.Ground.phase }, { on := 3, ground := Go.Ground.phase }, { on := 4, ground := Go.Ground.phase }, { on := 5, ground := Go.Ground.phase }, { on := 6, ground := Go.Ground.phase }, { on := 7, ground := Go.Ground.phase }, { on := 8, ground := Go.Ground.phase }, { on := 9, ground := Go.Ground.phase }, { on := 10, ground := Go.Ground.phase }, { on := 11, ground := Go.Ground.phase }, { on := 12, ground := Go.Ground.phase }, { on := 13, ground := Go.Ground.phase }, { on := 14, ground := Go.Ground.phase }, { on := 15, ground := Go.Ground.phase }, { on := 16, ground := Go.Ground.phase }, { on := 17, ground := Go.Ground.phase }], guard := none } (by kernel_rfl) rfl rfl (fun K hK => ?_)
      rw [if_pos (by rfl)]
      refine wp_store_inoO _ _ rfl n32_ (j := ⟨nth l 0, A2, A4, D8, [0, 0, 0, 0, 0, 0, 0, 0]⟩) rfl rfl rfl ?_
      intro v40 h40_ o40 z40
      have d40 := d32.only o40 lq32
      clear hH o40 z40
      refine hK.out _ _ d40 (fun hH => ?_)
      clear hK K
      (try simp only [Act.put])
      refine wpAnyH_done (by kernel_rfl) ?_ _
      clear hH
      go_wp2_with fail
      go_meet
      case rel => exact ⟨_, rfl, ⟨d40, h40_, lq32⟩⟩
  case rest =>
    obtain ⟨q, rfl, hr⟩ := hcut
    have HR : Hid _ := hr
    clear hr gd hs2 hs4 hs8 n2 n4 n8 HG0 hcv HD8
    go_wp2_with fail
    go_loopw [5] (fun t wr => ∃ k : Nat, k ≤ 6 ∧ t = .int .i64 k ∧ RH w bb off l q ⟨nth l 0, A2, A4, D8, upN l k⟩ wr) (fun t _ => 6 - (intOf t).toNat)
    case atStart => exact ⟨0, by omega, rfl, HR.out⟩
    case round =>
      obtain ⟨k, hk6, rfl, hrh⟩ := hrel
      have HRH : Hid _ := hrh
      clear hrh HR
      by_cases hlt : (k : Int) < 6
      · have hsl := slice_sl bb off 64 cap (16 + 2 * k) 2 (16 + 2 * (k : Int)) (18 + 2 * (k : Int)) (by omega) (by omega) (by omega) (by omega)
        have hx := rdP_lt (l := l) (o := 16 + 2 * k) (n := 2) HL.out (by omega) (by omega)
        have HU : Hid _ := upN_set l k (by omega)
        unfold rdNm at HU
        have HN2 : Hid _ := HNG.out (16 + 2 * k) 2 (by omega) (by omega) (by omega)
        generalize rdP l (16 + 2 * k) 2 = x at hx HU HN2
        have i1 : In64 (x : Int) := ⟨by omega⟩
        go_wp2_with fail
        refine (HN2.out _ HRH.out.g.src).mono ?_
        rintro e v8 ⟨rfl, hv8⟩
        rw [hv8]
        clear hv8 v8
        have rc := HRH.out.ino.name k (by omega)
        have rf := HRH.out.ino.frozen (4 + k)
        have H9 : Hid (RH w bb off l q ⟨nth l 0, A2, A4, D8, upN l (k + 1)⟩ (wr.setCell ⟨q, 4 + k, none⟩ (.int .i64 x))) := by
          have := HRH.out.set k (x : Int)
          rw [HU.out] at this
          exact this
        generalize (upN l k).getD k 0 = old at rc
        clear HRH HN2 HU
        go_wp2_with fail
        go_roundw
        case rel => exact ⟨k + 1, by omega, by go_num, H9.out⟩
        case measure => simp [intOf]; omega
      · obtain rfl : k = 6 := by omega
        have hs28 := slice_sl bb off 64 cap 28 2 28 30 (by omega) (by omega) (by omega) (by omega)
        have hs30 := slice_sl bb off 64 cap 30 2 30 32 (by omega) (by omega) (by omega) (by omega)
        have y6 := rdP_lt (l := l) (o := 28) (n := 2) HL.out (by omega) (by omega)
        have y7 := rdP_lt (l := l) (o := 30) (n := 2) HL.out (by omega) (by omega)
        have n6 := HNG.out 28 2 (by omega) (by omega) (by omega)
        have n7 := HNG.out 30 2 (by omega) (by omega) (by omega)
        have HU : Hid (((upN l 6).set 6 (rdP l 28 2 : Int)).set 7 (rdP l 30 2 : Int) = rdNs l) := by
          have a := upN_set l 6 (by omega)
          have b := upN_set l 7 (by omega)
          rw [← a] at b
          have e : upN l 8 = rdNs l := by simp [upN, rdNs]
          rw [← e]
          exact b
        generalize rdP l 28 2 = B6 at y6 n6 HU
        generalize rdP l 30 2 = B7 at y7 n7 HU
        have i6 : In64 (B6 : Int) := ⟨by omega⟩
        have i7 : In64 (B7 : Int) := ⟨by omega⟩
        have rc6 : wr.cell? ⟨q, 10, none⟩ = some (.int .i64 ((upN l 6).getD 6 0)) := HRH.out.ino.name 6 (by omega)
        have rf6 := HRH.out.ino.frozen 10
        have HA : Hid (RH w bb off l q ⟨nth l 0, A2, A4, D8, (upN l 6).set 6 (B6 : Int)⟩ (wr.setCell ⟨q, 10, none⟩ (.int .i64 B6))) := HRH.out.set 6 (B6 : Int)
        generalize (upN l 6).getD 6 0 = old6 at rc6
        go_upto_region 8 with fail
        go_wp2_with fail
        refine (n6 _ HRH.out.g.src).mono ?_
        rintro e v8 ⟨rfl, hv8⟩
        rw [hv8]
        clear hv8 v8
        go_upto_region 9 with fail
        generalize wr.setCell ⟨q, 10, none⟩ (.int .i64 B6) = wr2 at *
        have rc7 : wr2.cell? ⟨q, 11, none⟩ = some (.int .i64 (((upN l 6).set 6 (B6 : Int)).getD 7 0)) := HA.out.ino.name 7 (by omega)
        have rf7 := HA.out.ino.frozen 11
        have HB : Hid (RH w bb off l q (rdI l) (wr2.setCell ⟨q, 11, none⟩ (.int .i64 B7))) := by
          have := HA.out.set 7 (B7 : Int)
          rw [HU.out, ← HRD.out] at this
          exact this
        generalize ((upN l 6).set 6 (B6 : Int)).getD 7 0 = old7 at rc7
        clear HRH rc6 rf6 n6
        go_wp2_with fail
        refine (n7 _ HA.out.g.src).mono ?_
        rintro e v9 ⟨rfl, hv9⟩
        rw [hv9]
        clear hv9 v9
        go_upto_region 10 with fail
        generalize wr2.setCell ⟨q, 11, none⟩ (.int .i64 B7) = wr3 at *
        clear HA HU n7 hs28 hs30 rc7 rf7 HNG i6 i7
        have hlq := HB.out.lq
        have E1 : Hid (formI l = false → Ending.returned (.tuple #[.agg (iA zino), .int .i64 8]) = .returned (.tuple #[.agg (iA (getI l)), .int .i64 (getR l)])) := fun h => by rw [getI, getR, h]; rfl
        have E2 : Hid (formI l = true → Ending.returned (.tuple #[.agg (iA (rdI l)), .int .i64 0]) = .returned (.tuple #[.agg (iA (getI l)), .int .i64 (getR l)])) := fun h => by rw [getI, getR, h]; rfl
        cases hrt : rtB (rdI l)
        · have HF : Hid (formI l = false) := by show _ = _; unfold formI; rw [hrt]; rfl
          have PN := rput7_no (rdI l) (rdI_length l) hrt
          go_wp2_with (first | ((with_reducible show wpList _ _ _ ({ dst := _, op := Op.load 24 _, type := _, pos := _, after := _, guard := _ } :: _) _ _); refine wpList_load_ino rfl _ rfl (HB.out.ino) rfl ?_))
          refine (PN _).mono ?_
          rintro e v1 ⟨rfl, h1⟩
          have HC : Hid _ := HB.out.up h1
          clear HB h1 PN
          go_wp2_with (first | ((with_reducible show wpList _ _ _ ({ dst := _, op := Op.store 24 _ _, type := _, pos := _, after := _, guard := _ } :: _) _ _); refine wpList_store_ino rfl _ _ rfl (HC.out.g.res) rfl rfl rfl ?_; intro w7 H7 b7 z7))
          exact bodyPost_ret (results_ino (u := 3) rfl _ H7 rfl) rfl ⟨E1.out HF.out, HC.out.g.b.trans b7⟩
        · have PY := rput7_yes (rdI l) (rdI_length l) hrt
          have HLL : Hid ((layI (rdI l)).length = 64) := layI_length (rdI_length l)
          have HRL : Hid ((rdI l).ns.length = 8) := rdI_length l
          go_wp2_with (first | ((with_reducible show wpList _ _ _ ({ dst := _, op := Op.load 24 _, type := _, pos := _, after := _, guard := _ } :: _) _ _); refine wpList_load_ino rfl _ rfl (HB.out.ino) rfl ?_))
          refine (PY _).mono ?_
          rintro e v1 ⟨v, rfl, ho, h1⟩
          have HC : Hid _ := HB.out.up h1
          obtain ⟨ao, cap', rfl, hso, _, _, _⟩ := ho.form
          rw [HLL.out]
          have k1 := conv_str hso 64 cap' HLL.out.symm
          have k2 := conv_str HC.out.g.src 64 cap HL.out.symm
          have kb := str_beq (layI (rdI l)) l
          clear HB h1 PY ho hso
          have HF : Hid (formI l = (layI (rdI l) == l)) := by show _ = _; unfold formI; rw [hrt]; rfl
          clear hrt
          cases hne : (layI (rdI l) == l)
          · rw [hne] at kb HF
            clear hne
            go_wp2_with (first | ((with_reducible show wpList _ _ _ ({ dst := _, op := Op.store 24 _ _, type := _, pos := _, after := _, guard := _ } :: _) _ _); refine wpList_store_ino rfl _ _ rfl (HC.out.g.res) rfl rfl rfl ?_; intro w7 H7 b7 z7))
            exact bodyPost_ret (results_ino (u := 3) rfl _ H7 rfl) rfl ⟨E1.out HF.out, HC.out.g.b.trans b7⟩
          · rw [hne] at kb HF
            clear hne
            go_wp2_with (first | ((with_reducible show wpList _ _ _ ({ dst := _, op := Op.load 24 _, type := _, pos := _, after := _, guard := _ } :: _) _ _); refine wpList_load_ino rfl _ rfl (HC.out.ino) rfl ?_) | ((with_reducible show wpList _ _ _ ({ dst := _, op := Op.store 24 _ _, type := _, pos := _, after := _, guard := _ } :: _) _ _); refine wpList_store_ino rfl _ _ rfl (HC.out.g.res) HRL.out rfl rfl ?_; intro w7 H7 b7 z7))
            exact bodyPost_ret (results_ino (u := 3) rfl _ H7 rfl) rfl ⟨E2.out HF.out, HC.out.g.b.trans b7⟩
theorem rget7_any (sp : Option Addr) (cap : Nat) (l : List UInt8) (w : World) (ha : Arg w sp cap l) :
    Calls Try.prog 13 #[.slice sp l.length cap] w fun e w' => e = .returned (.tuple #[.agg (iA (getV l)), .int .i64 (getE l)]) ∧ Below w.heap.size w w' := by
  by_cases hl : l.length = 64
  · have la := ha.len
    obtain ⟨b, off, rfl, _, _⟩ := ha.src.at' (by omega)
    unfold getV getE
    rw [if_pos hl, if_pos hl]
    have := rget7_main b off cap l hl w ha.src (by omega) (by omega)
    rw [hl]
    exact this
  · unfold getV getE
    rw [if_neg hl, if_neg hl]
    exact rget7_size sp l.length cap (by omega) w
end Go.Proofs.Ytabmogeicpphoaa
/- Slices of numbers: append; Ints. -/
namespace Go.Proofs.Ytabmogeicpphoaa
open Go.RowKit
theorem Try.infoI : (Try.prog.info? 3).map (fun i => (i.zero, i.size, i.bytes)) = some (some (.int .i64 0), 1, 8) := by kernel_rfl
/-- From the address sp on lie the numbers l. -/
def SrcI (w : World) (sp : Option Addr) (l : List Int) : Prop :=
  l = [] ∨ ∃ b off, sp = some ⟨b, off, none⟩ ∧ b < w.heap.size ∧ ∀ j, j < l.length → w.cell? ⟨b, off + j, none⟩ = some (.int .i64 (l.getD j 0))
theorem SrcI.below {w w' : World} {sp : Option Addr} {l : List Int} (h : SrcI w sp l) {B : Nat} (hb : Below B w w') (hB : w.heap.size ≤ B) : SrcI w' sp l := by
  rcases h with h | ⟨b, off, h1, h2, h3⟩
  · exact .inl h
  · exact .inr ⟨b, off, h1, by have := hb.size; omega, fun j hj => (hb.cell (p := ⟨b, off + j, none⟩) (show b < B by omega)).trans (h3 j hj)⟩
theorem SrcI.nil (w : World) (sp : Option Addr) : SrcI w sp [] := .inl rfl
theorem SrcI.row {w : World} {g : Nat} {t : TypeId} {l : List Int} (h : RowI w g t l) : SrcI w (some ⟨g, 0, none⟩) l :=
  .inr ⟨g, 0, rfl, h.lt, fun j hj => by rw [Nat.zero_add]; exact h.cell j hj⟩
/-- The slice v is the call's own, and its numbers are l. -/
def OwnI (w : World) (base : Nat) (v : Value) (l : List Int) : Prop := w.ownsRow base 3 1 v l.length (ivs l)
theorem OwnI.nil (w : World) (base : Nat) : OwnI w base (.slice none 0 0) [] := World.ownsRow_nil _ _ _ _
theorem OwnI.form {w : World} {base : Nat} {v : Value} {l : List Int} (h : OwnI w base v l) : ∃ ao cap, v = .slice ao l.length cap ∧ SrcI w ao l ∧ l.length ≤ cap ∧ (cap : Int) ≤ 9223372036854775807 ∧ (ao = none → cap = 0) := by
  obtain ⟨h1, h2⟩ := h
  rcases h2 with ⟨rfl, h3⟩ | ⟨g, cap, cur, rfl, hg, hh, hn, hm, hs, hx⟩
  · obtain rfl : l = [] := List.eq_nil_of_length_eq_zero h3
    exact ⟨none, 0, rfl, SrcI.nil _ _, by simp, by omega, fun _ => rfl⟩
  · refine ⟨some ⟨g, 0, none⟩, cap, rfl, .inr ⟨g, 0, rfl, (Array.getElem?_eq_some_iff.1 hh).1, fun j hj => ?_⟩, hn, by unfold maxLen at hm; omega, fun h => by cases h⟩
    rw [Nat.zero_add, cell_of_row w g j _ _ _ hh]
    have e : (cur.toList.take (l.length * 1))[j]? = (ivs l)[j]? := by rw [hx]
    rw [List.getElem?_take] at e
    simp only [Nat.mul_one, hj, if_true] at e
    simpa [ivs, hj] using e
theorem OwnI.lt {w : World} {base : Nat} {v : Value} {l : List Int} (h : OwnI w base v l) : ∀ k, v.ownBlock = some k → base ≤ k ∧ k < w.heap.size := World.ownsRow.lt h
theorem OwnI.below {w w' : World} {base B : Nat} {v : Value} {l : List Int} (h : OwnI w base v l) (hb : Below B w w') (hB : w.heap.size ≤ B) : OwnI w' base v l := by
  obtain ⟨h1, h2⟩ := h
  refine ⟨h1, ?_⟩
  rcases h2 with h2 | ⟨g, cap, cur, hv, hg, hh, r⟩
  · exact .inl h2
  · have hlt : g < w.heap.size := (Array.getElem?_eq_some_iff.1 hh).1
    exact .inr ⟨g, cap, cur, hv, hg, by rw [hb.block g (by omega)]; exact hh, r⟩
theorem OwnI.mono {w : World} {base b' : Nat} {v : Value} {l : List Int} (h : OwnI w base v l) (hb : b' ≤ base) : OwnI w b' v l := by
  obtain ⟨h1, h2⟩ := h
  refine ⟨h1, ?_⟩
  rcases h2 with h2 | ⟨g, cap, cur, hv, hg, rest⟩
  · exact .inl h2
  · exact .inr ⟨g, cap, cur, hv, by omega, rest⟩
/-- 'append' of one number onto a slice of the call's own. -/
theorem append_int {w : World} {base : Nat} {v : Value} {l : List Int} {x : Int} (ty : TypeId) (g c : Nat) (h : OwnI w base v l) (hs : RowI w g 3 [x]) (hbase : base ≤ w.heap.size) (hb : l.length ≤ 1000000) :
    ∃ v' w', (Builtin.append_ #[40, 40] ty #[v, .slice (some ⟨g, 0, none⟩) 1 c]).run Try.prog w = .ok v' w' ∧ OwnI w' base v' (l ++ [x]) ∧ Below base w w' := by
  obtain ⟨i0, hi, hz0, hz1, hz2⟩ := info_parts Try.infoI
  have hcs : ∀ j u, (ivs [x])[j]? = some u → w.cell? ((⟨g, 0, none⟩ : Addr).add j) = some u := by
    intro j u hj
    have hjl : j < (ivs [x]).length := (List.getElem?_eq_some_iff.1 hj).1
    rw [ivs_length] at hjl
    obtain rfl : j = 0 := by simp at hjl; omega
    rw [addr_add, Nat.zero_add, hs.cell 0 (by simp), ← hj]
    rfl
  obtain ⟨v', w', hr, hown, hgr, _⟩ := run_append_own (P := Try.prog) w base 40 ty 3 i0 _ 1 8 Try.underlying40 hi hz0 hz1 hz2 rfl (by decide) v l.length (ivs l) h ⟨g, 0, none⟩ 1 c (ivs [x]) (by simp [ivs_length]) hcs (ivs_one _) (by unfold maxLen; omega) (by omega) hbase
  refine ⟨v', w', hr, ?_, (Below.refl _ _).grown hgr hbase (fun k hk => (h.lt k hk).1)⟩
  unfold OwnI
  rw [List.length_append, ivs_append]
  exact hown
theorem wpList_append_int {w : World} {ops : Array Oper} {rest : List Oper} {o : Oper} {a : Act} {Q : Exit → Act → World → Prop} (hgd : o.guard = none) (s x : Operand)
    (ho : o.op = .call { callee := .builtin .append, args := #[s, x], argTypes := #[40, 40] }) (base : Nat) (l : List Int) (y : Int) (v : Value) (hs : a.eval s = v) (g c : Nat) (hx : a.eval x = .slice (some ⟨g, 0, none⟩) 1 c)
    (hown : OwnI w base v l) (hsrc : RowI w g 3 [y]) (hbase : base ≤ w.heap.size) (hb : l.length ≤ 1000000)
    (h : ∀ v' w', OwnI w' base v' (l ++ [y]) → Below base w w' → wpList Try.prog ops Q rest (a.put o.dst v') w') : wpList Try.prog ops Q (o :: rest) a w := by
  refine wpList_plain hgd fun K hK => ?_
  obtain ⟨v', w', hrun, h1, h2⟩ := append_int o.type g c hown hsrc hbase hb
  unfold Oper.wp execOp
  simp only [ho, resolve, invoke, builtin]
  simp [hs, hx, hrun, Result.andThen]
  exact hK _ _ (h v' w' h1 h2)
end Go.Proofs.Ytabmogeicpphoaa
/- inode.Blocks, inode.Names, leveeref07.Blocks, leveeref01.Ints. -/
namespace Go.Proofs.Ytabmogeicpphoaa
open Go.RowKit
/-- How many blocks so many bytes have. -/
def blkN (s : Int) : Int := if s ≤ 0 then 0 else (s - 1) / 256 + 1
set_option maxHeartbeats 1000000 in
theorem blocks_any (i : Ino) (hn : i.ns.length = 8) (hs : i.s ≤ 9223372036854775807) (w : World) :
    Calls Try.prog 18 #[.agg (iA i)] w fun e w' => e = .returned (.int .i64 (blkN i.s)) ∧ Below w.heap.size w w' := by
  have HX : Hid _ := PI.start w i hn
  have q2 := HX.out.ino.c2
  have hb := HX.out.b
  unfold blkN
  generalize i.s = S at *
  by_cases h0 : S ≤ 0
  · rw [if_pos h0]
    go_enter Try.func18, Try.ntmps18
    go_wp2
    go_ret
    exact ⟨rfl, hb⟩
  · rw [if_neg h0]
    go_enter Try.func18, Try.ntmps18
    go_wp2
    go_ret
    exact ⟨rfl, hb⟩
set_option maxHeartbeats 1000000 in
theorem rblocks_any (i : Ino) (hn : i.ns.length = 8) (hs : i.s ≤ 9223372036854775807) (w : World) :
    Calls Try.prog 19 #[.agg (iA i)] w fun e w' => e = .returned (.int .i64 (blkN i.s)) ∧ Below w.heap.size w w' := by
  have HX : Hid _ := PI.start w i hn
  have q2 := HX.out.ino.c2
  have hb := HX.out.b
  unfold blkN
  generalize i.s = S at *
  by_cases h0 : S ≤ 0
  · rw [if_pos h0]
    go_enter Try.func19, Try.ntmps19
    go_wp2
    go_ret
    exact ⟨rfl, hb⟩
  · rw [if_neg h0]
    go_enter Try.func19, Try.ntmps19
    go_wp2
    go_ret
    exact ⟨rfl, hb⟩
/-- The names that are not 0. -/
def nz (l : List Int) : List Int := l.filter (fun x => x != 0)
theorem nz_step {l : List Int} {k : Nat} (h : k < l.length) : nz (l.take (k + 1)) = if l.getD k 0 = 0 then nz (l.take k) else nz (l.take k) ++ [l.getD k 0] := by
  have e : l.getD k 0 = l[k] := by simp [h]
  rw [e]
  unfold nz
  rw [List.take_succ_eq_append_getElem h, List.filter_append]
  by_cases hz : l[k] = 0
  · simp [hz]
  · simp [hz]
theorem nz_len (l : List Int) : (nz l).length ≤ l.length := List.length_filter_le _ _
set_option maxHeartbeats 2000000 in
theorem names_any (i : Ino) (hn : i.ns.length = 8) (w : World) :
    Calls Try.prog 21 #[.agg (iA i)] w fun e w' => ∃ v, e = .returned v ∧ OwnI w' w.heap.size v (nz i.ns) ∧ Below w.heap.size w w' := by
  have HX : Hid _ := PI.start w i hn
  have NA := fun W => named_any i hn W
  have HN : Hid (i.ns.length = 8) := hn
  clear hn
  go_enter Try.func21, Try.ntmps21
  go_wp2_with (first | ((with_reducible show wpList _ _ _ ({ dst := _, op := Op.load 24 _, type := _, pos := _, after := _, guard := _ } :: _) _ _); refine wpList_load_ino rfl _ rfl (HX.out.ino) rfl ?_))
  refine (NA _).mono ?_
  rintro e w1 ⟨rfl, h1⟩
  have HB : Hid (Below w.heap.size w w1) := (HX.out.up h1).b
  clear HX h1 NA
  go_wp2_with fail
  go_loopw [3, 8] (fun v t wr => ∃ k : Nat, k ≤ 8 ∧ t = .int .i64 k ∧ Hid (OwnI wr w.heap.size v (nz (i.ns.take k))) ∧ Hid (Below w.heap.size w wr)) (fun _ t _ => 8 - (intOf t).toNat)
  case atStart => exact ⟨0, by omega, rfl, OwnI.nil _ _, HB⟩
  case round =>
    obtain ⟨k, hk, rfl, HO, HBW⟩ := hrel
    clear HB
    by_cases hlt : (k : Int) < 8
    · have hix := run_index8 HN.out k (by omega)
      have HST : Hid _ := nz_step (l := i.ns) (k := k) (by rw [HN.out]; omega)
      generalize i.ns.getD k 0 = x at *
      have hz := HBW.out.size
      by_cases hx : x = 0
      · have HO2 : Hid (OwnI wr w.heap.size u3 (nz (i.ns.take (k + 1)))) := by rw [HST.out, if_pos hx]; exact HO.out
        clear HO HST
        go_wp2
        go_roundw
        case rel => exact ⟨k + 1, by omega, by go_num, HO2, HBW⟩
        case measure => simp [intOf]; omega
      · have HS2 : Hid (nz (i.ns.take k) ++ [x] = nz (i.ns.take (k + 1))) := by rw [HST.out, if_neg hx]; rfl
        have hlen : (nz (i.ns.take k)).length ≤ 1000000 := by
          have := nz_len (i.ns.take k)
          rw [List.length_take] at this
          omega
        have hxb : (x == 0) = false := by simpa using hx
        clear HST
        have hO := HO.out
        go_wp2_with (at_builtin; refine wpList_append_int rfl (.tmp 13) (.tmp 15) rfl w.heap.size (nz (i.ns.take k)) x _ rfl _ _ rfl (hO.below ((Below.refl _ _).alloc (Nat.le_refl _) _) (Nat.le_refl _)) (heap_alloc_new _ _) (by simp; omega) hlen ?_; intro v' w2 hO2 hb2)
        rw [HS2.out] at hO2
        have HB2 : Hid (Below w.heap.size w w2) := (HBW.out.alloc hz _).trans hb2
        clear HO hO
        go_roundw
        case rel => exact ⟨k + 1, by omega, by go_num, hO2, HB2⟩
        case measure => simp [intOf]; omega
    · obtain rfl : k = 8 := by omega
      have HO2 : Hid (OwnI wr w.heap.size u3 (nz i.ns)) := by
        have := HO.out
        rw [List.take_of_length_le (by rw [HN.out]; omega)] at this
        exact this
      go_wp2
      go_ret
      exact ⟨_, rfl, HO2.out, HBW.out⟩
end Go.Proofs.Ytabmogeicpphoaa
