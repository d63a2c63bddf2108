/- leveeref07.Put. -/
import Derived.Test.YtabmogeicpphoaaRb7
import Derived.Test.YtabmogeicpphoaaRright7
namespace Go.Proofs.Ytabmogeicpphoaa
open Go.RowKit
/-- An inode lies behind what there was. -/
structure PI (w0 : World) (i : Ino) (W : World) : Prop where
  b : Below w0.heap.size w0 W
  ino : InoAt W w0.heap.size i
theorem PI.up {w0 W W' : World} {i : Ino} (h : PI w0 i W) (hb : Below W.heap.size W W') : PI w0 i W' := ⟨h.b.trans (hb.mono h.b.size), h.ino.up hb⟩
theorem PI.low {w0 W W' : World} {i : Ino} (h : PI w0 i W) (hb : Below (w0.heap.size + 1) W W') : PI w0 i W' := ⟨h.b.trans (hb.mono (by omega)), h.ino.below hb (by omega)⟩
theorem PI.start (w : World) (i : Ino) (hn : i.ns.length = 8) : PI w i (w.alloc (.cells (iA i) 24)) := ⟨(Below.refl _ _).alloc (Nat.le_refl _) _, ino_new w i hn⟩
set_option maxHeartbeats 4000000 in
theorem rput7_no (i : Ino) (hn : i.ns.length = 8) (hr : rtB i = false) (w : World) :
    Calls Try.prog 10 #[.agg (iA i)] w fun e w' => e = .returned (.tuple #[.slice none 0 0, .int .i64 1]) ∧ Below w.heap.size w w' := by
  have HX : Hid _ := PI.start w i hn
  have RT := rright7_any i hn
  rw [hr] at RT
  clear hn hr
  go_enter Try.func10, Try.ntmps10
  go_wp2_with (first | ((with_reducible show wpList _ _ _ ({ dst := _, op := Op.load 24 _, type := _, pos := _, after := _, guard := _ } :: _) _ _); refine wpList_load_ino rfl _ rfl (HX.out.ino) rfl ?_))
  refine (RT _).mono ?_
  rintro e w1 ⟨rfl, h1⟩
  go_wp2
  go_ret2
  exact ⟨rfl, (HX.out.up h1).b⟩
/-- The bytes up to the name k. -/
def upB (i : Ino) (k : Nat) : List UInt8 := headL i ++ layN (i.ns.take k)
theorem upB_length {i : Ino} (hn : i.ns.length = 8) {k : Nat} (hk : k ≤ 8) : (upB i k).length = 16 + 2 * k := by simp [upB, headL_length, layN_length, hn]; omega
theorem upB_step {i : Ino} (hn : i.ns.length = 8) {k : Nat} (hk : k < 8) : upB i k ++ leB 2 (i.ns.getD k 0).toNat = upB i (k + 1) := by
  have e : i.ns.getD k 0 = i.ns[k] := by simp [show k < i.ns.length by omega]
  unfold upB
  rw [List.take_succ_eq_append_getElem (by omega), layN_append, e]
  simp [layN]
theorem upB_all {i : Ino} (hn : i.ns.length = 8) : upB i 8 ++ List.replicate 32 0 = layI i := by
  unfold upB layI
  rw [List.take_of_length_le (by omega)]
attribute [local go_sem] wrapU
set_option maxRecDepth 100000 in
set_option maxHeartbeats 8000000 in
theorem rput7_yes (i : Ino) (hn : i.ns.length = 8) (hr : rtB i = true) (w : World) :
    Calls Try.prog 10 #[.agg (iA i)] w fun e w' => ∃ v, e = .returned (.tuple #[v, .int .i64 0]) ∧ Own w' w.heap.size v (layI i) ∧ Below w.heap.size w w' := by
  have HX0 : Hid _ := PI.start w i hn
  have RT := rright7_any i hn
  rw [hr] at RT
  have HR : Hid (InR i) := rtB_inR hr
  have HN : Hid (i.ns.length = 8) := hn
  have hk := HR.out.k
  obtain ⟨L, HL⟩ : ∃ n : Nat, Hid (i.l = (n : Int)) := ⟨i.l.toNat, by have := HR.out.l; show _ = _; omega⟩
  obtain ⟨S, HSS⟩ : ∃ n : Nat, Hid (i.s = (n : Int)) := ⟨i.s.toNat, by have := HR.out.s; show _ = _; omega⟩
  obtain ⟨D, HD⟩ : ∃ n : Nat, Hid (i.d = (n : Int)) := ⟨i.d.toNat, by have := HR.out.d; show _ = _; omega⟩
  have hL : L ≤ 1000 := by have := HR.out.l; rw [HL.out] at this; omega
  have hS : S ≤ 1066496 := by have := HR.out.s; rw [HSS.out] at this; omega
  have hD : D ≤ 4611686018427387904 := by have := HR.out.d; rw [HD.out] at this; omega
  have u1 : InU (L : Int) := ⟨by omega⟩
  have u2 : InU (S : Int) := ⟨by omega⟩
  have u3 : InU (D : Int) := ⟨by omega⟩
  have HH : Hid (([UInt8.ofNat i.k.toNat, 0] ++ leB 2 L) ++ leB 4 S ++ leB 8 D = headL i) := by
    show _ = _
    unfold headL
    rw [HL.out, HSS.out, HD.out, Int.toNat_natCast, Int.toNat_natCast, Int.toNat_natCast]
  obtain ⟨bk, HBK⟩ : ∃ b : UInt8, Hid (b = UInt8.ofNat i.k.toNat) := ⟨_, rfl⟩
  rw [← HBK.out] at HH
  have hbk : bv bk = .int .u8 i.k := by
    rw [HBK.out]; unfold bv; congr 1
    have : (UInt8.ofNat i.k.toNat).toNat = i.k.toNat := by simp; omega
    rw [this]; omega
  clear hr hn
  go_enter Try.func10, Try.ntmps10
  go_wp2_with (first | ((with_reducible show wpList _ _ _ ({ dst := _, op := Op.load 24 _, type := _, pos := _, after := _, guard := _ } :: _) _ _); refine wpList_load_ino rfl _ rfl (HX0.out.ino) rfl ?_))
  refine (RT _).mono ?_
  rintro e w1 ⟨rfl, h1⟩
  have HX1 : Hid (PI w i w1) := HX0.out.up h1
  clear RT HX0 h1
  have hl1 : w.heap.size < w1.heap.size := HX1.out.ino.lt
  have c0 := HX1.out.ino.c0
  have al : Below w1.heap.size w1 (w1.alloc (.cells (bvs [bk, 0]).toArray 5)) := (Below.refl _ _).alloc (Nat.le_refl _) _
  have hO2 : Own (w1.alloc (.cells (bvs [bk, 0]).toArray 5)) (w.heap.size + 1) (.slice (some ⟨w1.heap.size, 0, none⟩) 2 2) [bk, 0] := Blk.own (l := [bk, 0]) (heap_alloc_new _ _) (by omega) (by simp)
  have HX2 : Hid (PI w i (w1.alloc (.cells (bvs [bk, 0]).toArray 5))) := HX1.out.up al
  obtain ⟨w2, HW2⟩ : ∃ w2, Hid (w2 = w1.alloc (.cells (bvs [bk, 0]).toArray 5)) := ⟨_, rfl⟩
  have hcs : w2 = w1.alloc (.cells #[.int .u8 i.k, .int .u8 0] 5) := by rw [HW2.out, ← hbk]; rfl
  rw [← HW2.out] at hO2 HX2
  go_upto_region 4 with fail
  rw [← hcs]
  clear hcs HW2 al HX1 c0
  have hl2 : w.heap.size < w2.heap.size := HX2.out.ino.lt
  generalize Value.slice (some ⟨w1.heap.size, 0, none⟩) 2 2 = V2 at hO2 ⊢
  have HO2 : Hid (Own w2 (w.heap.size + 1) V2 [bk, 0]) := hO2
  clear hO2 hbk
  have c2 := HX2.out.ino.c1
  rw [HL.out] at c2
  have RB : Calls Try.prog 49 #[.int .u64 (L : Int), .int .i64 2] w2 fun e w' => ∃ v, e = .returned v ∧ Own w' w2.heap.size v (leB 2 L) ∧ Below w2.heap.size w2 w' := rbytes_any L 2 w2 (by omega) (by omega)
  go_wp2_with fail
  clear c2
  refine RB.mono ?_
  rintro e w2b ⟨v2, rfl, o2, b2⟩
  clear RB
  obtain ⟨p2, k2, rfl, s2, _, _, n2⟩ := o2.form
  rw [leB_length]
  have HX2b : Hid (PI w i w2b) := HX2.out.up b2
  have hl2b : w.heap.size < w2b.heap.size := HX2b.out.ino.lt
  have hs2 : Own w2b (w.heap.size + 1) V2 ([bk, 0]) := HO2.out.below b2 (Nat.le_refl _)
  clear o2 HO2
  go_upto_region 5 with (at_builtin; refine wpList_append_bytes rfl (.tmp 13) (.tmp 17) rfl (w.heap.size + 1) ([bk, 0]) (leB 2 L) _ rfl _ _ _ rfl (leB_length _ _).symm hs2 s2 (by omega) (by simp [leB_length]) n2 ?_; intro V3 w3 hO3 g3)
  have HX3 : Hid (PI w i w3) := HX2b.out.low g3
  have HO3 : Hid (Own w3 (w.heap.size + 1) V3 (([bk, 0]) ++ leB 2 L)) := hO3
  clear hs2 s2 b2 g3 n2 HX2 HX2b hl2b hO3
  have hl3 : w.heap.size < w3.heap.size := HX3.out.ino.lt
  have c3 := HX3.out.ino.c2
  rw [HSS.out] at c3
  have RB : Calls Try.prog 49 #[.int .u64 (S : Int), .int .i64 4] w3 fun e w' => ∃ v, e = .returned v ∧ Own w' w3.heap.size v (leB 4 S) ∧ Below w3.heap.size w3 w' := rbytes_any S 4 w3 (by omega) (by omega)
  go_wp2_with fail
  clear c3
  refine RB.mono ?_
  rintro e w3b ⟨v3, rfl, o3, b3⟩
  clear RB
  obtain ⟨p3, k3, rfl, s3, _, _, n3⟩ := o3.form
  rw [leB_length]
  have HX3b : Hid (PI w i w3b) := HX3.out.up b3
  have hl3b : w.heap.size < w3b.heap.size := HX3b.out.ino.lt
  have hs3 : Own w3b (w.heap.size + 1) V3 ([bk, 0] ++ leB 2 L) := HO3.out.below b3 (Nat.le_refl _)
  clear o3 HO3
  go_upto_region 6 with (at_builtin; refine wpList_append_bytes rfl (.tmp 19) (.tmp 23) rfl (w.heap.size + 1) ([bk, 0] ++ leB 2 L) (leB 4 S) _ rfl _ _ _ rfl (leB_length _ _).symm hs3 s3 (by omega) (by simp [leB_length]) n3 ?_; intro V4 w4 hO4 g4)
  have HX4 : Hid (PI w i w4) := HX3b.out.low g4
  have HO4 : Hid (Own w4 (w.heap.size + 1) V4 (([bk, 0] ++ leB 2 L) ++ leB 4 S)) := hO4
  clear hs3 s3 b3 g4 n3 HX3 HX3b hl3b hO4
  have hl4 : w.heap.size < w4.heap.size := HX4.out.ino.lt
  have c4 := HX4.out.ino.c3
  rw [HD.out] at c4
  have RB : Calls Try.prog 49 #[.int .u64 (D : Int), .int .i64 8] w4 fun e w' => ∃ v, e = .returned v ∧ Own w' w4.heap.size v (leB 8 D) ∧ Below w4.heap.size w4 w' := rbytes_any D 8 w4 (by omega) (by omega)
  go_wp2_with fail
  clear c4
  refine RB.mono ?_
  rintro e w4b ⟨v4, rfl, o4, b4⟩
  clear RB
  obtain ⟨p4, k4, rfl, s4, _, _, n4⟩ := o4.form
  rw [leB_length]
  have HX4b : Hid (PI w i w4b) := HX4.out.up b4
  have hl4b : w.heap.size < w4b.heap.size := HX4b.out.ino.lt
  have hs4 : Own w4b (w.heap.size + 1) V4 ([bk, 0] ++ leB 2 L ++ leB 4 S) := HO4.out.below b4 (Nat.le_refl _)
  clear o4 HO4
  go_wp2_with (at_builtin; refine wpList_append_bytes rfl (.tmp 25) (.tmp 29) rfl (w.heap.size + 1) ([bk, 0] ++ leB 2 L ++ leB 4 S) (leB 8 D) _ rfl _ _ _ rfl (leB_length _ _).symm hs4 s4 (by omega) (by simp [leB_length]) n4 ?_; intro V5 w5 hO5 g5)
  have HX5 : Hid (PI w i w5) := HX4b.out.low g5
  have HO5 : Hid (Own w5 (w.heap.size + 1) V5 (([bk, 0] ++ leB 2 L ++ leB 4 S) ++ leB 8 D)) := hO5
  clear hs4 s4 b4 g5 n4 HX4 HX4b hl4b hO5
  have hl5 : w.heap.size < w5.heap.size := HX5.out.ino.lt
  have HP : Hid (Own w5 (w.heap.size + 1) V5 (upB i 0)) := by
    have h := HO5.out
    rw [HH.out] at h
    have e : upB i 0 = headL i := by simp [upB, layN]
    rw [e]; exact h
  clear HO5 HH hl2 hl3 hl4
  go_loopw [4, 5] (fun v t wr => ∃ k : Nat, k ≤ 6 ∧ t = .int .i64 k ∧ Hid (Own wr (w.heap.size + 1) v (upB i k)) ∧ Hid (PI w i wr)) (fun _ t _ => 6 - (intOf t).toNat)
  case atStart => exact ⟨0, by omega, rfl, HP, HX5⟩
  case round =>
    clear HP HX5
    obtain ⟨k, hk6, rfl, HO, HXL⟩ := hrel
    have hlen := upB_length HN.out (k := k) (by omega)
    have hlw : w.heap.size < wr.heap.size := HXL.out.ino.lt
    by_cases hlt : (k : Int) < 6
    · have hx := HR.out.ns k
      obtain ⟨x, HX⟩ : ∃ n : Nat, Hid (i.ns.getD k 0 = (n : Int)) := ⟨(i.ns.getD k 0).toNat, by show _ = _; omega⟩
      have HST : Hid _ := upB_step HN.out (k := k) (by omega)
      have ck := HXL.out.ino.name k (by omega)
      rw [HX.out] at hx ck HST
      rw [Int.toNat_natCast] at HST
      have u4' : InU (x : Int) := ⟨by omega⟩
      have RB : Calls Try.prog 49 #[.int .u64 (x : Int), .int .i64 2] wr fun e w' => ∃ v, e = .returned v ∧ Own w' wr.heap.size v (leB 2 x) ∧ Below wr.heap.size wr w' := rbytes_any x 2 wr (by omega) (by omega)
      have HLN : Hid _ := hlen
      clear hlen
      go_wp2_with fail
      clear ck
      refine RB.mono ?_
      rintro e wb ⟨vb, rfl, ob, bb⟩
      clear RB
      obtain ⟨pb, kb, rfl, sb, _, _, nb⟩ := ob.form
      rw [leB_length]
      have HXb : Hid (PI w i wb) := HXL.out.up bb
      have hlb : w.heap.size < wb.heap.size := HXb.out.ino.lt
      have hsb := HO.out.below bb (Nat.le_refl _)
      clear ob HO
      go_wp2_with (at_builtin; refine wpList_append_bytes rfl (.tmp 35) (.tmp 41) rfl (w.heap.size + 1) (upB i k) (leB 2 x) _ rfl _ _ _ rfl (leB_length _ _).symm hsb sb (by omega) (by rw [HLN.out, leB_length]; omega) nb ?_; intro vn wn hOn gn)
      rw [HST.out] at hOn
      have HXn : Hid (PI w i wn) := HXb.out.low gn
      go_roundw
      case rel => exact ⟨k + 1, by omega, by go_num, hOn, HXn⟩
      case measure => simp [intOf]; omega
    · obtain rfl : k = 6 := by omega
      have hx6 := HR.out.ns 6
      have hx7 := HR.out.ns 7
      obtain ⟨x6, HX6⟩ : ∃ n : Nat, Hid (i.ns.getD 6 0 = (n : Int)) := ⟨(i.ns.getD 6 0).toNat, by show _ = _; omega⟩
      obtain ⟨x7, HX7⟩ : ∃ n : Nat, Hid (i.ns.getD 7 0 = (n : Int)) := ⟨(i.ns.getD 7 0).toNat, by show _ = _; omega⟩
      have HST6 : Hid _ := upB_step HN.out (k := 6) (by omega)
      have HST7 : Hid _ := upB_step HN.out (k := 7) (by omega)
      have q6 : ∀ W, InoAt W w.heap.size i → W.cell? ⟨w.heap.size, 10, none⟩ = some (.int .i64 x6) := fun W h => by rw [← HX6.out]; exact h.name 6 (by omega)
      have q7 : ∀ W, InoAt W w.heap.size i → W.cell? ⟨w.heap.size, 11, none⟩ = some (.int .i64 x7) := fun W h => by rw [← HX7.out]; exact h.name 7 (by omega)
      have HQ6 : Hid _ := q6
      have HQ7 : Hid _ := q7
      clear q6 q7
      rw [HX6.out] at hx6 HST6
      rw [HX7.out] at hx7 HST7
      rw [Int.toNat_natCast] at HST6 HST7
      have u6 : InU (x6 : Int) := ⟨by omega⟩
      have u7 : InU (x7 : Int) := ⟨by omega⟩
      have HLN : Hid _ := hlen
      clear hlen
      have HLN7 : Hid _ := upB_length HN.out (k := 7) (by omega)
      have HLN8 : Hid _ := upB_length HN.out (k := 8) (by omega)
      go_upto_region 11 with fail
      obtain ⟨w6, HW6⟩ : ∃ x, Hid (x = wr) := ⟨_, rfl⟩
      obtain ⟨V6, HV6⟩ : ∃ x, Hid (x = u4) := ⟨_, rfl⟩
      rw [← HW6.out] at HO HXL hlw ⊢
      have HO6 : Hid (Own w6 (w.heap.size + 1) V6 (upB i 6)) := by rw [HV6.out]; exact HO.out
      rw [← HV6.out]
      have HX6p : Hid (PI w i w6) := HXL
      clear HO HXL HV6 HW6
      have c6 := HQ6.out _ HX6p.out.ino
      have RB : Calls Try.prog 49 #[.int .u64 (x6 : Int), .int .i64 2] w6 fun e w' => ∃ v, e = .returned v ∧ Own w' w6.heap.size v (leB 2 x6) ∧ Below w6.heap.size w6 w' := rbytes_any x6 2 w6 (by omega) (by omega)
      go_wp2_with fail
      clear c6
      refine RB.mono ?_
      rintro e w6b ⟨v6, rfl, o6, b6⟩
      clear RB
      obtain ⟨p6, k6, rfl, s6, _, _, n6⟩ := o6.form
      rw [leB_length]
      have HX6b : Hid (PI w i w6b) := HX6p.out.up b6
      have hl6b : w.heap.size < w6b.heap.size := HX6b.out.ino.lt
      have hs6 : Own w6b (w.heap.size + 1) V6 (upB i 6) := HO6.out.below b6 (Nat.le_refl _)
      clear o6 HO6
      go_upto_region 12 with (at_builtin; refine wpList_append_bytes rfl (.tmp 43) (.tmp 47) rfl (w.heap.size + 1) (upB i 6) (leB 2 x6) _ rfl _ _ _ rfl (leB_length _ _).symm hs6 s6 (by omega) (by rw [HLN.out, leB_length]; omega) n6 ?_; intro V7 w7 hO7 g7)
      have HX7p : Hid (PI w i w7) := HX6b.out.low g7
      have HO7 : Hid (Own w7 (w.heap.size + 1) V7 (upB i 7)) := by rw [HST6.out] at hO7; exact hO7
      clear hs6 s6 b6 g7 n6 HX6p HX6b hl6b hO7
      have hl7 : w.heap.size < w7.heap.size := HX7p.out.ino.lt
      have c7 := HQ7.out _ HX7p.out.ino
      have RB : Calls Try.prog 49 #[.int .u64 (x7 : Int), .int .i64 2] w7 fun e w' => ∃ v, e = .returned v ∧ Own w' w7.heap.size v (leB 2 x7) ∧ Below w7.heap.size w7 w' := rbytes_any x7 2 w7 (by omega) (by omega)
      go_wp2_with fail
      clear c7
      refine RB.mono ?_
      rintro e w7b ⟨v7, rfl, o7, b7⟩
      clear RB
      obtain ⟨p7, k7, rfl, s7, _, _, n7⟩ := o7.form
      rw [leB_length]
      have HX7b : Hid (PI w i w7b) := HX7p.out.up b7
      have hl7b : w.heap.size < w7b.heap.size := HX7b.out.ino.lt
      have hs7 : Own w7b (w.heap.size + 1) V7 (upB i 7) := HO7.out.below b7 (Nat.le_refl _)
      clear o7 HO7
      go_wp2_with (at_builtin; refine wpList_append_bytes rfl (.tmp 49) (.tmp 53) rfl (w.heap.size + 1) (upB i 7) (leB 2 x7) _ rfl _ _ _ rfl (leB_length _ _).symm hs7 s7 (by omega) (by rw [HLN7.out, leB_length]; omega) n7 ?_; intro V8 w8 hO8 g8)
      have HX8 : Hid (PI w i w8) := HX7b.out.low g8
      have HO8 : Hid (Own w8 (w.heap.size + 1) V8 (upB i 8)) := by rw [HST7.out] at hO8; exact hO8
      clear hs7 s7 b7 g8 n7 HX7p HX7b hl7b hO8
      have hl8 : w.heap.size < w8.heap.size := HX8.out.ino.lt
      have HP8 : Hid (Own w8 (w.heap.size + 1) V8 (upB i 8 ++ List.replicate 0 0)) := by rw [List.replicate_zero, List.append_nil]; exact HO8.out
      clear HO8 HST6 HST7 HQ6 HQ7 HLN HLN7 u6 u7 hx6 hx7
      go_loopw [4] (fun v wr => ∃ k : Nat, 32 + k ≤ 64 ∧ Hid (Own wr (w.heap.size + 1) v (upB i 8 ++ List.replicate k 0)) ∧ Hid (PI w i wr)) (fun v _ => 64 - slen v)
      case atStart => exact ⟨0, by omega, HP8, HX8⟩
      case round =>
        clear HP8 HX8
        obtain ⟨k, hk, HO, HXL⟩ := hrel
        obtain ⟨ao, cap, rfl, _, _, _, _⟩ := HO.out.form
        have hlen : (upB i 8 ++ List.replicate k 0).length = 32 + k := by rw [List.length_append, HLN8.out, List.length_replicate]
        rw [hlen] at HO ⊢
        have HST : Hid _ := rep_step (upB i 8) k
        have hlw : w.heap.size < wr.heap.size := HXL.out.ino.lt
        by_cases hlt : ((32 + k : Nat) : Int) < 64
        · go_upto_region 14 with fail
          have hO := HO.out
          generalize Value.slice ao (32 + k) cap = V at hO ⊢
          clear HO
          go_wp2_with (at_builtin; refine wpList_append_bytes rfl (.tmp 58) (.tmp 59) rfl (w.heap.size + 1) _ [0] _ rfl _ _ _ rfl rfl (hO.below ((Below.refl _ _).alloc (Nat.le_refl _) _) (Nat.le_refl _)) (Blk.src (t := 5) (heap_alloc_new _ _)) (by simp; omega) (by rw [hlen]; simp; omega) (fun h => by cases h) ?_; intro v' wn hO1 hb1)
          rw [HST.out] at hO1
          obtain ⟨ao', cap', rfl, _⟩ := hO1.form
          have XN := (HXL.out.up ((Below.refl _ _).alloc (Nat.le_refl _) _)).low hb1
          go_roundw
          case rel => exact ⟨k + 1, by omega, hO1, XN⟩
          case measure => simp [slen, HLN8.out]; omega
        · obtain rfl : k = 32 := by omega
          rw [show 32 + 32 = 64 from rfl] at HO ⊢
          have HZ : Hid (Own wr (w.heap.size + 1) (.slice ao 64 cap) (layI i)) := by rw [← upB_all HN.out]; exact HO.out
          have HB := HXL.out.b
          clear HO HST
          go_wp2
          go_ret2
          exact ⟨_, rfl, HZ.out.mono (by omega), HB⟩
end Go.Proofs.Ytabmogeicpphoaa
