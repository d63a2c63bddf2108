/- leveeref08.Put. -/
import Derived.Test.YtabmogeicpphoaaEget
import Derived.Lib.AppendStr
namespace Go.Proofs.Ytabmogeicpphoaa
open Go.RowKit
/-- 'append' of a text onto bytes of the call's own. -/
theorem append_text {w : World} {base : Nat} {v : Value} {l x : List UInt8} (ty : TypeId) (h : Own w base v l) (hbase : base ≤ w.heap.size) (hb : l.length + x.length ≤ 140737488355328) :
    ∃ v' w', (Builtin.append_ #[25, 9] ty #[v, .string (str x)]).run Try.prog w = .ok v' w' ∧ Own w' base v' (l ++ x) ∧ Below base w w' := by
  obtain ⟨i0, hi, hz0, hz1, hz2⟩ := info_parts Try.info5
  obtain ⟨v', w', hr, hown, hgr, _⟩ := Lib.run_append_own_string (P := Try.prog) w base 25 9 ty 5 i0 Try.underlying25 Try.underlying9 hi hz0 hz1 hz2 v l.length (bvs l) h (str x) (by rw [str_size]; unfold maxLen; omega) (by rw [str_size]; omega) hbase
  refine ⟨v', w', hr, ?_, (Below.refl _ _).grown hgr hbase (fun k hk => (h.lt k hk).1)⟩
  unfold Own
  rw [List.length_append, bvs_append]
  rw [str_size] at hown
  exact hown
theorem wpList_append_text {w : World} {ops : Array Oper} {rest : List Oper} {o : Oper} {a : Act} {Q : Exit → Act → World → Prop} (hgd : o.guard = none) (s x : Operand)
    (ho : o.op = .call { callee := .builtin .append, args := #[s, x], argTypes := #[25, 9] }) (base : Nat) (l m : List UInt8) (v : Value) (hs : a.eval s = v) (hx : a.eval x = .string (str m))
    (hown : Own w base v l) (hbase : base ≤ w.heap.size) (hb : l.length + m.length ≤ 140737488355328)
    (h : ∀ v' w', Own w' base v' (l ++ m) → Below base w w' → wpList Try.prog ops Q rest (a.put o.dst v') w') : wpList Try.prog ops Q (o :: rest) a w := by
  refine wpList_plain hgd fun K hK => ?_
  obtain ⟨v', w', hrun, h1, h2⟩ := append_text o.type hown hbase hb
  unfold Oper.wp execOp
  simp only [ho, resolve, invoke, builtin]
  simp [hs, hx, hrun, Result.andThen]
  exact hK _ _ (h v' w' h1 h2)
set_option maxHeartbeats 4000000 in
theorem rput8_no (e : Ent) (hl : e.nm.length ≤ 9223372036854775807) (hr : rtE e = false) (w : World) :
    Calls Try.prog 31 #[.agg (eA e)] w fun r w' => r = .returned (.tuple #[.slice none 0 0, .int .i64 1]) ∧ Below w.heap.size w w' := by
  have HX : Hid _ := PE.start w e
  have RT := rright8_any e hl
  rw [hr] at RT
  clear hr
  go_enter Try.func31, Try.ntmps31
  go_wp2_with (first | ((with_reducible show wpList _ _ _ ({ dst := _, op := Op.load 48 _, type := _, pos := _, after := _, guard := _ } :: _) _ _); refine wpList_load_ent rfl _ rfl (HX.out.ent) rfl ?_))
  refine (RT _).mono ?_
  rintro r w1 ⟨rfl, h1⟩
  go_wp2
  go_ret2
  exact ⟨rfl, (HX.out.up h1).b⟩
attribute [local go_sem] wrapU
set_option maxRecDepth 100000 in
set_option maxHeartbeats 8000000 in
theorem rput8_yes (e : Ent) (hr : rtE e = true) (w : World) :
    Calls Try.prog 31 #[.agg (eA e)] w fun r w' => ∃ v, r = .returned (.tuple #[v, .int .i64 0]) ∧ Own w' w.heap.size v (layE e) ∧ Below w.heap.size w w' := by
  have HX0 : Hid _ := PE.start w e
  have HR := rtE_enR hr
  have RT := rright8_any e (by have := HR.nm; omega)
  rw [hr] at RT
  have hsl := HR.sl
  have hnl := HR.nm
  obtain ⟨SL, HSL⟩ : ∃ n : Nat, Hid (e.sl = (n : Int)) := ⟨e.sl.toNat, by show _ = _; omega⟩
  obtain ⟨N, HNM⟩ : ∃ n, Hid (n = e.nm) := ⟨_, rfl⟩
  obtain ⟨LV, HLV⟩ : ∃ n, Hid (n = e.lv) := ⟨_, rfl⟩
  rw [← HNM.out] at hnl
  rw [HSL.out] at hsl
  have u1 : InU (SL : Int) := ⟨by omega⟩
  have HLE : Hid (((leB 2 SL ++ [lvB LV]) ++ [UInt8.ofNat N.length]) ++ N ++ List.replicate (28 - N.length) 0 = layE e) := by
    show _ = _
    unfold layE
    rw [HSL.out, Int.toNat_natCast, ← HNM.out, ← HLV.out]
    simp
  have hsz := str_size N
  clear hr HR
  go_enter Try.func31, Try.ntmps31
  go_wp2_with (first | ((with_reducible show wpList _ _ _ ({ dst := _, op := Op.load 48 _, type := _, pos := _, after := _, guard := _ } :: _) _ _); refine wpList_load_ent rfl _ rfl (HX0.out.ent) rfl ?_))
  refine (RT _).mono ?_
  rintro r w1 ⟨rfl, h1⟩
  have HX1 : Hid (PE w e w1) := HX0.out.up h1
  clear RT HX0 h1
  have c0 := HX1.out.ent.c0
  rw [HSL.out] at c0
  have RB : Calls Try.prog 49 #[.int .u64 (SL : Int), .int .i64 2] w1 fun e w' => ∃ v, e = .returned v ∧ Own w' w1.heap.size v (leB 2 SL) ∧ Below w1.heap.size w1 w' := rbytes_any SL 2 w1 (by omega) (by omega)
  go_wp2_with fail
  refine RB.mono ?_
  rintro r w2 ⟨v2, rfl, o2, b2⟩
  have HX2 : Hid (PE w e w2) := HX1.out.up b2
  have hl1 : w.heap.size < w1.heap.size := HX1.out.ent.lt
  have HO2 : Hid (Own w2 (w.heap.size + 1) v2 (leB 2 SL)) := o2.mono (by omega)
  clear RB HX1 o2 b2 c0 hl1
  have c1 := HX2.out.ent.c1
  rw [← HLV.out] at c1
  have hl2 : w.heap.size < w2.heap.size := HX2.out.ent.lt
  go_upto_if 13 with fail
  go_cut [4] (fun v wc => Own wc (w.heap.size + 1) v (leB 2 SL ++ [lvB LV]) ∧ PE w e wc)
  case first =>
    have hO := HO2.out
    cases LV
    · go_wp2_with (at_builtin; refine wpList_append_bytes rfl (.tmp 17) (.tmp 18) rfl (w.heap.size + 1) (leB 2 SL) [0] _ rfl _ _ _ rfl rfl (hO.below ((Below.refl _ _).alloc (Nat.le_refl _) _) (Nat.le_refl _)) (Blk.src (t := 5) (heap_alloc_new _ _)) (by simp; omega) (by simp [leB_length]) (fun h => by cases h) ?_; intro v3 w3 hO3 hb3)
      go_meet
      case rel => exact ⟨hO3, (HX2.out.up ((Below.refl _ _).alloc (Nat.le_refl _) _)).low hb3⟩
    · go_wp2_with (at_builtin; refine wpList_append_bytes rfl (.tmp 14) (.tmp 15) rfl (w.heap.size + 1) (leB 2 SL) [1] _ rfl _ _ _ rfl rfl (hO.below ((Below.refl _ _).alloc (Nat.le_refl _) _) (Nat.le_refl _)) (Blk.src (t := 5) (heap_alloc_new _ _)) (by simp; omega) (by simp [leB_length]) (fun h => by cases h) ?_; intro v3 w3 hO3 hb3)
      go_meet
      case rel => exact ⟨hO3, (HX2.out.up ((Below.refl _ _).alloc (Nat.le_refl _) _)).low hb3⟩
  case rest =>
    obtain ⟨ho3, hx3⟩ := hcut
    have HO3 : Hid (Own wc (w.heap.size + 1) u4 (leB 2 SL ++ [lvB LV])) := ho3
    have HX3 : Hid _ := hx3
    clear ho3 hx3 HX2 HO2 c1 hl2
    have hl3 : w.heap.size < wc.heap.size := HX3.out.ent.lt
    have c2 := HX3.out.ent.c2
    rw [← HNM.out] at c2
    have hnI : (N.length : Int) ≤ 24 := by omega
    obtain ⟨bn, HBN⟩ : ∃ b : UInt8, Hid (b = UInt8.ofNat N.length) := ⟨_, rfl⟩
    have hbn : Value.int .u8 (N.length : Int) = bv bn := by
      rw [HBN.out]
      unfold bv; congr 1
      have : (UInt8.ofNat N.length).toNat = N.length := by simp; omega
      rw [this]
    have hblk : Blk (wc.alloc (.cells #[.int .u8 (N.length : Int)] 5)) wc.heap.size 5 [bn] := by
      rw [hbn]; exact heap_alloc_new _ _
    have HBK : Hid _ := hblk
    clear hblk hbn
    have hO := HO3.out
    go_upto_region 8 with (at_builtin; refine wpList_append_bytes rfl (.tmp 20) (.tmp 25) rfl (w.heap.size + 1) (leB 2 SL ++ [lvB LV]) [bn] _ rfl _ _ _ rfl rfl (hO.below ((Below.refl _ _).alloc (Nat.le_refl _) _) (Nat.le_refl _)) (Blk.src (t := 5) HBK.out) (by simp; omega) (by simp [leB_length]) (fun h => by cases h) ?_; intro v4 w4 hO4 hb4)
    have HX4 : Hid (PE w e w4) := (HX3.out.up ((Below.refl _ _).alloc (Nat.le_refl _) _)).low hb4
    have HO4 : Hid (Own w4 (w.heap.size + 1) v4 ((leB 2 SL ++ [lvB LV]) ++ [bn])) := hO4
    clear HX3 HO3 hO hO4 hb4 c2 hl3 HBK
    have hl4 : w.heap.size < w4.heap.size := HX4.out.ent.lt
    have c2 := HX4.out.ent.c2
    rw [← HNM.out] at c2
    have hO := HO4.out
    go_wp2_with (at_builtin; refine wpList_append_text rfl (.tmp 27) (.tmp 29) rfl (w.heap.size + 1) ((leB 2 SL ++ [lvB LV]) ++ [bn]) N _ rfl rfl hO (by omega) (by simp [leB_length]; omega) ?_; intro v5 w5 hO5 hb5)
    have HX5 : Hid (PE w e w5) := HX4.out.low hb5
    obtain ⟨PP, HPP⟩ : ∃ x, Hid (x = ((leB 2 SL ++ [lvB LV]) ++ [bn]) ++ N) := ⟨_, rfl⟩
    have HLP : Hid (PP.length = 4 + N.length) := by show _ = _; rw [HPP.out]; simp [leB_length]; omega
    have HLE2 : Hid (PP ++ List.replicate (28 - N.length) 0 = layE e) := by show _ = _; rw [HPP.out, HBN.out]; exact HLE.out
    rw [← HPP.out] at hO5
    have HP5 : Hid (Own w5 (w.heap.size + 1) v5 (PP ++ List.replicate 0 0)) := by rw [List.replicate_zero, List.append_nil]; exact hO5
    clear HX4 HO4 hO hO5 hb5 c2 hl4 HLE
    go_loopw [4] (fun v wr => ∃ k : Nat, 4 + N.length + k ≤ 32 ∧ Hid (Own wr (w.heap.size + 1) v (PP ++ List.replicate k 0)) ∧ Hid (PE w e wr)) (fun v _ => 32 - slen v)
    case atStart => exact ⟨0, by omega, HP5, HX5⟩
    case round =>
      clear HP5 HX5
      obtain ⟨k, hk, HO, HXL⟩ := hrel
      obtain ⟨ao, cap, rfl, _, _, _, _⟩ := HO.out.form
      have hlen : (PP ++ List.replicate k 0).length = 4 + N.length + k := by rw [List.length_append, HLP.out, List.length_replicate]
      rw [hlen] at HO ⊢
      have HST : Hid _ := rep_step PP k
      have hlw : w.heap.size < wr.heap.size := HXL.out.ent.lt
      by_cases hlt : ((4 + N.length + k : Nat) : Int) < 32
      · go_upto_region 10 with fail
        have hO := HO.out
        generalize Value.slice ao (4 + N.length + k) cap = V at hO ⊢
        clear HO
        go_wp2_with (at_builtin; refine wpList_append_bytes rfl (.tmp 34) (.tmp 35) rfl (w.heap.size + 1) _ [0] _ rfl _ _ _ rfl rfl (hO.below ((Below.refl _ _).alloc (Nat.le_refl _) _) (Nat.le_refl _)) (Blk.src (t := 5) (heap_alloc_new _ _)) (by simp; omega) (by rw [hlen]; simp; omega) (fun h => by cases h) ?_; intro v' wn hO1 hb1)
        rw [HST.out] at hO1
        obtain ⟨ao', cap', rfl, _⟩ := hO1.form
        have XN := (HXL.out.up ((Below.refl _ _).alloc (Nat.le_refl _) _)).low hb1
        go_roundw
        case rel => exact ⟨k + 1, by omega, hO1, XN⟩
        case measure => simp [slen, HLP.out]; omega
      · obtain rfl : k = 28 - N.length := by omega
        have HZ : Hid (Own wr (w.heap.size + 1) (.slice ao (4 + N.length + (28 - N.length)) cap) (layE e)) := by rw [← HLE2.out]; exact HO.out
        have HB := HXL.out.b
        clear HO HST
        generalize 4 + N.length + (28 - N.length) = T at *
        go_wp2
        go_ret2
        exact ⟨_, rfl, HZ.out.mono (by omega), HB⟩
end Go.Proofs.Ytabmogeicpphoaa
