/- leveeref08.Put. -/
import Derived.Test.YtabmogeicpphoaaJ9
import Derived.Lib.AppendStr
namespace Go.Proofs.Ytabmogeicpphoaa
open Go.RowKit
/-- 'append' of a text onto bytes of the call's own. -/
theorem append_text {w : World} {base : Nat} {v : Value} {l x : List UInt8} (ty : TypeId) (h : Own w base v l) (hbase : base ≤ w.heap.size) (hb : l.length + x.length ≤ 140737488355328) :
    ∃ v' w', (Builtin.append_ #[25, 9] ty #[v, .string (str x)]).run Try.prog w = .ok v' w' ∧ Own w' base v' (l ++ x) ∧ Below base w w' := by
  obtain ⟨i0, hi, hz0, hz1, hz2⟩ := info_parts Try.info5
  obtain ⟨v', w', hr, hown, hgr, _⟩ := Lib.run_append_own_string (P := Try.prog) w base 25 9 ty 5 i0 Try.underlying25 Try.underlying9 hi hz0 hz1 hz2 v l.length (bvs l) h (str x) (by rw [str_size]; unfold maxLen; omega) (by rw [str_size]; omega) hbase
  refine ⟨v', w', hr, ?_, (Below.refl _ _).grown hgr hbase (fun k hk => (h.lt k hk).1)⟩
  unfold Own
  rw [List.length_append, bvs_append]
  rw [str_size] at hown
  exact hown
theorem wpList_append_text {w : World} {ops : Array Oper} {rest : List Oper} {o : Oper} {a : Act} {Q : Exit → Act → World → Prop} (hgd : o.guard = none) (s x : Operand)
    (ho : o.op = .call { callee := .builtin .append, args := #[s, x], argTypes := #[25, 9] }) (base : Nat) (l m : List UInt8) (v : Value) (hs : a.eval s = v) (hx : a.eval x = .string (str m))
    (hown : Own w base v l) (hbase : base ≤ w.heap.size) (hb : l.length + m.length ≤ 140737488355328)
    (h : ∀ v' w', Own w' base v' (l ++ m) → Below base w w' → wpList Try.prog ops Q rest (a.put o.dst v') w') : wpList Try.prog ops Q (o :: rest) a w := by
  refine wpList_plain hgd fun K hK => ?_
  obtain ⟨v', w', hrun, h1, h2⟩ := append_text o.type hown hbase hb
  unfold Oper.wp execOp
  simp only [ho, resolve, invoke, builtin]
  simp [hs, hx, hrun, Result.andThen]
  exact hK _ _ (h v' w' h1 h2)
set_option maxHeartbeats 4000000 in
theorem rput8_no (e : Ent) (hl : e.nm.length ≤ 9223372036854775807) (hr : rtE e = false) (w : World) :
    Calls Try.prog 31 #[.agg (eA e)] w fun r w' => r = .returned (.tuple #[.slice none 0 0, .int .i64 1]) ∧ Below w.heap.size w w' := by
  have HX : Hid _ := PE.start w e
  have RT := rright8_any e hl
  rw [hr] at RT
  clear hr
  go_enter Try.func31, Try.ntmps31
  go_wp2_with (first | ((with_reducible show wpList _ _ _ ({ dst := _, op := Op.load 48 _, type := _, pos := _, after := _, guard := _ } :: _) _ _); refine wpList_load_ent rfl _ rfl (HX.out.ent) rfl ?_))
  refine (RT _).mono ?_
  rintro r w1 ⟨rfl, h1⟩
  go_wp2
  go_ret2
  exact ⟨rfl, (HX.out.up h1).b⟩
attribute [local go_sem] wrapU
set_option maxRecDepth 100000 in
set_option maxHeartbeats 8000000 in
theorem rput8_yes (e : Ent) (hr : rtE e = true) (w : World) :
    Calls Try.prog 31 #[.agg (eA e)] w fun r w' => ∃ v, r = .returned (.tuple #[v, .int .i64 0]) ∧ Own w' w.heap.size v (layE e) ∧ Below w.heap.size w w' := by
  have HX0 : Hid _ := PE.start w e
  have HR := rtE_enR hr
  have RT := rright8_any e (by have := HR.nm; omega)
  rw [hr] at RT
  have hsl := HR.sl
  have hnl := HR.nm
  obtain ⟨SL, HSL⟩ : ∃ n : Nat, Hid (e.sl = (n : Int)) := ⟨e.sl.toNat, by show _ = _; omega⟩
  obtain ⟨N, HNM⟩ : ∃ n, Hid (n = e.nm) := ⟨_, rfl⟩
  obtain ⟨LV, HLV⟩ : ∃ n, Hid (n = e.lv) := ⟨_, rfl⟩
  rw [← HNM.out] at hnl
  rw [HSL.out] at hsl
  have u1 : InU (SL : Int) := ⟨by omega⟩
  have HLE : Hid (((leB 2 SL ++ [lvB LV]) ++ [UInt8.ofNat N.length]) ++ N ++ List.replicate (28 - N.length) 0 = layE e) := by
    show _ = _
    unfold layE
    rw [HSL.out, Int.toNat_natCast, ← HNM.out, ← HLV.out]
    simp
  have hsz := str_size N
  clear hr HR
  go_enter Try.func31, Try.ntmps31
  go_wp2_with (first | ((with_reducible show wpList _ _ _ ({ dst := _, op := Op.load 48 _, type := _, pos := _, after := _, guard := _ } :: _) _ _); refine wpList_load_ent rfl _ rfl (HX0.out.ent) rfl ?_))
  refine (RT _).mono ?_
  rintro r w1 ⟨rfl, h1⟩
  have HX1 : Hid (PE w e w1) := HX0.out.up h1
  clear RT HX0 h1
  have c0 := HX1.out.ent.c0
  rw [HSL.out] at c0
  have RB : Calls Try.prog 49 #[.int .u64 (SL : Int), .int .i64 2] w1 fun e w' => ∃ v, e = .returned v ∧ Own w' w1.heap.size v (leB 2 SL) ∧ Below w1.heap.size w1 w' := rbytes_any SL 2 w1 (by omega) (by omega)
  go_wp2_with fail
  refine RB.mono ?_
  rintro r w2 ⟨v2, rfl, o2, b2⟩
  have HX2 : Hid (PE w e w2) := HX1.out.up b2
  have hl1 : w.heap.size < w1.heap.size := HX1.out.ent.lt
  have HO2 : Hid (Own w2 (w.heap.size + 1) v2 (leB 2 SL)) := o2.mono (by omega)
  clear RB HX1 o2 b2 c0 hl1
  have c1 := HX2.out.ent.c1
  rw [← HLV.out] at c1
  have hl2 : w.heap.size < w2.heap.size := HX2.out.ent.lt
  go_upto_if 13 with fail
  go_cut [4] (fun v wc => Own wc (w.heap.size + 1) v (leB 2 SL ++ [lvB LV]) ∧ PE w e wc)
  case first =>
    have hO := HO2.out
    cases LV
    · go_wp2_with (at_builtin; refine wpList_append_bytes rfl (.tmp 17) (.tmp 18) rfl (w.heap.size + 1) (leB 2 SL) [0] _ rfl _ _ _ rfl rfl (hO.below ((Below.refl _ _).alloc (Nat.le_refl _) _) (Nat.le_refl _)) (Blk.src (t := 5) (heap_alloc_new _ _)) (by simp; omega) (by simp [leB_length]) (fun h => by cases h) ?_; intro v3 w3 hO3 hb3)
      go_meet
      case rel => exact ⟨hO3, (HX2.out.up ((Below.refl _ _).alloc (Nat.le_refl _) _)).low hb3⟩
    · go_wp2_with (at_builtin; refine wpList_append_bytes rfl (.tmp 14) (.tmp 15) rfl (w.heap.size + 1) (leB 2 SL) [1] _ rfl _ _ _ rfl rfl (hO.below ((Below.refl _ _).alloc (Nat.le_refl _) _) (Nat.le_refl _)) (Blk.src (t := 5) (heap_alloc_new _ _)) (by simp; omega) (by simp [leB_length]) (fun h => by cases h) ?_; intro v3 w3 hO3 hb3)
      go_meet
      case rel => exact ⟨hO3, (HX2.out.up ((Below.refl _ _).alloc (Nat.le_refl _) _)).low hb3⟩
  case rest =>
    obtain ⟨ho3, hx3⟩ := hcut
    have HO3 : Hid (Own wc (w.heap.size + 1) u4 (leB 2 SL ++ [lvB LV])) := ho3
    have HX3 : Hid _ := hx3
    clear ho3 hx3 HX2 HO2 c1 hl2
    have hl3 : w.heap.size < wc.heap.size := HX3.out.ent.lt
    have c2 := HX3.out.ent.c2
    rw [← HNM.out] at c2
    have hnI : (N.length : Int) ≤ 24 := by omega
    obtain ⟨bn, HBN⟩ : ∃ b : UInt8, Hid (b = UInt8.ofNat N.length) := ⟨_, rfl⟩
    have hbn : Value.int .u8 (N.length : Int) = bv bn := by
      rw [HBN.out]
      unfold bv; congr 1
      have : (UInt8.ofNat N.length).toNat = N.length := by simp; omega
      rw [this]
    have hblk : Blk (wc.alloc (.cells #[.int .u8 (N.length : Int)] 5)) wc.heap.size 5 [bn] := by
      rw [hbn]; exact heap_alloc_new _ _
    have HBK : Hid _ := hblk
    clear hblk hbn
    have hO := HO3.out
    go_upto_region 8 with (at_builtin; refine wpList_append_bytes rfl (.tmp 20) (.tmp 25) rfl (w.heap.size + 1) (leB 2 SL ++ [lvB LV]) [bn] _ rfl _ _ _ rfl rfl (hO.below ((Below.refl _ _).alloc (Nat.le_refl _) _) (Nat.le_refl _)) (Blk.src (t := 5) HBK.out) (by simp; omega) (by simp [leB_length]) (fun h => by cases h) ?_; intro v4 w4 hO4 hb4)
    have HX4 : Hid (PE w e w4) := (HX3.out.up ((Below.refl _ _).alloc (Nat.le_refl _) _)).low hb4
    have HO4 : Hid (Own w4 (w.heap.size + 1) v4 ((leB 2 SL ++ [lvB LV]) ++ [bn])) := hO4
    clear HX3 HO3 hO hO4 hb4 c2 hl3 HBK
    have hl4 : w.heap.size < w4.heap.size := HX4.out.ent.lt
    have c2 := HX4.out.ent.c2
    rw [← HNM.out] at c2
    have hO := HO4.out
    go_wp2_with (at_builtin; refine wpList_append_text rfl (.tmp 27) (.tmp 29) rfl (w.heap.size + 1) ((leB 2 SL ++ [lvB LV]) ++ [bn]) N _ rfl rfl hO (by omega) (by simp [leB_length]; omega) ?_; intro v5 w5 hO5 hb5)
    have HX5 : Hid (PE w e w5) := HX4.out.low hb5
    obtain ⟨PP, HPP⟩ : ∃ x, Hid (x = ((leB 2 SL ++ [lvB LV]) ++ [bn]) ++ N) := ⟨_, rfl⟩
    have HLP : Hid (PP.length = 4 + N.length) := by show _ = _; rw [HPP.out]; simp [leB_length]; omega
    have HLE2 : Hid (PP ++ List.replicate (28 - N.length) 0 = layE e) := by show _ = _; rw [HPP.out, HBN.out]; exact HLE.out
    rw [← HPP.out] at hO5
    have HP5 : Hid (Own w5 (w.heap.size + 1) v5 (PP ++ List.replicate 0 0)) := by rw [List.replicate_zero, List.append_nil]; exact hO5
    clear HX4 HO4 hO hO5 hb5 c2 hl4 HLE
    go_loopw [4] (fun v wr => ∃ k : Nat, 4 + N.length + k ≤ 32 ∧ Hid (Own wr (w.heap.size + 1) v (PP ++ List.replicate k 0)) ∧ Hid (PE w e wr)) (fun v _ => 32 - slen v)
    case atStart => exact ⟨0, by omega, HP5, HX5⟩
    case round =>
      clear HP5 HX5
      obtain ⟨k, hk, HO, HXL⟩ := hrel
      obtain ⟨ao, cap, rfl, _, _, _, _⟩ := HO.out.form
      have hlen : (PP ++ List.replicate k 0).length = 4 + N.length + k := by rw [List.length_append, HLP.out, List.length_replicate]
      rw [hlen] at HO ⊢
      have HST : Hid _ := rep_step PP k
      have hlw : w.heap.size < wr.heap.size := HXL.out.ent.lt
      by_cases hlt : ((4 + N.length + k : Nat) : Int) < 32
      · go_upto_region 10 with fail
        have hO := HO.out
        generalize Value.slice ao (4 + N.length + k) cap = V at hO ⊢
        clear HO
        go_wp2_with (at_builtin; refine wpList_append_bytes rfl (.tmp 34) (.tmp 35) rfl (w.heap.size + 1) _ [0] _ rfl _ _ _ rfl rfl (hO.below ((Below.refl _ _).alloc (Nat.le_refl _) _) (Nat.le_refl _)) (Blk.src (t := 5) (heap_alloc_new _ _)) (by simp; omega) (by rw [hlen]; simp; omega) (fun h => by cases h) ?_; intro v' wn hO1 hb1)
        rw [HST.out] at hO1
        obtain ⟨ao', cap', rfl, _⟩ := hO1.form
        have XN := (HXL.out.up ((Below.refl _ _).alloc (Nat.le_refl _) _)).low hb1
        go_roundw
        case rel => exact ⟨k + 1, by omega, hO1, XN⟩
        case measure => simp [slen, HLP.out]; omega
      · obtain rfl : k = 28 - N.length := by omega
        have HZ : Hid (Own wr (w.heap.size + 1) (.slice ao (4 + N.length + (28 - N.length)) cap) (layE e)) := by rw [← HLE2.out]; exact HO.out
        have HB := HXL.out.b
        clear HO HST
        generalize 4 + N.length + (28 - N.length) = T at *
        go_wp2
        go_ret2
        exact ⟨_, rfl, HZ.out.mono (by omega), HB⟩
end Go.Proofs.Ytabmogeicpphoaa
/- leveeref08.Get. -/
namespace Go.Proofs.Ytabmogeicpphoaa
open Go.RowKit
/-- The bytes, and the place for the answer. -/
structure RGe (w0 : World) (bb off : Nat) (l : List UInt8) (W : World) : Prop where
  b : Below w0.heap.size w0 W
  res : EntAt W w0.heap.size zent
  src : Src W (some ⟨bb, off, none⟩) l
  hl : l.length = 32
  lt : bb < w0.heap.size
section
variable {w0 W W' : World} {bb off q : Nat} {l : List UInt8}
theorem RGe.up (h : RGe w0 bb off l W) (hb : Below W.heap.size W W') : RGe w0 bb off l W' := ⟨h.b.trans (hb.mono h.b.size), h.res.up hb, h.src.below hb (Nat.le_refl _), h.hl, h.lt⟩
theorem RGe.only (h : RGe w0 bb off l W) (ho : Only q W W') (hq : w0.heap.size < q) : RGe w0 bb off l W' :=
  ⟨h.b.trans (ho.bel.mono (by omega)), h.res.only ho (by omega), h.src.only ho (fun b o e => by cases e; have := h.lt; omega), h.hl, h.lt⟩
theorem RGe.c (h : RGe w0 bb off l W) (k : Nat) (hk : k < 32 := by omega) : W.cell? ⟨bb, off + k, none⟩ = some (.int .u8 (nth l k)) := by
  have := h.src.cell k (by have := h.hl; omega)
  rw [bv_nth (by have := h.hl; omega)] at this
  exact this
end
/-- With the new entry at q. -/
structure RHe (w0 : World) (bb off : Nat) (l : List UInt8) (q : Nat) (e : Ent) (W : World) : Prop where
  g : RGe w0 bb off l W
  ent : EntAt W q e
  lq : w0.heap.size < q
theorem RHe.up {w0 W W' : World} {bb off q : Nat} {l : List UInt8} {e : Ent} (h : RHe w0 bb off l q e W) (hb : Below W.heap.size W W') : RHe w0 bb off l q e W' := ⟨h.g.up hb, h.ent.up hb, h.lq⟩
theorem slice_slk (bb off len cap o l : Nat) (kl kh : IntKind) (a b : Int) (ha : a = (o : Int)) (hb : b = (o : Int) + (l : Int)) (h1 : o < cap) (h : o + l ≤ cap) (w : World) :
    (Instr.slice 25 (.slice (some ⟨bb, off, none⟩) len cap) (some (.int kl a)) (some (.int kh b)) none).run Try.prog w = .ok (.slice (some ⟨bb, off + o, none⟩) l (cap - o)) w := by
  subst ha; subst hb
  have he : Try.prog.elem 25 = 5 := by kernel_rfl
  rw [run_slice_lh w 25 _ _ _ (by kernel_rfl) kl kh _ _ (by omega) (by omega) (by omega), he, size5]
  simp only [Result.andThen_ok, sliced, Int.toNat_natCast]
  rw [show ((o : Int) + (l : Int)).toNat = o + l by omega]
  simp [show ¬ cap = o by omega, addr_add]
abbrev In8 (x : Int) : Prop := Nonempty (0 ≤ x ∧ x ≤ 255)
theorem wrap8 (x : Int) [h : In8 x] : IntKind.u8.wrap x = x := by obtain ⟨h⟩ := h; rw [IntKind.wrap_u8]; omega
theorem form_long {l : List UInt8} (hl : l.length = 32) (h : (24 : Int) < nth l 3) : formE l = false := by
  unfold formE
  have hn : (rdE l).nm.length = 24 := by
    rw [rdE_len hl]
    unfold rdL
    unfold nth at h
    omega
  have h3 : ((layE (rdE l)).getD 3 0) = UInt8.ofNat 24 := by
    unfold layE
    rw [hn]
    obtain ⟨a, b, h2⟩ := two_of (leB_length 2 (rdE l).sl.toNat)
    rw [h2]; rfl
  have : (layE (rdE l) == l) = false := by
    rw [beq_eq_false_iff_ne]
    intro e
    rw [e] at h3
    unfold nth at h
    rw [h3] at h
    simp at h
  rw [this]; simp
def egetR (l : List UInt8) : Int := if formE l then 0 else 8
set_option maxHeartbeats 4000000 in
theorem rget8_size (sp : Option Addr) (n cap : Nat) (hn : ¬ (n : Int) = 32) (w : World) :
    Calls Try.prog 33 #[.slice sp n cap] w fun r w' => r = .returned (.tuple #[.agg (eA zent), .int .i64 4]) ∧ Below w.heap.size w w' := by
  have hz := zeroE
  have HB : Hid (Below w.heap.size w (w.alloc (.cells (eA zent) 48))) := (Below.refl _ _).alloc (Nat.le_refl _) _
  have HI : Hid (EntAt (w.alloc (.cells (eA zent) 48)) w.heap.size zent) := ent_new w zent
  go_enter Try.func33, Try.ntmps33
  go_wp2_with (first | ((with_reducible show wpList _ _ _ ({ dst := _, op := Op.store 48 _ _, type := _, pos := _, after := _, guard := _ } :: _) _ _); refine wpList_store_ent rfl _ _ rfl (HI.out) rfl rfl ?_; intro w4 H4 b4 z4))
  exact bodyPost_ret (results_ent rfl _ H4 rfl) rfl ⟨rfl, HB.out.trans b4.bel⟩
attribute [local go_sem] wrapI wrap8
set_option maxRecDepth 100000 in
set_option maxHeartbeats 8000000 in
theorem rget8_main (bb off cap : Nat) (l : List UInt8) (hl : l.length = 32) (w : World) (hsrc : Src w (some ⟨bb, off, none⟩) l) (hc : (32 : Int) ≤ cap) (hm : (cap : Int) ≤ 9223372036854775807) :
    Calls Try.prog 33 #[.slice (some ⟨bb, off, none⟩) 32 cap] w fun r w' => r = .returned (.tuple #[.agg (eA (egetI l)), .int .i64 (egetR l)]) ∧ Below w.heap.size w w' := by
  have hz := zeroE
  have hbb : bb < w.heap.size := by
    obtain ⟨b', off', h1, h2, _⟩ := hsrc.at' (by omega)
    cases h1; exact h2
  have hb0 : Below w.heap.size w (w.alloc (.cells (eA zent) 48)) := (Below.refl _ _).alloc (Nat.le_refl _) _
  have HG0 : Hid (RGe w bb off l (w.alloc (.cells (eA zent) 48))) := ⟨hb0, ent_new w zent, hsrc.below hb0 (Nat.le_refl _), hl, hbb⟩
  have E1 : Hid (formE l = false → Ending.returned (.tuple #[.agg (eA zent), .int .i64 8]) = .returned (.tuple #[.agg (eA (egetI l)), .int .i64 (egetR l)])) := fun h => by rw [egetI, egetR, h]; rfl
  have E2 : Hid (formE l = true → Ending.returned (.tuple #[.agg (eA (rdE l)), .int .i64 0]) = .returned (.tuple #[.agg (eA (egetI l)), .int .i64 (egetR l)])) := fun h => by rw [egetI, egetR, h]; rfl
  have c3 := HG0.out.c 3
  have HL : Hid (l.length = 32) := hl
  by_cases h24 : 24 < nth l 3
  · have HF : Hid (formE l = false) := form_long hl h24
    clear hsrc hl hb0
    go_enter Try.func33, Try.ntmps33
    go_wp2_with (first | ((with_reducible show wpList _ _ _ ({ dst := _, op := Op.store 48 _ _, type := _, pos := _, after := _, guard := _ } :: _) _ _); refine wpList_store_ent rfl _ _ rfl (HG0.out.res) rfl rfl ?_; intro w4 H4 b4 z4))
    exact bodyPost_ret (results_ent (u := 3) rfl _ H4 rfl) rfl ⟨E1.out HF.out, HG0.out.b.trans b4.bel⟩
  have NG : ∀ W, Src W (some ⟨bb, off, none⟩) l → Calls Try.prog 51 #[.slice (some ⟨bb, off, none⟩) 2 cap] W fun e w' => e = .returned (.int .u64 (rdP l 0 2 : Int)) ∧ w' = W := by
    intro W hW
    exact rgetn_any (some ⟨bb, off + 0, none⟩) ((l.drop 0).take 2) 2 cap W (hW.part 0 2 (by omega) (by omega)) (by simp [hl]) (by omega) (by omega)
  have hs2 := slice_to bb off 32 cap 2 2 rfl (by omega) (by omega)
  have x0 := rdP_lt (l := l) (o := 0) (n := 2) hl (by omega) (by omega)
  have HRD : Hid (rdE l = ⟨(rdP l 0 2 : Int), nth l 2 == 1, (l.drop 4).take (rdL l)⟩) := rfl
  have hL := rdL_le l
  have HLn : Hid (((rdL l : Nat) : Int) = nth l 3) := by
    show _ = _
    unfold rdL
    unfold nth at h24 ⊢
    omega
  generalize rdP l 0 2 = A0 at *
  obtain ⟨LN, HLN⟩ : ∃ x, Hid (x = rdL l) := ⟨_, rfl⟩
  rw [← HLN.out] at HRD hL HLn
  have z0 := nth_lo l 3
  have hs4 := slice_slk bb off 32 cap 4 LN .i64 .u8 4 (4 + nth l 3) (by omega) (by rw [← HLn.out]; omega) (by omega) (by omega)
  have HSP : Hid (∀ W, Src W (some ⟨bb, off, none⟩) l → (convert 25 9 (.slice (some ⟨bb, off + 4, none⟩) LN (cap - 4))).run Try.prog W = .ok (.string (str ((l.drop 4).take LN))) W) := by
    intro W hW
    by_cases h0 : LN = 0
    · subst h0
      have := conv_str (w := W) (sp := some ⟨bb, off + 4, none⟩) (l := []) (Src.nil _ _) 0 (cap - 4) rfl
      simpa using this
    · exact conv_str (hW.part 4 LN (by omega) (by omega)) LN (cap - 4) (by simp [hl]; omega)
  have i0 : In64 (A0 : Int) := ⟨by omega⟩
  have i8 : In8 (4 + nth l 3) := ⟨by omega⟩
  clear hsrc hl hb0
  go_enter Try.func33, Try.ntmps33
  go_upto_region 5 with fail
  have gd := HG0.out.up (Below.refl _ _).drew
  go_cut [4] (fun s4 wc => ∃ q, s4 = .pointer (some ⟨q, 0, none⟩) ∧ RHe w bb off l q ⟨A0, nth l 2 == 1, (l.drop 4).take LN⟩ wc)
  case first =>
    refine wp_region_held_drew (S := (fun W => RGe w bb off l W)) (by kernel_rfl) gd (fun hH => ?_)
    generalize (w.alloc (.cells (eA zent) 48)).drew = W0 at *
    refine takeH (i := 0) (dst := some 16) (v := ?vt1) rfl rfl (by kernel_rfl) (by kernel_rfl) (by kernel_rfl) (fun _ _ _ h => h) rfl ?hyt1 hH rfl ?restt1
    case hyt1 => (intro W hW; have s2 := hW.c 2; have s3 := hW.c 3; clear hW; go_simp; try with_reducible rfl)
    (try simp only [Act.put, List.setIfInBounds_toArray, List.set_cons_zero, List.set_cons_succ])
    refine takeH (i := 1) (dst := some 17) (v := ?vt2) rfl rfl (by kernel_rfl) (by kernel_rfl) (by kernel_rfl) (fun _ _ _ h => h) rfl ?hyt2 hH rfl ?restt2
    case hyt2 => (intro W hW; have s2 := hW.c 2; have s3 := hW.c 3; clear hW; go_simp; try with_reducible rfl)
    (try simp only [Act.put, List.setIfInBounds_toArray, List.set_cons_zero, List.set_cons_succ])
    refine takeH (i := 4) (dst := some 20) (v := ?vt3) rfl rfl (by kernel_rfl) (by kernel_rfl) (by kernel_rfl) (fun _ _ _ h => h) rfl ?hyt3 hH rfl ?restt3
    case hyt3 => (intro W hW; have s2 := hW.c 2; have s3 := hW.c 3; clear hW; go_simp; try with_reducible rfl)
    (try simp only [Act.put, List.setIfInBounds_toArray, List.set_cons_zero, List.set_cons_succ])
    refine takeH (i := 5) (dst := some 21) (v := ?vt4) rfl rfl (by kernel_rfl) (by kernel_rfl) (by kernel_rfl) (fun _ _ _ h => h) rfl ?hyt4 hH rfl ?restt4
    case hyt4 => (intro W hW; have s2 := hW.c 2; have s3 := hW.c 3; clear hW; go_simp; try with_reducible rfl)
    (try simp only [Act.put, List.setIfInBounds_toArray, List.set_cons_zero, List.set_cons_succ])
    refine takeH (i := 6) (dst := some 22) (v := ?vt5) rfl rfl (by kernel_rfl) (by kernel_rfl) (by kernel_rfl) (fun _ _ _ h => h) rfl ?hyt5 hH rfl ?restt5
    case hyt5 => (intro W hW; have s2 := hW.c 2; have s3 := hW.c 3; clear hW; go_simp; try with_reducible rfl)
    (try simp only [Act.put, List.setIfInBounds_toArray, List.set_cons_zero, List.set_cons_succ])
    refine takeH (i := 7) (dst := some 23) (v := ?vt6) rfl rfl (by kernel_rfl) (by kernel_rfl) (by kernel_rfl) (fun _ _ _ h => h) rfl ?hyt6 hH rfl ?restt6
    case hyt6 => (intro W hW; have s2 := hW.c 2; have s3 := hW.c 3; clear hW; go_simp; try with_reducible rfl)
    (try simp only [Act.put, List.setIfInBounds_toArray, List.set_cons_zero, List.set_cons_succ])
    refine takeH (i := 8) (dst := some 24) (v := ?vt7) rfl rfl (by kernel_rfl) (by kernel_rfl) (by kernel_rfl) (fun _ _ _ h => h) rfl ?hyt7 hH rfl ?restt7
    case hyt7 => (intro W hW; have s2 := hW.c 2; have s3 := hW.c 3; clear hW; go_simp; try with_reducible rfl)
    (try simp only [Act.put, List.setIfInBounds_toArray, List.set_cons_zero, List.set_cons_succ])
    refine takeH (i := 9) (dst := some 25) (v := ?vt8) rfl rfl (by kernel_rfl) (by kernel_rfl) (by kernel_rfl) (fun _ _ _ h => h) rfl ?hyt8 hH rfl ?restt8
    case hyt8 => (intro W hW; have s2 := hW.c 2; have s3 := hW.c 3; clear hW; go_simp; try with_reducible rfl)
    (try simp only [Act.put, List.setIfInBounds_toArray, List.set_cons_zero, List.set_cons_succ])
    refine takeH (i := 10) (dst := some 26) (v := ?vt9) rfl rfl (by kernel_rfl) (by kernel_rfl) (by kernel_rfl) (fun _ _ _ h => h) rfl ?hyt9 hH rfl ?restt9
    case hyt9 => (intro W hW; have s2 := hW.c 2; have s3 := hW.c 3; clear hW; go_simp; try with_reducible rfl)
    (try simp only [Act.put, List.setIfInBounds_toArray, List.set_cons_zero, List.set_cons_succ])
    refine takeH (i := 11) (dst := some 27) (v := ?vt10) rfl rfl (by kernel_rfl) (by kernel_rfl) (by kernel_rfl) (fun _ _ _ h => h) rfl ?hyt10 hH rfl ?restt10
    case hyt10 => (intro W hW; have s2 := hW.c 2; have s3 := hW.c 3; clear hW; go_simp; try with_reducible rfl)
    (try simp only [Act.put, List.setIfInBounds_toArray, List.set_cons_zero, List.set_cons_succ])
    refine takeH (i := 12) (dst := some 28) (v := ?vt11) rfl rfl (by kernel_rfl) (by kernel_rfl) (by kernel_rfl) (fun _ _ _ h => h) rfl ?hyt11 hH rfl ?restt11
    case hyt11 => (intro W hW; have s2 := hW.c 2; have s3 := hW.c 3; clear hW; go_simp; try with_reducible rfl)
    (try simp only [Act.put, List.setIfInBounds_toArray, List.set_cons_zero, List.set_cons_succ])
    refine takeH (i := 13) (dst := some 29) (v := ?vt12) rfl rfl (by kernel_rfl) (by kernel_rfl) (by kernel_rfl) (fun _ _ _ h => h) rfl ?hyt12 hH rfl ?restt12
    case hyt12 => (intro W hW; have s2 := hW.c 2; have s3 := hW.c 3; clear hW; go_simp; try with_reducible rfl)
    (try simp only [Act.put, List.setIfInBounds_toArray, List.set_cons_zero, List.set_cons_succ])
    refine takeH (i := 14) (dst := some 30) (v := ?vt13) rfl rfl (by kernel_rfl) (by kernel_rfl) (by kernel_rfl) (fun _ _ _ h => h) rfl ?hyt13 hH rfl ?restt13
    case hyt13 => (intro W hW; have kx := HSP.out _ hW.src; clear hW; go_simp; try with_reducible rfl)
    (try simp only [Act.put, List.setIfInBounds_toArray, List.set_cons_zero, List.set_cons_succ])
    refine callH2 (i := 2) (j := 16) { dst := some 18, op := Go.Op.call { callee := Go.Callee.value (Go.Operand.func 51), args := #[Go.Operand.tmp 17], argTypes := #[25] }, type := 67, pos := "ref.go:53", after := #[{ on := 1, ground := Go.Ground.data }], guard := none } { dst := some 4, op := Go.Op.alloc 48, type := 0, pos := "ref.go:53", after := #[], guard := none } (by kernel_rfl) rfl rfl rfl rfl (fun K hK => ?_) (fun K hK => ?_)
    · go_simp
      refine (NG _ gd.src).mono ?_
      rintro r v14 ⟨rfl, hv14⟩
      rw [hv14]
      clear hv14 v14
      refine hK.out _ _ gd (fun hH => ?_)
      clear hK K
      (try simp only [Act.put, List.setIfInBounds_toArray, List.set_cons_zero, List.set_cons_succ])
      refine takeH (i := 3) (dst := some 19) (v := ?vt15) rfl rfl (by kernel_rfl) (by kernel_rfl) (by kernel_rfl) (fun _ _ _ h => h) rfl ?hyt15 hH rfl ?restt15
      case hyt15 => (intro W hW; have s2 := hW.c 2; have s3 := hW.c 3; clear hW; go_simp; try with_reducible rfl)
      (try simp only [Act.put, List.setIfInBounds_toArray, List.set_cons_zero, List.set_cons_succ])
      refine takeH (i := 15) (dst := some 31) (v := ?vt16) rfl rfl (by kernel_rfl) (by kernel_rfl) (by kernel_rfl) (fun _ _ _ h => h) rfl ?hyt16 hH rfl ?restt16
      case hyt16 => (intro W hW; refine exec_build_ent (a := A0) (b := nth l 2 == 1) (s := (l.drop 4).take LN) (x0 := Operand.tmp 19) (x1 := Operand.tmp 23) (x2 := Operand.tmp 30) ?_ ?_ ?_ ?_ <;> rfl)
      (try simp only [Act.put, List.setIfInBounds_toArray, List.set_cons_zero, List.set_cons_succ])
      refine callH (i := 16) { dst := some 4, op := Go.Op.alloc 48, type := 0, pos := "ref.go:53", after := #[], guard := none } (by kernel_rfl) rfl rfl (fun K hK => ?_)
      go_simp
      have al17 : Below W0.heap.size W0 (W0.alloc (.cells (eA zent) 48)) := (Below.refl _ _).alloc (Nat.le_refl _) _
      have d17 := gd.up al17
      have n17_ : EntAt (W0.alloc (.cells (eA zent) 48)) W0.heap.size zent := ent_new _ zent
      have lq17 := gd.res.lt
      clear hH al17
      refine hK.out _ _ d17 (fun hH => ?_)
      clear hK K
      (try simp only [Act.put, List.setIfInBounds_toArray, List.set_cons_zero, List.set_cons_succ])
      refine callH (i := 17) { dst := none, op := Go.Op.store 48 (Go.Operand.tmp 4) (Go.Operand.tmp 31), type := 0, pos := "ref.go:53", after := #[{ on := 16, ground := Go.Ground.data }, { on := 15, ground := Go.Ground.data }, { on := 2, ground := Go.Ground.chain }, { on := 0, ground := Go.Ground.phase }, { on := 1, ground := Go.Ground.phase }, { on := 2, ground := Go.Ground.phase }, { on := 3, ground := Go.Ground.phase }, { on := 4, ground := Go.Ground.phase }, { on := 5, ground := Go.Ground.phase }, { on := 6, ground := Go.Ground.phase }, { on := 7, ground := Go.Ground.phase }, { on := 8, ground := Go.Ground.phase }, { on := 9, ground := Go.Ground.phase }, { on := 10, ground := Go.Ground.phase }, { on := 11, ground := Go.Ground.phase }, { on := 12, ground := Go.Ground.phase }, { on := 13, ground := Go.Ground.phase }, { on := 14, ground := Go.Ground.phase }, { on := 15, ground := Go.Ground.phase }, { on := 16, ground := Go.Ground.phase }], guard := none } (by kernel_rfl) rfl rfl (fun K hK => ?_)
      rw [if_pos (by rfl)]
      refine wp_store_entO _ _ rfl n17_ (j := ⟨A0, nth l 2 == 1, (l.drop 4).take LN⟩) rfl rfl ?_
      intro v18 h18_ o18 z18
      have d18 := d17.only o18 lq17
      clear hH o18 z18
      refine hK.out _ _ d18 (fun hH => ?_)
      clear hK K
      (try simp only [Act.put])
      refine wpAnyH_done (by kernel_rfl) ?_ _
      clear hH
      go_wp2_with fail
      go_meet
      case rel => exact ⟨_, rfl, ⟨d18, h18_, lq17⟩⟩
    · go_simp
      have al19 : Below W0.heap.size W0 (W0.alloc (.cells (eA zent) 48)) := (Below.refl _ _).alloc (Nat.le_refl _) _
      have d19 := gd.up al19
      have n19_ : EntAt (W0.alloc (.cells (eA zent) 48)) W0.heap.size zent := ent_new _ zent
      have lq19 := gd.res.lt
      clear hH al19
      refine hK.out _ _ d19 (fun hH => ?_)
      clear hK K
      (try simp only [Act.put, List.setIfInBounds_toArray, List.set_cons_zero, List.set_cons_succ])
      refine callH (i := 2) { dst := some 18, op := Go.Op.call { callee := Go.Callee.value (Go.Operand.func 51), args := #[Go.Operand.tmp 17], argTypes := #[25] }, type := 67, pos := "ref.go:53", after := #[{ on := 1, ground := Go.Ground.data }], guard := none } (by kernel_rfl) rfl rfl (fun K hK => ?_)
      go_simp
      refine (NG _ d19.src).mono ?_
      rintro r v20 ⟨rfl, hv20⟩
      rw [hv20]
      clear hv20 v20
      refine hK.out _ _ d19 (fun hH => ?_)
      clear hK K
      (try simp only [Act.put, List.setIfInBounds_toArray, List.set_cons_zero, List.set_cons_succ])
      refine takeH (i := 3) (dst := some 19) (v := ?vt21) rfl rfl (by kernel_rfl) (by kernel_rfl) (by kernel_rfl) (fun _ _ _ h => h) rfl ?hyt21 hH rfl ?restt21
      case hyt21 => (intro W hW; have s2 := hW.c 2; have s3 := hW.c 3; clear hW; go_simp; try with_reducible rfl)
      (try simp only [Act.put, List.setIfInBounds_toArray, List.set_cons_zero, List.set_cons_succ])
      refine takeH (i := 15) (dst := some 31) (v := ?vt22) rfl rfl (by kernel_rfl) (by kernel_rfl) (by kernel_rfl) (fun _ _ _ h => h) rfl ?hyt22 hH rfl ?restt22
      case hyt22 => (intro W hW; refine exec_build_ent (a := A0) (b := nth l 2 == 1) (s := (l.drop 4).take LN) (x0 := Operand.tmp 19) (x1 := Operand.tmp 23) (x2 := Operand.tmp 30) ?_ ?_ ?_ ?_ <;> rfl)
      (try simp only [Act.put, List.setIfInBounds_toArray, List.set_cons_zero, List.set_cons_succ])
      refine callH (i := 17) { dst := none, op := Go.Op.store 48 (Go.Operand.tmp 4) (Go.Operand.tmp 31), type := 0, pos := "ref.go:53", after := #[{ on := 16, ground := Go.Ground.data }, { on := 15, ground := Go.Ground.data }, { on := 2, ground := Go.Ground.chain }, { on := 0, ground := Go.Ground.phase }, { on := 1, ground := Go.Ground.phase }, { on := 2, ground := Go.Ground.phase }, { on := 3, ground := Go.Ground.phase }, { on := 4, ground := Go.Ground.phase }, { on := 5, ground := Go.Ground.phase }, { on := 6, ground := Go.Ground.phase }, { on := 7, ground := Go.Ground.phase }, { on := 8, ground := Go.Ground.phase }, { on := 9, ground := Go.Ground.phase }, { on := 10, ground := Go.Ground.phase }, { on := 11, ground := Go.Ground.phase }, { on := 12, ground := Go.Ground.phase }, { on := 13, ground := Go.Ground.phase }, { on := 14, ground := Go.Ground.phase }, { on := 15, ground := Go.Ground.phase }, { on := 16, ground := Go.Ground.phase }], guard := none } (by kernel_rfl) rfl rfl (fun K hK => ?_)
      rw [if_pos (by rfl)]
      refine wp_store_entO _ _ rfl n19_ (j := ⟨A0, nth l 2 == 1, (l.drop 4).take LN⟩) rfl rfl ?_
      intro v23 h23_ o23 z23
      have d23 := d19.only o23 lq19
      clear hH o23 z23
      refine hK.out _ _ d23 (fun hH => ?_)
      clear hK K
      (try simp only [Act.put])
      refine wpAnyH_done (by kernel_rfl) ?_ _
      clear hH
      go_wp2_with fail
      go_meet
      case rel => exact ⟨_, rfl, ⟨d23, h23_, lq19⟩⟩
  case rest =>
    obtain ⟨q, rfl, hr⟩ := hcut
    rw [← HRD.out] at hr
    have HR : Hid _ := hr
    clear hr gd hs2 hs4 NG HG0 HSP HRD c3
    have hlq := HR.out.lq
    cases hrt : rtE (rdE l)
    · have HF : Hid (formE l = false) := by show _ = _; unfold formE; rw [hrt]; rfl
      have PN := rput8_no (rdE l) (by rw [rdE_len HL.out, ← HLN.out]; omega) hrt
      go_wp2_with (first | ((with_reducible show wpList _ _ _ ({ dst := _, op := Op.load 48 _, type := _, pos := _, after := _, guard := _ } :: _) _ _); refine wpList_load_ent rfl _ rfl (HR.out.ent) rfl ?_))
      refine (PN _).mono ?_
      rintro r v1 ⟨rfl, h1⟩
      have HC : Hid _ := HR.out.up h1
      clear HR h1 PN
      go_wp2_with (first | ((with_reducible show wpList _ _ _ ({ dst := _, op := Op.store 48 _ _, type := _, pos := _, after := _, guard := _ } :: _) _ _); refine wpList_store_ent rfl _ _ rfl (HC.out.g.res) rfl rfl ?_; intro w7 H7 b7 z7))
      exact bodyPost_ret (results_ent (u := 3) rfl _ H7 rfl) rfl ⟨E1.out HF.out, HC.out.g.b.trans b7.bel⟩
    · have PY := rput8_yes (rdE l) hrt
      have HLL : Hid ((layE (rdE l)).length = 32) := layE_length (rtE_enR hrt).nm
      go_wp2_with (first | ((with_reducible show wpList _ _ _ ({ dst := _, op := Op.load 48 _, type := _, pos := _, after := _, guard := _ } :: _) _ _); refine wpList_load_ent rfl _ rfl (HR.out.ent) rfl ?_))
      refine (PY _).mono ?_
      rintro r v1 ⟨v, rfl, ho, h1⟩
      have HC : Hid _ := HR.out.up h1
      obtain ⟨ao, cap', rfl, hso, _, _, _⟩ := ho.form
      rw [HLL.out]
      have k1 := conv_str hso 32 cap' HLL.out.symm
      have k2 := conv_str HC.out.g.src 32 cap HL.out.symm
      have kb := str_beq (layE (rdE l)) l
      clear HR h1 PY ho hso
      have HF : Hid (formE l = (layE (rdE l) == l)) := by show _ = _; unfold formE; rw [hrt]; rfl
      clear hrt
      cases hne : (layE (rdE l) == l)
      · rw [hne] at kb HF
        clear hne
        go_wp2_with (first | ((with_reducible show wpList _ _ _ ({ dst := _, op := Op.store 48 _ _, type := _, pos := _, after := _, guard := _ } :: _) _ _); refine wpList_store_ent rfl _ _ rfl (HC.out.g.res) rfl rfl ?_; intro w7 H7 b7 z7))
        exact bodyPost_ret (results_ent (u := 3) rfl _ H7 rfl) rfl ⟨E1.out HF.out, HC.out.g.b.trans b7.bel⟩
      · rw [hne] at kb HF
        clear hne
        go_wp2_with (first | ((with_reducible show wpList _ _ _ ({ dst := _, op := Op.load 48 _, type := _, pos := _, after := _, guard := _ } :: _) _ _); refine wpList_load_ent rfl _ rfl (HC.out.ent) rfl ?_) | ((with_reducible show wpList _ _ _ ({ dst := _, op := Op.store 48 _ _, type := _, pos := _, after := _, guard := _ } :: _) _ _); refine wpList_store_ent rfl _ _ rfl (HC.out.g.res) rfl rfl ?_; intro w7 H7 b7 z7))
        exact bodyPost_ret (results_ent (u := 3) rfl _ H7 rfl) rfl ⟨E2.out HF.out, HC.out.g.b.trans b7.bel⟩
theorem rget8_any (sp : Option Addr) (cap : Nat) (l : List UInt8) (w : World) (ha : Arg w sp cap l) :
    Calls Try.prog 33 #[.slice sp l.length cap] w fun r w' => r = .returned (.tuple #[.agg (eA (egetV l)), .int .i64 (egetE l)]) ∧ Below w.heap.size w w' := by
  by_cases hl : l.length = 32
  · have la := ha.len
    obtain ⟨b, off, rfl, _, _⟩ := ha.src.at' (by omega)
    unfold egetV egetE
    rw [if_pos hl, if_pos hl]
    have := rget8_main b off cap l hl w ha.src (by omega) (by omega)
    rw [hl]
    exact this
  · unfold egetV egetE
    rw [if_neg hl, if_neg hl]
    exact rget8_size sp l.length cap (by omega) w
end Go.Proofs.Ytabmogeicpphoaa
