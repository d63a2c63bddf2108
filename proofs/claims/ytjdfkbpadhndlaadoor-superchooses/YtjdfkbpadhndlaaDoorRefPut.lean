/- leveeref04.Right and leveeref04.Put. -/
import Derived.Test.YtjdfkbpadhndlaaDoorRbytes
import Derived.Test.YtjdfkbpadhndlaaDoorPutMath
import Derived.Deep.Cut
namespace Go.Proofs.YtjdfkbpadhndlaaDoor
open Go.RowKit
attribute [local go_sem] wrapU
theorem rsright_bool (a i n : Int) (w : World) : Calls Tryd.prog 34 #[.agg #[.int .i64 a, .int .i64 i, .int .i64 n]] w fun e w' => e = .returned (.bool (okB a i n)) ∧ Below w.heap.size w w' := by
  by_cases h : okG a i n
  · have h1 := rright_ok h w
    rw [show okB a i n = true from h]; exact h1
  · have h1 := rright_no h w
    rw [show okB a i n = false by simpa [okG] using h]; exact h1
set_option maxHeartbeats 1000000 in
theorem rsright_any (g a i n : Int) (w : World) :
    Calls Tryd.prog 25 #[.agg #[.int .i64 g, .int .i64 a, .int .i64 i, .int .i64 n]] w fun e w' => e = .returned (.bool (okS g a i n)) ∧ Below w.heap.size w w' := by
  have hb : Below w.heap.size w (w.alloc (.cells #[.int .i64 g, .int .i64 a, .int .i64 i, .int .i64 n] 25)) := (Below.refl _ _).alloc (Nat.le_refl _) _
  have RT := rsright_bool a i n
  by_cases h1 : g < 1
  · go_enter Tryd.func25, Tryd.ntmps25
    go_wp2
    go_ret
    exact ⟨retb (by rw [okS, decide_eq_false (show ¬ 1 ≤ g by omega)]; rfl), hb⟩
  by_cases h2 : 4611686018427387904 < g
  · go_enter Tryd.func25, Tryd.ntmps25
    go_wp2
    go_ret
    exact ⟨retb (by rw [okS, decide_eq_false (show ¬ g ≤ 4611686018427387904 by omega), Bool.and_false]; rfl), hb⟩
  · have HE : Hid (okS g a i n = okB a i n) := by show _ = _; rw [okS, decide_eq_true (show 1 ≤ g by omega), decide_eq_true (show g ≤ 4611686018427387904 by omega)]; rfl
    generalize okB a i n = o at RT HE
    go_enter Tryd.func25, Tryd.ntmps25
    go_wp2_with fail
    refine (RT _).mono ?_
    rintro e w1 ⟨rfl, hb1⟩
    go_wp2
    go_ret
    exact ⟨retb HE.out.symm, hb.trans (hb1.mono hb.size)⟩
/-- 'append' onto bytes that leave no room, whosever they are: new memory. -/
theorem append_new {w : World} {base b off : Nat} {l m : List UInt8} {sp : Option Addr} (ty : TypeId) (cap c : Nat) (h : Src w (some ⟨b, off, none⟩) l) (hs : Src w sp m) (hm : 0 < m.length) (hcap : cap < l.length + m.length) (hbase : base ≤ w.heap.size) (hb : l.length + m.length ≤ 140737488355328) :
    ∃ v' w', (Builtin.append_ #[26, 26] ty #[.slice (some ⟨b, off, none⟩) l.length cap, .slice sp m.length c]).run Tryd.prog w = .ok v' w' ∧ Own w' base v' (l ++ m) ∧ Below base w w' := by
  obtain ⟨i0, hi, hz0, hz1, hz2⟩ := info_parts Tryd.info5
  obtain ⟨b2, off2, rfl, _, hc2⟩ := hs.at' hm
  have cs : ∀ (bb oo : Nat) (x : List UInt8), (∀ j, (hj : j < x.length) → w.cell? ⟨bb, oo + j, none⟩ = some (bv x[j])) → ∀ j u, (bvs x)[j]? = some u → w.cell? ((⟨bb, oo, none⟩ : Addr).add j) = some u := by
    intro bb oo x hx j u hj
    have hjl : j < x.length := by
      rcases Nat.lt_or_ge j x.length with h | h
      · exact h
      · rw [List.getElem?_eq_none (by rw [bvs_length]; exact h)] at hj; cases hj
    rw [addr_add, hx j hjl, ← hj]; simp [bvs, hjl]
  have hl1 : ∀ j, (hj : j < l.length) → w.cell? ⟨b, off + j, none⟩ = some (bv l[j]) := fun j hj => h.cell j hj
  have hr := run_append_grow (P := Tryd.prog) w 26 ty 5 i0 _ Tryd.underlying26 hi hz0 ⟨b, off, none⟩ l.length cap (bvs l) (by rw [bvs_length, hz1, Nat.mul_one]) (cs b off l hl1) ⟨b2, off2, none⟩ m.length c (bvs m) (by rw [bvs_length, hz1, Nat.mul_one]) (cs b2 off2 m hc2) hcap (by omega) (growslice_fits (by omega) (by rw [hz2]; omega))
  have hge := grownCap_ge w (l.length + m.length) cap 5
  have hcm : grownCap w (l.length + m.length) cap 5 ≤ maxLen := grownCap_le_maxLen w _ cap 5 (by unfold maxLen; omega)
  refine ⟨_, _, hr, ⟨by rw [bvs_length]; simp, .inr ⟨w.heap.size, _, _, by rw [List.length_append], hbase, heap_alloc_new w.drew _, by rw [List.length_append]; exact hge, hcm, ?_, ?_⟩⟩, ?_⟩
  · simp only [Array.size_append, List.size_toArray, size_zeroCells, bvs_length]
    show l.length + m.length + (grownCap w (l.length + m.length) cap 5 - (l.length + m.length)) * 1 = _
    omega
  · rw [Array.toList_append, Array.toList_append, bvs_append, show (bvs l).toArray.toList ++ (bvs m).toArray.toList = bvs l ++ bvs m from rfl, show (l ++ m).length * 1 = (bvs l ++ bvs m).length by simp [bvs_length]]
    exact List.take_left
  · exact (Below.refl _ _).drew.alloc hbase _
theorem wpList_append_new {w : World} {ops : Array Oper} {rest : List Oper} {o : Oper} {a : Act} {Q : Exit → Act → World → Prop} (hgd : o.guard = none) (s x : Operand)
    (ho : o.op = .call { callee := .builtin .append, args := #[s, x], argTypes := #[26, 26] }) (base : Nat) (l m : List UInt8) (b off cap : Nat) (hs : a.eval s = .slice (some ⟨b, off, none⟩) l.length cap) (sp : Option Addr) (n c : Nat) (hx : a.eval x = .slice sp n c) (hn : n = m.length)
    (hown : Src w (some ⟨b, off, none⟩) l) (hsrc : Src w sp m) (hm : 0 < m.length) (hcap : cap < l.length + m.length) (hbase : base ≤ w.heap.size) (hb : l.length + m.length ≤ 140737488355328)
    (h : ∀ v' w', Own w' base v' (l ++ m) → Below base w w' → wpList Tryd.prog ops Q rest (a.put o.dst v') w') : wpList Tryd.prog ops Q (o :: rest) a w := by
  subst hn
  refine wpList_plain hgd fun K hK => ?_
  obtain ⟨v', w', hrun, h1, h2⟩ := append_new o.type cap c hown hsrc hm hcap hbase hb
  unfold Oper.wp execOp
  simp only [ho, resolve, invoke, builtin]
  simp [hs, hx, hrun, Result.andThen]
  exact hK _ _ (h v' w' h1 h2)
set_option maxHeartbeats 1000000 in
theorem rput_no (g a i n : Int) (w : World) (hok : okS g a i n = false) :
    Calls Tryd.prog 9 #[.agg #[.int .i64 g, .int .i64 a, .int .i64 i, .int .i64 n]] w fun e w' => e = .returned (.tuple #[.slice none 0 0, .int .i64 1]) ∧ Below w.heap.size w w' := by
  have hb : Below w.heap.size w (w.alloc (.cells #[.int .i64 g, .int .i64 a, .int .i64 i, .int .i64 n] 25)) := (Below.refl _ _).alloc (Nat.le_refl _) _
  have RT := rsright_any g a i n
  rw [hok] at RT
  go_enter Tryd.func9, Tryd.ntmps9
  go_wp2_with fail
  refine (RT _).mono ?_
  rintro e w1 ⟨rfl, hb1⟩
  go_wp2
  go_ret2
  exact ⟨rfl, hb.trans (hb1.mono hb.size)⟩
def slen : Value → Nat
  | .slice _ n _ => n
  | _ => 0
theorem pre_step (g a i n : Nat) (k : Nat) : (pre18 g a i n ++ List.replicate k 0) ++ [0] = pre18 g a i n ++ List.replicate (k + 1) 0 := by
  rw [List.append_assoc, ← List.replicate_succ']
theorem Own.mono {w : World} {base b' : Nat} {v : Value} {l : List UInt8} (h : Own w base v l) (hb : b' ≤ base) : Own w b' v l := by
  obtain ⟨h1, h2⟩ := h
  refine ⟨h1, ?_⟩
  rcases h2 with h2 | ⟨g, cap, cur, hv, hg, rest⟩
  · exact .inl h2
  · exact .inr ⟨g, cap, cur, hv, by omega, rest⟩
set_option maxRecDepth 100000 in
set_option maxHeartbeats 4000000 in
theorem rput_ok (g a i n : Nat) (w : World) (hok : okS g a i n = true) :
    Calls Tryd.prog 9 #[.agg #[.int .i64 (g : Int), .int .i64 (a : Int), .int .i64 (i : Int), .int .i64 (n : Int)]] w fun e w' => ∃ v, e = .returned (.tuple #[v, .int .i64 0]) ∧ Own w' w.heap.size v (putL g a i n) ∧ Below w.heap.size w w' := by
  have hb : Below w.heap.size w (w.alloc (.cells #[.int .i64 (g : Int), .int .i64 (a : Int), .int .i64 (i : Int), .int .i64 (n : Int)] 25)) := (Below.refl _ _).alloc (Nat.le_refl _) _
  have HR0 : Hid (Row4 (w.alloc (.cells #[.int .i64 (g : Int), .int .i64 (a : Int), .int .i64 (i : Int), .int .i64 (n : Int)] 25)) w.heap.size 25 g a i n) := heap_alloc_new _ _
  have RT := rsright_any g a i n
  rw [hok] at RT
  obtain ⟨hg1, hg2, hgeo⟩ := okS_iff.1 hok
  have hbx := hgeo.box
  have hn16 := hgeo.le16
  have u1 : InU (g : Int) := ⟨by omega⟩
  have u2 : InU (a : Int) := ⟨by omega⟩
  have u3 : InU (i : Int) := ⟨by omega⟩
  have u4 : InU (n : Int) := ⟨by omega⟩
  have kc := fun (w : World) (C : Array Value) (n c : Nat) => Lib.run_convert_bytes_const (P := Tryd.prog) w 26 5 C n c Tryd.underlying26 Tryd.underlying5
  go_enter Tryd.func9, Tryd.ntmps9
  go_wp2_with fail
  refine (RT _).mono ?_
  rintro e w1 ⟨rfl, hb1⟩
  clear RT
  have HR1 : Hid (Row4 w1 w.heap.size 25 g a i n) := HR0.out.up hb1
  have hB1 : Below w.heap.size w w1 := hb.trans (hb1.mono hb.size)
  have HB1 : Hid (Below w.heap.size w w1) := hB1
  have hl1 : w.heap.size < w1.heap.size := HR1.out.lt
  clear HR0 hb hb1 hB1
  have al1 : Below w1.heap.size w1 (w1.alloc (.cells (bvs markL).toArray 5 (4, 5))) := (Below.refl _ _).alloc (Nat.le_refl _) _
  obtain ⟨w2, HW2⟩ : ∃ w2, Hid (w2 = w1.alloc (.cells (bvs markL).toArray 5 (4, 5))) := ⟨_, rfl⟩
  have hm2 : Src w2 (some ⟨w1.heap.size, 0, none⟩) markL := by rw [HW2.out]; exact src_row (heap_alloc_new _ _)
  have hR2 : Row4 w2 w.heap.size 25 g a i n := by rw [HW2.out]; exact HR1.out.up al1
  have hB2 : Below w.heap.size w w2 := by rw [HW2.out]; exact HB1.out.trans (al1.mono HB1.out.size)
  go_upto_region 4 with fail
  rw [show w1.alloc (.cells #[.int .u8 76, .int .u8 86, .int .u8 69, .int .u8 69] 5 (4, 5)) = w2 from HW2.out.symm]
  clear HW2 al1 HR1 HB1 kc
  have hl2 : w.heap.size < w2.heap.size := hR2.lt
  have c2 := hR2.c0
  have RB : Calls Tryd.prog 26 #[.int .u64 (g : Int), .int .i64 8] w2 fun e w' => ∃ v, e = .returned v ∧ Own w' w2.heap.size v (leB 8 g) ∧ Below w2.heap.size w2 w' := rbytes_any g 8 w2 (by omega) (by omega)
  have HR2 : Hid (Row4 w2 w.heap.size 25 g a i n) := hR2
  have HB2 : Hid (Below w.heap.size w w2) := hB2
  have HM2 : Hid (Src w2 (some ⟨w1.heap.size, 0, none⟩) markL) := hm2
  clear hm2
  clear hR2 hB2
  go_wp2_with fail
  clear c2
  refine RB.mono ?_
  rintro e w2b ⟨v2, rfl, o2, b2⟩
  clear RB
  obtain ⟨p2, k2, rfl, s2, _, _, n2⟩ := o2.form
  rw [leB_length]
  have HR2b : Hid (Row4 w2b w.heap.size 25 g a i n) := HR2.out.up b2
  have HB2b : Hid (Below w.heap.size w w2b) := HB2.out.trans (b2.mono HB2.out.size)
  have hl2b : w.heap.size < w2b.heap.size := HR2b.out.lt
  have hs2 : Src w2b (some ⟨w1.heap.size, 0, none⟩) markL := HM2.out.below b2 (Nat.le_refl _)
  clear o2
  go_upto_region 5 with (at_builtin; refine wpList_append_new rfl (.tmp 10) (.tmp 14) rfl (w.heap.size + 1) markL (leB 8 g) w1.heap.size 0 4 rfl _ _ _ rfl (leB_length _ _).symm hs2 s2 (by rw [leB_length]; omega) (by rw [leB_length]; simp [markL]) (by omega) (by rw [leB_length]; simp [markL]) ?_; intro V3 w3 hO3 g3)
  have hR3 : Row4 w3 w.heap.size 25 g a i n := HR2b.out.below g3 (by omega)
  have hB3 : Below w.heap.size w w3 := HB2b.out.trans (g3.mono (by omega))
  have hl3 : w.heap.size < w3.heap.size := hR3.lt
  clear hs2 s2 b2 g3 n2 HR2b HB2b hl2b HM2
  have c3 := hR3.c1
  have RB : Calls Tryd.prog 26 #[.int .u64 (a : Int), .int .i64 2] w3 fun e w' => ∃ v, e = .returned v ∧ Own w' w3.heap.size v (leB 2 a) ∧ Below w3.heap.size w3 w' := rbytes_any a 2 w3 (by omega) (by omega)
  have HR3 : Hid (Row4 w3 w.heap.size 25 g a i n) := hR3
  have HB3 : Hid (Below w.heap.size w w3) := hB3
  have HO3 : Hid (Own w3 (w.heap.size + 1) V3 (markL ++ leB 8 g)) := hO3
  clear hO3
  clear hR3 hB3
  go_wp2_with fail
  clear c3
  refine RB.mono ?_
  rintro e w3b ⟨v3, rfl, o3, b3⟩
  clear RB
  obtain ⟨p3, k3, rfl, s3, _, _, n3⟩ := o3.form
  rw [leB_length]
  have HR3b : Hid (Row4 w3b w.heap.size 25 g a i n) := HR3.out.up b3
  have HB3b : Hid (Below w.heap.size w w3b) := HB3.out.trans (b3.mono HB3.out.size)
  have hl3b : w.heap.size < w3b.heap.size := HR3b.out.lt
  have hs3 : Own w3b (w.heap.size + 1) V3 (markL ++ leB 8 g) := HO3.out.below b3 (Nat.le_refl _)
  clear o3
  go_upto_region 6 with (at_builtin; refine wpList_append_bytes rfl (.tmp 16) (.tmp 21) rfl (w.heap.size + 1) (markL ++ leB 8 g) (leB 2 a) _ rfl _ _ _ rfl (leB_length _ _).symm hs3 s3 (by omega) (by simp [leB_length, markL]) n3 ?_; intro V4 w4 hO4 g4)
  have hR4 : Row4 w4 w.heap.size 25 g a i n := HR3b.out.below g4 (by omega)
  have hB4 : Below w.heap.size w w4 := HB3b.out.trans (g4.mono (by omega))
  have hl4 : w.heap.size < w4.heap.size := hR4.lt
  clear hs3 s3 b3 g4 n3 HR3b HB3b hl3b HO3
  have c4 := hR4.c2
  have RB : Calls Tryd.prog 26 #[.int .u64 (i : Int), .int .i64 2] w4 fun e w' => ∃ v, e = .returned v ∧ Own w' w4.heap.size v (leB 2 i) ∧ Below w4.heap.size w4 w' := rbytes_any i 2 w4 (by omega) (by omega)
  have HR4 : Hid (Row4 w4 w.heap.size 25 g a i n) := hR4
  have HB4 : Hid (Below w.heap.size w w4) := hB4
  have HO4 : Hid (Own w4 (w.heap.size + 1) V4 ((markL ++ leB 8 g) ++ leB 2 a)) := hO4
  clear hO4
  clear hR4 hB4
  go_wp2_with fail
  clear c4
  refine RB.mono ?_
  rintro e w4b ⟨v4, rfl, o4, b4⟩
  clear RB
  obtain ⟨p4, k4, rfl, s4, _, _, n4⟩ := o4.form
  rw [leB_length]
  have HR4b : Hid (Row4 w4b w.heap.size 25 g a i n) := HR4.out.up b4
  have HB4b : Hid (Below w.heap.size w w4b) := HB4.out.trans (b4.mono HB4.out.size)
  have hl4b : w.heap.size < w4b.heap.size := HR4b.out.lt
  have hs4 : Own w4b (w.heap.size + 1) V4 ((markL ++ leB 8 g) ++ leB 2 a) := HO4.out.below b4 (Nat.le_refl _)
  clear o4
  go_upto_region 7 with (at_builtin; refine wpList_append_bytes rfl (.tmp 23) (.tmp 28) rfl (w.heap.size + 1) ((markL ++ leB 8 g) ++ leB 2 a) (leB 2 i) _ rfl _ _ _ rfl (leB_length _ _).symm hs4 s4 (by omega) (by simp [leB_length, markL]) n4 ?_; intro V5 w5 hO5 g5)
  have hR5 : Row4 w5 w.heap.size 25 g a i n := HR4b.out.below g5 (by omega)
  have hB5 : Below w.heap.size w w5 := HB4b.out.trans (g5.mono (by omega))
  have hl5 : w.heap.size < w5.heap.size := hR5.lt
  clear hs4 s4 b4 g5 n4 HR4b HB4b hl4b HO4
  have c5 := hR5.c3
  have RB : Calls Tryd.prog 26 #[.int .u64 (n : Int), .int .i64 2] w5 fun e w' => ∃ v, e = .returned v ∧ Own w' w5.heap.size v (leB 2 n) ∧ Below w5.heap.size w5 w' := rbytes_any n 2 w5 (by omega) (by omega)
  have HR5 : Hid (Row4 w5 w.heap.size 25 g a i n) := hR5
  have HB5 : Hid (Below w.heap.size w w5) := hB5
  have HO5 : Hid (Own w5 (w.heap.size + 1) V5 (((markL ++ leB 8 g) ++ leB 2 a) ++ leB 2 i)) := hO5
  clear hO5
  clear hR5 hB5
  go_wp2_with fail
  clear c5
  refine RB.mono ?_
  rintro e w5b ⟨v5, rfl, o5, b5⟩
  clear RB
  obtain ⟨p5, k5, rfl, s5, _, _, n5⟩ := o5.form
  rw [leB_length]
  have HR5b : Hid (Row4 w5b w.heap.size 25 g a i n) := HR5.out.up b5
  have HB5b : Hid (Below w.heap.size w w5b) := HB5.out.trans (b5.mono HB5.out.size)
  have hl5b : w.heap.size < w5b.heap.size := HR5b.out.lt
  have hs5 : Own w5b (w.heap.size + 1) V5 (((markL ++ leB 8 g) ++ leB 2 a) ++ leB 2 i) := HO5.out.below b5 (Nat.le_refl _)
  clear o5
  go_wp2_with (at_builtin; refine wpList_append_bytes rfl (.tmp 30) (.tmp 35) rfl (w.heap.size + 1) (((markL ++ leB 8 g) ++ leB 2 a) ++ leB 2 i) (leB 2 n) _ rfl _ _ _ rfl (leB_length _ _).symm hs5 s5 (by omega) (by simp [leB_length, markL]) n5 ?_; intro V6 w6 hO6 g6)
  have hR6 : Row4 w6 w.heap.size 25 g a i n := HR5b.out.below g6 (by omega)
  have hB6 : Below w.heap.size w w6 := HB5b.out.trans (g6.mono (by omega))
  have hl6 : w.heap.size < w6.heap.size := hR6.lt
  clear hs5 s5 b5 g6 n5 HR5b HB5b hl5b HO5
  have h18 : Own w6 (w.heap.size + 1) V6 (pre18 g a i n ++ List.replicate 0 0) := by rw [List.replicate_zero, List.append_nil]; exact hO6
  clear hO6 hR6 u1 u2 u3 u4
  go_loopw [4] (fun v wr => ∃ k : Nat, 18 + k ≤ 252 ∧ Own wr (w.heap.size + 1) v (pre18 g a i n ++ List.replicate k 0) ∧ Below w.heap.size w wr ∧ w.heap.size < wr.heap.size) (fun v _ => 252 - slen v)
  case atStart => exact ⟨0, by omega, h18, hB6, hl6⟩
  case round =>
    clear h18 hB6 hl6
    obtain ⟨k, hk, hO, hB, hl⟩ := hrel
    obtain ⟨ao, cap, rfl, hs, _, _, hnil⟩ := hO.form
    have hlen : (pre18 g a i n ++ List.replicate k 0).length = 18 + k := by simp [pre18_length]
    rw [hlen] at hO ⊢
    have HO : Hid (Own wr (w.heap.size + 1) (.slice ao (18 + k) cap) (pre18 g a i n ++ List.replicate k 0)) := hO
    clear hO
    have HST : Hid _ := pre_step g a i n k
    by_cases hlt : ((18 + k : Nat) : Int) < 252
    · go_upto_region 9 with fail
      have hO := HO.out
      generalize Value.slice ao (18 + k) cap = V at hO ⊢
      clear HO hs hnil
      go_wp2_with (at_builtin; refine wpList_append_bytes rfl (.tmp 40) (.tmp 41) rfl (w.heap.size + 1) _ [0] _ rfl _ _ _ rfl rfl (hO.below ((Below.refl _ _).alloc (Nat.le_refl _) _) (Nat.le_refl _)) (Blk.src (t := 5) (heap_alloc_new _ _)) (by simp; omega) (by rw [hlen]; simp; omega) (fun h => by cases h) ?_; intro v' wn hO1 hb1)
      rw [HST.out] at hO1
      obtain ⟨ao', cap', rfl, _⟩ := hO1.form
      have hz := hb1.size
      have hz2 : (wr.alloc (.cells #[.int .u8 0] 5)).heap.size = wr.heap.size + 1 := by show (wr.heap.push _).size = _; simp
      exact ⟨⟨k + 1, by omega, hO1, (hB.alloc (by omega) _).trans (hb1.mono (by omega)), by omega⟩, by simp [slen, pre18_length]; omega⟩
    · obtain rfl : k = 234 := by omega
      rw [show 18 + 234 = 252 from rfl] at HO hlen ⊢
      have hs2 : Src wr ao (pre252 g a i n) := hs
      have RS : Calls Tryd.prog 27 #[.slice ao 252 cap] wr fun e w' => e = .returned (.int .u32 (sumN (pre252 g a i n) : Int)) ∧ w' = wr := by
        have h9 := rsum_any ao (pre252 g a i n) cap wr hs2 (by rw [pre252_length]; omega)
        rw [pre252_length] at h9; exact h9
      have hsum := sumN_lt (pre252 g a i n)
      have u5 : InU (sumN (pre252 g a i n) : Int) := ⟨by omega⟩
      have RB : Calls Tryd.prog 26 #[.int .u64 (sumN (pre252 g a i n) : Int), .int .i64 4] wr fun e w' => ∃ v, e = .returned v ∧ Own w' wr.heap.size v (leB 4 (sumN (pre252 g a i n))) ∧ Below wr.heap.size wr w' := rbytes_any (sumN (pre252 g a i n)) 4 wr (by omega) (by omega)
      have HP : Hid (putL g a i n = (pre18 g a i n ++ List.replicate 234 0) ++ leB 4 (sumN (pre252 g a i n))) := putL_eq g a i n
      generalize sumN (pre252 g a i n) = S at *
      clear hs2 hs hnil HST hlt
      go_wp2_with fail
      refine RS.mono ?_
      rintro e w7 ⟨rfl, h7⟩
      rw [h7]
      clear RS h7 w7
      go_wp2_with fail
      refine RB.mono ?_
      rintro e w8 ⟨v8, rfl, o8, b8⟩
      obtain ⟨p8, k8, rfl, s8, _, _, n8⟩ := o8.form
      have hO := HO.out.below b8 (Nat.le_refl _)
      rw [leB_length]
      generalize Value.slice ao 252 cap = V at hO ⊢
      have hz8 := b8.size
      clear RB HO o8
      go_wp2_with (at_builtin; refine wpList_append_bytes rfl (.tmp 43) (.tmp 47) rfl (w.heap.size + 1) _ (leB 4 S) _ rfl _ _ _ rfl (leB_length _ _).symm hO s8 (by omega) (by rw [hlen, leB_length]; omega) n8 ?_; intro V9 w9 hO9 g9)
      rw [← HP.out] at hO9
      clear hO s8
      go_wp2
      go_ret2
      exact ⟨_, rfl, hO9.mono (by omega), hB.trans ((b8.mono (by omega)).trans (g9.mono (by omega)))⟩
end Go.Proofs.YtjdfkbpadhndlaaDoor
