/- leveelaw08.DirentBlocks: the walk. -/
import Derived.Test.YtabmogeicpphoaaList8
namespace Go.Proofs.Ytabmogeicpphoaa
open Go.RowKit
/-- What lies there. -/
structure BL (w0 : World) (l : List UInt8) (V : Ent) (sp : Option Addr) (cap g p q : Nat) (W : World) : Prop where
  b : Below w0.heap.size w0 W
  own : Blk W g 5 (l ++ a5)
  arg : Arg W sp cap l
  p : EntAt W p V
  q : EntAt W q V
theorem BL.up {w0 W W' : World} {l : List UInt8} {V : Ent} {sp : Option Addr} {cap g p q : Nat} (h : BL w0 l V sp cap g p q W) (hb : Below W.heap.size W W') : BL w0 l V sp cap g p q W' :=
  ⟨h.b.trans (hb.mono h.b.size), h.own.below hb h.own.lt, h.arg.below hb (Nat.le_refl _), h.p.up hb, h.q.up hb⟩
theorem listV_len (l : List UInt8) : (listV l).length ≤ 8 := by
  unfold listV
  split
  · have := listX_len l (Nat.le_refl 8); simp [entsOf]; omega
  · simp
theorem listA_len (l : List UInt8) : (listA l).length ≤ 8 := by
  unfold listA
  split
  · have := listX_len l (Nat.le_refl 8); simp [atsOf]; omega
  · simp
set_option maxRecDepth 100000 in
set_option maxHeartbeats 8000000 in
theorem direntBlocks_any (sp : Option Addr) (cap : Nat) (l : List UInt8) (p : Int) (nm : List UInt8) (w : World) (ha : Arg w sp cap l) :
    Calls Try.prog 7 #[.slice sp l.length cap, .int .i64 p, .string (str nm)] w fun e w' => e = .returned (.bool true) ∧ Below w.heap.size w w' := by
  have la := ha.len
  have hz := zeroE
  have LT := lent_any sp cap l w ha
  have HA : Hid (Arg w sp cap l) := ha
  have HV8 : Hid ((listV l).length ≤ 8) := listV_len l
  have HA8 : Hid ((listA l).length ≤ 8) := listA_len l
  clear ha
  go_enter Try.func7, Try.ntmps7
  go_wp2_with fail
  refine LT.mono ?_
  rintro e w1 ⟨g, rfl, hg1, hG1, h1⟩
  have HO1 : Hid (Blk w1 g 5 (l ++ a5)) := hg1
  have HB1 : Hid (Below w.heap.size w w1) := h1
  have HA1 : Hid (Arg w1 sp cap l) := HA.out.below h1 (Nat.le_refl _)
  clear LT hg1 h1 HA
  have RD := dreadT_any (some ⟨g, 0, none⟩) (l.length + 8) l p w1 (lent_arg HO1.out (by omega))
  go_upto_region 2 with fail
  go_wp2_with fail
  refine RD.mono ?_
  rintro e w2 ⟨rfl, h2⟩
  have HO2 : Hid (Blk w2 g 5 (l ++ a5)) := HO1.out.below h2 HO1.out.lt
  have HB2 : Hid (Below w.heap.size w w2) := HB1.out.trans (h2.mono HB1.out.size)
  have HA2 : Hid (Arg w2 sp cap l) := HA1.out.below h2 (Nat.le_refl _)
  clear RD HO1 HB1 HA1 h2
  have HZ : Hid (EntAt (w2.alloc (.cells (eA zent) 48)) w2.heap.size zent) := ent_new w2 zent
  have HZB : Hid (Below w2.heap.size w2 (w2.alloc (.cells (eA zent) 48))) := (Below.refl _ _).alloc (Nat.le_refl _) _
  go_upto_region 3 with (first | ((with_reducible show wpList _ _ _ ({ dst := _, op := Op.store 48 _ _, type := _, pos := _, after := _, guard := _ } :: _) _ _); refine wpList_store_ent rfl _ _ rfl (HZ.out) rfl rfl ?_; intro w3 H3 b3 z3))
  have h3 : Below w2.heap.size w2 w3 := HZB.out.trans b3.bel
  have HO3 : Hid (Blk w3 g 5 (l ++ a5)) := HO2.out.below h3 HO2.out.lt
  have HB3 : Hid (Below w.heap.size w w3) := HB2.out.trans (h3.mono HB2.out.size)
  have HA3 : Hid (Arg w3 sp cap l) := HA2.out.below h3 (Nat.le_refl _)
  have HP3 : Hid (EntAt w3 w2.heap.size (ereadV l p)) := H3
  clear HO2 HB2 HA2 HZ HZB h3 H3 b3 z3
  have RR := rdreadT_any sp cap l p w3 HA3.out
  go_wp2_with fail
  refine RR.mono ?_
  rintro e w4 ⟨rfl, h4⟩
  have HO4 : Hid (Blk w4 g 5 (l ++ a5)) := HO3.out.below h4 HO3.out.lt
  have HB4 : Hid (Below w.heap.size w w4) := HB3.out.trans (h4.mono HB3.out.size)
  have HA4 : Hid (Arg w4 sp cap l) := HA3.out.below h4 (Nat.le_refl _)
  have HP4 : Hid (EntAt w4 w2.heap.size (ereadV l p)) := HP3.out.up h4
  clear RR HO3 HB3 HA3 HP3 h4
  have HZ : Hid (EntAt (w4.alloc (.cells (eA zent) 48)) w4.heap.size zent) := ent_new w4 zent
  have HZB : Hid (Below w4.heap.size w4 (w4.alloc (.cells (eA zent) 48))) := (Below.refl _ _).alloc (Nat.le_refl _) _
  go_upto_region 4 with (first | ((with_reducible show wpList _ _ _ ({ dst := _, op := Op.store 48 _ _, type := _, pos := _, after := _, guard := _ } :: _) _ _); refine wpList_store_ent rfl _ _ rfl (HZ.out) rfl rfl ?_; intro w5 H5 b5 z5))
  have h5 : Below w4.heap.size w4 w5 := HZB.out.trans b5.bel
  have M5 : Hid (BL w l (ereadV l p) sp cap g w2.heap.size w4.heap.size w5) := ⟨HB4.out.trans (h5.mono HB4.out.size), HO4.out.below h5 HO4.out.lt, HA4.out.below h5 (Nat.le_refl _), HP4.out.up h5, H5⟩
  clear HO4 HB4 HA4 HP4 HZ HZB h5 H5 b5 z5 hz
  have LI := list_in (some ⟨g, 0, none⟩) (l.length + 8) l w5 (lent_arg M5.out.own (by omega))
  go_wp2_with fail
  refine LI.mono ?_
  rintro e w6 ⟨v1, v2, rfl, r1, r2, h6⟩
  have M6 : Hid _ := M5.out.up h6
  have R1 : Hid (OwnEn w6 w5.heap.size v1 (listV l)) := r1
  have R2 : Hid (OwnI w6 w5.heap.size v2 (listA l)) := r2
  clear LI M5 r1 r2 h6
  have RL := rlist_any sp cap l w6 M6.out.arg
  go_upto_region 5 with fail
  go_wp2_with fail
  refine RL.mono ?_
  rintro e w7 ⟨v3, v4, rfl, r3, r4, h7⟩
  have M7 : Hid _ := M6.out.up h7
  obtain ⟨a1, c1, e1, s1, _, _⟩ := (R1.out.below h7).form
  obtain ⟨a2, c2, e2, s2, _, _, _⟩ := (R2.out.below h7 (Nat.le_refl _)).form
  obtain ⟨a3, c3, e3, s3, _, _⟩ := r3.form
  obtain ⟨a4, c4, e4, s4, _, _, _⟩ := r4.form
  subst e1; subst e2; subst e3; subst e4
  have SM := same8_any a1 a3 c1 c3 (listV l) w7 s1 s3 (by have := HV8.out; omega)
  have HIN : Hid (∀ W, Below w7.heap.size w7 W → Calls Try.prog 20 #[.slice a2 (listA l).length c2, .slice a4 (listA l).length c4] W fun e w' => e = .returned (.bool (listA l == listA l)) ∧ Below W.heap.size W w') := fun W hW => ints_any a2 a4 (listA l) (listA l) c2 c4 W (s2.below hW (Nat.le_refl _)) (s4.below hW (Nat.le_refl _)) (by have := HA8.out; omega) (by have := HA8.out; omega)
  clear RL M6 R1 R2 r3 r4 h7 s1 s2 s3 s4
  have HEQ : Hid (eqE (ereadV l p) (ereadV l p) = true) := eqE_refl _
  have hAA : (listA l == listA l) = true := by simp
  rw [hAA] at HIN
  generalize hE1 : ereadE l p = E1 at *
  generalize hE2 : listE l = E2 at *
  clear hE1 hE2 hAA
  generalize (listV l).length = n1 at *
  generalize (listA l).length = n2 at *
  go_upto_region 6 with fail
  go_wp2_with (first | ((with_reducible show wpList _ _ _ ({ dst := _, op := Op.load 48 _, type := _, pos := _, after := _, guard := _ } :: _) _ _); refine wpList_load_ent rfl _ rfl (M7.out.p) rfl ?_) | ((with_reducible show wpList _ _ _ ({ dst := _, op := Op.load 48 _, type := _, pos := _, after := _, guard := _ } :: _) _ _); refine wpList_load_ent rfl _ rfl (M7.out.q) rfl ?_) | ((with_reducible show wpList _ _ _ ({ dst := _, op := Op.binOp BinOp.eql 48 _ _ 48, type := _, pos := _, after := _, guard := _ } :: _) _ _); refine wpList_eq_ent rfl _ _ rfl rfl rfl HEQ.out ?_))
  refine SM.mono ?_
  rintro e w8 ⟨rfl, h8⟩
  have M8 : Hid _ := M7.out.up h8
  have IN := HIN.out w8 h8
  clear SM M7 h8 HIN
  go_wp2_with fail
  refine IN.mono ?_
  rintro e w9 ⟨rfl, h9⟩
  have M9 : Hid _ := M8.out.up h9
  clear IN M8 h9
  have FD := find_in (some ⟨g, 0, none⟩) (l.length + 8) l nm w9 (lent_arg M9.out.own (by omega))
  go_wp2_with fail
  refine FD.mono ?_
  rintro e w10 ⟨rfl, h10⟩
  have M10 : Hid _ := M9.out.up h10
  clear FD M9 h10
  have RF := rfind_any sp cap l nm w10 M10.out.arg
  go_wp2_with fail
  refine RF.mono ?_
  rintro e w11 ⟨rfl, h11⟩
  have M11 : Hid _ := M10.out.up h11
  clear RF M10 h11
  have RM := room_in (some ⟨g, 0, none⟩) (l.length + 8) l w11 (lent_arg M11.out.own (by omega))
  generalize findL l nm = FL at *
  go_wp2_with fail
  refine RM.mono ?_
  rintro e w12 ⟨rfl, h12⟩
  have M12 : Hid _ := M11.out.up h12
  clear RM M11 h12
  have RRM := rroom_any sp cap l w12 M12.out.arg
  go_wp2_with fail
  refine RRM.mono ?_
  rintro e w13 ⟨rfl, hw13⟩
  rw [hw13]
  clear hw13 w13 RRM
  have KP := kept_any g sp cap l w12 M12.out.own M12.out.arg
  generalize roomL l = RL at *
  go_wp2_with fail
  refine KP.mono ?_
  rintro e w14 ⟨rfl, h14⟩
  have M14 : Hid _ := M12.out.up h14
  clear KP M12 h14
  go_wp2_with fail
  refine (eknown_any _).mono ?_
  rintro e w15 ⟨rfl, h15⟩
  have hB := (M14.out.up h15).b
  go_wp2
  go_ret
  exact ⟨rfl, hB⟩
end Go.Proofs.Ytabmogeicpphoaa
