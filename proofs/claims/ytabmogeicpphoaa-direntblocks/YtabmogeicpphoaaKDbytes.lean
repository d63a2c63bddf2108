/- leveelaw08.DirentBytes: the walk. -/
import Derived.Test.YtabmogeicpphoaaKEknown
import Derived.Test.YtabmogeicpphoaaKIbytes
namespace Go.Proofs.Ytabmogeicpphoaa
open Go.RowKit
/-- What lies there ahead of the comparison. -/
structure DW (w0 : World) (i : Ent) (sp : Option Addr) (cap : Nat) (l : List UInt8) (sx : Option Addr) (cx : Nat) (sy : Option Addr) (cy g p q : Nat) (W : World) : Prop where
  b : Below w0.heap.size w0 W
  ent : EntAt W w0.heap.size i
  x : Arg W sx cx (eputX i)
  y : Arg W sy cy (eputX i)
  own : Blk W g 5 (l ++ a5)
  arg : Arg W sp cap l
  p : EntAt W p (egetV l)
  q : EntAt W q (egetV l)
theorem DW.up {w0 W W' : World} {i : Ent} {sp sx sy : Option Addr} {cap cx cy g p q : Nat} {l : List UInt8} (h : DW w0 i sp cap l sx cx sy cy g p q W) (hb : Below W.heap.size W W') : DW w0 i sp cap l sx cx sy cy g p q W' :=
  ⟨h.b.trans (hb.mono h.b.size), h.ent.up hb, h.x.below hb (Nat.le_refl _), h.y.below hb (Nat.le_refl _), h.own.below hb h.own.lt, h.arg.below hb (Nat.le_refl _), h.p.up hb, h.q.up hb⟩
theorem neqE_refl (i : Ent) : (!eqE i i) = false := by rw [eqE_refl]; rfl
set_option maxRecDepth 100000 in
set_option maxHeartbeats 8000000 in
theorem direntBytes_any (i : Ent) (sp : Option Addr) (cap : Nat) (l s : List UInt8) (w : World) (hN : i.nm.length ≤ 9223372036854775807) (hS : s.length ≤ 9223372036854775807) (ha : Arg w sp cap l) :
    Calls Try.prog 6 #[.agg (eA i), .slice sp l.length cap, .string (str s)] w fun e w' => e = .returned (.bool true) ∧ Below w.heap.size w w' := by
  have la := ha.len
  have hz := zeroE
  have HX0 : Hid _ := PE.start w i
  have PA := eput_any i
  have RA := rput8_any i hN
  have DN := dname_any s
  have RN := rname_any s hS
  have HXL : Hid ((eputX i).length ≤ 32) := eputX_le i
  have HA : Hid (Arg w sp cap l) := ha
  clear ha hN hS
  go_enter Try.func6, Try.ntmps6
  go_wp2_with (first | ((with_reducible show wpList _ _ _ ({ dst := _, op := Op.load 48 _, type := _, pos := _, after := _, guard := _ } :: _) _ _); refine wpList_load_ent rfl _ rfl (HX0.out.ent) rfl ?_))
  refine (PA _).mono ?_
  rintro e w1 ⟨sx, cx, rfl, hx1, _, h1⟩
  have HX1 : Hid (PE w i w1) := HX0.out.up h1
  have HPX1 : Hid (Arg w1 sx cx (eputX i)) := hx1
  clear HX0 PA hx1 h1
  go_wp2_with (first | ((with_reducible show wpList _ _ _ ({ dst := _, op := Op.load 48 _, type := _, pos := _, after := _, guard := _ } :: _) _ _); refine wpList_load_ent rfl _ rfl (HX1.out.ent) rfl ?_))
  refine (RA _).mono ?_
  rintro e w2 ⟨sy, cy, rfl, hy2, _, h2⟩
  have HX2 : Hid (PE w i w2) := HX1.out.up h2
  have HPX2 : Hid (Arg w2 sx cx (eputX i)) := HPX1.out.below h2 (Nat.le_refl _)
  have HPY2 : Hid (Arg w2 sy cy (eputX i)) := hy2
  clear HX1 HPX1 RA hy2 h2
  have LT := lent_any sp cap l w2 (HA.out.below HX2.out.b (Nat.le_refl _))
  go_wp2_with fail
  refine LT.mono ?_
  rintro e w3 ⟨g, rfl, hg3, hG3, h3⟩
  have HX3 : Hid (PE w i w3) := HX2.out.up h3
  have HPX3 : Hid (Arg w3 sx cx (eputX i)) := HPX2.out.below h3 (Nat.le_refl _)
  have HPY3 : Hid (Arg w3 sy cy (eputX i)) := HPY2.out.below h3 (Nat.le_refl _)
  have HO3 : Hid (Blk w3 g 5 (l ++ a5)) := hg3
  clear HX2 HPX2 HPY2 LT hg3 h3
  have GT := eget_any (some ⟨g, 0, none⟩) (l.length + 8) l w3 (lent_arg HO3.out (by omega))
  go_wp2_with fail
  refine GT.mono ?_
  rintro e w4 ⟨rfl, h4⟩
  have HX4 : Hid (PE w i w4) := HX3.out.up h4
  have HPX4 : Hid (Arg w4 sx cx (eputX i)) := HPX3.out.below h4 (Nat.le_refl _)
  have HPY4 : Hid (Arg w4 sy cy (eputX i)) := HPY3.out.below h4 (Nat.le_refl _)
  have HO4 : Hid (Blk w4 g 5 (l ++ a5)) := HO3.out.below h4 HO3.out.lt
  clear HX3 HPX3 HPY3 HO3 GT h4
  have HZ : Hid (EntAt (w4.alloc (.cells (eA zent) 48)) w4.heap.size zent) := ent_new w4 zent
  have HZB : Hid (Below w4.heap.size w4 (w4.alloc (.cells (eA zent) 48))) := (Below.refl _ _).alloc (Nat.le_refl _) _
  go_upto_region 5 with (first | ((with_reducible show wpList _ _ _ ({ dst := _, op := Op.store 48 _ _, type := _, pos := _, after := _, guard := _ } :: _) _ _); refine wpList_store_ent rfl _ _ rfl (HZ.out) rfl rfl ?_; intro w5 H5 b5 z5))
  have h5 : Below w4.heap.size w4 w5 := HZB.out.trans b5.bel
  have HX5 : Hid (PE w i w5) := HX4.out.up h5
  have HPX5 : Hid (Arg w5 sx cx (eputX i)) := HPX4.out.below h5 (Nat.le_refl _)
  have HPY5 : Hid (Arg w5 sy cy (eputX i)) := HPY4.out.below h5 (Nat.le_refl _)
  have HO5 : Hid (Blk w5 g 5 (l ++ a5)) := HO4.out.below h5 HO4.out.lt
  have HI5 : Hid (EntAt w5 w4.heap.size (egetV l)) := H5
  clear HX4 HPX4 HPY4 HO4 HZ HZB h5 H5 b5 z5
  have RG := rget8_any sp cap l w5 (HA.out.below HX5.out.b (Nat.le_refl _))
  go_wp2_with fail
  refine RG.mono ?_
  rintro e w6 ⟨rfl, h6⟩
  have HX6 : Hid (PE w i w6) := HX5.out.up h6
  have HPX6 : Hid (Arg w6 sx cx (eputX i)) := HPX5.out.below h6 (Nat.le_refl _)
  have HPY6 : Hid (Arg w6 sy cy (eputX i)) := HPY5.out.below h6 (Nat.le_refl _)
  have HO6 : Hid (Blk w6 g 5 (l ++ a5)) := HO5.out.below h6 HO5.out.lt
  have HI6 : Hid (EntAt w6 w4.heap.size (egetV l)) := HI5.out.up h6
  clear HX5 HPX5 HPY5 HO5 HI5 RG h6
  have HZ : Hid (EntAt (w6.alloc (.cells (eA zent) 48)) w6.heap.size zent) := ent_new w6 zent
  have HZB : Hid (Below w6.heap.size w6 (w6.alloc (.cells (eA zent) 48))) := (Below.refl _ _).alloc (Nat.le_refl _) _
  go_upto_region 6 with (first | ((with_reducible show wpList _ _ _ ({ dst := _, op := Op.store 48 _ _, type := _, pos := _, after := _, guard := _ } :: _) _ _); refine wpList_store_ent rfl _ _ rfl (HZ.out) rfl rfl ?_; intro w7 H7 b7 z7))
  have h7 : Below w6.heap.size w6 w7 := HZB.out.trans b7.bel
  have bw : DW w i sp cap l sx cx sy cy g w4.heap.size w6.heap.size w7 := ⟨(HX6.out.up h7).b, (HX6.out.up h7).ent, HPX6.out.below h7 (Nat.le_refl _), HPY6.out.below h7 (Nat.le_refl _), HO6.out.below h7 HO6.out.lt, HA.out.below (HX6.out.up h7).b (Nat.le_refl _), HI6.out.up h7, H7⟩
  have BW7 : Hid _ := bw
  have kx := conv_str bw.x.src (eputX i).length cx rfl
  have ky := conv_str bw.y.src (eputX i).length cy rfl
  clear HX6 HPX6 HPY6 HO6 HI6 HZ HZB h7 H7 b7 z7 bw HA
  have hss : ((str (eputX i)).toList == (str (eputX i)).toList) = true := by simp
  generalize hE : eputE i = E at *
  generalize hGE : egetE l = GE at *
  have HNE : Hid ((!eqE (egetV l) (egetV l)) = false) := neqE_refl _
  go_wp2_with (first | ((with_reducible show wpList _ _ _ ({ dst := _, op := Op.load 48 _, type := _, pos := _, after := _, guard := _ } :: _) _ _); refine wpList_load_ent rfl _ rfl (BW7.out.p) rfl ?_) | ((with_reducible show wpList _ _ _ ({ dst := _, op := Op.load 48 _, type := _, pos := _, after := _, guard := _ } :: _) _ _); refine wpList_load_ent rfl _ rfl (BW7.out.q) rfl ?_) | ((with_reducible show wpList _ _ _ ({ dst := _, op := Op.binOp BinOp.neq 48 _ _ 48, type := _, pos := _, after := _, guard := _ } :: _) _ _); refine wpList_neq_ent rfl _ _ rfl rfl rfl HNE.out ?_))
  refine (DN _).mono ?_
  rintro e v1 ⟨rfl, k1⟩
  have M1 : Hid _ := BW7.out.up k1
  clear k1 kx ky DN BW7
  go_wp2_with fail
  refine (RN _).mono ?_
  rintro e v2 ⟨rfl, hv2⟩
  rw [hv2]
  clear hv2 v2 RN
  go_wp2_with fail
  refine (kept_any g sp cap l _ M1.out.own M1.out.arg).mono ?_
  rintro e v3 ⟨rfl, k3⟩
  have HM : Hid _ := M1.out.up k3
  clear k3 M1
  subst hE
  cases hr : rtE i
  · rw [show eputE i = 1 by unfold eputE; rw [hr]; rfl]
    go_wp2_with fail
    refine (eknown_any _).mono ?_
    rintro e v9 ⟨rfl, k9⟩
    go_wp2
    go_ret
    exact ⟨rfl, (HM.out.up k9).b⟩
  · have hpx : eputX i = layE i := by unfold eputX; rw [hr]; rfl
    obtain ⟨g1, g2⟩ := get_layE hr
    have GT := eget_any sx cx (eputX i) v3 HM.out.x
    rw [hpx, g1, g2, ← hpx] at GT
    clear g1 g2 hpx
    rw [show eputE i = 0 by unfold eputE; rw [hr]; rfl]
    clear hr
    go_wp2_with fail
    refine GT.mono ?_
    rintro e v4 ⟨rfl, k4⟩
    have HM4 : Hid _ := HM.out.up k4
    clear HM GT k4
    have HZ : Hid (EntAt (v4.alloc (.cells (eA zent) 48)) v4.heap.size zent) := ent_new v4 zent
    have HZB : Hid (Below v4.heap.size v4 (v4.alloc (.cells (eA zent) 48))) := (Below.refl _ _).alloc (Nat.le_refl _) _
    go_upto_region 11 with (first | ((with_reducible show wpList _ _ _ ({ dst := _, op := Op.store 48 _ _, type := _, pos := _, after := _, guard := _ } :: _) _ _); refine wpList_store_ent rfl _ _ rfl (HZ.out) rfl rfl ?_; intro v5 H5 b5 z5))
    have h5 : Below v4.heap.size v4 v5 := HZB.out.trans b5.bel
    have HM5 : Hid _ := HM4.out.up h5
    have HI5 : Hid _ := H5
    clear HM4 HZ HZB h5 H5 b5 z5
    have HEQ : Hid (eqE i i = true) := eqE_refl i
    go_wp2_with (first | ((with_reducible show wpList _ _ _ ({ dst := _, op := Op.load 48 _, type := _, pos := _, after := _, guard := _ } :: _) _ _); refine wpList_load_ent rfl _ rfl (HI5.out) rfl ?_) | ((with_reducible show wpList _ _ _ ({ dst := _, op := Op.load 48 _, type := _, pos := _, after := _, guard := _ } :: _) _ _); refine wpList_load_ent rfl _ rfl (HM5.out.ent) rfl ?_) | ((with_reducible show wpList _ _ _ ({ dst := _, op := Op.binOp BinOp.eql 48 _ _ 48, type := _, pos := _, after := _, guard := _ } :: _) _ _); refine wpList_eq_ent rfl _ _ rfl rfl rfl HEQ.out ?_))
    refine (eknown_any _).mono ?_
    rintro e v9 ⟨rfl, k9⟩
    go_wp2
    go_ret
    exact ⟨rfl, (HM5.out.up k9).b⟩
end Go.Proofs.Ytabmogeicpphoaa
