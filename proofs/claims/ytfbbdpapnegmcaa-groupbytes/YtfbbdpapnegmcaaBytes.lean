/- leveelaw06.GroupBytes. -/
import Derived.Test.YtfbbdpapnegmcaaBboth
namespace Go.Proofs.Ytfbbdpapnegmcaa
open Go.RowKit
/-- All that GroupBytes has laid. -/
structure BW (w0 : World) (a : Int) (i : Int) (n : Int) (ph : Nat) (no : Int) (bl : List UInt8) (sl : List UInt8) (pr : Nat) (sb : Option Addr) (cb : Nat) (ss : Option Addr) (cs : Nat) (pp : Nat) (n1 : Int) (b1 : List UInt8) (l1 : List UInt8) (pq : Nat) (x1 : Int) (p3 : Option Addr) (m3 : Nat) (c3 : Nat) (p4 : Option Addr) (m4 : Nat) (c4 : Nat) (e1 : Int) (pu : Nat) (n2 : Int) (b2 : List UInt8) (l2 : List UInt8) (pv : Nat) (x2 : Int) (p5 : Option Addr) (m5 : Nat) (c5 : Nat) (p6 : Option Addr) (m6 : Nat) (c6 : Nat) (e2 : Int) (xp : Option Addr) (yp : Option Addr) (L : List UInt8) (go : Nat) (bs : Option Addr) (bc : Nat) (lb : List UInt8) (W : World) : Prop where
  geo : Lies w0 w0.heap.size a i n W
  h : HeadAt W ph no bl sl
  r : Row3 W pr 31 (.int .i64 no) (.slice sb 16 cb) (.slice ss 8 cs)
  ab : Arg W sb cb bl
  asl : Arg W ss cs sl
  p : HeadAt W pp n1 b1 l1
  q : Row3 W pq 31 (.int .i64 x1) (.slice p3 m3 c3) (.slice p4 m4 c4)
  b1' : Both a i n n1 NoS e1 n1 b1 l1 x1 p3 m3 c3 p4 m4 c4 W
  u : HeadAt W pu n2 b2 l2
  v : Row3 W pv 31 (.int .i64 x2) (.slice p5 m5 c5) (.slice p6 m6 c6)
  b2' : Both a i n n2 NoS e2 n2 b2 l2 x2 p5 m5 c5 p6 m6 c6 W
  sx : Src W xp L
  sy : Src W yp L
  own : Blk W go 5 (lb ++ a5)
  arg : Arg W bs bc lb
theorem BW.up {w0 : World} {a : Int} {i : Int} {n : Int} {ph : Nat} {no : Int} {bl : List UInt8} {sl : List UInt8} {pr : Nat} {sb : Option Addr} {cb : Nat} {ss : Option Addr} {cs : Nat} {pp : Nat} {n1 : Int} {b1 : List UInt8} {l1 : List UInt8} {pq : Nat} {x1 : Int} {p3 : Option Addr} {m3 : Nat} {c3 : Nat} {p4 : Option Addr} {m4 : Nat} {c4 : Nat} {e1 : Int} {pu : Nat} {n2 : Int} {b2 : List UInt8} {l2 : List UInt8} {pv : Nat} {x2 : Int} {p5 : Option Addr} {m5 : Nat} {c5 : Nat} {p6 : Option Addr} {m6 : Nat} {c6 : Nat} {e2 : Int} {xp : Option Addr} {yp : Option Addr} {L : List UInt8} {go : Nat} {bs : Option Addr} {bc : Nat} {lb : List UInt8} {W W' : World} (k : BW w0 a i n ph no bl sl pr sb cb ss cs pp n1 b1 l1 pq x1 p3 m3 c3 p4 m4 c4 e1 pu n2 b2 l2 pv x2 p5 m5 c5 p6 m6 c6 e2 xp yp L go bs bc lb W) (hb : Below W.heap.size W W') : BW w0 a i n ph no bl sl pr sb cb ss cs pp n1 b1 l1 pq x1 p3 m3 c3 p4 m4 c4 e1 pu n2 b2 l2 pv x2 p5 m5 c5 p6 m6 c6 e2 xp yp L go bs bc lb W' :=
  ⟨lies_up k.geo hb, k.h.up hb, k.r.up hb, k.ab.below hb (Nat.le_refl _), k.asl.below hb (Nat.le_refl _), k.p.up hb, k.q.up hb, k.b1'.up hb, k.u.up hb, k.v.up hb, k.b2'.up hb, k.sx.below hb (Nat.le_refl _), k.sy.below hb (Nat.le_refl _), k.own.below hb k.own.lt, k.arg.below hb (Nat.le_refl _)⟩
set_option maxRecDepth 100000 in
set_option maxHeartbeats 32000000 in
theorem groupBytes_any (a i n no : Int) (sk ss0 : Option Addr) (ck cs0 : Nat) (lk ls : List UInt8) (bs : Option Addr) (bc : Nat) (lb : List UInt8) (w : World) (hk : Arg w sk ck lk) (hs : Arg w ss0 cs0 ls) (hb : Arg w bs bc lb) :
    Calls Try.prog 3 #[.agg #[.int .i64 a, .int .i64 i, .int .i64 n], .int .i64 no, .slice sk lk.length ck, .slice ss0 ls.length cs0, .slice bs lb.length bc] w fun e w' => e = .returned (.bool true) ∧ Below w.heap.size w w' := by
  have hz := zero28
  have GV := fun W (h : Below w.heap.size w W) => given_any no sk ss0 ck cs0 lk ls W (hk.below h (Nat.le_refl _)) (hs.below h (Nat.le_refl _))
  have HLB : Hid ((pd 16 lk).length = 16) := pd_length _ _
  have HLS : Hid ((pd 8 ls).length = 8) := pd_length _ _
  generalize pd 16 lk = bl at *
  generalize pd 8 ls = sl at *
  have TK := fun W => taken_any no bl sl HLB.out HLS.out W
  have GR := fun W => gright_any a i n no bl sl HLB.out HLS.out W
  obtain ⟨ef, nf, bf, lf, hbf, hsf, FR, RF⟩ := fresh_both a i n no
  obtain ⟨eg, ng, bg, lg, hbg, hsg, GT, RG⟩ := get_both a i n lb bs bc hb.len.2.2
  have HBF : Hid (bf.length = 16) := hbf
  have HSF : Hid (lf.length = 8) := hsf
  have HBG : Hid (bg.length = 16) := hbg
  have HSG : Hid (lg.length = 8) := hsg
  have llb := hb.len
  have LT := fun W h => lent_any bs bc lb W h
  have HEQ : Hid (eqB no no bl bl sl sl = true) := eqB_true.2 ⟨rfl, rfl, rfl⟩
  have G00 : Hid (Lies w w.heap.size a i n (w.alloc (.cells #[.int .i64 a, .int .i64 i, .int .i64 n] 23))) := ⟨by simp, by simp, by simp, (Below.refl _ _).alloc (Nat.le_refl _) _⟩
  have A00 : Hid (Arg (w.alloc (.cells #[.int .i64 a, .int .i64 i, .int .i64 n] 23)) bs bc lb) := hb.below G00.out.2.2.2 (Nat.le_refl _)
  clear hk hs hb hbf hsf hbg hsg
  go_enter Try.func3, Try.ntmps3
  go_wp2_with fail
  refine (GV _ G00.out.2.2.2).mono ?_
  rintro e wa ⟨rfl, h1⟩
  have G1 : Hid (Lies _ _ _ _ _ _) := lies_up G00.out h1
  have A1 : Hid (Arg _ _ _ _) := A00.out.below h1 (Nat.le_refl _)
  clear G00 A00 h1 GV
  have HN : Hid (HeadAt (wa.alloc (.cells (hA 0 z16 z8) 28)) wa.heap.size 0 z16 z8) := head_new wa 0 z16 z8 rfl rfl
  have HNB : Hid (Below wa.heap.size wa (wa.alloc (.cells (hA 0 z16 z8) 28))) := (Below.refl _ _).alloc (Nat.le_refl _) _
  go_upto_region 2 with (first | ((with_reducible show wpList _ _ _ ({ dst := _, op := Op.store 28 _ _, type := _, pos := _, after := _, guard := _ } :: _) _ _); refine wpList_store_head rfl _ _ rfl (HN.out) HLB.out HLS.out rfl rfl ?_; intro was Hwa bwa zwa))
  have bwa' : Below wa.heap.size wa was := HNB.out.trans bwa
  have G2 : Hid (Lies _ _ _ _ _ _) := lies_up G1.out bwa'
  have A2 : Hid (Arg _ _ _ _) := A1.out.below bwa' (Nat.le_refl _)
  clear G1 A1 HN HNB bwa zwa
  obtain ⟨PH, hPH⟩ : ∃ P, Hid (P = wa.heap.size) := ⟨_, rfl⟩
  rw [← hPH.out] at Hwa ⊢
  have H02 : Hid (HeadAt was PH no bl sl) := Hwa
  clear Hwa bwa' hPH
  go_wp2_with (first | ((with_reducible show wpList _ _ _ ({ dst := _, op := Op.load 28 _, type := _, pos := _, after := _, guard := _ } :: _) _ _); refine wpList_load_head rfl _ rfl (H02.out) rfl ?_))
  refine (TK _).mono ?_
  rintro e wb ⟨sb, ss, cb, cs, rfl, ta, tb, h2⟩
  have G3 : Hid (Lies _ _ _ _ _ _) := lies_up G2.out h2
  have A3 : Hid (Arg _ _ _ _) := A2.out.below h2 (Nat.le_refl _)
  have H3 : Hid (HeadAt _ _ _ _ _) := H02.out.up h2
  clear G2 A2 H02 h2 TK
  have TA03 : Hid (Arg wb sb cb bl) := ta
  have TB03 : Hid (Arg wb ss cs sl) := tb
  clear ta tb
  go_upto_region 3 with fail
  have alR : Below wb.heap.size wb (wb.alloc (.cells #[.int .i64 no, .slice sb 16 cb, .slice ss 8 cs] 31)) := (Below.refl _ _).alloc (Nat.le_refl _) _
  have G4 : Hid (Lies _ _ _ _ _ _) := lies_up G3.out alR
  have A4 : Hid (Arg _ _ _ _) := A3.out.below alR (Nat.le_refl _)
  have H4 : Hid (HeadAt _ _ _ _ _) := H3.out.up alR
  have TA4 : Hid (Arg _ _ _ _) := TA03.out.below alR (Nat.le_refl _)
  have TB4 : Hid (Arg _ _ _ _) := TB03.out.below alR (Nat.le_refl _)
  clear G3 A3 H3 TA03 TB03 
  have R04 : Hid (Row3 (wb.alloc (.cells #[.int .i64 no, .slice sb 16 cb, .slice ss 8 cs] 31)) wb.heap.size 31 (.int .i64 no) (.slice sb 16 cb) (.slice ss 8 cs)) := row_new _ _ _ _ _
  generalize wb.alloc (.cells #[.int .i64 no, .slice sb 16 cb, .slice ss 8 cs] 31) = wbr at G4 A4 H4 TA4 TB4 R04 ⊢
  obtain ⟨PR, hPR⟩ : ∃ P, Hid (P = wb.heap.size) := ⟨_, rfl⟩
  rw [← hPR.out] at R04 ⊢
  clear alR hPR
  obtain ⟨ep, L, hL, PU, RP, GX⟩ := put_both a i n no bl sl HLB.out HLS.out sb ss cb cs
  have HGX : Hid _ := GX
  clear GX
  have q0 := G4.out.1; have q1 := G4.out.2.1; have q2 := G4.out.2.2.1
  go_wp2_with (first | ((with_reducible show wpList _ _ _ ({ dst := _, op := Op.load 28 _, type := _, pos := _, after := _, guard := _ } :: _) _ _); refine wpList_load_head rfl _ rfl (H4.out) rfl ?_))
  refine (PU _).mono ?_
  rintro e wc ⟨xp, xc, rfl, sx, hxp, h3⟩
  have HXP : Hid (ep = 0 → ∃ G, xp = some ⟨G, 0, none⟩ ∧ xc = 256) := hxp
  have G5 : Hid (Lies _ _ _ _ _ _) := lies_up G4.out h3
  have A5 : Hid (Arg _ _ _ _) := A4.out.below h3 (Nat.le_refl _)
  have H5 : Hid (HeadAt _ _ _ _ _) := H4.out.up h3
  have TA5 : Hid (Arg _ _ _ _) := TA4.out.below h3 (Nat.le_refl _)
  have TB5 : Hid (Arg _ _ _ _) := TB4.out.below h3 (Nat.le_refl _)
  have R5 : Hid (Row3 _ _ _ _ _ _) := R04.out.up h3
  clear G4 A4 H4 TA4 TB4 R04 h3 PU q0 q1 q2 hxp
  have X05 : Hid (Src wc xp L) := sx
  clear sx
  go_upto_region 4 with fail
  have q0 := G5.out.1; have q1 := G5.out.2.1; have q2 := G5.out.2.2.1
  have r0 := R5.out.c0; have r1 := R5.out.c1; have r2 := R5.out.c2
  go_wp2_with fail
  refine (RP _ TA5.out TB5.out).mono ?_
  rintro e wd ⟨yp, yc, rfl, sy, h4⟩
  have G6 : Hid (Lies _ _ _ _ _ _) := lies_up G5.out h4
  have A6 : Hid (Arg _ _ _ _) := A5.out.below h4 (Nat.le_refl _)
  have H6 : Hid (HeadAt _ _ _ _ _) := H5.out.up h4
  have TA6 : Hid (Arg _ _ _ _) := TA5.out.below h4 (Nat.le_refl _)
  have TB6 : Hid (Arg _ _ _ _) := TB5.out.below h4 (Nat.le_refl _)
  have R6 : Hid (Row3 _ _ _ _ _ _) := R5.out.up h4
  have X6 : Hid (Src _ _ _) := X05.out.below h4 (Nat.le_refl _)
  clear G5 A5 H5 TA5 TB5 R5 X05 h4 RP q0 q1 q2 r0 r1 r2
  have Y06 : Hid (Src wd yp L) := sy
  clear sy
  go_wp2_with fail
  refine (LT _ A6.out).mono ?_
  rintro e we ⟨go, rfl, bo, _, h5⟩
  have G7 : Hid (Lies _ _ _ _ _ _) := lies_up G6.out h5
  have A7 : Hid (Arg _ _ _ _) := A6.out.below h5 (Nat.le_refl _)
  have H7 : Hid (HeadAt _ _ _ _ _) := H6.out.up h5
  have TA7 : Hid (Arg _ _ _ _) := TA6.out.below h5 (Nat.le_refl _)
  have TB7 : Hid (Arg _ _ _ _) := TB6.out.below h5 (Nat.le_refl _)
  have R7 : Hid (Row3 _ _ _ _ _ _) := R6.out.up h5
  have X7 : Hid (Src _ _ _) := X6.out.below h5 (Nat.le_refl _)
  have Y7 : Hid (Src _ _ _) := Y06.out.below h5 (Nat.le_refl _)
  clear G6 A6 H6 TA6 TB6 R6 X6 Y06 h5 LT
  have O07 : Hid (Blk we go 5 (lb ++ a5)) := bo
  clear bo
  go_upto_region 6 with fail
  have q0 := G7.out.1; have q1 := G7.out.2.1; have q2 := G7.out.2.2.1
  have GT' := GT _ go O07.out
  clear GT
  go_wp2_with fail
  refine GT'.mono ?_
  rintro e wf ⟨rfl, h6⟩
  have G8 : Hid (Lies _ _ _ _ _ _) := lies_up G7.out h6
  have A8 : Hid (Arg _ _ _ _) := A7.out.below h6 (Nat.le_refl _)
  have H8 : Hid (HeadAt _ _ _ _ _) := H7.out.up h6
  have TA8 : Hid (Arg _ _ _ _) := TA7.out.below h6 (Nat.le_refl _)
  have TB8 : Hid (Arg _ _ _ _) := TB7.out.below h6 (Nat.le_refl _)
  have R8 : Hid (Row3 _ _ _ _ _ _) := R7.out.up h6
  have X8 : Hid (Src _ _ _) := X7.out.below h6 (Nat.le_refl _)
  have Y8 : Hid (Src _ _ _) := Y7.out.below h6 (Nat.le_refl _)
  have O8 : Hid (Blk _ _ _ _) := O07.out.below h6 O07.out.lt
  clear G7 A7 H7 TA7 TB7 R7 X7 Y7 O07 h6 GT' q0 q1 q2
  have HN : Hid (HeadAt (wf.alloc (.cells (hA 0 z16 z8) 28)) wf.heap.size 0 z16 z8) := head_new wf 0 z16 z8 rfl rfl
  have HNB : Hid (Below wf.heap.size wf (wf.alloc (.cells (hA 0 z16 z8) 28))) := (Below.refl _ _).alloc (Nat.le_refl _) _
  go_upto_region 7 with (first | ((with_reducible show wpList _ _ _ ({ dst := _, op := Op.store 28 _ _, type := _, pos := _, after := _, guard := _ } :: _) _ _); refine wpList_store_head rfl _ _ rfl (HN.out) HBG.out HSG.out rfl rfl ?_; intro wfs Hwf bwf zwf))
  have bwf' : Below wf.heap.size wf wfs := HNB.out.trans bwf
  have G9 : Hid (Lies _ _ _ _ _ _) := lies_up G8.out bwf'
  have A9 : Hid (Arg _ _ _ _) := A8.out.below bwf' (Nat.le_refl _)
  have H9 : Hid (HeadAt _ _ _ _ _) := H8.out.up bwf'
  have TA9 : Hid (Arg _ _ _ _) := TA8.out.below bwf' (Nat.le_refl _)
  have TB9 : Hid (Arg _ _ _ _) := TB8.out.below bwf' (Nat.le_refl _)
  have R9 : Hid (Row3 _ _ _ _ _ _) := R8.out.up bwf'
  have X9 : Hid (Src _ _ _) := X8.out.below bwf' (Nat.le_refl _)
  have Y9 : Hid (Src _ _ _) := Y8.out.below bwf' (Nat.le_refl _)
  have O9 : Hid (Blk _ _ _ _) := O8.out.below bwf' O8.out.lt
  clear G8 A8 H8 TA8 TB8 R8 X8 Y8 O8 HN HNB bwf zwf
  obtain ⟨PP, hPP⟩ : ∃ P, Hid (P = wf.heap.size) := ⟨_, rfl⟩
  rw [← hPP.out] at Hwf ⊢
  have P09 : Hid (HeadAt wfs PP ng bg lg) := Hwf
  clear Hwf bwf' hPP
  have q0 := G9.out.1; have q1 := G9.out.2.1; have q2 := G9.out.2.2.1
  go_wp2_with fail
  refine (RG _ A9.out).mono ?_
  rintro e wg ⟨x1, p3, m3, c3, p4, m4, c4, rfl, hbo, h7⟩
  have G10 : Hid (Lies _ _ _ _ _ _) := lies_up G9.out h7
  have A10 : Hid (Arg _ _ _ _) := A9.out.below h7 (Nat.le_refl _)
  have H10 : Hid (HeadAt _ _ _ _ _) := H9.out.up h7
  have TA10 : Hid (Arg _ _ _ _) := TA9.out.below h7 (Nat.le_refl _)
  have TB10 : Hid (Arg _ _ _ _) := TB9.out.below h7 (Nat.le_refl _)
  have R10 : Hid (Row3 _ _ _ _ _ _) := R9.out.up h7
  have X10 : Hid (Src _ _ _) := X9.out.below h7 (Nat.le_refl _)
  have Y10 : Hid (Src _ _ _) := Y9.out.below h7 (Nat.le_refl _)
  have O10 : Hid (Blk _ _ _ _) := O9.out.below h7 O9.out.lt
  have P10 : Hid (HeadAt _ _ _ _ _) := P09.out.up h7
  clear G9 A9 H9 TA9 TB9 R9 X9 Y9 O9 P09 h7 RG q0 q1 q2
  have BG010 : Hid (Both a i n ng NoS eg ng bg lg x1 p3 m3 c3 p4 m4 c4 wg) := hbo
  clear hbo
  go_upto_region 8 with fail
  have alQ : Below wg.heap.size wg (wg.alloc (.cells #[.int .i64 x1, .slice p3 m3 c3, .slice p4 m4 c4] 31)) := (Below.refl _ _).alloc (Nat.le_refl _) _
  have G11 : Hid (Lies _ _ _ _ _ _) := lies_up G10.out alQ
  have A11 : Hid (Arg _ _ _ _) := A10.out.below alQ (Nat.le_refl _)
  have H11 : Hid (HeadAt _ _ _ _ _) := H10.out.up alQ
  have TA11 : Hid (Arg _ _ _ _) := TA10.out.below alQ (Nat.le_refl _)
  have TB11 : Hid (Arg _ _ _ _) := TB10.out.below alQ (Nat.le_refl _)
  have R11 : Hid (Row3 _ _ _ _ _ _) := R10.out.up alQ
  have X11 : Hid (Src _ _ _) := X10.out.below alQ (Nat.le_refl _)
  have Y11 : Hid (Src _ _ _) := Y10.out.below alQ (Nat.le_refl _)
  have O11 : Hid (Blk _ _ _ _) := O10.out.below alQ O10.out.lt
  have P11 : Hid (HeadAt _ _ _ _ _) := P10.out.up alQ
  have BG11 : Hid (Both _ _ _ _ _ _ _ _ _ _ _ _ _ _ _ _ _) := BG010.out.up alQ
  clear G10 A10 H10 TA10 TB10 R10 X10 Y10 O10 P10 BG010 
  have Q011 : Hid (Row3 (wg.alloc (.cells #[.int .i64 x1, .slice p3 m3 c3, .slice p4 m4 c4] 31)) wg.heap.size 31 (.int .i64 x1) (.slice p3 m3 c3) (.slice p4 m4 c4)) := row_new _ _ _ _ _
  generalize wg.alloc (.cells #[.int .i64 x1, .slice p3 m3 c3, .slice p4 m4 c4] 31) = wgr at G11 A11 H11 TA11 TB11 R11 X11 Y11 O11 P11 BG11 Q011 ⊢
  obtain ⟨PQ, hPQ⟩ : ∃ P, Hid (P = wg.heap.size) := ⟨_, rfl⟩
  rw [← hPQ.out] at Q011 ⊢
  clear alQ hPQ
  have q0 := G11.out.1; have q1 := G11.out.2.1; have q2 := G11.out.2.2.1
  go_wp2_with fail
  refine (FR _).mono ?_
  rintro e wh ⟨rfl, h8⟩
  have G12 : Hid (Lies _ _ _ _ _ _) := lies_up G11.out h8
  have A12 : Hid (Arg _ _ _ _) := A11.out.below h8 (Nat.le_refl _)
  have H12 : Hid (HeadAt _ _ _ _ _) := H11.out.up h8
  have TA12 : Hid (Arg _ _ _ _) := TA11.out.below h8 (Nat.le_refl _)
  have TB12 : Hid (Arg _ _ _ _) := TB11.out.below h8 (Nat.le_refl _)
  have R12 : Hid (Row3 _ _ _ _ _ _) := R11.out.up h8
  have X12 : Hid (Src _ _ _) := X11.out.below h8 (Nat.le_refl _)
  have Y12 : Hid (Src _ _ _) := Y11.out.below h8 (Nat.le_refl _)
  have O12 : Hid (Blk _ _ _ _) := O11.out.below h8 O11.out.lt
  have P12 : Hid (HeadAt _ _ _ _ _) := P11.out.up h8
  have BG12 : Hid (Both _ _ _ _ _ _ _ _ _ _ _ _ _ _ _ _ _) := BG11.out.up h8
  have Q12 : Hid (Row3 _ _ _ _ _ _) := Q011.out.up h8
  clear G11 A11 H11 TA11 TB11 R11 X11 Y11 O11 P11 BG11 Q011 h8 FR q0 q1 q2
  have HN : Hid (HeadAt (wh.alloc (.cells (hA 0 z16 z8) 28)) wh.heap.size 0 z16 z8) := head_new wh 0 z16 z8 rfl rfl
  have HNB : Hid (Below wh.heap.size wh (wh.alloc (.cells (hA 0 z16 z8) 28))) := (Below.refl _ _).alloc (Nat.le_refl _) _
  go_upto_region 9 with (first | ((with_reducible show wpList _ _ _ ({ dst := _, op := Op.store 28 _ _, type := _, pos := _, after := _, guard := _ } :: _) _ _); refine wpList_store_head rfl _ _ rfl (HN.out) HBF.out HSF.out rfl rfl ?_; intro whs Hwh bwh zwh))
  have bwh' : Below wh.heap.size wh whs := HNB.out.trans bwh
  have G13 : Hid (Lies _ _ _ _ _ _) := lies_up G12.out bwh'
  have A13 : Hid (Arg _ _ _ _) := A12.out.below bwh' (Nat.le_refl _)
  have H13 : Hid (HeadAt _ _ _ _ _) := H12.out.up bwh'
  have TA13 : Hid (Arg _ _ _ _) := TA12.out.below bwh' (Nat.le_refl _)
  have TB13 : Hid (Arg _ _ _ _) := TB12.out.below bwh' (Nat.le_refl _)
  have R13 : Hid (Row3 _ _ _ _ _ _) := R12.out.up bwh'
  have X13 : Hid (Src _ _ _) := X12.out.below bwh' (Nat.le_refl _)
  have Y13 : Hid (Src _ _ _) := Y12.out.below bwh' (Nat.le_refl _)
  have O13 : Hid (Blk _ _ _ _) := O12.out.below bwh' O12.out.lt
  have P13 : Hid (HeadAt _ _ _ _ _) := P12.out.up bwh'
  have BG13 : Hid (Both _ _ _ _ _ _ _ _ _ _ _ _ _ _ _ _ _) := BG12.out.up bwh'
  have Q13 : Hid (Row3 _ _ _ _ _ _) := Q12.out.up bwh'
  clear G12 A12 H12 TA12 TB12 R12 X12 Y12 O12 P12 BG12 Q12 HN HNB bwh zwh
  obtain ⟨PU, hPU⟩ : ∃ P, Hid (P = wh.heap.size) := ⟨_, rfl⟩
  rw [← hPU.out] at Hwh ⊢
  have U013 : Hid (HeadAt whs PU nf bf lf) := Hwh
  clear Hwh bwh' hPU
  have q0 := G13.out.1; have q1 := G13.out.2.1; have q2 := G13.out.2.2.1
  go_wp2_with fail
  refine (RF _).mono ?_
  rintro e wi ⟨x2, p5, m5, c5, p6, m6, c6, rfl, hbo, h9⟩
  have G14 : Hid (Lies _ _ _ _ _ _) := lies_up G13.out h9
  have A14 : Hid (Arg _ _ _ _) := A13.out.below h9 (Nat.le_refl _)
  have H14 : Hid (HeadAt _ _ _ _ _) := H13.out.up h9
  have TA14 : Hid (Arg _ _ _ _) := TA13.out.below h9 (Nat.le_refl _)
  have TB14 : Hid (Arg _ _ _ _) := TB13.out.below h9 (Nat.le_refl _)
  have R14 : Hid (Row3 _ _ _ _ _ _) := R13.out.up h9
  have X14 : Hid (Src _ _ _) := X13.out.below h9 (Nat.le_refl _)
  have Y14 : Hid (Src _ _ _) := Y13.out.below h9 (Nat.le_refl _)
  have O14 : Hid (Blk _ _ _ _) := O13.out.below h9 O13.out.lt
  have P14 : Hid (HeadAt _ _ _ _ _) := P13.out.up h9
  have BG14 : Hid (Both _ _ _ _ _ _ _ _ _ _ _ _ _ _ _ _ _) := BG13.out.up h9
  have Q14 : Hid (Row3 _ _ _ _ _ _) := Q13.out.up h9
  have U14 : Hid (HeadAt _ _ _ _ _) := U013.out.up h9
  clear G13 A13 H13 TA13 TB13 R13 X13 Y13 O13 P13 BG13 Q13 U013 h9 RF q0 q1 q2
  have BF014 : Hid (Both a i n nf NoS ef nf bf lf x2 p5 m5 c5 p6 m6 c6 wi) := hbo
  clear hbo
  go_upto_region 10 with fail
  have alV : Below wi.heap.size wi (wi.alloc (.cells #[.int .i64 x2, .slice p5 m5 c5, .slice p6 m6 c6] 31)) := (Below.refl _ _).alloc (Nat.le_refl _) _
  have G15 : Hid (Lies _ _ _ _ _ _) := lies_up G14.out alV
  have A15 : Hid (Arg _ _ _ _) := A14.out.below alV (Nat.le_refl _)
  have H15 : Hid (HeadAt _ _ _ _ _) := H14.out.up alV
  have TA15 : Hid (Arg _ _ _ _) := TA14.out.below alV (Nat.le_refl _)
  have TB15 : Hid (Arg _ _ _ _) := TB14.out.below alV (Nat.le_refl _)
  have R15 : Hid (Row3 _ _ _ _ _ _) := R14.out.up alV
  have X15 : Hid (Src _ _ _) := X14.out.below alV (Nat.le_refl _)
  have Y15 : Hid (Src _ _ _) := Y14.out.below alV (Nat.le_refl _)
  have O15 : Hid (Blk _ _ _ _) := O14.out.below alV O14.out.lt
  have P15 : Hid (HeadAt _ _ _ _ _) := P14.out.up alV
  have BG15 : Hid (Both _ _ _ _ _ _ _ _ _ _ _ _ _ _ _ _ _) := BG14.out.up alV
  have Q15 : Hid (Row3 _ _ _ _ _ _) := Q14.out.up alV
  have U15 : Hid (HeadAt _ _ _ _ _) := U14.out.up alV
  have BF15 : Hid (Both _ _ _ _ _ _ _ _ _ _ _ _ _ _ _ _ _) := BF014.out.up alV
  clear G14 A14 H14 TA14 TB14 R14 X14 Y14 O14 P14 BG14 Q14 U14 BF014 
  have V015 : Hid (Row3 (wi.alloc (.cells #[.int .i64 x2, .slice p5 m5 c5, .slice p6 m6 c6] 31)) wi.heap.size 31 (.int .i64 x2) (.slice p5 m5 c5) (.slice p6 m6 c6)) := row_new _ _ _ _ _
  generalize wi.alloc (.cells #[.int .i64 x2, .slice p5 m5 c5, .slice p6 m6 c6] 31) = wir at G15 A15 H15 TA15 TB15 R15 X15 Y15 O15 P15 BG15 Q15 U15 BF15 V015 ⊢
  obtain ⟨PV, hPV⟩ : ∃ P, Hid (P = wi.heap.size) := ⟨_, rfl⟩
  rw [← hPV.out] at V015 ⊢
  clear alV hPV
  have B0 : BW w a i n PH no bl sl PR sb cb ss cs PP ng bg lg PQ x1 p3 m3 c3 p4 m4 c4 eg PU nf bf lf PV x2 p5 m5 c5 p6 m6 c6 ef xp yp L go bs bc lb wir := ⟨G15.out, H15.out, R15.out, TA15.out, TB15.out, P15.out, Q15.out, BG15.out, U15.out, V015.out, BF15.out, X15.out, Y15.out, O15.out, A15.out⟩
  have HD : BW w a i n PH no bl sl PR sb cb ss cs PP ng bg lg PQ x1 p3 m3 c3 p4 m4 c4 eg PU nf bf lf PV x2 p5 m5 c5 p6 m6 c6 ef xp yp L go bs bc lb wir.drew := B0.up (Below.refl _ _).drew
  clear B0 G15 A15 H15 TA15 TB15 R15 X15 Y15 O15 P15 BG15 Q15 U15 BF15 V015
  refine wp_region_held_drew (S := (fun W => BW w a i n PH no bl sl PR sb cb ss cs PP ng bg lg PQ x1 p3 m3 c3 p4 m4 c4 eg PU nf bf lf PV x2 p5 m5 c5 p6 m6 c6 ef xp yp L go bs bc lb W)) (by kernel_rfl) HD (fun hH => ?_)
  refine takeH (i := 0) (dst := some 72) (v := ?v1) rfl rfl (by kernel_rfl) (by kernel_rfl) (by kernel_rfl) (fun _ _ _ h => h) rfl ?hy1 hH rfl ?rest1
  case hy1 => (intro W hW; have q0 := hW.geo.1; have q1 := hW.geo.2.1; have q2 := hW.geo.2.2.1; have a0 := hW.r.c0; have a1 := hW.r.c1; have a2 := hW.r.c2; have d0 := hW.q.c0; have d1 := hW.q.c1; have d2 := hW.q.c2; have g0 := hW.v.c0; have g1 := hW.v.c1; have g2 := hW.v.c2; have k1 := conv_str hW.sx L.length xc rfl; have k2 := conv_str hW.sy L.length yc rfl; clear hW; go_simp; try with_reducible rfl)
  (try simp only [Act.put, List.setIfInBounds_toArray, List.set_cons_zero, List.set_cons_succ])
  refine takeH (i := 1) (dst := some 73) (v := ?v2) rfl rfl (by kernel_rfl) (by kernel_rfl) (by kernel_rfl) (fun _ _ _ h => h) rfl ?hy2 hH rfl ?rest2
  case hy2 => (intro W hW; have q0 := hW.geo.1; have q1 := hW.geo.2.1; have q2 := hW.geo.2.2.1; have a0 := hW.r.c0; have a1 := hW.r.c1; have a2 := hW.r.c2; have d0 := hW.q.c0; have d1 := hW.q.c1; have d2 := hW.q.c2; have g0 := hW.v.c0; have g1 := hW.v.c1; have g2 := hW.v.c2; have k1 := conv_str hW.sx L.length xc rfl; have k2 := conv_str hW.sy L.length yc rfl; clear hW; go_simp; try with_reducible rfl)
  (try simp only [Act.put, List.setIfInBounds_toArray, List.set_cons_zero, List.set_cons_succ])
  refine takeH (i := 2) (dst := some 74) (v := ?v3) rfl rfl (by kernel_rfl) (by kernel_rfl) (by kernel_rfl) (fun _ _ _ h => h) rfl ?hy3 hH rfl ?rest3
  case hy3 => (intro W hW; have q0 := hW.geo.1; have q1 := hW.geo.2.1; have q2 := hW.geo.2.2.1; have a0 := hW.r.c0; have a1 := hW.r.c1; have a2 := hW.r.c2; have d0 := hW.q.c0; have d1 := hW.q.c1; have d2 := hW.q.c2; have g0 := hW.v.c0; have g1 := hW.v.c1; have g2 := hW.v.c2; have k1 := conv_str hW.sx L.length xc rfl; have k2 := conv_str hW.sy L.length yc rfl; clear hW; go_simp; try with_reducible rfl)
  (try simp only [Act.put, List.setIfInBounds_toArray, List.set_cons_zero, List.set_cons_succ])
  refine takeH (i := 3) (dst := some 75) (v := ?v4) rfl rfl (by kernel_rfl) (by kernel_rfl) (by kernel_rfl) (fun _ _ _ h => h) rfl ?hy4 hH rfl ?rest4
  case hy4 => (intro W hW; have q0 := hW.geo.1; have q1 := hW.geo.2.1; have q2 := hW.geo.2.2.1; have a0 := hW.r.c0; have a1 := hW.r.c1; have a2 := hW.r.c2; have d0 := hW.q.c0; have d1 := hW.q.c1; have d2 := hW.q.c2; have g0 := hW.v.c0; have g1 := hW.v.c1; have g2 := hW.v.c2; have k1 := conv_str hW.sx L.length xc rfl; have k2 := conv_str hW.sy L.length yc rfl; clear hW; go_simp; try with_reducible rfl)
  (try simp only [Act.put, List.setIfInBounds_toArray, List.set_cons_zero, List.set_cons_succ])
  refine takeH (i := 4) (dst := some 76) (v := ?v5) rfl rfl (by kernel_rfl) (by kernel_rfl) (by kernel_rfl) (fun _ _ _ h => h) rfl ?hy5 hH rfl ?rest5
  case hy5 => (intro W hW; have q0 := hW.geo.1; have q1 := hW.geo.2.1; have q2 := hW.geo.2.2.1; have a0 := hW.r.c0; have a1 := hW.r.c1; have a2 := hW.r.c2; have d0 := hW.q.c0; have d1 := hW.q.c1; have d2 := hW.q.c2; have g0 := hW.v.c0; have g1 := hW.v.c1; have g2 := hW.v.c2; have k1 := conv_str hW.sx L.length xc rfl; have k2 := conv_str hW.sy L.length yc rfl; clear hW; go_simp; try with_reducible rfl)
  (try simp only [Act.put, List.setIfInBounds_toArray, List.set_cons_zero, List.set_cons_succ])
  refine takeH (i := 5) (dst := some 77) (v := ?v6) rfl rfl (by kernel_rfl) (by kernel_rfl) (by kernel_rfl) (fun _ _ _ h => h) rfl ?hy6 hH rfl ?rest6
  case hy6 => (intro W hW; have q0 := hW.geo.1; have q1 := hW.geo.2.1; have q2 := hW.geo.2.2.1; have a0 := hW.r.c0; have a1 := hW.r.c1; have a2 := hW.r.c2; have d0 := hW.q.c0; have d1 := hW.q.c1; have d2 := hW.q.c2; have g0 := hW.v.c0; have g1 := hW.v.c1; have g2 := hW.v.c2; have k1 := conv_str hW.sx L.length xc rfl; have k2 := conv_str hW.sy L.length yc rfl; clear hW; go_simp; try with_reducible rfl)
  (try simp only [Act.put, List.setIfInBounds_toArray, List.set_cons_zero, List.set_cons_succ])
  refine takeH (i := 6) (dst := some 78) (v := ?v7) rfl rfl (by kernel_rfl) (by kernel_rfl) (by kernel_rfl) (fun _ _ _ h => h) rfl ?hy7 hH rfl ?rest7
  case hy7 => (intro W hW; have q0 := hW.geo.1; have q1 := hW.geo.2.1; have q2 := hW.geo.2.2.1; have a0 := hW.r.c0; have a1 := hW.r.c1; have a2 := hW.r.c2; have d0 := hW.q.c0; have d1 := hW.q.c1; have d2 := hW.q.c2; have g0 := hW.v.c0; have g1 := hW.v.c1; have g2 := hW.v.c2; have k1 := conv_str hW.sx L.length xc rfl; have k2 := conv_str hW.sy L.length yc rfl; clear hW; go_simp; try with_reducible rfl)
  (try simp only [Act.put, List.setIfInBounds_toArray, List.set_cons_zero, List.set_cons_succ])
  refine takeH (i := 7) (dst := some 79) (v := ?v8) rfl rfl (by kernel_rfl) (by kernel_rfl) (by kernel_rfl) (fun _ _ _ h => h) rfl ?hy8 hH rfl ?rest8
  case hy8 => (intro W hW; have q0 := hW.geo.1; have q1 := hW.geo.2.1; have q2 := hW.geo.2.2.1; have a0 := hW.r.c0; have a1 := hW.r.c1; have a2 := hW.r.c2; have d0 := hW.q.c0; have d1 := hW.q.c1; have d2 := hW.q.c2; have g0 := hW.v.c0; have g1 := hW.v.c1; have g2 := hW.v.c2; have k1 := conv_str hW.sx L.length xc rfl; have k2 := conv_str hW.sy L.length yc rfl; clear hW; go_simp; try with_reducible rfl)
  (try simp only [Act.put, List.setIfInBounds_toArray, List.set_cons_zero, List.set_cons_succ])
  refine takeH (i := 8) (dst := some 80) (v := ?v9) rfl rfl (by kernel_rfl) (by kernel_rfl) (by kernel_rfl) (fun _ _ _ h => h) rfl ?hy9 hH rfl ?rest9
  case hy9 => (intro W hW; have q0 := hW.geo.1; have q1 := hW.geo.2.1; have q2 := hW.geo.2.2.1; have a0 := hW.r.c0; have a1 := hW.r.c1; have a2 := hW.r.c2; have d0 := hW.q.c0; have d1 := hW.q.c1; have d2 := hW.q.c2; have g0 := hW.v.c0; have g1 := hW.v.c1; have g2 := hW.v.c2; have k1 := conv_str hW.sx L.length xc rfl; have k2 := conv_str hW.sy L.length yc rfl; clear hW; go_simp; try with_reducible rfl)
  (try simp only [Act.put, List.setIfInBounds_toArray, List.set_cons_zero, List.set_cons_succ])
  refine takeH (i := 9) (dst := some 81) (v := ?v10) rfl rfl (by kernel_rfl) (by kernel_rfl) (by kernel_rfl) (fun _ _ _ h => h) rfl ?hy10 hH rfl ?rest10
  case hy10 => (intro W hW; have q0 := hW.geo.1; have q1 := hW.geo.2.1; have q2 := hW.geo.2.2.1; have a0 := hW.r.c0; have a1 := hW.r.c1; have a2 := hW.r.c2; have d0 := hW.q.c0; have d1 := hW.q.c1; have d2 := hW.q.c2; have g0 := hW.v.c0; have g1 := hW.v.c1; have g2 := hW.v.c2; have k1 := conv_str hW.sx L.length xc rfl; have k2 := conv_str hW.sy L.length yc rfl; clear hW; go_simp; try with_reducible rfl)
  (try simp only [Act.put, List.setIfInBounds_toArray, List.set_cons_zero, List.set_cons_succ])
  refine takeH (i := 10) (dst := some 82) (v := ?v11) rfl rfl (by kernel_rfl) (by kernel_rfl) (by kernel_rfl) (fun _ _ _ h => h) rfl ?hy11 hH rfl ?rest11
  case hy11 => (intro W hW; have q0 := hW.geo.1; have q1 := hW.geo.2.1; have q2 := hW.geo.2.2.1; have a0 := hW.r.c0; have a1 := hW.r.c1; have a2 := hW.r.c2; have d0 := hW.q.c0; have d1 := hW.q.c1; have d2 := hW.q.c2; have g0 := hW.v.c0; have g1 := hW.v.c1; have g2 := hW.v.c2; have k1 := conv_str hW.sx L.length xc rfl; have k2 := conv_str hW.sy L.length yc rfl; clear hW; go_simp; try with_reducible rfl)
  (try simp only [Act.put, List.setIfInBounds_toArray, List.set_cons_zero, List.set_cons_succ])
  refine takeH (i := 11) (dst := some 83) (v := ?v12) rfl rfl (by kernel_rfl) (by kernel_rfl) (by kernel_rfl) (fun _ _ _ h => h) rfl ?hy12 hH rfl ?rest12
  case hy12 => (intro W hW; refine exec_load_head (x := Operand.tmp 18) hW.p ?_ ?_ <;> rfl)
  (try simp only [Act.put, List.setIfInBounds_toArray, List.set_cons_zero, List.set_cons_succ])
  refine takeH (i := 12) (dst := some 84) (v := ?v13) rfl rfl (by kernel_rfl) (by kernel_rfl) (by kernel_rfl) (fun _ _ _ h => h) rfl ?hy13 hH rfl ?rest13
  case hy13 => (intro W hW; have q0 := hW.geo.1; have q1 := hW.geo.2.1; have q2 := hW.geo.2.2.1; have a0 := hW.r.c0; have a1 := hW.r.c1; have a2 := hW.r.c2; have d0 := hW.q.c0; have d1 := hW.q.c1; have d2 := hW.q.c2; have g0 := hW.v.c0; have g1 := hW.v.c1; have g2 := hW.v.c2; have k1 := conv_str hW.sx L.length xc rfl; have k2 := conv_str hW.sy L.length yc rfl; clear hW; go_simp; try with_reducible rfl)
  (try simp only [Act.put, List.setIfInBounds_toArray, List.set_cons_zero, List.set_cons_succ])
  refine takeH (i := 13) (dst := some 85) (v := ?v14) rfl rfl (by kernel_rfl) (by kernel_rfl) (by kernel_rfl) (fun _ _ _ h => h) rfl ?hy14 hH rfl ?rest14
  case hy14 => (intro W hW; have q0 := hW.geo.1; have q1 := hW.geo.2.1; have q2 := hW.geo.2.2.1; have a0 := hW.r.c0; have a1 := hW.r.c1; have a2 := hW.r.c2; have d0 := hW.q.c0; have d1 := hW.q.c1; have d2 := hW.q.c2; have g0 := hW.v.c0; have g1 := hW.v.c1; have g2 := hW.v.c2; have k1 := conv_str hW.sx L.length xc rfl; have k2 := conv_str hW.sy L.length yc rfl; clear hW; go_simp; try with_reducible rfl)
  (try simp only [Act.put, List.setIfInBounds_toArray, List.set_cons_zero, List.set_cons_succ])
  refine takeH (i := 14) (dst := some 86) (v := ?v15) rfl rfl (by kernel_rfl) (by kernel_rfl) (by kernel_rfl) (fun _ _ _ h => h) rfl ?hy15 hH rfl ?rest15
  case hy15 => (intro W hW; have q0 := hW.geo.1; have q1 := hW.geo.2.1; have q2 := hW.geo.2.2.1; have a0 := hW.r.c0; have a1 := hW.r.c1; have a2 := hW.r.c2; have d0 := hW.q.c0; have d1 := hW.q.c1; have d2 := hW.q.c2; have g0 := hW.v.c0; have g1 := hW.v.c1; have g2 := hW.v.c2; have k1 := conv_str hW.sx L.length xc rfl; have k2 := conv_str hW.sy L.length yc rfl; clear hW; go_simp; try with_reducible rfl)
  (try simp only [Act.put, List.setIfInBounds_toArray, List.set_cons_zero, List.set_cons_succ])
  refine callH (i := 15) { dst := some 87, op := Go.Op.call { callee := Go.Callee.value (Go.Operand.func 15), args := #[Go.Operand.tmp 83, Go.Operand.tmp 84, Go.Operand.tmp 85, Go.Operand.tmp 86], argTypes := #[28, 33, 31, 33] }, type := 4, pos := "law.go:65", after := #[{ on := 11, ground := Go.Ground.data }, { on := 12, ground := Go.Ground.data }, { on := 13, ground := Go.Ground.data }, { on := 14, ground := Go.Ground.data }, { on := 10, ground := Go.Ground.chain }, { on := 10, ground := Go.Ground.guard }], guard := some (10, false) } (by kernel_rfl) rfl rfl (fun K hK => ?_)
  go_simp
  refine (same_both hH.p.lb hH.p.ls hH.b1').mono ?_
  rintro e v1 ⟨rfl, m0⟩
  have m1 := hH.up m0
  clear m0
  clear hH
  refine hK.out _ _ m1 (fun hH => ?_)
  clear hK K
  (try simp only [Act.put, List.setIfInBounds_toArray, List.set_cons_zero, List.set_cons_succ])
  refine takeH (i := 16) (dst := some 88) (v := ?v16) rfl rfl (by kernel_rfl) (by kernel_rfl) (by kernel_rfl) (fun _ _ _ h => h) rfl ?hy16 hH rfl ?rest16
  case hy16 => (intro W hW; have q0 := hW.geo.1; have q1 := hW.geo.2.1; have q2 := hW.geo.2.2.1; have a0 := hW.r.c0; have a1 := hW.r.c1; have a2 := hW.r.c2; have d0 := hW.q.c0; have d1 := hW.q.c1; have d2 := hW.q.c2; have g0 := hW.v.c0; have g1 := hW.v.c1; have g2 := hW.v.c2; have k1 := conv_str hW.sx L.length xc rfl; have k2 := conv_str hW.sy L.length yc rfl; clear hW; go_simp; try with_reducible rfl)
  (try simp only [Act.put, List.setIfInBounds_toArray, List.set_cons_zero, List.set_cons_succ])
  refine takeH (i := 17) (dst := some 89) (v := ?v17) rfl rfl (by kernel_rfl) (by kernel_rfl) (by kernel_rfl) (fun _ _ _ h => h) rfl ?hy17 hH rfl ?rest17
  case hy17 => (intro W hW; have q0 := hW.geo.1; have q1 := hW.geo.2.1; have q2 := hW.geo.2.2.1; have a0 := hW.r.c0; have a1 := hW.r.c1; have a2 := hW.r.c2; have d0 := hW.q.c0; have d1 := hW.q.c1; have d2 := hW.q.c2; have g0 := hW.v.c0; have g1 := hW.v.c1; have g2 := hW.v.c2; have k1 := conv_str hW.sx L.length xc rfl; have k2 := conv_str hW.sy L.length yc rfl; clear hW; go_simp; try with_reducible rfl)
  (try simp only [Act.put, List.setIfInBounds_toArray, List.set_cons_zero, List.set_cons_succ])
  refine takeH (i := 18) (dst := some 90) (v := ?v18) rfl rfl (by kernel_rfl) (by kernel_rfl) (by kernel_rfl) (fun _ _ _ h => h) rfl ?hy18 hH rfl ?rest18
  case hy18 => (intro W hW; have q0 := hW.geo.1; have q1 := hW.geo.2.1; have q2 := hW.geo.2.2.1; have a0 := hW.r.c0; have a1 := hW.r.c1; have a2 := hW.r.c2; have d0 := hW.q.c0; have d1 := hW.q.c1; have d2 := hW.q.c2; have g0 := hW.v.c0; have g1 := hW.v.c1; have g2 := hW.v.c2; have k1 := conv_str hW.sx L.length xc rfl; have k2 := conv_str hW.sy L.length yc rfl; clear hW; go_simp; try with_reducible rfl)
  (try simp only [Act.put, List.setIfInBounds_toArray, List.set_cons_zero, List.set_cons_succ])
  refine takeH (i := 19) (dst := some 91) (v := ?v19) rfl rfl (by kernel_rfl) (by kernel_rfl) (by kernel_rfl) (fun _ _ _ h => h) rfl ?hy19 hH rfl ?rest19
  case hy19 => (intro W hW; refine exec_load_head (x := Operand.tmp 22) hW.u ?_ ?_ <;> rfl)
  (try simp only [Act.put, List.setIfInBounds_toArray, List.set_cons_zero, List.set_cons_succ])
  refine takeH (i := 20) (dst := some 92) (v := ?v20) rfl rfl (by kernel_rfl) (by kernel_rfl) (by kernel_rfl) (fun _ _ _ h => h) rfl ?hy20 hH rfl ?rest20
  case hy20 => (intro W hW; have q0 := hW.geo.1; have q1 := hW.geo.2.1; have q2 := hW.geo.2.2.1; have a0 := hW.r.c0; have a1 := hW.r.c1; have a2 := hW.r.c2; have d0 := hW.q.c0; have d1 := hW.q.c1; have d2 := hW.q.c2; have g0 := hW.v.c0; have g1 := hW.v.c1; have g2 := hW.v.c2; have k1 := conv_str hW.sx L.length xc rfl; have k2 := conv_str hW.sy L.length yc rfl; clear hW; go_simp; try with_reducible rfl)
  (try simp only [Act.put, List.setIfInBounds_toArray, List.set_cons_zero, List.set_cons_succ])
  refine takeH (i := 21) (dst := some 93) (v := ?v21) rfl rfl (by kernel_rfl) (by kernel_rfl) (by kernel_rfl) (fun _ _ _ h => h) rfl ?hy21 hH rfl ?rest21
  case hy21 => (intro W hW; have q0 := hW.geo.1; have q1 := hW.geo.2.1; have q2 := hW.geo.2.2.1; have a0 := hW.r.c0; have a1 := hW.r.c1; have a2 := hW.r.c2; have d0 := hW.q.c0; have d1 := hW.q.c1; have d2 := hW.q.c2; have g0 := hW.v.c0; have g1 := hW.v.c1; have g2 := hW.v.c2; have k1 := conv_str hW.sx L.length xc rfl; have k2 := conv_str hW.sy L.length yc rfl; clear hW; go_simp; try with_reducible rfl)
  (try simp only [Act.put, List.setIfInBounds_toArray, List.set_cons_zero, List.set_cons_succ])
  refine takeH (i := 22) (dst := some 94) (v := ?v22) rfl rfl (by kernel_rfl) (by kernel_rfl) (by kernel_rfl) (fun _ _ _ h => h) rfl ?hy22 hH rfl ?rest22
  case hy22 => (intro W hW; have q0 := hW.geo.1; have q1 := hW.geo.2.1; have q2 := hW.geo.2.2.1; have a0 := hW.r.c0; have a1 := hW.r.c1; have a2 := hW.r.c2; have d0 := hW.q.c0; have d1 := hW.q.c1; have d2 := hW.q.c2; have g0 := hW.v.c0; have g1 := hW.v.c1; have g2 := hW.v.c2; have k1 := conv_str hW.sx L.length xc rfl; have k2 := conv_str hW.sy L.length yc rfl; clear hW; go_simp; try with_reducible rfl)
  (try simp only [Act.put, List.setIfInBounds_toArray, List.set_cons_zero, List.set_cons_succ])
  refine callH (i := 23) { dst := some 95, op := Go.Op.call { callee := Go.Callee.value (Go.Operand.func 15), args := #[Go.Operand.tmp 91, Go.Operand.tmp 92, Go.Operand.tmp 93, Go.Operand.tmp 94], argTypes := #[28, 33, 31, 33] }, type := 4, pos := "law.go:65", after := #[{ on := 19, ground := Go.Ground.data }, { on := 20, ground := Go.Ground.data }, { on := 21, ground := Go.Ground.data }, { on := 22, ground := Go.Ground.data }, { on := 18, ground := Go.Ground.chain }, { on := 18, ground := Go.Ground.guard }], guard := some (18, false) } (by kernel_rfl) rfl rfl (fun K hK => ?_)
  go_simp
  refine (same_both m1.u.lb m1.u.ls m1.b2').mono ?_
  rintro e v2 ⟨rfl, m0⟩
  have m2 := m1.up m0
  clear m0 m1
  clear hH
  refine hK.out _ _ m2 (fun hH => ?_)
  clear hK K
  (try simp only [Act.put, List.setIfInBounds_toArray, List.set_cons_zero, List.set_cons_succ])
  refine takeH (i := 24) (dst := some 96) (v := ?v23) rfl rfl (by kernel_rfl) (by kernel_rfl) (by kernel_rfl) (fun _ _ _ h => h) rfl ?hy23 hH rfl ?rest23
  case hy23 => (intro W hW; have q0 := hW.geo.1; have q1 := hW.geo.2.1; have q2 := hW.geo.2.2.1; have a0 := hW.r.c0; have a1 := hW.r.c1; have a2 := hW.r.c2; have d0 := hW.q.c0; have d1 := hW.q.c1; have d2 := hW.q.c2; have g0 := hW.v.c0; have g1 := hW.v.c1; have g2 := hW.v.c2; have k1 := conv_str hW.sx L.length xc rfl; have k2 := conv_str hW.sy L.length yc rfl; clear hW; go_simp; try with_reducible rfl)
  (try simp only [Act.put, List.setIfInBounds_toArray, List.set_cons_zero, List.set_cons_succ])
  refine takeH (i := 25) (dst := some 97) (v := ?v24) rfl rfl (by kernel_rfl) (by kernel_rfl) (by kernel_rfl) (fun _ _ _ h => h) rfl ?hy24 hH rfl ?rest24
  case hy24 => (intro W hW; have q0 := hW.geo.1; have q1 := hW.geo.2.1; have q2 := hW.geo.2.2.1; have a0 := hW.r.c0; have a1 := hW.r.c1; have a2 := hW.r.c2; have d0 := hW.q.c0; have d1 := hW.q.c1; have d2 := hW.q.c2; have g0 := hW.v.c0; have g1 := hW.v.c1; have g2 := hW.v.c2; have k1 := conv_str hW.sx L.length xc rfl; have k2 := conv_str hW.sy L.length yc rfl; clear hW; go_simp; try with_reducible rfl)
  (try simp only [Act.put, List.setIfInBounds_toArray, List.set_cons_zero, List.set_cons_succ])
  refine takeH (i := 26) (dst := some 98) (v := ?v25) rfl rfl (by kernel_rfl) (by kernel_rfl) (by kernel_rfl) (fun _ _ _ h => h) rfl ?hy25 hH rfl ?rest25
  case hy25 => (intro W hW; have q0 := hW.geo.1; have q1 := hW.geo.2.1; have q2 := hW.geo.2.2.1; have a0 := hW.r.c0; have a1 := hW.r.c1; have a2 := hW.r.c2; have d0 := hW.q.c0; have d1 := hW.q.c1; have d2 := hW.q.c2; have g0 := hW.v.c0; have g1 := hW.v.c1; have g2 := hW.v.c2; have k1 := conv_str hW.sx L.length xc rfl; have k2 := conv_str hW.sy L.length yc rfl; clear hW; go_simp; try with_reducible rfl)
  (try simp only [Act.put, List.setIfInBounds_toArray, List.set_cons_zero, List.set_cons_succ])
  refine takeH (i := 27) (dst := some 99) (v := ?v26) rfl rfl (by kernel_rfl) (by kernel_rfl) (by kernel_rfl) (fun _ _ _ h => h) rfl ?hy26 hH rfl ?rest26
  case hy26 => (intro W hW; have q0 := hW.geo.1; have q1 := hW.geo.2.1; have q2 := hW.geo.2.2.1; have a0 := hW.r.c0; have a1 := hW.r.c1; have a2 := hW.r.c2; have d0 := hW.q.c0; have d1 := hW.q.c1; have d2 := hW.q.c2; have g0 := hW.v.c0; have g1 := hW.v.c1; have g2 := hW.v.c2; have k1 := conv_str hW.sx L.length xc rfl; have k2 := conv_str hW.sy L.length yc rfl; clear hW; go_simp; try with_reducible rfl)
  (try simp only [Act.put, List.setIfInBounds_toArray, List.set_cons_zero, List.set_cons_succ])
  refine takeH (i := 28) (dst := some 100) (v := ?v27) rfl rfl (by kernel_rfl) (by kernel_rfl) (by kernel_rfl) (fun _ _ _ h => h) rfl ?hy27 hH rfl ?rest27
  case hy27 => (intro W hW; refine exec_load_head (x := Operand.tmp 11) hW.h ?_ ?_ <;> rfl)
  (try simp only [Act.put, List.setIfInBounds_toArray, List.set_cons_zero, List.set_cons_succ])
  refine takeH (i := 30) (dst := some 102) (v := ?v28) rfl rfl (by kernel_rfl) (by kernel_rfl) (by kernel_rfl) (fun _ _ _ h => h) rfl ?hy28 hH rfl ?rest28
  case hy28 => (intro W hW; have q0 := hW.geo.1; have q1 := hW.geo.2.1; have q2 := hW.geo.2.2.1; have a0 := hW.r.c0; have a1 := hW.r.c1; have a2 := hW.r.c2; have d0 := hW.q.c0; have d1 := hW.q.c1; have d2 := hW.q.c2; have g0 := hW.v.c0; have g1 := hW.v.c1; have g2 := hW.v.c2; have k1 := conv_str hW.sx L.length xc rfl; have k2 := conv_str hW.sy L.length yc rfl; clear hW; go_simp; try with_reducible rfl)
  (try simp only [Act.put, List.setIfInBounds_toArray, List.set_cons_zero, List.set_cons_succ])
  refine takeH (i := 31) (dst := some 103) (v := ?v29) rfl rfl (by kernel_rfl) (by kernel_rfl) (by kernel_rfl) (fun _ _ _ h => h) rfl ?hy29 hH rfl ?rest29
  case hy29 => (intro W hW; have q0 := hW.geo.1; have q1 := hW.geo.2.1; have q2 := hW.geo.2.2.1; have a0 := hW.r.c0; have a1 := hW.r.c1; have a2 := hW.r.c2; have d0 := hW.q.c0; have d1 := hW.q.c1; have d2 := hW.q.c2; have g0 := hW.v.c0; have g1 := hW.v.c1; have g2 := hW.v.c2; have k1 := conv_str hW.sx L.length xc rfl; have k2 := conv_str hW.sy L.length yc rfl; clear hW; go_simp; try with_reducible rfl)
  (try simp only [Act.put, List.setIfInBounds_toArray, List.set_cons_zero, List.set_cons_succ])
  refine callH (i := 29) { dst := some 101, op := Go.Op.call { callee := Go.Callee.value (Go.Operand.func 16), args := #[Go.Operand.tmp 99, Go.Operand.tmp 100], argTypes := #[23, 28] }, type := 4, pos := "law.go:65", after := #[{ on := 27, ground := Go.Ground.data }, { on := 28, ground := Go.Ground.data }, { on := 26, ground := Go.Ground.chain }, { on := 26, ground := Go.Ground.guard }], guard := some (26, false) } (by kernel_rfl) rfl rfl (fun K hK => ?_)
  go_simp
  refine (GR _).mono ?_
  rintro e v3 ⟨rfl, m0⟩
  have m3 := m2.up m0
  clear m0 m2
  clear hH
  refine hK.out _ _ m3 (fun hH => ?_)
  clear hK K
  (try simp only [Act.put, List.setIfInBounds_toArray, List.set_cons_zero, List.set_cons_succ])
  refine callH (i := 32) { dst := some 104, op := Go.Op.call { callee := Go.Callee.value (Go.Operand.func 17), args := #[Go.Operand.tmp 102, Go.Operand.tmp 103], argTypes := #[23, 31] }, type := 4, pos := "law.go:65", after := #[{ on := 30, ground := Go.Ground.data }, { on := 31, ground := Go.Ground.data }, { on := 29, ground := Go.Ground.chain }, { on := 26, ground := Go.Ground.guard }], guard := some (26, false) } (by kernel_rfl) rfl rfl (fun K hK => ?_)
  go_simp
  refine (rright6_any a i n no bl sl sb ss cb cs HLB.out HLS.out _ m3.ab.src m3.asl.src).mono ?_
  rintro e v4 ⟨rfl, m0⟩
  have m4 := m3.up m0
  clear m0 m3
  clear hH
  refine hK.out _ _ m4 (fun hH => ?_)
  clear hK K
  (try simp only [Act.put, List.setIfInBounds_toArray, List.set_cons_zero, List.set_cons_succ])
  refine takeH (i := 33) (dst := some 105) (v := ?v30) rfl rfl (by kernel_rfl) (by kernel_rfl) (by kernel_rfl) (fun _ _ _ h => h) rfl ?hy30 hH rfl ?rest30
  case hy30 => (intro W hW; have q0 := hW.geo.1; have q1 := hW.geo.2.1; have q2 := hW.geo.2.2.1; have a0 := hW.r.c0; have a1 := hW.r.c1; have a2 := hW.r.c2; have d0 := hW.q.c0; have d1 := hW.q.c1; have d2 := hW.q.c2; have g0 := hW.v.c0; have g1 := hW.v.c1; have g2 := hW.v.c2; have k1 := conv_str hW.sx L.length xc rfl; have k2 := conv_str hW.sy L.length yc rfl; clear hW; go_simp; try with_reducible rfl)
  (try simp only [Act.put, List.setIfInBounds_toArray, List.set_cons_zero, List.set_cons_succ])
  refine takeH (i := 34) (dst := some 106) (v := ?v31) rfl rfl (by kernel_rfl) (by kernel_rfl) (by kernel_rfl) (fun _ _ _ h => h) rfl ?hy31 hH rfl ?rest31
  case hy31 => (intro W hW; have q0 := hW.geo.1; have q1 := hW.geo.2.1; have q2 := hW.geo.2.2.1; have a0 := hW.r.c0; have a1 := hW.r.c1; have a2 := hW.r.c2; have d0 := hW.q.c0; have d1 := hW.q.c1; have d2 := hW.q.c2; have g0 := hW.v.c0; have g1 := hW.v.c1; have g2 := hW.v.c2; have k1 := conv_str hW.sx L.length xc rfl; have k2 := conv_str hW.sy L.length yc rfl; clear hW; go_simp; try with_reducible rfl)
  (try simp only [Act.put, List.setIfInBounds_toArray, List.set_cons_zero, List.set_cons_succ])
  refine takeH (i := 35) (dst := some 107) (v := ?v32) rfl rfl (by kernel_rfl) (by kernel_rfl) (by kernel_rfl) (fun _ _ _ h => h) rfl ?hy32 hH rfl ?rest32
  case hy32 => (intro W hW; have q0 := hW.geo.1; have q1 := hW.geo.2.1; have q2 := hW.geo.2.2.1; have a0 := hW.r.c0; have a1 := hW.r.c1; have a2 := hW.r.c2; have d0 := hW.q.c0; have d1 := hW.q.c1; have d2 := hW.q.c2; have g0 := hW.v.c0; have g1 := hW.v.c1; have g2 := hW.v.c2; have k1 := conv_str hW.sx L.length xc rfl; have k2 := conv_str hW.sy L.length yc rfl; clear hW; go_simp; try with_reducible rfl)
  (try simp only [Act.put, List.setIfInBounds_toArray, List.set_cons_zero, List.set_cons_succ])
  refine takeH (i := 36) (dst := some 108) (v := ?v33) rfl rfl (by kernel_rfl) (by kernel_rfl) (by kernel_rfl) (fun _ _ _ h => h) rfl ?hy33 hH rfl ?rest33
  case hy33 => (intro W hW; have q0 := hW.geo.1; have q1 := hW.geo.2.1; have q2 := hW.geo.2.2.1; have a0 := hW.r.c0; have a1 := hW.r.c1; have a2 := hW.r.c2; have d0 := hW.q.c0; have d1 := hW.q.c1; have d2 := hW.q.c2; have g0 := hW.v.c0; have g1 := hW.v.c1; have g2 := hW.v.c2; have k1 := conv_str hW.sx L.length xc rfl; have k2 := conv_str hW.sy L.length yc rfl; clear hW; go_simp; try with_reducible rfl)
  (try simp only [Act.put, List.setIfInBounds_toArray, List.set_cons_zero, List.set_cons_succ])
  refine takeH (i := 37) (dst := some 109) (v := ?v34) rfl rfl (by kernel_rfl) (by kernel_rfl) (by kernel_rfl) (fun _ _ _ h => h) rfl ?hy34 hH rfl ?rest34
  case hy34 => (intro W hW; have q0 := hW.geo.1; have q1 := hW.geo.2.1; have q2 := hW.geo.2.2.1; have a0 := hW.r.c0; have a1 := hW.r.c1; have a2 := hW.r.c2; have d0 := hW.q.c0; have d1 := hW.q.c1; have d2 := hW.q.c2; have g0 := hW.v.c0; have g1 := hW.v.c1; have g2 := hW.v.c2; have k1 := conv_str hW.sx L.length xc rfl; have k2 := conv_str hW.sy L.length yc rfl; clear hW; go_simp; try with_reducible rfl)
  (try simp only [Act.put, List.setIfInBounds_toArray, List.set_cons_zero, List.set_cons_succ])
  refine callH (i := 38) { dst := some 110, op := Go.Op.call { callee := Go.Callee.value (Go.Operand.func 18), args := #[Go.Operand.tmp 108, Go.Operand.tmp 109], argTypes := #[24, 24] }, type := 4, pos := "law.go:65", after := #[{ on := 36, ground := Go.Ground.data }, { on := 37, ground := Go.Ground.data }, { on := 35, ground := Go.Ground.chain }, { on := 35, ground := Go.Ground.guard }], guard := some (35, false) } (by kernel_rfl) rfl rfl (fun K hK => ?_)
  go_simp
  refine (kept_any go bs bc lb _ m4.own m4.arg).mono ?_
  rintro e v5 ⟨rfl, m0⟩
  have m5 := m4.up m0
  clear m0 m4
  clear hH
  refine hK.out _ _ m5 (fun hH => ?_)
  clear hK K
  (try simp only [Act.put, List.setIfInBounds_toArray, List.set_cons_zero, List.set_cons_succ])
  refine takeH (i := 39) (dst := some 111) (v := ?v35) rfl rfl (by kernel_rfl) (by kernel_rfl) (by kernel_rfl) (fun _ _ _ h => h) rfl ?hy35 hH rfl ?rest35
  case hy35 => (intro W hW; have q0 := hW.geo.1; have q1 := hW.geo.2.1; have q2 := hW.geo.2.2.1; have a0 := hW.r.c0; have a1 := hW.r.c1; have a2 := hW.r.c2; have d0 := hW.q.c0; have d1 := hW.q.c1; have d2 := hW.q.c2; have g0 := hW.v.c0; have g1 := hW.v.c1; have g2 := hW.v.c2; have k1 := conv_str hW.sx L.length xc rfl; have k2 := conv_str hW.sy L.length yc rfl; clear hW; go_simp; try with_reducible rfl)
  (try simp only [Act.put, List.setIfInBounds_toArray, List.set_cons_zero, List.set_cons_succ])
  refine takeH (i := 40) (dst := some 112) (v := ?v36) rfl rfl (by kernel_rfl) (by kernel_rfl) (by kernel_rfl) (fun _ _ _ h => h) rfl ?hy36 hH rfl ?rest36
  case hy36 => (intro W hW; have q0 := hW.geo.1; have q1 := hW.geo.2.1; have q2 := hW.geo.2.2.1; have a0 := hW.r.c0; have a1 := hW.r.c1; have a2 := hW.r.c2; have d0 := hW.q.c0; have d1 := hW.q.c1; have d2 := hW.q.c2; have g0 := hW.v.c0; have g1 := hW.v.c1; have g2 := hW.v.c2; have k1 := conv_str hW.sx L.length xc rfl; have k2 := conv_str hW.sy L.length yc rfl; clear hW; go_simp; try with_reducible rfl)
  (try simp only [Act.put, List.setIfInBounds_toArray, List.set_cons_zero, List.set_cons_succ])
  refine wpAnyH_done (by kernel_rfl) ?_ _
  clear hH
  have HM : Hid _ := m5
  clear m5 GR
  by_cases he : ep = 0
  · subst he
    obtain ⟨G, rfl, rfl⟩ := HXP.out rfl
    have GG := HGX.out rfl _ G HM.out.sx
    have q0 := HM.out.geo.1; have q1 := HM.out.geo.2.1; have q2 := HM.out.geo.2.2.1
    go_wp2_with fail
    refine GG.mono ?_
    rintro e wz ⟨rfl, hz9⟩
    have HM2 : Hid _ := HM.out.up hz9
    clear HM hz9 GG q0 q1 q2
    have HN : Hid (HeadAt (wz.alloc (.cells (hA 0 z16 z8) 28)) wz.heap.size 0 z16 z8) := head_new wz 0 z16 z8 rfl rfl
    have HNB : Hid (Below wz.heap.size wz (wz.alloc (.cells (hA 0 z16 z8) 28))) := (Below.refl _ _).alloc (Nat.le_refl _) _
    go_upto_region 15 with (first | ((with_reducible show wpList _ _ _ ({ dst := _, op := Op.store 28 _ _, type := _, pos := _, after := _, guard := _ } :: _) _ _); refine wpList_store_head rfl _ _ rfl (HN.out) HLB.out HLS.out rfl rfl ?_; intro wy Hy by9 zy))
    have by' : Below wz.heap.size wz wy := HNB.out.trans by9
    have HM3 : Hid _ := HM2.out.up by'
    have HY : Hid _ := Hy
    clear HM2 HN HNB Hy by9 zy by'
    go_wp2_with (first | ((with_reducible show wpList _ _ _ ({ dst := _, op := Op.load 28 _, type := _, pos := _, after := _, guard := _ } :: _) _ _); refine wpList_load_head rfl _ rfl (HY.out) rfl ?_) | ((with_reducible show wpList _ _ _ ({ dst := _, op := Op.load 28 _, type := _, pos := _, after := _, guard := _ } :: _) _ _); refine wpList_load_head rfl _ rfl (HM3.out.h) rfl ?_) | ((with_reducible show wpList _ _ _ ({ dst := _, op := Op.binOp BinOp.eql 28 _ _ 28, type := _, pos := _, after := _, guard := _ } :: _) _ _); refine wpList_eq_head rfl _ _ rfl rfl rfl HLB.out HLS.out HLB.out HLS.out HEQ.out ?_))
    refine (known_any _).mono ?_
    rintro e wx ⟨rfl, hx9⟩
    have HB := HM3.out.geo.2.2.2.trans (hx9.mono HM3.out.geo.2.2.2.size)
    go_wp2
    go_ret
    exact ⟨rfl, HB⟩
  · have hef : (ep == 0) = false := by simpa using he
    go_wp2_with fail
    refine (known_any _).mono ?_
    rintro e wx ⟨rfl, hx9⟩
    have HB := HM.out.geo.2.2.2.trans (hx9.mono HM.out.geo.2.2.2.size)
    go_wp2
    go_ret
    exact ⟨rfl, HB⟩
end Go.Proofs.Ytfbbdpapnegmcaa
