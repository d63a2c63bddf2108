/- leveelaw07.known. -/
import Derived.Test.YtabmogeicpphoaaInts
namespace Go.Proofs.Ytabmogeicpphoaa
open Go.RowKit
def kI0 : Ino := ⟨1, 1, 300, 5, [0, 0, 0, 0, 0, 0, 0, 0]⟩
def kI1 : Ino := ⟨1, 1, 300, 5, [7, 0, 0, 0, 0, 0, 0, 0]⟩
def kI : Ino := ⟨1, 1, 300, 5, [7, 9, 0, 0, 0, 0, 0, 0]⟩
theorem kI_rt : rtB kI = true := by decide +kernel
theorem kI_get : getV (layI kI) = kI := by
  have h : eqI (getV (layI kI)) kI = true := by decide +kernel
  exact eqI_iff.1 h
theorem kI_err : getE (layI kI) = 0 := by decide +kernel
theorem kI_b0 : (layI kI)[0]? = some 1 := by decide +kernel
theorem kI_b16 : (layI kI)[16]? = some 7 := by decide +kernel
theorem Blk.arg {w : World} {g : Nat} {t : TypeId} {l : List UInt8} (h : Blk w g t l) (h0 : 0 < l.length) (hl : l.length ≤ 140737488355328) : Arg w (some ⟨g, 0, none⟩) l.length l :=
  .inr ⟨g, 0, rfl, h0, Nat.le_refl _, by omega, hl, h.src⟩
theorem wpList_build_four {ops : Array Oper} {rest : List Oper} {op : Oper} {a : Act} {w : World} {Q : Exit → Act → World → Prop} (hgd : op.guard = none) {x0 x1 x2 x3 : Operand} {k l s d : Int} (ho : op.op = .build 24 #[(0, x0), (1, x1), (2, x2), (3, x3)])
    (e0 : a.eval x0 = .int .i64 k) (e1 : a.eval x1 = .int .i64 l) (e2 : a.eval x2 = .int .i64 s) (e3 : a.eval x3 = .int .i64 d)
    (h : wpList Try.prog ops Q rest (a.put op.dst (.agg (iA ⟨k, l, s, d, [0, 0, 0, 0, 0, 0, 0, 0]⟩))) w) : wpList Try.prog ops Q (op :: rest) a w :=
  wpList_plain hgd fun K hK => by
    unfold Oper.wp
    rw [exec_build_four ho e0 e1 e2 e3]
    exact hK _ _ h
set_option maxRecDepth 100000 in
set_option maxHeartbeats 8000000 in
theorem iknown_any (w : World) : Calls Try.prog 17 #[] w fun e w' => e = .returned (.bool true) ∧ Below w.heap.size w w' := by
  have hz := zeroI
  have HN : Hid (InoAt (w.alloc (.cells (iA zino) 24)) w.heap.size zino) := ino_new w zino rfl
  have HNB : Hid (Below w.heap.size w (w.alloc (.cells (iA zino) 24))) := (Below.refl _ _).alloc (Nat.le_refl _) _
  have PY := iput_yes kI rfl kI_rt
  have HLN : Hid ((layI kI).length = 64) := layI_length rfl
  have BL := blocks_any kI rfl (by decide)
  rw [show blkN kI.s = 2 from rfl] at BL
  have NM := names_any kI rfl
  rw [show nz kI.ns = [7, 9] from rfl] at NM
  go_enter Try.func17, Try.ntmps17
  go_upto_region 2 with (first | ((with_reducible show wpList _ _ _ ({ dst := _, op := Op.build 24 _, type := _, pos := _, after := _, guard := _ } :: _) _ _); refine wpList_build_four rfl rfl rfl rfl rfl rfl ?_) | ((with_reducible show wpList _ _ _ ({ dst := _, op := Op.store 24 _ _, type := _, pos := _, after := _, guard := _ } :: _) _ _); refine wpList_store_ino rfl _ _ rfl (HN.out) rfl rfl rfl ?_; intro w1 H1 b1 z1))
  have HB1 : Hid (Below w.heap.size w w1) := HNB.out.trans b1
  have HI1 : Hid (InoAt w1 w.heap.size kI0) := H1
  clear HN HNB b1 z1 H1 hz
  have c4 : w1.cell? ⟨w.heap.size, 4, none⟩ = some (.int .i64 0) := HI1.out.name 0 (by omega)
  have c5 : w1.cell? ⟨w.heap.size, 5, none⟩ = some (.int .i64 0) := HI1.out.name 1 (by omega)
  have f4 := HI1.out.frozen 4
  have f5 := HI1.out.frozen 5
  have HI2 : Hid (InoAt ((w1.setCell ⟨w.heap.size, 4, none⟩ (.int .i64 7)).setCell ⟨w.heap.size, 5, none⟩ (.int .i64 9)) w.heap.size kI) := (HI1.out.set 0 7).set 1 9
  have HB2 : Hid (Below w.heap.size w ((w1.setCell ⟨w.heap.size, 4, none⟩ (.int .i64 7)).setCell ⟨w.heap.size, 5, none⟩ (.int .i64 9))) := (HB1.out.setCell (by simp) _).setCell (by simp) _
  go_upto_region 4 with fail
  generalize (w1.setCell ⟨w.heap.size, 4, none⟩ (.int .i64 7)).setCell ⟨w.heap.size, 5, none⟩ (.int .i64 9) = w2 at *
  clear HI1 HB1 c4 c5 f4 f5
  go_wp2_with (first | ((with_reducible show wpList _ _ _ ({ dst := _, op := Op.load 24 _, type := _, pos := _, after := _, guard := _ } :: _) _ _); refine wpList_load_ino rfl _ rfl (HI2.out) rfl ?_))
  refine (PY _).mono ?_
  rintro e w3 ⟨G, rfl, hg3, hG3, h3⟩
  have HI3 : Hid (InoAt w3 w.heap.size kI) := HI2.out.up h3
  have HB3 : Hid (Below w.heap.size w w3) := HB2.out.trans (h3.mono HB2.out.size)
  have HG3 : Hid (Blk w3 G 64 (layI kI)) := hg3
  clear HI2 HB2 PY hg3 h3
  have GT := iget_any (some ⟨G, 0, none⟩) 64 (layI kI) w3 (by have h := HG3.out.arg (by rw [HLN.out]; omega) (by rw [HLN.out]; omega); rw [HLN.out] at h; exact h)
  rw [HLN.out, kI_get, kI_err] at GT
  go_upto_region 5 with fail
  go_wp2_with fail
  refine GT.mono ?_
  rintro e w4 ⟨rfl, h4⟩
  have HI4 : Hid (InoAt w4 w.heap.size kI) := HI3.out.up h4
  have HB4 : Hid (Below w.heap.size w w4) := HB3.out.trans (h4.mono HB3.out.size)
  have HG4 : Hid (Blk w4 G 64 (layI kI)) := HG3.out.below h4 HG3.out.lt
  have hsz4 := HI4.out.lt
  have hG4 := HG4.out.lt
  clear GT HI3 HB3 HG3 h4
  have hz := zeroI
  have HN : Hid (InoAt (w4.alloc (.cells (iA zino) 24)) w4.heap.size zino) := ino_new w4 zino rfl
  have HNB : Hid (Below w4.heap.size w4 (w4.alloc (.cells (iA zino) 24))) := (Below.refl _ _).alloc (Nat.le_refl _) _
  go_upto_region 6 with (first | ((with_reducible show wpList _ _ _ ({ dst := _, op := Op.store 24 _ _, type := _, pos := _, after := _, guard := _ } :: _) _ _); refine wpList_store_ino rfl _ _ rfl (HN.out) rfl rfl rfl ?_; intro w5 H5 b5 z5))
  have hb5 : Below w4.heap.size w4 w5 := HNB.out.trans b5
  have HI5 : Hid (InoAt w5 w.heap.size kI) := HI4.out.up hb5
  have HX5 : Hid (InoAt w5 w4.heap.size kI) := H5
  have HB5 : Hid (Below w.heap.size w w5) := HB4.out.trans (hb5.mono HB4.out.size)
  have HG5 : Hid (Blk w5 G 64 (layI kI)) := HG4.out.below hb5 HG4.out.lt
  clear HN HNB hb5 H5 b5 z5 HI4 HB4 HG4 hz
  go_wp2_with (first | ((with_reducible show wpList _ _ _ ({ dst := _, op := Op.load 24 _, type := _, pos := _, after := _, guard := _ } :: _) _ _); refine wpList_load_ino rfl _ rfl (HI5.out) rfl ?_))
  refine (BL _).mono ?_
  rintro e w6 ⟨rfl, h6⟩
  have HI6 : Hid (InoAt w6 w.heap.size kI) := HI5.out.up h6
  have HX6 : Hid (InoAt w6 w4.heap.size kI) := HX5.out.up h6
  have HB6 : Hid (Below w.heap.size w w6) := HB5.out.trans (h6.mono HB5.out.size)
  have HG6 : Hid (Blk w6 G 64 (layI kI)) := HG5.out.below h6 HG5.out.lt
  clear HI5 HX5 HB5 HG5 h6 BL
  go_wp2_with (first | ((with_reducible show wpList _ _ _ ({ dst := _, op := Op.load 24 _, type := _, pos := _, after := _, guard := _ } :: _) _ _); refine wpList_load_ino rfl _ rfl (HI6.out) rfl ?_))
  refine (NM _).mono ?_
  rintro e w7 ⟨v, rfl, hv, h7⟩
  obtain ⟨ao, cap, rfl, hs7, _, _, _⟩ := hv.form
  have al : Below w7.heap.size w7 (w7.alloc (.cells #[.int .i64 7, .int .i64 9] 3)) := (Below.refl _ _).alloc (Nat.le_refl _) _
  have hI8 := (HI6.out.up h7).up al
  have hX8 := (HX6.out.up h7).up al
  have hB8 := (HB6.out.trans (h7.mono HB6.out.size)).trans (al.mono ((HB6.out.trans (h7.mono HB6.out.size))).size)
  have hG8 := (HG6.out.below h7 HG6.out.lt)
  have hG9 := hG8.below al hG8.lt
  have IN := ints_any ao (some ⟨w7.heap.size, 0, none⟩) [7, 9] [7, 9] cap 2 (w7.alloc (.cells #[.int .i64 7, .int .i64 9] 3)) (hs7.below al (Nat.le_refl _)) (SrcI.row (t := 3) (heap_alloc_new _ _)) (by simp) (by simp)
  have HI8 : Hid _ := hI8
  have HX8 : Hid _ := hX8
  have HB8 : Hid _ := hB8
  have HG8 : Hid (Blk _ G 64 (layI kI)) := hG9
  clear hI8 hX8 hB8 hG8 hG9 al HI6 HX6 HB6 HG6 hv hs7 h7 NM
  go_wp2_with fail
  refine IN.mono ?_
  rintro e w9 ⟨rfl, h9⟩
  have HI9 : Hid (InoAt w9 w.heap.size kI) := HI8.out.up h9
  have HX9 : Hid (InoAt w9 w4.heap.size kI) := HX8.out.up h9
  have HB9 : Hid (Below w.heap.size w w9) := HB8.out.trans (h9.mono HB8.out.size)
  have HG9 : Hid (Blk w9 G 64 (layI kI)) := HG8.out.below h9 HG8.out.lt
  have c0 : w9.cell? ⟨G, 0, none⟩ = some (.int .u8 1) := by
    rw [HG9.out.cell 0 (by rw [HLN.out]; omega)]
    have := kI_b0
    rw [List.getElem?_eq_getElem (by rw [HLN.out]; omega)] at this
    rw [Option.some.inj this]; rfl
  have c16 : w9.cell? ⟨G, 16, none⟩ = some (.int .u8 7) := by
    rw [HG9.out.cell 16 (by rw [HLN.out]; omega)]
    have := kI_b16
    rw [List.getElem?_eq_getElem (by rw [HLN.out]; omega)] at this
    rw [Option.some.inj this]; rfl
  clear HI8 HX8 HB8 HG8 IN h9
  go_wp2_with (first | ((with_reducible show wpList _ _ _ ({ dst := _, op := Op.load 24 _, type := _, pos := _, after := _, guard := _ } :: _) _ _); refine wpList_load_ino rfl _ rfl (HI9.out) rfl ?_) | ((with_reducible show wpList _ _ _ ({ dst := _, op := Op.load 24 _, type := _, pos := _, after := _, guard := _ } :: _) _ _); refine wpList_load_ino rfl _ rfl (HX9.out) rfl ?_) | ((with_reducible show wpList _ _ _ ({ dst := _, op := Op.binOp BinOp.eql 24 _ _ 24, type := _, pos := _, after := _, guard := _ } :: _) _ _); refine wpList_eq_ino rfl _ _ rfl rfl rfl rfl rfl rfl ?_))
  go_ret
  exact ⟨rfl, HB9.out⟩
end Go.Proofs.Ytabmogeicpphoaa
