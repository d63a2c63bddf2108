/- leveelaw04.known. -/
import Derived.Test.YtjdfkbpadhndlaaDoorPutMath
import Derived.Deep.Cut
namespace Go.Proofs.YtjdfkbpadhndlaaDoor
open Go.RowKit
theorem Blk.says {w : World} {G : Nat} {l : List UInt8} (h : Blk w G 55 l) (hl : l.length = 256) (ht : Tab w) : Says w (.slice (some ⟨G, 0, none⟩) 256 256) l :=
  fun W hb => sget_any G 0 256 l hl W (h.src.below hb (Nat.le_refl _)) (ht.below hb (block_lt_of_cell (ht 0 (by omega)))) (by omega) (by omega)
theorem Says.up {w w' : World} {v : Value} {l : List UInt8} (h : Says w v l) (hb : Below w.heap.size w w') : Says w' v l := fun W hW => h W (hb.trans (hW.mono hb.size))
theorem Blk.up {w w' : World} {G : Nat} {t : TypeId} {l : List UInt8} (h : Blk w G t l) (hb : Below w.heap.size w w') : Blk w' G t l := h.below hb h.lt
theorem Blk.store {w : World} {g : Nat} {t : TypeId} {l : List UInt8} (h : Blk w g t l) (j : Nat) (x : UInt8) : Blk (w.setCell ⟨g, j, none⟩ (bv x)) g t (l.set j x) := by
  have := heap_setCell_same w g j _ _ (bv x) h
  rw [Blk, this]
  simp [bvs, List.map_set]
theorem Row4.putb {w : World} {p G j : Nat} {t : TypeId} {g a i n : Int} (h : Row4 w p t g a i n) (hne : p ≠ G) (v : Value) : Row4 (w.setCell ⟨G, j, none⟩ v) p t g a i n :=
  (heap_setCell_other w ⟨G, j, none⟩ p v hne).trans h
theorem choose_both {la lb : List UInt8} {bl : Int} (ha : getE la = 0) (hb : getE lb = 0) (pa : rdG la % 2 = 0) (pb : rdG lb % 2 = 1) (sa : 2 + (rdN la : Int) * rdA la ≤ bl) (sb : 2 + (rdN lb : Int) * rdA lb ≤ bl) (h : rdG la < rdG lb) : chooseB la lb bl = (rdG lb, (rdA lb : Int), (rdI lb : Int), (rdN lb : Int)) := by
  have t1 : takes la 0 bl (0, 0, 0, 0) = true := by
    have := (okS_iff.1 (getE_ok ha)).1
    simp [takes, ha, pa, sa]; omega
  have t2 : takes lb 1 bl (nextB la 0 bl (0, 0, 0, 0)) = true := by
    rw [nextB_yes t1]; simp [takes, hb, pb, sb, h]
  rw [chooseB, nextB_yes t2]
theorem choose_first {la lb : List UInt8} {bl : Int} (ha : getE la = 0) (hb : getE lb ≠ 0) (pa : rdG la % 2 = 0) (sa : 2 + (rdN la : Int) * rdA la ≤ bl) : chooseB la lb bl = (rdG la, (rdA la : Int), (rdI la : Int), (rdN la : Int)) := by
  have t1 : takes la 0 bl (0, 0, 0, 0) = true := by
    have := (okS_iff.1 (getE_ok ha)).1
    simp [takes, ha, pa, sa]; omega
  have t2 : takes lb 1 bl (nextB la 0 bl (0, 0, 0, 0)) = false := by simp [takes, hb]
  rw [chooseB, nextB_no t2, nextB_yes t1]
theorem kok2 : okS 2 16 8 2 = true := by decide
theorem kok3 : okS (2 + 1) 16 8 2 = true := by decide
theorem kbyte : (putL 3 16 8 2)[20]'(by rw [putL_length]; omega) ≠ 1 := by
  have e : (putL 3 16 8 2)[20]? = some 0 := by
    rw [putL_eq, pre252, List.append_assoc, List.getElem?_append_right (by rw [pre18_length]; omega), pre18_length]
    rw [List.getElem?_append_left (by rw [List.length_replicate]; omega)]
    rw [List.getElem?_replicate]; rfl
  rw [List.getElem?_eq_getElem (by rw [putL_length]; omega)] at e
  rw [Option.some.inj e]; decide
theorem kch1 : chooseB (putL 2 16 8 2) (putL 3 16 8 2) 34 = (3, 16, 8, 2) := by
  obtain ⟨a1, a2, a3, a4, a5⟩ := get_put 2 16 8 2 kok2
  obtain ⟨b1, b2, b3, b4, b5⟩ := get_put 3 16 8 2 kok3
  rw [choose_both a5 b5 (by rw [a1]; rfl) (by rw [b1]; rfl) (by rw [a4, a2]; decide) (by rw [b4, b2]; decide) (by rw [a1, b1]; decide), b1, b2, b3, b4]; rfl
theorem kch2 : chooseB (putL 2 16 8 2) ((putL 3 16 8 2).set 20 1) 34 = (2, 16, 8, 2) := by
  obtain ⟨a1, a2, a3, a4, a5⟩ := get_put 2 16 8 2 kok2
  have hE : getE ((putL 3 16 8 2).set 20 1) ≠ 0 := by
    rcases put_turned 3 16 8 2 20 1 (by omega) kbyte with h | h <;> rw [h] <;> omega
  rw [choose_first a5 hE (by rw [a1]; rfl) (by rw [a4, a2]; decide), a1, a2, a3, a4]; rfl
set_option maxRecDepth 100000 in
set_option maxHeartbeats 8000000 in
theorem sknown_any (w : World) (ht : Tab w) : Calls Tryd.prog 15 #[] w fun e w' => e = .returned (.bool true) ∧ Below w.heap.size w w' := by
  have hw0 : 0 < w.heap.size := block_lt_of_cell (ht 0 (by omega))
  have NX := fun W => next_ok 2 16 8 2 16 8 2 W kok2 kok3
  have HB0 : Hid (Below w.heap.size w ((w.alloc (.cells #[.int .i64 16, .int .i64 8, .int .i64 2] 23)).alloc (.cells #[.int .i64 2, .int .i64 16, .int .i64 8, .int .i64 2] 30))) := two_allocs _ _ _
  have HS0 : Hid (Row4 ((w.alloc (.cells #[.int .i64 16, .int .i64 8, .int .i64 2] 23)).alloc (.cells #[.int .i64 2, .int .i64 16, .int .i64 8, .int .i64 2] 30)) (w.heap.size + 1) 30 2 16 8 2) := heap_alloc2_new _ _ _
  go_enter Tryd.func15, Tryd.ntmps15
  go_wp2_with fail
  refine (NX _).mono ?_
  rintro e w1 ⟨rfl, hb1⟩
  clear NX
  have HB1 : Hid (Below w.heap.size w w1) := HB0.out.trans (hb1.mono HB0.out.size)
  have hal1 : Below w1.heap.size w1 (w1.alloc (.cells #[.int .i64 3, .int .i64 16, .int .i64 8, .int .i64 2] 30)) := (Below.refl _ _).alloc (Nat.le_refl _) _
  have HT1 : Hid (Row4 (w1.alloc (.cells #[.int .i64 3, .int .i64 16, .int .i64 8, .int .i64 2] 30)) w1.heap.size 30 3 16 8 2) := heap_alloc_new _ _
  have HS1 : Hid (Row4 (w1.alloc (.cells #[.int .i64 3, .int .i64 16, .int .i64 8, .int .i64 2] 30)) (w.heap.size + 1) 30 2 16 8 2) := (HS0.out.up hb1).up hal1
  have HB2 : Hid (Below w.heap.size w (w1.alloc (.cells #[.int .i64 3, .int .i64 16, .int .i64 8, .int .i64 2] 30))) := HB1.out.trans (hal1.mono HB1.out.size)
  have PA := sput_ok 2 16 8 2 _ (ht.below HB2.out hw0) kok2
  have c0 := HS1.out.c0
  have c1 := HS1.out.c1
  have c2 := HS1.out.c2
  have c3 := HS1.out.c3
  clear HS0 HB0 hb1 hal1
  go_wp2_with fail
  clear c0 c1 c2 c3
  refine PA.mono ?_
  rintro e w3 ⟨G, rfl, hG, hGl, hb3⟩
  clear PA
  have HG3 : Hid (Blk w3 G 55 (putL 2 16 8 2)) := hG
  have HS3 : Hid (Row4 w3 (w.heap.size + 1) 30 2 16 8 2) := HS1.out.up hb3
  have HT3 : Hid (Row4 w3 w1.heap.size 30 3 16 8 2) := HT1.out.up hb3
  have HB3 : Hid (Below w.heap.size w w3) := HB2.out.trans (hb3.mono HB2.out.size)
  have hpt : w.heap.size + 1 < w1.heap.size := by have := HS1.out.lt; have := HT1.out.lt; have h9 : (w1.alloc (.cells #[.int .i64 3, .int .i64 16, .int .i64 8, .int .i64 2] 30)).heap.size = w1.heap.size + 1 := by show (w1.heap.push _).size = _; simp
                                                  have hne : w.heap.size + 1 ≠ w1.heap.size := by intro c; have h1 := HS1.out; rw [c] at h1; have h2 := h1.symm.trans HT1.out; simp at h2
                                                  omega
  have PB := sput_ok 3 16 8 2 w3 (ht.below HB3.out hw0) kok3
  have c0 := HT3.out.c0
  have c1 := HT3.out.c1
  have c2 := HT3.out.c2
  have c3 := HT3.out.c3
  clear hG HS1 HT1 HB2 hb3 HB1
  go_wp2_with fail
  clear c0 c1 c2 c3
  refine PB.mono ?_
  rintro e w4 ⟨H, rfl, hH, hHl, hb4⟩
  clear PB
  have HG4 : Hid (Blk w4 G 55 (putL 2 16 8 2)) := HG3.out.up hb4
  have HH4 : Hid (Blk w4 H 55 (putL 3 16 8 2)) := hH
  have HS4 : Hid (Row4 w4 (w.heap.size + 1) 30 2 16 8 2) := HS3.out.up hb4
  have HT4 : Hid (Row4 w4 w1.heap.size 30 3 16 8 2) := HT3.out.up hb4
  have HB4 : Hid (Below w.heap.size w w4) := HB3.out.trans (hb4.mono HB3.out.size)
  have hT4 := ht.below HB4.out hw0
  have hGH : G < H := by have := HG3.out.lt; omega
  have hTH : w1.heap.size < H := by have := HT3.out.lt; omega
  have CH : Calls Tryd.prog 16 #[.slice (some ⟨G, 0, none⟩) 256 256, .slice (some ⟨H, 0, none⟩) 256 256, .int .i64 34] w4 fun e w' => e = .returned (.tuple #[.agg #[.int .i64 3, .int .i64 16, .int .i64 8, .int .i64 2], .int .i64 1, .int .i64 0]) ∧ Below w4.heap.size w4 w' := by
    have h := choose_any (some ⟨G, 0, none⟩) (some ⟨H, 0, none⟩) 256 256 256 256 (putL 2 16 8 2) (putL 3 16 8 2) 34 w4 (HG4.out.says (putL_length _ _ _ _) hT4) (HH4.out.says (putL_length _ _ _ _) hT4)
    rw [kch1] at h; exact h
  clear hH hb4 HG3 HS3 HT3 HB3 hT4
  go_wp2_with fail
  refine CH.mono ?_
  rintro e w5 ⟨rfl, hb5⟩
  clear CH
  have hal5 : Below w4.heap.size w4 (w5.alloc (.cells #[.int .i64 3, .int .i64 16, .int .i64 8, .int .i64 2] 30)) := hb5.alloc hb5.size _
  have hHlt : H < w4.heap.size := HH4.out.lt
  have hz5 : w4.heap.size ≤ w5.heap.size := hb5.size
  have HX6 : Hid (Row4 (w5.alloc (.cells #[.int .i64 3, .int .i64 16, .int .i64 8, .int .i64 2] 30)) w5.heap.size 30 3 16 8 2) := heap_alloc_new _ _
  have HG6 : Hid (Blk (w5.alloc (.cells #[.int .i64 3, .int .i64 16, .int .i64 8, .int .i64 2] 30)) G 55 (putL 2 16 8 2)) := HG4.out.up hal5
  have HH6 : Hid (Blk (w5.alloc (.cells #[.int .i64 3, .int .i64 16, .int .i64 8, .int .i64 2] 30)) H 55 (putL 3 16 8 2)) := HH4.out.up hal5
  have HS6 : Hid (Row4 (w5.alloc (.cells #[.int .i64 3, .int .i64 16, .int .i64 8, .int .i64 2] 30)) (w.heap.size + 1) 30 2 16 8 2) := HS4.out.up hal5
  have HT6 : Hid (Row4 (w5.alloc (.cells #[.int .i64 3, .int .i64 16, .int .i64 8, .int .i64 2] 30)) w1.heap.size 30 3 16 8 2) := HT4.out.up hal5
  have HB6 : Hid (Below w.heap.size w (w5.alloc (.cells #[.int .i64 3, .int .i64 16, .int .i64 8, .int .i64 2] 30))) := HB4.out.trans (hal5.mono HB4.out.size)
  obtain ⟨w6, HW6⟩ : ∃ w6, Hid (w6 = w5.alloc (.cells #[.int .i64 3, .int .i64 16, .int .i64 8, .int .i64 2] 30)) := ⟨_, rfl⟩
  rw [← HW6.out] at HX6 HG6 HH6 HS6 HT6 HB6
  have hsz6 : w6.heap.size = w5.heap.size + 1 := by rw [HW6.out]; show (w5.heap.push _).size = _; simp
  have HG7 : Hid (Blk (w6.setCell ⟨H, 20, none⟩ (bv 1)) G 55 (putL 2 16 8 2)) := (heap_setCell_other w6 ⟨H, 20, none⟩ G (bv 1) (by show G ≠ H; omega)).trans HG6.out
  have HH7 : Hid (Blk (w6.setCell ⟨H, 20, none⟩ (bv 1)) H 55 ((putL 3 16 8 2).set 20 1)) := HH6.out.store 20 1
  have HS7 : Hid (Row4 (w6.setCell ⟨H, 20, none⟩ (bv 1)) (w.heap.size + 1) 30 2 16 8 2) := HS6.out.putb (by omega) _
  have HT7 : Hid (Row4 (w6.setCell ⟨H, 20, none⟩ (bv 1)) w1.heap.size 30 3 16 8 2) := HT6.out.putb (by omega) _
  have HX7 : Hid (Row4 (w6.setCell ⟨H, 20, none⟩ (bv 1)) w5.heap.size 30 3 16 8 2) := HX6.out.putb (by omega) _
  have HB7 : Hid (Below w.heap.size w (w6.setCell ⟨H, 20, none⟩ (bv 1))) := HB6.out.setCell (p := ⟨H, 20, none⟩) (by show w.heap.size ≤ H; omega) _
  have hT7 := ht.below HB7.out hw0
  have CH : Calls Tryd.prog 16 #[.slice (some ⟨G, 0, none⟩) 256 256, .slice (some ⟨H, 0, none⟩) 256 256, .int .i64 34] (w6.setCell ⟨H, 20, none⟩ (bv 1)) fun e w' => e = .returned (.tuple #[.agg #[.int .i64 2, .int .i64 16, .int .i64 8, .int .i64 2], .int .i64 0, .int .i64 0]) ∧ Below (w6.setCell ⟨H, 20, none⟩ (bv 1)).heap.size (w6.setCell ⟨H, 20, none⟩ (bv 1)) w' := by
    have h := choose_any (some ⟨G, 0, none⟩) (some ⟨H, 0, none⟩) 256 256 256 256 (putL 2 16 8 2) ((putL 3 16 8 2).set 20 1) 34 _ (HG7.out.says (putL_length _ _ _ _) hT7) (HH7.out.says (by rw [List.length_set, putL_length]) hT7)
    rw [kch2] at h; exact h
  have hcell : w6.cell? ⟨H, 20, none⟩ = some (.int .u8 (nth (putL 3 16 8 2) 20)) := (HH6.out.cell 20 (by rw [putL_length]; omega)).trans (by rw [bv_nth])
  have hfro := HH6.out.frozen 20
  clear HX6 HG6 HH6 HS6 HT6 HB6 HG4 HH4 HS4 HT4 HB4 hT7 hal5 hb5
  go_upto_region 7 with fail
  rw [show w5.alloc (.cells #[.int .i64 3, .int .i64 16, .int .i64 8, .int .i64 2] 30) = w6 from HW6.out.symm]
  go_wp2_with fail
  refine CH.mono ?_
  rintro e w8 ⟨rfl, hb8⟩
  clear CH
  have hal8 : Below (w6.setCell ⟨H, 20, none⟩ (bv 1)).heap.size (w6.setCell ⟨H, 20, none⟩ (bv 1)) (w8.alloc (.cells #[.int .i64 2, .int .i64 16, .int .i64 8, .int .i64 2] 30)) := hb8.alloc hb8.size _
  have HS9 := HS7.out.up hal8
  have HT9 := HT7.out.up hal8
  have HX9 := HX7.out.up hal8
  have HB9 : Hid (Below w.heap.size w (w8.alloc (.cells #[.int .i64 2, .int .i64 16, .int .i64 8, .int .i64 2] 30))) := HB7.out.trans (hal8.mono HB7.out.size)
  have s0 := HS9.c0
  have s1 := HS9.c1
  have s2 := HS9.c2
  have s3 := HS9.c3
  have t0 := HT9.c0
  have t1 := HT9.c1
  have t2 := HT9.c2
  have t3 := HT9.c3
  have x0 := HX9.c0
  have x1 := HX9.c1
  have x2 := HX9.c2
  have x3 := HX9.c3
  clear HS9 HT9 HX9 HS7 HT7 HX7 HG7 HH7 HB7 hal8 hb8 hcell hfro HW6
  go_wp2_with fail
  go_ret
  exact ⟨rfl, HB9.out⟩
end Go.Proofs.YtjdfkbpadhndlaaDoor
