/- The document's store: Write. -/
import Derived.Test.YtadadidccbhopaaGreatJRimg5
import Derived.Test.YtadadidccbhopaaGreatJPwork3
import Derived.Deep.RegionLaw
namespace Go.Proofs.YtadadidccbhopaaGreat
open Go.RowKit
set_option maxRecDepth 100000
/-- The changes that V names are written. -/
def outR (V : Nat → Bool) : List RCh → Nat → List RCh
  | [], _ => []
  | c :: L, k => { c with out := c.out || V k } :: outR V L (k + 1)
theorem outR_append (V : Nat → Bool) : ∀ (A B : List RCh) (k : Nat), outR V (A ++ B) k = outR V A k ++ outR V B (k + A.length)
  | [], B, k => by simp [outR]
  | a :: A, B, k => by
    simp only [List.cons_append, outR, List.length_cons]
    rw [outR_append V A B (k + 1), show k + 1 + A.length = k + (A.length + 1) by omega]
theorem outR_length (V : Nat → Bool) : ∀ (A : List RCh) (k : Nat), (outR V A k).length = A.length
  | [], _ => rfl
  | a :: A, k => by simp [outR, outR_length V A (k + 1)]
/-- A list of changes, cell by cell. -/
def rcs (L : List RCh) : List Value := (L.map rcL).flatten
theorem rcs_snoc (L : List RCh) (c : RCh) : rcs (L ++ [c]) = rcs L ++ rcL c := by simp [rcs]
theorem Tryz.infoC : (Tryz.prog.info? 177).map (fun i => (i.zero.map fun z => z.cells.size, i.size, i.bytes)) = some (some 6, 6, 72) := by kernel_rfl
theorem infoC_parts : ∃ i0 z, Tryz.prog.info? 177 = some i0 ∧ i0.zero = some z ∧ z.cells.size = 6 ∧ i0.size = 6 ∧ i0.bytes = 72 := by
  have h := Tryz.infoC
  cases hi : Tryz.prog.info? 177 with
  | none => rw [hi] at h; cases h
  | some i0 =>
    rw [hi] at h
    simp only [Option.map_some, Option.some.injEq, Prod.mk.injEq] at h
    cases hz : i0.zero with
    | none => rw [hz] at h; cases h.1
    | some z =>
      rw [hz] at h
      exact ⟨i0, z, rfl, hz, Option.some.inj h.1, h.2.1, h.2.2⟩
theorem rcs_get : ∀ (L : List RCh) (i : Nat) (c : RCh), L[i]? = some c → ∀ (j : Nat) (v : Value), (rcL c)[j]? = some v → (rcs L)[i * 6 + j]? = some v
  | [], i, c, h, _, _, _ => by cases h
  | a :: L, 0, c, h, j, v, hv => by
    cases h
    have hj : j < (rcL a).length := (List.getElem?_eq_some_iff.1 hv).1
    show ((rcL a) ++ rcs L)[0 * 6 + j]? = _
    rw [Nat.zero_mul, Nat.zero_add, List.getElem?_append_left hj]
    exact hv
  | a :: L, i + 1, c, h, j, v, hv => by
    have := rcs_get L i c (by simpa using h) j v hv
    show ((rcL a) ++ rcs L)[(i + 1) * 6 + j]? = _
    rw [List.getElem?_append_right (by show 6 ≤ _; omega), show (i + 1) * 6 + j - (rcL a).length = i * 6 + j by show (i + 1) * 6 + j - 6 = _; omega]
    exact this
/-- A row of changes of one's own is a list of changes. -/
theorem lat_of_own {w : World} {base G cap : Nat} {L : List RCh} (h : w.ownsRow base 177 6 (.slice (some ⟨G, 0, none⟩) L.length cap) L.length (rcs L)) : LAt w (some ⟨G, 0, none⟩) cap L ∧ base ≤ G := by
  obtain ⟨h1, h2⟩ := h
  rcases h2 with ⟨h2, _⟩ | ⟨g, cap', cur, hv, hg, hh, hn, hm, hs, hx⟩
  · cases h2
  · cases hv
    refine ⟨⟨⟨hn, by unfold maxLen at hm; omega⟩, .inr ⟨G, rfl, (Array.getElem?_eq_some_iff.1 hh).1, fun i c hi j v hj => ?_⟩⟩, hg⟩
    have hr := rcs_get L i c hi j v hj
    have hlt : i * 6 + j < L.length * 6 := by rw [← h1]; exact (List.getElem?_eq_some_iff.1 hr).1
    rw [cell_of_row _ _ _ _ _ _ hh, ← Array.getElem?_toList, ← hr, ← hx, List.getElem?_take, if_pos hlt]
theorem LAt.keep {w w' : World} {G ca : Nat} {L : List RCh} {S : Nat → Prop} (h : LAt w (some ⟨G, 0, none⟩) ca L) (hf : Fr S w w') (hS : ¬ S G) : LAt w' (some ⟨G, 0, none⟩) ca L := by
  refine ⟨h.cap, ?_⟩
  rcases h.cells with e | ⟨g, e, hl, hc⟩
  · exact .inl e
  · cases e
    exact .inr ⟨G, rfl, by have := hf.size; omega, fun i c hi j v hv => (fr_cell hf (a := ⟨G, i * 6 + j, none⟩) hl hS).trans (hc i c hi j v hv)⟩
theorem src_fr {w w' : World} {S : Nat → Prop} {sp : Option Addr} {l : List UInt8} (h : Src w sp l) (hf : Fr S w w') (hS : ∀ b o, sp = some ⟨b, o, none⟩ → ¬ S b) : Src w' sp l := by
  rcases h with h | ⟨b, o, e, hl, hc⟩
  · exact .inl h
  · exact .inr ⟨b, o, e, by have := hf.size; omega, fun j hj => (fr_cell hf (a := ⟨b, o + j, none⟩) hl (hS b o e)).trans (hc j hj)⟩
section
variable {w : World} {q d gB cB : Nat} {B : List (List UInt8)} {ao : Option Addr} {ca : Nat} {L : List RCh} {last : Nat}
set_option maxHeartbeats 4000000 in
theorem rswrite_any {base N gb cb : Nat} {ver : Nat → List (List UInt8)} {va vc : Nat → Nat} (h : RAt w q d (.slice (some ⟨gB, 0, none⟩) B.length cB) ao ca L last) (hB : BAt w gB cB B) (hk : LOk w L) (hu : ∀ c ∈ L, c.fr + c.d.length ≤ 256 ∧ 0 < c.d.length) (n : Nat) (b0 : List UInt8) (hb0 : B[n]? = some b0) (V : Nat → Bool) (hV : ∀ (i : Nat) (c : RCh), L[i]? = some c → V i = (decide ((c.b : Int) = (n : Int)) && (!c.A.any (badA L V (n : Int)) && !(List.range i).any (badM L V c)))) (hf : ∀ (i : Nat) (c : RCh), L[i]? = some c → ∀ a ∈ c.A, findI L a 0 < (i : Int)) (hd : RefW w base d N false 0 ver gb cb va vc) (hnN : n < N) (hver : (ver n).length < 1000000) (hq : ∀ k, Rk d gb N va k → k ≠ q) :
    Calls Tryz.prog 55 #[.pointer (some ⟨q, 0, none⟩), .int .i64 (n : Int)] w fun e w' => ((L.any fun c => (c.b : Int) == (n : Int)) = false ∧ e = .returned (.int .i64 20) ∧ Below w.heap.size w w') ∨
      ((L.any fun c => (c.b : Int) == (n : Int)) = true ∧ e = .returned (.int .i64 0) ∧ (∃ G cap, RAt w' q d (.slice (some ⟨gB, 0, none⟩) B.length cB) (some ⟨G, 0, none⟩) cap (outR V L 0) last ∧ w.heap.size ≤ G) ∧ (∃ g c, RefW w' base d N false 0 (upd ver n (ver n ++ [laidR V L 0 b0])) gb cb (updN va n g) (updN vc n c) ∧ w.heap.size ≤ g) ∧ Fr (fun k => k = q ∨ k = d ∨ k = gb) w w') := by
  have HD : Hid (RefW w base d N false 0 ver gb cb va vc ∧ n < N ∧ (ver n).length < 1000000 ∧ ∀ k, Rk d gb N va k → k ≠ q) := ⟨hd, hnN, hver, hq⟩
  clear hd hnN hver hq
  have IM := rimage_any h hB hk hu n b0 hb0 V hV hf
  have MY := fun w1 (hb1 : Below w.heap.size w w1) => rmay_any (h.up hb1) ⟨hk.len, hk.bd, fun c hc => ⟨(hk.sr c hc).1.below hb1 (Nat.le_refl _), (hk.sr c hc).2⟩⟩ (n : Int) V hV hf
  have hll : (L.length : Int) ≤ 1000 := by have := hk.len; omega
  have HR : Hid (RAt w q d (.slice (some ⟨gB, 0, none⟩) B.length cB) ao ca L last) := h
  have HK : Hid (LOk w L) := hk
  clear h hB hk hu hb0 hV hf
  obtain ⟨x, hxe⟩ : ∃ x, laidR V L 0 b0 = x := ⟨_, rfl⟩
  have HXE : Hid (laidR V L 0 b0 = x) := hxe
  rw [hxe] at IM
  clear hxe
  go_enter Tryz.func55, Tryz.ntmps55
  go_wp2_with (first | (go_at_call 70; refine IM.mono ?_; clear IM; rintro r w1 ⟨xo, xc, rfl, hxa, hxl, hb1, hxf⟩; have MY1 := MY w1 hb1; have H1 : Hid (Arg w1 xo xc x ∧ x.length = 256 ∧ Below w.heap.size w w1 ∧ ∀ b o, xo = some ⟨b, o, none⟩ → w.heap.size ≤ b) := ⟨hxa, hxl, hb1, hxf⟩; clear MY hxa hxl hb1 hxf) | (go_at_call 109; refine MY1.mono ?_; clear MY1; rintro r w3 ⟨rfl, hrow, hb3⟩; have H3 : Hid (RowB w3 w1.heap.size (upTo V L.length L.length) ∧ Below w1.heap.size w1 w3) := ⟨hrow, hb3⟩; clear hrow hb3))
  have H4 : Hid (RowB w3 w1.heap.size (upTo V L.length L.length) ∧ Below w.heap.size w w3 ∧ Arg w3 xo xc x ∧ x.length = 256 ∧ w1.heap.size < w3.heap.size ∧ ∀ b o, xo = some ⟨b, o, none⟩ → w.heap.size ≤ b) := ⟨H3.out.1, H1.out.2.2.1.trans (H3.out.2.mono H1.out.2.2.1.size), H1.out.1.below H3.out.2 (Nat.le_refl _), H1.out.2.1, H3.out.1.lt, H1.out.2.2.2⟩
  clear H1 H3
  go_loopg [8, 9, 10, 11] 1000 (fun gg t8 t9 t10 _ W => ∃ (gw : World) (k : Nat) (v : Value), gw = W ∧ k ≤ L.length ∧ L.length - k ≤ gg ∧ t10 = .int .i64 k ∧ t9 = v ∧ t8 = .bool ((L.take k).any fun c => (c.b : Int) == (n : Int)) ∧ Hid (gw.ownsRow w3.heap.size 177 6 v k (rcs (outR V (L.take k) 0)) ∧ Below w3.heap.size w3 gw))
  case atStart => exact ⟨_, 0, _, rfl, by omega, by omega, rfl, rfl, rfl, World.ownsRow_nil _ _ _ _, Below.refl _ _⟩
  case round =>
    obtain ⟨gw, k, v, rfl, hkl, hgk, rfl, rfl, rfl, HG⟩ := hrel
    have hbw : Below w.heap.size w gw := H4.out.2.1.trans (HG.out.2.mono H4.out.2.1.size)
    have HBW : Hid (Below w.heap.size w gw) := hbw
    have c2 := (HR.out.up hbw).c2
    clear hbw
    by_cases hlt : (k : Int) < (L.length : Int)
    · obtain ⟨c, hc⟩ : ∃ c, L[k]? = some c := ⟨_, List.getElem?_eq_getElem (by omega)⟩
      obtain ⟨g, rfl, hgl, hcc⟩ : ∃ g, ao = some ⟨g, 0, none⟩ ∧ g < gw.heap.size ∧ ∀ (j : Nat) (v : Value), (rcL c)[j]? = some v → gw.cell? ⟨g, k * 6 + j, none⟩ = some v := by
        rcases (HR.out.up HBW.out).ls.cells with e | ⟨g, e, hl, h⟩
        · rw [e] at hc; cases hc
        · exact ⟨g, e, hl, fun j v hj => h k c hc j v hj⟩
      have cv : gw.cell? ⟨w1.heap.size, k, none⟩ = some (.bool (V k)) := (HG.out.2.cell (p := ⟨w1.heap.size, k, none⟩) H4.out.2.2.2.2.1).trans (H4.out.1.cell (upTo_get (by omega) (by omega)))
      have hca : (ca : Int) ≤ 9223372036854775807 := HR.out.ls.cap.2
      have x0 := hcc 0 _ rfl
      have x1 := hcc 1 _ rfl
      have x2 := hcc 2 _ rfl
      have x3 := hcc 3 _ rfl
      have x4 := hcc 4 _ rfl
      have x5 := hcc 5 _ rfl
      rw [Nat.add_zero] at x0
      have HC : Hid (L[k]? = some c) := hc
      clear hcc hc
      obtain ⟨vk, hvk⟩ : ∃ vk, V k = vk := ⟨_, rfl⟩
      have HVK : Hid (V k = vk) := hvk
      rw [hvk] at cv
      clear hvk
      go_upto_region 11 with fail
      have HB5 : Hid (Below gw.heap.size gw (gw.alloc (.cells #[.int .i64 (c.id : Int), .int .i64 (c.b : Int), .int .i64 (c.fr : Int), .string (str c.d), .slice c.ap c.A.length c.ac, .bool c.out] 177))) := (Below.refl _ _).alloc (Nat.le_refl _) _
      have HL5 : Hid ((gw.alloc (.cells #[.int .i64 (c.id : Int), .int .i64 (c.b : Int), .int .i64 (c.fr : Int), .string (str c.d), .slice c.ap c.A.length c.ac, .bool c.out] 177)).heap[gw.heap.size]? = some (.cells #[.int .i64 (c.id : Int), .int .i64 (c.b : Int), .int .i64 (c.fr : Int), .string (str c.d), .slice c.ap c.A.length c.ac, .bool c.out] 177 (0, 0))) := heap_alloc_new _ _
      clear x0 x1 x2 x3 x4 x5 c2
      generalize gw.alloc (.cells #[.int .i64 (c.id : Int), .int .i64 (c.b : Int), .int .i64 (c.fr : Int), .string (str c.d), .slice c.ap c.A.length c.ac, .bool c.out] 177) = W5 at *
      have HT : Hid (((L.take (k + 1)).any fun c => (c.b : Int) == (n : Int)) = (((L.take k).any fun c => (c.b : Int) == (n : Int)) || ((c.b : Int) == (n : Int)))) := by
        show _ = _
        rw [List.take_add_one, HC.out, List.any_append]
        simp
      have HZ5 : Hid (w1.heap.size < gw.heap.size) := by have := H4.out.2.2.2.2.1; have := HG.out.2.size; show _ < _; omega
      have cv5 : W5.cell? ⟨w1.heap.size, k, none⟩ = some (.bool vk) := (HB5.out.cell (p := ⟨w1.heap.size, k, none⟩) HZ5.out).trans cv
      clear cv
      generalize ((L.take k).any fun c => (c.b : Int) == (n : Int)) = av at *
      obtain ⟨eb, heb⟩ : ∃ eb, ((c.b : Int) == (n : Int)) = eb := ⟨_, rfl⟩
      have z1 : W5.cell? ⟨gw.heap.size, 1, none⟩ = some (.int .i64 (c.b : Int)) := (cell_of_row _ _ _ _ _ _ HL5.out).trans rfl
      go_cut [8] (fun t8 wc => t8 = .bool (av || eb) ∧ wc = W5)
      case first =>
        cases av
        · cases eb
          · go_wp2_with fail
            go_meet
            exact ⟨rfl, rfl⟩
          · go_wp2_with fail
            go_meet
            exact ⟨rfl, rfl⟩
        · go_wp2_with fail
          go_meet
          exact ⟨by simp, rfl⟩
      case rest =>
        obtain ⟨rfl, hwc⟩ := hcut
        obtain rfl : W5 = wc := hwc.symm
        rw [heb] at HT
        rw [← HT.out]
        clear heb HT z1
        obtain ⟨av2, hav2⟩ : ∃ a, ((L.take (k + 1)).any fun c => (c.b : Int) == (n : Int)) = a := ⟨_, rfl⟩
        have HAV2 : Hid (((L.take (k + 1)).any fun c => (c.b : Int) == (n : Int)) = av2) := hav2
        rw [hav2]
        clear hav2
        have z5 : W5.cell? ⟨gw.heap.size, 5, none⟩ = some (.bool c.out) := (cell_of_row _ _ _ _ _ _ HL5.out).trans rfl
        have fz : W5.frozen? ⟨gw.heap.size, 5, none⟩ = false := frozen_of_row _ _ _ _ _ HL5.out
        obtain ⟨co, hco⟩ : ∃ co, c.out = co := ⟨_, rfl⟩
        have HCO : Hid (c.out = co) := hco
        rw [hco] at z5
        clear hco
        go_upto_region 12 with fail
        go_cut [] (fun wc => wc = W5.setCell ⟨gw.heap.size, 5, none⟩ (.bool (co || vk)))
        case first =>
          cases co
          · cases vk
            · go_wp2_with fail
              go_meet
              rfl
            · go_wp2_with fail
              go_meet
              rfl
          · go_wp2_with fail
            go_meet
            rfl
        case rest =>
          obtain rfl := hcut
          have HL6 : Hid ((W5.setCell ⟨gw.heap.size, 5, none⟩ (.bool (co || vk))).heap[gw.heap.size]? = some (.cells #[.int .i64 (c.id : Int), .int .i64 (c.b : Int), .int .i64 (c.fr : Int), .string (str c.d), .slice c.ap c.A.length c.ac, .bool (co || vk)] 177 (0, 0))) := heap_setCell_same W5 gw.heap.size 5 _ _ (.bool (co || vk)) HL5.out
          have HB6 : Hid (Below gw.heap.size gw (W5.setCell ⟨gw.heap.size, 5, none⟩ (.bool (co || vk)))) := HB5.out.setCell (Nat.le_refl _) _
          clear z5 fz HL5 HB5 cv5
          generalize W5.setCell ⟨gw.heap.size, 5, none⟩ (.bool (co || vk)) = W6 at *
          have y0 : W6.cell? ⟨gw.heap.size, 0, none⟩ = some (.int .i64 (c.id : Int)) := (cell_of_row _ _ _ _ _ _ HL6.out).trans rfl
          have y1 : W6.cell? ⟨gw.heap.size, 1, none⟩ = some (.int .i64 (c.b : Int)) := (cell_of_row _ _ _ _ _ _ HL6.out).trans rfl
          have y2 : W6.cell? ⟨gw.heap.size, 2, none⟩ = some (.int .i64 (c.fr : Int)) := (cell_of_row _ _ _ _ _ _ HL6.out).trans rfl
          have y3 : W6.cell? ⟨gw.heap.size, 3, none⟩ = some (.string (str c.d)) := (cell_of_row _ _ _ _ _ _ HL6.out).trans rfl
          have y4 : W6.cell? ⟨gw.heap.size, 4, none⟩ = some (.slice c.ap c.A.length c.ac) := (cell_of_row _ _ _ _ _ _ HL6.out).trans rfl
          have y5 : W6.cell? ⟨gw.heap.size, 5, none⟩ = some (.bool (co || vk)) := (cell_of_row _ _ _ _ _ _ HL6.out).trans rfl
          obtain ⟨i0, z, hi0, hz0, hz3, hzs, hzb⟩ := infoC_parts
          have HI : Hid (Tryz.prog.info? 177 = some i0 ∧ i0.zero = some z ∧ z.cells.size = 6 ∧ i0.size = 6 ∧ i0.bytes = 72) := ⟨hi0, hz0, hz3, hzs, hzb⟩
          clear hi0 hz0 hz3 hzs hzb
          obtain ⟨ob, hob⟩ : ∃ ob, (co || vk) = ob := ⟨_, rfl⟩
          have HOB : Hid ((co || vk) = ob) := hob
          rw [hob] at y5
          clear hob
          go_wp2_with (first | (at_builtin; refine Hid.out ?_))
          change wpList _ _ _ _ _ _
          have HOW : Hid ((W6.alloc (.cells (rcL { c with out := ob }).toArray 177)).ownsRow w3.heap.size 177 6 u9 k (rcs (outR V (L.take k) 0))) := by
            refine row_same HG.out.1 fun j hj => ?_
            exact (HB6.out.alloc HB6.out.size _).block j (World.ownsRow.lt HG.out.1 j hj).2
          refine wpList_app rfl (.tmp 56) (.tmp 58) 41 rfl w3.heap.size 177 i0 z 6 72 Tryz.underlying41 HI.out.1 HI.out.2.1 HI.out.2.2.2.1 HI.out.2.2.2.2 HI.out.2.2.1 (by decide) (by decide) k (rcs (outR V (L.take k) 0)) (rcL { c with out := ob }) _ rfl _ _ rfl HOW.out rfl (fun j u hj => (cell_of_row _ _ _ _ _ _ (heap_alloc_new _ _)).trans (by rw [← hj]; rcases j with _ | _ | _ | _ | _ | _ | j <;> rfl)) (fun u hu => by simp [rcL] at hu; rcases hu with rfl | rfl | rfl | rfl | rfl | rfl <;> rfl) (by rw [size_alloc]; have := HB6.out.size; have := HG.out.2.size; omega) (by omega) ?_
          intro G cap w7 ho7 hg7 _
          have H7 : Hid (w7.ownsRow w3.heap.size 177 6 (.slice (some ⟨G, 0, none⟩) (k + 1) cap) (k + 1) (rcs (outR V (L.take (k + 1)) 0)) ∧ Below w3.heap.size w3 w7) := by
            refine ⟨?_, (HG.out.2.trans ((HB6.out.alloc HB6.out.size _).mono HG.out.2.size)).trans ((Below.refl _ _).grown hg7 (by rw [size_alloc]; have := HB6.out.size; have := HG.out.2.size; omega) (fun j hj => (World.ownsRow.lt HG.out.1 j hj).1))⟩
            rw [List.take_add_one, HC.out]
            rw [outR_append]
            have e : outR V [c] (0 + (L.take k).length) = [{ c with out := ob }] := by
              simp only [outR]
              rw [List.length_take, Nat.zero_add, Nat.min_eq_left hkl, HVK.out, HCO.out, HOB.out]
            show w7.ownsRow _ _ _ _ _ (rcs (outR V (L.take k) 0 ++ outR V [c] _))
            rw [e, rcs_snoc]
            exact ho7
          clear ho7 hg7 HOW y0 y1 y2 y3 y4 y5
          go_wp2_with fail
          go_roundg (L.length - (k + 1))
          case measure => omega
          case rel => exact ⟨_, k + 1, _, rfl, by omega, by omega, by go_num, rfl, by first | rfl | (rw [HAV2.out]), H7.out⟩
    · obtain rfl : k = L.length := by omega
      have HTK : Hid (L.take L.length = L) := List.take_length
      rw [HTK.out] at HG
      rw [HTK.out]
      have hql : q < w.heap.size := (Array.getElem?_eq_some_iff.1 HR.out.at').1
      have HQL : Hid (q < w.heap.size) := hql
      have hat : gw.heap[q]? = _ := (HR.out.up HBW.out).at'
      have HAT : Hid (gw.heap[q]? = some (.cells #[.pointer (some ⟨d, 0, none⟩), .slice (some ⟨gB, 0, none⟩) B.length cB, .slice ao L.length ca, .int .i64 (last : Int)] 43 (0, 0))) := hat
      have fzq : gw.frozen? ⟨q, 2, none⟩ = false := frozen_of_row _ _ _ _ _ hat
      clear hat hql
      obtain ⟨an, han⟩ : ∃ an, (L.any fun c => (c.b : Int) == (n : Int)) = an := ⟨_, rfl⟩
      have HAN : Hid ((L.any fun c => (c.b : Int) == (n : Int)) = an) := han
      rw [han]
      clear han
      cases an with
      | false =>
        go_wp2_with fail
        go_ret
        exact .inl ⟨by simpa using HAN.out, rfl, HBW.out⟩
      | true =>
        obtain ⟨G, cap, rfl⟩ : ∃ G cap, u9 = .slice (some ⟨G, 0, none⟩) L.length cap := by
          rcases HG.out.1.2 with ⟨_, h0⟩ | ⟨g, cap, cur, hv, _⟩
          · exfalso
            have : L = [] := List.eq_nil_of_length_eq_zero h0
            have h1 := HAN.out
            rw [this] at h1
            cases h1
          · exact ⟨g, cap, hv⟩
        have HLT : Hid (LAt gw (some ⟨G, 0, none⟩) cap (outR V L 0) ∧ w3.heap.size ≤ G) := lat_of_own (L := outR V L 0) (by rw [outR_length]; exact HG.out.1)
        have hsz : w.heap.size ≤ w3.heap.size := H4.out.2.1.size
        have hdl : d < w.heap.size := HD.out.1.rl
        have hgbl : gb < w.heap.size := HD.out.1.at'.gl
        have HF8 : Hid (Fr (fun k => k = q) w (gw.setCell ⟨q, 2, none⟩ (.slice (some ⟨G, 0, none⟩) L.length cap))) := (Fr.of_below HBW.out).setCell q 2 _ rfl
        have HG8 : Hid (Fr (fun k => k = q) gw (gw.setCell ⟨q, 2, none⟩ (.slice (some ⟨G, 0, none⟩) L.length cap))) := (Fr.refl _ gw).setCell q 2 _ rfl
        have HR8 : Hid (RAt (gw.setCell ⟨q, 2, none⟩ (.slice (some ⟨G, 0, none⟩) L.length cap)) q d (.slice (some ⟨gB, 0, none⟩) B.length cB) (some ⟨G, 0, none⟩) cap (outR V L 0) last) := by
          refine ⟨?_, HLT.out.1.keep HG8.out (by have := HLT.out.2; have := HQL.out; show ¬ G = q; omega)⟩
          rw [outR_length]
          exact heap_setCell_same gw q 2 _ _ (.slice (some ⟨G, 0, none⟩) L.length cap) HAT.out
        have HX8 : Hid (Src (gw.setCell ⟨q, 2, none⟩ (.slice (some ⟨G, 0, none⟩) L.length cap)) xo x) := src_fr (H4.out.2.2.1.below HG.out.2 (Nat.le_refl _)).src HG8.out (fun b o e => by have := H4.out.2.2.2.2.2 b o e; have := HQL.out; show ¬ b = q; omega)
        have HSZ8 : Hid (gw.heap.size = (gw.setCell ⟨q, 2, none⟩ (.slice (some ⟨G, 0, none⟩) L.length cap)).heap.size) := by show _ = _; simp [World.setCell]
        go_upto_region 17 with fail
        generalize gw.setCell ⟨q, 2, none⟩ (.slice (some ⟨G, 0, none⟩) L.length cap) = W8 at *
        have WR := rwrite_go (HD.out.1.keep HF8.out HD.out.2.2.2) (by omega) rfl n HD.out.2.1 HD.out.2.2.1 x H4.out.2.2.2.1 xo xc HX8.out (fun b o e => by have := H4.out.2.2.2.2.2 b o e; omega)
        have e0 : W8.cell? ⟨q, 0, none⟩ = some (.pointer (some ⟨d, 0, none⟩)) := (cell_of_row _ _ _ _ _ _ HR8.out.at').trans rfl
        have HLS : Hid (w.heap.size ≤ w3.heap.size ∧ d < w.heap.size ∧ gb < w.heap.size) := ⟨hsz, hdl, hgbl⟩
        clear hsz hdl hgbl fzq c2
        go_wp2_with (first | (go_at_call 110; refine WR.mono ?_; clear WR; rintro r w9 ⟨rfl, ⟨g9, ⟨c9, hr9⟩, hg9⟩, hf9⟩))
        go_ret
        refine .inr ⟨HAN.out, rfl, ⟨G, cap, ⟨?_, HR8.out.ls.keep hf9 ?_⟩, ?_⟩, ⟨g9, c9, ?_, ?_⟩, ?_⟩
        · refine (hf9.blk q ?_ ?_).trans HR8.out.at'
          · have := HF8.out.size; have := HQL.out; omega
          · rintro (h | h)
            · exact HD.out.2.2.2 q (.inl h) rfl
            · exact HD.out.2.2.2 q (.inr (.inl h)) rfl
        · have := HLT.out.2
          have := HLS.out
          rintro (h | h) <;> omega
        · have := HLT.out.2; have := HLS.out; omega
        · rw [HXE.out]; exact hr9
        · have := HF8.out.size; omega
        · exact (HF8.out.mono (fun k _ h => .inl h)).trans (hf9.mono (fun k _ h => .inr h))
end
end Go.Proofs.YtadadidccbhopaaGreat
/- The document's store: Flush. -/
namespace Go.Proofs.YtadadidccbhopaaGreat
open Go.RowKit
set_option maxRecDepth 100000
/-- The bases behind a flush. -/
def flB : List RCh → List (List UInt8) → List (List UInt8)
  | [], B => B
  | c :: L, B => flB L (if c.out then B.set c.b (layB (B.getD c.b []) c.fr c.d) else B)
theorem flB_snoc : ∀ (L : List RCh) (c : RCh) (B : List (List UInt8)), flB (L ++ [c]) B = if c.out then (flB L B).set c.b (layB ((flB L B).getD c.b []) c.fr c.d) else flB L B
  | [], _, _ => rfl
  | _ :: L, c, _ => flB_snoc L c _
theorem flB_length : ∀ (L : List RCh) (B : List (List UInt8)), (flB L B).length = B.length
  | [], _ => rfl
  | c :: L, B => by
    rw [flB, flB_length L]
    split
    · simp
    · rfl
/-- The changes that stay open. -/
def keptR (L : List RCh) : List RCh := L.filter fun c => !c.out
theorem keptR_snoc (L : List RCh) (c : RCh) : keptR (L ++ [c]) = if c.out then keptR L else keptR L ++ [c] := by
  unfold keptR
  rw [List.filter_append]
  cases h : c.out <;> simp [h]
theorem fr_below_cell {S : Nat → Prop} {w w' : World} (h : Fr S w w') {a : Addr} {v : Value} (hc : w.cell? a = some v) (hl : a.block < w.heap.size) (hS : ¬ S a.block) : w'.cell? a = some v := (fr_cell h hl hS).trans hc
theorem BAt.keep {w w' : World} {g c : Nat} {B : List (List UInt8)} {S : Nat → Prop} (h : BAt w g c B) (hf : Fr S w w') (hS : ¬ S g) : BAt w' g c B :=
  ⟨by have := hf.size; have := h.lt; omega, h.cap, h.len, fun i b hi => (fr_cell hf (a := ⟨g, i, none⟩) h.lt hS).trans (h.cells i b hi)⟩
/-- One base is another one. -/
theorem BAt.set {w : World} {g c : Nat} {B : List (List UInt8)} (h : BAt w g c B) {i : Nat} (hi : i < B.length) {x : List UInt8} (hx : x.length = 256) : BAt (w.setCell ⟨g, i, none⟩ (.string (str x))) g c (B.set i x) := by
  have hb := h.cells i _ (List.getElem?_eq_getElem hi)
  refine ⟨by simpa [World.setCell] using h.lt, by rw [List.length_set]; exact h.cap, ⟨by rw [List.length_set]; exact h.len.1, fun b hb' => ?_⟩, fun j b hj => ?_⟩
  · rcases List.mem_or_eq_of_mem_set hb' with h1 | h1
    · exact h.len.2 b h1
    · rw [h1]; exact hx
  · rw [List.getElem?_set] at hj
    by_cases e : i = j
    · subst e
      rw [if_pos rfl, if_pos hi] at hj
      cases hj
      exact World.cell?_setCell_same _ _ _ hb
    · rw [if_neg e] at hj
      rw [World.cell?_setCell_other _ _ _ _ (by simp)]
      exact h.cells j b hj
section
variable {w : World} {q d gB cB : Nat} {B : List (List UInt8)} {ao : Option Addr} {ca : Nat} {L : List RCh} {last : Nat}
theorem RAt.keep {w' : World} {vB : Value} {S : Nat → Prop} (h : RAt w q d vB ao ca L last) (hf : Fr S w w') (hq : ¬ S q) (hg : ∀ g o, ao = some ⟨g, o, none⟩ → ¬ S g) : RAt w' q d vB ao ca L last := by
  refine ⟨(hf.blk q (Array.getElem?_eq_some_iff.1 h.at').1 hq).trans h.at', h.ls.cap, ?_⟩
  rcases h.ls.cells with e | ⟨g, e, hl, hc⟩
  · exact .inl e
  · exact .inr ⟨g, e, by have := hf.size; omega, fun i c hi j v hv => (fr_cell hf (a := ⟨g, i * 6 + j, none⟩) hl (hg g 0 e)).trans (hc i c hi j v hv)⟩
set_option maxHeartbeats 8000000 in
theorem rsflush_any {base N gb cb : Nat} {ver : Nat → List (List UInt8)} {va vc : Nat → Nat} (h : RAt w q d (.slice (some ⟨gB, 0, none⟩) B.length cB) ao ca L last) (hB : BAt w gB cB B) (hfz : ∀ o, w.frozen? ⟨gB, o, none⟩ = false) (hl : L.length ≤ 1000) (hu : ∀ c ∈ L, c.fr + c.d.length ≤ 256 ∧ 0 < c.d.length ∧ c.b < B.length) (hd : RefW w base d N false 0 ver gb cb va vc) (hqd : q ≠ d ∧ q ≠ gb ∧ q ≠ gB ∧ gB ≠ d ∧ gB ≠ gb) (hg : ∀ g o, ao = some ⟨g, o, none⟩ → g ≠ q ∧ g ≠ gB ∧ g ≠ d ∧ g ≠ gb) (hva : ∀ i, i < N → va i ≠ q ∧ va i ≠ gB) :
    Calls Tryz.prog 56 #[.pointer (some ⟨q, 0, none⟩)] w fun e w' => e = .returned (.int .i64 0) ∧ (∃ ao' ca', RAt w' q d (.slice (some ⟨gB, 0, none⟩) B.length cB) ao' ca' (keptR L) last ∧ (∀ g o, ao' = some ⟨g, o, none⟩ → w.heap.size ≤ g ∧ g < w'.heap.size) ∧ (ao' = none ∨ ∃ g, ao' = some ⟨g, 0, none⟩)) ∧ BAt w' gB cB (flB L B) ∧ (∀ o, w'.frozen? ⟨gB, o, none⟩ = false) ∧ (∃ va' vc', RefW w' base d N false 0 (fun i => if i < N then [lv (ver i)] else ver i) gb cb va' vc' ∧ VA w N va va') ∧ Fr (fun k => k = q ∨ k = d ∨ k = gb ∨ k = gB) w w' := by
  have e0 : w.cell? ⟨q, 0, none⟩ = some (.pointer (some ⟨d, 0, none⟩)) := (cell_of_row _ _ _ _ _ _ h.at').trans rfl
  have FL := rflush_go hd (by omega) rfl
  have hll : (L.length : Int) ≤ 1000 := by omega
  have hca : (ca : Int) ≤ 9223372036854775807 := h.ls.cap.2
  have hcB := hB.cap.2
  have hbl : (B.length : Int) ≤ 1000 := by have := hB.len.1; omega
  have HR : Hid (RAt w q d (.slice (some ⟨gB, 0, none⟩) B.length cB) ao ca L last) := h
  have HB : Hid (BAt w gB cB B ∧ ∀ o, w.frozen? ⟨gB, o, none⟩ = false) := ⟨hB, hfz⟩
  have HU : Hid (∀ c ∈ L, c.fr + c.d.length ≤ 256 ∧ 0 < c.d.length ∧ c.b < B.length) := hu
  have HNE : Hid ((q ≠ d ∧ q ≠ gb ∧ q ≠ gB ∧ gB ≠ d ∧ gB ≠ gb) ∧ (∀ g o, ao = some ⟨g, o, none⟩ → g ≠ q ∧ g ≠ gB ∧ g ≠ d ∧ g ≠ gb) ∧ (∀ i, i < N → va i ≠ q ∧ va i ≠ gB) ∧ q < w.heap.size) := ⟨hqd, hg, hva, (Array.getElem?_eq_some_iff.1 h.at').1⟩
  have HB0 : Hid (gB < w.heap.size) := hB.lt
  clear h hB hu hfz hd hqd hg hva
  go_enter Tryz.func56, Tryz.ntmps56
  go_wp2_with (first | (go_at_call 111; refine FL.mono ?_; clear FL; rintro r w1 ⟨rfl, ⟨va1, ⟨vc1, hd1⟩, hVA⟩, hf1⟩))
  have HD1 : Hid (RefW w1 base d N false 0 (fun i => if i < N then [lv (ver i)] else ver i) gb cb va1 vc1 ∧ VA w N va va1) := ⟨hd1, hVA⟩
  have HF1 : Hid (Fr (RG d gb) w w1) := hf1
  have HR1 : Hid (RAt w1 q d (.slice (some ⟨gB, 0, none⟩) B.length cB) ao ca L last) := HR.out.keep hf1 (fun h => h.elim HNE.out.1.1 HNE.out.1.2.1) (fun g o e h => h.elim (HNE.out.2.1 g o e).2.2.1 (HNE.out.2.1 g o e).2.2.2)
  have HB1 : Hid (BAt w1 gB cB B ∧ ∀ o, w1.frozen? ⟨gB, o, none⟩ = false) := by
    have hn : ¬ RG d gb gB := fun h => h.elim HNE.out.1.2.2.2.1 HNE.out.1.2.2.2.2
    exact ⟨HB.out.1.keep hf1 hn, fun o => (fr_frozen hf1 (a := ⟨gB, o, none⟩) HB.out.1.lt hn).trans (HB.out.2 o)⟩
  have HZ1 : Hid (w.heap.size ≤ w1.heap.size ∧ q < w1.heap.size ∧ gB < w1.heap.size) := ⟨hf1.size, by have := hf1.size; have := HNE.out.2.2.2; omega, HB1.out.1.lt⟩
  clear e0 hd1 hVA hf1 HR HB
  go_loopg [3, 4, 5] 1000 (fun gg t3 t4 _ W => ∃ (gw : World) (k m : Nat) (v : Value), gw = W ∧ k ≤ L.length ∧ L.length - k ≤ gg ∧ t4 = .int .i64 k ∧ t3 = v ∧ m ≤ k ∧ Hid (m = (keptR (L.take k)).length ∧ gw.ownsRow w1.heap.size 177 6 v m (rcs (keptR (L.take k))) ∧ Fr (fun j => j = gB) w1 gw ∧ BAt gw gB cB (flB (L.take k) B) ∧ ∀ o, gw.frozen? ⟨gB, o, none⟩ = false))
  case atStart => exact ⟨_, 0, 0, _, rfl, by omega, by omega, rfl, rfl, by omega, rfl, World.ownsRow_nil _ _ _ _, Fr.refl _ _, HB1.out.1, HB1.out.2⟩
  case round =>
    obtain ⟨gw, k, m, v, rfl, hkl, hgk, rfl, rfl, hmk, HG⟩ := hrel
    have hgz : w1.heap.size ≤ gw.heap.size := HG.out.2.2.1.size
    have c2 := fr_below_cell HG.out.2.2.1 HR1.out.c2 HZ1.out.2.1 HNE.out.1.2.2.1
    by_cases hlt : (k : Int) < (L.length : Int)
    · obtain ⟨c, hc⟩ : ∃ c, L[k]? = some c := ⟨_, List.getElem?_eq_getElem (by omega)⟩
      obtain ⟨g, rfl, hgl, hcc⟩ : ∃ g, ao = some ⟨g, 0, none⟩ ∧ g < w1.heap.size ∧ ∀ (j : Nat) (v : Value), (rcL c)[j]? = some v → gw.cell? ⟨g, k * 6 + j, none⟩ = some v := by
        rcases HR1.out.ls.cells with e | ⟨g', e, hl, h⟩
        · rw [e] at hc; cases hc
        · exact ⟨g', e, hl, fun j v hj => fr_below_cell HG.out.2.2.1 (h k c hc j v hj) hl (HNE.out.2.1 g' 0 e).2.1⟩
      have x0 := hcc 0 _ rfl
      have x1 := hcc 1 _ rfl
      have x2 := hcc 2 _ rfl
      have x3 := hcc 3 _ rfl
      have x4 := hcc 4 _ rfl
      have x5 := hcc 5 _ rfl
      rw [Nat.add_zero] at x0
      have HC : Hid (L[k]? = some c ∧ L.take (k + 1) = L.take k ++ [c]) := ⟨hc, by rw [List.take_add_one, hc]; rfl⟩
      have HUC := HU.out c (List.mem_of_getElem? hc)
      clear hcc hc
      obtain ⟨co, hco⟩ : ∃ co, c.out = co := ⟨_, rfl⟩
      rw [hco] at x5
      have HCO : Hid (c.out = co) := hco
      cases co with
      | false =>
        clear hco
        go_upto_region 7 with fail
        have HB5 : Hid (Below gw.heap.size gw (gw.alloc (.cells #[.int .i64 (c.id : Int), .int .i64 (c.b : Int), .int .i64 (c.fr : Int), .string (str c.d), .slice c.ap c.A.length c.ac, .bool false] 177))) := (Below.refl _ _).alloc (Nat.le_refl _) _
        have HL5 : Hid ((gw.alloc (.cells #[.int .i64 (c.id : Int), .int .i64 (c.b : Int), .int .i64 (c.fr : Int), .string (str c.d), .slice c.ap c.A.length c.ac, .bool false] 177)).heap[gw.heap.size]? = some (.cells #[.int .i64 (c.id : Int), .int .i64 (c.b : Int), .int .i64 (c.fr : Int), .string (str c.d), .slice c.ap c.A.length c.ac, .bool false] 177 (0, 0))) := heap_alloc_new _ _
        clear x0 x1 x2 x3 x4 x5 c2
        generalize gw.alloc (.cells #[.int .i64 (c.id : Int), .int .i64 (c.b : Int), .int .i64 (c.fr : Int), .string (str c.d), .slice c.ap c.A.length c.ac, .bool false] 177) = W5 at *
        have y0 : W5.cell? ⟨gw.heap.size, 0, none⟩ = some (.int .i64 (c.id : Int)) := (cell_of_row _ _ _ _ _ _ HL5.out).trans rfl
        have y1 : W5.cell? ⟨gw.heap.size, 1, none⟩ = some (.int .i64 (c.b : Int)) := (cell_of_row _ _ _ _ _ _ HL5.out).trans rfl
        have y2 : W5.cell? ⟨gw.heap.size, 2, none⟩ = some (.int .i64 (c.fr : Int)) := (cell_of_row _ _ _ _ _ _ HL5.out).trans rfl
        have y3 : W5.cell? ⟨gw.heap.size, 3, none⟩ = some (.string (str c.d)) := (cell_of_row _ _ _ _ _ _ HL5.out).trans rfl
        have y4 : W5.cell? ⟨gw.heap.size, 4, none⟩ = some (.slice c.ap c.A.length c.ac) := (cell_of_row _ _ _ _ _ _ HL5.out).trans rfl
        have y5 : W5.cell? ⟨gw.heap.size, 5, none⟩ = some (.bool false) := (cell_of_row _ _ _ _ _ _ HL5.out).trans rfl
        obtain ⟨i0, z, hi0, hz0, hz3, hzs, hzb⟩ := infoC_parts
        have HI : Hid (Tryz.prog.info? 177 = some i0 ∧ i0.zero = some z ∧ z.cells.size = 6 ∧ i0.size = 6 ∧ i0.bytes = 72) := ⟨hi0, hz0, hz3, hzs, hzb⟩
        clear hi0 hz0 hz3 hzs hzb
        go_wp2_with (first | (at_builtin; refine Hid.out ?_))
        change wpList _ _ _ _ _ _
        have HOW : Hid ((W5.alloc (.cells (rcL { c with out := false }).toArray 177)).ownsRow w1.heap.size 177 6 u3 m (rcs (keptR (L.take k)))) := by
          refine row_same HG.out.2.1 fun j hj => ?_
          exact (HB5.out.alloc HB5.out.size _).block j (World.ownsRow.lt HG.out.2.1 j hj).2
        refine wpList_app rfl (.tmp 48) (.tmp 50) 41 rfl w1.heap.size 177 i0 z 6 72 Tryz.underlying41 HI.out.1 HI.out.2.1 HI.out.2.2.2.1 HI.out.2.2.2.2 HI.out.2.2.1 (by decide) (by decide) m (rcs (keptR (L.take k))) (rcL { c with out := false }) _ rfl _ _ rfl HOW.out rfl (fun j u hj => (cell_of_row _ _ _ _ _ _ (heap_alloc_new _ _)).trans (by rw [← hj]; rcases j with _ | _ | _ | _ | _ | _ | j <;> rfl)) (fun u hu => by simp [rcL] at hu; rcases hu with rfl | rfl | rfl | rfl | rfl | rfl <;> rfl) (by rw [size_alloc]; have := HB5.out.size; omega) (by omega) ?_
        intro G cap w7 ho7 hg7 _
        have H7 : Hid (m + 1 = (keptR (L.take (k + 1))).length ∧ w7.ownsRow w1.heap.size 177 6 (.slice (some ⟨G, 0, none⟩) (m + 1) cap) (m + 1) (rcs (keptR (L.take (k + 1)))) ∧ Fr (fun j => j = gB) w1 w7 ∧ BAt w7 gB cB (flB (L.take (k + 1)) B) ∧ ∀ o, w7.frozen? ⟨gB, o, none⟩ = false) := by
          have hbl7 : Below w1.heap.size gw w7 := ((HB5.out.alloc HB5.out.size _).mono hgz).trans ((Below.refl _ _).grown hg7 (by rw [size_alloc]; have := HB5.out.size; omega) (fun j hj => (World.ownsRow.lt HG.out.2.1 j hj).1))
          have hcc : ({ c with out := false } : RCh) = c := by rw [← HCO.out]
          have hgB7 : w7.heap[gB]? = gw.heap[gB]? := hbl7.block gB HZ1.out.2.2
          refine ⟨?_, ?_, ⟨by have := hbl7.size; omega, fun j hj hn => (hbl7.block j hj).trans (HG.out.2.2.1.blk j hj hn), hbl7.os.trans HG.out.2.2.1.os, hbl7.tape.trans HG.out.2.2.1.tape, hbl7.output.trans HG.out.2.2.1.output⟩, ?_, fun o => (World.frozen?_of_block (w := gw) (a := ⟨gB, o, none⟩) hgB7).trans (HG.out.2.2.2.2 o)⟩
          · rw [HC.out.2, keptR_snoc, HCO.out, HG.out.1]; simp
          · rw [HC.out.2, keptR_snoc, HCO.out]
            show w7.ownsRow _ _ _ _ _ (rcs (keptR (L.take k) ++ [c]))
            rw [rcs_snoc, ← hcc]
            exact ho7
          · rw [HC.out.2, flB_snoc, HCO.out]
            have k2 := HG.out.2.2.2.1
            exact ⟨by have := hbl7.size; have := k2.lt; omega, k2.cap, k2.len, fun i b hi => (World.cell?_of_block (w := gw) (a := ⟨gB, i, none⟩) hgB7).trans (k2.cells i b hi)⟩
        clear ho7 hg7 HOW y0 y1 y2 y3 y4 y5
        go_wp2_with fail
        go_roundg (L.length - (k + 1))
        case measure => omega
        case rel => exact ⟨_, k + 1, m + 1, _, rfl, by omega, by omega, by go_num, rfl, by omega, H7.out⟩
      | true =>
        go_upto_region 7 with fail
        have HB5 : Hid (Below gw.heap.size gw (gw.alloc (.cells #[.int .i64 (c.id : Int), .int .i64 (c.b : Int), .int .i64 (c.fr : Int), .string (str c.d), .slice c.ap c.A.length c.ac, .bool true] 177))) := (Below.refl _ _).alloc (Nat.le_refl _) _
        have HL5 : Hid ((gw.alloc (.cells #[.int .i64 (c.id : Int), .int .i64 (c.b : Int), .int .i64 (c.fr : Int), .string (str c.d), .slice c.ap c.A.length c.ac, .bool true] 177)).heap[gw.heap.size]? = some (.cells #[.int .i64 (c.id : Int), .int .i64 (c.b : Int), .int .i64 (c.fr : Int), .string (str c.d), .slice c.ap c.A.length c.ac, .bool true] 177 (0, 0))) := heap_alloc_new _ _
        clear x0 x1 x2 x3 x4 x5 c2
        generalize gw.alloc (.cells #[.int .i64 (c.id : Int), .int .i64 (c.b : Int), .int .i64 (c.fr : Int), .string (str c.d), .slice c.ap c.A.length c.ac, .bool true] 177) = W5 at *
        have z5 : W5.cell? ⟨gw.heap.size, 5, none⟩ = some (.bool true) := (cell_of_row _ _ _ _ _ _ HL5.out).trans rfl
        go_upto_region 8 with fail
        have hlB : (flB (L.take k) B).length = B.length := flB_length _ _
        obtain ⟨b, hb⟩ : ∃ b, (flB (L.take k) B)[c.b]? = some b := ⟨_, List.getElem?_eq_getElem (by rw [hlB]; exact HUC.2.2)⟩
        have HBB : Hid ((flB (L.take k) B)[c.b]? = some b ∧ (flB (L.take k) B).length = B.length) := ⟨hb, hlB⟩
        have HBL : Hid (b.length = 256) := HG.out.2.2.2.1.len.2 b (List.mem_of_getElem? hb)
        obtain ⟨xc, w6, hcv, hav, hbv⟩ := str_arg W5.drew b (by have := HBL.out; omega) (by have := HBL.out; omega)
        have HB65 : Hid (Below W5.heap.size W5 w6) := (Below.refl _ _).drew.trans hbv
        have UP := rupon_any c _ _ b w6 hav HBL.out HUC.1 HUC.2.1
        simp only [rcL] at UP
        rw [hco] at UP
        have hcb : (c.b : Int) < (B.length : Int) := by have := HUC.2.2; omega
        have HUC2 : Hid (c.fr + c.d.length ≤ 256 ∧ 0 < c.d.length ∧ c.b < B.length) := HUC
        have HAV : Hid (Arg w6 (some ⟨W5.drew.heap.size, 0, none⟩) xc b) := hav
        have hwl : gw.heap.size < W5.heap.size := (Array.getElem?_eq_some_iff.1 HL5.out).1
        have fct : ∀ W, Below W5.heap.size W5 W → (W.cell? ⟨q, 1, none⟩ = some (.slice (some ⟨gB, 0, none⟩) B.length cB) ∧ W.cell? ⟨gB, c.b, none⟩ = some (.string (str b)) ∧ W.frozen? ⟨gB, c.b, none⟩ = false) := fun W hW => by
          have hz := HZ1.out
          have hW2 : Below gw.heap.size gw W := HB5.out.trans (hW.mono HB5.out.size)
          refine ⟨(hW2.cell (p := ⟨q, 1, none⟩) (by show q < _; omega)).trans (fr_below_cell HG.out.2.2.1 HR1.out.c1 hz.2.1 HNE.out.1.2.2.1), (hW2.cell (p := ⟨gB, c.b, none⟩) (by show gB < _; omega)).trans (HG.out.2.2.2.1.cells c.b b HBB.out.1), (World.frozen?_of_block (w := gw) (a := ⟨gB, c.b, none⟩) (hW2.block gB (by omega))).trans (HG.out.2.2.2.2 c.b)⟩
        have q1 := (fct W5 (Below.refl _ _)).1
        have q2 := (fct W5 (Below.refl _ _)).2.1
        have q1' := (fct w6 HB65.out).1
        have q2' := (fct w6 HB65.out).2.1
        have bx : ∀ W, Below W5.heap.size W5 W → ∀ j v, (#[Value.int .i64 (c.id : Int), .int .i64 (c.b : Int), .int .i64 (c.fr : Int), .string (str c.d), .slice c.ap c.A.length c.ac, .bool true] : Array Value)[j]? = some v → W.cell? ⟨gw.heap.size, j, none⟩ = some v := fun W hW j v hj => (hW.cell (p := ⟨gw.heap.size, j, none⟩) hwl).trans ((cell_of_row _ _ _ _ _ _ HL5.out).trans hj)
        have b0 := bx W5 (Below.refl _ _) 0 _ rfl
        have b1 := bx W5 (Below.refl _ _) 1 _ rfl
        have b2 := bx W5 (Below.refl _ _) 2 _ rfl
        have b3 := bx W5 (Below.refl _ _) 3 _ rfl
        have b4 := bx W5 (Below.refl _ _) 4 _ rfl
        have b5 := bx W5 (Below.refl _ _) 5 _ rfl
        have d0 := bx w6 HB65.out 0 _ rfl
        have d1 := bx w6 HB65.out 1 _ rfl
        have d2 := bx w6 HB65.out 2 _ rfl
        have d3 := bx w6 HB65.out 3 _ rfl
        have d4 := bx w6 HB65.out 4 _ rfl
        have d5 := bx w6 HB65.out 5 _ rfl
        have FCT : Hid (∀ W, Below W5.heap.size W5 W → (W.cell? ⟨q, 1, none⟩ = some (.slice (some ⟨gB, 0, none⟩) B.length cB) ∧ W.cell? ⟨gB, c.b, none⟩ = some (.string (str b)) ∧ W.frozen? ⟨gB, c.b, none⟩ = false)) := fct
        have HS0 : Hid (Fr (fun k => k = gB) W5 W5.drew) := (Fr.refl _ _).drew
        have HQ5 : Hid (q < W5.heap.size ∧ ¬ q = gB) := ⟨by have := HZ1.out; omega, HNE.out.1.2.2.1⟩
        have HW5 : Hid (gw.heap.size < W5.heap.size ∧ ¬ gw.heap.size = gB) := ⟨hwl, by have := HZ1.out; omega⟩
        have HS6 : Hid (Fr (fun k => k = gB) W5 w6) := Fr.of_below HB65.out
        clear fct bx hwl HUC hav hbv hb z5 hlB
        refine wp_region_held_drew (S := (fun W => Fr (fun k => k = gB) W5 W)) (by kernel_rfl) HS0.out (fun hH => ?_)
        refine takeH (i := 0) (dst := some 29) (v := ?v1) rfl rfl (by kernel_rfl) (by kernel_rfl) (by kernel_rfl) (fun _ _ _ h => h) rfl ?hy1 hH rfl ?rest1
        case hy1 => (intro W hW; (try dsimp only at hW); go_simp; try with_reducible rfl)
        (try simp only [Act.put, List.setIfInBounds_toArray, List.set_cons_zero, List.set_cons_succ])
        refine takeH (i := 1) (dst := some 30) (v := ?v2) rfl rfl (by kernel_rfl) (by kernel_rfl) (by kernel_rfl) (fun _ _ _ h => h) rfl ?hy2 hH rfl ?rest2
        case hy2 => (intro W hW; (try dsimp only at hW); go_simp; try with_reducible rfl)
        (try simp only [Act.put, List.setIfInBounds_toArray, List.set_cons_zero, List.set_cons_succ])
        refine takeH (i := 2) (dst := some 31) (v := ?v3) rfl rfl (by kernel_rfl) (by kernel_rfl) (by kernel_rfl) (fun _ _ _ h => h) rfl ?hy3 hH rfl ?rest3
        case hy3 => (intro W hW; (try dsimp only at hW); go_simp; try with_reducible rfl)
        (try simp only [Act.put, List.setIfInBounds_toArray, List.set_cons_zero, List.set_cons_succ])
        refine takeH (i := 3) (dst := some 32) (v := ?v4) rfl rfl (by kernel_rfl) (by kernel_rfl) (by kernel_rfl) (fun _ _ _ h => h) rfl ?hy4 hH rfl ?rest4
        case hy4 => (intro W hW; have k1 := (fr_cell hW (a := ⟨q, 1, none⟩) HQ5.out.1 HQ5.out.2).trans q1; clear hW; go_simp; try with_reducible rfl)
        (try simp only [Act.put, List.setIfInBounds_toArray, List.set_cons_zero, List.set_cons_succ])
        refine takeH (i := 4) (dst := some 33) (v := ?v5) rfl rfl (by kernel_rfl) (by kernel_rfl) (by kernel_rfl) (fun _ _ _ h => h) rfl ?hy5 hH rfl ?rest5
        case hy5 => (intro W hW; (try dsimp only at hW); go_simp; try with_reducible rfl)
        (try simp only [Act.put, List.setIfInBounds_toArray, List.set_cons_zero, List.set_cons_succ])
        refine takeH (i := 5) (dst := some 34) (v := ?v6) rfl rfl (by kernel_rfl) (by kernel_rfl) (by kernel_rfl) (fun _ _ _ h => h) rfl ?hy6 hH rfl ?rest6
        case hy6 => (intro W hW; have k1 := (fr_cell hW (a := ⟨gw.heap.size, 1, none⟩) HW5.out.1 HW5.out.2).trans b1; clear hW; go_simp; try with_reducible rfl)
        (try simp only [Act.put, List.setIfInBounds_toArray, List.set_cons_zero, List.set_cons_succ])
        refine takeH (i := 6) (dst := some 35) (v := ?v7) rfl rfl (by kernel_rfl) (by kernel_rfl) (by kernel_rfl) (fun _ _ _ h => h) rfl ?hy7 hH rfl ?rest7
        case hy7 => (intro W hW; (try dsimp only at hW); go_simp; try with_reducible rfl)
        (try simp only [Act.put, List.setIfInBounds_toArray, List.set_cons_zero, List.set_cons_succ])
        refine takeH (i := 7) (dst := some 36) (v := ?v8) rfl rfl (by kernel_rfl) (by kernel_rfl) (by kernel_rfl) (fun _ _ _ h => h) rfl ?hy8 hH rfl ?rest8
        case hy8 => (intro W hW; (try dsimp only at hW); go_simp; try with_reducible rfl)
        (try simp only [Act.put, List.setIfInBounds_toArray, List.set_cons_zero, List.set_cons_succ])
        refine takeH (i := 8) (dst := some 37) (v := ?v9) rfl rfl (by kernel_rfl) (by kernel_rfl) (by kernel_rfl) (fun _ _ _ h => h) rfl ?hy9 hH rfl ?rest9
        case hy9 => (intro W hW; (try dsimp only at hW); go_simp; try with_reducible rfl)
        (try simp only [Act.put, List.setIfInBounds_toArray, List.set_cons_zero, List.set_cons_succ])
        refine takeH (i := 9) (dst := some 38) (v := ?v10) rfl rfl (by kernel_rfl) (by kernel_rfl) (by kernel_rfl) (fun _ _ _ h => h) rfl ?hy10 hH rfl ?rest10
        case hy10 => (intro W hW; have k1 := (fr_cell hW (a := ⟨q, 1, none⟩) HQ5.out.1 HQ5.out.2).trans q1; clear hW; go_simp; try with_reducible rfl)
        (try simp only [Act.put, List.setIfInBounds_toArray, List.set_cons_zero, List.set_cons_succ])
        refine takeH (i := 10) (dst := some 39) (v := ?v11) rfl rfl (by kernel_rfl) (by kernel_rfl) (by kernel_rfl) (fun _ _ _ h => h) rfl ?hy11 hH rfl ?rest11
        case hy11 => (intro W hW; (try dsimp only at hW); go_simp; try with_reducible rfl)
        (try simp only [Act.put, List.setIfInBounds_toArray, List.set_cons_zero, List.set_cons_succ])
        refine takeH (i := 11) (dst := some 40) (v := ?v12) rfl rfl (by kernel_rfl) (by kernel_rfl) (by kernel_rfl) (fun _ _ _ h => h) rfl ?hy12 hH rfl ?rest12
        case hy12 => (intro W hW; have k1 := (fr_cell hW (a := ⟨gw.heap.size, 1, none⟩) HW5.out.1 HW5.out.2).trans b1; clear hW; go_simp; try with_reducible rfl)
        (try simp only [Act.put, List.setIfInBounds_toArray, List.set_cons_zero, List.set_cons_succ])
        refine takeH (i := 12) (dst := some 41) (v := ?v13) rfl rfl (by kernel_rfl) (by kernel_rfl) (by kernel_rfl) (fun _ _ _ h => h) rfl ?hy13 hH rfl ?rest13
        case hy13 => (intro W hW; (try dsimp only at hW); go_simp; try with_reducible rfl)
        (try simp only [Act.put, List.setIfInBounds_toArray, List.set_cons_zero, List.set_cons_succ])
        refine takeH (i := 15) (dst := some 44) (v := ?v14) rfl rfl (by kernel_rfl) (by kernel_rfl) (by kernel_rfl) (fun _ _ _ h => h) rfl ?hy14 hH rfl ?rest14
        case hy14 => (intro W hW; have k0 := (fr_cell hW (a := ⟨gw.heap.size, 0, none⟩) HW5.out.1 HW5.out.2).trans b0; have k1 := (fr_cell hW (a := ⟨gw.heap.size, 1, none⟩) HW5.out.1 HW5.out.2).trans b1; have k2 := (fr_cell hW (a := ⟨gw.heap.size, 2, none⟩) HW5.out.1 HW5.out.2).trans b2; have k3 := (fr_cell hW (a := ⟨gw.heap.size, 3, none⟩) HW5.out.1 HW5.out.2).trans b3; have k4 := (fr_cell hW (a := ⟨gw.heap.size, 4, none⟩) HW5.out.1 HW5.out.2).trans b4; have k5 := (fr_cell hW (a := ⟨gw.heap.size, 5, none⟩) HW5.out.1 HW5.out.2).trans b5; clear hW; go_simp; try with_reducible rfl)
        (try simp only [Act.put, List.setIfInBounds_toArray, List.set_cons_zero, List.set_cons_succ])
        refine callH (i := 13) { dst := some 42, op := Go.Op.load 9 (Go.Operand.tmp 41), type := 9, pos := "ref.go:193", after := #[{ on := 12, ground := Go.Ground.data }], guard := none } (by kernel_rfl) rfl rfl (fun K hK => ?_)
        go_simp
        clear hH
        refine hK.out _ _ HS0.out (fun hH => ?_)
        clear hK K
        (try simp only [Act.put, List.setIfInBounds_toArray, List.set_cons_zero, List.set_cons_succ])
        refine callH (i := 14) { dst := some 43, op := Go.Op.convert 9 36 (Go.Operand.tmp 42), type := 36, pos := "ref.go:193", after := #[{ on := 13, ground := Go.Ground.data }], guard := none } (by kernel_rfl) rfl rfl (fun K hK => ?_)
        go_simp
        clear hH
        refine hK.out _ _ HS6.out (fun hH => ?_)
        clear hK K
        (try simp only [Act.put, List.setIfInBounds_toArray, List.set_cons_zero, List.set_cons_succ])
        refine callH (i := 16) { dst := some 45, op := Go.Op.call { callee := Go.Callee.value (Go.Operand.func 112), args := #[Go.Operand.tmp 43, Go.Operand.tmp 44], argTypes := #[36, 177] }, type := 36, pos := "ref.go:193", after := #[{ on := 14, ground := Go.Ground.data }, { on := 15, ground := Go.Ground.data }], guard := none } (by kernel_rfl) rfl rfl (fun K hK => ?_)
        go_simp
        refine UP.mono ?_
        rintro r w7 ⟨v7, rfl, ho, hb7⟩
        have H7 : Hid (Below W5.heap.size W5 w7) := HB65.out.trans (hb7.mono HB65.out.size)
        have f7 := FCT.out w7 H7.out
        have q3 := f7.1
        have q4 := f7.2.1
        have q5 := f7.2.2
        clear f7
        obtain ⟨yo, yc, rfl, hya⟩ := ho.arg (by rw [layB_length (by have := HBL.out; have := HUC2.out; omega)]; have := HBL.out; omega)
        have CV := conv_str hya.src (layB b c.fr c.d).length yc rfl
        clear ho hb7 hya
        clear hH
        refine hK.out _ _ (Fr.of_below H7.out) (fun hH => ?_)
        clear hK K
        (try simp only [Act.put, List.setIfInBounds_toArray, List.set_cons_zero, List.set_cons_succ])
        refine callH (i := 17) { dst := some 46, op := Go.Op.convert 36 9 (Go.Operand.tmp 45), type := 9, pos := "ref.go:193", after := #[{ on := 16, ground := Go.Ground.data }], guard := none } (by kernel_rfl) rfl rfl (fun K hK => ?_)
        go_simp
        clear hH
        refine hK.out _ _ (Fr.of_below H7.out) (fun hH => ?_)
        clear hK K
        (try simp only [Act.put, List.setIfInBounds_toArray, List.set_cons_zero, List.set_cons_succ])
        refine takeH (i := 18) (dst := some 47) (v := ?v15) rfl rfl (by kernel_rfl) (by kernel_rfl) (by kernel_rfl) (fun _ _ _ h => h) rfl ?hy15 hH rfl ?rest15
        case hy15 => (intro W hW; (try dsimp only at hW); go_simp; try with_reducible rfl)
        (try simp only [Act.put, List.setIfInBounds_toArray, List.set_cons_zero, List.set_cons_succ])
        refine callH (i := 19) { dst := none, op := Go.Op.store 9 (Go.Operand.tmp 47) (Go.Operand.tmp 46), type := 0, pos := "ref.go:193", after := #[{ on := 18, ground := Go.Ground.data }, { on := 17, ground := Go.Ground.data }, { on := 16, ground := Go.Ground.chain }, { on := 0, ground := Go.Ground.phase }, { on := 1, ground := Go.Ground.phase }, { on := 2, ground := Go.Ground.phase }, { on := 3, ground := Go.Ground.phase }, { on := 4, ground := Go.Ground.phase }, { on := 5, ground := Go.Ground.phase }, { on := 6, ground := Go.Ground.phase }, { on := 7, ground := Go.Ground.phase }, { on := 8, ground := Go.Ground.phase }, { on := 9, ground := Go.Ground.phase }, { on := 10, ground := Go.Ground.phase }, { on := 11, ground := Go.Ground.phase }, { on := 12, ground := Go.Ground.phase }, { on := 13, ground := Go.Ground.phase }, { on := 14, ground := Go.Ground.phase }, { on := 15, ground := Go.Ground.phase }, { on := 16, ground := Go.Ground.phase }, { on := 17, ground := Go.Ground.phase }], guard := none } (by kernel_rfl) rfl rfl (fun K hK => ?_)
        go_simp
        clear hH
        refine hK.out _ _ ((Fr.of_below H7.out).setCell gB c.b _ rfl) (fun hH => ?_)
        clear hK K
        (try simp only [Act.put])
        refine wpAnyH_done (by kernel_rfl) ?_ _
        clear hH
        have HW8 : Hid (m = (keptR (L.take (k + 1))).length ∧ (w7.setCell ⟨gB, c.b, none⟩ (.string (str (layB b c.fr c.d)))).ownsRow w1.heap.size 177 6 u3 m (rcs (keptR (L.take (k + 1)))) ∧ Fr (fun j => j = gB) w1 (w7.setCell ⟨gB, c.b, none⟩ (.string (str (layB b c.fr c.d)))) ∧ BAt (w7.setCell ⟨gB, c.b, none⟩ (.string (str (layB b c.fr c.d)))) gB cB (flB (L.take (k + 1)) B) ∧ ∀ o, (w7.setCell ⟨gB, c.b, none⟩ (.string (str (layB b c.fr c.d)))).frozen? ⟨gB, o, none⟩ = false) := by
          have h75 : Below gw.heap.size gw w7 := HB5.out.trans (H7.out.mono HB5.out.size)
          have hz := HZ1.out
          refine ⟨?_, ?_, ?_, ?_, fun o => ?_⟩
          · rw [HC.out.2, keptR_snoc, HCO.out]; exact HG.out.1
          · rw [HC.out.2, keptR_snoc, HCO.out]
            refine row_same HG.out.2.1 fun j hj => (heap_setCell_other w7 ⟨gB, c.b, none⟩ j _ ?_).trans (h75.block j (World.ownsRow.lt HG.out.2.1 j hj).2)
            have := (World.ownsRow.lt HG.out.2.1 j hj).1
            show j ≠ gB
            omega
          · exact (HG.out.2.2.1.trans (Fr.of_below h75)).setCell gB c.b _ rfl
          · rw [HC.out.2, flB_snoc, HCO.out]
            have e1 : (flB (L.take k) B).getD c.b [] = b := by rw [List.getD_eq_getElem?_getD, HBB.out.1]; rfl
            rw [if_pos rfl, e1]
            exact (HG.out.2.2.2.1.up h75).set (by rw [HBB.out.2]; exact HUC2.out.2.2) (by rw [layB_length (by have := HBL.out; have := HUC2.out; omega)]; exact HBL.out)
          · rw [World.frozen?_setCell]
            exact (World.frozen?_of_block (w := gw) (a := ⟨gB, o, none⟩) (h75.block gB (by omega))).trans (HG.out.2.2.2.2 o)
        clear UP hcv CV q1 q2 q1' q2' q3 q4 q5 b0 b1 b2 b3 b4 b5 d0 d1 d2 d3 d4 d5
        go_wp2_with fail
        go_roundg (L.length - (k + 1))
        case measure => omega
        case rel => exact ⟨_, k + 1, m, _, rfl, by omega, by omega, by go_num, rfl, by omega, HW8.out⟩
    · obtain rfl : k = L.length := by omega
      have HTK : Hid (L.take L.length = L) := List.take_length
      rw [HTK.out] at HG
      have hat : gw.heap[q]? = _ := (HG.out.2.2.1.blk q HZ1.out.2.1 HNE.out.1.2.2.1).trans HR1.out.at'
      have HAT : Hid (gw.heap[q]? = some (.cells #[.pointer (some ⟨d, 0, none⟩), .slice (some ⟨gB, 0, none⟩) B.length cB, .slice ao L.length ca, .int .i64 (last : Int)] 43 (0, 0))) := hat
      have fzq : gw.frozen? ⟨q, 2, none⟩ = false := frozen_of_row _ _ _ _ _ hat
      clear hat
      obtain ⟨ao', ca', rfl, HLT⟩ : ∃ ao' ca', u3 = .slice ao' m ca' ∧ Hid (LAt gw ao' ca' (keptR L) ∧ (∀ g o, ao' = some ⟨g, o, none⟩ → w1.heap.size ≤ g ∧ g < gw.heap.size) ∧ (ao' = none ∨ ∃ g, ao' = some ⟨g, 0, none⟩)) := by
        rcases HG.out.2.1.2 with ⟨rfl, h0⟩ | ⟨g, cap, cur, hv, _⟩
        · refine ⟨none, 0, by rw [h0], ⟨⟨?_, by omega⟩, .inl ?_⟩, (fun g o e => by cases e), .inl rfl⟩
          · rw [← HG.out.1, h0]; exact Nat.le_refl _
          · exact List.eq_nil_of_length_eq_zero (by rw [← HG.out.1, h0])
        · refine ⟨some ⟨g, 0, none⟩, cap, hv, ?_⟩
          have := lat_of_own (L := keptR L) (base := w1.heap.size) (G := g) (cap := cap) (w := gw) (by rw [← HG.out.1, ← hv]; exact HG.out.2.1)
          have hlt8 := World.ownsRow.lt HG.out.2.1 g (by rw [hv]; rfl)
          exact ⟨this.1, (fun g' o e => by cases e; exact hlt8), .inr ⟨g, rfl⟩⟩
      have hz := HZ1.out
      have HF8 : Hid (Fr (fun k => k = q) gw (gw.setCell ⟨q, 2, none⟩ (.slice ao' m ca'))) := (Fr.refl _ gw).setCell q 2 _ rfl
      have HR8 : Hid (RAt (gw.setCell ⟨q, 2, none⟩ (.slice ao' m ca')) q d (.slice (some ⟨gB, 0, none⟩) B.length cB) ao' ca' (keptR L) last) := by
        refine ⟨?_, HLT.out.1.cap, ?_⟩
        · rw [← HG.out.1]
          exact heap_setCell_same gw q 2 _ _ (.slice ao' m ca') HAT.out
        · rcases HLT.out.1.cells with e | ⟨g, e, hl, hc⟩
          · exact .inl e
          · exact .inr ⟨g, e, by have := HF8.out.size; omega, fun i c hi j v hv => fr_below_cell HF8.out (hc i c hi j v hv) hl (by have := (HLT.out.2.1 g 0 e).1; show ¬ g = q; omega)⟩
      have HB8 : Hid (BAt (gw.setCell ⟨q, 2, none⟩ (.slice ao' m ca')) gB cB (flB L B) ∧ ∀ o, (gw.setCell ⟨q, 2, none⟩ (.slice ao' m ca')).frozen? ⟨gB, o, none⟩ = false) := by
        refine ⟨HG.out.2.2.2.1.keep HF8.out (fun e => HNE.out.1.2.2.1 e.symm), fun o => ?_⟩
        rw [World.frozen?_setCell]; exact HG.out.2.2.2.2 o
      have HF9 : Hid (Fr (fun k => k = q ∨ k = gB) w1 (gw.setCell ⟨q, 2, none⟩ (.slice ao' m ca'))) := (HG.out.2.2.1.mono (fun k _ h => .inr h)).trans (HF8.out.mono (fun k _ h => .inl h))
      have HD8 : Hid (RefW (gw.setCell ⟨q, 2, none⟩ (.slice ao' m ca')) base d N false 0 (fun i => if i < N then [lv (ver i)] else ver i) gb cb va1 vc1) := by
        refine HD1.out.1.keep HF9.out ?_
        rintro k (rfl | rfl | ⟨i, hi, rfl⟩)
        · rintro (e | e)
          · exact HNE.out.1.1 e.symm
          · exact HNE.out.1.2.2.2.1 e.symm
        · rintro (e | e)
          · exact HNE.out.1.2.1 e.symm
          · exact HNE.out.1.2.2.2.2 e.symm
        · have h1 := HNE.out.2.2.1 i hi
          rcases HD1.out.2 i hi with h2 | h2
          · rw [h2]; exact fun h => h.elim h1.1 h1.2
          · have h3 := HNE.out.2.2.2
            rintro (e | e)
            · omega
            · have := HB0.out; omega
      have HFW : Hid (Fr (fun k => k = q ∨ k = d ∨ k = gb ∨ k = gB) w (gw.setCell ⟨q, 2, none⟩ (.slice ao' m ca'))) := (HF1.out.mono (fun k _ h => h.elim (fun h => .inr (.inl h)) (fun h => .inr (.inr (.inl h))))).trans (HF9.out.mono (fun k _ h => h.elim (fun h => .inl h) (fun h => .inr (.inr (.inr h)))))
      go_wp2_with fail
      go_ret
      exact ⟨rfl, ⟨ao', ⟨ca', HR8.out⟩, (fun g o e => by have := HLT.out.2.1 g o e; have := HF8.out.size; omega), HLT.out.2.2⟩, HB8.out.1, HB8.out.2, ⟨va1, ⟨vc1, HD8.out⟩, HD1.out.2⟩, HFW.out⟩
end
end Go.Proofs.YtadadidccbhopaaGreat
