/- leveelaw06.known. -/
import Derived.Test.YtfbbdpapnegmcaaGget
import Derived.Deep.Cut
namespace Go.Proofs.Ytfbbdpapnegmcaa
open Go.RowKit
theorem wpList_want {P : Program} {ops : Array Oper} {Q : Exit → Act → World → Prop} {a : Act} {w : World} {rest : List Oper} {o : Oper} (hw : Region.wanted o (yielded ops a.tmps) = true)
    (h : ∀ K : Act → World → Prop, (∀ a w, wpList P ops Q rest a w → K a w) → o.wp P a w K Q) : wpList P ops Q (o :: rest) a w :=
  wpList_step fun K hK => by rw [if_pos hw]; exact h K hK
theorem wpList_load_headG {ops : Array Oper} {rest : List Oper} {op : Oper} {a : Act} {w : World} {Q : Exit → Act → World → Prop} (hw : Region.wanted op (yielded ops a.tmps) = true) (x : Operand) (ho : op.op = .load 28 x)
    {p : Nat} {no : Int} {bl sl : List UInt8} (H : HeadAt w p no bl sl) (hx : a.eval x = .pointer (some ⟨p, 0, none⟩))
    (h : wpList Try.prog ops Q rest (a.put op.dst (.agg (hA no bl sl))) w) : wpList Try.prog ops Q (op :: rest) a w :=
  wpList_want hw fun _ hK => wp_load_mid 28 x ho p 0 hx _ _ H.range Try.underlying28 rfl (by rw [Try.sz28, hL_length H.lb H.ls]) (hK _ _ h)
theorem wpList_eq_headG {ops : Array Oper} {rest : List Oper} {op : Oper} {a : Act} {w : World} {Q : Exit → Act → World → Prop} (hw : Region.wanted op (yielded ops a.tmps) = true) (x y : Operand) (ho : op.op = .binOp .eql 28 x y 28)
    {no no2 : Int} {bl sl bl2 sl2 : List UInt8} (hx : a.eval x = .agg (hA no bl sl)) (hy : a.eval y = .agg (hA no2 bl2 sl2)) (hb : bl.length = 16) (hs : sl.length = 8) (hb2 : bl2.length = 16) (hs2 : sl2.length = 8) {b : Bool} (he : eqB no no2 bl bl2 sl sl2 = b)
    (h : wpList Try.prog ops Q rest (a.put op.dst (.bool b)) w) : wpList Try.prog ops Q (op :: rest) a w := by
  subst he
  refine wpList_want hw fun K hK => ?_
  have hg : ∀ X Y (w : World), (eqGuard .eql 28 x y (.agg X) (.agg Y)).run Try.prog w = .ok () w := fun X Y w => run_eqGuard_agg w .eql 28 x y X Y (by kernel_rfl)
  unfold Oper.wp execOp
  simp only [ho, hx, hy]
  simp [hg, run_eql_struct, run_eq_head hb hs hb2 hs2, Result.andThen]
  exact hK _ _ h
def kB : List UInt8 := fillb z16 3
def kS : List UInt8 := fillb z8 2
theorem kB_len : kB.length = 16 := by rw [kB, fillb_length]; rfl
theorem kS_len : kS.length = 8 := by rw [kS, fillb_length]; rfl
theorem kB_eq : kB = [7, 0, 0, 0, 0, 0, 0, 0, 0, 0, 0, 0, 0, 0, 0, 0] := by decide +kernel
theorem kS_eq : kS = [3, 0, 0, 0, 0, 0, 0, 0] := by decide +kernel
theorem k_right : rgB 16 8 2 0 kB kS = true := by decide +kernel
theorem k_num : numB 16 8 2 0 = true := by decide +kernel
theorem k_fb : frN kB 16 = 13 := by decide +kernel
theorem k_fs : frN kS 8 = 6 := by decide +kernel
def kL : List UInt8 := layL 0 13 6 kB kS
theorem kL_len : kL.length = 256 := layL_length _ _ _ _ _ kB_len kS_len
theorem kL_n : rdN kL = 0 := by decide +kernel
theorem kL_b : rdB kL = kB := by decide +kernel
theorem kL_s : rdS kL = kS := by decide +kernel
theorem k_fst : IsFirst (gb kB) 16 0 3 := by
  have h : gb kB 0 = true ∧ gb kB 1 = true ∧ gb kB 2 = true ∧ gb kB 3 = false := by decide +kernel
  refine .inr ⟨3, rfl, by omega, h.2.2.2, .inl ⟨by omega, fun j _ hj => ?_⟩⟩
  rcases (show j = 0 ∨ j = 1 ∨ j = 2 by omega) with rfl | rfl | rfl
  · exact h.1
  · exact h.2.1
  · exact h.2.2.1
theorem k_sst : IsFirst (gb kS) 8 0 2 := by
  have h : gb kS 0 = true ∧ gb kS 1 = true ∧ gb kS 2 = false := by decide +kernel
  refine .inr ⟨2, rfl, by omega, h.2.2, .inl ⟨by omega, fun j _ hj => ?_⟩⟩
  rcases (show j = 0 ∨ j = 1 by omega) with rfl | rfl
  · exact h.1
  · exact h.2.1
/-- The shape of known() lies at the first place. -/
structure K0 (w0 W : World) : Prop where
  geo : Lies w0 w0.heap.size 16 8 2 W
theorem K0.below {w0 W W' : World} (h : K0 w0 W) {B : Nat} (hb : Below B W W') (hB : w0.heap.size < B) : K0 w0 W' :=
  ⟨⟨(hb.cell (p := ⟨w0.heap.size, 0, none⟩) hB).trans h.geo.1, (hb.cell (p := ⟨w0.heap.size, 1, none⟩) hB).trans h.geo.2.1, (hb.cell (p := ⟨w0.heap.size, 2, none⟩) hB).trans h.geo.2.2.1, h.geo.2.2.2.trans (hb.mono (by omega))⟩⟩
theorem K0.lt {w0 W : World} (h : K0 w0 W) : w0.heap.size < W.heap.size := block_lt_of_cell h.geo.1
theorem K0.up {w0 W W' : World} (h : K0 w0 W) (hb : Below W.heap.size W W') : K0 w0 W' := h.below hb h.lt
set_option maxRecDepth 100000 in
set_option maxHeartbeats 8000000 in
theorem known_any (w : World) : Calls Try.prog 19 #[] w fun e w' => e = .returned (.bool true) ∧ Below w.heap.size w w' := by
  have hz := zero28
  have FR := fun W => fresh_yes 16 8 2 0 k_num W
  have FE := fun W => free_yes 16 8 2 0 kB kS kB_len kS_len k_right W
  have PU := fun W => gput_yes 16 8 2 0 kB kS kB_len kS_len k_right W
  have FB := fun W => findBlock_yes 16 8 2 0 0 kB kS kB_len kS_len k_right W
  have FS := fun W => findSlot_yes 16 8 2 0 0 kB kS kB_len kS_len k_right W
  rw [show fillb z16 (kbl 8) = kB from rfl, show fillb z8 (ksl 0) = kS from rfl] at FR
  rw [k_fb, k_fs] at FE
  rw [show layL 0 (frN kB 16).toNat (frN kS 8).toNat kB kS = kL by rw [k_fb, k_fs]; rfl] at PU
  have HBQ : Hid (kB.length = 16) := kB_len
  have HSQ : Hid (kS.length = 8) := kS_len
  have HLQ : Hid (kL.length = 256) := kL_len
  have GE : ∀ (G : Nat) (W : World), Blk W G 62 kL → Calls Try.prog 11 #[.agg #[.int .i64 16, .int .i64 8, .int .i64 2], .slice (some ⟨G, 0, none⟩) 256 256] W fun e w' => e = .returned (.tuple #[.agg (hA 0 kB kS), .int .i64 0]) ∧ Below W.heap.size W w' := by
    intro G W hW
    have h := gget_ok 16 8 2 G 0 256 kL kL_len (by decide +kernel) (by rw [kL_n, kL_b, kL_s]; exact k_right) (by rw [backL, kL_n, kL_b, kL_s, k_fb, k_fs]; exact beq_self_eq_true kL) W hW.src (by omega) (by omega)
    rw [kL_n, kL_b, kL_s] at h
    exact h
  have HEB : Hid (eqB 0 0 kB kB kS kS = true) := eqB_true.2 ⟨rfl, rfl, rfl⟩
  have HK0 : Hid (K0 w (w.alloc (.cells #[.int .i64 16, .int .i64 8, .int .i64 2] 23))) := ⟨⟨by simp, by simp, by simp, (Below.refl _ _).alloc (Nat.le_refl _) _⟩⟩
  have PV : ∀ W, Calls Try.prog 8 #[.agg #[.int .i64 16, .int .i64 8, .int .i64 2], .agg (hA 0 kB kS)] W fun e w' => ∃ G, e = .returned (.tuple #[.slice (some ⟨G, 0, none⟩) 256 256, .int .i64 0]) ∧ Blk w' G 62 kL ∧ Below W.heap.size W w' :=
    fun W => (PU W).mono fun _ _ ⟨G, h1, h2, _, h3⟩ => ⟨G, h1, h2, h3⟩
  have FB' : ∀ W, Calls Try.prog 26 #[.agg #[.int .i64 16, .int .i64 8, .int .i64 2], .agg (hA 0 kB kS), .int .i64 0] W fun e w' => e = .returned (.int .i64 3) ∧ Below W.heap.size W w' :=
    fun W => (FB W).mono fun _ _ ⟨⟨r, h1, h2⟩, h3⟩ => ⟨by rw [h1, IsFirst.same (show IsFirst (gb kB) 16 0 r from h2) k_fst], h3⟩
  have FS' : ∀ W, Calls Try.prog 28 #[.agg #[.int .i64 16, .int .i64 8, .int .i64 2], .agg (hA 0 kB kS), .int .i64 0] W fun e w' => e = .returned (.int .i64 2) ∧ Below W.heap.size W w' :=
    fun W => (FS W).mono fun _ _ ⟨⟨r, h1, h2⟩, h3⟩ => ⟨by rw [h1, IsFirst.same (show IsFirst (gb kS) 8 0 r from h2) k_sst], h3⟩
  clear PU FB FS
  generalize kB = B0 at *
  generalize kS = S0 at *
  generalize kL = L0 at *
  go_enter Try.func19, Try.ntmps19
  go_wp2_with fail
  refine (FR _).mono ?_
  rintro e w1 ⟨rfl, h1⟩
  have HK1 : Hid _ := HK0.out.up h1
  have hl1 := HK1.out.lt
  have HN : Hid (HeadAt (w1.alloc (.cells (hA 0 z16 z8) 28)) w1.heap.size 0 z16 z8) := head_new w1 0 z16 z8 rfl rfl
  have HNB : Hid (Below w1.heap.size w1 (w1.alloc (.cells (hA 0 z16 z8) 28))) := (Below.refl _ _).alloc (Nat.le_refl _) _
  have HKN : Hid _ := HK1.out.up HNB.out
  clear HK0 HK1 FR h1
  go_upto_region 3 with (first | ((with_reducible show wpList _ _ _ ({ dst := _, op := Op.store 28 _ _, type := _, pos := _, after := _, guard := _ } :: _) _ _); refine wpList_store_head rfl _ _ rfl (HN.out) HBQ.out HSQ.out rfl rfl ?_; intro w2 H2 b2 z2))
  have HK2 : Hid _ := HKN.out.below b2 hl1
  have HH2 : Hid _ := H2
  have q0 := HK2.out.geo.1; have q1 := HK2.out.geo.2.1; have q2 := HK2.out.geo.2.2.1
  clear HKN HN HNB H2 b2 z2
  go_wp2_with (first | ((with_reducible show wpList _ _ _ ({ dst := _, op := Op.load 28 _, type := _, pos := _, after := _, guard := _ } :: _) _ _); refine wpList_load_head rfl _ rfl (HH2.out) rfl ?_))
  refine (FE _).mono ?_
  rintro e w3 ⟨rfl, h3⟩
  have HK3 : Hid _ := HK2.out.up h3
  have HH3 : Hid _ := HH2.out.up h3
  clear FE HK2 HH2 h3 q0 q1 q2
  have q0 := HK3.out.geo.1; have q1 := HK3.out.geo.2.1; have q2 := HK3.out.geo.2.2.1
  go_wp2_with (first | ((with_reducible show wpList _ _ _ ({ dst := _, op := Op.load 28 _, type := _, pos := _, after := _, guard := _ } :: _) _ _); refine wpList_load_head rfl _ rfl (HH3.out) rfl ?_))
  refine (PV _).mono ?_
  rintro e w4 ⟨G, rfl, g4, h4⟩
  have HK4 : Hid _ := HK3.out.up h4
  have HH4 : Hid _ := HH3.out.up h4
  clear PV HK3 HH3 h4 q0 q1 q2
  have q0 := HK4.out.geo.1; have q1 := HK4.out.geo.2.1; have q2 := HK4.out.geo.2.2.1
  go_wp2_with fail
  refine (GE G _ g4).mono ?_
  rintro e w5 ⟨rfl, h5⟩
  have HK5 : Hid _ := HK4.out.up h5
  have HH5 : Hid _ := HH4.out.up h5
  have hl5 := HK5.out.lt
  have hl5' := HH5.out.lt
  clear GE HK4 HH4 h5 q0 q1 q2 g4
  have HN : Hid (HeadAt (w5.alloc (.cells (hA 0 z16 z8) 28)) w5.heap.size 0 z16 z8) := head_new w5 0 z16 z8 rfl rfl
  have HNB : Hid (Below w5.heap.size w5 (w5.alloc (.cells (hA 0 z16 z8) 28))) := (Below.refl _ _).alloc (Nat.le_refl _) _
  go_upto_region 6 with (first | ((with_reducible show wpList _ _ _ ({ dst := _, op := Op.store 28 _ _, type := _, pos := _, after := _, guard := _ } :: _) _ _); refine wpList_store_head rfl _ _ rfl (HN.out) HBQ.out HSQ.out rfl rfl ?_; intro w6 H6 b6 z6))
  have HK6 : Hid _ := (HK5.out.up HNB.out).below b6 hl5
  have HH6 : Hid _ := (HH5.out.up HNB.out).below b6 hl5'
  have HE6 : Hid _ := H6
  clear HK5 HH5 HN HNB H6 b6 z6
  have q0 := HK6.out.geo.1; have q1 := HK6.out.geo.2.1; have q2 := HK6.out.geo.2.2.1
  go_wp2_with (first | ((with_reducible show wpList _ _ _ ({ dst := _, op := Op.load 28 _, type := _, pos := _, after := _, guard := _ } :: _) _ _); refine wpList_load_headG rfl _ rfl (HH6.out) rfl ?_))
  refine (FB' _).mono ?_
  rintro e w7 ⟨rfl, h7⟩
  have HK7 : Hid _ := HK6.out.up h7
  have HH7 : Hid _ := HH6.out.up h7
  have HE7 : Hid _ := HE6.out.up h7
  clear FB' HK6 HH6 HE6 h7 q0 q1 q2
  have q0 := HK7.out.geo.1; have q1 := HK7.out.geo.2.1; have q2 := HK7.out.geo.2.2.1
  go_wp2_with (first | ((with_reducible show wpList _ _ _ ({ dst := _, op := Op.load 28 _, type := _, pos := _, after := _, guard := _ } :: _) _ _); refine wpList_load_headG rfl _ rfl (HH7.out) rfl ?_))
  refine (FS' _).mono ?_
  rintro e w8 ⟨rfl, h8⟩
  have HK8 : Hid _ := HK7.out.up h8
  have HH8 : Hid _ := HH7.out.up h8
  have HE8 : Hid _ := HE7.out.up h8
  clear FS' HK7 HH7 HE7 h8 q0 q1 q2
  go_wp2_with (first | ((with_reducible show wpList _ _ _ ({ dst := _, op := Op.load 28 _, type := _, pos := _, after := _, guard := _ } :: _) _ _); refine wpList_load_headG rfl _ rfl (HE8.out) rfl ?_) | ((with_reducible show wpList _ _ _ ({ dst := _, op := Op.load 28 _, type := _, pos := _, after := _, guard := _ } :: _) _ _); refine wpList_load_headG rfl _ rfl (HH8.out) rfl ?_) | ((with_reducible show wpList _ _ _ ({ dst := _, op := Op.binOp BinOp.eql 28 _ _ 28, type := _, pos := _, after := _, guard := _ } :: _) _ _); refine wpList_eq_headG rfl _ _ rfl rfl rfl HBQ.out HSQ.out HBQ.out HSQ.out HEB.out ?_))
  go_ret
  exact ⟨rfl, HK8.out.geo.2.2.2⟩
end Go.Proofs.Ytfbbdpapnegmcaa
