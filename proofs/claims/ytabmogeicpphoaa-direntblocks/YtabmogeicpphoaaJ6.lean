/- leveeref01.Ints. -/
import Derived.Test.YtabmogeicpphoaaJ5
import Derived.Test.YtabmogeicpphoaaKLentG
import Derived.Deep.QuietTactic
import Derived.BigQuiet
namespace Go.Proofs.Ytabmogeicpphoaa
open Go.RowKit
theorem pre_step {a b : List Int} {k : Nat} (ha : k < a.length) (hb : k < b.length) (h : a.take k = b.take k) (hx : a.getD k 0 = b.getD k 0) : a.take (k + 1) = b.take (k + 1) := by
  have e1 : a.getD k 0 = a[k] := by simp [ha]
  have e2 : b.getD k 0 = b[k] := by simp [hb]
  rw [List.take_succ_eq_append_getElem ha, List.take_succ_eq_append_getElem hb, h, ← e1, ← e2, hx]
theorem ne_at {a b : List Int} {k : Nat} (hx : ¬ a.getD k 0 = b.getD k 0) : (a == b) = false := by
  rw [beq_eq_false_iff_ne]; rintro rfl; exact hx rfl
set_option maxHeartbeats 2000000 in
theorem ints_any (sp1 sp2 : Option Addr) (l m : List Int) (c1 c2 : Nat) (w : World) (h1 : SrcI w sp1 l) (h2 : SrcI w sp2 m) (hl : (l.length : Int) ≤ 1000000) (hm : (m.length : Int) ≤ 1000000) :
    Calls Try.prog 20 #[.slice sp1 l.length c1, .slice sp2 m.length c2] w fun e w' => e = .returned (.bool (l == m)) ∧ Below w.heap.size w w' := by
  by_cases hlm : (l.length : Int) = m.length
  · have hlm' : l.length = m.length := by omega
    rw [← hlm']
    have HM : Hid (l.length = m.length) := hlm'
    clear hlm hlm' hm
    by_cases h0 : l.length = 0
    · have e1 : l = [] := List.eq_nil_of_length_eq_zero h0
      have e2 : m = [] := List.eq_nil_of_length_eq_zero (by rw [← HM.out]; exact h0)
      subst e1; subst e2
      clear HM h0 hl
      go_enter Try.func20, Try.ntmps20
      go_wp2
      refine wp_loop_rounds 1 ?_
      rw [rounds_succ]
      go_wp2
      go_ret
      exact ⟨rfl, Below.refl _ _⟩
    rcases h1 with h1 | ⟨b1, o1, rfl, hb1, hc1⟩
    · subst h1; simp at h0
    rcases h2 with h2 | ⟨b2, o2, rfl, hb2, hc2⟩
    · rw [h2] at HM; exact absurd HM.out h0
    have HC1 : Hid _ := hc1
    have HC2 : Hid _ := hc2
    clear hc1 hc2
    go_enter Try.func20, Try.ntmps20
    go_wp2
    go_loopw [5] (fun t wr => ∃ k d : Nat, k ≤ l.length ∧ t = .int .i64 k ∧ wr = w.drewN d ∧ Hid (l.take k = m.take k)) (fun t _ => l.length - (intOf t).toNat)
    case atStart => exact ⟨0, 0, by omega, rfl, rfl, by show _ = _; simp⟩
    case round =>
      obtain ⟨k, d, hk, rfl, rfl, HE⟩ := hrel
      by_cases hlt : (k : Int) < l.length
      · have hd : ∀ n, Below w.heap.size w (w.drewN n) := fun n => below_drewN (Below.refl _ _) n
        have k1 : ∀ n, (w.drewN n).cell? ⟨b1, o1 + k, none⟩ = some (.int .i64 (l.getD k 0)) := fun n => ((hd n).cell (p := ⟨b1, o1 + k, none⟩) hb1).trans (HC1.out k (by omega))
        have k2 : ∀ n, (w.drewN n).cell? ⟨b2, o2 + k, none⟩ = some (.int .i64 (m.getD k 0)) := fun n => ((hd n).cell (p := ⟨b2, o2 + k, none⟩) hb2).trans (HC2.out k (by have := HM.out; omega))
        have HP : Hid (l.getD k 0 = m.getD k 0 → l.take (k + 1) = m.take (k + 1)) := fun h => pre_step (by omega) (by have := HM.out; omega) HE.out h
        have HQ : Hid (¬ l.getD k 0 = m.getD k 0 → (l == m) = false) := fun h => ne_at h
        generalize l.getD k 0 = x at *
        generalize m.getD k 0 = y at *
        by_cases hxy : x = y
        · clear HQ
          go_wp2
          go_quiet (fail)
          go_wp2
          go_roundw
          case rel => exact ⟨k + 1, _, by omega, by go_num, rfl, HP.out hxy⟩
          case measure => simp [intOf]; omega
        · have hb : (x == y) = false := by simpa using hxy
          go_wp2
          go_quiet (fail)
          go_wp2
          go_ret
          exact ⟨ret_bool (by rw [HQ.out hxy]), below_drewN (below_drewN (Below.refl _ _) _) _⟩
      · have hk' : k = l.length := by omega
        subst hk'
        have HEQ : Hid ((l == m) = true) := by
          have := HE.out
          rw [List.take_of_length_le (Nat.le_refl _), HM.out, List.take_of_length_le (Nat.le_refl _)] at this
          show _ = _
          rw [this]; simp
        clear HE
        go_wp2
        go_ret
        exact ⟨ret_bool HEQ.out.symm, below_drewN (Below.refl _ _) _⟩
  · have hne : (l == m) = false := by
      rw [beq_eq_false_iff_ne]; rintro rfl; exact hlm rfl
    rw [hne]
    go_enter Try.func20, Try.ntmps20
    go_wp2
    go_ret
    exact ⟨rfl, Below.refl _ _⟩
end Go.Proofs.Ytabmogeicpphoaa
/- leveelaw07.known. -/
namespace Go.Proofs.Ytabmogeicpphoaa
open Go.RowKit
def kI0 : Ino := ⟨1, 1, 300, 5, [0, 0, 0, 0, 0, 0, 0, 0]⟩
def kI1 : Ino := ⟨1, 1, 300, 5, [7, 0, 0, 0, 0, 0, 0, 0]⟩
def kI : Ino := ⟨1, 1, 300, 5, [7, 9, 0, 0, 0, 0, 0, 0]⟩
theorem kI_rt : rtB kI = true := by decide +kernel
theorem kI_get : getV (layI kI) = kI := by
  have h : eqI (getV (layI kI)) kI = true := by decide +kernel
  exact eqI_iff.1 h
theorem kI_err : getE (layI kI) = 0 := by decide +kernel
theorem kI_b0 : (layI kI)[0]? = some 1 := by decide +kernel
theorem kI_b16 : (layI kI)[16]? = some 7 := by decide +kernel
theorem Blk.arg {w : World} {g : Nat} {t : TypeId} {l : List UInt8} (h : Blk w g t l) (h0 : 0 < l.length) (hl : l.length ≤ 140737488355328) : Arg w (some ⟨g, 0, none⟩) l.length l :=
  .inr ⟨g, 0, rfl, h0, Nat.le_refl _, by omega, hl, h.src⟩
theorem wpList_build_four {ops : Array Oper} {rest : List Oper} {op : Oper} {a : Act} {w : World} {Q : Exit → Act → World → Prop} (hgd : op.guard = none) {x0 x1 x2 x3 : Operand} {k l s d : Int} (ho : op.op = .build 24 #[(0, x0), (1, x1), (2, x2), (3, x3)])
    (e0 : a.eval x0 = .int .i64 k) (e1 : a.eval x1 = .int .i64 l) (e2 : a.eval x2 = .int .i64 s) (e3 : a.eval x3 = .int .i64 d)
    (h : wpList Try.prog ops Q rest (a.put op.dst (.agg (iA ⟨k, l, s, d, [0, 0, 0, 0, 0, 0, 0, 0]⟩))) w) : wpList Try.prog ops Q (op :: rest) a w :=
  wpList_plain hgd fun K hK => by
    unfold Oper.wp
    rw [exec_build_four ho e0 e1 e2 e3]
    exact hK _ _ h
set_option maxRecDepth 100000 in
set_option maxHeartbeats 8000000 in
theorem iknown_any (w : World) : Calls Try.prog 17 #[] w fun e w' => e = .returned (.bool true) ∧ Below w.heap.size w w' := by
  have hz := zeroI
  have HN : Hid (InoAt (w.alloc (.cells (iA zino) 24)) w.heap.size zino) := ino_new w zino rfl
  have HNB : Hid (Below w.heap.size w (w.alloc (.cells (iA zino) 24))) := (Below.refl _ _).alloc (Nat.le_refl _) _
  have PY := iput_yes kI rfl kI_rt
  have HLN : Hid ((layI kI).length = 64) := layI_length rfl
  have BL := blocks_any kI rfl (by decide)
  rw [show blkN kI.s = 2 from rfl] at BL
  have NM := names_any kI rfl
  rw [show nz kI.ns = [7, 9] from rfl] at NM
  go_enter Try.func17, Try.ntmps17
  go_upto_region 2 with (first | ((with_reducible show wpList _ _ _ ({ dst := _, op := Op.build 24 _, type := _, pos := _, after := _, guard := _ } :: _) _ _); refine wpList_build_four rfl rfl rfl rfl rfl rfl ?_) | ((with_reducible show wpList _ _ _ ({ dst := _, op := Op.store 24 _ _, type := _, pos := _, after := _, guard := _ } :: _) _ _); refine wpList_store_ino rfl _ _ rfl (HN.out) rfl rfl rfl ?_; intro w1 H1 b1 z1))
  have HB1 : Hid (Below w.heap.size w w1) := HNB.out.trans b1
  have HI1 : Hid (InoAt w1 w.heap.size kI0) := H1
  clear HN HNB b1 z1 H1 hz
  have c4 : w1.cell? ⟨w.heap.size, 4, none⟩ = some (.int .i64 0) := HI1.out.name 0 (by omega)
  have c5 : w1.cell? ⟨w.heap.size, 5, none⟩ = some (.int .i64 0) := HI1.out.name 1 (by omega)
  have f4 := HI1.out.frozen 4
  have f5 := HI1.out.frozen 5
  have HI2 : Hid (InoAt ((w1.setCell ⟨w.heap.size, 4, none⟩ (.int .i64 7)).setCell ⟨w.heap.size, 5, none⟩ (.int .i64 9)) w.heap.size kI) := (HI1.out.set 0 7).set 1 9
  have HB2 : Hid (Below w.heap.size w ((w1.setCell ⟨w.heap.size, 4, none⟩ (.int .i64 7)).setCell ⟨w.heap.size, 5, none⟩ (.int .i64 9))) := (HB1.out.setCell (by simp) _).setCell (by simp) _
  go_upto_region 4 with fail
  generalize (w1.setCell ⟨w.heap.size, 4, none⟩ (.int .i64 7)).setCell ⟨w.heap.size, 5, none⟩ (.int .i64 9) = w2 at *
  clear HI1 HB1 c4 c5 f4 f5
  go_wp2_with (first | ((with_reducible show wpList _ _ _ ({ dst := _, op := Op.load 24 _, type := _, pos := _, after := _, guard := _ } :: _) _ _); refine wpList_load_ino rfl _ rfl (HI2.out) rfl ?_))
  refine (PY _).mono ?_
  rintro e w3 ⟨G, rfl, hg3, hG3, h3⟩
  have HI3 : Hid (InoAt w3 w.heap.size kI) := HI2.out.up h3
  have HB3 : Hid (Below w.heap.size w w3) := HB2.out.trans (h3.mono HB2.out.size)
  have HG3 : Hid (Blk w3 G 64 (layI kI)) := hg3
  clear HI2 HB2 PY hg3 h3
  have GT := iget_any (some ⟨G, 0, none⟩) 64 (layI kI) w3 (by have h := HG3.out.arg (by rw [HLN.out]; omega) (by rw [HLN.out]; omega); rw [HLN.out] at h; exact h)
  rw [HLN.out, kI_get, kI_err] at GT
  go_upto_region 5 with fail
  go_wp2_with fail
  refine GT.mono ?_
  rintro e w4 ⟨rfl, h4⟩
  have HI4 : Hid (InoAt w4 w.heap.size kI) := HI3.out.up h4
  have HB4 : Hid (Below w.heap.size w w4) := HB3.out.trans (h4.mono HB3.out.size)
  have HG4 : Hid (Blk w4 G 64 (layI kI)) := HG3.out.below h4 HG3.out.lt
  have hsz4 := HI4.out.lt
  have hG4 := HG4.out.lt
  clear GT HI3 HB3 HG3 h4
  have hz := zeroI
  have HN : Hid (InoAt (w4.alloc (.cells (iA zino) 24)) w4.heap.size zino) := ino_new w4 zino rfl
  have HNB : Hid (Below w4.heap.size w4 (w4.alloc (.cells (iA zino) 24))) := (Below.refl _ _).alloc (Nat.le_refl _) _
  go_upto_region 6 with (first | ((with_reducible show wpList _ _ _ ({ dst := _, op := Op.store 24 _ _, type := _, pos := _, after := _, guard := _ } :: _) _ _); refine wpList_store_ino rfl _ _ rfl (HN.out) rfl rfl rfl ?_; intro w5 H5 b5 z5))
  have hb5 : Below w4.heap.size w4 w5 := HNB.out.trans b5
  have HI5 : Hid (InoAt w5 w.heap.size kI) := HI4.out.up hb5
  have HX5 : Hid (InoAt w5 w4.heap.size kI) := H5
  have HB5 : Hid (Below w.heap.size w w5) := HB4.out.trans (hb5.mono HB4.out.size)
  have HG5 : Hid (Blk w5 G 64 (layI kI)) := HG4.out.below hb5 HG4.out.lt
  clear HN HNB hb5 H5 b5 z5 HI4 HB4 HG4 hz
  go_wp2_with (first | ((with_reducible show wpList _ _ _ ({ dst := _, op := Op.load 24 _, type := _, pos := _, after := _, guard := _ } :: _) _ _); refine wpList_load_ino rfl _ rfl (HI5.out) rfl ?_))
  refine (BL _).mono ?_
  rintro e w6 ⟨rfl, h6⟩
  have HI6 : Hid (InoAt w6 w.heap.size kI) := HI5.out.up h6
  have HX6 : Hid (InoAt w6 w4.heap.size kI) := HX5.out.up h6
  have HB6 : Hid (Below w.heap.size w w6) := HB5.out.trans (h6.mono HB5.out.size)
  have HG6 : Hid (Blk w6 G 64 (layI kI)) := HG5.out.below h6 HG5.out.lt
  clear HI5 HX5 HB5 HG5 h6 BL
  go_wp2_with (first | ((with_reducible show wpList _ _ _ ({ dst := _, op := Op.load 24 _, type := _, pos := _, after := _, guard := _ } :: _) _ _); refine wpList_load_ino rfl _ rfl (HI6.out) rfl ?_))
  refine (NM _).mono ?_
  rintro e w7 ⟨v, rfl, hv, h7⟩
  obtain ⟨ao, cap, rfl, hs7, _, _, _⟩ := hv.form
  have al : Below w7.heap.size w7 (w7.alloc (.cells #[.int .i64 7, .int .i64 9] 3)) := (Below.refl _ _).alloc (Nat.le_refl _) _
  have hI8 := (HI6.out.up h7).up al
  have hX8 := (HX6.out.up h7).up al
  have hB8 := (HB6.out.trans (h7.mono HB6.out.size)).trans (al.mono ((HB6.out.trans (h7.mono HB6.out.size))).size)
  have hG8 := (HG6.out.below h7 HG6.out.lt)
  have hG9 := hG8.below al hG8.lt
  have IN := ints_any ao (some ⟨w7.heap.size, 0, none⟩) [7, 9] [7, 9] cap 2 (w7.alloc (.cells #[.int .i64 7, .int .i64 9] 3)) (hs7.below al (Nat.le_refl _)) (SrcI.row (t := 3) (heap_alloc_new _ _)) (by simp) (by simp)
  have HI8 : Hid _ := hI8
  have HX8 : Hid _ := hX8
  have HB8 : Hid _ := hB8
  have HG8 : Hid (Blk _ G 64 (layI kI)) := hG9
  clear hI8 hX8 hB8 hG8 hG9 al HI6 HX6 HB6 HG6 hv hs7 h7 NM
  go_wp2_with fail
  refine IN.mono ?_
  rintro e w9 ⟨rfl, h9⟩
  have HI9 : Hid (InoAt w9 w.heap.size kI) := HI8.out.up h9
  have HX9 : Hid (InoAt w9 w4.heap.size kI) := HX8.out.up h9
  have HB9 : Hid (Below w.heap.size w w9) := HB8.out.trans (h9.mono HB8.out.size)
  have HG9 : Hid (Blk w9 G 64 (layI kI)) := HG8.out.below h9 HG8.out.lt
  have c0 : w9.cell? ⟨G, 0, none⟩ = some (.int .u8 1) := by
    rw [HG9.out.cell 0 (by rw [HLN.out]; omega)]
    have := kI_b0
    rw [List.getElem?_eq_getElem (by rw [HLN.out]; omega)] at this
    rw [Option.some.inj this]; rfl
  have c16 : w9.cell? ⟨G, 16, none⟩ = some (.int .u8 7) := by
    rw [HG9.out.cell 16 (by rw [HLN.out]; omega)]
    have := kI_b16
    rw [List.getElem?_eq_getElem (by rw [HLN.out]; omega)] at this
    rw [Option.some.inj this]; rfl
  clear HI8 HX8 HB8 HG8 IN h9
  go_wp2_with (first | ((with_reducible show wpList _ _ _ ({ dst := _, op := Op.load 24 _, type := _, pos := _, after := _, guard := _ } :: _) _ _); refine wpList_load_ino rfl _ rfl (HI9.out) rfl ?_) | ((with_reducible show wpList _ _ _ ({ dst := _, op := Op.load 24 _, type := _, pos := _, after := _, guard := _ } :: _) _ _); refine wpList_load_ino rfl _ rfl (HX9.out) rfl ?_) | ((with_reducible show wpList _ _ _ ({ dst := _, op := Op.binOp BinOp.eql 24 _ _ 24, type := _, pos := _, after := _, guard := _ } :: _) _ _); refine wpList_eq_ino rfl _ _ rfl rfl rfl rfl rfl rfl ?_))
  go_ret
  exact ⟨rfl, HB9.out⟩
end Go.Proofs.Ytabmogeicpphoaa
/- Get of Put is the inode. -/
namespace Go.Proofs.Ytabmogeicpphoaa
open Go.RowKit
theorem leNum_leB : ∀ n x, x < 256 ^ n → leNum (leB n x) = x
  | 0, x, h => by simp at h; simp [leB, leNum, h]
  | n + 1, x, h => by
    have h2 : x / 256 < 256 ^ n := by rw [Nat.pow_succ] at h; exact Nat.div_lt_of_lt_mul (by omega)
    have e : (UInt8.ofNat (x % 256)).toNat = x % 256 := by simp
    rw [leB, leNum, leNum_leB n (x / 256) h2, e]
    omega
theorem getNum_leB (n x : Nat) (hn : n ≤ 8) (h : x < 256 ^ n) : getNum (leB n x) = x := by
  rw [getNum_le (by rw [leB_length]; exact hn), leNum_leB n x h]
theorem layN_at : ∀ (k : Nat) (ns : List Int) (Z : List UInt8), k < ns.length → (((layN ns ++ Z).drop (2 * k)).take 2) = leB 2 (ns.getD k 0).toNat
  | 0, x :: r, Z, _ => by
    simp only [layN, Nat.mul_zero, List.drop_zero, List.append_assoc]
    rw [List.take_left' (leB_length _ _)]; rfl
  | k + 1, x :: r, Z, h => by
    simp only [layN, List.append_assoc]
    rw [show 2 * (k + 1) = 2 + 2 * k by omega, ← List.drop_drop, List.drop_left' (leB_length _ _)]
    have := layN_at k r Z (by simpa using h)
    simpa using this
theorem layI_name {i : Ino} (hn : i.ns.length = 8) (hr : InR i) (k : Nat) (hk : k < 8) : rdNm (layI i) k = i.ns.getD k 0 := by
  have hx := hr.ns k
  unfold rdNm rdP layI
  rw [List.append_assoc, ← List.drop_drop, List.drop_left' (headL_length i), layN_at k i.ns _ (by omega), getNum_leB 2 _ (by omega) (by omega)]
  omega
theorem drop2 (a b : UInt8) (Z : List UInt8) : List.drop 2 ([a, b] ++ Z) = Z := rfl
theorem drop4 (a b : UInt8) (x : Nat) (Z : List UInt8) : List.drop 4 ([a, b] ++ (leB 2 x ++ Z)) = Z := by
  obtain ⟨c, d, h⟩ := two_of (leB_length 2 x)
  rw [h]; rfl
theorem drop8 (a b : UInt8) (x y : Nat) (Z : List UInt8) : List.drop 8 ([a, b] ++ (leB 2 x ++ (leB 4 y ++ Z))) = Z := by
  obtain ⟨c, d, h⟩ := two_of (leB_length 2 x)
  obtain ⟨e, f, g, k, h2⟩ := four_of (leB_length 4 y)
  rw [h, h2]; rfl
theorem rd_lay {i : Ino} (hn : i.ns.length = 8) (hr : InR i) : rdI (layI i) = i := by
  have hk := hr.k
  have hl := hr.l
  have hs := hr.s
  have hd := hr.d
  have e5 : rdNs (layI i) = i.ns := by
    unfold rdNs
    apply List.ext_getElem
    · simp [hn]
    · intro j h1 h2
      rw [List.getElem_map, List.getElem_range, layI_name hn hr j (by omega)]
      simp [h2]
  have e0 : nth (layI i) 0 = i.k := by
    have : (layI i).getD 0 0 = UInt8.ofNat i.k.toNat := rfl
    unfold nth
    rw [this]
    have : (UInt8.ofNat i.k.toNat).toNat = i.k.toNat := by simp; omega
    rw [this]; omega
  have hL : ∀ Z : List UInt8, headL i ++ Z = [UInt8.ofNat i.k.toNat, 0] ++ (leB 2 i.l.toNat ++ (leB 4 i.s.toNat ++ (leB 8 i.d.toNat ++ Z))) := by intro Z; simp [headL]
  have e1 : rdP (layI i) 2 2 = i.l.toNat := by
    unfold rdP layI
    rw [List.append_assoc, hL, drop2, List.take_left' (leB_length _ _), getNum_leB 2 _ (by omega) (by omega)]
  have e2 : rdP (layI i) 4 4 = i.s.toNat := by
    unfold rdP layI
    rw [List.append_assoc, hL, drop4, List.take_left' (leB_length _ _), getNum_leB 4 _ (by omega) (by omega)]
  have e3 : rdP (layI i) 8 8 = i.d.toNat := by
    unfold rdP layI
    rw [List.append_assoc, hL, drop8, List.take_left' (leB_length _ _), getNum_leB 8 _ (by omega) (by omega)]
  have ew : IntKind.i64.wrap (i.d.toNat : Int) = i.d := by rw [IntKind.wrap_i64]; omega
  unfold rdI
  rw [e0, e1, e2, e3, e5, ew, show ((i.l.toNat : Nat) : Int) = i.l by omega, show ((i.s.toNat : Nat) : Int) = i.s by omega]
theorem form_lay {i : Ino} (hn : i.ns.length = 8) (hr : rtB i = true) : formI (layI i) = true := by
  unfold formI
  rw [rd_lay hn (rtB_inR hr), hr]; simp
theorem get_lay {i : Ino} (hn : i.ns.length = 8) (hr : rtB i = true) : getV (layI i) = i ∧ getE (layI i) = 0 := by
  unfold getV getE getI
  rw [if_pos (layI_length hn), if_pos (layI_length hn), form_lay hn hr, if_pos rfl, if_pos rfl, rd_lay hn (rtB_inR hr)]
  exact ⟨rfl, rfl⟩
/-- What Put answers. -/
def putX (i : Ino) : List UInt8 := if rtB i then layI i else []
def putE (i : Ino) : Int := if rtB i then 0 else 1
theorem putX_le {i : Ino} (hn : i.ns.length = 8) : (putX i).length ≤ 64 := by
  unfold putX; split
  · rw [layI_length hn]; omega
  · simp
theorem iput_any (i : Ino) (hn : i.ns.length = 8) (w : World) :
    Calls Try.prog 9 #[.agg (iA i)] w fun e w' => ∃ sp cap, e = .returned (.tuple #[.slice sp (putX i).length cap, .int .i64 (putE i)]) ∧ Arg w' sp cap (putX i) ∧ (∀ b o, sp = some ⟨b, o, none⟩ → w.heap.size ≤ b) ∧ Below w.heap.size w w' := by
  unfold putX putE
  cases hr : rtB i
  · refine (iput_no i hn hr w).mono ?_
    rintro e w' ⟨rfl, hb⟩
    exact ⟨none, 0, rfl, .inl ⟨rfl, by simp⟩, (fun _ _ h => by cases h), hb⟩
  · refine (iput_yes i hn hr w).mono ?_
    rintro e w' ⟨G, rfl, hg, hG, hb⟩
    have hl := layI_length hn
    refine ⟨some ⟨G, 0, none⟩, 64, ?_, ?_, (fun b o h => by cases h; exact hG), hb⟩
    · rw [if_pos rfl, if_pos rfl, hl]
    · have := hg.arg (by omega) (by omega)
      rw [hl] at this
      exact this
theorem rput7_any (i : Ino) (hn : i.ns.length = 8) (w : World) :
    Calls Try.prog 10 #[.agg (iA i)] w fun e w' => ∃ sp cap, e = .returned (.tuple #[.slice sp (putX i).length cap, .int .i64 (putE i)]) ∧ Arg w' sp cap (putX i) ∧ (∀ b o, sp = some ⟨b, o, none⟩ → w.heap.size ≤ b) ∧ Below w.heap.size w w' := by
  unfold putX putE
  cases hr : rtB i
  · refine (rput7_no i hn hr w).mono ?_
    rintro e w' ⟨rfl, hb⟩
    exact ⟨none, 0, rfl, .inl ⟨rfl, by simp⟩, (fun _ _ h => by cases h), hb⟩
  · refine (rput7_yes i hn hr w).mono ?_
    rintro e w' ⟨v, rfl, ho, hb⟩
    have hl := layI_length hn
    obtain ⟨ao, cap, rfl, ha⟩ := ho.arg (by omega)
    refine ⟨ao, cap, rfl, ha, fun b o h => ?_, hb⟩
    subst h
    have := ho.lt b rfl
    exact this.1
end Go.Proofs.Ytabmogeicpphoaa
