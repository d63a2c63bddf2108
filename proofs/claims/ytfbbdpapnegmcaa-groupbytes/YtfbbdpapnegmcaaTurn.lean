/- group.changed, turn, fill. -/
import Derived.Test.YtfbbdpapnegmcaaHead
namespace Go.Proofs.Ytfbbdpapnegmcaa
open Go.RowKit
theorem wpList_eq_head {ops : Array Oper} {rest : List Oper} {op : Oper} {a : Act} {w : World} {Q : Exit → Act → World → Prop} (hgd : op.guard = none) (x y : Operand) (ho : op.op = .binOp .eql 28 x y 28)
    {no no2 : Int} {bl sl bl2 sl2 : List UInt8} (hx : a.eval x = .agg (hA no bl sl)) (hy : a.eval y = .agg (hA no2 bl2 sl2)) (hb : bl.length = 16) (hs : sl.length = 8) (hb2 : bl2.length = 16) (hs2 : sl2.length = 8) {b : Bool} (he : eqB no no2 bl bl2 sl sl2 = b)
    (h : wpList Try.prog ops Q rest (a.put op.dst (.bool b)) w) : wpList Try.prog ops Q (op :: rest) a w := by
  subst he
  refine wpList_plain hgd fun K hK => ?_
  have hg : ∀ X Y (w : World), (eqGuard .eql 28 x y (.agg X) (.agg Y)).run Try.prog w = .ok () w := fun X Y w => run_eqGuard_agg w .eql 28 x y X Y (by kernel_rfl)
  unfold Oper.wp execOp
  simp only [ho, hx, hy]
  simp [hg, run_eql_struct, run_eq_head hb hs hb2 hs2, Result.andThen]
  exact hK _ _ h
theorem eqB_true {no no2 : Int} {bl bl2 sl sl2 : List UInt8} : eqB no no2 bl bl2 sl sl2 = true ↔ no = no2 ∧ bl = bl2 ∧ sl = sl2 := by
  unfold eqB; simp
set_option maxHeartbeats 1000000 in
theorem changed_any (no no2 : Int) (bl sl bl2 sl2 : List UInt8) (w : World) (hb : bl.length = 16) (hs : sl.length = 8) (hb2 : bl2.length = 16) (hs2 : sl2.length = 8) :
    Calls Try.prog 45 #[.agg (hA no bl sl), .agg (hA no2 bl2 sl2)] w fun e w' => e = .returned (if eqB no2 no bl2 bl sl2 sl then .tuple #[.agg (hA 0 z16 z8), .int .i64 6] else .tuple #[.agg (hA no2 bl2 sl2), .int .i64 0]) ∧ Below w.heap.size w w' := by
  have hz := zero28
  have A1 := head_new w no bl sl hb hs
  have A2 := A1.alloc (.cells (hA no2 bl2 sl2) 28)
  have A3 := A2.alloc (.cells (hA 0 z16 z8) 28)
  have B2 := head_new (w.alloc (.cells (hA no bl sl) 28)) no2 bl2 sl2 hb2 hs2
  rw [show (w.alloc (.cells (hA no bl sl) 28)).heap.size = w.heap.size + 1 by simp] at B2
  have B3 := B2.alloc (.cells (hA 0 z16 z8) 28)
  have C3 := head_new ((w.alloc (.cells (hA no bl sl) 28)).alloc (.cells (hA no2 bl2 sl2) 28)) 0 z16 z8 rfl rfl
  rw [show ((w.alloc (.cells (hA no bl sl) 28)).alloc (.cells (hA no2 bl2 sl2) 28)).heap.size = w.heap.size + 1 + 1 by simp] at C3
  have hB : Below w.heap.size w (((w.alloc (.cells (hA no bl sl) 28)).alloc (.cells (hA no2 bl2 sl2) 28)).alloc (.cells (hA 0 z16 z8) 28)) := (((Below.refl _ _).alloc (Nat.le_refl _) _).alloc (by simp) _).alloc (by simp; omega) _
  have HA3 : Hid _ := A3
  have HB3 : Hid _ := B3
  have HC3 : Hid _ := C3
  clear A1 A2 A3 B2 B3 C3
  cases he : eqB no2 no bl2 bl sl2 sl
  · have HE : Hid (eqB no2 no bl2 bl sl2 sl = false) := he
    clear he
    go_enter Try.func45, Try.ntmps45
    go_wp2_with (first | ((with_reducible show wpList _ _ _ ({ dst := _, op := Op.load 28 _, type := _, pos := _, after := _, guard := _ } :: _) _ _); refine wpList_load_head rfl _ rfl (HA3.out) rfl ?_) | ((with_reducible show wpList _ _ _ ({ dst := _, op := Op.load 28 _, type := _, pos := _, after := _, guard := _ } :: _) _ _); refine wpList_load_head rfl _ rfl (HB3.out) rfl ?_) | ((with_reducible show wpList _ _ _ ({ dst := _, op := Op.binOp BinOp.eql 28 _ _ 28, type := _, pos := _, after := _, guard := _ } :: _) _ _); refine wpList_eq_head rfl _ _ rfl rfl rfl hb2 hs2 hb hs HE.out ?_) | ((with_reducible show wpList _ _ _ ({ dst := _, op := Op.store 28 _ _, type := _, pos := _, after := _, guard := _ } :: _) _ _); refine wpList_store_head rfl _ _ rfl (HC3.out) hb2 hs2 rfl rfl ?_; intro w4 H4 b4 z4))
    exact bodyPost_ret (results_head rfl _ H4 rfl) rfl ⟨rfl, hB.trans (b4.mono (by omega))⟩
  · have HE : Hid (eqB no2 no bl2 bl sl2 sl = true) := he
    clear he
    go_enter Try.func45, Try.ntmps45
    go_wp2_with (first | ((with_reducible show wpList _ _ _ ({ dst := _, op := Op.load 28 _, type := _, pos := _, after := _, guard := _ } :: _) _ _); refine wpList_load_head rfl _ rfl (HA3.out) rfl ?_) | ((with_reducible show wpList _ _ _ ({ dst := _, op := Op.load 28 _, type := _, pos := _, after := _, guard := _ } :: _) _ _); refine wpList_load_head rfl _ rfl (HB3.out) rfl ?_) | ((with_reducible show wpList _ _ _ ({ dst := _, op := Op.binOp BinOp.eql 28 _ _ 28, type := _, pos := _, after := _, guard := _ } :: _) _ _); refine wpList_eq_head rfl _ _ rfl rfl rfl hb2 hs2 hb hs HE.out ?_) | ((with_reducible show wpList _ _ _ ({ dst := _, op := Op.store 28 _ _, type := _, pos := _, after := _, guard := _ } :: _) _ _); refine wpList_store_head rfl _ _ rfl (HC3.out) rfl rfl rfl rfl ?_; intro w4 H4 b4 z4))
    exact bodyPost_ret (results_head rfl _ H4 rfl) rfl ⟨rfl, hB.trans (b4.mono (by omega))⟩
/-- A row of cells: block g, whole. -/
def RowAt (w : World) (g : Nat) (t : TypeId) (L : List Value) : Prop := w.heap[g]? = some (.cells L.toArray t (0, 0))
theorem RowAt.lt {w : World} {g : Nat} {t : TypeId} {L : List Value} (h : RowAt w g t L) : g < w.heap.size := (Array.getElem?_eq_some_iff.1 h).1
theorem RowAt.below {w w' : World} {g B : Nat} {t : TypeId} {L : List Value} (h : RowAt w g t L) (hb : Below B w w') (hg : g < B) : RowAt w' g t L := by
  unfold RowAt; rw [hb.block g hg]; exact h
theorem RowAt.src {w : World} {g off : Nat} {t : TypeId} {L : List Value} {l : List UInt8} (h : RowAt w g t L) (hl : (L.drop off).take l.length = bvs l) : Src w (some ⟨g, off, none⟩) l :=
  .inr ⟨g, off, rfl, h.lt, fun j hj => by
    rw [cell_of_row w g (off + j) _ _ _ h]
    have e : ((L.drop off).take l.length)[j]? = (bvs l)[j]? := by rw [hl]
    rw [List.getElem?_take, if_pos hj, List.getElem?_drop] at e
    simpa [bvs, hj] using e⟩
/-- 'copy' of bytes into the middle of a row. -/
theorem copy_mid {w : World} {g off n : Nat} (cap : Nat) {sp : Option Addr} (sCap : Nat) {t : TypeId} {L : List Value} {l : List UInt8} (hg : RowAt w g t L) (hs : Src w sp l) (hl : l.length = n) (h0 : 0 < n) (hd : off + n ≤ L.length) :
    ∃ w1, (Builtin.copy_ #[24, 24] 3 #[.slice (some ⟨g, off, none⟩) n cap, .slice sp n sCap]).run Try.prog w = .ok (.int .i64 (n : Nat)) w1 ∧
      RowAt w1 g t (L.take off ++ bvs l ++ L.drop (off + n)) ∧ Below g w w1 ∧ w1.heap.size = w.heap.size := by
  obtain ⟨ad, had, hcs⟩ := hs.pos n (by rw [bvs_length, List.length_take]; omega)
  subst had
  rw [List.take_of_length_le (by omega)] at hcs
  have hrun := run_copy_row (P := Try.prog) w 24 24 3 5 g off n cap ad n sCap L.toArray t (bvs l) Try.underlying24 Try.elem1 hg (by rw [bvs_length, hl]; simp) hcs (by simp only [bvs_length, List.size_toArray]; omega) (bvs_one _)
  rw [bvs_length, hl] at hrun
  refine ⟨_, hrun, ?_, below_setRow (Below.refl _ _) (Nat.le_refl _) _, by simp⟩
  unfold RowAt
  rw [setRow_heap w g _ (L.toArray.toList.take off ++ bvs l ++ L.toArray.toList.drop (off + n)).toArray t _ hg]
set_option maxHeartbeats 1000000 in
theorem turn_any (g off cap i : Nat) (t : TypeId) (L : List Value) (l : List UInt8) (on : Bool) (w : World) (hg : RowAt w g t L) (hl : (L.drop off).take l.length = bvs l) (hd : off + l.length ≤ L.length) (hi : i < 8 * l.length) (hn : l.length ≤ 140737488355328) :
    Calls Try.prog 44 #[.slice (some ⟨g, off, none⟩) l.length cap, .int .i64 i, .bool on] w fun e w' => e = .returned (.tuple #[]) ∧ RowAt w' g t (L.take off ++ bvs (setb l i on) ++ L.drop (off + l.length)) ∧ Below g w w' := by
  have hs := hg.src hl
  have SY := set_yes (some ⟨g, off, none⟩) l cap i on w hs hi hn
  have hsl := setb_length l i on
  have hlt := hg.lt
  go_enter Try.func44, Try.ntmps44
  go_wp2_with fail
  refine SY.mono ?_
  rintro e w1 ⟨g1, rfl, hg1, hge, hb1⟩
  obtain ⟨w2, hrun, hr2, hb2, _⟩ := copy_mid (off := off) cap (n := l.length) l.length (hg.below hb1 hlt) hg1.src hsl (by omega) hd
  clear SY hs
  have hB : Below g w w2 := (hb1.mono (by omega)).trans hb2
  go_wp2
  go_end0
  exact ⟨rfl, hr2, hB⟩
/-- A map of which the first n are set. -/
def fillb (l : List UInt8) : Nat → List UInt8
  | 0 => l
  | k + 1 => setb (fillb l k) k true
theorem fillb_length (l : List UInt8) : ∀ n, (fillb l n).length = l.length
  | 0 => rfl
  | k + 1 => by rw [fillb, setb_length, fillb_length l k]
theorem mid_mid {L : List Value} {off : Nat} {x y : List UInt8} (hd : off + x.length ≤ L.length) (h : y.length = x.length) :
    ((L.take off ++ bvs x ++ L.drop (off + x.length)).take off ++ bvs y ++ (L.take off ++ bvs x ++ L.drop (off + x.length)).drop (off + y.length)) = L.take off ++ bvs y ++ L.drop (off + x.length) := by
  have h1 : (L.take off).length = off := by simp; omega
  have h2 : (bvs x).length = x.length := bvs_length x
  congr 1
  · congr 1
    rw [List.append_assoc, List.take_append_of_le_length (by omega)]
    rw [List.take_of_length_le (by omega)]
  · rw [h, List.drop_append_of_le_length (by simp; omega)]
    rw [List.drop_of_length_le (by simp; omega), List.nil_append]
set_option maxHeartbeats 1000000 in
theorem fill_any (g off cap n : Nat) (t : TypeId) (L : List Value) (l : List UInt8) (w : World) (hg : RowAt w g t L) (hl : (L.drop off).take l.length = bvs l) (hd : off + l.length ≤ L.length) (hi : n ≤ 8 * l.length) (hn : l.length ≤ 140737488355328) :
    Calls Try.prog 37 #[.slice (some ⟨g, off, none⟩) l.length cap, .int .i64 n] w fun e w' => e = .returned (.tuple #[]) ∧ RowAt w' g t (L.take off ++ bvs (fillb l n) ++ L.drop (off + l.length)) ∧ Below g w w' := by
  have h0 : L = L.take off ++ bvs l ++ L.drop (off + l.length) := by
    rw [← hl, List.append_assoc]
    have : (L.drop off).take l.length ++ L.drop (off + l.length) = L.drop off := by
      rw [← List.drop_drop]; exact List.take_append_drop _ _
    rw [this, List.take_append_drop]
  have hlt := hg.lt
  have HG : Hid (RowAt w g t (L.take off ++ bvs (fillb l 0) ++ L.drop (off + l.length))) := by
    show RowAt w g t _
    rw [fillb, ← h0]; exact hg
  have TN : Hid (∀ k W, k < n → RowAt W g t (L.take off ++ bvs (fillb l k) ++ L.drop (off + l.length)) → Calls Try.prog 44 #[.slice (some ⟨g, off, none⟩) l.length cap, .int .i64 k, .bool true] W fun e w' => e = .returned (.tuple #[]) ∧ RowAt w' g t (L.take off ++ bvs (fillb l (k + 1)) ++ L.drop (off + l.length)) ∧ Below g W w') := by
    intro k W hk hW
    have hfl := fillb_length l k
    have h1 : (L.take off).length = off := by simp; omega
    have h := turn_any g off cap k t _ (fillb l k) true W hW (by
      rw [List.append_assoc, List.drop_append_of_le_length (by omega), List.drop_of_length_le (by omega), List.nil_append, List.take_append_of_le_length (by rw [bvs_length]; omega), List.take_of_length_le (by rw [bvs_length]; omega)]) (by simp [bvs_length, hfl]; omega) (by omega) (by omega)
    rw [hfl] at h
    refine h.mono ?_
    rintro e w' ⟨h1, h2, h3⟩
    refine ⟨h1, ?_, h3⟩
    rw [fillb]
    have mm := mid_mid (L := L) (off := off) (x := fillb l k) (y := setb (fillb l k) k true) (by omega) (setb_length _ _ _)
    rw [setb_length, hfl] at mm
    rw [mm] at h2
    exact h2
  clear hg hl h0
  go_enter Try.func37, Try.ntmps37
  go_wp2_with fail
  go_loopw [6] (fun i wr => ∃ k : Nat, k ≤ n ∧ i = .int .i64 k ∧ Hid (RowAt wr g t (L.take off ++ bvs (fillb l k) ++ L.drop (off + l.length))) ∧ Below g w wr) (fun i _ => n - (intOf i).toNat)
  case atStart => exact ⟨0, Nat.zero_le _, rfl, HG, Below.refl _ _⟩
  case round =>
    obtain ⟨k, hk, rfl, HR, hbw⟩ := hrel
    by_cases hlt : (k : Int) < n
    · go_wp2_with fail
      refine (TN.out k _ (by omega) HR.out).mono ?_
      rintro e w2 ⟨rfl, h2, hb2⟩
      have HR2 : Hid (RowAt w2 g t (L.take off ++ bvs (fillb l (k + 1)) ++ L.drop (off + l.length))) := h2
      have hbw2 := hbw.trans hb2
      clear h2 hb2 hbw HR
      go_wp2
      go_roundw
      case rel => exact ⟨k + 1, by omega, by go_num, HR2, hbw2⟩
      case measure => simp [intOf]; omega
    · obtain rfl : k = n := by omega
      go_wp2
      go_end0
      exact ⟨rfl, by have h := HR.out; rw [List.append_assoc] at h; exact h, hbw⟩
end Go.Proofs.Ytfbbdpapnegmcaa
