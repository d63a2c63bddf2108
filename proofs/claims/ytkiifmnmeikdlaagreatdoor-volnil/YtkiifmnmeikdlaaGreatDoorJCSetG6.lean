/- bits.Set and the document's Set. -/
import Derived.Test.YtkiifmnmeikdlaaGreatDoorJCVSgetTwo6
import Derived.BigRegion
import Derived.Stop.BytesEq
import Derived.Deep.MidRow
namespace Go.Proofs.YtkiifmnmeikdlaaGreatDoor
open Go.RowKit
set_option maxRecDepth 100000
/-- A byte in which the bit k is so. -/
def tb (x k : Nat) (on : Bool) : Nat := if x.testBit k = on then x else x ^^^ 2 ^ k
/-- A map in which the bit i is so. -/
def setb (l : List UInt8) (i : Nat) (on : Bool) : List UInt8 := l.set (i / 8) (UInt8.ofNat (tb (l.getD (i / 8) 0).toNat (i % 8) on))
theorem setb_length (l : List UInt8) (i : Nat) (on : Bool) : (setb l i on).length = l.length := by simp [setb]
theorem or_tb : ∀ x : Fin 256, ∀ k : Fin 8, x.1 ||| 2 ^ k.1 = tb x.1 k.1 true ∧ tb x.1 k.1 true < 256 := by decide +kernel
theorem an_tb : ∀ x : Fin 256, ∀ k : Fin 8, x.1 &&& (255 - 2 ^ k.1) = tb x.1 k.1 false ∧ tb x.1 k.1 false < 256 := by decide +kernel
theorem tb_lt (x k : Nat) (on : Bool) (hx : x < 256) (hk : k < 8) : tb x k on < 256 := by
  cases on
  · exact (an_tb ⟨x, hx⟩ ⟨k, hk⟩).2
  · exact (or_tb ⟨x, hx⟩ ⟨k, hk⟩).2
theorem bits_an_u8_nat (a b : Nat) (ha : a < 256) (hb : b < 256) : bits .andNot .u8 (a : Int) (b : Int) = ((a &&& (255 - b) : Nat) : Int) := by
  have hx : a &&& (255 - b) < 2 ^ 8 := Nat.and_lt_two_pow _ (by omega)
  have h1 : (BitVec.ofInt 8 (a : Int)).toNat = a := by
    rw [BitVec.ofInt_natCast, BitVec.toNat_ofNat]; exact Nat.mod_eq_of_lt (by omega)
  have h2 : (BitVec.ofInt 8 (b : Int)).toNat = b := by
    rw [BitVec.ofInt_natCast, BitVec.toNat_ofNat]; exact Nat.mod_eq_of_lt (by omega)
  show IntKind.u8.wrap ((BitVec.ofInt 8 (a : Int) &&& ~~~ BitVec.ofInt 8 (b : Int)).toNat : Int) = _
  rw [BitVec.toNat_and, BitVec.toNat_not, h1, h2, IntKind.wrap_u8]
  simp only [Nat.reducePow, Nat.reduceSub] at hx ⊢
  omega
theorem pow8i (i : Nat) : (2 ^ (i % 8) : Int) = ((2 ^ (i % 8) : Nat) : Int) := by simp
theorem or_is (x i : Nat) (hx : x < 256) : bits .or .u8 (x : Int) (2 ^ (i % 8)) = (tb x (i % 8) true : Nat) := by
  rw [pow8i, bits_or_u8_nat x _ hx (pow8 i), (or_tb ⟨x, hx⟩ ⟨i % 8, Nat.mod_lt _ (by omega)⟩).1]
theorem an_is (x i : Nat) (hx : x < 256) : bits .andNot .u8 (x : Int) (2 ^ (i % 8)) = (tb x (i % 8) false : Nat) := by
  rw [pow8i, bits_an_u8_nat x _ hx (pow8 i), (an_tb ⟨x, hx⟩ ⟨i % 8, Nat.mod_lt _ (by omega)⟩).1]
theorem Blk.store {w : World} {g : Nat} {t : TypeId} {l : List UInt8} (h : Blk w g t l) (j : Nat) (x : UInt8) : Blk (w.setCell ⟨g, j, none⟩ (bv x)) g t (l.set j x) := by
  unfold Blk
  rw [heap_setCell_same w g j _ _ (bv x) h]
  simp [bvs]
theorem bv_of (n : Nat) (h : n < 256) : bv (UInt8.ofNat n) = .int .u8 (n : Int) := by
  unfold bv; rw [UInt8.toNat_ofNat_of_lt' (by simpa using h)]
theorem Blk.setb {w : World} {g : Nat} {t : TypeId} {l : List UInt8} (h : Blk w g t l) (i : Nat) (on : Bool) (x : Nat) (hx : x = (l.getD (i / 8) 0).toNat) : Blk (w.setCell ⟨g, i / 8, none⟩ (.int .u8 (tb x (i % 8) on : Nat))) g t (setb l i on) := by
  have := h.store (i / 8) (UInt8.ofNat (tb x (i % 8) on))
  rw [bv_of _ (tb_lt _ _ _ (by rw [hx]; exact UInt8.toNat_lt _) (Nat.mod_lt _ (by omega)))] at this
  show Blk _ g t (l.set (i / 8) (UInt8.ofNat (tb (l.getD (i / 8) 0).toNat (i % 8) on)))
  rw [← hx]; exact this
theorem Blk.drew {w : World} {g : Nat} {t : TypeId} {l : List UInt8} (h : Blk w g t l) : Blk w.drew g t l := h
set_option maxHeartbeats 2000000 in
theorem set_yes (sp : Option Addr) (l : List UInt8) (cap : Nat) (i : Nat) (on : Bool) (w : World) (hs : Src w sp l) (h : i < 8 * l.length) (hn : l.length ≤ 140737488355328) :
    Calls Tryz.prog 165 #[.slice sp l.length cap, .int .i64 i, .bool on] w fun e w' => ∃ g, e = .returned (.tuple #[.slice (some ⟨g, 0, none⟩) l.length l.length, .int .i64 0]) ∧ Blk w' g 5 (setb l i on) ∧ w.heap.size ≤ g ∧ Below w.heap.size w w' := by
  have hmk : (Instr.makeSlice 42 (.int .i64 (l.length : Int)) (.int .i64 (l.length : Int))).run Tryz.prog w = .ok (.slice (some ⟨w.heap.size, 0, none⟩) l.length l.length) (w.alloc (.cells (bvs (List.replicate l.length 0)).toArray 5)) := make_any w l.length l.length (Nat.le_refl _) (by omega)
  have hb0 : Below w.heap.size w (w.alloc (.cells (bvs (List.replicate l.length 0)).toArray 5)) := (Below.refl _ _).alloc (Nat.le_refl _) _
  have hg0 : Blk (w.alloc (.cells (bvs (List.replicate l.length 0)).toArray 5)) w.heap.size 5 (List.replicate l.length 0) := heap_alloc_new _ _
  obtain ⟨w1, hrun, hg1, hb1, hz1⟩ := copy_any (off := 0) (dLen := l.length) l.length l.length cap hg0 (hs.below hb0 (Nat.le_refl _)) rfl (by simp)
  have e1 : List.take 0 (List.replicate l.length (0 : UInt8)) ++ l.take l.length ++ List.drop (0 + min l.length l.length) (List.replicate l.length 0) = l := by simp
  rw [e1] at hg1
  clear e1 hg0
  have hb2 := hb0.trans hb1
  clear hb0 hb1
  obtain ⟨x, hx, hg, hi, hv⟩ := gb_at l i h
  have hxe : x = (l.getD (i / 8) 0).toNat := by
    have e : l.getD (i / 8) 0 = l[i / 8] := by simp [hi]
    rw [e]; unfold bv at hv; injection hv with _ e2; omega
  have hcell := hg1.cell (i / 8) hi
  rw [hv] at hcell
  have hfr := hg1.frozen (i / 8)
  have hlt := hg1.lt
  have HG : Hid _ := hg1
  have HB : Hid _ := hb2
  have HX : Hid _ := hxe
  have TH := there_yes sp l.length cap i w h hn
  have h8 : (i : Int) / 8 < l.length := by omega
  have hi2 : (i : Int) ≤ 9223372036854775807 := by omega
  have BT := fun W => bit_any i W hi2
  have OI := or_is x i hx
  have AI := an_is x i hx
  have hi0 : (0 : Int) ≤ (i : Int) / 8 := by omega
  have htn : ((i : Int) / 8).toNat = i / 8 := by omega
  have hwr : IntKind.i64.wrap ((i : Int) / 8) = (i : Int) / 8 := by rw [IntKind.wrap_i64]; omega
  clear hg hv hg1 hb2 hxe hs
  cases on
  all_goals
    go_enter Tryz.func165, Tryz.ntmps165
    go_wp2_with fail
    refine TH.mono ?_
    rintro e w' ⟨rfl, rfl⟩
    clear TH
    go_wp2_with fail
  · go_region_with (first | (go_at_call 188; refine (BT _).mono ?_; rintro e w4 ⟨rfl, rfl⟩))
    all_goals
      go_wp2
      go_ret2
      exact ⟨_, rfl, (Blk.setb (show Blk w1 w'.heap.size 5 l from HG.out) i false x HX.out).drew, Nat.le_refl _, (HB.out.setCell (p := ⟨w'.heap.size, i / 8, none⟩) (Nat.le_refl _) _).drew⟩
  · go_region_with (first | (go_at_call 188; refine (BT _).mono ?_; rintro e w4 ⟨rfl, rfl⟩))
    all_goals
      go_wp2
      go_ret2
      exact ⟨_, rfl, (Blk.setb (show Blk w1 w'.heap.size 5 l from HG.out) i true x HX.out).drew, Nat.le_refl _, (HB.out.setCell (p := ⟨w'.heap.size, i / 8, none⟩) (Nat.le_refl _) _).drew⟩
end Go.Proofs.YtkiifmnmeikdlaaGreatDoor
/- Headers as values and in memory: laws for the walk. -/
namespace Go.Proofs.YtkiifmnmeikdlaaGreatDoor
open Go.RowKit
set_option maxRecDepth 100000
/-- The cells of a header. -/
def hL (no : Int) (bl sl : List UInt8) : List Value := Value.int .i64 no :: (bvs bl ++ bvs sl)
def hA (no : Int) (bl sl : List UInt8) : Array Value := (hL no bl sl).toArray
theorem hL_length {no : Int} {bl sl : List UInt8} (hb : bl.length = 16) (hs : sl.length = 8) : (hL no bl sl).length = 25 := by simp [hL, bvs_length, hb, hs]
theorem hA_size {no : Int} {bl sl : List UInt8} (hb : bl.length = 16) (hs : sl.length = 8) : (hA no bl sl).size = 25 := by rw [hA, List.size_toArray, hL_length hb hs]
theorem hL_one (no : Int) (bl sl : List UInt8) : ∀ v ∈ hL no bl sl, v.oneCell' = true := by
  intro v hv
  simp only [hL, List.mem_cons, List.mem_append] at hv
  rcases hv with rfl | h | h
  · rfl
  · exact bvs_one _ v h
  · exact bvs_one _ v h
theorem hA_one (no : Int) (bl sl : List UInt8) : (hA no bl sl).all (·.oneCell') = true := all_oneCell_toArray (hL_one no bl sl)
def z16 : List UInt8 := List.replicate 16 0
def z8 : List UInt8 := List.replicate 8 0
theorem Tryz.sz38 : (Tryz.prog.info? 38).map (·.size) = some 25 := by kernel_rfl
theorem zero28 : ∀ w, (zeroValue 38).run Tryz.prog w = .ok (.agg (hA 0 z16 z8)) w := by
  have h : (Tryz.prog.info? 38).map (fun i => i.zero) = some (some (.agg (hA 0 z16 z8))) := by kernel_rfl
  intro w
  cases hi : Tryz.prog.info? 38 with
  | none => rw [hi] at h; cases h
  | some i =>
    rw [hi] at h
    have hz : i.zero = some (.agg (hA 0 z16 z8)) := Option.some.inj h
    have key : ∀ (v : Value) (w : World), i.zero = some v → (zeroValue 38).run Tryz.prog w = .ok v w := by
      intro v w hv
      simp [zeroValue, typeInfo, hi, hv]
    exact key _ w hz
/-- A header lies at p. -/
structure HeadAt (w : World) (p : Nat) (no : Int) (bl sl : List UInt8) : Prop where
  row : w.heap[p]? = some (.cells (hA no bl sl) 38 (0, 0))
  lb : bl.length = 16
  ls : sl.length = 8
section
variable {w w' : World} {p : Nat} {no : Int} {bl sl : List UInt8}
theorem HeadAt.lt (h : HeadAt w p no bl sl) : p < w.heap.size := (Array.getElem?_eq_some_iff.1 h.row).1
theorem HeadAt.below (h : HeadAt w p no bl sl) {B : Nat} (hb : Below B w w') (hp : p < B) : HeadAt w' p no bl sl := ⟨by rw [hb.block p hp]; exact h.row, h.lb, h.ls⟩
theorem HeadAt.up (h : HeadAt w p no bl sl) (hb : Below w.heap.size w w') : HeadAt w' p no bl sl := h.below hb h.lt
theorem HeadAt.drew (h : HeadAt w p no bl sl) : HeadAt w.drew p no bl sl := ⟨h.row, h.lb, h.ls⟩
theorem HeadAt.c0 (h : HeadAt w p no bl sl) : w.cell? ⟨p, 0, none⟩ = some (.int .i64 no) := by
  rw [cell_of_row w p 0 _ _ _ h.row]; simp [hA, hL]
theorem HeadAt.srcB (h : HeadAt w p no bl sl) : Src w (some ⟨p, 1, none⟩) bl :=
  .inr ⟨p, 1, rfl, h.lt, fun j hj => by
    rw [cell_of_row w p (1 + j) _ _ _ h.row]
    have e : 1 + j = j + 1 := by omega
    rw [e]
    simp [hA, hL, bvs, hj, List.getElem?_append]⟩
theorem HeadAt.srcS (h : HeadAt w p no bl sl) : Src w (some ⟨p, 17, none⟩) sl :=
  .inr ⟨p, 17, rfl, h.lt, fun j hj => by
    rw [cell_of_row w p (17 + j) _ _ _ h.row]
    have e : 17 + j = (16 + j) + 1 := by omega
    have hb := h.lb
    rw [e]
    simp [hA, hL, bvs, hb, hj]⟩
theorem HeadAt.range (h : HeadAt w p no bl sl) : w.rangeAt p 0 (hL no bl sl) := fun j v hv => by
  rw [Nat.zero_add, cell_of_row w p j _ _ _ h.row]
  simpa [hA] using hv
theorem head_new (w : World) (no : Int) (bl sl : List UInt8) (hb : bl.length = 16) (hs : sl.length = 8) : HeadAt (w.alloc (.cells (hA no bl sl) 38)) w.heap.size no bl sl := ⟨heap_alloc_new _ _, hb, hs⟩
theorem HeadAt.alloc (h : HeadAt w p no bl sl) (o : Obj) : HeadAt (w.alloc o) p no bl sl := h.up ((Below.refl _ _).alloc (Nat.le_refl _) _)
end
/-- The load of a whole header. -/
theorem wpList_load_head {ops : Array Oper} {rest : List Oper} {op : Oper} {a : Act} {w : World} {Q : Exit → Act → World → Prop} (hgd : op.guard = none) (x : Operand) (ho : op.op = .load 38 x)
    {p : Nat} {no : Int} {bl sl : List UInt8} (H : HeadAt w p no bl sl) (hx : a.eval x = .pointer (some ⟨p, 0, none⟩))
    (h : wpList Tryz.prog ops Q rest (a.put op.dst (.agg (hA no bl sl))) w) : wpList Tryz.prog ops Q (op :: rest) a w :=
  wpList_load_mid hgd 38 x ho p 0 hx _ _ H.range Tryz.underlying38 rfl (by rw [Tryz.sz38, hL_length H.lb H.ls]) h
/-- The store of a whole header. -/
theorem wpList_store_head {ops : Array Oper} {rest : List Oper} {op : Oper} {a : Act} {w : World} {Q : Exit → Act → World → Prop} (hgd : op.guard = none) (x y : Operand) (ho : op.op = .store 38 x y)
    {p : Nat} {no no2 : Int} {bl sl bl2 sl2 : List UInt8} (H : HeadAt w p no bl sl) (hb2 : bl2.length = 16) (hs2 : sl2.length = 8) (hx : a.eval x = .pointer (some ⟨p, 0, none⟩)) (hy : a.eval y = .agg (hA no2 bl2 sl2))
    (h : ∀ w', HeadAt w' p no2 bl2 sl2 → Below p w w' → w'.heap.size = w.heap.size → wpList Tryz.prog ops Q rest (a.put op.dst undef) w') : wpList Tryz.prog ops Q (op :: rest) a w := by
  refine wpList_plain hgd fun K hK => ?_
  have hrun := run_storeVar_row (P := Tryz.prog) w p 38 38 (hA no bl sl) (hA no2 bl2 sl2) H.row (by rw [Tryz.sz38, hA_size hb2 hs2]) (by rw [hA_size H.lb H.ls, hA_size hb2 hs2]) (hA_one _ _ _)
  unfold Oper.wp execOp
  simp only [ho, hx, hy, Instr.storeAt, Instr.sureAddr, Sem.run_bind, Sem.run_pure, Result.andThen_ok, hrun]
  exact hK _ _ (h _ ⟨setRow_heap w p _ _ 38 _ H.row, hb2, hs2⟩ (below_setRow (Below.refl _ _) (Nat.le_refl _) _) (by simp))
theorem results_head {fn : Func} {q u : Tmp} (h : fn.results = #[.cell q 38, .tmp u]) (tmps : Array Value) {w : World} {p : Nat} {no : Int} {bl sl : List UInt8} (H : HeadAt w p no bl sl) (hp : tmps.getD q undef = .pointer (some ⟨p, 0, none⟩)) :
    (results fn tmps).run Tryz.prog w = .ok (.tuple #[.agg (hA no bl sl), tmps.getD u undef]) w := by
  rw [results_cell_tmp h, hp]
  simp [asAddr, run_loadVar_row w p 38 38 _ _ _ H.row Tryz.underlying38 rfl (by rw [Tryz.sz38, hA_size H.lb H.ls]), Result.andThen]
theorem size_of {t : TypeId} {n : Nat} (h : (Tryz.prog.info? t).map (fun i => i.size) = some n) (w : World) : (sizeOf t).run Tryz.prog w = .ok n w := by
  cases hi : Tryz.prog.info? t with
  | none => rw [hi] at h; cases h
  | some i => rw [hi] at h; have := Option.some.inj h; simp [sizeOf, typeInfo, hi]; exact this
theorem size5 (w : World) : (sizeOf 5).run Tryz.prog w = .ok 1 w := size_of (by kernel_rfl) w
end Go.Proofs.YtkiifmnmeikdlaaGreatDoor
/- group.changed, turn, fill. -/
namespace Go.Proofs.YtkiifmnmeikdlaaGreatDoor
open Go.RowKit
set_option maxRecDepth 100000
/-- A row of cells: block g, whole. -/
def RowAt (w : World) (g : Nat) (t : TypeId) (L : List Value) : Prop := w.heap[g]? = some (.cells L.toArray t (0, 0))
theorem RowAt.lt {w : World} {g : Nat} {t : TypeId} {L : List Value} (h : RowAt w g t L) : g < w.heap.size := (Array.getElem?_eq_some_iff.1 h).1
theorem RowAt.below {w w' : World} {g B : Nat} {t : TypeId} {L : List Value} (h : RowAt w g t L) (hb : Below B w w') (hg : g < B) : RowAt w' g t L := by
  unfold RowAt; rw [hb.block g hg]; exact h
theorem RowAt.src {w : World} {g off : Nat} {t : TypeId} {L : List Value} {l : List UInt8} (h : RowAt w g t L) (hl : (L.drop off).take l.length = bvs l) : Src w (some ⟨g, off, none⟩) l :=
  .inr ⟨g, off, rfl, h.lt, fun j hj => by
    rw [cell_of_row w g (off + j) _ _ _ h]
    have e : ((L.drop off).take l.length)[j]? = (bvs l)[j]? := by rw [hl]
    rw [List.getElem?_take, if_pos hj, List.getElem?_drop] at e
    simpa [bvs, hj] using e⟩
/-- 'copy' of bytes into the middle of a row. -/
theorem copy_mid {w : World} {g off n : Nat} (cap : Nat) {sp : Option Addr} (sCap : Nat) {t : TypeId} {L : List Value} {l : List UInt8} (hg : RowAt w g t L) (hs : Src w sp l) (hl : l.length = n) (h0 : 0 < n) (hd : off + n ≤ L.length) :
    ∃ w1, (Builtin.copy_ #[42, 42] 3 #[.slice (some ⟨g, off, none⟩) n cap, .slice sp n sCap]).run Tryz.prog w = .ok (.int .i64 (n : Nat)) w1 ∧
      RowAt w1 g t (L.take off ++ bvs l ++ L.drop (off + n)) ∧ Below g w w1 ∧ w1.heap.size = w.heap.size := by
  obtain ⟨ad, had, hcs⟩ := hs.pos n (by rw [bvs_length, List.length_take]; omega)
  subst had
  rw [List.take_of_length_le (by omega)] at hcs
  have hrun := run_copy_row (P := Tryz.prog) w 42 42 3 5 g off n cap ad n sCap L.toArray t (bvs l) Tryz.underlying42 Tryz.elem1 hg (by rw [bvs_length, hl]; simp) hcs (by simp only [bvs_length, List.size_toArray]; omega) (bvs_one _)
  rw [bvs_length, hl] at hrun
  refine ⟨_, hrun, ?_, below_setRow (Below.refl _ _) (Nat.le_refl _) _, by simp⟩
  unfold RowAt
  rw [setRow_heap w g _ (L.toArray.toList.take off ++ bvs l ++ L.toArray.toList.drop (off + n)).toArray t _ hg]
set_option maxHeartbeats 1000000 in
theorem turn_any (g off cap i : Nat) (t : TypeId) (L : List Value) (l : List UInt8) (on : Bool) (w : World) (hg : RowAt w g t L) (hl : (L.drop off).take l.length = bvs l) (hd : off + l.length ≤ L.length) (hi : i < 8 * l.length) (hn : l.length ≤ 140737488355328) :
    Calls Tryz.prog 135 #[.slice (some ⟨g, off, none⟩) l.length cap, .int .i64 i, .bool on] w fun e w' => e = .returned (.tuple #[]) ∧ RowAt w' g t (L.take off ++ bvs (setb l i on) ++ L.drop (off + l.length)) ∧ Below g w w' := by
  have hs := hg.src hl
  have SY := set_yes (some ⟨g, off, none⟩) l cap i on w hs hi hn
  have hsl := setb_length l i on
  have hlt := hg.lt
  go_enter Tryz.func135, Tryz.ntmps135
  go_wp2_with fail
  refine SY.mono ?_
  rintro e w1 ⟨g1, rfl, hg1, hge, hb1⟩
  obtain ⟨w2, hrun, hr2, hb2, _⟩ := copy_mid (off := off) cap (n := l.length) l.length (hg.below hb1 hlt) hg1.src hsl (by omega) hd
  clear SY hs
  have hB : Below g w w2 := (hb1.mono (by omega)).trans hb2
  go_wp2
  go_end0
  exact ⟨rfl, hr2, hB⟩
/-- A map of which the first n are set. -/
def fillb (l : List UInt8) : Nat → List UInt8
  | 0 => l
  | k + 1 => setb (fillb l k) k true
theorem fillb_length (l : List UInt8) : ∀ n, (fillb l n).length = l.length
  | 0 => rfl
  | k + 1 => by rw [fillb, setb_length, fillb_length l k]
theorem mid_mid {L : List Value} {off : Nat} {x y : List UInt8} (hd : off + x.length ≤ L.length) (h : y.length = x.length) :
    ((L.take off ++ bvs x ++ L.drop (off + x.length)).take off ++ bvs y ++ (L.take off ++ bvs x ++ L.drop (off + x.length)).drop (off + y.length)) = L.take off ++ bvs y ++ L.drop (off + x.length) := by
  have h1 : (L.take off).length = off := by simp; omega
  have h2 : (bvs x).length = x.length := bvs_length x
  congr 1
  · congr 1
    rw [List.append_assoc, List.take_append_of_le_length (by omega)]
    rw [List.take_of_length_le (by omega)]
  · rw [h, List.drop_append_of_le_length (by simp; omega)]
    rw [List.drop_of_length_le (by simp; omega), List.nil_append]
set_option maxHeartbeats 1000000 in
theorem fill_any (g off cap n : Nat) (t : TypeId) (L : List Value) (l : List UInt8) (w : World) (hg : RowAt w g t L) (hl : (L.drop off).take l.length = bvs l) (hd : off + l.length ≤ L.length) (hi : n ≤ 8 * l.length) (hn : l.length ≤ 140737488355328) :
    Calls Tryz.prog 107 #[.slice (some ⟨g, off, none⟩) l.length cap, .int .i64 n] w fun e w' => e = .returned (.tuple #[]) ∧ RowAt w' g t (L.take off ++ bvs (fillb l n) ++ L.drop (off + l.length)) ∧ Below g w w' := by
  have h0 : L = L.take off ++ bvs l ++ L.drop (off + l.length) := by
    rw [← hl, List.append_assoc]
    have : (L.drop off).take l.length ++ L.drop (off + l.length) = L.drop off := by
      rw [← List.drop_drop]; exact List.take_append_drop _ _
    rw [this, List.take_append_drop]
  have hlt := hg.lt
  have HG : Hid (RowAt w g t (L.take off ++ bvs (fillb l 0) ++ L.drop (off + l.length))) := by
    show RowAt w g t _
    rw [fillb, ← h0]; exact hg
  have TN : Hid (∀ k W, k < n → RowAt W g t (L.take off ++ bvs (fillb l k) ++ L.drop (off + l.length)) → Calls Tryz.prog 135 #[.slice (some ⟨g, off, none⟩) l.length cap, .int .i64 k, .bool true] W fun e w' => e = .returned (.tuple #[]) ∧ RowAt w' g t (L.take off ++ bvs (fillb l (k + 1)) ++ L.drop (off + l.length)) ∧ Below g W w') := by
    intro k W hk hW
    have hfl := fillb_length l k
    have h1 : (L.take off).length = off := by simp; omega
    have h := turn_any g off cap k t _ (fillb l k) true W hW (by
      rw [List.append_assoc, List.drop_append_of_le_length (by omega), List.drop_of_length_le (by omega), List.nil_append, List.take_append_of_le_length (by rw [bvs_length]; omega), List.take_of_length_le (by rw [bvs_length]; omega)]) (by simp [bvs_length, hfl]; omega) (by omega) (by omega)
    rw [hfl] at h
    refine h.mono ?_
    rintro e w' ⟨h1, h2, h3⟩
    refine ⟨h1, ?_, h3⟩
    rw [fillb]
    have mm := mid_mid (L := L) (off := off) (x := fillb l k) (y := setb (fillb l k) k true) (by omega) (setb_length _ _ _)
    rw [setb_length, hfl] at mm
    rw [mm] at h2
    exact h2
  clear hg hl h0
  go_enter Tryz.func107, Tryz.ntmps107
  go_wp2_with fail
  go_loopw [6] (fun i wr => ∃ k : Nat, k ≤ n ∧ i = .int .i64 k ∧ Hid (RowAt wr g t (L.take off ++ bvs (fillb l k) ++ L.drop (off + l.length))) ∧ Below g w wr) (fun i _ => n - (Go.RowKit.intOf i).toNat)
  case atStart => exact ⟨0, Nat.zero_le _, rfl, HG, Below.refl _ _⟩
  case round =>
    obtain ⟨k, hk, rfl, HR, hbw⟩ := hrel
    by_cases hlt : (k : Int) < n
    · go_wp2_with fail
      refine (TN.out k _ (by omega) HR.out).mono ?_
      rintro e w2 ⟨rfl, h2, hb2⟩
      have HR2 : Hid (RowAt w2 g t (L.take off ++ bvs (fillb l (k + 1)) ++ L.drop (off + l.length))) := h2
      have hbw2 := hbw.trans hb2
      clear h2 hb2 hbw HR
      go_wp2
      go_roundw
      case rel => exact ⟨k + 1, by omega, by go_num, HR2, hbw2⟩
      case measure => simp [Go.RowKit.intOf]; omega
    · obtain rfl : k = n := by omega
      go_wp2
      go_end0
      exact ⟨rfl, by have h := HR.out; rw [List.append_assoc] at h; exact h, hbw⟩
end Go.Proofs.YtkiifmnmeikdlaaGreatDoor
/- group.Right. -/
namespace Go.Proofs.YtkiifmnmeikdlaaGreatDoor
open Go.RowKit
set_option maxRecDepth 100000
/-- A shape and a header lie where a function has boxed them. -/
structure RW (w0 : World) (a i n no : Int) (bl sl : List UInt8) (W : World) : Prop where
  geo : Lies w0 w0.heap.size a i n W
  head : HeadAt W (w0.heap.size + 1) no bl sl
theorem RW.up {w0 W W' : World} {a i n no : Int} {bl sl : List UInt8} (h : RW w0 a i n no bl sl W) (hb : Below W.heap.size W W') : RW w0 a i n no bl sl W' :=
  ⟨⟨(hb.cell (p := ⟨w0.heap.size, 0, none⟩) (block_lt_of_cell h.geo.1)).trans h.geo.1, (hb.cell (p := ⟨w0.heap.size, 1, none⟩) (block_lt_of_cell h.geo.2.1)).trans h.geo.2.1, (hb.cell (p := ⟨w0.heap.size, 2, none⟩) (block_lt_of_cell h.geo.2.2.1)).trans h.geo.2.2.1, h.geo.2.2.2.trans (hb.mono h.geo.2.2.2.size)⟩, h.head.up hb⟩
theorem RW.start (w : World) (a i n no : Int) (bl sl : List UInt8) (hb : bl.length = 16) (hs : sl.length = 8) : RW w a i n no bl sl ((w.alloc (.cells #[.int .i64 a, .int .i64 i, .int .i64 n] 23)).alloc (.cells (hA no bl sl) 38)) := by
  have h := head_new (w.alloc (.cells #[.int .i64 a, .int .i64 i, .int .i64 n] 23)) no bl sl hb hs
  rw [show (w.alloc (.cells #[.int .i64 a, .int .i64 i, .int .i64 n] 23)).heap.size = w.heap.size + 1 by simp] at h
  exact ⟨⟨by simp, by simp, by simp, ((Below.refl _ _).alloc (Nat.le_refl _) _).alloc (by simp) _⟩, h⟩
/-- How many blocks are kept. -/
def kbl (i : Int) : Nat := (1 + i / 4).toNat
theorem kbl_of {a i n : Int} (h : okG a i n) : (1 + i / 4 : Int) = (kbl i : Nat) ∧ kbl i ≤ 17 := by have := okG_iff.1 h; unfold kbl; omega
/-- Can a header be? -/
def rgB (a i n no : Int) (bl sl : List UInt8) : Bool := numB a i n no && (covB bl (kbl i) a.toNat && covB sl (ksl no) i.toNat)
theorem numB_ok {a i n no : Int} (h : numB a i n no = true) : okG a i n ∧ 0 ≤ no ∧ no < n := by
  unfold numB at h
  simp only [Bool.and_eq_true, decide_eq_true_eq] at h
  exact h
theorem ksl_le (no : Int) : ksl no ≤ 2 := by unfold ksl; split <;> omega
attribute [local go_sem] wrapI
set_option maxHeartbeats 4000000 in
theorem gright_any (a i n no : Int) (bl sl : List UInt8) (hb : bl.length = 16) (hs : sl.length = 8) (w : World) :
    Calls Tryz.prog 65 #[.agg #[.int .i64 a, .int .i64 i, .int .i64 n], .agg (hA no bl sl)] w fun e w' => e = .returned (.bool (rgB a i n no bl sl)) ∧ Below w.heap.size w w' := by
  have R0 := RW.start w a i n no bl sl hb hs
  have RD : RW w a i n no bl sl ((w.alloc (.cells #[.int .i64 a, .int .i64 i, .int .i64 n] 23)).alloc (.cells (hA no bl sl) 38)).drew := R0.up (Below.refl _ _).drew
  clear R0
  have NB : ∀ W, RW w a i n no bl sl W → Calls Tryz.prog 102 #[.agg #[.int .i64 a, .int .i64 i, .int .i64 n], .int .i64 no] W fun e w' => e = .returned (.bool (numB a i n no)) ∧ RW w a i n no bl sl w' :=
    fun W hW => (numbered_any a i n no W).mono fun _ _ ⟨h1, h2⟩ => ⟨h1, hW.up h2⟩
  unfold rgB
  cases hnb : numB a i n no
  · rw [hnb] at NB
    go_enter Tryz.func65, Tryz.ntmps65
    go_wp2_with fail
    refine wp_region_held_drew (S := (fun W => RW w a i n no bl sl W)) (by kernel_rfl) RD (fun hH => ?_)
    refine takeH (i := 0) (dst := some 5) (v := ?v1) rfl rfl (by kernel_rfl) (by kernel_rfl) (by kernel_rfl) (fun _ _ _ h => h) rfl ?hy1 hH rfl ?rest1
    case hy1 => (intro W hW; have q0 := hW.geo.1; have q1 := hW.geo.2.1; have q2 := hW.geo.2.2.1; have q3 := hW.head.c0; clear hW; go_simp; try with_reducible rfl)
    (try simp only [Act.put, List.setIfInBounds_toArray, List.set_cons_zero, List.set_cons_succ])
    refine takeH (i := 1) (dst := some 6) (v := ?v2) rfl rfl (by kernel_rfl) (by kernel_rfl) (by kernel_rfl) (fun _ _ _ h => h) rfl ?hy2 hH rfl ?rest2
    case hy2 => (intro W hW; have q0 := hW.geo.1; have q1 := hW.geo.2.1; have q2 := hW.geo.2.2.1; have q3 := hW.head.c0; clear hW; go_simp; try with_reducible rfl)
    (try simp only [Act.put, List.setIfInBounds_toArray, List.set_cons_zero, List.set_cons_succ])
    refine takeH (i := 2) (dst := some 7) (v := ?v3) rfl rfl (by kernel_rfl) (by kernel_rfl) (by kernel_rfl) (fun _ _ _ h => h) rfl ?hy3 hH rfl ?rest3
    case hy3 => (intro W hW; have q0 := hW.geo.1; have q1 := hW.geo.2.1; have q2 := hW.geo.2.2.1; have q3 := hW.head.c0; clear hW; go_simp; try with_reducible rfl)
    (try simp only [Act.put, List.setIfInBounds_toArray, List.set_cons_zero, List.set_cons_succ])
    refine callH (i := 3) { dst := some 8, op := Go.Op.call { callee := Go.Callee.value (Go.Operand.func 102), args := #[Go.Operand.tmp 5, Go.Operand.tmp 7], argTypes := #[23, 3] }, type := 4, pos := "group.go:78", after := #[{ on := 0, ground := Go.Ground.data }, { on := 2, ground := Go.Ground.data }], guard := none } (by kernel_rfl) rfl rfl (fun K hK => ?_)
    go_simp
    refine (NB _ hH).mono ?_
    rintro e v1 ⟨rfl, m1⟩
    clear hH
    refine hK.out _ _ m1 (fun hH => ?_)
    clear hK K
    (try simp only [Act.put, List.setIfInBounds_toArray, List.set_cons_zero, List.set_cons_succ])
    refine takeH (i := 4) (dst := some 9) (v := ?v4) rfl rfl (by kernel_rfl) (by kernel_rfl) (by kernel_rfl) (fun _ _ _ h => h) rfl ?hy4 hH rfl ?rest4
    case hy4 => (intro W hW; have q0 := hW.geo.1; have q1 := hW.geo.2.1; have q2 := hW.geo.2.2.1; have q3 := hW.head.c0; clear hW; go_simp; try with_reducible rfl)
    (try simp only [Act.put, List.setIfInBounds_toArray, List.set_cons_zero, List.set_cons_succ])
    refine takeU (i := 5) (dst := some 10) rfl rfl (by kernel_rfl) (by kernel_rfl) (by kernel_rfl) (fun _ _ _ h => h) rfl hH rfl ?_
    (try simp only [Act.put, List.setIfInBounds_toArray, List.set_cons_zero, List.set_cons_succ])
    refine takeU (i := 6) (dst := some 11) rfl rfl (by kernel_rfl) (by kernel_rfl) (by kernel_rfl) (fun _ _ _ h => h) rfl hH rfl ?_
    (try simp only [Act.put, List.setIfInBounds_toArray, List.set_cons_zero, List.set_cons_succ])
    refine takeU (i := 7) (dst := some 12) rfl rfl (by kernel_rfl) (by kernel_rfl) (by kernel_rfl) (fun _ _ _ h => h) rfl hH rfl ?_
    (try simp only [Act.put, List.setIfInBounds_toArray, List.set_cons_zero, List.set_cons_succ])
    refine takeU (i := 8) (dst := some 13) rfl rfl (by kernel_rfl) (by kernel_rfl) (by kernel_rfl) (fun _ _ _ h => h) rfl hH rfl ?_
    (try simp only [Act.put, List.setIfInBounds_toArray, List.set_cons_zero, List.set_cons_succ])
    refine takeU (i := 9) (dst := some 14) rfl rfl (by kernel_rfl) (by kernel_rfl) (by kernel_rfl) (fun _ _ _ h => h) rfl hH rfl ?_
    (try simp only [Act.put, List.setIfInBounds_toArray, List.set_cons_zero, List.set_cons_succ])
    refine takeU (i := 10) (dst := some 15) rfl rfl (by kernel_rfl) (by kernel_rfl) (by kernel_rfl) (fun _ _ _ h => h) rfl hH rfl ?_
    (try simp only [Act.put, List.setIfInBounds_toArray, List.set_cons_zero, List.set_cons_succ])
    refine takeU (i := 11) (dst := some 16) rfl rfl (by kernel_rfl) (by kernel_rfl) (by kernel_rfl) (fun _ _ _ h => h) rfl hH rfl ?_
    (try simp only [Act.put, List.setIfInBounds_toArray, List.set_cons_zero, List.set_cons_succ])
    refine takeH (i := 12) (dst := some 17) (v := ?v5) rfl rfl (by kernel_rfl) (by kernel_rfl) (by kernel_rfl) (fun _ _ _ h => h) rfl ?hy5 hH rfl ?rest5
    case hy5 => (intro W hW; have q0 := hW.geo.1; have q1 := hW.geo.2.1; have q2 := hW.geo.2.2.1; have q3 := hW.head.c0; clear hW; go_simp; try with_reducible rfl)
    (try simp only [Act.put, List.setIfInBounds_toArray, List.set_cons_zero, List.set_cons_succ])
    refine takeH (i := 13) (dst := some 18) (v := ?v6) rfl rfl (by kernel_rfl) (by kernel_rfl) (by kernel_rfl) (fun _ _ _ h => h) rfl ?hy6 hH rfl ?rest6
    case hy6 => (intro W hW; have q0 := hW.geo.1; have q1 := hW.geo.2.1; have q2 := hW.geo.2.2.1; have q3 := hW.head.c0; clear hW; go_simp; try with_reducible rfl)
    (try simp only [Act.put, List.setIfInBounds_toArray, List.set_cons_zero, List.set_cons_succ])
    refine takeU (i := 14) (dst := some 19) rfl rfl (by kernel_rfl) (by kernel_rfl) (by kernel_rfl) (fun _ _ _ h => h) rfl hH rfl ?_
    (try simp only [Act.put, List.setIfInBounds_toArray, List.set_cons_zero, List.set_cons_succ])
    refine takeU (i := 15) (dst := some 20) rfl rfl (by kernel_rfl) (by kernel_rfl) (by kernel_rfl) (fun _ _ _ h => h) rfl hH rfl ?_
    (try simp only [Act.put, List.setIfInBounds_toArray, List.set_cons_zero, List.set_cons_succ])
    refine takeU (i := 16) (dst := some 21) rfl rfl (by kernel_rfl) (by kernel_rfl) (by kernel_rfl) (fun _ _ _ h => h) rfl hH rfl ?_
    (try simp only [Act.put, List.setIfInBounds_toArray, List.set_cons_zero, List.set_cons_succ])
    refine takeU (i := 17) (dst := some 22) rfl rfl (by kernel_rfl) (by kernel_rfl) (by kernel_rfl) (fun _ _ _ h => h) rfl hH rfl ?_
    (try simp only [Act.put, List.setIfInBounds_toArray, List.set_cons_zero, List.set_cons_succ])
    refine takeU (i := 18) (dst := some 23) rfl rfl (by kernel_rfl) (by kernel_rfl) (by kernel_rfl) (fun _ _ _ h => h) rfl hH rfl ?_
    (try simp only [Act.put, List.setIfInBounds_toArray, List.set_cons_zero, List.set_cons_succ])
    refine takeU (i := 19) (dst := some 24) rfl rfl (by kernel_rfl) (by kernel_rfl) (by kernel_rfl) (fun _ _ _ h => h) rfl hH rfl ?_
    (try simp only [Act.put, List.setIfInBounds_toArray, List.set_cons_zero, List.set_cons_succ])
    refine takeU (i := 20) (dst := some 25) rfl rfl (by kernel_rfl) (by kernel_rfl) (by kernel_rfl) (fun _ _ _ h => h) rfl hH rfl ?_
    (try simp only [Act.put, List.setIfInBounds_toArray, List.set_cons_zero, List.set_cons_succ])
    refine takeU (i := 21) (dst := some 26) rfl rfl (by kernel_rfl) (by kernel_rfl) (by kernel_rfl) (fun _ _ _ h => h) rfl hH rfl ?_
    (try simp only [Act.put, List.setIfInBounds_toArray, List.set_cons_zero, List.set_cons_succ])
    refine takeH (i := 22) (dst := some 27) (v := ?v7) rfl rfl (by kernel_rfl) (by kernel_rfl) (by kernel_rfl) (fun _ _ _ h => h) rfl ?hy7 hH rfl ?rest7
    case hy7 => (intro W hW; have q0 := hW.geo.1; have q1 := hW.geo.2.1; have q2 := hW.geo.2.2.1; have q3 := hW.head.c0; clear hW; go_simp; try with_reducible rfl)
    (try simp only [Act.put, List.setIfInBounds_toArray, List.set_cons_zero, List.set_cons_succ])
    refine takeH (i := 23) (dst := some 4) (v := ?v8) rfl rfl (by kernel_rfl) (by kernel_rfl) (by kernel_rfl) (fun _ _ _ h => h) rfl ?hy8 hH rfl ?rest8
    case hy8 => (intro W hW; have q0 := hW.geo.1; have q1 := hW.geo.2.1; have q2 := hW.geo.2.2.1; have q3 := hW.head.c0; clear hW; go_simp; try with_reducible rfl)
    (try simp only [Act.put, List.setIfInBounds_toArray, List.set_cons_zero, List.set_cons_succ])
    refine wpAnyH_done (by kernel_rfl) ?_ _
    clear hH
    go_wp2
    go_ret
    exact ⟨rfl, m1.geo.2.2.2⟩
  · obtain ⟨hok, hno0, hnon⟩ := numB_ok hnb
    rw [hnb] at NB
    obtain ⟨ke, kl⟩ := kbl_of hok
    have hbx := hok.box
    have hk2 := ksl_le no
    have KB : ∀ W, RW w a i n no bl sl W → Calls Tryz.prog 104 #[.agg #[.int .i64 a, .int .i64 i, .int .i64 n]] W fun e w' => e = .returned (.int .i64 (1 + i / 4)) ∧ RW w a i n no bl sl w' :=
      fun W hW => (keptBlocks_any a i n W hok).mono fun _ _ ⟨h1, h2⟩ => ⟨h1, hW.up h2⟩
    have CV1 : ∀ W, RW w a i n no bl sl W → Calls Tryz.prog 103 #[.slice (some ⟨w.heap.size + 1, 1, none⟩) 16 16, .int .i64 (1 + i / 4), .int .i64 a] W fun e w' => e = .returned (.bool (covB bl (kbl i) a.toNat)) ∧ RW w a i n no bl sl w' := by
      intro W hW
      have h := covers_any (some ⟨w.heap.size + 1, 1, none⟩) bl 16 (kbl i) a.toNat W hW.head.srcB (by omega) (by omega) (by omega)
      rw [hb, ← ke, show ((a.toNat : Nat) : Int) = a by omega] at h
      exact h.mono fun _ _ ⟨h1, d, h2⟩ => ⟨h1, by rw [h2]; exact hW.up (below_drewN (Below.refl _ _) d)⟩
    have KS : ∀ W, RW w a i n no bl sl W → Calls Tryz.prog 105 #[.int .i64 no] W fun e w' => e = .returned (.int .i64 (ksl no : Nat)) ∧ RW w a i n no bl sl w' :=
      fun W hW => (keptSlots_any no W).mono fun _ _ ⟨h1, h2⟩ => ⟨h1, by rw [h2]; exact hW⟩
    have CV2 : ∀ W, RW w a i n no bl sl W → Calls Tryz.prog 103 #[.slice (some ⟨w.heap.size + 1, 17, none⟩) 8 8, .int .i64 (ksl no : Nat), .int .i64 i] W fun e w' => e = .returned (.bool (covB sl (ksl no) i.toNat)) ∧ RW w a i n no bl sl w' := by
      intro W hW
      have h := covers_any (some ⟨w.heap.size + 1, 17, none⟩) sl 8 (ksl no) i.toNat W hW.head.srcS (by omega) (by omega) (by omega)
      rw [hs, show ((i.toNat : Nat) : Int) = i by omega] at h
      exact h.mono fun _ _ ⟨h1, d, h2⟩ => ⟨h1, by rw [h2]; exact hW.up (below_drewN (Below.refl _ _) d)⟩
    clear hnb hok hno0 hnon ke kl hbx hk2
    generalize covB bl (kbl i) a.toNat = c1 at CV1 ⊢
    generalize covB sl (ksl no) i.toNat = c2 at CV2 ⊢
    generalize ksl no = k2 at KS CV2
    cases c1
    · go_enter Tryz.func65, Tryz.ntmps65
      go_wp2_with fail
      refine wp_region_held_drew (S := (fun W => RW w a i n no bl sl W)) (by kernel_rfl) RD (fun hH => ?_)
      refine takeH (i := 0) (dst := some 5) (v := ?v9) rfl rfl (by kernel_rfl) (by kernel_rfl) (by kernel_rfl) (fun _ _ _ h => h) rfl ?hy9 hH rfl ?rest9
      case hy9 => (intro W hW; have q0 := hW.geo.1; have q1 := hW.geo.2.1; have q2 := hW.geo.2.2.1; have q3 := hW.head.c0; clear hW; go_simp; try with_reducible rfl)
      (try simp only [Act.put, List.setIfInBounds_toArray, List.set_cons_zero, List.set_cons_succ])
      refine takeH (i := 1) (dst := some 6) (v := ?v10) rfl rfl (by kernel_rfl) (by kernel_rfl) (by kernel_rfl) (fun _ _ _ h => h) rfl ?hy10 hH rfl ?rest10
      case hy10 => (intro W hW; have q0 := hW.geo.1; have q1 := hW.geo.2.1; have q2 := hW.geo.2.2.1; have q3 := hW.head.c0; clear hW; go_simp; try with_reducible rfl)
      (try simp only [Act.put, List.setIfInBounds_toArray, List.set_cons_zero, List.set_cons_succ])
      refine takeH (i := 2) (dst := some 7) (v := ?v11) rfl rfl (by kernel_rfl) (by kernel_rfl) (by kernel_rfl) (fun _ _ _ h => h) rfl ?hy11 hH rfl ?rest11
      case hy11 => (intro W hW; have q0 := hW.geo.1; have q1 := hW.geo.2.1; have q2 := hW.geo.2.2.1; have q3 := hW.head.c0; clear hW; go_simp; try with_reducible rfl)
      (try simp only [Act.put, List.setIfInBounds_toArray, List.set_cons_zero, List.set_cons_succ])
      refine callH (i := 3) { dst := some 8, op := Go.Op.call { callee := Go.Callee.value (Go.Operand.func 102), args := #[Go.Operand.tmp 5, Go.Operand.tmp 7], argTypes := #[23, 3] }, type := 4, pos := "group.go:78", after := #[{ on := 0, ground := Go.Ground.data }, { on := 2, ground := Go.Ground.data }], guard := none } (by kernel_rfl) rfl rfl (fun K hK => ?_)
      go_simp
      refine (NB _ hH).mono ?_
      rintro e v1 ⟨rfl, m1⟩
      clear hH
      refine hK.out _ _ m1 (fun hH => ?_)
      clear hK K
      (try simp only [Act.put, List.setIfInBounds_toArray, List.set_cons_zero, List.set_cons_succ])
      refine takeH (i := 4) (dst := some 9) (v := ?v12) rfl rfl (by kernel_rfl) (by kernel_rfl) (by kernel_rfl) (fun _ _ _ h => h) rfl ?hy12 hH rfl ?rest12
      case hy12 => (intro W hW; have q0 := hW.geo.1; have q1 := hW.geo.2.1; have q2 := hW.geo.2.2.1; have q3 := hW.head.c0; clear hW; go_simp; try with_reducible rfl)
      (try simp only [Act.put, List.setIfInBounds_toArray, List.set_cons_zero, List.set_cons_succ])
      refine takeH (i := 5) (dst := some 10) (v := ?v13) rfl rfl (by kernel_rfl) (by kernel_rfl) (by kernel_rfl) (fun _ _ _ h => h) rfl ?hy13 hH rfl ?rest13
      case hy13 => (intro W hW; have q0 := hW.geo.1; have q1 := hW.geo.2.1; have q2 := hW.geo.2.2.1; have q3 := hW.head.c0; clear hW; go_simp; try with_reducible rfl)
      (try simp only [Act.put, List.setIfInBounds_toArray, List.set_cons_zero, List.set_cons_succ])
      refine takeH (i := 6) (dst := some 11) (v := ?v14) rfl rfl (by kernel_rfl) (by kernel_rfl) (by kernel_rfl) (fun _ _ _ h => h) rfl ?hy14 hH rfl ?rest14
      case hy14 => (intro W hW; have q0 := hW.geo.1; have q1 := hW.geo.2.1; have q2 := hW.geo.2.2.1; have q3 := hW.head.c0; clear hW; go_simp; try with_reducible rfl)
      (try simp only [Act.put, List.setIfInBounds_toArray, List.set_cons_zero, List.set_cons_succ])
      refine takeH (i := 7) (dst := some 12) (v := ?v15) rfl rfl (by kernel_rfl) (by kernel_rfl) (by kernel_rfl) (fun _ _ _ h => h) rfl ?hy15 hH rfl ?rest15
      case hy15 => (intro W hW; have q0 := hW.geo.1; have q1 := hW.geo.2.1; have q2 := hW.geo.2.2.1; have q3 := hW.head.c0; clear hW; go_simp; try with_reducible rfl)
      (try simp only [Act.put, List.setIfInBounds_toArray, List.set_cons_zero, List.set_cons_succ])
      refine takeH (i := 9) (dst := some 14) (v := ?v16) rfl rfl (by kernel_rfl) (by kernel_rfl) (by kernel_rfl) (fun _ _ _ h => h) rfl ?hy16 hH rfl ?rest16
      case hy16 => (intro W hW; have q0 := hW.geo.1; have q1 := hW.geo.2.1; have q2 := hW.geo.2.2.1; have q3 := hW.head.c0; clear hW; go_simp; try with_reducible rfl)
      (try simp only [Act.put, List.setIfInBounds_toArray, List.set_cons_zero, List.set_cons_succ])
      refine takeH (i := 10) (dst := some 15) (v := ?v17) rfl rfl (by kernel_rfl) (by kernel_rfl) (by kernel_rfl) (fun _ _ _ h => h) rfl ?hy17 hH rfl ?rest17
      case hy17 => (intro W hW; have q0 := hW.geo.1; have q1 := hW.geo.2.1; have q2 := hW.geo.2.2.1; have q3 := hW.head.c0; clear hW; go_simp; try with_reducible rfl)
      (try simp only [Act.put, List.setIfInBounds_toArray, List.set_cons_zero, List.set_cons_succ])
      refine callH (i := 8) { dst := some 13, op := Go.Op.call { callee := Go.Callee.value (Go.Operand.func 104), args := #[Go.Operand.tmp 12], argTypes := #[23] }, type := 3, pos := "group.go:79", after := #[{ on := 7, ground := Go.Ground.data }, { on := 4, ground := Go.Ground.chain }, { on := 4, ground := Go.Ground.guard }], guard := some (4, true) } (by kernel_rfl) rfl rfl (fun K hK => ?_)
      go_simp
      refine (KB _ hH).mono ?_
      rintro e v2 ⟨rfl, m2⟩
      clear hH
      refine hK.out _ _ m2 (fun hH => ?_)
      clear hK K
      (try simp only [Act.put, List.setIfInBounds_toArray, List.set_cons_zero, List.set_cons_succ])
      refine callH (i := 11) { dst := some 16, op := Go.Op.call { callee := Go.Callee.value (Go.Operand.func 103), args := #[Go.Operand.tmp 11, Go.Operand.tmp 13, Go.Operand.tmp 15], argTypes := #[42, 3, 3] }, type := 4, pos := "group.go:79", after := #[{ on := 6, ground := Go.Ground.data }, { on := 8, ground := Go.Ground.data }, { on := 10, ground := Go.Ground.data }, { on := 8, ground := Go.Ground.chain }, { on := 4, ground := Go.Ground.guard }], guard := some (4, true) } (by kernel_rfl) rfl rfl (fun K hK => ?_)
      go_simp
      refine (CV1 _ hH).mono ?_
      rintro e v3 ⟨rfl, m3⟩
      clear hH
      refine hK.out _ _ m3 (fun hH => ?_)
      clear hK K
      (try simp only [Act.put, List.setIfInBounds_toArray, List.set_cons_zero, List.set_cons_succ])
      refine takeH (i := 12) (dst := some 17) (v := ?v18) rfl rfl (by kernel_rfl) (by kernel_rfl) (by kernel_rfl) (fun _ _ _ h => h) rfl ?hy18 hH rfl ?rest18
      case hy18 => (intro W hW; have q0 := hW.geo.1; have q1 := hW.geo.2.1; have q2 := hW.geo.2.2.1; have q3 := hW.head.c0; clear hW; go_simp; try with_reducible rfl)
      (try simp only [Act.put, List.setIfInBounds_toArray, List.set_cons_zero, List.set_cons_succ])
      refine takeH (i := 13) (dst := some 18) (v := ?v19) rfl rfl (by kernel_rfl) (by kernel_rfl) (by kernel_rfl) (fun _ _ _ h => h) rfl ?hy19 hH rfl ?rest19
      case hy19 => (intro W hW; have q0 := hW.geo.1; have q1 := hW.geo.2.1; have q2 := hW.geo.2.2.1; have q3 := hW.head.c0; clear hW; go_simp; try with_reducible rfl)
      (try simp only [Act.put, List.setIfInBounds_toArray, List.set_cons_zero, List.set_cons_succ])
      refine takeU (i := 14) (dst := some 19) rfl rfl (by kernel_rfl) (by kernel_rfl) (by kernel_rfl) (fun _ _ _ h => h) rfl hH rfl ?_
      (try simp only [Act.put, List.setIfInBounds_toArray, List.set_cons_zero, List.set_cons_succ])
      refine takeU (i := 15) (dst := some 20) rfl rfl (by kernel_rfl) (by kernel_rfl) (by kernel_rfl) (fun _ _ _ h => h) rfl hH rfl ?_
      (try simp only [Act.put, List.setIfInBounds_toArray, List.set_cons_zero, List.set_cons_succ])
      refine takeU (i := 16) (dst := some 21) rfl rfl (by kernel_rfl) (by kernel_rfl) (by kernel_rfl) (fun _ _ _ h => h) rfl hH rfl ?_
      (try simp only [Act.put, List.setIfInBounds_toArray, List.set_cons_zero, List.set_cons_succ])
      refine takeU (i := 17) (dst := some 22) rfl rfl (by kernel_rfl) (by kernel_rfl) (by kernel_rfl) (fun _ _ _ h => h) rfl hH rfl ?_
      (try simp only [Act.put, List.setIfInBounds_toArray, List.set_cons_zero, List.set_cons_succ])
      refine takeU (i := 18) (dst := some 23) rfl rfl (by kernel_rfl) (by kernel_rfl) (by kernel_rfl) (fun _ _ _ h => h) rfl hH rfl ?_
      (try simp only [Act.put, List.setIfInBounds_toArray, List.set_cons_zero, List.set_cons_succ])
      refine takeU (i := 19) (dst := some 24) rfl rfl (by kernel_rfl) (by kernel_rfl) (by kernel_rfl) (fun _ _ _ h => h) rfl hH rfl ?_
      (try simp only [Act.put, List.setIfInBounds_toArray, List.set_cons_zero, List.set_cons_succ])
      refine takeU (i := 20) (dst := some 25) rfl rfl (by kernel_rfl) (by kernel_rfl) (by kernel_rfl) (fun _ _ _ h => h) rfl hH rfl ?_
      (try simp only [Act.put, List.setIfInBounds_toArray, List.set_cons_zero, List.set_cons_succ])
      refine takeU (i := 21) (dst := some 26) rfl rfl (by kernel_rfl) (by kernel_rfl) (by kernel_rfl) (fun _ _ _ h => h) rfl hH rfl ?_
      (try simp only [Act.put, List.setIfInBounds_toArray, List.set_cons_zero, List.set_cons_succ])
      refine takeH (i := 22) (dst := some 27) (v := ?v20) rfl rfl (by kernel_rfl) (by kernel_rfl) (by kernel_rfl) (fun _ _ _ h => h) rfl ?hy20 hH rfl ?rest20
      case hy20 => (intro W hW; have q0 := hW.geo.1; have q1 := hW.geo.2.1; have q2 := hW.geo.2.2.1; have q3 := hW.head.c0; clear hW; go_simp; try with_reducible rfl)
      (try simp only [Act.put, List.setIfInBounds_toArray, List.set_cons_zero, List.set_cons_succ])
      refine takeH (i := 23) (dst := some 4) (v := ?v21) rfl rfl (by kernel_rfl) (by kernel_rfl) (by kernel_rfl) (fun _ _ _ h => h) rfl ?hy21 hH rfl ?rest21
      case hy21 => (intro W hW; have q0 := hW.geo.1; have q1 := hW.geo.2.1; have q2 := hW.geo.2.2.1; have q3 := hW.head.c0; clear hW; go_simp; try with_reducible rfl)
      (try simp only [Act.put, List.setIfInBounds_toArray, List.set_cons_zero, List.set_cons_succ])
      refine wpAnyH_done (by kernel_rfl) ?_ _
      clear hH
      go_wp2
      go_ret
      exact ⟨rfl, m3.geo.2.2.2⟩
    · go_enter Tryz.func65, Tryz.ntmps65
      go_wp2_with fail
      refine wp_region_held_drew (S := (fun W => RW w a i n no bl sl W)) (by kernel_rfl) RD (fun hH => ?_)
      refine takeH (i := 0) (dst := some 5) (v := ?v22) rfl rfl (by kernel_rfl) (by kernel_rfl) (by kernel_rfl) (fun _ _ _ h => h) rfl ?hy22 hH rfl ?rest22
      case hy22 => (intro W hW; have q0 := hW.geo.1; have q1 := hW.geo.2.1; have q2 := hW.geo.2.2.1; have q3 := hW.head.c0; clear hW; go_simp; try with_reducible rfl)
      (try simp only [Act.put, List.setIfInBounds_toArray, List.set_cons_zero, List.set_cons_succ])
      refine takeH (i := 1) (dst := some 6) (v := ?v23) rfl rfl (by kernel_rfl) (by kernel_rfl) (by kernel_rfl) (fun _ _ _ h => h) rfl ?hy23 hH rfl ?rest23
      case hy23 => (intro W hW; have q0 := hW.geo.1; have q1 := hW.geo.2.1; have q2 := hW.geo.2.2.1; have q3 := hW.head.c0; clear hW; go_simp; try with_reducible rfl)
      (try simp only [Act.put, List.setIfInBounds_toArray, List.set_cons_zero, List.set_cons_succ])
      refine takeH (i := 2) (dst := some 7) (v := ?v24) rfl rfl (by kernel_rfl) (by kernel_rfl) (by kernel_rfl) (fun _ _ _ h => h) rfl ?hy24 hH rfl ?rest24
      case hy24 => (intro W hW; have q0 := hW.geo.1; have q1 := hW.geo.2.1; have q2 := hW.geo.2.2.1; have q3 := hW.head.c0; clear hW; go_simp; try with_reducible rfl)
      (try simp only [Act.put, List.setIfInBounds_toArray, List.set_cons_zero, List.set_cons_succ])
      refine callH (i := 3) { dst := some 8, op := Go.Op.call { callee := Go.Callee.value (Go.Operand.func 102), args := #[Go.Operand.tmp 5, Go.Operand.tmp 7], argTypes := #[23, 3] }, type := 4, pos := "group.go:78", after := #[{ on := 0, ground := Go.Ground.data }, { on := 2, ground := Go.Ground.data }], guard := none } (by kernel_rfl) rfl rfl (fun K hK => ?_)
      go_simp
      refine (NB _ hH).mono ?_
      rintro e v1 ⟨rfl, m1⟩
      clear hH
      refine hK.out _ _ m1 (fun hH => ?_)
      clear hK K
      (try simp only [Act.put, List.setIfInBounds_toArray, List.set_cons_zero, List.set_cons_succ])
      refine takeH (i := 4) (dst := some 9) (v := ?v25) rfl rfl (by kernel_rfl) (by kernel_rfl) (by kernel_rfl) (fun _ _ _ h => h) rfl ?hy25 hH rfl ?rest25
      case hy25 => (intro W hW; have q0 := hW.geo.1; have q1 := hW.geo.2.1; have q2 := hW.geo.2.2.1; have q3 := hW.head.c0; clear hW; go_simp; try with_reducible rfl)
      (try simp only [Act.put, List.setIfInBounds_toArray, List.set_cons_zero, List.set_cons_succ])
      refine takeH (i := 5) (dst := some 10) (v := ?v26) rfl rfl (by kernel_rfl) (by kernel_rfl) (by kernel_rfl) (fun _ _ _ h => h) rfl ?hy26 hH rfl ?rest26
      case hy26 => (intro W hW; have q0 := hW.geo.1; have q1 := hW.geo.2.1; have q2 := hW.geo.2.2.1; have q3 := hW.head.c0; clear hW; go_simp; try with_reducible rfl)
      (try simp only [Act.put, List.setIfInBounds_toArray, List.set_cons_zero, List.set_cons_succ])
      refine takeH (i := 6) (dst := some 11) (v := ?v27) rfl rfl (by kernel_rfl) (by kernel_rfl) (by kernel_rfl) (fun _ _ _ h => h) rfl ?hy27 hH rfl ?rest27
      case hy27 => (intro W hW; have q0 := hW.geo.1; have q1 := hW.geo.2.1; have q2 := hW.geo.2.2.1; have q3 := hW.head.c0; clear hW; go_simp; try with_reducible rfl)
      (try simp only [Act.put, List.setIfInBounds_toArray, List.set_cons_zero, List.set_cons_succ])
      refine takeH (i := 7) (dst := some 12) (v := ?v28) rfl rfl (by kernel_rfl) (by kernel_rfl) (by kernel_rfl) (fun _ _ _ h => h) rfl ?hy28 hH rfl ?rest28
      case hy28 => (intro W hW; have q0 := hW.geo.1; have q1 := hW.geo.2.1; have q2 := hW.geo.2.2.1; have q3 := hW.head.c0; clear hW; go_simp; try with_reducible rfl)
      (try simp only [Act.put, List.setIfInBounds_toArray, List.set_cons_zero, List.set_cons_succ])
      refine takeH (i := 9) (dst := some 14) (v := ?v29) rfl rfl (by kernel_rfl) (by kernel_rfl) (by kernel_rfl) (fun _ _ _ h => h) rfl ?hy29 hH rfl ?rest29
      case hy29 => (intro W hW; have q0 := hW.geo.1; have q1 := hW.geo.2.1; have q2 := hW.geo.2.2.1; have q3 := hW.head.c0; clear hW; go_simp; try with_reducible rfl)
      (try simp only [Act.put, List.setIfInBounds_toArray, List.set_cons_zero, List.set_cons_succ])
      refine takeH (i := 10) (dst := some 15) (v := ?v30) rfl rfl (by kernel_rfl) (by kernel_rfl) (by kernel_rfl) (fun _ _ _ h => h) rfl ?hy30 hH rfl ?rest30
      case hy30 => (intro W hW; have q0 := hW.geo.1; have q1 := hW.geo.2.1; have q2 := hW.geo.2.2.1; have q3 := hW.head.c0; clear hW; go_simp; try with_reducible rfl)
      (try simp only [Act.put, List.setIfInBounds_toArray, List.set_cons_zero, List.set_cons_succ])
      refine callH (i := 8) { dst := some 13, op := Go.Op.call { callee := Go.Callee.value (Go.Operand.func 104), args := #[Go.Operand.tmp 12], argTypes := #[23] }, type := 3, pos := "group.go:79", after := #[{ on := 7, ground := Go.Ground.data }, { on := 4, ground := Go.Ground.chain }, { on := 4, ground := Go.Ground.guard }], guard := some (4, true) } (by kernel_rfl) rfl rfl (fun K hK => ?_)
      go_simp
      refine (KB _ hH).mono ?_
      rintro e v2 ⟨rfl, m2⟩
      clear hH
      refine hK.out _ _ m2 (fun hH => ?_)
      clear hK K
      (try simp only [Act.put, List.setIfInBounds_toArray, List.set_cons_zero, List.set_cons_succ])
      refine callH (i := 11) { dst := some 16, op := Go.Op.call { callee := Go.Callee.value (Go.Operand.func 103), args := #[Go.Operand.tmp 11, Go.Operand.tmp 13, Go.Operand.tmp 15], argTypes := #[42, 3, 3] }, type := 4, pos := "group.go:79", after := #[{ on := 6, ground := Go.Ground.data }, { on := 8, ground := Go.Ground.data }, { on := 10, ground := Go.Ground.data }, { on := 8, ground := Go.Ground.chain }, { on := 4, ground := Go.Ground.guard }], guard := some (4, true) } (by kernel_rfl) rfl rfl (fun K hK => ?_)
      go_simp
      refine (CV1 _ hH).mono ?_
      rintro e v3 ⟨rfl, m3⟩
      clear hH
      refine hK.out _ _ m3 (fun hH => ?_)
      clear hK K
      (try simp only [Act.put, List.setIfInBounds_toArray, List.set_cons_zero, List.set_cons_succ])
      refine takeH (i := 12) (dst := some 17) (v := ?v31) rfl rfl (by kernel_rfl) (by kernel_rfl) (by kernel_rfl) (fun _ _ _ h => h) rfl ?hy31 hH rfl ?rest31
      case hy31 => (intro W hW; have q0 := hW.geo.1; have q1 := hW.geo.2.1; have q2 := hW.geo.2.2.1; have q3 := hW.head.c0; clear hW; go_simp; try with_reducible rfl)
      (try simp only [Act.put, List.setIfInBounds_toArray, List.set_cons_zero, List.set_cons_succ])
      refine takeH (i := 13) (dst := some 18) (v := ?v32) rfl rfl (by kernel_rfl) (by kernel_rfl) (by kernel_rfl) (fun _ _ _ h => h) rfl ?hy32 hH rfl ?rest32
      case hy32 => (intro W hW; have q0 := hW.geo.1; have q1 := hW.geo.2.1; have q2 := hW.geo.2.2.1; have q3 := hW.head.c0; clear hW; go_simp; try with_reducible rfl)
      (try simp only [Act.put, List.setIfInBounds_toArray, List.set_cons_zero, List.set_cons_succ])
      refine takeH (i := 14) (dst := some 19) (v := ?v33) rfl rfl (by kernel_rfl) (by kernel_rfl) (by kernel_rfl) (fun _ _ _ h => h) rfl ?hy33 hH rfl ?rest33
      case hy33 => (intro W hW; have q0 := hW.geo.1; have q1 := hW.geo.2.1; have q2 := hW.geo.2.2.1; have q3 := hW.head.c0; clear hW; go_simp; try with_reducible rfl)
      (try simp only [Act.put, List.setIfInBounds_toArray, List.set_cons_zero, List.set_cons_succ])
      refine takeH (i := 15) (dst := some 20) (v := ?v34) rfl rfl (by kernel_rfl) (by kernel_rfl) (by kernel_rfl) (fun _ _ _ h => h) rfl ?hy34 hH rfl ?rest34
      case hy34 => (intro W hW; have q0 := hW.geo.1; have q1 := hW.geo.2.1; have q2 := hW.geo.2.2.1; have q3 := hW.head.c0; clear hW; go_simp; try with_reducible rfl)
      (try simp only [Act.put, List.setIfInBounds_toArray, List.set_cons_zero, List.set_cons_succ])
      refine takeH (i := 16) (dst := some 21) (v := ?v35) rfl rfl (by kernel_rfl) (by kernel_rfl) (by kernel_rfl) (fun _ _ _ h => h) rfl ?hy35 hH rfl ?rest35
      case hy35 => (intro W hW; have q0 := hW.geo.1; have q1 := hW.geo.2.1; have q2 := hW.geo.2.2.1; have q3 := hW.head.c0; clear hW; go_simp; try with_reducible rfl)
      (try simp only [Act.put, List.setIfInBounds_toArray, List.set_cons_zero, List.set_cons_succ])
      refine takeH (i := 17) (dst := some 22) (v := ?v36) rfl rfl (by kernel_rfl) (by kernel_rfl) (by kernel_rfl) (fun _ _ _ h => h) rfl ?hy36 hH rfl ?rest36
      case hy36 => (intro W hW; have q0 := hW.geo.1; have q1 := hW.geo.2.1; have q2 := hW.geo.2.2.1; have q3 := hW.head.c0; clear hW; go_simp; try with_reducible rfl)
      (try simp only [Act.put, List.setIfInBounds_toArray, List.set_cons_zero, List.set_cons_succ])
      refine takeH (i := 19) (dst := some 24) (v := ?v37) rfl rfl (by kernel_rfl) (by kernel_rfl) (by kernel_rfl) (fun _ _ _ h => h) rfl ?hy37 hH rfl ?rest37
      case hy37 => (intro W hW; have q0 := hW.geo.1; have q1 := hW.geo.2.1; have q2 := hW.geo.2.2.1; have q3 := hW.head.c0; clear hW; go_simp; try with_reducible rfl)
      (try simp only [Act.put, List.setIfInBounds_toArray, List.set_cons_zero, List.set_cons_succ])
      refine takeH (i := 20) (dst := some 25) (v := ?v38) rfl rfl (by kernel_rfl) (by kernel_rfl) (by kernel_rfl) (fun _ _ _ h => h) rfl ?hy38 hH rfl ?rest38
      case hy38 => (intro W hW; have q0 := hW.geo.1; have q1 := hW.geo.2.1; have q2 := hW.geo.2.2.1; have q3 := hW.head.c0; clear hW; go_simp; try with_reducible rfl)
      (try simp only [Act.put, List.setIfInBounds_toArray, List.set_cons_zero, List.set_cons_succ])
      refine callH (i := 18) { dst := some 23, op := Go.Op.call { callee := Go.Callee.value (Go.Operand.func 105), args := #[Go.Operand.tmp 22], argTypes := #[3] }, type := 3, pos := "group.go:80", after := #[{ on := 17, ground := Go.Ground.data }, { on := 13, ground := Go.Ground.chain }, { on := 13, ground := Go.Ground.guard }], guard := some (13, true) } (by kernel_rfl) rfl rfl (fun K hK => ?_)
      go_simp
      refine (KS _ hH).mono ?_
      rintro e v4 ⟨rfl, m4⟩
      clear hH
      refine hK.out _ _ m4 (fun hH => ?_)
      clear hK K
      (try simp only [Act.put, List.setIfInBounds_toArray, List.set_cons_zero, List.set_cons_succ])
      refine callH (i := 21) { dst := some 26, op := Go.Op.call { callee := Go.Callee.value (Go.Operand.func 103), args := #[Go.Operand.tmp 20, Go.Operand.tmp 23, Go.Operand.tmp 25], argTypes := #[42, 3, 3] }, type := 4, pos := "group.go:80", after := #[{ on := 15, ground := Go.Ground.data }, { on := 18, ground := Go.Ground.data }, { on := 20, ground := Go.Ground.data }, { on := 18, ground := Go.Ground.chain }, { on := 13, ground := Go.Ground.guard }], guard := some (13, true) } (by kernel_rfl) rfl rfl (fun K hK => ?_)
      go_simp
      refine (CV2 _ hH).mono ?_
      rintro e v5 ⟨rfl, m5⟩
      clear hH
      refine hK.out _ _ m5 (fun hH => ?_)
      clear hK K
      (try simp only [Act.put, List.setIfInBounds_toArray, List.set_cons_zero, List.set_cons_succ])
      refine takeH (i := 22) (dst := some 27) (v := ?v39) rfl rfl (by kernel_rfl) (by kernel_rfl) (by kernel_rfl) (fun _ _ _ h => h) rfl ?hy39 hH rfl ?rest39
      case hy39 => (intro W hW; have q0 := hW.geo.1; have q1 := hW.geo.2.1; have q2 := hW.geo.2.2.1; have q3 := hW.head.c0; clear hW; go_simp; try with_reducible rfl)
      (try simp only [Act.put, List.setIfInBounds_toArray, List.set_cons_zero, List.set_cons_succ])
      refine takeH (i := 23) (dst := some 4) (v := ?v40) rfl rfl (by kernel_rfl) (by kernel_rfl) (by kernel_rfl) (fun _ _ _ h => h) rfl ?hy40 hH rfl ?rest40
      case hy40 => (intro W hW; have q0 := hW.geo.1; have q1 := hW.geo.2.1; have q2 := hW.geo.2.2.1; have q3 := hW.head.c0; clear hW; go_simp; try with_reducible rfl)
      (try simp only [Act.put, List.setIfInBounds_toArray, List.set_cons_zero, List.set_cons_succ])
      refine wpAnyH_done (by kernel_rfl) ?_ _
      clear hH
      go_wp2
      go_ret
      exact ⟨by simp, m5.geo.2.2.2⟩
end Go.Proofs.YtkiifmnmeikdlaaGreatDoor
/- group.Free, FindBlock, FindSlot. -/
namespace Go.Proofs.YtkiifmnmeikdlaaGreatDoor
open Go.RowKit
set_option maxRecDepth 100000
theorem rgB_ok {a i n no : Int} {bl sl : List UInt8} (h : rgB a i n no bl sl = true) : okG a i n ∧ 0 ≤ no ∧ no < n := by
  unfold rgB at h
  simp only [Bool.and_eq_true] at h
  exact numB_ok h.1
/-- How many are free of the first n. -/
def frN (l : List UInt8) (n : Int) : Int := n - (cnt (gb l) n.toNat : Nat)
attribute [local go_sem] wrapI
set_option maxHeartbeats 4000000 in
theorem free_yes (a i n no : Int) (bl sl : List UInt8) (hb : bl.length = 16) (hs : sl.length = 8) (hr : rgB a i n no bl sl = true) (w : World) :
    Calls Tryz.prog 106 #[.agg #[.int .i64 a, .int .i64 i, .int .i64 n], .agg (hA no bl sl)] w fun e w' => e = .returned (.tuple #[.int .i64 (frN bl a), .int .i64 (frN sl i)]) ∧ Below w.heap.size w w' := by
  have R0 := RW.start w a i n no bl sl hb hs
  have RT := gright_any a i n no bl sl hb hs
  obtain ⟨hok, _, _⟩ := rgB_ok hr
  have hbx := hok.box
  rw [hr] at RT
  have CB : ∀ W, RW w a i n no bl sl W → Calls Tryz.prog 134 #[.slice (some ⟨w.heap.size + 1, 1, none⟩) 16 16, .int .i64 a] W fun e w' => e = .returned (.int .i64 (cnt (gb bl) a.toNat : Nat)) ∧ RW w a i n no bl sl w' := by
    intro W hW
    have h := count_any (some ⟨w.heap.size + 1, 1, none⟩) bl 16 a W hW.head.srcB (by omega)
    have e : bnd bl.length a = a.toNat := by have := bnd_of bl.length a; omega
    rw [e, hb] at h
    exact h.mono fun _ _ ⟨h1, d, h2⟩ => ⟨h1, by rw [h2]; exact hW.up (below_drewN (Below.refl _ _) d)⟩
  have CS : ∀ W, RW w a i n no bl sl W → Calls Tryz.prog 134 #[.slice (some ⟨w.heap.size + 1, 17, none⟩) 8 8, .int .i64 i] W fun e w' => e = .returned (.int .i64 (cnt (gb sl) i.toNat : Nat)) ∧ RW w a i n no bl sl w' := by
    intro W hW
    have h := count_any (some ⟨w.heap.size + 1, 17, none⟩) sl 8 i W hW.head.srcS (by omega)
    have e : bnd sl.length i = i.toNat := by have := bnd_of sl.length i; omega
    rw [e, hs] at h
    exact h.mono fun _ _ ⟨h1, d, h2⟩ => ⟨h1, by rw [h2]; exact hW.up (below_drewN (Below.refl _ _) d)⟩
  have c1 := cnt_le (gb bl) a.toNat
  have c2 := cnt_le (gb sl) i.toNat
  unfold frN
  generalize cnt (gb bl) a.toNat = n1 at *
  generalize cnt (gb sl) i.toNat = n2 at *
  have i1 : In64 (a - (n1 : Nat)) := ⟨by omega⟩
  have i2 : In64 (i - (n2 : Nat)) := ⟨by omega⟩
  have HR : Hid _ := R0
  clear R0 hr hok hbx c1 c2
  go_enter Tryz.func106, Tryz.ntmps106
  go_wp2_with (first | ((with_reducible show wpList _ _ _ ({ dst := _, op := Op.load 38 _, type := _, pos := _, after := _, guard := _ } :: _) _ _); refine wpList_load_head rfl _ rfl (HR.out.head) rfl ?_))
  refine (RT _).mono ?_
  rintro e w1 ⟨rfl, h1⟩
  have R1 := HR.out.up h1
  have RD : RW w a i n no bl sl w1.drew := R1.up (Below.refl _ _).drew
  clear R1 h1 HR RT
  go_wp2_with fail
  refine wp_region_held_drew (S := (fun W => RW w a i n no bl sl W)) (by kernel_rfl) RD (fun hH => ?_)
  refine takeH (i := 0) (dst := some 10) (v := ?v1) rfl rfl (by kernel_rfl) (by kernel_rfl) (by kernel_rfl) (fun _ _ _ h => h) rfl ?hy1 hH rfl ?rest1
  case hy1 => (intro W hW; have q0 := hW.geo.1; have q1 := hW.geo.2.1; have q2 := hW.geo.2.2.1; have q3 := hW.head.c0; clear hW; go_simp; try with_reducible rfl)
  (try simp only [Act.put, List.setIfInBounds_toArray, List.set_cons_zero, List.set_cons_succ])
  refine takeH (i := 1) (dst := some 11) (v := ?v2) rfl rfl (by kernel_rfl) (by kernel_rfl) (by kernel_rfl) (fun _ _ _ h => h) rfl ?hy2 hH rfl ?rest2
  case hy2 => (intro W hW; have q0 := hW.geo.1; have q1 := hW.geo.2.1; have q2 := hW.geo.2.2.1; have q3 := hW.head.c0; clear hW; go_simp; try with_reducible rfl)
  (try simp only [Act.put, List.setIfInBounds_toArray, List.set_cons_zero, List.set_cons_succ])
  refine takeH (i := 2) (dst := some 12) (v := ?v3) rfl rfl (by kernel_rfl) (by kernel_rfl) (by kernel_rfl) (fun _ _ _ h => h) rfl ?hy3 hH rfl ?rest3
  case hy3 => (intro W hW; have q0 := hW.geo.1; have q1 := hW.geo.2.1; have q2 := hW.geo.2.2.1; have q3 := hW.head.c0; clear hW; go_simp; try with_reducible rfl)
  (try simp only [Act.put, List.setIfInBounds_toArray, List.set_cons_zero, List.set_cons_succ])
  refine takeH (i := 3) (dst := some 13) (v := ?v4) rfl rfl (by kernel_rfl) (by kernel_rfl) (by kernel_rfl) (fun _ _ _ h => h) rfl ?hy4 hH rfl ?rest4
  case hy4 => (intro W hW; have q0 := hW.geo.1; have q1 := hW.geo.2.1; have q2 := hW.geo.2.2.1; have q3 := hW.head.c0; clear hW; go_simp; try with_reducible rfl)
  (try simp only [Act.put, List.setIfInBounds_toArray, List.set_cons_zero, List.set_cons_succ])
  refine takeH (i := 4) (dst := some 14) (v := ?v5) rfl rfl (by kernel_rfl) (by kernel_rfl) (by kernel_rfl) (fun _ _ _ h => h) rfl ?hy5 hH rfl ?rest5
  case hy5 => (intro W hW; have q0 := hW.geo.1; have q1 := hW.geo.2.1; have q2 := hW.geo.2.2.1; have q3 := hW.head.c0; clear hW; go_simp; try with_reducible rfl)
  (try simp only [Act.put, List.setIfInBounds_toArray, List.set_cons_zero, List.set_cons_succ])
  refine takeH (i := 5) (dst := some 15) (v := ?v6) rfl rfl (by kernel_rfl) (by kernel_rfl) (by kernel_rfl) (fun _ _ _ h => h) rfl ?hy6 hH rfl ?rest6
  case hy6 => (intro W hW; have q0 := hW.geo.1; have q1 := hW.geo.2.1; have q2 := hW.geo.2.2.1; have q3 := hW.head.c0; clear hW; go_simp; try with_reducible rfl)
  (try simp only [Act.put, List.setIfInBounds_toArray, List.set_cons_zero, List.set_cons_succ])
  refine takeH (i := 8) (dst := some 18) (v := ?v7) rfl rfl (by kernel_rfl) (by kernel_rfl) (by kernel_rfl) (fun _ _ _ h => h) rfl ?hy7 hH rfl ?rest7
  case hy7 => (intro W hW; have q0 := hW.geo.1; have q1 := hW.geo.2.1; have q2 := hW.geo.2.2.1; have q3 := hW.head.c0; clear hW; go_simp; try with_reducible rfl)
  (try simp only [Act.put, List.setIfInBounds_toArray, List.set_cons_zero, List.set_cons_succ])
  refine takeH (i := 9) (dst := some 19) (v := ?v8) rfl rfl (by kernel_rfl) (by kernel_rfl) (by kernel_rfl) (fun _ _ _ h => h) rfl ?hy8 hH rfl ?rest8
  case hy8 => (intro W hW; have q0 := hW.geo.1; have q1 := hW.geo.2.1; have q2 := hW.geo.2.2.1; have q3 := hW.head.c0; clear hW; go_simp; try with_reducible rfl)
  (try simp only [Act.put, List.setIfInBounds_toArray, List.set_cons_zero, List.set_cons_succ])
  refine takeH (i := 10) (dst := some 20) (v := ?v9) rfl rfl (by kernel_rfl) (by kernel_rfl) (by kernel_rfl) (fun _ _ _ h => h) rfl ?hy9 hH rfl ?rest9
  case hy9 => (intro W hW; have q0 := hW.geo.1; have q1 := hW.geo.2.1; have q2 := hW.geo.2.2.1; have q3 := hW.head.c0; clear hW; go_simp; try with_reducible rfl)
  (try simp only [Act.put, List.setIfInBounds_toArray, List.set_cons_zero, List.set_cons_succ])
  refine takeH (i := 11) (dst := some 21) (v := ?v10) rfl rfl (by kernel_rfl) (by kernel_rfl) (by kernel_rfl) (fun _ _ _ h => h) rfl ?hy10 hH rfl ?rest10
  case hy10 => (intro W hW; have q0 := hW.geo.1; have q1 := hW.geo.2.1; have q2 := hW.geo.2.2.1; have q3 := hW.head.c0; clear hW; go_simp; try with_reducible rfl)
  (try simp only [Act.put, List.setIfInBounds_toArray, List.set_cons_zero, List.set_cons_succ])
  refine takeH (i := 12) (dst := some 22) (v := ?v11) rfl rfl (by kernel_rfl) (by kernel_rfl) (by kernel_rfl) (fun _ _ _ h => h) rfl ?hy11 hH rfl ?rest11
  case hy11 => (intro W hW; have q0 := hW.geo.1; have q1 := hW.geo.2.1; have q2 := hW.geo.2.2.1; have q3 := hW.head.c0; clear hW; go_simp; try with_reducible rfl)
  (try simp only [Act.put, List.setIfInBounds_toArray, List.set_cons_zero, List.set_cons_succ])
  refine takeH (i := 13) (dst := some 23) (v := ?v12) rfl rfl (by kernel_rfl) (by kernel_rfl) (by kernel_rfl) (fun _ _ _ h => h) rfl ?hy12 hH rfl ?rest12
  case hy12 => (intro W hW; have q0 := hW.geo.1; have q1 := hW.geo.2.1; have q2 := hW.geo.2.2.1; have q3 := hW.head.c0; clear hW; go_simp; try with_reducible rfl)
  (try simp only [Act.put, List.setIfInBounds_toArray, List.set_cons_zero, List.set_cons_succ])
  refine callH (i := 6) { dst := some 16, op := Go.Op.call { callee := Go.Callee.value (Go.Operand.func 134), args := #[Go.Operand.tmp 13, Go.Operand.tmp 15], argTypes := #[42, 3] }, type := 3, pos := "group.go:93", after := #[{ on := 3, ground := Go.Ground.data }, { on := 5, ground := Go.Ground.data }], guard := none } (by kernel_rfl) rfl rfl (fun K hK => ?_)
  go_simp
  refine (CB _ hH).mono ?_
  rintro e v1 ⟨rfl, m1⟩
  clear hH
  refine hK.out _ _ m1 (fun hH => ?_)
  clear hK K
  (try simp only [Act.put, List.setIfInBounds_toArray, List.set_cons_zero, List.set_cons_succ])
  refine takeH (i := 7) (dst := some 17) (v := ?v13) rfl rfl (by kernel_rfl) (by kernel_rfl) (by kernel_rfl) (fun _ _ _ h => h) rfl ?hy13 hH rfl ?rest13
  case hy13 => (intro W hW; have q0 := hW.geo.1; have q1 := hW.geo.2.1; have q2 := hW.geo.2.2.1; have q3 := hW.head.c0; clear hW; go_simp; try with_reducible rfl)
  (try simp only [Act.put, List.setIfInBounds_toArray, List.set_cons_zero, List.set_cons_succ])
  refine callH (i := 14) { dst := some 24, op := Go.Op.call { callee := Go.Callee.value (Go.Operand.func 134), args := #[Go.Operand.tmp 21, Go.Operand.tmp 23], argTypes := #[42, 3] }, type := 3, pos := "group.go:93", after := #[{ on := 11, ground := Go.Ground.data }, { on := 13, ground := Go.Ground.data }, { on := 6, ground := Go.Ground.chain }], guard := none } (by kernel_rfl) rfl rfl (fun K hK => ?_)
  go_simp
  refine (CS _ hH).mono ?_
  rintro e v2 ⟨rfl, m2⟩
  clear hH
  refine hK.out _ _ m2 (fun hH => ?_)
  clear hK K
  (try simp only [Act.put, List.setIfInBounds_toArray, List.set_cons_zero, List.set_cons_succ])
  refine takeH (i := 15) (dst := some 25) (v := ?v14) rfl rfl (by kernel_rfl) (by kernel_rfl) (by kernel_rfl) (fun _ _ _ h => h) rfl ?hy14 hH rfl ?rest14
  case hy14 => (intro W hW; have q0 := hW.geo.1; have q1 := hW.geo.2.1; have q2 := hW.geo.2.2.1; have q3 := hW.head.c0; clear hW; go_simp; try with_reducible rfl)
  (try simp only [Act.put, List.setIfInBounds_toArray, List.set_cons_zero, List.set_cons_succ])
  refine takeH (i := 16) (dst := some 4) (v := ?v15) rfl rfl (by kernel_rfl) (by kernel_rfl) (by kernel_rfl) (fun _ _ _ h => h) rfl ?hy15 hH rfl ?rest15
  case hy15 => (intro W hW; have q0 := hW.geo.1; have q1 := hW.geo.2.1; have q2 := hW.geo.2.2.1; have q3 := hW.head.c0; clear hW; go_simp; try with_reducible rfl)
  (try simp only [Act.put, List.setIfInBounds_toArray, List.set_cons_zero, List.set_cons_succ])
  refine takeH (i := 17) (dst := some 5) (v := ?v16) rfl rfl (by kernel_rfl) (by kernel_rfl) (by kernel_rfl) (fun _ _ _ h => h) rfl ?hy16 hH rfl ?rest16
  case hy16 => (intro W hW; have q0 := hW.geo.1; have q1 := hW.geo.2.1; have q2 := hW.geo.2.2.1; have q3 := hW.head.c0; clear hW; go_simp; try with_reducible rfl)
  (try simp only [Act.put, List.setIfInBounds_toArray, List.set_cons_zero, List.set_cons_succ])
  refine wpAnyH_done (by kernel_rfl) ?_ _
  clear hH
  go_wp2
  go_ret2
  exact ⟨rfl, m2.geo.2.2.2⟩
end Go.Proofs.YtkiifmnmeikdlaaGreatDoor
/- turn and fill on the maps of a header. -/
namespace Go.Proofs.YtkiifmnmeikdlaaGreatDoor
open Go.RowKit
set_option maxRecDepth 100000
section
variable {w : World} {p : Nat} {no : Int} {bl sl : List UInt8}
theorem HeadAt.rowAt (h : HeadAt w p no bl sl) : RowAt w p 38 (hL no bl sl) := h.row
theorem hL_midB (hb : bl.length = 16) : ((hL no bl sl).drop 1).take 16 = bvs bl := by
  show (bvs bl ++ bvs sl).take 16 = bvs bl
  rw [List.take_append_of_le_length (by rw [bvs_length]; omega), List.take_of_length_le (by rw [bvs_length]; omega)]
theorem hL_midS (hb : bl.length = 16) (hs : sl.length = 8) : ((hL no bl sl).drop 17).take 8 = bvs sl := by
  show ((bvs bl ++ bvs sl).drop 16).take 8 = bvs sl
  rw [List.drop_append_of_le_length (by rw [bvs_length]; omega), List.drop_of_length_le (by rw [bvs_length]; omega), List.nil_append, List.take_of_length_le (by rw [bvs_length]; omega)]
theorem hL_putB (hb : bl.length = 16) (x : List UInt8) : (hL no bl sl).take 1 ++ bvs x ++ (hL no bl sl).drop 17 = hL no x sl := by
  show ([Value.int .i64 no] ++ bvs x) ++ (bvs bl ++ bvs sl).drop 16 = Value.int .i64 no :: (bvs x ++ bvs sl)
  rw [List.drop_append_of_le_length (by rw [bvs_length]; omega), List.drop_of_length_le (by rw [bvs_length]; omega)]
  simp
theorem hL_putS (hb : bl.length = 16) (hs : sl.length = 8) (x : List UInt8) : (hL no bl sl).take 17 ++ bvs x ++ (hL no bl sl).drop 25 = hL no bl x := by
  show (Value.int .i64 no :: (bvs bl ++ bvs sl).take 16 ++ bvs x) ++ (bvs bl ++ bvs sl).drop 24 = Value.int .i64 no :: (bvs bl ++ bvs x)
  rw [List.take_append_of_le_length (by rw [bvs_length]; omega), List.take_of_length_le (by rw [bvs_length]; omega), List.drop_of_length_le (by simp [bvs_length]; omega)]
  simp
theorem turnB_any (h : HeadAt w p no bl sl) (k : Nat) (on : Bool) (hk : k < 128) :
    Calls Tryz.prog 135 #[.slice (some ⟨p, 1, none⟩) 16 16, .int .i64 k, .bool on] w fun e w' => e = .returned (.tuple #[]) ∧ HeadAt w' p no (setb bl k on) sl ∧ Below p w w' := by
  have hb := h.lb
  have t := turn_any p 1 16 k 38 (hL no bl sl) bl on w h.rowAt (by rw [hb]; exact hL_midB hb) (by rw [hL_length hb h.ls, hb]; omega) (by omega) (by omega)
  rw [hb, hL_putB hb] at t
  exact t.mono fun _ _ ⟨h1, h2, h3⟩ => ⟨h1, ⟨h2, by rw [setb_length]; exact hb, h.ls⟩, h3⟩
theorem turnS_any (h : HeadAt w p no bl sl) (k : Nat) (on : Bool) (hk : k < 64) :
    Calls Tryz.prog 135 #[.slice (some ⟨p, 17, none⟩) 8 8, .int .i64 k, .bool on] w fun e w' => e = .returned (.tuple #[]) ∧ HeadAt w' p no bl (setb sl k on) ∧ Below p w w' := by
  have hb := h.lb
  have hs := h.ls
  have t := turn_any p 17 8 k 38 (hL no bl sl) sl on w h.rowAt (by rw [hs]; exact hL_midS hb hs) (by rw [hL_length hb hs, hs]; omega) (by omega) (by omega)
  rw [hs, hL_putS hb hs] at t
  exact t.mono fun _ _ ⟨h1, h2, h3⟩ => ⟨h1, ⟨h2, hb, by rw [setb_length]; exact hs⟩, h3⟩
theorem fillB_any (h : HeadAt w p no bl sl) (k : Nat) (hk : k ≤ 128) :
    Calls Tryz.prog 107 #[.slice (some ⟨p, 1, none⟩) 16 16, .int .i64 k] w fun e w' => e = .returned (.tuple #[]) ∧ HeadAt w' p no (fillb bl k) sl ∧ Below p w w' := by
  have hb := h.lb
  have t := fill_any p 1 16 k 38 (hL no bl sl) bl w h.rowAt (by rw [hb]; exact hL_midB hb) (by rw [hL_length hb h.ls, hb]; omega) (by omega) (by omega)
  rw [hb, hL_putB hb] at t
  exact t.mono fun _ _ ⟨h1, h2, h3⟩ => ⟨h1, ⟨h2, by rw [fillb_length]; exact hb, h.ls⟩, h3⟩
theorem fillS_any (h : HeadAt w p no bl sl) (k : Nat) (hk : k ≤ 64) :
    Calls Tryz.prog 107 #[.slice (some ⟨p, 17, none⟩) 8 8, .int .i64 k] w fun e w' => e = .returned (.tuple #[]) ∧ HeadAt w' p no bl (fillb sl k) ∧ Below p w w' := by
  have hb := h.lb
  have hs := h.ls
  have t := fill_any p 17 8 k 38 (hL no bl sl) sl w h.rowAt (by rw [hs]; exact hL_midS hb hs) (by rw [hL_length hb hs, hs]; omega) (by omega) (by omega)
  rw [hs, hL_putS hb hs] at t
  exact t.mono fun _ _ ⟨h1, h2, h3⟩ => ⟨h1, ⟨h2, hb, by rw [fillb_length]; exact hs⟩, h3⟩
end
end Go.Proofs.YtkiifmnmeikdlaaGreatDoor
