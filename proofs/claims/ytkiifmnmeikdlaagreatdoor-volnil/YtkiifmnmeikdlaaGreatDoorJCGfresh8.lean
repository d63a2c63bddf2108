/- group.Fresh. -/
import Derived.Test.YtkiifmnmeikdlaaGreatDoorJCSetG6
import Derived.Lib.BufferWrite
import Derived.Laws.Cover3
import Derived.Stop.BytesEq
import Derived.Deep.MidRow
import Derived.ChangeKeysEq
namespace Go.Proofs.YtkiifmnmeikdlaaGreatDoor
open Go.RowKit
set_option maxRecDepth 100000
/-- A shape, a place for the answer and a header lie where Fresh has laid them. -/
structure FW (w0 : World) (a i n no : Int) (bl sl : List UInt8) (q : Nat) (W : World) : Prop where
  geo : Lies w0 w0.heap.size a i n W
  res : HeadAt W (w0.heap.size + 1) 0 z16 z8
  head : HeadAt W q no bl sl
section
variable {w0 W W' : World} {a i n no : Int} {bl sl : List UInt8} {q : Nat}
theorem FW.below (h : FW w0 a i n no bl sl q W) {bl' sl' : List UInt8} (hb : Below q W W') (hq : w0.heap.size + 1 < q) (hh : HeadAt W' q no bl' sl') : FW w0 a i n no bl' sl' q W' :=
  ⟨⟨(hb.cell (p := ⟨w0.heap.size, 0, none⟩) (show w0.heap.size < q by omega)).trans h.geo.1, (hb.cell (p := ⟨w0.heap.size, 1, none⟩) (show w0.heap.size < q by omega)).trans h.geo.2.1, (hb.cell (p := ⟨w0.heap.size, 2, none⟩) (show w0.heap.size < q by omega)).trans h.geo.2.2.1, h.geo.2.2.2.trans (hb.mono (by omega))⟩, h.res.below hb (by omega), hh⟩
theorem FW.up (h : FW w0 a i n no bl sl q W) (hb : Below W.heap.size W W') (hq : w0.heap.size + 1 < q) : FW w0 a i n no bl sl q W' :=
  h.below (hb.mono (by have := h.head.lt; omega)) hq (h.head.up hb)
end
/-- Where a shape and an empty answer lie at the beginning. -/
structure F0 (w0 : World) (a i n : Int) (W : World) : Prop where
  geo : Lies w0 w0.heap.size a i n W
  res : HeadAt W (w0.heap.size + 1) 0 z16 z8
theorem F0.start (w : World) (a i n : Int) : F0 w a i n ((w.alloc (.cells #[.int .i64 a, .int .i64 i, .int .i64 n] 23)).alloc (.cells (hA 0 z16 z8) 38)) := by
  have R := RW.start w a i n 0 z16 z8 rfl rfl
  exact ⟨R.geo, R.head⟩
theorem F0.up {w0 W W' : World} {a i n : Int} (h : F0 w0 a i n W) (hb : Below W.heap.size W W') : F0 w0 a i n W' := by
  have R : RW w0 a i n 0 z16 z8 W := ⟨h.geo, h.res⟩
  exact ⟨(R.up hb).geo, (R.up hb).head⟩
theorem F0.below {w0 W W' : World} {a i n : Int} (h : F0 w0 a i n W) {B : Nat} (hb : Below B W W') (hq : w0.heap.size + 1 < B) : F0 w0 a i n W' :=
  ⟨⟨(hb.cell (p := ⟨w0.heap.size, 0, none⟩) (show w0.heap.size < B by omega)).trans h.geo.1, (hb.cell (p := ⟨w0.heap.size, 1, none⟩) (show w0.heap.size < B by omega)).trans h.geo.2.1, (hb.cell (p := ⟨w0.heap.size, 2, none⟩) (show w0.heap.size < B by omega)).trans h.geo.2.2.1, h.geo.2.2.2.trans (hb.mono (by omega))⟩, h.res.below hb (by omega)⟩
theorem hA_ne (no : Int) (bl sl : List UInt8) : ¬ hA no bl sl = #[] := by simp [hA, hL]
theorem zero_no (no : Int) : (hA 0 z16 z8).setIfInBounds 0 (.int .i64 no) = hA no z16 z8 := by
  simp [hA, hL]
attribute [local go_sem] wrapI
set_option maxHeartbeats 4000000 in
theorem fresh_yes (a i n no : Int) (hnb : numB a i n no = true) (w : World) :
    Calls Tryz.prog 69 #[.agg #[.int .i64 a, .int .i64 i, .int .i64 n], .int .i64 no] w fun e w' => e = .returned (.tuple #[.agg (hA no (fillb z16 (kbl i)) (fillb z8 (ksl no))), .int .i64 0]) ∧ Below w.heap.size w w' := by
  have HF : Hid _ := F0.start w a i n
  have NB := numbered_any a i n no
  obtain ⟨hok, _, _⟩ := numB_ok hnb
  obtain ⟨ke, kl⟩ := kbl_of hok
  have hk2 := ksl_le no
  rw [hnb] at NB
  have hz := zero28
  have zn := zero_no no
  have hne := hA_ne 0 z16 z8
  have KB := fun W => keptBlocks_any a i n W hok
  rw [ke] at KB
  clear hnb ke hok
  go_enter Tryz.func69, Tryz.ntmps69
  go_wp2_with fail
  refine (NB _).mono ?_
  rintro e w1 ⟨rfl, h1⟩
  have HF1 : Hid _ := HF.out.up h1
  have hl1 := HF1.out.res.lt
  clear HF NB h1
  have HN : Hid (HeadAt (w1.alloc (.cells (hA 0 z16 z8) 38)) w1.heap.size 0 z16 z8) := head_new w1 0 z16 z8 rfl rfl
  have HB1 : Hid (Below w1.heap.size w1 (w1.alloc (.cells (hA 0 z16 z8) 38))) := (Below.refl _ _).alloc (Nat.le_refl _) _
  go_wp2_with (first | ((with_reducible show wpList _ _ _ ({ dst := _, op := Op.store 38 _ _, type := _, pos := _, after := _, guard := _ } :: _) _ _); refine wpList_store_head rfl _ _ rfl (HN.out) rfl rfl rfl rfl ?_; intro w2 H2 b2 z2))
  have f2 : FW w a i n no z16 z8 w1.heap.size w2 := by
    have f1 := (HF1.out.up HB1.out).below b2 hl1
    exact ⟨f1.geo, f1.res, H2⟩
  have hl2 : w1.heap.size < w2.heap.size := H2.lt
  have fd : FW w a i n no z16 z8 w1.heap.size w2.drew := f2.up (Below.refl _ _).drew hl1
  clear HF1 HN HB1 H2 b2 f2 hne
  refine wp_region_held_drew (S := (fun W => Lies w w.heap.size a i n W)) (by kernel_rfl) fd.geo (fun hH => ?_)
  refine takeH (i := 0) (dst := some 14) (v := ?v1) rfl rfl (by kernel_rfl) (by kernel_rfl) (by kernel_rfl) (fun _ _ _ h => h) rfl ?hy1 hH rfl ?rest1
  case hy1 => (intro W hW; have q0 := hW.1; have q1 := hW.2.1; have q2 := hW.2.2.1; clear hW; go_simp; try with_reducible rfl)
  (try simp only [Act.put, List.setIfInBounds_toArray, List.set_cons_zero, List.set_cons_succ])
  refine takeH (i := 1) (dst := some 15) (v := ?v2) rfl rfl (by kernel_rfl) (by kernel_rfl) (by kernel_rfl) (fun _ _ _ h => h) rfl ?hy2 hH rfl ?rest2
  case hy2 => (intro W hW; have q0 := hW.1; have q1 := hW.2.1; have q2 := hW.2.2.1; clear hW; go_simp; try with_reducible rfl)
  (try simp only [Act.put, List.setIfInBounds_toArray, List.set_cons_zero, List.set_cons_succ])
  refine takeH (i := 2) (dst := some 16) (v := ?v3) rfl rfl (by kernel_rfl) (by kernel_rfl) (by kernel_rfl) (fun _ _ _ h => h) rfl ?hy3 hH rfl ?rest3
  case hy3 => (intro W hW; have q0 := hW.1; have q1 := hW.2.1; have q2 := hW.2.2.1; clear hW; go_simp; try with_reducible rfl)
  (try simp only [Act.put, List.setIfInBounds_toArray, List.set_cons_zero, List.set_cons_succ])
  refine callH (i := 3) { dst := some 17, op := Go.Op.call { callee := Go.Callee.value (Go.Operand.func 104), args := #[Go.Operand.tmp 16], argTypes := #[23] }, type := 3, pos := "group.go:71", after := #[{ on := 2, ground := Go.Ground.data }], guard := none } (by kernel_rfl) rfl rfl (fun K hK => ?_)
  go_simp
  refine (KB _).mono ?_
  rintro e v1 ⟨rfl, m0⟩
  have m1 := fd.up m0 hl1
  clear m0
  clear hH
  refine hK.out _ _ m1.geo (fun hH => ?_)
  clear hK K
  (try simp only [Act.put, List.setIfInBounds_toArray, List.set_cons_zero, List.set_cons_succ])
  refine callH (i := 4) { dst := some 18, op := Go.Op.call { callee := Go.Callee.value (Go.Operand.func 107), args := #[Go.Operand.tmp 15, Go.Operand.tmp 17], argTypes := #[42, 3] }, type := 0, pos := "group.go:71", after := #[{ on := 1, ground := Go.Ground.data }, { on := 3, ground := Go.Ground.data }, { on := 3, ground := Go.Ground.chain }], guard := none } (by kernel_rfl) rfl rfl (fun K hK => ?_)
  go_simp
  refine (fillB_any m1.head (kbl i) (by omega)).mono ?_
  rintro e v2 ⟨rfl, h2, b2⟩
  have m2 := m1.below b2 hl1 h2
  clear m1 h2 b2
  clear hH
  refine hK.out _ _ m2.geo (fun hH => ?_)
  clear hK K
  (try simp only [Act.put, List.setIfInBounds_toArray, List.set_cons_zero, List.set_cons_succ])
  refine wpAnyH_done (by kernel_rfl) ?_ _
  clear hH
  have hd3 := m2.up (Below.refl _ _).drew hl1
  have HM2 : Hid _ := m2
  clear m2 fd
  go_wp2_with fail
  refine wp_region_held_drew (S := (fun W => Lies w w.heap.size a i n W)) (by kernel_rfl) hd3.geo (fun hH => ?_)
  refine takeH (i := 0) (dst := some 19) (v := ?v4) rfl rfl (by kernel_rfl) (by kernel_rfl) (by kernel_rfl) (fun _ _ _ h => h) rfl ?hy4 hH rfl ?rest4
  case hy4 => (intro W hW; have q0 := hW.1; have q1 := hW.2.1; have q2 := hW.2.2.1; clear hW; go_simp; try with_reducible rfl)
  (try simp only [Act.put, List.setIfInBounds_toArray, List.set_cons_zero, List.set_cons_succ])
  refine takeH (i := 1) (dst := some 20) (v := ?v5) rfl rfl (by kernel_rfl) (by kernel_rfl) (by kernel_rfl) (fun _ _ _ h => h) rfl ?hy5 hH rfl ?rest5
  case hy5 => (intro W hW; have q0 := hW.1; have q1 := hW.2.1; have q2 := hW.2.2.1; clear hW; go_simp; try with_reducible rfl)
  (try simp only [Act.put, List.setIfInBounds_toArray, List.set_cons_zero, List.set_cons_succ])
  refine takeH (i := 2) (dst := some 21) (v := ?v6) rfl rfl (by kernel_rfl) (by kernel_rfl) (by kernel_rfl) (fun _ _ _ h => h) rfl ?hy6 hH rfl ?rest6
  case hy6 => (intro W hW; have q0 := hW.1; have q1 := hW.2.1; have q2 := hW.2.2.1; clear hW; go_simp; try with_reducible rfl)
  (try simp only [Act.put, List.setIfInBounds_toArray, List.set_cons_zero, List.set_cons_succ])
  refine callH (i := 3) { dst := some 22, op := Go.Op.call { callee := Go.Callee.value (Go.Operand.func 105), args := #[Go.Operand.tmp 21], argTypes := #[3] }, type := 3, pos := "group.go:72", after := #[{ on := 2, ground := Go.Ground.data }], guard := none } (by kernel_rfl) rfl rfl (fun K hK => ?_)
  go_simp
  refine (keptSlots_any no _).mono ?_
  rintro e v3 ⟨rfl, rfl⟩
  have m3 := hd3
  clear hH
  refine hK.out _ _ m3.geo (fun hH => ?_)
  clear hK K
  (try simp only [Act.put, List.setIfInBounds_toArray, List.set_cons_zero, List.set_cons_succ])
  refine callH (i := 4) { dst := some 23, op := Go.Op.call { callee := Go.Callee.value (Go.Operand.func 107), args := #[Go.Operand.tmp 20, Go.Operand.tmp 22], argTypes := #[42, 3] }, type := 0, pos := "group.go:72", after := #[{ on := 1, ground := Go.Ground.data }, { on := 3, ground := Go.Ground.data }, { on := 3, ground := Go.Ground.chain }], guard := none } (by kernel_rfl) rfl rfl (fun K hK => ?_)
  go_simp
  refine (fillS_any m3.head (ksl no) (by omega)).mono ?_
  rintro e v4 ⟨rfl, h4, b4⟩
  have m4 := m3.below b4 hl1 h4
  clear h4 b4
  clear hH
  refine hK.out _ _ m4.geo (fun hH => ?_)
  clear hK K
  (try simp only [Act.put, List.setIfInBounds_toArray, List.set_cons_zero, List.set_cons_succ])
  refine wpAnyH_done (by kernel_rfl) ?_ _
  clear hH
  have HM4 : Hid _ := m4
  clear hd3 HM2 m3 m4
  go_wp2_with (first | ((with_reducible show wpList _ _ _ ({ dst := _, op := Op.load 38 _, type := _, pos := _, after := _, guard := _ } :: _) _ _); refine wpList_load_head rfl _ rfl (HM4.out.head) rfl ?_) | ((with_reducible show wpList _ _ _ ({ dst := _, op := Op.store 38 _ _, type := _, pos := _, after := _, guard := _ } :: _) _ _); refine wpList_store_head rfl _ _ rfl (HM4.out.res) HM4.out.head.lb HM4.out.head.ls rfl rfl ?_; intro w7 H7 b7 z7))
  exact bodyPost_ret (results_head rfl _ H7 rfl) rfl ⟨rfl, HM4.out.geo.2.2.2.trans (b7.mono (by omega))⟩
end Go.Proofs.YtkiifmnmeikdlaaGreatDoor
/- The bytes of a header, as group.lay lays them. -/
namespace Go.Proofs.YtkiifmnmeikdlaaGreatDoor
open Go.RowKit
set_option maxRecDepth 100000
def markLG : List UInt8 := [76, 71, 82, 80]
/-- The bytes of a header: No, what is free, the maps. -/
def layL (no x y : Nat) (bl sl : List UInt8) : List UInt8 := layAt (layAt (layAt (layAt (layAt (layAt zeros 0 markLG) 4 (leB 2 no)) 6 (leB 2 x)) 8 (leB 2 y)) 16 bl) 32 sl
theorem lay_lenG {cur : List UInt8} {o : Nat} {x : List UInt8} (hc : cur.length = 256) (h : o + x.length ≤ 256) : (layAt cur o x).length = 256 := by
  rw [layAt_length _ _ _ (by rw [hc]; exact h)]; exact hc
theorem l1_len : (layAt zeros 0 markLG).length = 256 := lay_lenG zeros_length (by decide)
theorem l2_len (no : Nat) : (layAt (layAt zeros 0 markLG) 4 (leB 2 no)).length = 256 := lay_lenG l1_len (by rw [leB_length]; omega)
theorem l3_len (no x : Nat) : (layAt (layAt (layAt zeros 0 markLG) 4 (leB 2 no)) 6 (leB 2 x)).length = 256 := lay_lenG (l2_len no) (by rw [leB_length]; omega)
theorem l4_len (no x y : Nat) : (layAt (layAt (layAt (layAt zeros 0 markLG) 4 (leB 2 no)) 6 (leB 2 x)) 8 (leB 2 y)).length = 256 := lay_lenG (l3_len no x) (by rw [leB_length]; omega)
theorem l5_len (no x y : Nat) (bl : List UInt8) (hb : bl.length = 16) : (layAt (layAt (layAt (layAt (layAt zeros 0 markLG) 4 (leB 2 no)) 6 (leB 2 x)) 8 (leB 2 y)) 16 bl).length = 256 := lay_lenG (l4_len no x y) (by omega)
theorem layL_length (no x y : Nat) (bl sl : List UInt8) (hb : bl.length = 16) (hs : sl.length = 8) : (layL no x y bl sl).length = 256 := lay_lenG (l5_len no x y bl hb) (by omega)
theorem zero62 : ∃ Z : Array Value, (∀ w, (zeroValue 126).run Tryz.prog w = .ok (.agg Z) w) ∧ Z.size = 256 ∧ Hid (Z = (bvs zeros).toArray) := by
  have h : (Tryz.prog.info? 126).map (fun i => i.zero) = some (some (.agg (bvs zeros).toArray)) := by kernel_rfl
  cases hi : Tryz.prog.info? 126 with
  | none => rw [hi] at h; cases h
  | some i =>
    rw [hi] at h
    have hz : i.zero = some (.agg (bvs zeros).toArray) := Option.some.inj h
    have key : ∀ (v : Value) (w : World), i.zero = some v → (zeroValue 126).run Tryz.prog w = .ok v w := by
      intro v w hv
      simp [zeroValue, typeInfo, hi, hv]
    exact ⟨_, fun w => key _ w hz, by rw [List.size_toArray, bvs_length, zeros_length], rfl⟩
theorem Tryz.sz126 : (Tryz.prog.info? 126).map (·.size) = some 256 := by kernel_rfl
theorem mark_copyG (w : World) (G : Nat) (hg : Blk w G 126 zeros) :
    ∃ w1, Sem.run Tryz.prog (Builtin.copy_ #[42, 9] 3 #[.slice (some ⟨G, 0, none⟩) 256 256, .string ⟨#[76, 71, 82, 80]⟩]) w = .ok (.int .i64 4) w1 ∧ Blk w1 G 126 (layAt zeros 0 markLG) ∧ Below G w w1 := by
  have h := Lib.run_copy_row_string (P := Tryz.prog) w 42 9 3 5 G 0 256 256 ⟨#[76, 71, 82, 80]⟩ _ 126 Tryz.underlying42 Tryz.elem1 hg (by decide) (by rw [List.size_toArray, bvs_length, zeros_length]; decide)
  refine ⟨_, h, ?_, below_setRow (Below.refl _ _) (Nat.le_refl _) _⟩
  have h2 := setRow_heap w G _ ((bvs zeros).toArray.toList.take 0 ++ Lib.byteCells markLG ++ (bvs zeros).toArray.toList.drop (0 + 4)).toArray 126 _ hg
  rw [Blk]
  refine h2.trans ?_
  congr 3
/-- 'copy' of bytes into a block of bytes, from a place on. -/
theorem copy_lay {w : World} {G o : Nat} (dLen cap : Nat) {sp : Option Addr} (sCap : Nat) {t : TypeId} {cur x : List UInt8} (hg : Blk w G t cur) (hs : Src w sp x) (hd : o + dLen ≤ cur.length) (hx : x.length ≤ dLen) :
    ∃ w1, (Builtin.copy_ #[42, 42] 3 #[.slice (some ⟨G, o, none⟩) dLen cap, .slice sp x.length sCap]).run Tryz.prog w = .ok (.int .i64 (x.length : Nat)) w1 ∧ Blk w1 G t (layAt cur o x) ∧ Below G w w1 ∧ w1.heap.size = w.heap.size := by
  obtain ⟨w1, h1, h2, h3, h4⟩ := copy_any (off := o) (dLen := dLen) cap x.length sCap hg hs rfl hd
  rw [Nat.min_eq_left hx] at h1 h2
  rw [List.take_of_length_le hx] at h2
  exact ⟨w1, h1, h2, h3, h4⟩
/-- The load and the store of a whole block of 256 bytes. -/
theorem wpList_load_256 {ops : Array Oper} {rest : List Oper} {op : Oper} {a : Act} {w : World} {Q : Exit → Act → World → Prop} (hgd : op.guard = none) (x : Operand) (ho : op.op = .load 126 x)
    {G : Nat} {t : TypeId} {s : List UInt8} (H : Blk w G t s) (hs : s.length = 256) (hx : a.eval x = .pointer (some ⟨G, 0, none⟩))
    (h : wpList Tryz.prog ops Q rest (a.put op.dst (.agg (bvs s).toArray)) w) : wpList Tryz.prog ops Q (op :: rest) a w :=
  wpList_load_mid hgd 126 x ho G 0 hx (bvs s) _ (fun j v hv => by
    rw [Nat.zero_add, cell_of_row w G j _ _ _ H]; simpa using hv) Tryz.underlying126 rfl (by rw [Tryz.sz126, bvs_length, hs]) h
theorem wpList_store_256 {ops : Array Oper} {rest : List Oper} {op : Oper} {a : Act} {w : World} {Q : Exit → Act → World → Prop} (hgd : op.guard = none) (x y : Operand) (ho : op.op = .store 126 x y)
    {G : Nat} {Z : Array Value} {s : List UInt8} (H : w.heap[G]? = some (.cells Z 126 (0, 0))) (hZ : Z.size = 256) (hs : s.length = 256) (hx : a.eval x = .pointer (some ⟨G, 0, none⟩)) (hy : a.eval y = .agg (bvs s).toArray)
    (h : ∀ w', Blk w' G 126 s → Below G w w' → w'.heap.size = w.heap.size → wpList Tryz.prog ops Q rest (a.put op.dst undef) w') : wpList Tryz.prog ops Q (op :: rest) a w := by
  refine wpList_plain hgd fun K hK => ?_
  have hsz : (bvs s).toArray.size = 256 := by rw [List.size_toArray, bvs_length, hs]
  have hrun := run_storeVar_row (P := Tryz.prog) w G 126 126 Z (bvs s).toArray H (by rw [Tryz.sz126, hsz]) (by rw [hZ, hsz]) (all_oneCell_toArray (bvs_one _))
  unfold Oper.wp execOp
  simp only [ho, hx, hy, Instr.storeAt, Instr.sureAddr, Sem.run_bind, Sem.run_pure, Result.andThen_ok, hrun]
  exact hK _ _ (h _ (setRow_heap w G _ _ 126 _ H) (below_setRow (Below.refl _ _) (Nat.le_refl _) _) (by simp))
end Go.Proofs.YtkiifmnmeikdlaaGreatDoor
/- group.lay, group.Put. -/
namespace Go.Proofs.YtkiifmnmeikdlaaGreatDoor
open Go.RowKit
set_option maxRecDepth 100000
/-- What lay has laid. -/
structure LW (w0 : World) (no : Int) (bl sl : List UInt8) (Z : Array Value) (q : Nat) (cur : List UInt8) (W : World) : Prop where
  b : Below w0.heap.size w0 W
  head : HeadAt W (w0.heap.size + 1) no bl sl
  res : W.heap[w0.heap.size + 2]? = some (.cells Z 126 (0, 0))
  blk : Blk W q 126 cur
section
variable {w0 W W' : World} {no : Int} {bl sl cur cur' : List UInt8} {Z : Array Value} {q : Nat}
theorem LW.below (h : LW w0 no bl sl Z q cur W) (hb : Below q W W') (hq : w0.heap.size + 2 < q) (hc : Blk W' q 126 cur') : LW w0 no bl sl Z q cur' W' :=
  ⟨h.b.trans (hb.mono (by omega)), h.head.below hb (by omega), by rw [hb.block _ (by omega)]; exact h.res, hc⟩
theorem LW.drew (h : LW w0 no bl sl Z q cur W) : LW w0 no bl sl Z q cur W.drew := ⟨h.b.drew, h.head.drew, h.res, h.blk⟩
end
attribute [local go_sem] wrapU
set_option maxRecDepth 100000 in
set_option maxHeartbeats 4000000 in
theorem lay_yes (a i n : Int) (no : Nat) (bl sl : List UInt8) (hb : bl.length = 16) (hs : sl.length = 8) (hr : rgB a i n no bl sl = true) (w : World) :
    Calls Tryz.prog 66 #[.agg #[.int .i64 a, .int .i64 i, .int .i64 n], .agg (hA no bl sl)] w fun e w' => e = .returned (.agg (bvs (layL no (frN bl a).toNat (frN sl i).toNat bl sl)).toArray) ∧ Below w.heap.size w w' := by
  obtain ⟨hok, hn0, hn1⟩ := rgB_ok hr
  have hbx := hok.box
  have hn16 := hok.le16
  have FR := fun W => free_yes a i n no bl sl hb hs hr W
  have c1 := cnt_le (gb bl) a.toNat
  have c2 := cnt_le (gb sl) i.toNat
  have hx : ((frN bl a).toNat : Int) = frN bl a ∧ frN bl a ≤ 128 := by unfold frN; omega
  have hy : ((frN sl i).toNat : Int) = frN sl i ∧ frN sl i ≤ 64 := by unfold frN; omega
  rw [← hx.1, ← hy.1] at FR
  have hX : (frN bl a).toNat ≤ 128 := by omega
  have hY : (frN sl i).toNat ≤ 64 := by omega
  generalize (frN bl a).toNat = X at FR hX ⊢
  generalize (frN sl i).toNat = Y at FR hY ⊢
  obtain ⟨Z, hz, hzs, HZ⟩ := zero62
  have R0 := RW.start w a i n no bl sl hb hs
  have HR : Hid (HeadAt (((w.alloc (.cells #[.int .i64 a, .int .i64 i, .int .i64 n] 23)).alloc (.cells (hA no bl sl) 38)).alloc (.cells Z 126)) (w.heap.size + 1) no bl sl) := R0.head.alloc _
  have HRB : Hid (Below w.heap.size w (((w.alloc (.cells #[.int .i64 a, .int .i64 i, .int .i64 n] 23)).alloc (.cells (hA no bl sl) 38)).alloc (.cells Z 126))) := R0.geo.2.2.2.alloc (by simp; omega) _
  have HRR : Hid ((((w.alloc (.cells #[.int .i64 a, .int .i64 i, .int .i64 n] 23)).alloc (.cells (hA no bl sl) 38)).alloc (.cells Z 126)).heap[w.heap.size + 2]? = some (.cells Z 126 (0, 0))) := by
    have := heap_alloc_new ((w.alloc (.cells #[.int .i64 a, .int .i64 i, .int .i64 n] 23)).alloc (.cells (hA no bl sl) 38)) (.cells Z 126)
    rw [show ((w.alloc (.cells #[.int .i64 a, .int .i64 i, .int .i64 n] 23)).alloc (.cells (hA no bl sl) 38)).heap.size = w.heap.size + 2 by simp] at this
    exact this
  have u1 : InU (no : Int) := ⟨by omega⟩
  have u2 : InU (X : Int) := ⟨by omega⟩
  have u3 : InU (Y : Int) := ⟨by omega⟩
  clear R0 hr hok c1 c2 hx hy
  go_enter Tryz.func66, Tryz.ntmps66
  go_wp2_with (first | ((with_reducible show wpList _ _ _ ({ dst := _, op := Op.load 38 _, type := _, pos := _, after := _, guard := _ } :: _) _ _); refine wpList_load_head rfl _ rfl (HR.out) rfl ?_))
  refine (FR _).mono ?_
  rintro e w1 ⟨rfl, h1⟩
  have hl1 : w.heap.size + 2 < w1.heap.size := by
    have := (Array.getElem?_eq_some_iff.1 HRR.out).1
    have := h1.size; omega
  have hG0 : Blk (w1.alloc (.cells Z 126)) w1.heap.size 126 zeros := by have := heap_alloc_new w1 (.cells Z 126); rw [HZ.out] at this ⊢; exact this
  have L0 : LW w no bl sl Z w1.heap.size zeros (w1.alloc (.cells Z 126)) := by
    have hal : Below w1.heap.size w1 (w1.alloc (.cells Z 126)) := (Below.refl _ _).alloc (Nat.le_refl _) _
    refine ⟨(HRB.out.trans (h1.mono HRB.out.size)).trans (hal.mono (by omega)), (HR.out.up h1).up hal, ?_, hG0⟩
    rw [hal.block _ hl1, h1.block _ (Array.getElem?_eq_some_iff.1 HRR.out).1]; exact HRR.out
  obtain ⟨w2, hcp, hG2, hb2⟩ := mark_copyG _ _ hG0
  have L2 := L0.below hb2 hl1 hG2
  have HL2 : Hid _ := L2
  clear FR HR HRB HRR HZ L0 hG0 hG2 hb2 h1 L2
  go_wp2_with fail
  have d2 := HL2.out.drew
  refine wp_region_held_drew (S := (fun W => HeadAt W (w.heap.size + 1) no bl sl)) (by kernel_rfl) d2.head (fun hH => ?_)
  refine takeH (i := 0) (dst := some 16) (v := ?v1) rfl rfl (by kernel_rfl) (by kernel_rfl) (by kernel_rfl) (fun _ _ _ h => h) rfl ?hy1 hH rfl ?rest1
  case hy1 => (intro W hW; have q3 := hW.c0; clear hW; go_simp; try with_reducible rfl)
  (try simp only [Act.put, List.setIfInBounds_toArray, List.set_cons_zero, List.set_cons_succ])
  refine takeH (i := 1) (dst := some 17) (v := ?v2) rfl rfl (by kernel_rfl) (by kernel_rfl) (by kernel_rfl) (fun _ _ _ h => h) rfl ?hy2 hH rfl ?rest2
  case hy2 => (intro W hW; have q3 := hW.c0; clear hW; go_simp; try with_reducible rfl)
  (try simp only [Act.put, List.setIfInBounds_toArray, List.set_cons_zero, List.set_cons_succ])
  refine takeH (i := 2) (dst := some 18) (v := ?v3) rfl rfl (by kernel_rfl) (by kernel_rfl) (by kernel_rfl) (fun _ _ _ h => h) rfl ?hy3 hH rfl ?rest3
  case hy3 => (intro W hW; have q3 := hW.c0; clear hW; go_simp; try with_reducible rfl)
  (try simp only [Act.put, List.setIfInBounds_toArray, List.set_cons_zero, List.set_cons_succ])
  refine takeH (i := 3) (dst := some 19) (v := ?v4) rfl rfl (by kernel_rfl) (by kernel_rfl) (by kernel_rfl) (fun _ _ _ h => h) rfl ?hy4 hH rfl ?rest4
  case hy4 => (intro W hW; have q3 := hW.c0; clear hW; go_simp; try with_reducible rfl)
  (try simp only [Act.put, List.setIfInBounds_toArray, List.set_cons_zero, List.set_cons_succ])
  refine callH (i := 4) { dst := some 20, op := Go.Op.call { callee := Go.Callee.value (Go.Operand.func 76), args := #[Go.Operand.tmp 16, Go.Operand.tmp 19], argTypes := #[42, 138] }, type := 0, pos := "group.go:110", after := #[{ on := 0, ground := Go.Ground.data }, { on := 3, ground := Go.Ground.data }], guard := none } (by kernel_rfl) rfl rfl (fun K hK => ?_)
  go_simp
  refine (putAt_any w1.heap.size 126 _ 4 2 252 no (by omega) (by omega) (by omega) (by rw [l1_len]; omega) _ d2.blk (by omega) (by omega)).mono ?_
  rintro e w3 ⟨rfl, g3, b3⟩
  have m3 := d2.below b3 hl1 g3
  clear g3 b3
  clear hH
  refine hK.out _ _ m3.head (fun hH => ?_)
  clear hK K
  (try simp only [Act.put, List.setIfInBounds_toArray, List.set_cons_zero, List.set_cons_succ])
  refine wpAnyH_done (by kernel_rfl) ?_ _
  clear hH
  have HL3 : Hid _ := m3
  clear m3 d2 HL2
  go_wp2_with fail
  refine (putAt_any w1.heap.size 126 _ 6 2 250 X (by omega) (by omega) (by omega) (by rw [l2_len]; omega) _ HL3.out.blk (by omega) (by omega)).mono ?_
  rintro e w4 ⟨rfl, g4, b4⟩
  have HL4 : Hid _ := HL3.out.below b4 hl1 g4
  clear HL3 g4 b4
  go_wp2_with fail
  refine (putAt_any w1.heap.size 126 _ 8 2 248 Y (by omega) (by omega) (by omega) (by rw [l3_len]; omega) _ HL4.out.blk (by omega) (by omega)).mono ?_
  rintro e w5 ⟨rfl, g5, b5⟩
  have HL5 : Hid _ := HL4.out.below b5 hl1 g5
  clear HL4 g5 b5
  go_wp2_with fail
  have d5 := HL5.out.drew
  obtain ⟨w6, c6, g6, b6, _⟩ := copy_lay (o := 16) 240 240 16 d5.blk d5.head.srcB (by rw [l4_len]; omega) (by omega)
  rw [hb] at c6
  have m6 := d5.below b6 hl1 g6
  refine wp_region_held_drew (S := (fun W => HeadAt W (w.heap.size + 1) no bl sl)) (by kernel_rfl) d5.head (fun hH => ?_)
  refine takeH (i := 0) (dst := some 29) (v := ?v5) rfl rfl (by kernel_rfl) (by kernel_rfl) (by kernel_rfl) (fun _ _ _ h => h) rfl ?hy5 hH rfl ?rest5
  case hy5 => (intro W hW; have q3 := hW.c0; clear hW; go_simp; try with_reducible rfl)
  (try simp only [Act.put, List.setIfInBounds_toArray, List.set_cons_zero, List.set_cons_succ])
  refine takeH (i := 1) (dst := some 30) (v := ?v6) rfl rfl (by kernel_rfl) (by kernel_rfl) (by kernel_rfl) (fun _ _ _ h => h) rfl ?hy6 hH rfl ?rest6
  case hy6 => (intro W hW; have q3 := hW.c0; clear hW; go_simp; try with_reducible rfl)
  (try simp only [Act.put, List.setIfInBounds_toArray, List.set_cons_zero, List.set_cons_succ])
  refine takeH (i := 2) (dst := some 31) (v := ?v7) rfl rfl (by kernel_rfl) (by kernel_rfl) (by kernel_rfl) (fun _ _ _ h => h) rfl ?hy7 hH rfl ?rest7
  case hy7 => (intro W hW; have q3 := hW.c0; clear hW; go_simp; try with_reducible rfl)
  (try simp only [Act.put, List.setIfInBounds_toArray, List.set_cons_zero, List.set_cons_succ])
  refine callH (i := 3) { dst := some 32, op := Go.Op.call { callee := Go.Callee.builtin Go.Builtin.copy, args := #[Go.Operand.tmp 29, Go.Operand.tmp 31], argTypes := #[42, 42] }, type := 3, pos := "group.go:113", after := #[{ on := 0, ground := Go.Ground.data }, { on := 2, ground := Go.Ground.data }], guard := none } (by kernel_rfl) rfl rfl (fun K hK => ?_)
  go_simp
  clear hH
  refine hK.out _ _ m6.head (fun hH => ?_)
  clear hK K
  (try simp only [Act.put, List.setIfInBounds_toArray, List.set_cons_zero, List.set_cons_succ])
  refine wpAnyH_done (by kernel_rfl) ?_ _
  clear hH
  have HL6 : Hid _ := m6
  clear m6 d5 HL5 c6 g6 b6
  go_wp2_with fail
  have d6 := HL6.out.drew
  obtain ⟨w7, c7, g7, b7, _⟩ := copy_lay (o := 32) 224 224 8 d6.blk d6.head.srcS (by rw [l5_len _ _ _ _ hb]; omega) (by omega)
  rw [hs] at c7
  have m7 := d6.below b7 hl1 g7
  refine wp_region_held_drew (S := (fun W => HeadAt W (w.heap.size + 1) no bl sl)) (by kernel_rfl) d6.head (fun hH => ?_)
  refine takeH (i := 0) (dst := some 33) (v := ?v8) rfl rfl (by kernel_rfl) (by kernel_rfl) (by kernel_rfl) (fun _ _ _ h => h) rfl ?hy8 hH rfl ?rest8
  case hy8 => (intro W hW; have q3 := hW.c0; clear hW; go_simp; try with_reducible rfl)
  (try simp only [Act.put, List.setIfInBounds_toArray, List.set_cons_zero, List.set_cons_succ])
  refine takeH (i := 1) (dst := some 34) (v := ?v9) rfl rfl (by kernel_rfl) (by kernel_rfl) (by kernel_rfl) (fun _ _ _ h => h) rfl ?hy9 hH rfl ?rest9
  case hy9 => (intro W hW; have q3 := hW.c0; clear hW; go_simp; try with_reducible rfl)
  (try simp only [Act.put, List.setIfInBounds_toArray, List.set_cons_zero, List.set_cons_succ])
  refine takeH (i := 2) (dst := some 35) (v := ?v10) rfl rfl (by kernel_rfl) (by kernel_rfl) (by kernel_rfl) (fun _ _ _ h => h) rfl ?hy10 hH rfl ?rest10
  case hy10 => (intro W hW; have q3 := hW.c0; clear hW; go_simp; try with_reducible rfl)
  (try simp only [Act.put, List.setIfInBounds_toArray, List.set_cons_zero, List.set_cons_succ])
  refine callH (i := 3) { dst := some 36, op := Go.Op.call { callee := Go.Callee.builtin Go.Builtin.copy, args := #[Go.Operand.tmp 33, Go.Operand.tmp 35], argTypes := #[42, 42] }, type := 3, pos := "group.go:114", after := #[{ on := 0, ground := Go.Ground.data }, { on := 2, ground := Go.Ground.data }], guard := none } (by kernel_rfl) rfl rfl (fun K hK => ?_)
  go_simp
  clear hH
  refine hK.out _ _ m7.head (fun hH => ?_)
  clear hK K
  (try simp only [Act.put, List.setIfInBounds_toArray, List.set_cons_zero, List.set_cons_succ])
  refine wpAnyH_done (by kernel_rfl) ?_ _
  clear hH
  have HL7 : Hid _ := m7
  clear m7 d6 HL6 c7 g7 b7
  have hlen := layL_length no X Y bl sl hb hs
  have HLN : Hid ((layL no X Y bl sl).length = 256) := hlen
  clear hlen
  have HG7 : Hid (Blk w7 w1.heap.size 126 (layL no X Y bl sl)) := HL7.out.blk
  have HR7 : Hid (w7.heap[w.heap.size + 2]? = some (.cells Z 126 (0, 0))) := HL7.out.res
  have HB7 : Hid (Below w.heap.size w w7) := HL7.out.b
  clear HL7
  go_wp2_with (first | ((with_reducible show wpList _ _ _ ({ dst := _, op := Op.load 126 _, type := _, pos := _, after := _, guard := _ } :: _) _ _); refine wpList_load_256 rfl _ rfl HG7.out HLN.out rfl ?_) | ((with_reducible show wpList _ _ _ ({ dst := _, op := Op.store 126 _ _, type := _, pos := _, after := _, guard := _ } :: _) _ _); refine wpList_store_256 rfl _ _ rfl HR7.out hzs HLN.out rfl rfl ?_; intro w8 G8 b8 z8))
  exact bodyPost_ret (results_cell_row rfl _ _ (w.heap.size + 2) 126 _ (0, 0) _ rfl G8 Tryz.underlying126 rfl (by rw [Tryz.sz126, List.size_toArray, bvs_length, HLN.out])) rfl ⟨rfl, HB7.out.trans (b8.mono (by omega))⟩
end Go.Proofs.YtkiifmnmeikdlaaGreatDoor
/- group.Put, group.read. -/
namespace Go.Proofs.YtkiifmnmeikdlaaGreatDoor
open Go.RowKit
set_option maxRecDepth 100000
set_option maxRecDepth 100000 in
set_option maxHeartbeats 4000000 in
theorem gput_yes (a i n : Int) (no : Nat) (bl sl : List UInt8) (hb : bl.length = 16) (hs : sl.length = 8) (hr : rgB a i n no bl sl = true) (w : World) :
    Calls Tryz.prog 33 #[.agg #[.int .i64 a, .int .i64 i, .int .i64 n], .agg (hA no bl sl)] w fun e w' => ∃ G, e = .returned (.tuple #[.slice (some ⟨G, 0, none⟩) 256 256, .int .i64 0]) ∧ Blk w' G 126 (layL no (frN bl a).toNat (frN sl i).toNat bl sl) ∧ w.heap.size ≤ G ∧ Below w.heap.size w w' := by
  have R0 := RW.start w a i n no bl sl hb hs
  have RT := gright_any a i n no bl sl hb hs
  have LA := fun W => lay_yes a i n no bl sl hb hs hr W
  have HLN : Hid ((layL no (frN bl a).toNat (frN sl i).toNat bl sl).length = 256) := layL_length _ _ _ _ _ hb hs
  generalize layL no (frN bl a).toNat (frN sl i).toNat bl sl = B at LA HLN ⊢
  rw [hr] at RT
  obtain ⟨Z, hz, hzs, HZ⟩ := zero62
  clear HZ
  have HR : Hid _ := R0
  clear R0 hr
  go_enter Tryz.func33, Tryz.ntmps33
  go_wp2_with (first | ((with_reducible show wpList _ _ _ ({ dst := _, op := Op.load 38 _, type := _, pos := _, after := _, guard := _ } :: _) _ _); refine wpList_load_head rfl _ rfl (HR.out.head) rfl ?_))
  refine (RT _).mono ?_
  rintro e w1 ⟨rfl, h1⟩
  have HR1 : Hid _ := HR.out.up h1
  have q0 := HR1.out.geo.1; have q1 := HR1.out.geo.2.1; have q2 := HR1.out.geo.2.2.1
  clear HR h1 RT
  go_wp2_with (first | ((with_reducible show wpList _ _ _ ({ dst := _, op := Op.load 38 _, type := _, pos := _, after := _, guard := _ } :: _) _ _); refine wpList_load_head rfl _ rfl (HR1.out.head) rfl ?_))
  refine (LA _).mono ?_
  rintro e w2 ⟨rfl, h2⟩
  have HR2 : Hid (Below w.heap.size w w2) := (HR1.out.up h2).geo.2.2.2
  have HN : Hid ((w2.alloc (.cells Z 126)).heap[w2.heap.size]? = some (.cells Z 126 (0, 0))) := heap_alloc_new _ _
  have HNB : Hid (Below w.heap.size w (w2.alloc (.cells Z 126))) := HR2.out.alloc HR2.out.size _
  clear HR1 h2 LA q0 q1 q2
  go_wp2_with (first | ((with_reducible show wpList _ _ _ ({ dst := _, op := Op.store 126 _ _, type := _, pos := _, after := _, guard := _ } :: _) _ _); refine wpList_store_256 rfl _ _ rfl HN.out hzs HLN.out rfl rfl ?_; intro w8 G8 b8 z8))
  have HG8 : Hid _ := G8
  have HB8 : Hid (Below w.heap.size w w8) := HNB.out.trans (b8.mono HR2.out.size)
  clear G8 b8 z8
  go_wp2
  go_ret2
  exact ⟨_, rfl, HG8.out, HR2.out.size, HB8.out⟩
theorem Src.part {w : World} {bb off : Nat} {l : List UInt8} (hs : Src w (some ⟨bb, off, none⟩) l) (o k : Nat) (h0 : 0 < l.length) (h : o + k ≤ l.length) : Src w (some ⟨bb, off + o, none⟩) ((l.drop o).take k) := by
  rcases hs with h1 | ⟨b', off', h1, h2, h3⟩
  · rw [h1] at h0; simp at h0
  · obtain ⟨rfl, rfl⟩ : bb = b' ∧ off = off' := by simpa using h1
    exact .inr ⟨bb, off + o, rfl, h2, fun j hj => by
      simp only [List.length_take, List.length_drop] at hj
      rw [Nat.add_assoc, h3 (o + j) (by omega)]; simp⟩
/-- 'copy' of the first of some bytes into the middle of a row. -/
theorem copy_midL {w : World} {g off n : Nat} (cap : Nat) {sp : Option Addr} (sLen sCap : Nat) {t : TypeId} {L : List Value} {l : List UInt8} (hg : RowAt w g t L) (hs : Src w sp l) (hl : l.length = n) (h0 : 0 < n) (hsl : n ≤ sLen) (hd : off + n ≤ L.length) :
    ∃ w1, (Builtin.copy_ #[42, 42] 3 #[.slice (some ⟨g, off, none⟩) n cap, .slice sp sLen sCap]).run Tryz.prog w = .ok (.int .i64 (n : Nat)) w1 ∧
      RowAt w1 g t (L.take off ++ bvs l ++ L.drop (off + n)) ∧ Below g w w1 ∧ w1.heap.size = w.heap.size := by
  obtain ⟨ad, had, hcs⟩ := hs.pos n (by rw [bvs_length, List.length_take]; omega)
  subst had
  rw [List.take_of_length_le (by omega)] at hcs
  have hrun := run_copy_row (P := Tryz.prog) w 42 42 3 5 g off n cap ad sLen sCap L.toArray t (bvs l) Tryz.underlying42 Tryz.elem1 hg (by rw [bvs_length, hl]; exact (Nat.min_eq_right hsl).symm) hcs (by simp only [bvs_length, List.size_toArray]; omega) (bvs_one _)
  rw [bvs_length, hl] at hrun
  refine ⟨_, hrun, ?_, below_setRow (Below.refl _ _) (Nat.le_refl _) _, by simp⟩
  unfold RowAt
  rw [setRow_heap w g _ (L.toArray.toList.take off ++ bvs l ++ L.toArray.toList.drop (off + n)).toArray t _ hg]
/-- What the bytes say. -/
def rdNG (l : List UInt8) : Nat := getNum ((l.drop 4).take 2)
def rdB (l : List UInt8) : List UInt8 := (l.drop 16).take 16
def rdS (l : List UInt8) : List UInt8 := (l.drop 32).take 8
theorem rdB_length {l : List UInt8} (h : l.length = 256) : (rdB l).length = 16 := by simp [rdB, h]
theorem rdS_length {l : List UInt8} (h : l.length = 256) : (rdS l).length = 8 := by simp [rdS, h]
theorem rdN_lt {l : List UInt8} (h : l.length = 256) : rdNG l < 65536 := getNum_2lt (by simp [h])
attribute [local go_sem] wrapI
set_option maxHeartbeats 4000000 in
theorem read_anyG (bb off cap : Nat) (l : List UInt8) (hl : l.length = 256) (w : World) (hsrc : Src w (some ⟨bb, off, none⟩) l) (hc : (256 : Int) ≤ cap) (hm : (cap : Int) ≤ 9223372036854775807) :
    Calls Tryz.prog 101 #[.slice (some ⟨bb, off, none⟩) 256 cap] w fun e w' => e = .returned (.agg (hA (rdNG l) (rdB l) (rdS l))) ∧ Below w.heap.size w w' := by
  have hz := zero28
  have hne := hA_ne 0 z16 z8
  have HF : Hid (HeadAt (w.alloc (.cells (hA 0 z16 z8) 38)) w.heap.size 0 z16 z8) := head_new w 0 z16 z8 rfl rfl
  have HFB : Hid (Below w.heap.size w (w.alloc (.cells (hA 0 z16 z8) 38))) := (Below.refl _ _).alloc (Nat.le_refl _) _
  have NG : ∀ W, Below w.heap.size w W → Calls Tryz.prog 123 #[.slice (some ⟨bb, off + 4, none⟩) 2 (cap - 4)] W fun e w' => e = .returned (.int .u64 (rdNG l : Int)) ∧ Below W.heap.size W w' := by
    intro W hW
    have h := nget_any (some ⟨bb, off + 4, none⟩) ((l.drop 4).take 2) (cap - 4) W ((hsrc.part 4 2 (by omega) (by omega)).below hW (Nat.le_refl _))
    rw [show ((l.drop 4).take 2).length = 2 by simp [hl]] at h
    exact h
  have zn := zero_no (rdNG l : Int)
  have hlt := rdN_lt hl
  have HSB : Hid (Src w (some ⟨bb, off + 16, none⟩) (rdB l)) := hsrc.part 16 16 (by omega) (by omega)
  have HSS : Hid (Src w (some ⟨bb, off + 32, none⟩) (rdS l)) := hsrc.part 32 8 (by omega) (by omega)
  have HLB : Hid ((rdB l).length = 16) := rdB_length hl
  have HLS : Hid ((rdS l).length = 8) := rdS_length hl
  clear hsrc hl
  generalize rdNG l = N at *
  generalize rdB l = BL at *
  generalize rdS l = SL at *
  have iN : In64 (N : Int) := ⟨by omega⟩
  have b1 : (6 : Int) ≤ cap := by omega
  have b2 : (16 : Int) ≤ cap := by omega
  have b3 : (32 : Int) ≤ cap := by omega
  have n1 : ¬ cap = 4 := by omega
  have n2 : ¬ cap = 16 := by omega
  have n3 : ¬ cap = 32 := by omega
  go_enter Tryz.func101, Tryz.ntmps101
  go_wp2_with fail
  refine (NG _ HFB.out).mono ?_
  rintro e w1 ⟨rfl, h1⟩
  have HF1 : Hid (HeadAt w1 w.heap.size 0 z16 z8) := HF.out.up h1
  have hl1 : w.heap.size < w1.heap.size := HF1.out.lt
  have HB1 : Hid (Below w.heap.size w w1) := HFB.out.trans (h1.mono HFB.out.size)
  have HN : Hid (HeadAt (w1.alloc (.cells (hA 0 z16 z8) 38)) w1.heap.size 0 z16 z8) := head_new w1 0 z16 z8 rfl rfl
  have HNB : Hid (Below w1.heap.size w1 (w1.alloc (.cells (hA 0 z16 z8) 38))) := (Below.refl _ _).alloc (Nat.le_refl _) _
  clear NG HF HFB h1
  go_wp2_with (first | ((with_reducible show wpList _ _ _ ({ dst := _, op := Op.store 38 _ _, type := _, pos := _, after := _, guard := _ } :: _) _ _); refine wpList_store_head rfl _ _ rfl (HN.out) rfl rfl rfl rfl ?_; intro w2 H2 b2' z2))
  have HB2 : Hid (Below w1.heap.size w1 w2) := HNB.out.trans b2'
  have H2' := H2.drew
  obtain ⟨w3, c3, r3, b3', _⟩ := copy_midL (off := 1) (n := 16) 16 240 (cap - 16) H2'.rowAt ((HSB.out.below (HB1.out.trans ((HB2.out).mono (by omega))) (Nat.le_refl _)).below (Below.refl _ _).drew (Nat.le_refl _)) HLB.out (by omega) (by omega) (by rw [hL_length rfl rfl]; omega)
  rw [hL_putB rfl] at r3
  have h3 : HeadAt w3 w1.heap.size N BL z8 := ⟨r3, HLB.out, rfl⟩
  have hb3 : Below w1.heap.size w1 w3 := (HB2.out.drew).trans b3'
  clear HN HNB H2 b2' z2 r3 b3' hne zn
  refine wp_region_held_drew (S := (fun W => True)) (by kernel_rfl) trivial (fun hH => ?_)
  refine takeH (i := 0) (dst := some 9) (v := ?v1) rfl rfl (by kernel_rfl) (by kernel_rfl) (by kernel_rfl) (fun _ _ _ h => h) rfl ?hy1 hH rfl ?rest1
  case hy1 => (intro W hW; clear hW; go_simp; try with_reducible rfl)
  (try simp only [Act.put, List.setIfInBounds_toArray, List.set_cons_zero, List.set_cons_succ])
  refine takeH (i := 1) (dst := some 10) (v := ?v2) rfl rfl (by kernel_rfl) (by kernel_rfl) (by kernel_rfl) (fun _ _ _ h => h) rfl ?hy2 hH rfl ?rest2
  case hy2 => (intro W hW; clear hW; go_simp; try with_reducible rfl)
  (try simp only [Act.put, List.setIfInBounds_toArray, List.set_cons_zero, List.set_cons_succ])
  refine takeH (i := 2) (dst := some 11) (v := ?v3) rfl rfl (by kernel_rfl) (by kernel_rfl) (by kernel_rfl) (fun _ _ _ h => h) rfl ?hy3 hH rfl ?rest3
  case hy3 => (intro W hW; clear hW; go_simp; try with_reducible rfl)
  (try simp only [Act.put, List.setIfInBounds_toArray, List.set_cons_zero, List.set_cons_succ])
  refine takeH (i := 3) (dst := some 12) (v := ?v4) rfl rfl (by kernel_rfl) (by kernel_rfl) (by kernel_rfl) (fun _ _ _ h => h) rfl ?hy4 hH rfl ?rest4
  case hy4 => (intro W hW; clear hW; go_simp; try with_reducible rfl)
  (try simp only [Act.put, List.setIfInBounds_toArray, List.set_cons_zero, List.set_cons_succ])
  refine callH (i := 4) { dst := some 13, op := Go.Op.call { callee := Go.Callee.builtin Go.Builtin.copy, args := #[Go.Operand.tmp 10, Go.Operand.tmp 12], argTypes := #[42, 42] }, type := 3, pos := "group.go:136", after := #[{ on := 1, ground := Go.Ground.data }, { on := 3, ground := Go.Ground.data }], guard := none } (by kernel_rfl) rfl rfl (fun K hK => ?_)
  go_simp
  clear hH
  refine hK.out _ _ trivial (fun hH => ?_)
  clear hK K
  (try simp only [Act.put, List.setIfInBounds_toArray, List.set_cons_zero, List.set_cons_succ])
  refine wpAnyH_done (by kernel_rfl) ?_ _
  clear hH
  have HH3 : Hid _ := h3
  have HB3 : Hid _ := hb3
  clear c3 h3 hb3 H2' HB2
  go_wp2_with fail
  have H3' := HH3.out.drew
  obtain ⟨w4, c4, r4, b4', _⟩ := copy_midL (off := 17) (n := 8) 8 224 (cap - 32) H3'.rowAt ((HSS.out.below (HB1.out.trans ((HB3.out).mono (by omega))) (Nat.le_refl _)).below (Below.refl _ _).drew (Nat.le_refl _)) HLS.out (by omega) (by omega) (by rw [hL_length HLB.out rfl]; omega)
  rw [hL_putS HLB.out rfl] at r4
  have h4 : HeadAt w4 w1.heap.size N BL SL := ⟨r4, HLB.out, HLS.out⟩
  have hb4 : Below w1.heap.size w1 w4 := (HB3.out.drew).trans b4'
  clear r4 b4'
  refine wp_region_held_drew (S := (fun W => True)) (by kernel_rfl) trivial (fun hH => ?_)
  refine takeH (i := 0) (dst := some 14) (v := ?v5) rfl rfl (by kernel_rfl) (by kernel_rfl) (by kernel_rfl) (fun _ _ _ h => h) rfl ?hy5 hH rfl ?rest5
  case hy5 => (intro W hW; clear hW; go_simp; try with_reducible rfl)
  (try simp only [Act.put, List.setIfInBounds_toArray, List.set_cons_zero, List.set_cons_succ])
  refine takeH (i := 1) (dst := some 15) (v := ?v6) rfl rfl (by kernel_rfl) (by kernel_rfl) (by kernel_rfl) (fun _ _ _ h => h) rfl ?hy6 hH rfl ?rest6
  case hy6 => (intro W hW; clear hW; go_simp; try with_reducible rfl)
  (try simp only [Act.put, List.setIfInBounds_toArray, List.set_cons_zero, List.set_cons_succ])
  refine takeH (i := 2) (dst := some 16) (v := ?v7) rfl rfl (by kernel_rfl) (by kernel_rfl) (by kernel_rfl) (fun _ _ _ h => h) rfl ?hy7 hH rfl ?rest7
  case hy7 => (intro W hW; clear hW; go_simp; try with_reducible rfl)
  (try simp only [Act.put, List.setIfInBounds_toArray, List.set_cons_zero, List.set_cons_succ])
  refine takeH (i := 3) (dst := some 17) (v := ?v8) rfl rfl (by kernel_rfl) (by kernel_rfl) (by kernel_rfl) (fun _ _ _ h => h) rfl ?hy8 hH rfl ?rest8
  case hy8 => (intro W hW; clear hW; go_simp; try with_reducible rfl)
  (try simp only [Act.put, List.setIfInBounds_toArray, List.set_cons_zero, List.set_cons_succ])
  refine callH (i := 4) { dst := some 18, op := Go.Op.call { callee := Go.Callee.builtin Go.Builtin.copy, args := #[Go.Operand.tmp 15, Go.Operand.tmp 17], argTypes := #[42, 42] }, type := 3, pos := "group.go:137", after := #[{ on := 1, ground := Go.Ground.data }, { on := 3, ground := Go.Ground.data }], guard := none } (by kernel_rfl) rfl rfl (fun K hK => ?_)
  go_simp
  clear hH
  refine hK.out _ _ trivial (fun hH => ?_)
  clear hK K
  (try simp only [Act.put, List.setIfInBounds_toArray, List.set_cons_zero, List.set_cons_succ])
  refine wpAnyH_done (by kernel_rfl) ?_ _
  clear hH
  have HH4 : Hid _ := h4
  have HR4 : Hid _ := HF1.out.below hb4 hl1
  have HB4 : Hid (Below w.heap.size w w4) := HB1.out.trans (hb4.mono (by omega))
  clear c4 h4 hb4 H3' HB3 HH3 HF1
  go_wp2_with (first | ((with_reducible show wpList _ _ _ ({ dst := _, op := Op.load 38 _, type := _, pos := _, after := _, guard := _ } :: _) _ _); refine wpList_load_head rfl _ rfl (HH4.out) rfl ?_) | ((with_reducible show wpList _ _ _ ({ dst := _, op := Op.store 38 _ _, type := _, pos := _, after := _, guard := _ } :: _) _ _); refine wpList_store_head rfl _ _ rfl (HR4.out) HLB.out HLS.out rfl rfl ?_; intro w7 H7 b7 z7))
  exact bodyPost_ret (results_cell_row rfl _ _ w.heap.size 38 _ (0, 0) _ rfl H7.row Tryz.underlying38 rfl (by rw [Tryz.sz38, hA_size H7.lb H7.ls])) rfl ⟨rfl, HB4.out.trans (b7.mono (by omega))⟩
end Go.Proofs.YtkiifmnmeikdlaaGreatDoor
/- group.Get. -/
namespace Go.Proofs.YtkiifmnmeikdlaaGreatDoor
open Go.RowKit
set_option maxRecDepth 100000
theorem exec_load_head {ev : Operand → Value} {oi : Oper} {x : Operand} {w : World} {p : Nat} {no : Int} {bl sl : List UInt8} (H : HeadAt w p no bl sl) (ho : oi.op = .load 38 x) (hx : ev x = .pointer (some ⟨p, 0, none⟩)) :
    (execOp ev oi).run Tryz.prog w = .ok (.value (.agg (hA no bl sl))) w := by
  unfold execOp
  simp only [ho, hx, Instr.loadAt, Instr.sureAddr, Sem.run_bind, Sem.run_pure, Result.andThen_ok, run_loadVar_row w p 38 38 _ _ _ H.row Tryz.underlying38 rfl (by rw [Tryz.sz38, hA_size H.lb H.ls])]
theorem src_range {w : World} {b o : Nat} {l : List UInt8} (h : Src w (some ⟨b, o, none⟩) l) : w.rangeAt b o (bvs l) := fun j v hv => by
  have hj : j < (bvs l).length := (List.getElem?_eq_some_iff.1 hv).1
  rw [bvs_length] at hj
  rw [h.cell j hj]
  simpa [bvs, hj] using hv
theorem exec_load_256 {ev : Operand → Value} {oi : Oper} {x : Operand} {w : World} {b o : Nat} {l : List UInt8} (H : Src w (some ⟨b, o, none⟩) l) (hl : l.length = 256) (ho : oi.op = .load 126 x) (hx : ev x = .pointer (some ⟨b, o, none⟩)) :
    (execOp ev oi).run Tryz.prog w = .ok (.value (.agg (bvs l).toArray)) w := by
  unfold execOp
  simp only [ho, hx, Instr.loadAt, Instr.sureAddr, Sem.run_bind, Sem.run_pure, Result.andThen_ok, run_loadVar_mid w b o 126 (bvs l) _ (src_range H) Tryz.underlying126 rfl (by rw [Tryz.sz126, bvs_length, hl])]
theorem run_neq_256 {x y : List UInt8} (hx : x.length = 256) (hy : y.length = 256) (w : World) : (binOp .neq 126 (.agg (bvs x).toArray) (.agg (bvs y).toArray)).run Tryz.prog w = .ok (.bool (!(x == y))) w := by
  rw [run_neq_struct, show (Op.equalIn 10000 126 (.agg (bvs x).toArray) (.agg (bvs y).toArray)).run Tryz.prog w = .ok (x == y) w from run_equalIn_bytes w 9998 126 5 256 Tryz.underlying126 Tryz.underlying5 size5 x y hx hy]
  rfl
theorem exec_neq_256 {ev : Operand → Value} {oi : Oper} {X Y : Operand} {w : World} {x y : List UInt8} (hx : x.length = 256) (hy : y.length = 256) {b : Bool} (hb : (!(x == y)) = b) (ho : oi.op = .binOp .neq 126 X Y 126) (eX : ev X = .agg (bvs x).toArray) (eY : ev Y = .agg (bvs y).toArray) :
    (execOp ev oi).run Tryz.prog w = .ok (.value (.bool b)) w := by
  subst hb
  have hg : ∀ A B (w : World), (eqGuard .neq 126 X Y (.agg A) (.agg B)).run Tryz.prog w = .ok () w := fun A B w => run_eqGuard_agg w .neq 126 X Y A B (by kernel_rfl)
  unfold execOp
  simp only [ho, eX, eY]
  simp [hg, run_neq_256 hx hy, Result.andThen]
/-- What Get has laid. -/
structure GW (w0 : World) (a i n : Int) (bb off : Nat) (l : List UInt8) (q : Nat) (W : World) : Prop where
  f : F0 w0 a i n W
  head : HeadAt W q (rdNG l : Int) (rdB l) (rdS l)
  src : Src W (some ⟨bb, off, none⟩) l
theorem GW.geo {w0 W : World} {a i n : Int} {bb off q : Nat} {l : List UInt8} (h : GW w0 a i n bb off l q W) : Lies w0 w0.heap.size a i n W := h.f.geo
theorem GW.up {w0 W W' : World} {a i n : Int} {bb off q : Nat} {l : List UInt8} (h : GW w0 a i n bb off l q W) (hb : Below W.heap.size W W') : GW w0 a i n bb off l q W' := ⟨h.f.up hb, h.head.up hb, h.src.below hb (Nat.le_refl _)⟩
/-- The bytes that the header would have that these bytes say. -/
def backL (a i : Int) (l : List UInt8) : List UInt8 := layL (rdNG l) (frN (rdB l) a).toNat (frN (rdS l) i).toNat (rdB l) (rdS l)
set_option maxRecDepth 100000 in
set_option maxHeartbeats 4000000 in
theorem gget_bad (a i n : Int) (bb off cap : Nat) (l : List UInt8) (hl : l.length = 256) (hok : okB a i n = true) (hr : rgB a i n (rdNG l) (rdB l) (rdS l) = false) (w : World) (hsrc : Src w (some ⟨bb, off, none⟩) l) (hc : (256 : Int) ≤ cap) (hm : (cap : Int) ≤ 9223372036854775807) :
    Calls Tryz.prog 64 #[.agg #[.int .i64 a, .int .i64 i, .int .i64 n], .slice (some ⟨bb, off, none⟩) 256 cap] w fun e w' => e = .returned (.tuple #[.agg (hA 0 z16 z8), .int .i64 8]) ∧ Below w.heap.size w w' := by
  have HF : Hid _ := F0.start w a i n
  have RT := right_any a i n
  rw [hok] at RT
  have hz := zero28
  have RD := fun W (h : Src W (some ⟨bb, off, none⟩) l) => read_anyG bb off cap l hl W h hc hm
  have HSR : Hid (Src w (some ⟨bb, off, none⟩) l) := hsrc
  have HLB : Hid ((rdB l).length = 16) := rdB_length hl
  have HLS : Hid ((rdS l).length = 8) := rdS_length hl
  have GR := gright_any a i n (rdNG l) (rdB l) (rdS l) HLB.out HLS.out
  rw [hr] at GR
  clear hok hsrc
  go_enter Tryz.func64, Tryz.ntmps64
  go_wp2_with fail
  refine (RT _).mono ?_
  rintro e w1 ⟨rfl, h1⟩
  have HF1 : Hid _ := HF.out.up h1
  have hsz1 := HF1.out.geo.2.2.2.size
  clear HF RT h1
  go_wp2_with fail
  refine (RD _ (HSR.out.below HF1.out.geo.2.2.2 (Nat.le_refl _))).mono ?_
  rintro e w2 ⟨rfl, h2⟩
  have HF2 : Hid _ := HF1.out.up h2
  have hl2 := HF2.out.res.lt
  clear RD HF1 h2
  have HN : Hid (HeadAt (w2.alloc (.cells (hA 0 z16 z8) 38)) w2.heap.size 0 z16 z8) := head_new w2 0 z16 z8 rfl rfl
  have HNB : Hid (Below w2.heap.size w2 (w2.alloc (.cells (hA 0 z16 z8) 38))) := (Below.refl _ _).alloc (Nat.le_refl _) _
  go_wp2_with (first | ((with_reducible show wpList _ _ _ ({ dst := _, op := Op.store 38 _ _, type := _, pos := _, after := _, guard := _ } :: _) _ _); refine wpList_store_head rfl _ _ rfl (HN.out) HLB.out HLS.out rfl rfl ?_; intro w3 H3 b3 z3))
  have f3 : F0 w a i n w3 := (HF2.out.up HNB.out).below b3 hl2
  have g3 : GW w a i n bb off l w2.heap.size w3 := ⟨f3, H3, HSR.out.below f3.geo.2.2.2 (Nat.le_refl _)⟩
  have gd := g3.up (Below.refl _ _).drew
  clear f3 g3 H3 b3 z3 HN HNB HF2 HSR
  refine wp_region_held_drew (S := (fun W => GW w a i n bb off l w2.heap.size W)) (by kernel_rfl) gd (fun hH => ?_)
  refine takeH (i := 0) (dst := some 17) (v := ?v1) rfl rfl (by kernel_rfl) (by kernel_rfl) (by kernel_rfl) (fun _ _ _ h => h) rfl ?hy1 hH rfl ?rest1
  case hy1 => (intro W hW; have q0 := hW.geo.1; have q1 := hW.geo.2.1; have q2 := hW.geo.2.2.1; clear hW; go_simp; try with_reducible rfl)
  (try simp only [Act.put, List.setIfInBounds_toArray, List.set_cons_zero, List.set_cons_succ])
  refine takeH (i := 1) (dst := some 18) (v := ?v2) rfl rfl (by kernel_rfl) (by kernel_rfl) (by kernel_rfl) (fun _ _ _ h => h) rfl ?hy2 hH rfl ?rest2
  case hy2 => (intro W hW; refine exec_load_head (x := Operand.tmp 6) hW.head ?_ ?_ <;> rfl)
  (try simp only [Act.put, List.setIfInBounds_toArray, List.set_cons_zero, List.set_cons_succ])
  refine callH (i := 2) { dst := some 19, op := Go.Op.call { callee := Go.Callee.value (Go.Operand.func 65), args := #[Go.Operand.tmp 17, Go.Operand.tmp 18], argTypes := #[23, 38] }, type := 4, pos := "group.go:127", after := #[{ on := 0, ground := Go.Ground.data }, { on := 1, ground := Go.Ground.data }], guard := none } (by kernel_rfl) rfl rfl (fun K hK => ?_)
  go_simp
  refine (GR _).mono ?_
  rintro e v1 ⟨rfl, n1⟩
  have m1 := gd.up n1
  clear n1
  clear hH
  refine hK.out _ _ m1 (fun hH => ?_)
  clear hK K
  (try simp only [Act.put, List.setIfInBounds_toArray, List.set_cons_zero, List.set_cons_succ])
  refine takeH (i := 3) (dst := some 20) (v := ?v3) rfl rfl (by kernel_rfl) (by kernel_rfl) (by kernel_rfl) (fun _ _ _ h => h) rfl ?hy3 hH rfl ?rest3
  case hy3 => (intro W hW; have q0 := hW.geo.1; have q1 := hW.geo.2.1; have q2 := hW.geo.2.2.1; clear hW; go_simp; try with_reducible rfl)
  (try simp only [Act.put, List.setIfInBounds_toArray, List.set_cons_zero, List.set_cons_succ])
  refine takeH (i := 4) (dst := some 21) (v := ?v4) rfl rfl (by kernel_rfl) (by kernel_rfl) (by kernel_rfl) (fun _ _ _ h => h) rfl ?hy4 hH rfl ?rest4
  case hy4 => (intro W hW; have q0 := hW.geo.1; have q1 := hW.geo.2.1; have q2 := hW.geo.2.2.1; clear hW; go_simp; try with_reducible rfl)
  (try simp only [Act.put, List.setIfInBounds_toArray, List.set_cons_zero, List.set_cons_succ])
  refine takeU (i := 5) (dst := some 22) rfl rfl (by kernel_rfl) (by kernel_rfl) (by kernel_rfl) (fun _ _ _ h => h) rfl hH rfl ?_
  (try simp only [Act.put, List.setIfInBounds_toArray, List.set_cons_zero, List.set_cons_succ])
  refine takeU (i := 6) (dst := some 23) rfl rfl (by kernel_rfl) (by kernel_rfl) (by kernel_rfl) (fun _ _ _ h => h) rfl hH rfl ?_
  (try simp only [Act.put, List.setIfInBounds_toArray, List.set_cons_zero, List.set_cons_succ])
  refine takeU (i := 7) (dst := some 24) rfl rfl (by kernel_rfl) (by kernel_rfl) (by kernel_rfl) (fun _ _ _ h => h) rfl hH rfl ?_
  (try simp only [Act.put, List.setIfInBounds_toArray, List.set_cons_zero, List.set_cons_succ])
  refine takeU (i := 8) (dst := some 25) rfl rfl (by kernel_rfl) (by kernel_rfl) (by kernel_rfl) (fun _ _ _ h => h) rfl hH rfl ?_
  (try simp only [Act.put, List.setIfInBounds_toArray, List.set_cons_zero, List.set_cons_succ])
  refine takeU (i := 9) (dst := some 26) rfl rfl (by kernel_rfl) (by kernel_rfl) (by kernel_rfl) (fun _ _ _ h => h) rfl hH rfl ?_
  (try simp only [Act.put, List.setIfInBounds_toArray, List.set_cons_zero, List.set_cons_succ])
  refine takeU (i := 10) (dst := some 27) rfl rfl (by kernel_rfl) (by kernel_rfl) (by kernel_rfl) (fun _ _ _ h => h) rfl hH rfl ?_
  (try simp only [Act.put, List.setIfInBounds_toArray, List.set_cons_zero, List.set_cons_succ])
  refine takeU (i := 11) (dst := some 28) rfl rfl (by kernel_rfl) (by kernel_rfl) (by kernel_rfl) (fun _ _ _ h => h) rfl hH rfl ?_
  (try simp only [Act.put, List.setIfInBounds_toArray, List.set_cons_zero, List.set_cons_succ])
  refine takeH (i := 12) (dst := some 29) (v := ?v5) rfl rfl (by kernel_rfl) (by kernel_rfl) (by kernel_rfl) (fun _ _ _ h => h) rfl ?hy5 hH rfl ?rest5
  case hy5 => (intro W hW; have q0 := hW.geo.1; have q1 := hW.geo.2.1; have q2 := hW.geo.2.2.1; clear hW; go_simp; try with_reducible rfl)
  (try simp only [Act.put, List.setIfInBounds_toArray, List.set_cons_zero, List.set_cons_succ])
  refine wpAnyH_done (by kernel_rfl) ?_ _
  clear hH
  have HM : Hid _ := m1
  clear m1 gd
  go_wp2_with (first | ((with_reducible show wpList _ _ _ ({ dst := _, op := Op.store 38 _ _, type := _, pos := _, after := _, guard := _ } :: _) _ _); refine wpList_store_head rfl _ _ rfl (HM.out.f.res) rfl rfl rfl rfl ?_; intro w7 H7 b7 z7))
  exact bodyPost_ret (results_head rfl _ H7 rfl) rfl ⟨rfl, HM.out.geo.2.2.2.trans (b7.mono (by omega))⟩
set_option maxRecDepth 100000 in
set_option maxHeartbeats 4000000 in
theorem gget_ok (a i n : Int) (bb off cap : Nat) (l : List UInt8) (hl : l.length = 256) (hok : okB a i n = true) (hr : rgB a i n (rdNG l) (rdB l) (rdS l) = true) (hne : (backL a i l == l) = true) (w : World) (hsrc : Src w (some ⟨bb, off, none⟩) l) (hc : (256 : Int) ≤ cap) (hm : (cap : Int) ≤ 9223372036854775807) :
    Calls Tryz.prog 64 #[.agg #[.int .i64 a, .int .i64 i, .int .i64 n], .slice (some ⟨bb, off, none⟩) 256 cap] w fun e w' => e = .returned (.tuple #[.agg (hA (rdNG l) (rdB l) (rdS l)), .int .i64 0]) ∧ Below w.heap.size w w' := by
  have HF : Hid _ := F0.start w a i n
  have RT := right_any a i n
  rw [hok] at RT
  have hz := zero28
  have RD := fun W (h : Src W (some ⟨bb, off, none⟩) l) => read_anyG bb off cap l hl W h hc hm
  have HSR : Hid (Src w (some ⟨bb, off, none⟩) l) := hsrc
  have HLB : Hid ((rdB l).length = 16) := rdB_length hl
  have HLS : Hid ((rdS l).length = 8) := rdS_length hl
  have GR := gright_any a i n (rdNG l) (rdB l) (rdS l) HLB.out HLS.out
  rw [hr] at GR
  have LA := fun W => lay_yes a i n (rdNG l) (rdB l) (rdS l) HLB.out HLS.out hr W
  have HBL : Hid ((backL a i l).length = 256) := layL_length _ _ _ _ _ HLB.out HLS.out
  have HNE : Hid ((!(backL a i l == l)) = false) := by rw [show (backL a i l == l) = true from hne]; rfl
  rw [show layL (rdNG l) (frN (rdB l) a).toNat (frN (rdS l) i).toNat (rdB l) (rdS l) = backL a i l from rfl] at LA
  clear hne
  have hat : ∀ w, (Instr.arrayAt 126 (.slice (some ⟨bb, off, none⟩) 256 cap)).run Tryz.prog w = .ok (.pointer (some ⟨bb, off, none⟩)) w := fun w => run_arrayAt w 126 _ 256 _ 256 cap Tryz.underlying126 (Nat.le_refl _)
  clear hok hsrc
  go_enter Tryz.func64, Tryz.ntmps64
  go_wp2_with fail
  refine (RT _).mono ?_
  rintro e w1 ⟨rfl, h1⟩
  have HF1 : Hid _ := HF.out.up h1
  have hsz1 := HF1.out.geo.2.2.2.size
  clear HF RT h1
  go_wp2_with fail
  refine (RD _ (HSR.out.below HF1.out.geo.2.2.2 (Nat.le_refl _))).mono ?_
  rintro e w2 ⟨rfl, h2⟩
  have HF2 : Hid _ := HF1.out.up h2
  have hl2 := HF2.out.res.lt
  clear RD HF1 h2
  have HN : Hid (HeadAt (w2.alloc (.cells (hA 0 z16 z8) 38)) w2.heap.size 0 z16 z8) := head_new w2 0 z16 z8 rfl rfl
  have HNB : Hid (Below w2.heap.size w2 (w2.alloc (.cells (hA 0 z16 z8) 38))) := (Below.refl _ _).alloc (Nat.le_refl _) _
  go_wp2_with (first | ((with_reducible show wpList _ _ _ ({ dst := _, op := Op.store 38 _ _, type := _, pos := _, after := _, guard := _ } :: _) _ _); refine wpList_store_head rfl _ _ rfl (HN.out) HLB.out HLS.out rfl rfl ?_; intro w3 H3 b3 z3))
  have f3 : F0 w a i n w3 := (HF2.out.up HNB.out).below b3 hl2
  have g3 : GW w a i n bb off l w2.heap.size w3 := ⟨f3, H3, HSR.out.below f3.geo.2.2.2 (Nat.le_refl _)⟩
  have gd := g3.up (Below.refl _ _).drew
  clear f3 g3 H3 b3 z3 HN HNB HF2 HSR
  refine wp_region_held_drew (S := (fun W => GW w a i n bb off l w2.heap.size W)) (by kernel_rfl) gd (fun hH => ?_)
  refine takeH (i := 0) (dst := some 17) (v := ?v17) rfl rfl (by kernel_rfl) (by kernel_rfl) (by kernel_rfl) (fun _ _ _ h => h) rfl ?hy17 hH rfl ?rest17
  case hy17 => (intro W hW; have q0 := hW.geo.1; have q1 := hW.geo.2.1; have q2 := hW.geo.2.2.1; clear hW; go_simp; try with_reducible rfl)
  (try simp only [Act.put, List.setIfInBounds_toArray, List.set_cons_zero, List.set_cons_succ])
  refine takeH (i := 1) (dst := some 18) (v := ?v18) rfl rfl (by kernel_rfl) (by kernel_rfl) (by kernel_rfl) (fun _ _ _ h => h) rfl ?hy18 hH rfl ?rest18
  case hy18 => (intro W hW; refine exec_load_head (x := Operand.tmp 6) hW.head ?_ ?_ <;> rfl)
  (try simp only [Act.put, List.setIfInBounds_toArray, List.set_cons_zero, List.set_cons_succ])
  refine callH (i := 2) { dst := some 19, op := Go.Op.call { callee := Go.Callee.value (Go.Operand.func 65), args := #[Go.Operand.tmp 17, Go.Operand.tmp 18], argTypes := #[23, 38] }, type := 4, pos := "group.go:127", after := #[{ on := 0, ground := Go.Ground.data }, { on := 1, ground := Go.Ground.data }], guard := none } (by kernel_rfl) rfl rfl (fun K hK => ?_)
  go_simp
  refine (GR _).mono ?_
  rintro e v1 ⟨rfl, n1⟩
  have m1 := gd.up n1
  clear n1
  clear hH
  refine hK.out _ _ m1 (fun hH => ?_)
  clear hK K
  (try simp only [Act.put, List.setIfInBounds_toArray, List.set_cons_zero, List.set_cons_succ])
  refine takeH (i := 3) (dst := some 20) (v := ?v19) rfl rfl (by kernel_rfl) (by kernel_rfl) (by kernel_rfl) (fun _ _ _ h => h) rfl ?hy19 hH rfl ?rest19
  case hy19 => (intro W hW; have q0 := hW.geo.1; have q1 := hW.geo.2.1; have q2 := hW.geo.2.2.1; clear hW; go_simp; try with_reducible rfl)
  (try simp only [Act.put, List.setIfInBounds_toArray, List.set_cons_zero, List.set_cons_succ])
  refine takeH (i := 4) (dst := some 21) (v := ?v20) rfl rfl (by kernel_rfl) (by kernel_rfl) (by kernel_rfl) (fun _ _ _ h => h) rfl ?hy20 hH rfl ?rest20
  case hy20 => (intro W hW; have q0 := hW.geo.1; have q1 := hW.geo.2.1; have q2 := hW.geo.2.2.1; clear hW; go_simp; try with_reducible rfl)
  (try simp only [Act.put, List.setIfInBounds_toArray, List.set_cons_zero, List.set_cons_succ])
  refine takeH (i := 5) (dst := some 22) (v := ?v21) rfl rfl (by kernel_rfl) (by kernel_rfl) (by kernel_rfl) (fun _ _ _ h => h) rfl ?hy21 hH rfl ?rest21
  case hy21 => (intro W hW; have q0 := hW.geo.1; have q1 := hW.geo.2.1; have q2 := hW.geo.2.2.1; clear hW; go_simp; try with_reducible rfl)
  (try simp only [Act.put, List.setIfInBounds_toArray, List.set_cons_zero, List.set_cons_succ])
  refine takeH (i := 6) (dst := some 23) (v := ?v22) rfl rfl (by kernel_rfl) (by kernel_rfl) (by kernel_rfl) (fun _ _ _ h => h) rfl ?hy22 hH rfl ?rest22
  case hy22 => (intro W hW; refine exec_load_head (x := Operand.tmp 6) hW.head ?_ ?_ <;> rfl)
  (try simp only [Act.put, List.setIfInBounds_toArray, List.set_cons_zero, List.set_cons_succ])
  refine takeH (i := 8) (dst := some 25) (v := ?v23) rfl rfl (by kernel_rfl) (by kernel_rfl) (by kernel_rfl) (fun _ _ _ h => h) rfl ?hy23 hH rfl ?rest23
  case hy23 => (intro W hW; have q0 := hW.geo.1; have q1 := hW.geo.2.1; have q2 := hW.geo.2.2.1; clear hW; go_simp; try with_reducible rfl)
  (try simp only [Act.put, List.setIfInBounds_toArray, List.set_cons_zero, List.set_cons_succ])
  refine takeH (i := 9) (dst := some 26) (v := ?v24) rfl rfl (by kernel_rfl) (by kernel_rfl) (by kernel_rfl) (fun _ _ _ h => h) rfl ?hy24 hH rfl ?rest24
  case hy24 => (intro W hW; have q0 := hW.geo.1; have q1 := hW.geo.2.1; have q2 := hW.geo.2.2.1; clear hW; go_simp; try with_reducible rfl)
  (try simp only [Act.put, List.setIfInBounds_toArray, List.set_cons_zero, List.set_cons_succ])
  refine takeH (i := 10) (dst := some 27) (v := ?v25) rfl rfl (by kernel_rfl) (by kernel_rfl) (by kernel_rfl) (fun _ _ _ h => h) rfl ?hy25 hH rfl ?rest25
  case hy25 => (intro W hW; refine exec_load_256 (x := Operand.tmp 26) hW.src hl ?_ ?_ <;> rfl)
  (try simp only [Act.put, List.setIfInBounds_toArray, List.set_cons_zero, List.set_cons_succ])
  refine callH (i := 7) { dst := some 24, op := Go.Op.call { callee := Go.Callee.value (Go.Operand.func 66), args := #[Go.Operand.tmp 22, Go.Operand.tmp 23], argTypes := #[23, 38] }, type := 126, pos := "group.go:127", after := #[{ on := 5, ground := Go.Ground.data }, { on := 6, ground := Go.Ground.data }, { on := 4, ground := Go.Ground.chain }, { on := 4, ground := Go.Ground.guard }], guard := some (4, false) } (by kernel_rfl) rfl rfl (fun K hK => ?_)
  go_simp
  refine (LA _).mono ?_
  rintro e v2 ⟨rfl, n2⟩
  have m2 := m1.up n2
  clear n2
  clear hH
  refine hK.out _ _ m2 (fun hH => ?_)
  clear hK K
  (try simp only [Act.put, List.setIfInBounds_toArray, List.set_cons_zero, List.set_cons_succ])
  refine takeH (i := 11) (dst := some 28) (v := ?v26) rfl rfl (by kernel_rfl) (by kernel_rfl) (by kernel_rfl) (fun _ _ _ h => h) rfl ?hy26 hH rfl ?rest26
  case hy26 => (intro W hW; refine exec_neq_256 (X := Operand.tmp 24) (Y := Operand.tmp 27) HBL.out hl HNE.out ?_ ?_ ?_ <;> rfl)
  (try simp only [Act.put, List.setIfInBounds_toArray, List.set_cons_zero, List.set_cons_succ])
  refine takeH (i := 12) (dst := some 29) (v := ?v27) rfl rfl (by kernel_rfl) (by kernel_rfl) (by kernel_rfl) (fun _ _ _ h => h) rfl ?hy27 hH rfl ?rest27
  case hy27 => (intro W hW; have q0 := hW.geo.1; have q1 := hW.geo.2.1; have q2 := hW.geo.2.2.1; clear hW; go_simp; try with_reducible rfl)
  (try simp only [Act.put, List.setIfInBounds_toArray, List.set_cons_zero, List.set_cons_succ])
  refine wpAnyH_done (by kernel_rfl) ?_ _
  clear hH
  have HM : Hid _ := m2
  clear m2 gd m1
  go_wp2_with (first | ((with_reducible show wpList _ _ _ ({ dst := _, op := Op.load 38 _, type := _, pos := _, after := _, guard := _ } :: _) _ _); refine wpList_load_head rfl _ rfl (HM.out.head) rfl ?_) | ((with_reducible show wpList _ _ _ ({ dst := _, op := Op.store 38 _ _, type := _, pos := _, after := _, guard := _ } :: _) _ _); refine wpList_store_head rfl _ _ rfl (HM.out.f.res) HLB.out HLS.out rfl rfl ?_; intro w7 H7 b7 z7))
  exact bodyPost_ret (results_head rfl _ H7 rfl) rfl ⟨rfl, HM.out.geo.2.2.2.trans (b7.mono (by omega))⟩
end Go.Proofs.YtkiifmnmeikdlaaGreatDoor
/- Inodes as values and in memory: laws for the walk. -/
namespace Go.Proofs.YtkiifmnmeikdlaaGreatDoor
open Go.RowKit
set_option maxRecDepth 100000
def ivs (l : List Int) : List Value := l.map (fun x => Value.int .i64 x)
theorem ivs_length (l : List Int) : (ivs l).length = l.length := by simp [ivs]
theorem ivs_one (l : List Int) : ∀ v ∈ ivs l, v.oneCell' = true := by
  intro v hv; simp only [ivs, List.mem_map] at hv; obtain ⟨b, _, rfl⟩ := hv; rfl
theorem ivs_append (a b : List Int) : ivs (a ++ b) = ivs a ++ ivs b := by simp [ivs]
theorem ivs_take (k : Nat) (l : List Int) : ivs (l.take k) = (ivs l).take k := by simp [ivs, List.map_take]
theorem ivs_drop (k : Nat) (l : List Int) : ivs (l.drop k) = (ivs l).drop k := by simp [ivs, List.map_drop]
/-- An inode: Kind, Links, Size, Id, and the eight names P, In, Din. -/
structure Ino where
  k : Int
  l : Int
  s : Int
  d : Int
  ns : List Int
/-- Its cells. -/
def iL (i : Ino) : List Value := Value.int .i64 i.k :: Value.int .i64 i.l :: Value.int .i64 i.s :: Value.int .i64 i.d :: ivs i.ns
def iA (i : Ino) : Array Value := (iL i).toArray
theorem iL_length {i : Ino} (h : i.ns.length = 8) : (iL i).length = 12 := by simp [iL, ivs_length, h]
theorem iA_size {i : Ino} (h : i.ns.length = 8) : (iA i).size = 12 := by rw [iA, List.size_toArray, iL_length h]
theorem iL_one (i : Ino) : ∀ v ∈ iL i, v.oneCell' = true := by
  intro v hv
  simp only [iL, List.mem_cons] at hv
  rcases hv with rfl | rfl | rfl | rfl | h
  · rfl
  · rfl
  · rfl
  · rfl
  · exact ivs_one _ v h
theorem iA_one (i : Ino) : (iA i).all (·.oneCell') = true := all_oneCell_toArray (iL_one i)
def zino : Ino := ⟨0, 0, 0, 0, [0, 0, 0, 0, 0, 0, 0, 0]⟩
theorem Tryz.sz30 : (Tryz.prog.info? 30).map (·.size) = some 12 := by kernel_rfl
theorem zeroI : ∀ w, (zeroValue 30).run Tryz.prog w = .ok (.agg (iA zino)) w := by
  have h : (Tryz.prog.info? 30).map (fun i => i.zero) = some (some (.agg (iA zino))) := by kernel_rfl
  intro w
  cases hi : Tryz.prog.info? 30 with
  | none => rw [hi] at h; cases h
  | some i =>
    rw [hi] at h
    have hz : i.zero = some (.agg (iA zino)) := Option.some.inj h
    have key : ∀ (v : Value) (w : World), i.zero = some v → (zeroValue 30).run Tryz.prog w = .ok v w := by
      intro v w hv
      simp [zeroValue, typeInfo, hi, hv]
    exact key _ w hz
/-- An inode lies at p. -/
structure InoAt (w : World) (p : Nat) (i : Ino) : Prop where
  row : w.heap[p]? = some (.cells (iA i) 30 (0, 0))
  ln : i.ns.length = 8
section
variable {w w' : World} {p : Nat} {i : Ino}
theorem InoAt.lt (h : InoAt w p i) : p < w.heap.size := (Array.getElem?_eq_some_iff.1 h.row).1
theorem InoAt.below (h : InoAt w p i) {B : Nat} (hb : Below B w w') (hp : p < B) : InoAt w' p i := ⟨by rw [hb.block p hp]; exact h.row, h.ln⟩
theorem InoAt.up (h : InoAt w p i) (hb : Below w.heap.size w w') : InoAt w' p i := h.below hb h.lt
theorem InoAt.drew (h : InoAt w p i) : InoAt w.drew p i := ⟨h.row, h.ln⟩
theorem InoAt.c0 (h : InoAt w p i) : w.cell? ⟨p, 0, none⟩ = some (.int .i64 i.k) := by
  rw [cell_of_row w p 0 _ _ _ h.row]; simp [iA, iL]
theorem InoAt.c1 (h : InoAt w p i) : w.cell? ⟨p, 1, none⟩ = some (.int .i64 i.l) := by
  rw [cell_of_row w p 1 _ _ _ h.row]; simp [iA, iL]
theorem InoAt.c2 (h : InoAt w p i) : w.cell? ⟨p, 2, none⟩ = some (.int .i64 i.s) := by
  rw [cell_of_row w p 2 _ _ _ h.row]; simp [iA, iL]
theorem InoAt.c3 (h : InoAt w p i) : w.cell? ⟨p, 3, none⟩ = some (.int .i64 i.d) := by
  rw [cell_of_row w p 3 _ _ _ h.row]; simp [iA, iL]
theorem InoAt.name (h : InoAt w p i) (j : Nat) (hj : j < 8) : w.cell? ⟨p, 4 + j, none⟩ = some (.int .i64 (i.ns.getD j 0)) := by
  rw [cell_of_row w p (4 + j) _ _ _ h.row]
  have hl := h.ln
  have e : 4 + j = j + 1 + 1 + 1 + 1 := by omega
  rw [e]
  simp [iA, iL, ivs, hl, hj]
theorem InoAt.range (h : InoAt w p i) : w.rangeAt p 0 (iL i) := fun j v hv => by
  rw [Nat.zero_add, cell_of_row w p j _ _ _ h.row]
  simpa [iA] using hv
theorem ino_new (w : World) (i : Ino) (hn : i.ns.length = 8) : InoAt (w.alloc (.cells (iA i) 30)) w.heap.size i := ⟨heap_alloc_new _ _, hn⟩
theorem InoAt.alloc (h : InoAt w p i) (o : Obj) : InoAt (w.alloc o) p i := h.up ((Below.refl _ _).alloc (Nat.le_refl _) _)
end
/-- The load of a whole inode. -/
theorem wpList_load_ino {ops : Array Oper} {rest : List Oper} {op : Oper} {a : Act} {w : World} {Q : Exit → Act → World → Prop} (hw : Region.wanted op (yielded ops a.tmps) = true) (x : Operand) (ho : op.op = .load 30 x)
    {p : Nat} {i : Ino} (H : InoAt w p i) (hx : a.eval x = .pointer (some ⟨p, 0, none⟩))
    (h : wpList Tryz.prog ops Q rest (a.put op.dst (.agg (iA i))) w) : wpList Tryz.prog ops Q (op :: rest) a w :=
  wpList_want hw fun _ hK => wp_load_mid 30 x ho p 0 hx _ _ H.range Tryz.underlying30 rfl (by rw [Tryz.sz30, iL_length H.ln]) (hK _ _ h)
theorem exec_load_ino {ev : Operand → Value} {oi : Oper} {x : Operand} {w : World} {p : Nat} {i : Ino} (H : InoAt w p i) (ho : oi.op = .load 30 x) (hx : ev x = .pointer (some ⟨p, 0, none⟩)) :
    (execOp ev oi).run Tryz.prog w = .ok (.value (.agg (iA i))) w := by
  unfold execOp
  simp only [ho, hx, Instr.loadAt, Instr.sureAddr, Sem.run_bind, Sem.run_pure, Result.andThen_ok, run_loadVar_row w p 30 30 _ _ _ H.row Tryz.underlying30 rfl (by rw [Tryz.sz30, iA_size H.ln])]
/-- The store of a whole inode. -/
theorem wp_store_ino {op : Oper} {a : Act} {w : World} {K : Act → World → Prop} {Q : Exit → Act → World → Prop} (x y : Operand) (ho : op.op = .store 30 x y)
    {p : Nat} {i j : Ino} (H : InoAt w p i) (hj : j.ns.length = 8) (hx : a.eval x = .pointer (some ⟨p, 0, none⟩)) (hy : a.eval y = .agg (iA j))
    (h : ∀ w', InoAt w' p j → Below p w w' → w'.heap.size = w.heap.size → K (a.put op.dst undef) w') : op.wp Tryz.prog a w K Q := by
  have hrun := run_storeVar_row (P := Tryz.prog) w p 30 30 (iA i) (iA j) H.row (by rw [Tryz.sz30, iA_size hj]) (by rw [iA_size H.ln, iA_size hj]) (iA_one _)
  unfold Oper.wp execOp
  simp only [ho, hx, hy, Instr.storeAt, Instr.sureAddr, Sem.run_bind, Sem.run_pure, Result.andThen_ok, hrun]
  exact h _ ⟨setRow_heap w p _ _ 30 _ H.row, hj⟩ (below_setRow (Below.refl _ _) (Nat.le_refl _) _) (by simp)
theorem wpList_store_ino {ops : Array Oper} {rest : List Oper} {op : Oper} {a : Act} {w : World} {Q : Exit → Act → World → Prop} (hgd : op.guard = none) (x y : Operand) (ho : op.op = .store 30 x y)
    {p : Nat} {i j : Ino} (H : InoAt w p i) (hj : j.ns.length = 8) (hx : a.eval x = .pointer (some ⟨p, 0, none⟩)) (hy : a.eval y = .agg (iA j))
    (h : ∀ w', InoAt w' p j → Below p w w' → w'.heap.size = w.heap.size → wpList Tryz.prog ops Q rest (a.put op.dst undef) w') : wpList Tryz.prog ops Q (op :: rest) a w :=
  wpList_plain hgd fun _ hK => wp_store_ino x y ho H hj hx hy fun w' h1 h2 h3 => hK _ _ (h w' h1 h2 h3)
theorem results_ino {fn : Func} {q u : Tmp} (h : fn.results = #[.cell q 30, .tmp u]) (tmps : Array Value) {w : World} {p : Nat} {i : Ino} (H : InoAt w p i) (hp : tmps.getD q undef = .pointer (some ⟨p, 0, none⟩)) :
    (results fn tmps).run Tryz.prog w = .ok (.tuple #[.agg (iA i), tmps.getD u undef]) w := by
  rw [results_cell_tmp h, hp]
  simp [asAddr, run_loadVar_row w p 30 30 _ _ _ H.row Tryz.underlying30 rfl (by rw [Tryz.sz30, iA_size H.ln]), Result.andThen]
/-- Are two inodes alike? -/
def eqI (i j : Ino) : Bool := i.k == j.k && (i.l == j.l && (i.s == j.s && (i.d == j.d && i.ns == j.ns)))
theorem eqI_iff {i j : Ino} : eqI i j = true ↔ i = j := by
  obtain ⟨a, b, c, d, e⟩ := i
  obtain ⟨a', b', c', d', e'⟩ := j
  simp [eqI]
theorem size3 (w : World) : (sizeOf 3).run Tryz.prog w = .ok 1 w := size_of (by kernel_rfl) w
theorem eight_i {l : List Int} (h : l.length = 8) : ∃ a b c d e f g i, l = [a, b, c, d, e, f, g, i] := by
  match l, h with
  | [a, b, c, d, e, f, g, i], _ => exact ⟨a, b, c, d, e, f, g, i, rfl⟩
theorem part_int (t : TypeId) (ht : Tryz.prog.underlying t = some (.int .i64)) (cs : Array Value) (o : Nat) (x : Int) (hx : cs[o]? = some (.int .i64 x)) (w : World) : (part t cs o).run Tryz.prog w = .ok (.int .i64 x) w := by
  simp [part, isAgg, run_underlying ht, hx]
theorem eq_int (d : Nat) (t : TypeId) (ht : Tryz.prog.underlying t = some (.int .i64)) (a b : Int) (w : World) : (Op.equalIn (d + 1) t (.int .i64 a) (.int .i64 b)).run Tryz.prog w = .ok (a == b) w := run_equalIn_int w d t .i64 .i64 a b ht
end Go.Proofs.YtkiifmnmeikdlaaGreatDoor
/- Two inodes held against each other; arrays of names, of bytes. -/
namespace Go.Proofs.YtkiifmnmeikdlaaGreatDoor
open Go.RowKit
set_option maxRecDepth 100000
theorem eqf_step {P : Program} {d : Nat} {xs ys : Array Value} {f : Field} {fs : List Field} {a b : Value} {r r2 : Bool} {w : World} (hn : f.name ≠ "_") (h1 : (part f.type xs f.offset).run P w = .ok a w) (h2 : (part f.type ys f.offset).run P w = .ok b w) (h3 : (Op.equalIn d f.type a b).run P w = .ok r w)
    (h4 : (Op.eqFields d xs ys fs).run P w = .ok r2 w) : (Op.eqFields d xs ys (f :: fs)).run P w = .ok (r && r2) w := by
  simp only [Op.eqFields, if_pos hn, Sem.run_bind, h1, h2, h3, Result.andThen_ok]
  cases r
  · simp
  · simp [h4]
theorem eqi_step {P : Program} {d c : Nat} {e : TypeId} {xs ys : Array Value} {i : Nat} {is : List Nat} {a b : Value} {r r2 : Bool} {w : World} (h1 : (part e xs (i * c)).run P w = .ok a w) (h2 : (part e ys (i * c)).run P w = .ok b w) (h3 : (Op.equalIn d e a b).run P w = .ok r w)
    (h4 : (Op.eqItems d e c xs ys is).run P w = .ok r2 w) : (Op.eqItems d e c xs ys (i :: is)).run P w = .ok (r && r2) w := by
  simp only [Op.eqItems, Sem.run_bind, h1, h2, h3, Result.andThen_ok]
  cases r
  · simp
  · simp [h4]
theorem eq_six (a0 a1 a2 a3 a4 a5 b0 b1 b2 b3 b4 b5 : Int) (w : World) :
    (Op.equalIn 9999 28 (.agg (ivs [a0, a1, a2, a3, a4, a5]).toArray) (.agg (ivs [b0, b1, b2, b3, b4, b5]).toArray)).run Tryz.prog w = .ok (a0 == b0 && (a1 == b1 && (a2 == b2 && (a3 == b3 && (a4 == b4 && (a5 == b5 && true)))))) w := by
  have hi : (Tryz.prog.info? 3).isSome = true := by kernel_rfl
  obtain ⟨i, hi⟩ := Option.isSome_iff_exists.1 hi
  have hc : Tryz.prog.cellsOf 3 = 1 := by kernel_rfl
  rw [run_equalIn_array w 9998 _ _ Tryz.underlying28 hi, hc, show List.range 6 = [0, 1, 2, 3, 4, 5] from rfl]
  refine eqi_step (part_int 3 Tryz.underlying3 _ _ a0 rfl w) (part_int 3 Tryz.underlying3 _ _ b0 rfl w) (eq_int 9997 3 Tryz.underlying3 _ _ w) ?_
  refine eqi_step (part_int 3 Tryz.underlying3 _ _ a1 rfl w) (part_int 3 Tryz.underlying3 _ _ b1 rfl w) (eq_int 9997 3 Tryz.underlying3 _ _ w) ?_
  refine eqi_step (part_int 3 Tryz.underlying3 _ _ a2 rfl w) (part_int 3 Tryz.underlying3 _ _ b2 rfl w) (eq_int 9997 3 Tryz.underlying3 _ _ w) ?_
  refine eqi_step (part_int 3 Tryz.underlying3 _ _ a3 rfl w) (part_int 3 Tryz.underlying3 _ _ b3 rfl w) (eq_int 9997 3 Tryz.underlying3 _ _ w) ?_
  refine eqi_step (part_int 3 Tryz.underlying3 _ _ a4 rfl w) (part_int 3 Tryz.underlying3 _ _ b4 rfl w) (eq_int 9997 3 Tryz.underlying3 _ _ w) ?_
  refine eqi_step (part_int 3 Tryz.underlying3 _ _ a5 rfl w) (part_int 3 Tryz.underlying3 _ _ b5 rfl w) (eq_int 9997 3 Tryz.underlying3 _ _ w) ?_
  simp [Op.eqItems]
theorem seven_fields {fs : List Field} (h : (fs.map fun f => (f.name == "_", f.type, f.offset)) = [(false, 3, 0), (false, 3, 1), (false, 2, 2), (false, 2, 3), (false, 28, 4), (false, 3, 10), (false, 3, 11)]) :
    ∃ f0 f1 f2 f3 f4 f5 f6 : Field, fs = [f0, f1, f2, f3, f4, f5, f6] ∧ (f0.name ≠ "_" ∧ f0.type = 3 ∧ f0.offset = 0) ∧ (f1.name ≠ "_" ∧ f1.type = 3 ∧ f1.offset = 1) ∧ (f2.name ≠ "_" ∧ f2.type = 2 ∧ f2.offset = 2) ∧ (f3.name ≠ "_" ∧ f3.type = 2 ∧ f3.offset = 3) ∧ (f4.name ≠ "_" ∧ f4.type = 28 ∧ f4.offset = 4) ∧ (f5.name ≠ "_" ∧ f5.type = 3 ∧ f5.offset = 10) ∧ (f6.name ≠ "_" ∧ f6.type = 3 ∧ f6.offset = 11) := by
  have hl : fs.length = 7 := by have := congrArg List.length h; simpa using this
  obtain ⟨f0, f1, f2, f3, f4, f5, f6, rfl⟩ : ∃ f0 f1 f2 f3 f4 f5 f6, fs = [f0, f1, f2, f3, f4, f5, f6] := by
    match fs, hl with
    | [f0, f1, f2, f3, f4, f5, f6], _ => exact ⟨f0, f1, f2, f3, f4, f5, f6, rfl⟩
  simp only [List.map_cons, List.map_nil, List.cons.injEq, Prod.mk.injEq, beq_eq_false_iff_ne, and_true] at h
  exact ⟨f0, f1, f2, f3, f4, f5, f6, rfl, h.1, h.2.1, h.2.2.1, h.2.2.2.1, h.2.2.2.2.1, h.2.2.2.2.2.1, h.2.2.2.2.2.2⟩
theorem part_six (cs : Array Value) (o : Nat) (l : List Int) (hx : cs.extract o (o + 6) = (ivs l).toArray) (w : World) : (part 28 cs o).run Tryz.prog w = .ok (.agg (ivs l).toArray) w := by
  simp [part, isAgg, run_underlying Tryz.underlying28, hx]
theorem run_eq_ino {i j : Ino} (hi : i.ns.length = 8) (hj : j.ns.length = 8) (w : World) :
    (Op.equalIn 10000 30 (.agg (iA i)) (.agg (iA j))).run Tryz.prog w = .ok (eqI i j) w := by
  obtain ⟨k, l, s, d, ns⟩ := i
  obtain ⟨k2, l2, s2, d2, ns2⟩ := j
  obtain ⟨a0, a1, a2, a3, a4, a5, a6, a7, rfl⟩ := eight_i hi
  obtain ⟨b0, b1, b2, b3, b4, b5, b6, b7, rfl⟩ := eight_i hj
  rw [run_equalIn_struct (P := Tryz.prog) w 9999 30 _ _ (by kernel_rfl) (by kernel_rfl)]
  obtain ⟨f0, f1, f2, f3, f4, f5, f6, hfs, h0, h1, h2, h3, h4, h5, h6⟩ := seven_fields (fs := (Tryz.prog.fieldsOf 30).toList) (by kernel_rfl)
  rw [hfs]
  have e : eqI ⟨k, l, s, d, [a0, a1, a2, a3, a4, a5, a6, a7]⟩ ⟨k2, l2, s2, d2, [b0, b1, b2, b3, b4, b5, b6, b7]⟩ = (k == k2 && (l == l2 && (s == s2 && (d == d2 && ((a0 == b0 && (a1 == b1 && (a2 == b2 && (a3 == b3 && (a4 == b4 && (a5 == b5 && true)))))) && (a6 == b6 && (a7 == b7 && true))))))) := by
    simp [eqI, Bool.and_assoc]
  rw [e]
  refine eqf_step h0.1 (by rw [h0.2.1, h0.2.2]; exact part_int 3 Tryz.underlying3 _ _ k rfl w) (by rw [h0.2.1, h0.2.2]; exact part_int 3 Tryz.underlying3 _ _ k2 rfl w) (by rw [h0.2.1]; exact eq_int 9998 3 Tryz.underlying3 _ _ w) ?_
  refine eqf_step h1.1 (by rw [h1.2.1, h1.2.2]; exact part_int 3 Tryz.underlying3 _ _ l rfl w) (by rw [h1.2.1, h1.2.2]; exact part_int 3 Tryz.underlying3 _ _ l2 rfl w) (by rw [h1.2.1]; exact eq_int 9998 3 Tryz.underlying3 _ _ w) ?_
  refine eqf_step h2.1 (by rw [h2.2.1, h2.2.2]; exact part_int 2 Tryz.underlying2 _ _ s rfl w) (by rw [h2.2.1, h2.2.2]; exact part_int 2 Tryz.underlying2 _ _ s2 rfl w) (by rw [h2.2.1]; exact eq_int 9998 2 Tryz.underlying2 _ _ w) ?_
  refine eqf_step h3.1 (by rw [h3.2.1, h3.2.2]; exact part_int 2 Tryz.underlying2 _ _ d rfl w) (by rw [h3.2.1, h3.2.2]; exact part_int 2 Tryz.underlying2 _ _ d2 rfl w) (by rw [h3.2.1]; exact eq_int 9998 2 Tryz.underlying2 _ _ w) ?_
  refine eqf_step h4.1 (by rw [h4.2.1, h4.2.2]; exact part_six _ 4 [a0, a1, a2, a3, a4, a5] rfl w) (by rw [h4.2.1, h4.2.2]; exact part_six _ 4 [b0, b1, b2, b3, b4, b5] rfl w) (by rw [h4.2.1]; exact eq_six _ _ _ _ _ _ _ _ _ _ _ _ w) ?_
  refine eqf_step h5.1 (by rw [h5.2.1, h5.2.2]; exact part_int 3 Tryz.underlying3 _ _ a6 rfl w) (by rw [h5.2.1, h5.2.2]; exact part_int 3 Tryz.underlying3 _ _ b6 rfl w) (by rw [h5.2.1]; exact eq_int 9998 3 Tryz.underlying3 _ _ w) ?_
  refine eqf_step h6.1 (by rw [h6.2.1, h6.2.2]; exact part_int 3 Tryz.underlying3 _ _ a7 rfl w) (by rw [h6.2.1, h6.2.2]; exact part_int 3 Tryz.underlying3 _ _ b7 rfl w) (by rw [h6.2.1]; exact eq_int 9998 3 Tryz.underlying3 _ _ w) ?_
  simp [Op.eqFields]
theorem wpList_eq_ino {ops : Array Oper} {rest : List Oper} {op : Oper} {a : Act} {w : World} {Q : Exit → Act → World → Prop} (hw : Region.wanted op (yielded ops a.tmps) = true) (x y : Operand) (ho : op.op = .binOp .eql 30 x y 30)
    {i j : Ino} (hx : a.eval x = .agg (iA i)) (hy : a.eval y = .agg (iA j)) (hi : i.ns.length = 8) (hj : j.ns.length = 8) {b : Bool} (he : eqI i j = b)
    (h : wpList Tryz.prog ops Q rest (a.put op.dst (.bool b)) w) : wpList Tryz.prog ops Q (op :: rest) a w := by
  subst he
  refine wpList_want hw fun K hK => ?_
  have hg : ∀ X Y (w : World), (eqGuard .eql 30 x y (.agg X) (.agg Y)).run Tryz.prog w = .ok () w := fun X Y w => run_eqGuard_agg w .eql 30 x y X Y (by kernel_rfl)
  unfold Oper.wp execOp
  simp only [ho, hx, hy]
  simp [hg, run_eql_struct, run_eq_ino hi hj, Result.andThen]
  exact hK _ _ h
/-- The element of an array of eight numbers. -/
theorem run_index8 {ns : List Int} (hn : ns.length = 8) (k : Nat) (hk : k < 8) (w : World) : (Instr.index 164 (.agg (ivs ns).toArray) (.int .i64 (k : Int))).run Tryz.prog w = .ok (.int .i64 (ns.getD k 0)) w := by
  have hx : (ivs ns).toArray[k * 1]? = some (.int .i64 (ns.getD k 0)) := by simp [ivs, hn, hk]
  have h0 : (0 : Int) ≤ k ∧ (k : Int) < ((8 : Nat) : Int) := by omega
  have h3 := size3 w
  simp only [Instr.index, asIntOf, Sem.run_bind, Sem.run_pure, Result.andThen_ok, run_underlying Tryz.underlying164]
  simp only [Int.toNat_natCast]
  rw [if_pos h0]
  simp only [Sem.run_bind, h3, Result.andThen_ok]
  exact part_int 3 Tryz.underlying3 _ _ _ hx w
end Go.Proofs.YtkiifmnmeikdlaaGreatDoor
/- inode.named. -/
namespace Go.Proofs.YtkiifmnmeikdlaaGreatDoor
open Go.RowKit
set_option maxRecDepth 100000
/-- Block g is a row of numbers. -/
def RowI (w : World) (g : Nat) (t : TypeId) (l : List Int) : Prop := w.heap[g]? = some (.cells (ivs l).toArray t (0, 0))
section
variable {w w' : World} {g : Nat} {t : TypeId} {l : List Int}
theorem RowI.lt (h : RowI w g t l) : g < w.heap.size := (Array.getElem?_eq_some_iff.1 h).1
theorem RowI.below (h : RowI w g t l) {B : Nat} (hb : Below B w w') (hg : g < B) : RowI w' g t l := by unfold RowI; rw [hb.block g hg]; exact h
theorem RowI.up (h : RowI w g t l) (hb : Below w.heap.size w w') : RowI w' g t l := h.below hb h.lt
theorem RowI.cell (h : RowI w g t l) (j : Nat) (hj : j < l.length) : w.cell? ⟨g, j, none⟩ = some (.int .i64 (l.getD j 0)) := by
  rw [cell_of_row w g j _ _ _ h]; simp [ivs, hj]
theorem RowI.frozen (h : RowI w g t l) (j : Nat) : w.frozen? ⟨g, j, none⟩ = false := frozen_of_row w g j _ _ h
theorem RowI.range (h : RowI w g t l) : w.rangeAt g 0 (ivs l) := fun j v hv => by
  rw [Nat.zero_add, cell_of_row w g j _ _ _ h]
  simpa using hv
theorem RowI.set (h : RowI w g t l) (j : Nat) (x : Int) : RowI (w.setCell ⟨g, j, none⟩ (.int .i64 x)) g t (l.set j x) := by
  have e : ivs (l.set j x) = (ivs l).set j (.int .i64 x) := by simp [ivs]
  have e2 : (ivs (l.set j x)).toArray = (ivs l).toArray.setIfInBounds j (.int .i64 x) := by rw [e]; simp
  unfold RowI at h ⊢
  rw [e2]
  exact heap_setCell_same w g j _ t _ h
end
theorem zeroN : ∃ Z : Array Value, (∀ w, (zeroValue 164).run Tryz.prog w = .ok (.agg Z) w) ∧ Z.size = 8 ∧ Hid (Z = (ivs [0, 0, 0, 0, 0, 0, 0, 0]).toArray) := by
  have h : (Tryz.prog.info? 164).map (fun i => i.zero) = some (some (.agg (ivs [0, 0, 0, 0, 0, 0, 0, 0]).toArray)) := by kernel_rfl
  cases hi : Tryz.prog.info? 164 with
  | none => rw [hi] at h; cases h
  | some i =>
    rw [hi] at h
    have hz : i.zero = some (.agg (ivs [0, 0, 0, 0, 0, 0, 0, 0]).toArray) := Option.some.inj h
    have key : ∀ (v : Value) (w : World), i.zero = some v → (zeroValue 164).run Tryz.prog w = .ok v w := by
      intro v w hv
      simp [zeroValue, typeInfo, hi, hv]
    exact ⟨_, fun w => key _ w hz, rfl, rfl⟩
theorem Tryz.sz164 : (Tryz.prog.info? 164).map (·.size) = some 8 := by kernel_rfl
theorem Tryz.elemI : (Tryz.prog.info? 3).map (·.size) = some 1 := by kernel_rfl
/-- 'copy' of numbers into the head of a row. -/
theorem copy_ints {w : World} {g n m : Nat} (dCap sCap : Nat) {b o : Nat} {t : TypeId} {cur x : List Int} (hg : RowI w g t cur) (hl : cur.length = n) (hs : ∀ j, j < x.length → w.cell? ⟨b, o + j, none⟩ = some (.int .i64 (x.getD j 0))) (hx : x.length = m) (h0 : m ≤ n) :
    ∃ w1, (Builtin.copy_ #[182, 182] 3 #[.slice (some ⟨g, 0, none⟩) n dCap, .slice (some ⟨b, o, none⟩) m sCap]).run Tryz.prog w = .ok (.int .i64 (m : Nat)) w1 ∧
      RowI w1 g t (x ++ cur.drop m) ∧ Below g w w1 ∧ w1.heap.size = w.heap.size := by
  have hcs : ∀ j v, (ivs x)[j]? = some v → w.cell? ((⟨b, o, none⟩ : Addr).add j) = some v := by
    intro j v hv
    have hj : j < (ivs x).length := (List.getElem?_eq_some_iff.1 hv).1
    rw [ivs_length] at hj
    rw [addr_add, hs j hj, ← hv]
    simp [ivs, hj]
  have hrun := run_copy_row (P := Tryz.prog) w 182 182 3 3 g 0 n dCap ⟨b, o, none⟩ m sCap (ivs cur).toArray t (ivs x) Tryz.underlying182 Tryz.elemI hg (by rw [ivs_length, hx]; exact (Nat.min_eq_left h0).symm) hcs (by simp only [ivs_length, List.size_toArray]; omega) (ivs_one _)
  rw [ivs_length, hx] at hrun
  refine ⟨_, hrun, ?_, below_setRow (Below.refl _ _) (Nat.le_refl _) _, by simp⟩
  have := setRow_heap w g _ ((ivs cur).toArray.toList.take 0 ++ ivs x ++ (ivs cur).toArray.toList.drop (0 + m)).toArray t _ hg
  rw [RowI, this]
  congr 3
  simp [ivs_append, ivs_drop]
theorem wpList_load_row {ops : Array Oper} {rest : List Oper} {op : Oper} {a : Act} {w : World} {Q : Exit → Act → World → Prop} (hgd : op.guard = none) (x : Operand) (ho : op.op = .load 164 x)
    {G : Nat} {t : TypeId} {s : List Int} (H : RowI w G t s) (hs : s.length = 8) (hx : a.eval x = .pointer (some ⟨G, 0, none⟩))
    (h : wpList Tryz.prog ops Q rest (a.put op.dst (.agg (ivs s).toArray)) w) : wpList Tryz.prog ops Q (op :: rest) a w :=
  wpList_load_mid hgd 164 x ho G 0 hx (ivs s) _ H.range Tryz.underlying164 rfl (by rw [Tryz.sz164, ivs_length, hs]) h
theorem wpList_store_row {ops : Array Oper} {rest : List Oper} {op : Oper} {a : Act} {w : World} {Q : Exit → Act → World → Prop} (hgd : op.guard = none) (x y : Operand) (ho : op.op = .store 164 x y)
    {G : Nat} {Z : Array Value} {s : List Int} (H : w.heap[G]? = some (.cells Z 164 (0, 0))) (hZ : Z.size = 8) (hs : s.length = 8) (hx : a.eval x = .pointer (some ⟨G, 0, none⟩)) (hy : a.eval y = .agg (ivs s).toArray)
    (h : ∀ w', RowI w' G 164 s → Below G w w' → w'.heap.size = w.heap.size → wpList Tryz.prog ops Q rest (a.put op.dst undef) w') : wpList Tryz.prog ops Q (op :: rest) a w := by
  refine wpList_plain hgd fun K hK => ?_
  have hsz : (ivs s).toArray.size = 8 := by rw [List.size_toArray, ivs_length, hs]
  have hrun := run_storeVar_row (P := Tryz.prog) w G 164 164 Z (ivs s).toArray H (by rw [Tryz.sz164, hsz]) (by rw [hZ, hsz]) (all_oneCell_toArray (ivs_one _))
  unfold Oper.wp execOp
  simp only [ho, hx, hy, Instr.storeAt, Instr.sureAddr, Sem.run_bind, Sem.run_pure, Result.andThen_ok, hrun]
  exact hK _ _ (h _ (setRow_heap w G _ _ 164 _ H) (below_setRow (Below.refl _ _) (Nat.le_refl _) _) (by simp))
/-- What named has laid. -/
structure NW (w0 : World) (Z : Array Value) (i : Ino) (q : Nat) (cur : List Int) (W : World) : Prop where
  b : Below w0.heap.size w0 W
  ino : InoAt W w0.heap.size i
  res : W.heap[w0.heap.size + 1]? = some (.cells Z 164 (0, 0))
  row : RowI W q 164 cur
  lt : w0.heap.size + 1 < q
theorem NW.low {w0 W W' : World} {Z : Array Value} {i : Ino} {q : Nat} {cur cur' : List Int} (h : NW w0 Z i q cur W) (hb : Below q W W') (hr : RowI W' q 164 cur') : NW w0 Z i q cur' W' :=
  have hl := h.lt
  ⟨h.b.trans (hb.mono (by omega)), h.ino.below hb (by omega), by rw [hb.block _ (by omega)]; exact h.res, hr, hl⟩
theorem NW.start (w : World) (Z : Array Value) (i : Ino) (hn : i.ns.length = 8) (hz : Z = (ivs [0, 0, 0, 0, 0, 0, 0, 0]).toArray) :
    NW w Z i (w.heap.size + 2) [0, 0, 0, 0, 0, 0, 0, 0] (((w.alloc (.cells (iA i) 30)).alloc (.cells Z 164)).alloc (.cells Z 164)) := by
  have s1 : (w.alloc (.cells (iA i) 30)).heap.size = w.heap.size + 1 := by simp
  have s2 : ((w.alloc (.cells (iA i) 30)).alloc (.cells Z 164)).heap.size = w.heap.size + 2 := by simp
  have h1 := heap_alloc_new (w.alloc (.cells (iA i) 30)) (.cells Z 164)
  have h2 := heap_alloc_new ((w.alloc (.cells (iA i) 30)).alloc (.cells Z 164)) (.cells Z 164)
  rw [s1] at h1
  rw [s2] at h2
  refine ⟨(((Below.refl _ _).alloc (Nat.le_refl _) _).alloc (by simp) _).alloc (by simp; omega) _, ((ino_new w i hn).alloc _).alloc _, (Below.heap_alloc _ _ _ (by rw [s2]; omega)).trans h1, ?_, by omega⟩
  unfold RowI
  rw [← hz]
  exact h2
theorem names_set {ns : List Int} (hn : ns.length = 8) : ((ns.take 6 ++ List.drop 6 [0, 0, 0, 0, 0, 0, 0, 0]).set 6 (ns.getD 6 0)).set 7 (ns.getD 7 0) = ns := by
  obtain ⟨a0, a1, a2, a3, a4, a5, a6, a7, rfl⟩ := eight_i hn
  rfl
set_option maxHeartbeats 2000000 in
theorem named_any (i : Ino) (hn : i.ns.length = 8) (w : World) :
    Calls Tryz.prog 91 #[.agg (iA i)] w fun e w' => e = .returned (.agg (ivs i.ns).toArray) ∧ Below w.heap.size w w' := by
  obtain ⟨Z, hz, hzs, HZ⟩ := zeroN
  have HS : Hid _ := NW.start w Z i hn HZ.out
  go_enter Tryz.func91, Tryz.ntmps91
  go_wp2_with fail
  generalize ((w.alloc (.cells (iA i) 30)).alloc (.cells Z 164)).alloc (.cells Z 164) = W at *
  generalize w.heap.size + 2 = q at *
  have hs : NW w Z i q [0, 0, 0, 0, 0, 0, 0, 0] W.drew := HS.out.low (Below.refl _ _).drew (HS.out.row)
  clear HS HZ
  obtain ⟨w1, c1, r1, b1, _⟩ := copy_ints (n := 8) (m := 6) (b := w.heap.size) (o := 4) (x := i.ns.take 6) 8 6 hs.row rfl (fun j hj => by
    simp only [List.length_take] at hj
    rw [hs.ino.name j (by omega)]; simp [hn, show j < 6 by omega, show j < 8 by omega]) (by simp [hn]) (by omega)
  have s1 := hs.low b1 r1
  have H1 : Hid _ := s1
  clear hs r1 b1 s1
  refine wp_region_held_drew (S := (fun _ => True)) (by kernel_rfl) trivial (fun hH => ?_)
  refine takeH (i := 0) (dst := some 4) (v := ?v1) rfl rfl (by kernel_rfl) (by kernel_rfl) (by kernel_rfl) (fun _ _ _ h => h) rfl ?hy1 hH rfl ?rest1
  case hy1 => (intro W hW; clear hW; go_simp; try with_reducible rfl)
  (try simp only [Act.put, List.setIfInBounds_toArray, List.set_cons_zero, List.set_cons_succ])
  refine takeH (i := 1) (dst := some 5) (v := ?v2) rfl rfl (by kernel_rfl) (by kernel_rfl) (by kernel_rfl) (fun _ _ _ h => h) rfl ?hy2 hH rfl ?rest2
  case hy2 => (intro W hW; clear hW; go_simp; try with_reducible rfl)
  (try simp only [Act.put, List.setIfInBounds_toArray, List.set_cons_zero, List.set_cons_succ])
  refine takeH (i := 2) (dst := some 6) (v := ?v3) rfl rfl (by kernel_rfl) (by kernel_rfl) (by kernel_rfl) (fun _ _ _ h => h) rfl ?hy3 hH rfl ?rest3
  case hy3 => (intro W hW; clear hW; go_simp; try with_reducible rfl)
  (try simp only [Act.put, List.setIfInBounds_toArray, List.set_cons_zero, List.set_cons_succ])
  refine callH (i := 3) { dst := some 7, op := Go.Op.call { callee := Go.Callee.builtin Go.Builtin.copy, args := #[Go.Operand.tmp 4, Go.Operand.tmp 6], argTypes := #[182, 182] }, type := 3, pos := "inode.go:32", after := #[{ on := 0, ground := Go.Ground.data }, { on := 2, ground := Go.Ground.data }], guard := none } (by kernel_rfl) rfl rfl (fun K hK => ?_)
  go_simp
  clear hH
  refine hK.out _ _ trivial (fun hH => ?_)
  clear hK K
  (try simp only [Act.put, List.setIfInBounds_toArray, List.set_cons_zero, List.set_cons_succ])
  refine wpAnyH_done (by kernel_rfl) ?_ _
  clear hH
  clear c1
  obtain ⟨x6, X6⟩ : ∃ x, Hid (x = i.ns.getD 6 0) := ⟨_, rfl⟩
  obtain ⟨x7, X7⟩ : ∃ x, Hid (x = i.ns.getD 7 0) := ⟨_, rfl⟩
  have hq := H1.out.lt
  have q10 : w1.cell? ⟨w.heap.size, 10, none⟩ = some (.int .i64 x6) := by rw [X6.out]; exact H1.out.ino.name 6 (by omega)
  have q11 : w1.cell? ⟨w.heap.size, 11, none⟩ = some (.int .i64 x7) := by rw [X7.out]; exact H1.out.ino.name 7 (by omega)
  have r6 := H1.out.row.cell 6 (by simp [hn])
  have r7 := H1.out.row.cell 7 (by simp [hn])
  have f6 := H1.out.row.frozen 6
  have f7 := H1.out.row.frozen 7
  have s2 : NW w Z i q i.ns ((w1.setCell ⟨q, 6, none⟩ (.int .i64 x6)).setCell ⟨q, 7, none⟩ (.int .i64 x7)) := by
    have rr := (H1.out.row.set 6 x6).set 7 x7
    rw [X6.out, X7.out, names_set hn] at rr
    rw [X6.out, X7.out]
    exact H1.out.low (((Below.refl _ _).setCell (by simp) _).setCell (by simp) _) rr
  have H2 : Hid _ := s2
  have HN : Hid (i.ns.length = 8) := hn
  clear s2 hn
  go_wp2_with (first | ((with_reducible show wpList _ _ _ ({ dst := _, op := Op.load 164 _, type := _, pos := _, after := _, guard := _ } :: _) _ _); refine wpList_load_row rfl _ rfl H2.out.row HN.out rfl ?_) | ((with_reducible show wpList _ _ _ ({ dst := _, op := Op.store 164 _ _, type := _, pos := _, after := _, guard := _ } :: _) _ _); refine wpList_store_row rfl _ _ rfl H2.out.res hzs HN.out rfl rfl ?_; intro w9 H9 b9 z9))
  exact bodyPost_ret (results_cell_row rfl _ _ (w.heap.size + 1) 164 _ (0, 0) _ rfl H9 Tryz.underlying164 rfl (by rw [Tryz.sz164, List.size_toArray, ivs_length, HN.out])) rfl ⟨rfl, H2.out.b.trans (b9.mono (by omega))⟩
end Go.Proofs.YtkiifmnmeikdlaaGreatDoor
