/- inode.read. -/
import Derived.Test.YtabmogeicpphoaaJ3
import Derived.Test.YtabmogeicpphoaaKNGet
import Derived.Laws.Cover3
import Derived.Deep.DeepCutAuto
namespace Go.Proofs.Ytabmogeicpphoaa
open Go.RowKit
/-- A part of a slice of bytes. -/
theorem slice_sl (bb off len cap o l : Nat) (a b : Int) (ha : a = (o : Int)) (hb : b = (o : Int) + (l : Int)) (h1 : o < cap) (h : o + l ≤ cap) (w : World) :
    (Instr.slice 25 (.slice (some ⟨bb, off, none⟩) len cap) (some (.int .i64 a)) (some (.int .i64 b)) none).run Try.prog w = .ok (.slice (some ⟨bb, off + o, none⟩) l (cap - o)) w := by
  subst ha; subst hb
  have he : Try.prog.elem 25 = 5 := by kernel_rfl
  rw [run_slice_lh w 25 _ _ _ (by kernel_rfl) .i64 .i64 _ _ (by omega) (by omega) (by omega), he, size5]
  simp only [Result.andThen_ok, sliced, Int.toNat_natCast]
  rw [show ((o : Int) + (l : Int)).toNat = o + l by omega]
  simp [show ¬ cap = o by omega, addr_add]
theorem Src.part {w : World} {bb off : Nat} {l : List UInt8} (hs : Src w (some ⟨bb, off, none⟩) l) (o k : Nat) (h0 : 0 < l.length) (h : o + k ≤ l.length) : Src w (some ⟨bb, off + o, none⟩) ((l.drop o).take k) := by
  rcases hs with h1 | ⟨b', off', h1, h2, h3⟩
  · rw [h1] at h0; simp at h0
  · obtain ⟨rfl, rfl⟩ : bb = b' ∧ off = off' := by simpa using h1
    exact .inr ⟨bb, off + o, rfl, h2, fun j hj => by
      simp only [List.length_take, List.length_drop] at hj
      rw [Nat.add_assoc, h3 (o + j) (by omega)]; simp⟩
theorem getNum_lt {l : List UInt8} {n : Nat} (h : l.length = n) (hn : n ≤ 8) : getNum l < 2 ^ (8 * n) := by
  have e : getNum l = leNum l := by
    unfold getNum pad8
    rw [List.take_of_length_le (by omega)]
    have z : ∀ (k : Nat) (l : List UInt8), leNum (l ++ List.replicate k 0) = leNum l := by
      intro k
      induction k with
      | zero => intro l; simp
      | succ k ih => intro l; rw [List.replicate_succ', ← List.append_assoc, leNum_snoc, ih]; simp
    exact z _ _
  rw [e, ← h]
  exact leNum_lt l
/-- What the bytes say. -/
def rdP (l : List UInt8) (o n : Nat) : Nat := getNum ((l.drop o).take n)
theorem rdP_lt {l : List UInt8} {o n m : Nat} (hl : l.length = m) (h : o + n ≤ m) (hn : n ≤ 8) : rdP l o n < 2 ^ (8 * n) := getNum_lt (by simp [hl]; omega) hn
def rdNm (l : List UInt8) (k : Nat) : Int := (rdP l (16 + 2 * k) 2 : Int)
def rdNs (l : List UInt8) : List Int := (List.range 8).map (rdNm l)
def rdI (l : List UInt8) : Ino := ⟨nth l 0, rdP l 2 2, rdP l 4 4, IntKind.i64.wrap (rdP l 8 8 : Int), rdNs l⟩
theorem rdNs_length (l : List UInt8) : (rdNs l).length = 8 := by simp [rdNs]
theorem rdI_length (l : List UInt8) : (rdI l).ns.length = 8 := rdNs_length l
theorem run_build_ino (k l s d : Int) (ns : List Int) (hn : ns.length = 8) (w : World) :
    (Instr.build 24 #[(0, .int .i64 k), (1, .int .i64 l), (2, .int .i64 s), (3, .int .i64 d), (4, .agg (ivs (ns.take 6)).toArray), (5, .int .i64 (ns.getD 6 0)), (6, .int .i64 (ns.getD 7 0))]).run Try.prog w = .ok (.agg (iA ⟨k, l, s, d, ns⟩)) w := by
  obtain ⟨a0, a1, a2, a3, a4, a5, a6, a7, rfl⟩ := eight_i hn
  exact run_build w 24 _ _ (by kernel_rfl)
/-- Nothing but block q has changed. -/
structure Only (q : Nat) (W W' : World) : Prop where
  bel : Below q W W'
  blk : ∀ j, j ≠ q → W'.heap[j]? = W.heap[j]?
section
variable {w0 W W' : World} {q p : Nat}
theorem Only.cell (h : Only q W W') {a : Addr} (ha : a.block ≠ q) : W'.cell? a = W.cell? a := World.cell?_of_block (w := W) (h.blk _ ha)
theorem Src.only {sp : Option Addr} {l : List UInt8} (h : Src W sp l) (ho : Only q W W') (hp : ∀ b off, sp = some ⟨b, off, none⟩ → b ≠ q) : Src W' sp l := by
  rcases h with h | ⟨b, off, h1, h2, h3⟩
  · exact .inl h
  · exact .inr ⟨b, off, h1, by have := ho.bel.size; omega, fun k hk => (ho.cell (a := ⟨b, off + k, none⟩) (hp b off h1)).trans (h3 k hk)⟩
theorem Arg.only {sp : Option Addr} {cap : Nat} {l : List UInt8} (h : Arg W sp cap l) (ho : Only q W W') (hp : ∀ b off, sp = some ⟨b, off, none⟩ → b ≠ q) : Arg W' sp cap l := by
  rcases h with h | ⟨b, off, h1, h2, h3, h4, h5, h6⟩
  · exact .inl h
  · exact .inr ⟨b, off, h1, h2, h3, h4, h5, h6.only ho hp⟩
theorem only_setRow (W : World) (q : Nat) (cs : Array Value) : Only q W (W.setRow q cs) :=
  ⟨below_setRow (Below.refl _ _) (Nat.le_refl _) _, fun j hj => setRow_other W q j cs hj⟩
theorem InoAt.only {i : Ino} (h : InoAt W p i) (ho : Only q W W') (hp : p ≠ q) : InoAt W' p i := ⟨by rw [ho.blk p hp]; exact h.row, h.ln⟩
theorem RowI.only {t : TypeId} {l : List Int} (h : RowI W p t l) (ho : Only q W W') (hp : p ≠ q) : RowI W' p t l := by unfold RowI; rw [ho.blk p hp]; exact h
theorem Blk.only {t : TypeId} {l : List UInt8} (h : Blk W p t l) (ho : Only q W W') (hp : p ≠ q) : Blk W' p t l := by unfold Blk; rw [ho.blk p hp]; exact h
end
theorem wp_store_inoO {op : Oper} {a : Act} {w : World} {K : Act → World → Prop} {Q : Exit → Act → World → Prop} (x y : Operand) (ho : op.op = .store 24 x y)
    {p : Nat} {i j : Ino} (H : InoAt w p i) (hj : j.ns.length = 8) (hx : a.eval x = .pointer (some ⟨p, 0, none⟩)) (hy : a.eval y = .agg (iA j))
    (h : ∀ w', InoAt w' p j → Only p w w' → w'.heap.size = w.heap.size → K (a.put op.dst undef) w') : op.wp Try.prog a w K Q := by
  have hrun := run_storeVar_row (P := Try.prog) w p 24 24 (iA i) (iA j) H.row (by rw [Try.sz24, iA_size hj]) (by rw [iA_size H.ln, iA_size hj]) (iA_one _)
  unfold Oper.wp execOp
  simp only [ho, hx, hy, Instr.storeAt, Instr.sureAddr, Sem.run_bind, Sem.run_pure, Result.andThen_ok, hrun]
  exact h _ ⟨setRow_heap w p _ _ 24 _ H.row, hj⟩ (only_setRow _ _ _) (by simp)
theorem wpList_store_inoO {ops : Array Oper} {rest : List Oper} {op : Oper} {a : Act} {w : World} {Q : Exit → Act → World → Prop} (hgd : op.guard = none) (x y : Operand) (ho : op.op = .store 24 x y)
    {p : Nat} {i j : Ino} (H : InoAt w p i) (hj : j.ns.length = 8) (hx : a.eval x = .pointer (some ⟨p, 0, none⟩)) (hy : a.eval y = .agg (iA j))
    (h : ∀ w', InoAt w' p j → Only p w w' → w'.heap.size = w.heap.size → wpList Try.prog ops Q rest (a.put op.dst undef) w') : wpList Try.prog ops Q (op :: rest) a w :=
  wpList_plain hgd fun _ hK => wp_store_inoO x y ho H hj hx hy fun w' h1 h2 h3 => hK _ _ (h w' h1 h2 h3)
/-- What read has laid. -/
structure RI (w0 : World) (bb off : Nat) (l : List UInt8) (ns : List Int) (W : World) : Prop where
  b : Below w0.heap.size w0 W
  row : RowI W (w0.heap.size + 1) 70 ns
  src : Src W (some ⟨bb, off, none⟩) l
  hl : l.length = 64
section
variable {w0 W W' : World} {bb off : Nat} {l : List UInt8} {ns ns' : List Int}
theorem RI.up (h : RI w0 bb off l ns W) (hb : Below W.heap.size W W') : RI w0 bb off l ns W' :=
  ⟨h.b.trans (hb.mono h.b.size), h.row.up hb, h.src.below hb (Nat.le_refl _), h.hl⟩
theorem RI.c0 (h : RI w0 bb off l ns W) : W.cell? ⟨bb, off, none⟩ = some (.int .u8 (nth l 0)) := by
  have := h.src.cell 0 (by have := h.hl; omega)
  rw [bv_nth (by have := h.hl; omega)] at this
  exact this
theorem RI.n6 (h : RI w0 bb off l (rdNs l) W) : W.cell? ⟨w0.heap.size + 1, 6, none⟩ = some (.int .i64 ((rdNs l).getD 6 0)) := h.row.cell 6 (by simp [rdNs])
theorem RI.n7 (h : RI w0 bb off l (rdNs l) W) : W.cell? ⟨w0.heap.size + 1, 7, none⟩ = some (.int .i64 ((rdNs l).getD 7 0)) := h.row.cell 7 (by simp [rdNs])
end
theorem RI.only {w0 W W' : World} {bb off : Nat} {l : List UInt8} {ns : List Int} (h : RI w0 bb off l ns W) (ho : Only w0.heap.size W W') (hbb : bb < w0.heap.size) : RI w0 bb off l ns W' :=
  ⟨h.b.trans ho.bel, h.row.only ho (by omega), h.src.only ho (fun b o e => by cases e; omega), h.hl⟩
theorem RI.start (w : World) (Z : Array Value) (bb off : Nat) (l : List UInt8) (hl : l.length = 64) (hs : Src w (some ⟨bb, off, none⟩) l) (hz : Z = (ivs [0, 0, 0, 0, 0, 0, 0, 0]).toArray) :
    RI w bb off l [0, 0, 0, 0, 0, 0, 0, 0] ((w.alloc (.cells (iA zino) 24)).alloc (.cells Z 70)) := by
  have s1 : (w.alloc (.cells (iA zino) 24)).heap.size = w.heap.size + 1 := by simp
  have h1 := heap_alloc_new (w.alloc (.cells (iA zino) 24)) (.cells Z 70)
  rw [s1] at h1
  have hb : Below w.heap.size w ((w.alloc (.cells (iA zino) 24)).alloc (.cells Z 70)) := ((Below.refl _ _).alloc (Nat.le_refl _) _).alloc (by simp) _
  refine ⟨hb, ?_, hs.below hb (Nat.le_refl _), hl⟩
  unfold RowI
  rw [← hz]
  exact h1
/-- A number more in the row. -/
theorem RI.set {w0 W : World} {bb off : Nat} {l : List UInt8} {ns : List Int} (h : RI w0 bb off l ns W) (hbb : bb < w0.heap.size) (j : Nat) (x : Int) : RI w0 bb off l (ns.set j x) (W.setCell ⟨w0.heap.size + 1, j, none⟩ (.int .i64 x)) := by
  have hb : Below (w0.heap.size + 1) W (W.setCell ⟨w0.heap.size + 1, j, none⟩ (.int .i64 x)) := (Below.refl _ _).setCell (by simp) _
  refine ⟨h.b.trans (hb.mono (by omega)), h.row.set j x, ?_, h.hl⟩
  rcases h.src with h1 | ⟨b', off', h1, h2, h3⟩
  · exact .inl h1
  · obtain ⟨rfl, rfl⟩ : bb = b' ∧ off = off' := by simpa using h1
    exact .inr ⟨bb, off, rfl, by have := hb.size; omega, fun j hj => (hb.cell (p := ⟨bb, off + j, none⟩) (show bb < w0.heap.size + 1 by omega)).trans (h3 j hj)⟩
/-- The names up to k. -/
def upN (l : List UInt8) (k : Nat) : List Int := (List.range k).map (rdNm l) ++ List.replicate (8 - k) 0
theorem upN_set (l : List UInt8) (k : Nat) (hk : k < 8) : (upN l k).set k (rdNm l k) = upN l (k + 1) := by
  unfold upN
  rw [List.set_append_right _ _ (by simp), List.range_succ, List.map_append, show 8 - k = (8 - (k + 1)) + 1 by omega, List.replicate_succ]
  simp
theorem upN_length (l : List UInt8) (k : Nat) (hk : k ≤ 8) : (upN l k).length = 8 := by simp [upN]; omega
theorem exec_build_ino {ev : Operand → Value} {oi : Oper} {w : World} {x0 x1 x2 x3 x4 x5 x6 : Operand} {k l s d : Int} {ns : List Int} (hn : ns.length = 8) (ho : oi.op = .build 24 #[(0, x0), (1, x1), (2, x2), (3, x3), (4, x4), (5, x5), (6, x6)])
    (e0 : ev x0 = .int .i64 k) (e1 : ev x1 = .int .i64 l) (e2 : ev x2 = .int .i64 s) (e3 : ev x3 = .int .i64 d) (e4 : ev x4 = .agg (ivs (ns.take 6)).toArray) (e5 : ev x5 = .int .i64 (ns.getD 6 0)) (e6 : ev x6 = .int .i64 (ns.getD 7 0)) :
    (execOp ev oi).run Try.prog w = .ok (.value (.agg (iA ⟨k, l, s, d, ns⟩))) w := by
  have h := run_build_ino k l s d ns hn w
  unfold execOp
  simp only [ho, List.map_toArray, List.map_cons, List.map_nil, e0, e1, e2, e3, e4, e5, e6, Sem.run_bind, h, Result.andThen_ok]
  rfl
theorem exec_load_six {ev : Operand → Value} {oi : Oper} {x : Operand} {w : World} {g : Nat} {t : TypeId} {ns : List Int} (H : RowI w g t ns) (hn : ns.length = 8) (ho : oi.op = .load 22 x) (hx : ev x = .pointer (some ⟨g, 0, none⟩)) :
    (execOp ev oi).run Try.prog w = .ok (.value (.agg (ivs (ns.take 6)).toArray)) w := by
  unfold execOp
  simp only [ho, hx, Instr.loadAt, Instr.sureAddr, Sem.run_bind, Sem.run_pure, Result.andThen_ok, run_loadVar_mid w g 0 22 (ivs (ns.take 6)) _ (fun j v hv => by
    have hj : j < (ivs (ns.take 6)).length := (List.getElem?_eq_some_iff.1 hv).1
    rw [ivs_length, List.length_take] at hj
    rw [Nat.zero_add, H.cell j (by omega), ← hv]
    simp [ivs, hn, show j < 6 by omega, show j < 8 by omega]) Try.underlying22 rfl (by rw [show (Try.prog.info? 22).map (·.size) = some 6 by kernel_rfl, ivs_length]; simp [hn])]
attribute [local go_sem] wrapI
set_option maxRecDepth 100000 in
set_option maxHeartbeats 4000000 in
theorem iread_any (bb off cap : Nat) (l : List UInt8) (hl : l.length = 64) (w : World) (hsrc : Src w (some ⟨bb, off, none⟩) l) (hbb : bb < w.heap.size) (hc : (64 : Int) ≤ cap) (hm : (cap : Int) ≤ 9223372036854775807) :
    Calls Try.prog 50 #[.slice (some ⟨bb, off, none⟩) 64 cap] w fun e w' => e = .returned (.agg (iA (rdI l))) ∧ Below w.heap.size w w' := by
  obtain ⟨Z, hz, hzs, HZ⟩ := zeroN
  have hz2 := zeroI
  have HS : Hid _ := RI.start w Z bb off l hl hsrc HZ.out
  have HZI : Hid (InoAt ((w.alloc (.cells (iA zino) 24)).alloc (.cells Z 70)) w.heap.size zino) := (ino_new w zino rfl).alloc _
  have NG : ∀ o n : Nat, o + n ≤ 64 → ∀ W, Src W (some ⟨bb, off, none⟩) l → Calls Try.prog 71 #[.slice (some ⟨bb, off + o, none⟩) n (cap - o)] W fun e w' => e = .returned (.int .u64 (rdP l o n : Int)) ∧ Below W.heap.size W w' := by
    intro o n ho W hW
    have h := nget_any (some ⟨bb, off + o, none⟩) ((l.drop o).take n) (cap - o) W (hW.part o n (by omega) (by omega))
    rw [show ((l.drop o).take n).length = n by simp [hl]; omega] at h
    exact h
  have HL : Hid (l.length = 64) := hl
  clear HZ hsrc hl
  go_enter Try.func50, Try.ntmps50
  go_wp2_with fail
  generalize (w.alloc (.cells (iA zino) 24)).alloc (.cells Z 70) = W at *
  go_loopw [6] (fun t wr => ∃ k : Nat, k ≤ 8 ∧ t = .int .i64 k ∧ RI w bb off l (upN l k) wr ∧ InoAt wr w.heap.size zino) (fun t _ => 8 - (intOf t).toNat)
  case atStart => exact ⟨0, by omega, rfl, HS.out, HZI.out⟩
  case round =>
    obtain ⟨k, hk8, rfl, hri, hrz⟩ := hrel
    have HRI : Hid _ := hri
    have HRZ : Hid _ := hrz
    clear hri hrz HS HZI
    by_cases hlt : (k : Int) < 8
    · have hsl := slice_sl bb off 64 cap (16 + 2 * k) 2 (16 + (k : Int) * 2) (16 + (k : Int) * 2 + 2) (by omega) (by omega) (by omega) (by omega)
      have hx := rdP_lt (l := l) (o := 16 + 2 * k) (n := 2) HL.out (by omega) (by omega)
      have HU : Hid _ := upN_set l k (by omega)
      unfold rdNm at HU
      have HNG : Hid _ := NG (16 + 2 * k) 2 (by omega)
      clear NG
      generalize rdP l (16 + 2 * k) 2 = x at *
      have i1 : In64 (x : Int) := ⟨by omega⟩
      go_wp2_with fail
      refine (HNG.out _ HRI.out.src).mono ?_
      rintro e v8 ⟨rfl, h8⟩
      have H8 : Hid _ := HRI.out.up h8
      have H9z : Hid (InoAt (v8.setCell ⟨w.heap.size + 1, k, none⟩ (.int .i64 x)) w.heap.size zino) := (HRZ.out.up h8).below ((Below.refl (w.heap.size + 1) _).setCell (by simp) _) (by omega)
      have rc := H8.out.row.cell k (by rw [upN_length l k hk8]; omega)
      have rf := H8.out.row.frozen k
      have H9 : Hid (RI w bb off l (upN l (k + 1)) (v8.setCell ⟨w.heap.size + 1, k, none⟩ (.int .i64 x))) := by
        have := H8.out.set hbb k (x : Int)
        rw [HU.out] at this
        exact this
      clear h8 HRI HNG HU
      go_wp2_with fail
      go_roundw
      case rel => exact ⟨k + 1, by omega, by go_num, H9.out, H9z.out⟩
      case measure => simp [intOf]; omega
    · obtain rfl : k = 8 := by omega
      have HG : Hid (RI w bb off l (rdNs l) wr) := by
        have h := HRI.out
        rw [show upN l 8 = rdNs l by simp [upN, rdNs]] at h
        exact h
      clear HRI
      go_upto_region 8 with fail
      have hs2 := slice_sl bb off 64 cap 2 2 2 4 (by omega) (by omega) (by omega) (by omega)
      have hs4 := slice_sl bb off 64 cap 4 4 4 8 (by omega) (by omega) (by omega) (by omega)
      have hs8 := slice_sl bb off 64 cap 8 8 8 16 (by omega) (by omega) (by omega) (by omega)
      have hat : ∀ w', (Instr.arrayAt 22 (.slice (some ⟨w.heap.size + 1, 0, none⟩) 6 8)).run Try.prog w' = .ok (.pointer (some ⟨w.heap.size + 1, 0, none⟩)) w' := fun w' => run_arrayAt w' 22 _ 6 _ 6 8 Try.underlying22 (Nat.le_refl _)
      have n2 := NG 2 2 (by omega)
      have n4 := NG 4 4 (by omega)
      have n8 := NG 8 8 (by omega)
      have x2 := rdP_lt (l := l) (o := 2) (n := 2) HL.out (by omega) (by omega)
      have x4 := rdP_lt (l := l) (o := 4) (n := 4) HL.out (by omega) (by omega)
      have x8 := rdP_lt (l := l) (o := 8) (n := 8) HL.out (by omega) (by omega)
      have HRD : Hid (rdI l = ⟨nth l 0, rdP l 2 2, rdP l 4 4, IntKind.i64.wrap (rdP l 8 8 : Int), rdNs l⟩) := rfl
      generalize rdP l 2 2 = A2 at *
      generalize rdP l 4 4 = A4 at *
      obtain ⟨D8, HD8⟩ : ∃ x, Hid (x = IntKind.i64.wrap (rdP l 8 8 : Int)) := ⟨_, rfl⟩
      rw [← HD8.out] at HRD
      have hcv : IntKind.i64.wrap (rdP l 8 8 : Int) = D8 := HD8.out.symm
      generalize rdP l 8 8 = A8 at *
      have i2 : In64 (A2 : Int) := ⟨by omega⟩
      have i0 : In64 (nth l 0) := ⟨by have := nth_lo l 0; have := nth_hi l 0; omega⟩
      have i4 : In64 (A4 : Int) := ⟨by omega⟩
      have z0 := nth_lo l 0
      have z1 := nth_hi l 0
      obtain ⟨nm6, HN6⟩ : ∃ x, Hid (x = (rdNs l).getD 6 0) := ⟨_, rfl⟩
      obtain ⟨nm7, HN7⟩ : ∃ x, Hid (x = (rdNs l).getD 7 0) := ⟨_, rfl⟩
      have gd := HG.out.up (Below.refl _ _).drew
      have gz := HRZ.out.drew
      clear NG HG HRZ
      refine wp_region_held_drew (S := (fun W => RI w bb off l (rdNs l) W)) (by kernel_rfl) gd (fun hH => ?_)
      refine takeH (i := 0) (dst := some 22) (v := ?v1) rfl rfl (by kernel_rfl) (by kernel_rfl) (by kernel_rfl) (fun _ _ _ h => h) rfl ?hy1 hH rfl ?rest1
      case hy1 => (intro W hW; have s1 := hW.c0; have rc6 := hW.n6; have rc7 := hW.n7; rw [← HN6.out] at rc6; rw [← HN7.out] at rc7; clear hW; go_simp; try with_reducible rfl)
      (try simp only [Act.put, List.setIfInBounds_toArray, List.set_cons_zero, List.set_cons_succ])
      refine takeH (i := 1) (dst := some 23) (v := ?v2) rfl rfl (by kernel_rfl) (by kernel_rfl) (by kernel_rfl) (fun _ _ _ h => h) rfl ?hy2 hH rfl ?rest2
      case hy2 => (intro W hW; have s1 := hW.c0; have rc6 := hW.n6; have rc7 := hW.n7; rw [← HN6.out] at rc6; rw [← HN7.out] at rc7; clear hW; go_simp; try with_reducible rfl)
      (try simp only [Act.put, List.setIfInBounds_toArray, List.set_cons_zero, List.set_cons_succ])
      refine takeH (i := 2) (dst := some 24) (v := ?v3) rfl rfl (by kernel_rfl) (by kernel_rfl) (by kernel_rfl) (fun _ _ _ h => h) rfl ?hy3 hH rfl ?rest3
      case hy3 => (intro W hW; have s1 := hW.c0; have rc6 := hW.n6; have rc7 := hW.n7; rw [← HN6.out] at rc6; rw [← HN7.out] at rc7; clear hW; go_simp; try with_reducible rfl)
      (try simp only [Act.put, List.setIfInBounds_toArray, List.set_cons_zero, List.set_cons_succ])
      refine takeH (i := 3) (dst := some 25) (v := ?v4) rfl rfl (by kernel_rfl) (by kernel_rfl) (by kernel_rfl) (fun _ _ _ h => h) rfl ?hy4 hH rfl ?rest4
      case hy4 => (intro W hW; have s1 := hW.c0; have rc6 := hW.n6; have rc7 := hW.n7; rw [← HN6.out] at rc6; rw [← HN7.out] at rc7; clear hW; go_simp; try with_reducible rfl)
      (try simp only [Act.put, List.setIfInBounds_toArray, List.set_cons_zero, List.set_cons_succ])
      refine takeH (i := 4) (dst := some 26) (v := ?v5) rfl rfl (by kernel_rfl) (by kernel_rfl) (by kernel_rfl) (fun _ _ _ h => h) rfl ?hy5 hH rfl ?rest5
      case hy5 => (intro W hW; have s1 := hW.c0; have rc6 := hW.n6; have rc7 := hW.n7; rw [← HN6.out] at rc6; rw [← HN7.out] at rc7; clear hW; go_simp; try with_reducible rfl)
      (try simp only [Act.put, List.setIfInBounds_toArray, List.set_cons_zero, List.set_cons_succ])
      refine takeH (i := 5) (dst := some 27) (v := ?v6) rfl rfl (by kernel_rfl) (by kernel_rfl) (by kernel_rfl) (fun _ _ _ h => h) rfl ?hy6 hH rfl ?rest6
      case hy6 => (intro W hW; have s1 := hW.c0; have rc6 := hW.n6; have rc7 := hW.n7; rw [← HN6.out] at rc6; rw [← HN7.out] at rc7; clear hW; go_simp; try with_reducible rfl)
      (try simp only [Act.put, List.setIfInBounds_toArray, List.set_cons_zero, List.set_cons_succ])
      refine takeH (i := 8) (dst := some 30) (v := ?v7) rfl rfl (by kernel_rfl) (by kernel_rfl) (by kernel_rfl) (fun _ _ _ h => h) rfl ?hy7 hH rfl ?rest7
      case hy7 => (intro W hW; have s1 := hW.c0; have rc6 := hW.n6; have rc7 := hW.n7; rw [← HN6.out] at rc6; rw [← HN7.out] at rc7; clear hW; go_simp; try with_reducible rfl)
      (try simp only [Act.put, List.setIfInBounds_toArray, List.set_cons_zero, List.set_cons_succ])
      refine takeH (i := 9) (dst := some 31) (v := ?v8) rfl rfl (by kernel_rfl) (by kernel_rfl) (by kernel_rfl) (fun _ _ _ h => h) rfl ?hy8 hH rfl ?rest8
      case hy8 => (intro W hW; have s1 := hW.c0; have rc6 := hW.n6; have rc7 := hW.n7; rw [← HN6.out] at rc6; rw [← HN7.out] at rc7; clear hW; go_simp; try with_reducible rfl)
      (try simp only [Act.put, List.setIfInBounds_toArray, List.set_cons_zero, List.set_cons_succ])
      refine takeH (i := 12) (dst := some 34) (v := ?v9) rfl rfl (by kernel_rfl) (by kernel_rfl) (by kernel_rfl) (fun _ _ _ h => h) rfl ?hy9 hH rfl ?rest9
      case hy9 => (intro W hW; have s1 := hW.c0; have rc6 := hW.n6; have rc7 := hW.n7; rw [← HN6.out] at rc6; rw [← HN7.out] at rc7; clear hW; go_simp; try with_reducible rfl)
      (try simp only [Act.put, List.setIfInBounds_toArray, List.set_cons_zero, List.set_cons_succ])
      refine takeH (i := 13) (dst := some 35) (v := ?v10) rfl rfl (by kernel_rfl) (by kernel_rfl) (by kernel_rfl) (fun _ _ _ h => h) rfl ?hy10 hH rfl ?rest10
      case hy10 => (intro W hW; have s1 := hW.c0; have rc6 := hW.n6; have rc7 := hW.n7; rw [← HN6.out] at rc6; rw [← HN7.out] at rc7; clear hW; go_simp; try with_reducible rfl)
      (try simp only [Act.put, List.setIfInBounds_toArray, List.set_cons_zero, List.set_cons_succ])
      refine takeH (i := 16) (dst := some 38) (v := ?v11) rfl rfl (by kernel_rfl) (by kernel_rfl) (by kernel_rfl) (fun _ _ _ h => h) rfl ?hy11 hH rfl ?rest11
      case hy11 => (intro W hW; have s1 := hW.c0; have rc6 := hW.n6; have rc7 := hW.n7; rw [← HN6.out] at rc6; rw [← HN7.out] at rc7; clear hW; go_simp; try with_reducible rfl)
      (try simp only [Act.put, List.setIfInBounds_toArray, List.set_cons_zero, List.set_cons_succ])
      refine takeH (i := 17) (dst := some 39) (v := ?v12) rfl rfl (by kernel_rfl) (by kernel_rfl) (by kernel_rfl) (fun _ _ _ h => h) rfl ?hy12 hH rfl ?rest12
      case hy12 => (intro W hW; have s1 := hW.c0; have rc6 := hW.n6; have rc7 := hW.n7; rw [← HN6.out] at rc6; rw [← HN7.out] at rc7; clear hW; go_simp; try with_reducible rfl)
      (try simp only [Act.put, List.setIfInBounds_toArray, List.set_cons_zero, List.set_cons_succ])
      refine takeH (i := 18) (dst := some 40) (v := ?v13) rfl rfl (by kernel_rfl) (by kernel_rfl) (by kernel_rfl) (fun _ _ _ h => h) rfl ?hy13 hH rfl ?rest13
      case hy13 => (intro W hW; refine exec_load_six (x := Operand.tmp 39) hW.row (rdNs_length l) ?_ ?_ <;> rfl)
      (try simp only [Act.put, List.setIfInBounds_toArray, List.set_cons_zero, List.set_cons_succ])
      refine takeH (i := 19) (dst := some 41) (v := ?v14) rfl rfl (by kernel_rfl) (by kernel_rfl) (by kernel_rfl) (fun _ _ _ h => h) rfl ?hy14 hH rfl ?rest14
      case hy14 => (intro W hW; have s1 := hW.c0; have rc6 := hW.n6; have rc7 := hW.n7; rw [← HN6.out] at rc6; rw [← HN7.out] at rc7; clear hW; go_simp; try with_reducible rfl)
      (try simp only [Act.put, List.setIfInBounds_toArray, List.set_cons_zero, List.set_cons_succ])
      refine takeH (i := 20) (dst := some 42) (v := ?v15) rfl rfl (by kernel_rfl) (by kernel_rfl) (by kernel_rfl) (fun _ _ _ h => h) rfl ?hy15 hH rfl ?rest15
      case hy15 => (intro W hW; have s1 := hW.c0; have rc6 := hW.n6; have rc7 := hW.n7; rw [← HN6.out] at rc6; rw [← HN7.out] at rc7; clear hW; go_simp; try with_reducible rfl)
      (try simp only [Act.put, List.setIfInBounds_toArray, List.set_cons_zero, List.set_cons_succ])
      refine takeH (i := 21) (dst := some 43) (v := ?v16) rfl rfl (by kernel_rfl) (by kernel_rfl) (by kernel_rfl) (fun _ _ _ h => h) rfl ?hy16 hH rfl ?rest16
      case hy16 => (intro W hW; have s1 := hW.c0; have rc6 := hW.n6; have rc7 := hW.n7; rw [← HN6.out] at rc6; rw [← HN7.out] at rc7; clear hW; go_simp; try with_reducible rfl)
      (try simp only [Act.put, List.setIfInBounds_toArray, List.set_cons_zero, List.set_cons_succ])
      refine takeH (i := 22) (dst := some 44) (v := ?v17) rfl rfl (by kernel_rfl) (by kernel_rfl) (by kernel_rfl) (fun _ _ _ h => h) rfl ?hy17 hH rfl ?rest17
      case hy17 => (intro W hW; have s1 := hW.c0; have rc6 := hW.n6; have rc7 := hW.n7; rw [← HN6.out] at rc6; rw [← HN7.out] at rc7; clear hW; go_simp; try with_reducible rfl)
      (try simp only [Act.put, List.setIfInBounds_toArray, List.set_cons_zero, List.set_cons_succ])
      refine callH (i := 6) { dst := some 28, op := Go.Op.call { callee := Go.Callee.value (Go.Operand.func 71), args := #[Go.Operand.tmp 27], argTypes := #[25] }, type := 67, pos := "inode.go:109", after := #[{ on := 5, ground := Go.Ground.data }], guard := none } (by kernel_rfl) rfl rfl (fun K hK => ?_)
      go_simp
      refine (n2 _ gd.src).mono ?_
      rintro e v1 ⟨rfl, k1⟩
      have m1 := gd.up k1
      have r1 := gz.up k1
      clear k1
      clear hH
      refine hK.out _ _ m1 (fun hH => ?_)
      clear hK K
      (try simp only [Act.put, List.setIfInBounds_toArray, List.set_cons_zero, List.set_cons_succ])
      refine takeH (i := 7) (dst := some 29) (v := ?v18) rfl rfl (by kernel_rfl) (by kernel_rfl) (by kernel_rfl) (fun _ _ _ h => h) rfl ?hy18 hH rfl ?rest18
      case hy18 => (intro W hW; have s1 := hW.c0; have rc6 := hW.n6; have rc7 := hW.n7; rw [← HN6.out] at rc6; rw [← HN7.out] at rc7; clear hW; go_simp; try with_reducible rfl)
      (try simp only [Act.put, List.setIfInBounds_toArray, List.set_cons_zero, List.set_cons_succ])
      refine callH (i := 10) { dst := some 32, op := Go.Op.call { callee := Go.Callee.value (Go.Operand.func 71), args := #[Go.Operand.tmp 31], argTypes := #[25] }, type := 67, pos := "inode.go:110", after := #[{ on := 9, ground := Go.Ground.data }, { on := 6, ground := Go.Ground.chain }], guard := none } (by kernel_rfl) rfl rfl (fun K hK => ?_)
      go_simp
      refine (n4 _ m1.src).mono ?_
      rintro e v2 ⟨rfl, k2⟩
      have m2 := m1.up k2
      have r2 := r1.up k2
      clear k2
      clear hH
      refine hK.out _ _ m2 (fun hH => ?_)
      clear hK K
      (try simp only [Act.put, List.setIfInBounds_toArray, List.set_cons_zero, List.set_cons_succ])
      refine takeH (i := 11) (dst := some 33) (v := ?v19) rfl rfl (by kernel_rfl) (by kernel_rfl) (by kernel_rfl) (fun _ _ _ h => h) rfl ?hy19 hH rfl ?rest19
      case hy19 => (intro W hW; have s1 := hW.c0; have rc6 := hW.n6; have rc7 := hW.n7; rw [← HN6.out] at rc6; rw [← HN7.out] at rc7; clear hW; go_simp; try with_reducible rfl)
      (try simp only [Act.put, List.setIfInBounds_toArray, List.set_cons_zero, List.set_cons_succ])
      refine callH (i := 14) { dst := some 36, op := Go.Op.call { callee := Go.Callee.value (Go.Operand.func 71), args := #[Go.Operand.tmp 35], argTypes := #[25] }, type := 67, pos := "inode.go:111", after := #[{ on := 13, ground := Go.Ground.data }, { on := 10, ground := Go.Ground.chain }], guard := none } (by kernel_rfl) rfl rfl (fun K hK => ?_)
      go_simp
      refine (n8 _ m2.src).mono ?_
      rintro e v3 ⟨rfl, k3⟩
      have m3 := m2.up k3
      have r3 := r2.up k3
      clear k3
      clear hH
      refine hK.out _ _ m3 (fun hH => ?_)
      clear hK K
      (try simp only [Act.put, List.setIfInBounds_toArray, List.set_cons_zero, List.set_cons_succ])
      refine takeH (i := 15) (dst := some 37) (v := ?v20) rfl rfl (by kernel_rfl) (by kernel_rfl) (by kernel_rfl) (fun _ _ _ h => h) rfl ?hy20 hH rfl ?rest20
      case hy20 => (intro W hW; have s1 := hW.c0; have rc6 := hW.n6; have rc7 := hW.n7; rw [← HN6.out] at rc6; rw [← HN7.out] at rc7; clear hW; go_simp; try with_reducible rfl)
      (try simp only [Act.put, List.setIfInBounds_toArray, List.set_cons_zero, List.set_cons_succ])
      refine takeH (i := 23) (dst := some 45) (v := ?v21) rfl rfl (by kernel_rfl) (by kernel_rfl) (by kernel_rfl) (fun _ _ _ h => h) rfl ?hy21 hH rfl ?rest21
      case hy21 => (intro W hW; refine exec_build_ino (k := nth l 0) (l := A2) (s := A4) (d := D8) (x0 := Operand.tmp 25) (x1 := Operand.tmp 29) (x2 := Operand.tmp 33) (x3 := Operand.tmp 37) (x4 := Operand.tmp 40) (x5 := Operand.tmp 42) (x6 := Operand.tmp 44) (rdNs_length l) ?_ ?_ ?_ ?_ ?_ ?_ ?_ ?_ <;> first | rfl | exact congrArg _ HN6.out | exact congrArg _ HN7.out)
      (try simp only [Act.put, List.setIfInBounds_toArray, List.set_cons_zero, List.set_cons_succ])
      refine callH (i := 24) { dst := none, op := Go.Op.store 24 (Go.Operand.tmp 2) (Go.Operand.tmp 45), type := 0, pos := "inode.go:107", after := #[{ on := 23, ground := Go.Ground.data }, { on := 14, ground := Go.Ground.chain }, { on := 0, ground := Go.Ground.phase }, { on := 1, ground := Go.Ground.phase }, { on := 2, ground := Go.Ground.phase }, { on := 3, ground := Go.Ground.phase }, { on := 4, ground := Go.Ground.phase }, { on := 5, ground := Go.Ground.phase }, { on := 6, ground := Go.Ground.phase }, { on := 7, ground := Go.Ground.phase }, { on := 8, ground := Go.Ground.phase }, { on := 9, ground := Go.Ground.phase }, { on := 10, ground := Go.Ground.phase }, { on := 11, ground := Go.Ground.phase }, { on := 12, ground := Go.Ground.phase }, { on := 13, ground := Go.Ground.phase }, { on := 14, ground := Go.Ground.phase }, { on := 15, ground := Go.Ground.phase }, { on := 16, ground := Go.Ground.phase }, { on := 17, ground := Go.Ground.phase }, { on := 18, ground := Go.Ground.phase }, { on := 19, ground := Go.Ground.phase }, { on := 20, ground := Go.Ground.phase }, { on := 21, ground := Go.Ground.phase }, { on := 22, ground := Go.Ground.phase }, { on := 23, ground := Go.Ground.phase }], guard := none } (by kernel_rfl) rfl rfl (fun K hK => ?_)
      rw [if_pos (by rfl)]
      refine wp_store_inoO _ _ rfl r3 (rdNs_length l) rfl rfl ?_
      intro w9 h9 b9 z9
      have m9 := m3.only b9 hbb
      clear hH
      refine hK.out _ _ m9 (fun hH => ?_)
      clear hK K
      (try simp only [Act.put])
      refine wpAnyH_done (by kernel_rfl) ?_ _
      clear hH
      go_wp2_with fail
      rw [HRD.out]
      exact bodyPost_ret (results_cell_row rfl _ _ w.heap.size 24 _ (0, 0) _ rfl h9.row Try.underlying24 rfl (by rw [Try.sz24, iA_size (rdNs_length l)])) rfl ⟨rfl, m9.b⟩
end Go.Proofs.Ytabmogeicpphoaa
/- inode.Get. -/
namespace Go.Proofs.Ytabmogeicpphoaa
open Go.RowKit
theorem src_range {w : World} {b o : Nat} {l : List UInt8} (h : Src w (some ⟨b, o, none⟩) l) : w.rangeAt b o (bvs l) := fun j v hv => by
  have hj : j < (bvs l).length := (List.getElem?_eq_some_iff.1 hv).1
  rw [bvs_length] at hj
  rw [h.cell j hj]
  simpa [bvs, hj] using hv
theorem exec_load_64 {ev : Operand → Value} {oi : Oper} {x : Operand} {w : World} {b o : Nat} {l : List UInt8} (H : Src w (some ⟨b, o, none⟩) l) (hl : l.length = 64) (ho : oi.op = .load 64 x) (hx : ev x = .pointer (some ⟨b, o, none⟩)) :
    (execOp ev oi).run Try.prog w = .ok (.value (.agg (bvs l).toArray)) w := by
  unfold execOp
  simp only [ho, hx, Instr.loadAt, Instr.sureAddr, Sem.run_bind, Sem.run_pure, Result.andThen_ok, run_loadVar_mid w b o 64 (bvs l) _ (src_range H) Try.underlying64 rfl (by rw [Try.sz64, bvs_length, hl])]
theorem run_neq_64 {x y : List UInt8} (hx : x.length = 64) (hy : y.length = 64) (w : World) : (binOp .neq 64 (.agg (bvs x).toArray) (.agg (bvs y).toArray)).run Try.prog w = .ok (.bool (!(x == y))) w := by
  rw [run_neq_struct, show (Op.equalIn 10000 64 (.agg (bvs x).toArray) (.agg (bvs y).toArray)).run Try.prog w = .ok (x == y) w from run_equalIn_bytes w 9998 64 5 64 Try.underlying64 Try.underlying5 size5 x y hx hy]
  rfl
theorem exec_neq_64 {ev : Operand → Value} {oi : Oper} {X Y : Operand} {w : World} {x y : List UInt8} (hx : x.length = 64) (hy : y.length = 64) {b : Bool} (hb : (!(x == y)) = b) (ho : oi.op = .binOp .neq 64 X Y 64) (eX : ev X = .agg (bvs x).toArray) (eY : ev Y = .agg (bvs y).toArray) :
    (execOp ev oi).run Try.prog w = .ok (.value (.bool b)) w := by
  subst hb
  have hg : ∀ A B (w : World), (eqGuard .neq 64 X Y (.agg A) (.agg B)).run Try.prog w = .ok () w := fun A B w => run_eqGuard_agg w .neq 64 X Y A B (by kernel_rfl)
  unfold execOp
  simp only [ho, eX, eY]
  simp [hg, run_neq_64 hx hy, Result.andThen]
/-- What Get has laid. -/
structure GI (w0 : World) (bb off : Nat) (l : List UInt8) (q : Nat) (W : World) : Prop where
  b : Below w0.heap.size w0 W
  res : InoAt W w0.heap.size zino
  ino : InoAt W q (rdI l)
  src : Src W (some ⟨bb, off, none⟩) l
theorem GI.up {w0 W W' : World} {bb off q : Nat} {l : List UInt8} (h : GI w0 bb off l q W) (hb : Below W.heap.size W W') : GI w0 bb off l q W' :=
  ⟨h.b.trans (hb.mono h.b.size), h.res.up hb, h.ino.up hb, h.src.below hb (Nat.le_refl _)⟩
set_option maxHeartbeats 4000000 in
theorem iget_size (sp : Option Addr) (n cap : Nat) (hn : ¬ (n : Int) = 64) (w : World) :
    Calls Try.prog 12 #[.slice sp n cap] w fun e w' => e = .returned (.tuple #[.agg (iA zino), .int .i64 4]) ∧ Below w.heap.size w w' := by
  have hz := zeroI
  have HB : Hid (Below w.heap.size w (w.alloc (.cells (iA zino) 24))) := (Below.refl _ _).alloc (Nat.le_refl _) _
  have HI : Hid (InoAt (w.alloc (.cells (iA zino) 24)) w.heap.size zino) := ino_new w zino rfl
  go_enter Try.func12, Try.ntmps12
  go_wp2_with (first | ((with_reducible show wpList _ _ _ ({ dst := _, op := Op.store 24 _ _, type := _, pos := _, after := _, guard := _ } :: _) _ _); refine wpList_store_ino rfl _ _ rfl (HI.out) rfl rfl rfl ?_; intro w4 H4 b4 z4))
  exact bodyPost_ret (results_ino rfl _ H4 rfl) rfl ⟨rfl, HB.out.trans b4⟩
/-- Are the bytes those of an inode? -/
def formI (l : List UInt8) : Bool := rtB (rdI l) && (layI (rdI l) == l)
set_option maxRecDepth 100000 in
set_option maxHeartbeats 4000000 in
theorem iget_bad (bb off cap : Nat) (l : List UInt8) (hl : l.length = 64) (hr : rtB (rdI l) = false) (w : World) (hsrc : Src w (some ⟨bb, off, none⟩) l) (hc : (64 : Int) ≤ cap) (hm : (cap : Int) ≤ 9223372036854775807) :
    Calls Try.prog 12 #[.slice (some ⟨bb, off, none⟩) 64 cap] w fun e w' => e = .returned (.tuple #[.agg (iA zino), .int .i64 8]) ∧ Below w.heap.size w w' := by
  have hz := zeroI
  have HB : Hid (Below w.heap.size w (w.alloc (.cells (iA zino) 24))) := (Below.refl _ _).alloc (Nat.le_refl _) _
  have HI : Hid (InoAt (w.alloc (.cells (iA zino) 24)) w.heap.size zino) := ino_new w zino rfl
  have RD := fun W (h : Src W (some ⟨bb, off, none⟩) l) (hb : bb < W.heap.size) => iread_any bb off cap l hl W h hb hc hm
  have GR := iright_any (rdI l) (rdI_length l)
  have HSR : Hid (Src w (some ⟨bb, off, none⟩) l) := hsrc
  have hbb : bb < w.heap.size := by
    obtain ⟨b', off', h1, h2, _⟩ := hsrc.at' (by omega)
    cases h1; exact h2
  rw [hr] at GR
  clear hsrc
  go_enter Try.func12, Try.ntmps12
  go_wp2_with fail
  refine (RD _ (HSR.out.below HB.out (Nat.le_refl _)) (by have := HB.out.size; omega)).mono ?_
  rintro e w2 ⟨rfl, h2⟩
  have HI2 : Hid (InoAt w2 w.heap.size zino) := HI.out.up h2
  have HB2 : Hid (Below w.heap.size w w2) := HB.out.trans (h2.mono HB.out.size)
  have hl2 := HI2.out.lt
  clear RD HI HB h2
  have HN : Hid (InoAt (w2.alloc (.cells (iA zino) 24)) w2.heap.size zino) := ino_new w2 zino rfl
  have HNB : Hid (Below w2.heap.size w2 (w2.alloc (.cells (iA zino) 24))) := (Below.refl _ _).alloc (Nat.le_refl _) _
  have HRL : Hid ((rdI l).ns.length = 8) := rdI_length l
  go_wp2_with (first | ((with_reducible show wpList _ _ _ ({ dst := _, op := Op.store 24 _ _, type := _, pos := _, after := _, guard := _ } :: _) _ _); refine wpList_store_ino rfl _ _ rfl (HN.out) HRL.out rfl rfl ?_; intro w3 H3 b3 z3))
  have f3 : Below w2.heap.size w2 w3 := HNB.out.trans b3
  have fw : Below w.heap.size w w3 := HB2.out.trans (f3.mono HB2.out.size)
  have g3 : GI w bb off l w2.heap.size w3 := ⟨fw, HI2.out.below f3 hl2, H3, HSR.out.below fw (Nat.le_refl _)⟩
  have gd := g3.up (Below.refl _ _).drew
  clear f3 fw g3 H3 b3 z3 HN HNB HI2 HB2 HSR
  refine wp_region_held_drew (S := (fun W => GI w bb off l w2.heap.size W)) (by kernel_rfl) gd (fun hH => ?_)
  refine takeH (i := 0) (dst := some 11) (v := ?v1) rfl rfl (by kernel_rfl) (by kernel_rfl) (by kernel_rfl) (fun _ _ _ h => h) rfl ?hy1 hH rfl ?rest1
  case hy1 => (intro W hW; refine exec_load_ino (x := Operand.tmp 4) hW.ino ?_ ?_ <;> rfl)
  (try simp only [Act.put, List.setIfInBounds_toArray, List.set_cons_zero, List.set_cons_succ])
  refine callH (i := 1) { dst := some 12, op := Go.Op.call { callee := Go.Callee.value (Go.Operand.func 14), args := #[Go.Operand.tmp 11], argTypes := #[24] }, type := 4, pos := "inode.go:94", after := #[{ on := 0, ground := Go.Ground.data }], guard := none } (by kernel_rfl) rfl rfl (fun K hK => ?_)
  go_simp
  refine (GR _).mono ?_
  rintro e v1 ⟨rfl, n1⟩
  have m1 := gd.up n1
  clear n1
  clear hH
  refine hK.out _ _ m1 (fun hH => ?_)
  clear hK K
  (try simp only [Act.put, List.setIfInBounds_toArray, List.set_cons_zero, List.set_cons_succ])
  refine takeH (i := 2) (dst := some 13) (v := ?v2) rfl rfl (by kernel_rfl) (by kernel_rfl) (by kernel_rfl) (fun _ _ _ h => h) rfl ?hy2 hH rfl ?rest2
  case hy2 => (intro W hW; clear hW; go_simp; try with_reducible rfl)
  (try simp only [Act.put, List.setIfInBounds_toArray, List.set_cons_zero, List.set_cons_succ])
  refine takeH (i := 3) (dst := some 14) (v := ?v3) rfl rfl (by kernel_rfl) (by kernel_rfl) (by kernel_rfl) (fun _ _ _ h => h) rfl ?hy3 hH rfl ?rest3
  case hy3 => (intro W hW; clear hW; go_simp; try with_reducible rfl)
  (try simp only [Act.put, List.setIfInBounds_toArray, List.set_cons_zero, List.set_cons_succ])
  refine takeU (i := 4) (dst := some 15) rfl rfl (by kernel_rfl) (by kernel_rfl) (by kernel_rfl) (fun _ _ _ h => h) rfl hH rfl ?_
  (try simp only [Act.put, List.setIfInBounds_toArray, List.set_cons_zero, List.set_cons_succ])
  refine takeU (i := 5) (dst := some 16) rfl rfl (by kernel_rfl) (by kernel_rfl) (by kernel_rfl) (fun _ _ _ h => h) rfl hH rfl ?_
  (try simp only [Act.put, List.setIfInBounds_toArray, List.set_cons_zero, List.set_cons_succ])
  refine takeU (i := 6) (dst := some 17) rfl rfl (by kernel_rfl) (by kernel_rfl) (by kernel_rfl) (fun _ _ _ h => h) rfl hH rfl ?_
  (try simp only [Act.put, List.setIfInBounds_toArray, List.set_cons_zero, List.set_cons_succ])
  refine takeU (i := 7) (dst := some 18) rfl rfl (by kernel_rfl) (by kernel_rfl) (by kernel_rfl) (fun _ _ _ h => h) rfl hH rfl ?_
  (try simp only [Act.put, List.setIfInBounds_toArray, List.set_cons_zero, List.set_cons_succ])
  refine takeU (i := 8) (dst := some 19) rfl rfl (by kernel_rfl) (by kernel_rfl) (by kernel_rfl) (fun _ _ _ h => h) rfl hH rfl ?_
  (try simp only [Act.put, List.setIfInBounds_toArray, List.set_cons_zero, List.set_cons_succ])
  refine takeU (i := 9) (dst := some 20) rfl rfl (by kernel_rfl) (by kernel_rfl) (by kernel_rfl) (fun _ _ _ h => h) rfl hH rfl ?_
  (try simp only [Act.put, List.setIfInBounds_toArray, List.set_cons_zero, List.set_cons_succ])
  refine takeH (i := 10) (dst := some 21) (v := ?v4) rfl rfl (by kernel_rfl) (by kernel_rfl) (by kernel_rfl) (fun _ _ _ h => h) rfl ?hy4 hH rfl ?rest4
  case hy4 => (intro W hW; clear hW; go_simp; try with_reducible rfl)
  (try simp only [Act.put, List.setIfInBounds_toArray, List.set_cons_zero, List.set_cons_succ])
  refine wpAnyH_done (by kernel_rfl) ?_ _
  clear hH
  have HM : Hid _ := m1
  clear m1 gd
  go_wp2_with (first | ((with_reducible show wpList _ _ _ ({ dst := _, op := Op.store 24 _ _, type := _, pos := _, after := _, guard := _ } :: _) _ _); refine wpList_store_ino rfl _ _ rfl (HM.out.res) rfl rfl rfl ?_; intro w7 H7 b7 z7))
  exact bodyPost_ret (results_ino rfl _ H7 rfl) rfl ⟨rfl, HM.out.b.trans b7⟩
set_option maxRecDepth 100000 in
set_option maxHeartbeats 4000000 in
theorem iget_form (bb off cap : Nat) (l : List UInt8) (hl : l.length = 64) (hr : rtB (rdI l) = true) (hne : (layI (rdI l) == l) = false) (w : World) (hsrc : Src w (some ⟨bb, off, none⟩) l) (hc : (64 : Int) ≤ cap) (hm : (cap : Int) ≤ 9223372036854775807) :
    Calls Try.prog 12 #[.slice (some ⟨bb, off, none⟩) 64 cap] w fun e w' => e = .returned (.tuple #[.agg (iA zino), .int .i64 8]) ∧ Below w.heap.size w w' := by
  have hz := zeroI
  have HB : Hid (Below w.heap.size w (w.alloc (.cells (iA zino) 24))) := (Below.refl _ _).alloc (Nat.le_refl _) _
  have HI : Hid (InoAt (w.alloc (.cells (iA zino) 24)) w.heap.size zino) := ino_new w zino rfl
  have RD := fun W (h : Src W (some ⟨bb, off, none⟩) l) (hb : bb < W.heap.size) => iread_any bb off cap l hl W h hb hc hm
  have GR := iright_any (rdI l) (rdI_length l)
  have HSR : Hid (Src w (some ⟨bb, off, none⟩) l) := hsrc
  have hbb : bb < w.heap.size := by
    obtain ⟨b', off', h1, h2, _⟩ := hsrc.at' (by omega)
    cases h1; exact h2
  rw [hr] at GR
  have LA := fun W => ilay_any (rdI l) (rdI_length l) (rtB_inR hr) W
  have HBL : Hid ((layI (rdI l)).length = 64) := layI_length (rdI_length l)
  have HNE : Hid ((!(layI (rdI l) == l)) = true) := by rw [show (layI (rdI l) == l) = false from hne]; rfl
  clear hne
  have hat : ∀ w, (Instr.arrayAt 64 (.slice (some ⟨bb, off, none⟩) 64 cap)).run Try.prog w = .ok (.pointer (some ⟨bb, off, none⟩)) w := fun w => run_arrayAt w 64 _ 64 _ 64 cap Try.underlying64 (Nat.le_refl _)
  clear hsrc
  go_enter Try.func12, Try.ntmps12
  go_wp2_with fail
  refine (RD _ (HSR.out.below HB.out (Nat.le_refl _)) (by have := HB.out.size; omega)).mono ?_
  rintro e w2 ⟨rfl, h2⟩
  have HI2 : Hid (InoAt w2 w.heap.size zino) := HI.out.up h2
  have HB2 : Hid (Below w.heap.size w w2) := HB.out.trans (h2.mono HB.out.size)
  have hl2 := HI2.out.lt
  clear RD HI HB h2
  have HN : Hid (InoAt (w2.alloc (.cells (iA zino) 24)) w2.heap.size zino) := ino_new w2 zino rfl
  have HNB : Hid (Below w2.heap.size w2 (w2.alloc (.cells (iA zino) 24))) := (Below.refl _ _).alloc (Nat.le_refl _) _
  have HRL : Hid ((rdI l).ns.length = 8) := rdI_length l
  go_wp2_with (first | ((with_reducible show wpList _ _ _ ({ dst := _, op := Op.store 24 _ _, type := _, pos := _, after := _, guard := _ } :: _) _ _); refine wpList_store_ino rfl _ _ rfl (HN.out) HRL.out rfl rfl ?_; intro w3 H3 b3 z3))
  have f3 : Below w2.heap.size w2 w3 := HNB.out.trans b3
  have fw : Below w.heap.size w w3 := HB2.out.trans (f3.mono HB2.out.size)
  have g3 : GI w bb off l w2.heap.size w3 := ⟨fw, HI2.out.below f3 hl2, H3, HSR.out.below fw (Nat.le_refl _)⟩
  have gd := g3.up (Below.refl _ _).drew
  clear f3 fw g3 H3 b3 z3 HN HNB HI2 HB2 HSR
  refine wp_region_held_drew (S := (fun W => GI w bb off l w2.heap.size W)) (by kernel_rfl) gd (fun hH => ?_)
  refine takeH (i := 0) (dst := some 11) (v := ?v5) rfl rfl (by kernel_rfl) (by kernel_rfl) (by kernel_rfl) (fun _ _ _ h => h) rfl ?hy5 hH rfl ?rest5
  case hy5 => (intro W hW; refine exec_load_ino (x := Operand.tmp 4) hW.ino ?_ ?_ <;> rfl)
  (try simp only [Act.put, List.setIfInBounds_toArray, List.set_cons_zero, List.set_cons_succ])
  refine callH (i := 1) { dst := some 12, op := Go.Op.call { callee := Go.Callee.value (Go.Operand.func 14), args := #[Go.Operand.tmp 11], argTypes := #[24] }, type := 4, pos := "inode.go:94", after := #[{ on := 0, ground := Go.Ground.data }], guard := none } (by kernel_rfl) rfl rfl (fun K hK => ?_)
  go_simp
  refine (GR _).mono ?_
  rintro e v1 ⟨rfl, n1⟩
  have m1 := gd.up n1
  clear n1
  clear hH
  refine hK.out _ _ m1 (fun hH => ?_)
  clear hK K
  (try simp only [Act.put, List.setIfInBounds_toArray, List.set_cons_zero, List.set_cons_succ])
  refine takeH (i := 2) (dst := some 13) (v := ?v6) rfl rfl (by kernel_rfl) (by kernel_rfl) (by kernel_rfl) (fun _ _ _ h => h) rfl ?hy6 hH rfl ?rest6
  case hy6 => (intro W hW; clear hW; go_simp; try with_reducible rfl)
  (try simp only [Act.put, List.setIfInBounds_toArray, List.set_cons_zero, List.set_cons_succ])
  refine takeH (i := 3) (dst := some 14) (v := ?v7) rfl rfl (by kernel_rfl) (by kernel_rfl) (by kernel_rfl) (fun _ _ _ h => h) rfl ?hy7 hH rfl ?rest7
  case hy7 => (intro W hW; clear hW; go_simp; try with_reducible rfl)
  (try simp only [Act.put, List.setIfInBounds_toArray, List.set_cons_zero, List.set_cons_succ])
  refine takeH (i := 4) (dst := some 15) (v := ?v8) rfl rfl (by kernel_rfl) (by kernel_rfl) (by kernel_rfl) (fun _ _ _ h => h) rfl ?hy8 hH rfl ?rest8
  case hy8 => (intro W hW; refine exec_load_ino (x := Operand.tmp 4) hW.ino ?_ ?_ <;> rfl)
  (try simp only [Act.put, List.setIfInBounds_toArray, List.set_cons_zero, List.set_cons_succ])
  refine takeH (i := 6) (dst := some 17) (v := ?v9) rfl rfl (by kernel_rfl) (by kernel_rfl) (by kernel_rfl) (fun _ _ _ h => h) rfl ?hy9 hH rfl ?rest9
  case hy9 => (intro W hW; clear hW; go_simp; try with_reducible rfl)
  (try simp only [Act.put, List.setIfInBounds_toArray, List.set_cons_zero, List.set_cons_succ])
  refine takeH (i := 7) (dst := some 18) (v := ?v10) rfl rfl (by kernel_rfl) (by kernel_rfl) (by kernel_rfl) (fun _ _ _ h => h) rfl ?hy10 hH rfl ?rest10
  case hy10 => (intro W hW; clear hW; go_simp; try with_reducible rfl)
  (try simp only [Act.put, List.setIfInBounds_toArray, List.set_cons_zero, List.set_cons_succ])
  refine takeH (i := 8) (dst := some 19) (v := ?v11) rfl rfl (by kernel_rfl) (by kernel_rfl) (by kernel_rfl) (fun _ _ _ h => h) rfl ?hy11 hH rfl ?rest11
  case hy11 => (intro W hW; refine exec_load_64 (x := Operand.tmp 18) hW.src hl ?_ ?_ <;> rfl)
  (try simp only [Act.put, List.setIfInBounds_toArray, List.set_cons_zero, List.set_cons_succ])
  refine callH (i := 5) { dst := some 16, op := Go.Op.call { callee := Go.Callee.value (Go.Operand.func 48), args := #[Go.Operand.tmp 15], argTypes := #[24] }, type := 64, pos := "inode.go:94", after := #[{ on := 4, ground := Go.Ground.data }, { on := 3, ground := Go.Ground.chain }, { on := 3, ground := Go.Ground.guard }], guard := some (3, false) } (by kernel_rfl) rfl rfl (fun K hK => ?_)
  go_simp
  refine (LA _).mono ?_
  rintro e v2 ⟨rfl, n2⟩
  have m2 := m1.up n2
  clear n2
  clear hH
  refine hK.out _ _ m2 (fun hH => ?_)
  clear hK K
  (try simp only [Act.put, List.setIfInBounds_toArray, List.set_cons_zero, List.set_cons_succ])
  refine takeH (i := 9) (dst := some 20) (v := ?v12) rfl rfl (by kernel_rfl) (by kernel_rfl) (by kernel_rfl) (fun _ _ _ h => h) rfl ?hy12 hH rfl ?rest12
  case hy12 => (intro W hW; refine exec_neq_64 (X := Operand.tmp 16) (Y := Operand.tmp 19) HBL.out hl HNE.out ?_ ?_ ?_ <;> rfl)
  (try simp only [Act.put, List.setIfInBounds_toArray, List.set_cons_zero, List.set_cons_succ])
  refine takeH (i := 10) (dst := some 21) (v := ?v13) rfl rfl (by kernel_rfl) (by kernel_rfl) (by kernel_rfl) (fun _ _ _ h => h) rfl ?hy13 hH rfl ?rest13
  case hy13 => (intro W hW; clear hW; go_simp; try with_reducible rfl)
  (try simp only [Act.put, List.setIfInBounds_toArray, List.set_cons_zero, List.set_cons_succ])
  refine wpAnyH_done (by kernel_rfl) ?_ _
  clear hH
  have HM : Hid _ := m2
  clear m2 gd m1
  go_wp2_with (first | ((with_reducible show wpList _ _ _ ({ dst := _, op := Op.store 24 _ _, type := _, pos := _, after := _, guard := _ } :: _) _ _); refine wpList_store_ino rfl _ _ rfl (HM.out.res) rfl rfl rfl ?_; intro w7 H7 b7 z7))
  exact bodyPost_ret (results_ino rfl _ H7 rfl) rfl ⟨rfl, HM.out.b.trans b7⟩
set_option maxRecDepth 100000 in
set_option maxHeartbeats 4000000 in
theorem iget_ok (bb off cap : Nat) (l : List UInt8) (hl : l.length = 64) (hr : rtB (rdI l) = true) (hne : (layI (rdI l) == l) = true) (w : World) (hsrc : Src w (some ⟨bb, off, none⟩) l) (hc : (64 : Int) ≤ cap) (hm : (cap : Int) ≤ 9223372036854775807) :
    Calls Try.prog 12 #[.slice (some ⟨bb, off, none⟩) 64 cap] w fun e w' => e = .returned (.tuple #[.agg (iA (rdI l)), .int .i64 0]) ∧ Below w.heap.size w w' := by
  have hz := zeroI
  have HB : Hid (Below w.heap.size w (w.alloc (.cells (iA zino) 24))) := (Below.refl _ _).alloc (Nat.le_refl _) _
  have HI : Hid (InoAt (w.alloc (.cells (iA zino) 24)) w.heap.size zino) := ino_new w zino rfl
  have RD := fun W (h : Src W (some ⟨bb, off, none⟩) l) (hb : bb < W.heap.size) => iread_any bb off cap l hl W h hb hc hm
  have GR := iright_any (rdI l) (rdI_length l)
  have HSR : Hid (Src w (some ⟨bb, off, none⟩) l) := hsrc
  have hbb : bb < w.heap.size := by
    obtain ⟨b', off', h1, h2, _⟩ := hsrc.at' (by omega)
    cases h1; exact h2
  rw [hr] at GR
  have LA := fun W => ilay_any (rdI l) (rdI_length l) (rtB_inR hr) W
  have HBL : Hid ((layI (rdI l)).length = 64) := layI_length (rdI_length l)
  have HNE : Hid ((!(layI (rdI l) == l)) = false) := by rw [show (layI (rdI l) == l) = true from hne]; rfl
  clear hne
  have hat : ∀ w, (Instr.arrayAt 64 (.slice (some ⟨bb, off, none⟩) 64 cap)).run Try.prog w = .ok (.pointer (some ⟨bb, off, none⟩)) w := fun w => run_arrayAt w 64 _ 64 _ 64 cap Try.underlying64 (Nat.le_refl _)
  clear hsrc
  go_enter Try.func12, Try.ntmps12
  go_wp2_with fail
  refine (RD _ (HSR.out.below HB.out (Nat.le_refl _)) (by have := HB.out.size; omega)).mono ?_
  rintro e w2 ⟨rfl, h2⟩
  have HI2 : Hid (InoAt w2 w.heap.size zino) := HI.out.up h2
  have HB2 : Hid (Below w.heap.size w w2) := HB.out.trans (h2.mono HB.out.size)
  have hl2 := HI2.out.lt
  clear RD HI HB h2
  have HN : Hid (InoAt (w2.alloc (.cells (iA zino) 24)) w2.heap.size zino) := ino_new w2 zino rfl
  have HNB : Hid (Below w2.heap.size w2 (w2.alloc (.cells (iA zino) 24))) := (Below.refl _ _).alloc (Nat.le_refl _) _
  have HRL : Hid ((rdI l).ns.length = 8) := rdI_length l
  go_wp2_with (first | ((with_reducible show wpList _ _ _ ({ dst := _, op := Op.store 24 _ _, type := _, pos := _, after := _, guard := _ } :: _) _ _); refine wpList_store_ino rfl _ _ rfl (HN.out) HRL.out rfl rfl ?_; intro w3 H3 b3 z3))
  have f3 : Below w2.heap.size w2 w3 := HNB.out.trans b3
  have fw : Below w.heap.size w w3 := HB2.out.trans (f3.mono HB2.out.size)
  have g3 : GI w bb off l w2.heap.size w3 := ⟨fw, HI2.out.below f3 hl2, H3, HSR.out.below fw (Nat.le_refl _)⟩
  have gd := g3.up (Below.refl _ _).drew
  clear f3 fw g3 H3 b3 z3 HN HNB HI2 HB2 HSR
  refine wp_region_held_drew (S := (fun W => GI w bb off l w2.heap.size W)) (by kernel_rfl) gd (fun hH => ?_)
  refine takeH (i := 0) (dst := some 11) (v := ?v14) rfl rfl (by kernel_rfl) (by kernel_rfl) (by kernel_rfl) (fun _ _ _ h => h) rfl ?hy14 hH rfl ?rest14
  case hy14 => (intro W hW; refine exec_load_ino (x := Operand.tmp 4) hW.ino ?_ ?_ <;> rfl)
  (try simp only [Act.put, List.setIfInBounds_toArray, List.set_cons_zero, List.set_cons_succ])
  refine callH (i := 1) { dst := some 12, op := Go.Op.call { callee := Go.Callee.value (Go.Operand.func 14), args := #[Go.Operand.tmp 11], argTypes := #[24] }, type := 4, pos := "inode.go:94", after := #[{ on := 0, ground := Go.Ground.data }], guard := none } (by kernel_rfl) rfl rfl (fun K hK => ?_)
  go_simp
  refine (GR _).mono ?_
  rintro e v1 ⟨rfl, n1⟩
  have m1 := gd.up n1
  clear n1
  clear hH
  refine hK.out _ _ m1 (fun hH => ?_)
  clear hK K
  (try simp only [Act.put, List.setIfInBounds_toArray, List.set_cons_zero, List.set_cons_succ])
  refine takeH (i := 2) (dst := some 13) (v := ?v15) rfl rfl (by kernel_rfl) (by kernel_rfl) (by kernel_rfl) (fun _ _ _ h => h) rfl ?hy15 hH rfl ?rest15
  case hy15 => (intro W hW; clear hW; go_simp; try with_reducible rfl)
  (try simp only [Act.put, List.setIfInBounds_toArray, List.set_cons_zero, List.set_cons_succ])
  refine takeH (i := 3) (dst := some 14) (v := ?v16) rfl rfl (by kernel_rfl) (by kernel_rfl) (by kernel_rfl) (fun _ _ _ h => h) rfl ?hy16 hH rfl ?rest16
  case hy16 => (intro W hW; clear hW; go_simp; try with_reducible rfl)
  (try simp only [Act.put, List.setIfInBounds_toArray, List.set_cons_zero, List.set_cons_succ])
  refine takeH (i := 4) (dst := some 15) (v := ?v17) rfl rfl (by kernel_rfl) (by kernel_rfl) (by kernel_rfl) (fun _ _ _ h => h) rfl ?hy17 hH rfl ?rest17
  case hy17 => (intro W hW; refine exec_load_ino (x := Operand.tmp 4) hW.ino ?_ ?_ <;> rfl)
  (try simp only [Act.put, List.setIfInBounds_toArray, List.set_cons_zero, List.set_cons_succ])
  refine takeH (i := 6) (dst := some 17) (v := ?v18) rfl rfl (by kernel_rfl) (by kernel_rfl) (by kernel_rfl) (fun _ _ _ h => h) rfl ?hy18 hH rfl ?rest18
  case hy18 => (intro W hW; clear hW; go_simp; try with_reducible rfl)
  (try simp only [Act.put, List.setIfInBounds_toArray, List.set_cons_zero, List.set_cons_succ])
  refine takeH (i := 7) (dst := some 18) (v := ?v19) rfl rfl (by kernel_rfl) (by kernel_rfl) (by kernel_rfl) (fun _ _ _ h => h) rfl ?hy19 hH rfl ?rest19
  case hy19 => (intro W hW; clear hW; go_simp; try with_reducible rfl)
  (try simp only [Act.put, List.setIfInBounds_toArray, List.set_cons_zero, List.set_cons_succ])
  refine takeH (i := 8) (dst := some 19) (v := ?v20) rfl rfl (by kernel_rfl) (by kernel_rfl) (by kernel_rfl) (fun _ _ _ h => h) rfl ?hy20 hH rfl ?rest20
  case hy20 => (intro W hW; refine exec_load_64 (x := Operand.tmp 18) hW.src hl ?_ ?_ <;> rfl)
  (try simp only [Act.put, List.setIfInBounds_toArray, List.set_cons_zero, List.set_cons_succ])
  refine callH (i := 5) { dst := some 16, op := Go.Op.call { callee := Go.Callee.value (Go.Operand.func 48), args := #[Go.Operand.tmp 15], argTypes := #[24] }, type := 64, pos := "inode.go:94", after := #[{ on := 4, ground := Go.Ground.data }, { on := 3, ground := Go.Ground.chain }, { on := 3, ground := Go.Ground.guard }], guard := some (3, false) } (by kernel_rfl) rfl rfl (fun K hK => ?_)
  go_simp
  refine (LA _).mono ?_
  rintro e v2 ⟨rfl, n2⟩
  have m2 := m1.up n2
  clear n2
  clear hH
  refine hK.out _ _ m2 (fun hH => ?_)
  clear hK K
  (try simp only [Act.put, List.setIfInBounds_toArray, List.set_cons_zero, List.set_cons_succ])
  refine takeH (i := 9) (dst := some 20) (v := ?v21) rfl rfl (by kernel_rfl) (by kernel_rfl) (by kernel_rfl) (fun _ _ _ h => h) rfl ?hy21 hH rfl ?rest21
  case hy21 => (intro W hW; refine exec_neq_64 (X := Operand.tmp 16) (Y := Operand.tmp 19) HBL.out hl HNE.out ?_ ?_ ?_ <;> rfl)
  (try simp only [Act.put, List.setIfInBounds_toArray, List.set_cons_zero, List.set_cons_succ])
  refine takeH (i := 10) (dst := some 21) (v := ?v22) rfl rfl (by kernel_rfl) (by kernel_rfl) (by kernel_rfl) (fun _ _ _ h => h) rfl ?hy22 hH rfl ?rest22
  case hy22 => (intro W hW; clear hW; go_simp; try with_reducible rfl)
  (try simp only [Act.put, List.setIfInBounds_toArray, List.set_cons_zero, List.set_cons_succ])
  refine wpAnyH_done (by kernel_rfl) ?_ _
  clear hH
  have HM : Hid _ := m2
  clear m2 gd m1
  go_wp2_with (first | ((with_reducible show wpList _ _ _ ({ dst := _, op := Op.load 24 _, type := _, pos := _, after := _, guard := _ } :: _) _ _); refine wpList_load_ino rfl _ rfl (HM.out.ino) rfl ?_) | ((with_reducible show wpList _ _ _ ({ dst := _, op := Op.store 24 _ _, type := _, pos := _, after := _, guard := _ } :: _) _ _); refine wpList_store_ino rfl _ _ rfl (HM.out.res) HRL.out rfl rfl ?_; intro w7 H7 b7 z7))
  exact bodyPost_ret (results_ino rfl _ H7 rfl) rfl ⟨rfl, HM.out.b.trans b7⟩
/-- What Get answers. -/
def getI (l : List UInt8) : Ino := if formI l then rdI l else zino
def getE (l : List UInt8) : Int := if l.length = 64 then (if formI l then 0 else 8) else 4
def getV (l : List UInt8) : Ino := if l.length = 64 then getI l else zino
theorem getV_length (l : List UInt8) : (getV l).ns.length = 8 := by
  unfold getV getI
  split
  · split
    · exact rdI_length l
    · rfl
  · rfl
theorem iget_any (sp : Option Addr) (cap : Nat) (l : List UInt8) (w : World) (ha : Arg w sp cap l) :
    Calls Try.prog 12 #[.slice sp l.length cap] w fun e w' => e = .returned (.tuple #[.agg (iA (getV l)), .int .i64 (getE l)]) ∧ Below w.heap.size w w' := by
  by_cases hl : l.length = 64
  · have la := ha.len
    obtain ⟨b, off, rfl, _, _⟩ := ha.src.at' (by omega)
    unfold getV getE getI
    rw [if_pos hl, if_pos hl]
    cases hr : rtB (rdI l)
    · rw [show formI l = false by unfold formI; rw [hr]; rfl]
      have := iget_bad b off cap l hl hr w ha.src (by omega) (by omega)
      rw [hl]
      exact this
    · cases hne : (layI (rdI l) == l)
      · rw [show formI l = false by unfold formI; rw [hr, hne]; rfl]
        have := iget_form b off cap l hl hr hne w ha.src (by omega) (by omega)
        rw [hl]
        exact this
      · rw [show formI l = true by unfold formI; rw [hr, hne]; rfl]
        have := iget_ok b off cap l hl hr hne w ha.src (by omega) (by omega)
        rw [hl]
        exact this
  · unfold getV getE
    rw [if_neg hl, if_neg hl]
    exact iget_size sp l.length cap (by omega) w
end Go.Proofs.Ytabmogeicpphoaa
/- leveeref01.Bytes, leveeref01.Get; append. -/
namespace Go.Proofs.Ytabmogeicpphoaa
open Go.RowKit
attribute [local go_sem] wrapU
theorem leB_snoc : ∀ k n, leB (k + 1) n = leB k n ++ [UInt8.ofNat (n / 2 ^ (8 * k) % 256)]
  | 0, n => by simp [leB]
  | k + 1, n => by
    have e : 2 ^ (8 * (k + 1)) = 256 * 2 ^ (8 * k) := by rw [Nat.mul_add, Nat.pow_add]; omega
    rw [leB, leB_snoc k (n / 256), e, ← Nat.div_div_eq_div_mul]; rfl
theorem leB_zero_at (n k : Nat) (hn : n < 18446744073709551616) (hk : 8 ≤ k) : UInt8.ofNat (n / 2 ^ (8 * k) % 256) = 0 := by
  have h : n / 2 ^ (8 * k) = 0 := Nat.div_eq_of_lt (Nat.lt_of_lt_of_le (show n < 2 ^ 64 from hn) (Nat.pow_le_pow_right (by omega) (by omega)))
  rw [h]; rfl
theorem byte_shr (n k : Nat) : ((n : Int) / 2 ^ (8 * k) % 256) = (((UInt8.ofNat (n / 2 ^ (8 * k) % 256)).toNat : Nat) : Int) := by
  simp
set_option maxHeartbeats 1000000 in
theorem rbytes_any (n size : Nat) (w : World) (hn : (n : Int) < 18446744073709551616) (hs : (size : Int) ≤ 100) :
    Calls Try.prog 49 #[.int .u64 (n : Int), .int .i64 (size : Int)] w fun e w' => ∃ v, e = .returned v ∧ Own w' w.heap.size v (leB size n) ∧ Below w.heap.size w w' := by
  go_enter Try.func49, Try.ntmps49
  go_wp2
  go_loopw [5, 6] (fun v i wr => ∃ k : Nat, k ≤ size ∧ i = .int .i64 k ∧ Own wr w.heap.size v (leB k n) ∧ Below w.heap.size w wr) (fun _ i _ => size - (intOf i).toNat)
  case atStart => exact ⟨0, by omega, rfl, Own.nil _ _, Below.refl _ _⟩
  case round =>
    obtain ⟨k, hk, rfl, hown, hbw⟩ := hrel
    have hz := hbw.size
    have hll := leB_length k n
    by_cases hlt : (k : Int) < size
    · have hsn := leB_snoc k n
      by_cases h8 : (k : Int) < 8
      · have hx := byte_shr n k
        generalize UInt8.ofNat (n / 2 ^ (8 * k) % 256) = x at *
        have HSN : Hid _ := hsn
        clear hsn
        go_wp2_with (at_builtin; refine wpList_append_bytes rfl (.tmp 14) (.tmp 21) rfl w.heap.size (leB k n) [x] _ rfl _ _ _ rfl rfl (hown.below ((Below.refl _ _).alloc (Nat.le_refl _) _) (Nat.le_refl _)) (Blk.src (t := 5) (heap_alloc_new _ _)) (by simp; omega) (by rw [hll]; simp; omega) (fun h => by cases h) ?_; intro v' w1 hown1 hb1)
        have hb2 : Below w.heap.size w w1 := (hbw.alloc hz _).trans hb1
        rw [← HSN.out] at hown1
        clear hown
        go_roundw
        case rel => exact ⟨k + 1, by omega, by go_num, hown1, hb2⟩
        case measure => simp [intOf]; omega
      · have hx := leB_zero_at n k (by omega) (by omega)
        rw [hx] at hsn
        have HSN : Hid _ := hsn
        clear hsn hx
        go_wp2_with (at_builtin; refine wpList_append_bytes rfl (.tmp 23) (.tmp 24) rfl w.heap.size (leB k n) [0] _ rfl _ _ _ rfl rfl (hown.below ((Below.refl _ _).alloc (Nat.le_refl _) _) (Nat.le_refl _)) (Blk.src (t := 5) (heap_alloc_new _ _)) (by simp; omega) (by rw [hll]; simp; omega) (fun h => by cases h) ?_; intro v' w1 hown1 hb1)
        have hb2 : Below w.heap.size w w1 := (hbw.alloc hz _).trans hb1
        rw [← HSN.out] at hown1
        clear hown
        go_roundw
        case rel => exact ⟨k + 1, by omega, by go_num, hown1, hb2⟩
        case measure => simp [intOf]; omega
    · obtain rfl : k = size := by omega
      clear hll
      go_wp2
      go_ret
      exact ⟨_, rfl, hown, hbw⟩
/-- 'append' onto bytes that leave no room, whosever they are: new memory. -/
theorem append_new {w : World} {base b off : Nat} {l m : List UInt8} {sp : Option Addr} (ty : TypeId) (cap c : Nat) (h : Src w (some ⟨b, off, none⟩) l) (hs : Src w sp m) (hm : 0 < m.length) (hcap : cap < l.length + m.length) (hbase : base ≤ w.heap.size) (hb : l.length + m.length ≤ 140737488355328) :
    ∃ v' w', (Builtin.append_ #[25, 25] ty #[.slice (some ⟨b, off, none⟩) l.length cap, .slice sp m.length c]).run Try.prog w = .ok v' w' ∧ Own w' base v' (l ++ m) ∧ Below base w w' := by
  obtain ⟨i0, hi, hz0, hz1, hz2⟩ := info_parts Try.info5
  obtain ⟨b2, off2, rfl, _, hc2⟩ := hs.at' hm
  have cs : ∀ (bb oo : Nat) (x : List UInt8), (∀ j, (hj : j < x.length) → w.cell? ⟨bb, oo + j, none⟩ = some (bv x[j])) → ∀ j u, (bvs x)[j]? = some u → w.cell? ((⟨bb, oo, none⟩ : Addr).add j) = some u := by
    intro bb oo x hx j u hj
    have hjl : j < x.length := by
      rcases Nat.lt_or_ge j x.length with h | h
      · exact h
      · rw [List.getElem?_eq_none (by rw [bvs_length]; exact h)] at hj; cases hj
    rw [addr_add, hx j hjl, ← hj]; simp [bvs, hjl]
  have hl1 : ∀ j, (hj : j < l.length) → w.cell? ⟨b, off + j, none⟩ = some (bv l[j]) := fun j hj => h.cell j hj
  have hr := run_append_grow (P := Try.prog) w 25 ty 5 i0 _ Try.underlying25 hi hz0 ⟨b, off, none⟩ l.length cap (bvs l) (by rw [bvs_length, hz1, Nat.mul_one]) (cs b off l hl1) ⟨b2, off2, none⟩ m.length c (bvs m) (by rw [bvs_length, hz1, Nat.mul_one]) (cs b2 off2 m hc2) hcap (by omega) (growslice_fits (by omega) (by rw [hz2]; omega))
  have hge := grownCap_ge w (l.length + m.length) cap 5
  have hcm : grownCap w (l.length + m.length) cap 5 ≤ maxLen := grownCap_le_maxLen w _ cap 5 (by unfold maxLen; omega)
  refine ⟨_, _, hr, ⟨by rw [bvs_length]; simp, .inr ⟨w.heap.size, _, _, by rw [List.length_append], hbase, heap_alloc_new w.drew _, by rw [List.length_append]; exact hge, hcm, ?_, ?_⟩⟩, ?_⟩
  · simp only [Array.size_append, List.size_toArray, size_zeroCells, bvs_length]
    show l.length + m.length + (grownCap w (l.length + m.length) cap 5 - (l.length + m.length)) * 1 = _
    omega
  · rw [Array.toList_append, Array.toList_append, bvs_append, show (bvs l).toArray.toList ++ (bvs m).toArray.toList = bvs l ++ bvs m from rfl, show (l ++ m).length * 1 = (bvs l ++ bvs m).length by simp [bvs_length]]
    exact List.take_left
  · exact (Below.refl _ _).drew.alloc hbase _
theorem wpList_append_new {w : World} {ops : Array Oper} {rest : List Oper} {o : Oper} {a : Act} {Q : Exit → Act → World → Prop} (hgd : o.guard = none) (s x : Operand)
    (ho : o.op = .call { callee := .builtin .append, args := #[s, x], argTypes := #[25, 25] }) (base : Nat) (l m : List UInt8) (b off cap : Nat) (hs : a.eval s = .slice (some ⟨b, off, none⟩) l.length cap) (sp : Option Addr) (n c : Nat) (hx : a.eval x = .slice sp n c) (hn : n = m.length)
    (hown : Src w (some ⟨b, off, none⟩) l) (hsrc : Src w sp m) (hm : 0 < m.length) (hcap : cap < l.length + m.length) (hbase : base ≤ w.heap.size) (hb : l.length + m.length ≤ 140737488355328)
    (h : ∀ v' w', Own w' base v' (l ++ m) → Below base w w' → wpList Try.prog ops Q rest (a.put o.dst v') w') : wpList Try.prog ops Q (o :: rest) a w := by
  subst hn
  refine wpList_plain hgd fun K hK => ?_
  obtain ⟨v', w', hrun, h1, h2⟩ := append_new o.type cap c hown hsrc hm hcap hbase hb
  unfold Oper.wp execOp
  simp only [ho, resolve, invoke, builtin]
  simp [hs, hx, hrun, Result.andThen]
  exact hK _ _ (h v' w' h1 h2)
def slen : Value → Nat
  | .slice _ n _ => n
  | _ => 0
theorem Own.mono {w : World} {base b' : Nat} {v : Value} {l : List UInt8} (h : Own w base v l) (hb : b' ≤ base) : Own w b' v l := by
  obtain ⟨h1, h2⟩ := h
  refine ⟨h1, ?_⟩
  rcases h2 with h2 | ⟨g, cap, cur, hv, hg, rest⟩
  · exact .inl h2
  · exact .inr ⟨g, cap, cur, hv, by omega, rest⟩
theorem rep_step (l : List UInt8) (k : Nat) : (l ++ List.replicate k 0) ++ [0] = l ++ List.replicate (k + 1) 0 := by
  rw [List.append_assoc, ← List.replicate_succ']
theorem getNum_le {l : List UInt8} (hl : l.length ≤ 8) : getNum l = leNum l := by
  unfold getNum pad8
  rw [List.take_of_length_le (by omega)]
  have z : ∀ (k : Nat) (l : List UInt8), leNum (l ++ List.replicate k 0) = leNum l := by
    intro k
    induction k with
    | zero => intro l; simp
    | succ k ih => intro l; rw [List.replicate_succ', ← List.append_assoc, leNum_snoc, ih]; simp
  exact z _ _
set_option maxHeartbeats 1000000 in
theorem rgetn_any (sp : Option Addr) (l : List UInt8) (n cap : Nat) (w : World) (hs : Src w sp l) (hl : l.length = n) (h0 : 0 < n) (h8 : n ≤ 8) :
    Calls Try.prog 51 #[.slice sp n cap] w fun e w' => e = .returned (.int .u64 (getNum l : Int)) ∧ w' = w := by
  obtain ⟨bb, off, rfl, _, hc⟩ := hs.at' (by omega)
  have HG : Hid (getNum l = leNum (l.take n)) := by
    show _ = _
    rw [List.take_of_length_le (by omega)]
    exact getNum_le (by omega)
  clear hs
  go_enter Try.func51, Try.ntmps51
  go_wp2_with fail
  go_loop [3, 4] (fun v i => ∃ k : Nat, k ≤ n ∧ i = .int .i64 k ∧ v = .int .u64 (leNum (l.take k))) (fun _ i => n - (intOf i).toNat)
  case atStart => exact ⟨0, by omega, rfl, by simp [leNum]⟩
  case round =>
    obtain ⟨k, hk, rfl, rfl⟩ := hrel
    by_cases hlt : (k : Int) < n
    · have h1 := hc k (by omega)
      have h8' : (k : Int) < 8 := by omega
      rw [bv_nth (by omega)] at h1
      have HS : Hid (bits .or .u64 (leNum (l.take k) : Int) (IntKind.u64.wrap (IntKind.u64.wrap (nth l k) * 2 ^ (8 * k))) = (leNum (l.take (k + 1)) : Int)) := get_step l k (by omega) (by omega)
      go_wp2
      go_round
      case rel => exact ⟨k + 1, by omega, by go_num, by rw [← HS.out]⟩
      case measure => simp [intOf]; omega
    · obtain rfl : k = n := by omega
      go_wp2
      go_ret
      exact ⟨by rw [HG.out]; rfl, rfl⟩
end Go.Proofs.Ytabmogeicpphoaa
