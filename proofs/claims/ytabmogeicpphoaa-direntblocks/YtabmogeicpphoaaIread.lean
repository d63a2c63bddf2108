/- inode.read. -/
import Derived.Test.YtabmogeicpphoaaIput
import Derived.Test.YtabmogeicpphoaaNGet
import Derived.Laws.Cover3
namespace Go.Proofs.Ytabmogeicpphoaa
open Go.RowKit
/-- A part of a slice of bytes. -/
theorem slice_sl (bb off len cap o l : Nat) (a b : Int) (ha : a = (o : Int)) (hb : b = (o : Int) + (l : Int)) (h1 : o < cap) (h : o + l ≤ cap) (w : World) :
    (Instr.slice 25 (.slice (some ⟨bb, off, none⟩) len cap) (some (.int .i64 a)) (some (.int .i64 b)) none).run Try.prog w = .ok (.slice (some ⟨bb, off + o, none⟩) l (cap - o)) w := by
  subst ha; subst hb
  have he : Try.prog.elem 25 = 5 := by kernel_rfl
  rw [run_slice_lh w 25 _ _ _ (by kernel_rfl) .i64 .i64 _ _ (by omega) (by omega) (by omega), he, size5]
  simp only [Result.andThen_ok, sliced, Int.toNat_natCast]
  rw [show ((o : Int) + (l : Int)).toNat = o + l by omega]
  simp [show ¬ cap = o by omega, addr_add]
theorem Src.part {w : World} {bb off : Nat} {l : List UInt8} (hs : Src w (some ⟨bb, off, none⟩) l) (o k : Nat) (h0 : 0 < l.length) (h : o + k ≤ l.length) : Src w (some ⟨bb, off + o, none⟩) ((l.drop o).take k) := by
  rcases hs with h1 | ⟨b', off', h1, h2, h3⟩
  · rw [h1] at h0; simp at h0
  · obtain ⟨rfl, rfl⟩ : bb = b' ∧ off = off' := by simpa using h1
    exact .inr ⟨bb, off + o, rfl, h2, fun j hj => by
      simp only [List.length_take, List.length_drop] at hj
      rw [Nat.add_assoc, h3 (o + j) (by omega)]; simp⟩
theorem getNum_lt {l : List UInt8} {n : Nat} (h : l.length = n) (hn : n ≤ 8) : getNum l < 2 ^ (8 * n) := by
  have e : getNum l = leNum l := by
    unfold getNum pad8
    rw [List.take_of_length_le (by omega)]
    have z : ∀ (k : Nat) (l : List UInt8), leNum (l ++ List.replicate k 0) = leNum l := by
      intro k
      induction k with
      | zero => intro l; simp
      | succ k ih => intro l; rw [List.replicate_succ', ← List.append_assoc, leNum_snoc, ih]; simp
    exact z _ _
  rw [e, ← h]
  exact leNum_lt l
/-- What the bytes say. -/
def rdP (l : List UInt8) (o n : Nat) : Nat := getNum ((l.drop o).take n)
theorem rdP_lt {l : List UInt8} {o n m : Nat} (hl : l.length = m) (h : o + n ≤ m) (hn : n ≤ 8) : rdP l o n < 2 ^ (8 * n) := getNum_lt (by simp [hl]; omega) hn
def rdNm (l : List UInt8) (k : Nat) : Int := (rdP l (16 + 2 * k) 2 : Int)
def rdNs (l : List UInt8) : List Int := (List.range 8).map (rdNm l)
def rdI (l : List UInt8) : Ino := ⟨nth l 0, rdP l 2 2, rdP l 4 4, IntKind.i64.wrap (rdP l 8 8 : Int), rdNs l⟩
theorem rdNs_length (l : List UInt8) : (rdNs l).length = 8 := by simp [rdNs]
theorem rdI_length (l : List UInt8) : (rdI l).ns.length = 8 := rdNs_length l
theorem run_build_ino (k l s d : Int) (ns : List Int) (hn : ns.length = 8) (w : World) :
    (Instr.build 24 #[(0, .int .i64 k), (1, .int .i64 l), (2, .int .i64 s), (3, .int .i64 d), (4, .agg (ivs (ns.take 6)).toArray), (5, .int .i64 (ns.getD 6 0)), (6, .int .i64 (ns.getD 7 0))]).run Try.prog w = .ok (.agg (iA ⟨k, l, s, d, ns⟩)) w := by
  obtain ⟨a0, a1, a2, a3, a4, a5, a6, a7, rfl⟩ := eight_i hn
  exact run_build w 24 _ _ (by kernel_rfl)
/-- Nothing but block q has changed. -/
structure Only (q : Nat) (W W' : World) : Prop where
  bel : Below q W W'
  blk : ∀ j, j ≠ q → W'.heap[j]? = W.heap[j]?
section
variable {w0 W W' : World} {q p : Nat}
theorem Only.cell (h : Only q W W') {a : Addr} (ha : a.block ≠ q) : W'.cell? a = W.cell? a := World.cell?_of_block (w := W) (h.blk _ ha)
theorem Src.only {sp : Option Addr} {l : List UInt8} (h : Src W sp l) (ho : Only q W W') (hp : ∀ b off, sp = some ⟨b, off, none⟩ → b ≠ q) : Src W' sp l := by
  rcases h with h | ⟨b, off, h1, h2, h3⟩
  · exact .inl h
  · exact .inr ⟨b, off, h1, by have := ho.bel.size; omega, fun k hk => (ho.cell (a := ⟨b, off + k, none⟩) (hp b off h1)).trans (h3 k hk)⟩
theorem Arg.only {sp : Option Addr} {cap : Nat} {l : List UInt8} (h : Arg W sp cap l) (ho : Only q W W') (hp : ∀ b off, sp = some ⟨b, off, none⟩ → b ≠ q) : Arg W' sp cap l := by
  rcases h with h | ⟨b, off, h1, h2, h3, h4, h5, h6⟩
  · exact .inl h
  · exact .inr ⟨b, off, h1, h2, h3, h4, h5, h6.only ho hp⟩
theorem only_setRow (W : World) (q : Nat) (cs : Array Value) : Only q W (W.setRow q cs) :=
  ⟨below_setRow (Below.refl _ _) (Nat.le_refl _) _, fun j hj => setRow_other W q j cs hj⟩
theorem InoAt.only {i : Ino} (h : InoAt W p i) (ho : Only q W W') (hp : p ≠ q) : InoAt W' p i := ⟨by rw [ho.blk p hp]; exact h.row, h.ln⟩
theorem RowI.only {t : TypeId} {l : List Int} (h : RowI W p t l) (ho : Only q W W') (hp : p ≠ q) : RowI W' p t l := by unfold RowI; rw [ho.blk p hp]; exact h
theorem Blk.only {t : TypeId} {l : List UInt8} (h : Blk W p t l) (ho : Only q W W') (hp : p ≠ q) : Blk W' p t l := by unfold Blk; rw [ho.blk p hp]; exact h
end
theorem wp_store_inoO {op : Oper} {a : Act} {w : World} {K : Act → World → Prop} {Q : Exit → Act → World → Prop} (x y : Operand) (ho : op.op = .store 24 x y)
    {p : Nat} {i j : Ino} (H : InoAt w p i) (hj : j.ns.length = 8) (hx : a.eval x = .pointer (some ⟨p, 0, none⟩)) (hy : a.eval y = .agg (iA j))
    (h : ∀ w', InoAt w' p j → Only p w w' → w'.heap.size = w.heap.size → K (a.put op.dst undef) w') : op.wp Try.prog a w K Q := by
  have hrun := run_storeVar_row (P := Try.prog) w p 24 24 (iA i) (iA j) H.row (by rw [Try.sz24, iA_size hj]) (by rw [iA_size H.ln, iA_size hj]) (iA_one _)
  unfold Oper.wp execOp
  simp only [ho, hx, hy, Instr.storeAt, Instr.sureAddr, Sem.run_bind, Sem.run_pure, Result.andThen_ok, hrun]
  exact h _ ⟨setRow_heap w p _ _ 24 _ H.row, hj⟩ (only_setRow _ _ _) (by simp)
theorem wpList_store_inoO {ops : Array Oper} {rest : List Oper} {op : Oper} {a : Act} {w : World} {Q : Exit → Act → World → Prop} (hgd : op.guard = none) (x y : Operand) (ho : op.op = .store 24 x y)
    {p : Nat} {i j : Ino} (H : InoAt w p i) (hj : j.ns.length = 8) (hx : a.eval x = .pointer (some ⟨p, 0, none⟩)) (hy : a.eval y = .agg (iA j))
    (h : ∀ w', InoAt w' p j → Only p w w' → w'.heap.size = w.heap.size → wpList Try.prog ops Q rest (a.put op.dst undef) w') : wpList Try.prog ops Q (op :: rest) a w :=
  wpList_plain hgd fun _ hK => wp_store_inoO x y ho H hj hx hy fun w' h1 h2 h3 => hK _ _ (h w' h1 h2 h3)
/-- What read has laid. -/
structure RI (w0 : World) (bb off : Nat) (l : List UInt8) (ns : List Int) (W : World) : Prop where
  b : Below w0.heap.size w0 W
  row : RowI W (w0.heap.size + 1) 70 ns
  src : Src W (some ⟨bb, off, none⟩) l
  hl : l.length = 64
section
variable {w0 W W' : World} {bb off : Nat} {l : List UInt8} {ns ns' : List Int}
theorem RI.up (h : RI w0 bb off l ns W) (hb : Below W.heap.size W W') : RI w0 bb off l ns W' :=
  ⟨h.b.trans (hb.mono h.b.size), h.row.up hb, h.src.below hb (Nat.le_refl _), h.hl⟩
theorem RI.c0 (h : RI w0 bb off l ns W) : W.cell? ⟨bb, off, none⟩ = some (.int .u8 (nth l 0)) := by
  have := h.src.cell 0 (by have := h.hl; omega)
  rw [bv_nth (by have := h.hl; omega)] at this
  exact this
theorem RI.n6 (h : RI w0 bb off l (rdNs l) W) : W.cell? ⟨w0.heap.size + 1, 6, none⟩ = some (.int .i64 ((rdNs l).getD 6 0)) := h.row.cell 6 (by simp [rdNs])
theorem RI.n7 (h : RI w0 bb off l (rdNs l) W) : W.cell? ⟨w0.heap.size + 1, 7, none⟩ = some (.int .i64 ((rdNs l).getD 7 0)) := h.row.cell 7 (by simp [rdNs])
end
theorem RI.only {w0 W W' : World} {bb off : Nat} {l : List UInt8} {ns : List Int} (h : RI w0 bb off l ns W) (ho : Only w0.heap.size W W') (hbb : bb < w0.heap.size) : RI w0 bb off l ns W' :=
  ⟨h.b.trans ho.bel, h.row.only ho (by omega), h.src.only ho (fun b o e => by cases e; omega), h.hl⟩
theorem RI.start (w : World) (Z : Array Value) (bb off : Nat) (l : List UInt8) (hl : l.length = 64) (hs : Src w (some ⟨bb, off, none⟩) l) (hz : Z = (ivs [0, 0, 0, 0, 0, 0, 0, 0]).toArray) :
    RI w bb off l [0, 0, 0, 0, 0, 0, 0, 0] ((w.alloc (.cells (iA zino) 24)).alloc (.cells Z 70)) := by
  have s1 : (w.alloc (.cells (iA zino) 24)).heap.size = w.heap.size + 1 := by simp
  have h1 := heap_alloc_new (w.alloc (.cells (iA zino) 24)) (.cells Z 70)
  rw [s1] at h1
  have hb : Below w.heap.size w ((w.alloc (.cells (iA zino) 24)).alloc (.cells Z 70)) := ((Below.refl _ _).alloc (Nat.le_refl _) _).alloc (by simp) _
  refine ⟨hb, ?_, hs.below hb (Nat.le_refl _), hl⟩
  unfold RowI
  rw [← hz]
  exact h1
/-- A number more in the row. -/
theorem RI.set {w0 W : World} {bb off : Nat} {l : List UInt8} {ns : List Int} (h : RI w0 bb off l ns W) (hbb : bb < w0.heap.size) (j : Nat) (x : Int) : RI w0 bb off l (ns.set j x) (W.setCell ⟨w0.heap.size + 1, j, none⟩ (.int .i64 x)) := by
  have hb : Below (w0.heap.size + 1) W (W.setCell ⟨w0.heap.size + 1, j, none⟩ (.int .i64 x)) := (Below.refl _ _).setCell (by simp) _
  refine ⟨h.b.trans (hb.mono (by omega)), h.row.set j x, ?_, h.hl⟩
  rcases h.src with h1 | ⟨b', off', h1, h2, h3⟩
  · exact .inl h1
  · obtain ⟨rfl, rfl⟩ : bb = b' ∧ off = off' := by simpa using h1
    exact .inr ⟨bb, off, rfl, by have := hb.size; omega, fun j hj => (hb.cell (p := ⟨bb, off + j, none⟩) (show bb < w0.heap.size + 1 by omega)).trans (h3 j hj)⟩
/-- The names up to k. -/
def upN (l : List UInt8) (k : Nat) : List Int := (List.range k).map (rdNm l) ++ List.replicate (8 - k) 0
theorem upN_set (l : List UInt8) (k : Nat) (hk : k < 8) : (upN l k).set k (rdNm l k) = upN l (k + 1) := by
  unfold upN
  rw [List.set_append_right _ _ (by simp), List.range_succ, List.map_append, show 8 - k = (8 - (k + 1)) + 1 by omega, List.replicate_succ]
  simp
theorem upN_length (l : List UInt8) (k : Nat) (hk : k ≤ 8) : (upN l k).length = 8 := by simp [upN]; omega
theorem exec_build_ino {ev : Operand → Value} {oi : Oper} {w : World} {x0 x1 x2 x3 x4 x5 x6 : Operand} {k l s d : Int} {ns : List Int} (hn : ns.length = 8) (ho : oi.op = .build 24 #[(0, x0), (1, x1), (2, x2), (3, x3), (4, x4), (5, x5), (6, x6)])
    (e0 : ev x0 = .int .i64 k) (e1 : ev x1 = .int .i64 l) (e2 : ev x2 = .int .i64 s) (e3 : ev x3 = .int .i64 d) (e4 : ev x4 = .agg (ivs (ns.take 6)).toArray) (e5 : ev x5 = .int .i64 (ns.getD 6 0)) (e6 : ev x6 = .int .i64 (ns.getD 7 0)) :
    (execOp ev oi).run Try.prog w = .ok (.value (.agg (iA ⟨k, l, s, d, ns⟩))) w := by
  have h := run_build_ino k l s d ns hn w
  unfold execOp
  simp only [ho, List.map_toArray, List.map_cons, List.map_nil, e0, e1, e2, e3, e4, e5, e6, Sem.run_bind, h, Result.andThen_ok]
  rfl
theorem exec_load_six {ev : Operand → Value} {oi : Oper} {x : Operand} {w : World} {g : Nat} {t : TypeId} {ns : List Int} (H : RowI w g t ns) (hn : ns.length = 8) (ho : oi.op = .load 22 x) (hx : ev x = .pointer (some ⟨g, 0, none⟩)) :
    (execOp ev oi).run Try.prog w = .ok (.value (.agg (ivs (ns.take 6)).toArray)) w := by
  unfold execOp
  simp only [ho, hx, Instr.loadAt, Instr.sureAddr, Sem.run_bind, Sem.run_pure, Result.andThen_ok, run_loadVar_mid w g 0 22 (ivs (ns.take 6)) _ (fun j v hv => by
    have hj : j < (ivs (ns.take 6)).length := (List.getElem?_eq_some_iff.1 hv).1
    rw [ivs_length, List.length_take] at hj
    rw [Nat.zero_add, H.cell j (by omega), ← hv]
    simp [ivs, hn, show j < 6 by omega, show j < 8 by omega]) Try.underlying22 rfl (by rw [show (Try.prog.info? 22).map (·.size) = some 6 by kernel_rfl, ivs_length]; simp [hn])]
attribute [local go_sem] wrapI
set_option maxRecDepth 100000 in
set_option maxHeartbeats 4000000 in
theorem iread_any (bb off cap : Nat) (l : List UInt8) (hl : l.length = 64) (w : World) (hsrc : Src w (some ⟨bb, off, none⟩) l) (hbb : bb < w.heap.size) (hc : (64 : Int) ≤ cap) (hm : (cap : Int) ≤ 9223372036854775807) :
    Calls Try.prog 50 #[.slice (some ⟨bb, off, none⟩) 64 cap] w fun e w' => e = .returned (.agg (iA (rdI l))) ∧ Below w.heap.size w w' := by
  obtain ⟨Z, hz, hzs, HZ⟩ := zeroN
  have hz2 := zeroI
  have HS : Hid _ := RI.start w Z bb off l hl hsrc HZ.out
  have HZI : Hid (InoAt ((w.alloc (.cells (iA zino) 24)).alloc (.cells Z 70)) w.heap.size zino) := (ino_new w zino rfl).alloc _
  have NG : ∀ o n : Nat, o + n ≤ 64 → ∀ W, Src W (some ⟨bb, off, none⟩) l → Calls Try.prog 71 #[.slice (some ⟨bb, off + o, none⟩) n (cap - o)] W fun e w' => e = .returned (.int .u64 (rdP l o n : Int)) ∧ Below W.heap.size W w' := by
    intro o n ho W hW
    have h := nget_any (some ⟨bb, off + o, none⟩) ((l.drop o).take n) (cap - o) W (hW.part o n (by omega) (by omega))
    rw [show ((l.drop o).take n).length = n by simp [hl]; omega] at h
    exact h
  have HL : Hid (l.length = 64) := hl
  clear HZ hsrc hl
  go_enter Try.func50, Try.ntmps50
  go_wp2_with fail
  generalize (w.alloc (.cells (iA zino) 24)).alloc (.cells Z 70) = W at *
  go_loopw [6] (fun t wr => ∃ k : Nat, k ≤ 8 ∧ t = .int .i64 k ∧ RI w bb off l (upN l k) wr ∧ InoAt wr w.heap.size zino) (fun t _ => 8 - (intOf t).toNat)
  case atStart => exact ⟨0, by omega, rfl, HS.out, HZI.out⟩
  case round =>
    obtain ⟨k, hk8, rfl, hri, hrz⟩ := hrel
    have HRI : Hid _ := hri
    have HRZ : Hid _ := hrz
    clear hri hrz HS HZI
    by_cases hlt : (k : Int) < 8
    · have hsl := slice_sl bb off 64 cap (16 + 2 * k) 2 (16 + (k : Int) * 2) (16 + (k : Int) * 2 + 2) (by omega) (by omega) (by omega) (by omega)
      have hx := rdP_lt (l := l) (o := 16 + 2 * k) (n := 2) HL.out (by omega) (by omega)
      have HU : Hid _ := upN_set l k (by omega)
      unfold rdNm at HU
      have HNG : Hid _ := NG (16 + 2 * k) 2 (by omega)
      clear NG
      generalize rdP l (16 + 2 * k) 2 = x at *
      have i1 : In64 (x : Int) := ⟨by omega⟩
      go_wp2_with fail
      refine (HNG.out _ HRI.out.src).mono ?_
      rintro e v8 ⟨rfl, h8⟩
      have H8 : Hid _ := HRI.out.up h8
      have H9z : Hid (InoAt (v8.setCell ⟨w.heap.size + 1, k, none⟩ (.int .i64 x)) w.heap.size zino) := (HRZ.out.up h8).below ((Below.refl (w.heap.size + 1) _).setCell (by simp) _) (by omega)
      have rc := H8.out.row.cell k (by rw [upN_length l k hk8]; omega)
      have rf := H8.out.row.frozen k
      have H9 : Hid (RI w bb off l (upN l (k + 1)) (v8.setCell ⟨w.heap.size + 1, k, none⟩ (.int .i64 x))) := by
        have := H8.out.set hbb k (x : Int)
        rw [HU.out] at this
        exact this
      clear h8 HRI HNG HU
      go_wp2_with fail
      go_roundw
      case rel => exact ⟨k + 1, by omega, by go_num, H9.out, H9z.out⟩
      case measure => simp [intOf]; omega
    · obtain rfl : k = 8 := by omega
      have HG : Hid (RI w bb off l (rdNs l) wr) := by
        have h := HRI.out
        rw [show upN l 8 = rdNs l by simp [upN, rdNs]] at h
        exact h
      clear HRI
      go_upto_region 8 with fail
      have hs2 := slice_sl bb off 64 cap 2 2 2 4 (by omega) (by omega) (by omega) (by omega)
      have hs4 := slice_sl bb off 64 cap 4 4 4 8 (by omega) (by omega) (by omega) (by omega)
      have hs8 := slice_sl bb off 64 cap 8 8 8 16 (by omega) (by omega) (by omega) (by omega)
      have hat : ∀ w', (Instr.arrayAt 22 (.slice (some ⟨w.heap.size + 1, 0, none⟩) 6 8)).run Try.prog w' = .ok (.pointer (some ⟨w.heap.size + 1, 0, none⟩)) w' := fun w' => run_arrayAt w' 22 _ 6 _ 6 8 Try.underlying22 (Nat.le_refl _)
      have n2 := NG 2 2 (by omega)
      have n4 := NG 4 4 (by omega)
      have n8 := NG 8 8 (by omega)
      have x2 := rdP_lt (l := l) (o := 2) (n := 2) HL.out (by omega) (by omega)
      have x4 := rdP_lt (l := l) (o := 4) (n := 4) HL.out (by omega) (by omega)
      have x8 := rdP_lt (l := l) (o := 8) (n := 8) HL.out (by omega) (by omega)
      have HRD : Hid (rdI l = ⟨nth l 0, rdP l 2 2, rdP l 4 4, IntKind.i64.wrap (rdP l 8 8 : Int), rdNs l⟩) := rfl
      generalize rdP l 2 2 = A2 at *
      generalize rdP l 4 4 = A4 at *
      obtain ⟨D8, HD8⟩ : ∃ x, Hid (x = IntKind.i64.wrap (rdP l 8 8 : Int)) := ⟨_, rfl⟩
      rw [← HD8.out] at HRD
      have hcv : IntKind.i64.wrap (rdP l 8 8 : Int) = D8 := HD8.out.symm
      generalize rdP l 8 8 = A8 at *
      have i2 : In64 (A2 : Int) := ⟨by omega⟩
      have i0 : In64 (nth l 0) := ⟨by have := nth_lo l 0; have := nth_hi l 0; omega⟩
      have i4 : In64 (A4 : Int) := ⟨by omega⟩
      have z0 := nth_lo l 0
      have z1 := nth_hi l 0
      obtain ⟨nm6, HN6⟩ : ∃ x, Hid (x = (rdNs l).getD 6 0) := ⟨_, rfl⟩
      obtain ⟨nm7, HN7⟩ : ∃ x, Hid (x = (rdNs l).getD 7 0) := ⟨_, rfl⟩
      have gd := HG.out.up (Below.refl _ _).drew
      have gz := HRZ.out.drew
      clear NG HG HRZ
      refine wp_region_held_drew (S := (fun W => RI w bb off l (rdNs l) W)) (by kernel_rfl) gd (fun hH => ?_)
      refine takeH (i := 0) (dst := some 22) (v := ?v1) rfl rfl (by kernel_rfl) (by kernel_rfl) (by kernel_rfl) (fun _ _ _ h => h) rfl ?hy1 hH rfl ?rest1
      case hy1 => (intro W hW; have s1 := hW.c0; have rc6 := hW.n6; have rc7 := hW.n7; rw [← HN6.out] at rc6; rw [← HN7.out] at rc7; clear hW; go_simp; try with_reducible rfl)
      (try simp only [Act.put, List.setIfInBounds_toArray, List.set_cons_zero, List.set_cons_succ])
      refine takeH (i := 1) (dst := some 23) (v := ?v2) rfl rfl (by kernel_rfl) (by kernel_rfl) (by kernel_rfl) (fun _ _ _ h => h) rfl ?hy2 hH rfl ?rest2
      case hy2 => (intro W hW; have s1 := hW.c0; have rc6 := hW.n6; have rc7 := hW.n7; rw [← HN6.out] at rc6; rw [← HN7.out] at rc7; clear hW; go_simp; try with_reducible rfl)
      (try simp only [Act.put, List.setIfInBounds_toArray, List.set_cons_zero, List.set_cons_succ])
      refine takeH (i := 2) (dst := some 24) (v := ?v3) rfl rfl (by kernel_rfl) (by kernel_rfl) (by kernel_rfl) (fun _ _ _ h => h) rfl ?hy3 hH rfl ?rest3
      case hy3 => (intro W hW; have s1 := hW.c0; have rc6 := hW.n6; have rc7 := hW.n7; rw [← HN6.out] at rc6; rw [← HN7.out] at rc7; clear hW; go_simp; try with_reducible rfl)
      (try simp only [Act.put, List.setIfInBounds_toArray, List.set_cons_zero, List.set_cons_succ])
      refine takeH (i := 3) (dst := some 25) (v := ?v4) rfl rfl (by kernel_rfl) (by kernel_rfl) (by kernel_rfl) (fun _ _ _ h => h) rfl ?hy4 hH rfl ?rest4
      case hy4 => (intro W hW; have s1 := hW.c0; have rc6 := hW.n6; have rc7 := hW.n7; rw [← HN6.out] at rc6; rw [← HN7.out] at rc7; clear hW; go_simp; try with_reducible rfl)
      (try simp only [Act.put, List.setIfInBounds_toArray, List.set_cons_zero, List.set_cons_succ])
      refine takeH (i := 4) (dst := some 26) (v := ?v5) rfl rfl (by kernel_rfl) (by kernel_rfl) (by kernel_rfl) (fun _ _ _ h => h) rfl ?hy5 hH rfl ?rest5
      case hy5 => (intro W hW; have s1 := hW.c0; have rc6 := hW.n6; have rc7 := hW.n7; rw [← HN6.out] at rc6; rw [← HN7.out] at rc7; clear hW; go_simp; try with_reducible rfl)
      (try simp only [Act.put, List.setIfInBounds_toArray, List.set_cons_zero, List.set_cons_succ])
      refine takeH (i := 5) (dst := some 27) (v := ?v6) rfl rfl (by kernel_rfl) (by kernel_rfl) (by kernel_rfl) (fun _ _ _ h => h) rfl ?hy6 hH rfl ?rest6
      case hy6 => (intro W hW; have s1 := hW.c0; have rc6 := hW.n6; have rc7 := hW.n7; rw [← HN6.out] at rc6; rw [← HN7.out] at rc7; clear hW; go_simp; try with_reducible rfl)
      (try simp only [Act.put, List.setIfInBounds_toArray, List.set_cons_zero, List.set_cons_succ])
      refine takeH (i := 8) (dst := some 30) (v := ?v7) rfl rfl (by kernel_rfl) (by kernel_rfl) (by kernel_rfl) (fun _ _ _ h => h) rfl ?hy7 hH rfl ?rest7
      case hy7 => (intro W hW; have s1 := hW.c0; have rc6 := hW.n6; have rc7 := hW.n7; rw [← HN6.out] at rc6; rw [← HN7.out] at rc7; clear hW; go_simp; try with_reducible rfl)
      (try simp only [Act.put, List.setIfInBounds_toArray, List.set_cons_zero, List.set_cons_succ])
      refine takeH (i := 9) (dst := some 31) (v := ?v8) rfl rfl (by kernel_rfl) (by kernel_rfl) (by kernel_rfl) (fun _ _ _ h => h) rfl ?hy8 hH rfl ?rest8
      case hy8 => (intro W hW; have s1 := hW.c0; have rc6 := hW.n6; have rc7 := hW.n7; rw [← HN6.out] at rc6; rw [← HN7.out] at rc7; clear hW; go_simp; try with_reducible rfl)
      (try simp only [Act.put, List.setIfInBounds_toArray, List.set_cons_zero, List.set_cons_succ])
      refine takeH (i := 12) (dst := some 34) (v := ?v9) rfl rfl (by kernel_rfl) (by kernel_rfl) (by kernel_rfl) (fun _ _ _ h => h) rfl ?hy9 hH rfl ?rest9
      case hy9 => (intro W hW; have s1 := hW.c0; have rc6 := hW.n6; have rc7 := hW.n7; rw [← HN6.out] at rc6; rw [← HN7.out] at rc7; clear hW; go_simp; try with_reducible rfl)
      (try simp only [Act.put, List.setIfInBounds_toArray, List.set_cons_zero, List.set_cons_succ])
      refine takeH (i := 13) (dst := some 35) (v := ?v10) rfl rfl (by kernel_rfl) (by kernel_rfl) (by kernel_rfl) (fun _ _ _ h => h) rfl ?hy10 hH rfl ?rest10
      case hy10 => (intro W hW; have s1 := hW.c0; have rc6 := hW.n6; have rc7 := hW.n7; rw [← HN6.out] at rc6; rw [← HN7.out] at rc7; clear hW; go_simp; try with_reducible rfl)
      (try simp only [Act.put, List.setIfInBounds_toArray, List.set_cons_zero, List.set_cons_succ])
      refine takeH (i := 16) (dst := some 38) (v := ?v11) rfl rfl (by kernel_rfl) (by kernel_rfl) (by kernel_rfl) (fun _ _ _ h => h) rfl ?hy11 hH rfl ?rest11
      case hy11 => (intro W hW; have s1 := hW.c0; have rc6 := hW.n6; have rc7 := hW.n7; rw [← HN6.out] at rc6; rw [← HN7.out] at rc7; clear hW; go_simp; try with_reducible rfl)
      (try simp only [Act.put, List.setIfInBounds_toArray, List.set_cons_zero, List.set_cons_succ])
      refine takeH (i := 17) (dst := some 39) (v := ?v12) rfl rfl (by kernel_rfl) (by kernel_rfl) (by kernel_rfl) (fun _ _ _ h => h) rfl ?hy12 hH rfl ?rest12
      case hy12 => (intro W hW; have s1 := hW.c0; have rc6 := hW.n6; have rc7 := hW.n7; rw [← HN6.out] at rc6; rw [← HN7.out] at rc7; clear hW; go_simp; try with_reducible rfl)
      (try simp only [Act.put, List.setIfInBounds_toArray, List.set_cons_zero, List.set_cons_succ])
      refine takeH (i := 18) (dst := some 40) (v := ?v13) rfl rfl (by kernel_rfl) (by kernel_rfl) (by kernel_rfl) (fun _ _ _ h => h) rfl ?hy13 hH rfl ?rest13
      case hy13 => (intro W hW; refine exec_load_six (x := Operand.tmp 39) hW.row (rdNs_length l) ?_ ?_ <;> rfl)
      (try simp only [Act.put, List.setIfInBounds_toArray, List.set_cons_zero, List.set_cons_succ])
      refine takeH (i := 19) (dst := some 41) (v := ?v14) rfl rfl (by kernel_rfl) (by kernel_rfl) (by kernel_rfl) (fun _ _ _ h => h) rfl ?hy14 hH rfl ?rest14
      case hy14 => (intro W hW; have s1 := hW.c0; have rc6 := hW.n6; have rc7 := hW.n7; rw [← HN6.out] at rc6; rw [← HN7.out] at rc7; clear hW; go_simp; try with_reducible rfl)
      (try simp only [Act.put, List.setIfInBounds_toArray, List.set_cons_zero, List.set_cons_succ])
      refine takeH (i := 20) (dst := some 42) (v := ?v15) rfl rfl (by kernel_rfl) (by kernel_rfl) (by kernel_rfl) (fun _ _ _ h => h) rfl ?hy15 hH rfl ?rest15
      case hy15 => (intro W hW; have s1 := hW.c0; have rc6 := hW.n6; have rc7 := hW.n7; rw [← HN6.out] at rc6; rw [← HN7.out] at rc7; clear hW; go_simp; try with_reducible rfl)
      (try simp only [Act.put, List.setIfInBounds_toArray, List.set_cons_zero, List.set_cons_succ])
      refine takeH (i := 21) (dst := some 43) (v := ?v16) rfl rfl (by kernel_rfl) (by kernel_rfl) (by kernel_rfl) (fun _ _ _ h => h) rfl ?hy16 hH rfl ?rest16
      case hy16 => (intro W hW; have s1 := hW.c0; have rc6 := hW.n6; have rc7 := hW.n7; rw [← HN6.out] at rc6; rw [← HN7.out] at rc7; clear hW; go_simp; try with_reducible rfl)
      (try simp only [Act.put, List.setIfInBounds_toArray, List.set_cons_zero, List.set_cons_succ])
      refine takeH (i := 22) (dst := some 44) (v := ?v17) rfl rfl (by kernel_rfl) (by kernel_rfl) (by kernel_rfl) (fun _ _ _ h => h) rfl ?hy17 hH rfl ?rest17
      case hy17 => (intro W hW; have s1 := hW.c0; have rc6 := hW.n6; have rc7 := hW.n7; rw [← HN6.out] at rc6; rw [← HN7.out] at rc7; clear hW; go_simp; try with_reducible rfl)
      (try simp only [Act.put, List.setIfInBounds_toArray, List.set_cons_zero, List.set_cons_succ])
      refine callH (i := 6) { dst := some 28, op := Go.Op.call { callee := Go.Callee.value (Go.Operand.func 71), args := #[Go.Operand.tmp 27], argTypes := #[25] }, type := 67, pos := "inode.go:109", after := #[{ on := 5, ground := Go.Ground.data }], guard := none } (by kernel_rfl) rfl rfl (fun K hK => ?_)
      go_simp
      refine (n2 _ gd.src).mono ?_
      rintro e v1 ⟨rfl, k1⟩
      have m1 := gd.up k1
      have r1 := gz.up k1
      clear k1
      clear hH
      refine hK.out _ _ m1 (fun hH => ?_)
      clear hK K
      (try simp only [Act.put, List.setIfInBounds_toArray, List.set_cons_zero, List.set_cons_succ])
      refine takeH (i := 7) (dst := some 29) (v := ?v18) rfl rfl (by kernel_rfl) (by kernel_rfl) (by kernel_rfl) (fun _ _ _ h => h) rfl ?hy18 hH rfl ?rest18
      case hy18 => (intro W hW; have s1 := hW.c0; have rc6 := hW.n6; have rc7 := hW.n7; rw [← HN6.out] at rc6; rw [← HN7.out] at rc7; clear hW; go_simp; try with_reducible rfl)
      (try simp only [Act.put, List.setIfInBounds_toArray, List.set_cons_zero, List.set_cons_succ])
      refine callH (i := 10) { dst := some 32, op := Go.Op.call { callee := Go.Callee.value (Go.Operand.func 71), args := #[Go.Operand.tmp 31], argTypes := #[25] }, type := 67, pos := "inode.go:110", after := #[{ on := 9, ground := Go.Ground.data }, { on := 6, ground := Go.Ground.chain }], guard := none } (by kernel_rfl) rfl rfl (fun K hK => ?_)
      go_simp
      refine (n4 _ m1.src).mono ?_
      rintro e v2 ⟨rfl, k2⟩
      have m2 := m1.up k2
      have r2 := r1.up k2
      clear k2
      clear hH
      refine hK.out _ _ m2 (fun hH => ?_)
      clear hK K
      (try simp only [Act.put, List.setIfInBounds_toArray, List.set_cons_zero, List.set_cons_succ])
      refine takeH (i := 11) (dst := some 33) (v := ?v19) rfl rfl (by kernel_rfl) (by kernel_rfl) (by kernel_rfl) (fun _ _ _ h => h) rfl ?hy19 hH rfl ?rest19
      case hy19 => (intro W hW; have s1 := hW.c0; have rc6 := hW.n6; have rc7 := hW.n7; rw [← HN6.out] at rc6; rw [← HN7.out] at rc7; clear hW; go_simp; try with_reducible rfl)
      (try simp only [Act.put, List.setIfInBounds_toArray, List.set_cons_zero, List.set_cons_succ])
      refine callH (i := 14) { dst := some 36, op := Go.Op.call { callee := Go.Callee.value (Go.Operand.func 71), args := #[Go.Operand.tmp 35], argTypes := #[25] }, type := 67, pos := "inode.go:111", after := #[{ on := 13, ground := Go.Ground.data }, { on := 10, ground := Go.Ground.chain }], guard := none } (by kernel_rfl) rfl rfl (fun K hK => ?_)
      go_simp
      refine (n8 _ m2.src).mono ?_
      rintro e v3 ⟨rfl, k3⟩
      have m3 := m2.up k3
      have r3 := r2.up k3
      clear k3
      clear hH
      refine hK.out _ _ m3 (fun hH => ?_)
      clear hK K
      (try simp only [Act.put, List.setIfInBounds_toArray, List.set_cons_zero, List.set_cons_succ])
      refine takeH (i := 15) (dst := some 37) (v := ?v20) rfl rfl (by kernel_rfl) (by kernel_rfl) (by kernel_rfl) (fun _ _ _ h => h) rfl ?hy20 hH rfl ?rest20
      case hy20 => (intro W hW; have s1 := hW.c0; have rc6 := hW.n6; have rc7 := hW.n7; rw [← HN6.out] at rc6; rw [← HN7.out] at rc7; clear hW; go_simp; try with_reducible rfl)
      (try simp only [Act.put, List.setIfInBounds_toArray, List.set_cons_zero, List.set_cons_succ])
      refine takeH (i := 23) (dst := some 45) (v := ?v21) rfl rfl (by kernel_rfl) (by kernel_rfl) (by kernel_rfl) (fun _ _ _ h => h) rfl ?hy21 hH rfl ?rest21
      case hy21 => (intro W hW; refine exec_build_ino (k := nth l 0) (l := A2) (s := A4) (d := D8) (x0 := Operand.tmp 25) (x1 := Operand.tmp 29) (x2 := Operand.tmp 33) (x3 := Operand.tmp 37) (x4 := Operand.tmp 40) (x5 := Operand.tmp 42) (x6 := Operand.tmp 44) (rdNs_length l) ?_ ?_ ?_ ?_ ?_ ?_ ?_ ?_ <;> first | rfl | exact congrArg _ HN6.out | exact congrArg _ HN7.out)
      (try simp only [Act.put, List.setIfInBounds_toArray, List.set_cons_zero, List.set_cons_succ])
      refine callH (i := 24) { dst := none, op := Go.Op.store 24 (Go.Operand.tmp 2) (Go.Operand.tmp 45), type := 0, pos := "inode.go:107", after := #[{ on := 23, ground := Go.Ground.data }, { on := 14, ground := Go.Ground.chain }, { on := 0, ground := Go.Ground.phase }, { on := 1, ground := Go.Ground.phase }, { on := 2, ground := Go.Ground.phase }, { on := 3, ground := Go.Ground.phase }, { on := 4, ground := Go.Ground.phase }, { on := 5, ground := Go.Ground.phase }, { on := 6, ground := Go.Ground.phase }, { on := 7, ground := Go.Ground.phase }, { on := 8, ground := Go.Ground.phase }, { on := 9, ground := Go.Ground.phase }, { on := 10, ground := Go.Ground.phase }, { on := 11, ground := Go.Ground.phase }, { on := 12, ground := Go.Ground.phase }, { on := 13, ground := Go.Ground.phase }, { on := 14, ground := Go.Ground.phase }, { on := 15, ground := Go.Ground.phase }, { on := 16, ground := Go.Ground.phase }, { on := 17, ground := Go.Ground.phase }, { on := 18, ground := Go.Ground.phase }, { on := 19, ground := Go.Ground.phase }, { on := 20, ground := Go.Ground.phase }, { on := 21, ground := Go.Ground.phase }, { on := 22, ground := Go.Ground.phase }, { on := 23, ground := Go.Ground.phase }], guard := none } (by kernel_rfl) rfl rfl (fun K hK => ?_)
      rw [if_pos (by rfl)]
      refine wp_store_inoO _ _ rfl r3 (rdNs_length l) rfl rfl ?_
      intro w9 h9 b9 z9
      have m9 := m3.only b9 hbb
      clear hH
      refine hK.out _ _ m9 (fun hH => ?_)
      clear hK K
      (try simp only [Act.put])
      refine wpAnyH_done (by kernel_rfl) ?_ _
      clear hH
      go_wp2_with fail
      rw [HRD.out]
      exact bodyPost_ret (results_cell_row rfl _ _ w.heap.size 24 _ (0, 0) _ rfl h9.row Try.underlying24 rfl (by rw [Try.sz24, iA_size (rdNs_length l)])) rfl ⟨rfl, m9.b⟩
end Go.Proofs.Ytabmogeicpphoaa
