/- leveelaw06.taken. -/
import Derived.Test.YtfbbdpapnegmcaaRuse
import Derived.Test.YtfbbdpapnegmcaaUses
namespace Go.Proofs.Ytfbbdpapnegmcaa
open Go.RowKit
theorem wp_append_bytes {w : World} {o : Oper} {a : Act} {K : Act → World → Prop} {Q : Exit → Act → World → Prop} (s x : Operand)
    (ho : o.op = .call { callee := .builtin .append, args := #[s, x], argTypes := #[24, 24] }) (base : Nat) (l m : List UInt8) (v : Value) (hs : a.eval s = v) (sp : Option Addr) (n c : Nat) (hx : a.eval x = .slice sp n c) (hn : n = m.length)
    (hown : Own w base v l) (hsrc : Src w sp m) (hbase : base ≤ w.heap.size) (hb : l.length + m.length ≤ 140737488355328) (hnil : sp = none → c = 0)
    (h : ∀ v' w', Own w' base v' (l ++ m) → Below base w w' → K (a.put o.dst v') w') : o.wp Try.prog a w K Q := by
  subst hn
  obtain ⟨v', w', hrun, h1, h2⟩ := append_any o.type c hown hsrc hbase hb hnil
  unfold Oper.wp execOp
  simp only [ho, resolve, invoke, builtin]
  simp [hs, hx, hrun, Result.andThen]
  exact h v' w' h1 h2
theorem Own.set {w : World} {base q : Nat} {v : Value} {l : List UInt8} (h : Own w base v l) (hq : q < base) (j : Nat) (u : Value) : Own (w.setCell ⟨q, j, none⟩ u) base v l := by
  obtain ⟨h1, h2⟩ := h
  refine ⟨h1, ?_⟩
  rcases h2 with h2 | ⟨g, cap, cur, hv, hg, hh, r⟩
  · exact .inl h2
  · exact .inr ⟨g, cap, cur, hv, hg, by rw [heap_setCell_other w ⟨q, j, none⟩ g u (show g ≠ q by omega)]; exact hh, r⟩
theorem Own.grow {w w' : World} {base : Nat} {v : Value} {l : List UInt8} (h : Own w base v l) (hb : Below w.heap.size w w') : Own w' base v l := h.below hb (Nat.le_refl _)
theorem HeadAt.set {w : World} {p q : Nat} {no : Int} {bl sl : List UInt8} (h : HeadAt w p no bl sl) (hq : p ≠ q) (j : Nat) (v : Value) : HeadAt (w.setCell ⟨q, j, none⟩ v) p no bl sl :=
  ⟨by rw [heap_setCell_other w ⟨q, j, none⟩ p v hq]; exact h.row, h.lb, h.ls⟩
theorem results_r1 {fn : Func} {p : Tmp} (h : fn.results = #[.cell p 31]) (tmps : Array Value) (w : World) (G : Nat) (x y z : Value) (hp : tmps.getD p undef = .pointer (some ⟨G, 0, none⟩)) (hg : Row3 w G 31 x y z) :
    (results fn tmps).run Try.prog w = .ok (.agg #[x, y, z]) w :=
  results_cell_row h _ _ G 31 _ (0, 0) _ hp hg Try.underlying31 rfl Try.sz31
/-- A header, a place for the answer and the header that is made of it. -/
structure TW (w0 : World) (no : Int) (bl sl : List UInt8) (y z : Value) (W : World) : Prop where
  head : HeadAt W w0.heap.size no bl sl
  res : Row3 W (w0.heap.size + 1) 31 (.int .i64 0) (.slice none 0 0) (.slice none 0 0)
  row : Row3 W (w0.heap.size + 1 + 1) 31 (.int .i64 no) y z
  bel : Below w0.heap.size w0 W
section
variable {w0 W W' : World} {no : Int} {bl sl : List UInt8} {y z : Value}
theorem TW.below (h : TW w0 no bl sl y z W) {B : Nat} (hb : Below B W W') (hB : w0.heap.size + 1 + 1 < B) : TW w0 no bl sl y z W' :=
  ⟨h.head.below hb (by omega), h.res.below hb (by omega), h.row.below hb hB, h.bel.trans (hb.mono (by omega))⟩
theorem TW.up (h : TW w0 no bl sl y z W) (hb : Below W.heap.size W W') : TW w0 no bl sl y z W' := h.below hb h.row.lt
theorem TW.set1 (h : TW w0 no bl sl y z W) (v : Value) : TW w0 no bl sl v z (W.setCell ⟨w0.heap.size + 1 + 1, 1, none⟩ v) :=
  ⟨h.head.set (by omega) _ _, h.res.other (by omega) _ _, h.row.set1 v, h.bel.setCell (p := ⟨w0.heap.size + 1 + 1, 1, none⟩) (show w0.heap.size ≤ w0.heap.size + 1 + 1 by omega) _⟩
theorem TW.set2 (h : TW w0 no bl sl y z W) (v : Value) : TW w0 no bl sl y v (W.setCell ⟨w0.heap.size + 1 + 1, 2, none⟩ v) :=
  ⟨h.head.set (by omega) _ _, h.res.other (by omega) _ _, h.row.set2 v, h.bel.setCell (p := ⟨w0.heap.size + 1 + 1, 2, none⟩) (show w0.heap.size ≤ w0.heap.size + 1 + 1 by omega) _⟩
end
theorem TW.start (w : World) (no : Int) (bl sl : List UInt8) (hb : bl.length = 16) (hs : sl.length = 8) : TW w no bl sl (.slice none 0 0) (.slice none 0 0) (((w.alloc (.cells (hA no bl sl) 28)).alloc (.cells #[.int .i64 0, .slice none 0 0, .slice none 0 0] 31)).alloc (.cells #[.int .i64 no, .slice none 0 0, .slice none 0 0] 31)) := by
  have h1 := head_new w no bl sl hb hs
  have h2 := heap_alloc_new (w.alloc (.cells (hA no bl sl) 28)) (.cells #[.int .i64 0, .slice none 0 0, .slice none 0 0] 31)
  rw [show (w.alloc (.cells (hA no bl sl) 28)).heap.size = w.heap.size + 1 by simp] at h2
  have h3 := heap_alloc_new ((w.alloc (.cells (hA no bl sl) 28)).alloc (.cells #[.int .i64 0, .slice none 0 0, .slice none 0 0] 31)) (.cells #[.int .i64 no, .slice none 0 0, .slice none 0 0] 31)
  rw [show ((w.alloc (.cells (hA no bl sl) 28)).alloc (.cells #[.int .i64 0, .slice none 0 0, .slice none 0 0] 31)).heap.size = w.heap.size + 1 + 1 by simp] at h3
  have h2' : Row3 _ _ _ _ _ _ := h2
  refine ⟨(h1.alloc _).alloc _, h2'.up ((Below.refl _ _).alloc (Nat.le_refl _) _), h3, ?_⟩
  exact (((Below.refl _ _).alloc (Nat.le_refl _) _).alloc (by simp) _).alloc (by simp; omega) _
theorem Own.at0 {w : World} {base : Nat} {v : Value} {l : List UInt8} (h : Own w base v l) (hl : 0 < l.length) (hm : l.length ≤ 140737488355328) : ∃ g cap, v = .slice (some ⟨g, 0, none⟩) l.length cap ∧ base ≤ g ∧ g < w.heap.size ∧ Arg w (some ⟨g, 0, none⟩) cap l := by
  obtain ⟨ao, cap2, hv, harg⟩ := h.arg hm
  obtain ⟨h4, h5⟩ := h
  rcases h5 with ⟨rfl, h6⟩ | ⟨g, cap3, cur, rfl, hg, hh, _⟩
  · omega
  · obtain ⟨rfl, rfl⟩ : ao = some ⟨g, 0, none⟩ ∧ cap2 = cap3 := by simpa [eq_comm] using hv
    exact ⟨g, cap2, rfl, hg, (Array.getElem?_eq_some_iff.1 hh).1, harg⟩
theorem Arg.low {w w' : World} {g cap B : Nat} {l : List UInt8} (h : Arg w (some ⟨g, 0, none⟩) cap l) (hb : Below B w w') (hg : g < B) : Arg w' (some ⟨g, 0, none⟩) cap l := by
  rcases h with h | ⟨b, off, h1, h2, h3, h4, h5, h6⟩
  · exact .inl h
  · refine .inr ⟨b, off, h1, h2, h3, h4, h5, ?_⟩
    rcases h6 with h | ⟨b', off', e, hb1, hb2⟩
    · exact .inl h
    · cases e
      exact .inr ⟨g, 0, rfl, by have := hb.size; omega, fun j hj => (hb.cell (p := ⟨g, 0 + j, none⟩) hg).trans (hb2 j hj)⟩
/-- A byte alone in new memory. -/
theorem one_new (w : World) (x : Int) (b : UInt8) (h : bv b = .int .u8 x) : Src (w.alloc (.cells #[.int .u8 x] 5)) (some ⟨w.heap.size, 0, none⟩) [b] := by
  have hh : Blk (w.alloc (.cells #[.int .u8 x] 5)) w.heap.size 5 [b] := by rw [← h]; exact heap_alloc_new _ _
  exact hh.src
set_option maxHeartbeats 8000000 in
theorem taken_any (no : Int) (bl sl : List UInt8) (hb : bl.length = 16) (hs : sl.length = 8) (w : World) :
    Calls Try.prog 7 #[.agg (hA no bl sl)] w fun e w' => ∃ spb sps capb caps, e = .returned (.agg #[.int .i64 no, .slice spb 16 capb, .slice sps 8 caps]) ∧ Arg w' spb capb bl ∧ Arg w' sps caps sl ∧ Below w.heap.size w w' := by
  have HT0 : Hid _ := TW.start w no bl sl hb hs
  have HH0 : Hid (HeadAt ((w.alloc (.cells (hA no bl sl) 28)).alloc (.cells #[.int .i64 0, .slice none 0 0, .slice none 0 0] 31)) w.heap.size no bl sl) := (head_new w no bl sl hb hs).alloc _
  have c0 := HH0.out.c0
  have HO0 : Hid (Own (((w.alloc (.cells (hA no bl sl) 28)).alloc (.cells #[.int .i64 0, .slice none 0 0, .slice none 0 0] 31)).alloc (.cells #[.int .i64 no, .slice none 0 0, .slice none 0 0] 31)) (w.heap.size + 1 + 1 + 1) (.slice none 0 0) []) := Own.nil _ _
  go_enter Try.func7, Try.ntmps7
  go_wp2_with fail
  go_loopw [4] (fun s wr => ∃ (k : Nat) (v : Value), k ≤ 16 ∧ s = .int .i64 k ∧ Hid (TW w no bl sl v (.slice none 0 0) wr) ∧ Hid (Own wr (w.heap.size + 1 + 1 + 1) v (bl.take k))) (fun s _ => 16 - (intOf s).toNat)
  case atStart => exact ⟨0, _, by omega, rfl, HT0, HO0⟩
  case round =>
    obtain ⟨k, v, hk, rfl, HT, HO⟩ := hrel
    clear HT0 HO0 HH0 c0
    by_cases hlt : (k : Int) < 16
    · have T := HT.out.up (Below.refl _ _).drew
      have O := HO.out.grow (Below.refl _ _).drew
      have zz : w.heap.size + 1 + 1 < wr.drew.heap.size := T.row.lt
      clear HT HO
      go_wp2_with fail
      refine wp_region_held_drew (S := (fun W => HeadAt W w.heap.size no bl sl)) (by kernel_rfl) T.head (fun hH => ?_)
      refine takeH (i := 0) (dst := some 13) (v := ?v5_0) rfl rfl (by kernel_rfl) (by kernel_rfl) (by kernel_rfl) (fun _ _ _ h => h) rfl ?hy5_0 hH rfl ?rest5_0
      case hy5_0 => (intro W hW; have hc := hW.srcB.cell k (by omega); rw [bv_nth (by omega)] at hc; clear hW; go_simp; try with_reducible rfl)
      (try simp only [Act.put, List.setIfInBounds_toArray, List.set_cons_zero, List.set_cons_succ])
      refine takeH (i := 2) (dst := some 15) (v := ?v5_2) rfl rfl (by kernel_rfl) (by kernel_rfl) (by kernel_rfl) (fun _ _ _ h => h) rfl ?hy5_2 hH rfl ?rest5_2
      case hy5_2 => (intro W hW; have hc := hW.srcB.cell k (by omega); rw [bv_nth (by omega)] at hc; clear hW; go_simp; try with_reducible rfl)
      (try simp only [Act.put, List.setIfInBounds_toArray, List.set_cons_zero, List.set_cons_succ])
      refine takeH (i := 3) (dst := some 16) (v := ?v5_3) rfl rfl (by kernel_rfl) (by kernel_rfl) (by kernel_rfl) (fun _ _ _ h => h) rfl ?hy5_3 hH rfl ?rest5_3
      case hy5_3 => (intro W hW; have hc := hW.srcB.cell k (by omega); rw [bv_nth (by omega)] at hc; clear hW; go_simp; try with_reducible rfl)
      (try simp only [Act.put, List.setIfInBounds_toArray, List.set_cons_zero, List.set_cons_succ])
      refine takeH (i := 4) (dst := some 17) (v := ?v5_4) rfl rfl (by kernel_rfl) (by kernel_rfl) (by kernel_rfl) (fun _ _ _ h => h) rfl ?hy5_4 hH rfl ?rest5_4
      case hy5_4 => (intro W hW; have hc := hW.srcB.cell k (by omega); rw [bv_nth (by omega)] at hc; clear hW; go_simp; try with_reducible rfl)
      (try simp only [Act.put, List.setIfInBounds_toArray, List.set_cons_zero, List.set_cons_succ])
      refine takeH (i := 5) (dst := some 18) (v := ?v5_5) rfl rfl (by kernel_rfl) (by kernel_rfl) (by kernel_rfl) (fun _ _ _ h => h) rfl ?hy5_5 hH rfl ?rest5_5
      case hy5_5 => (intro W hW; have hc := hW.srcB.cell k (by omega); rw [bv_nth (by omega)] at hc; clear hW; go_simp; try with_reducible rfl)
      (try simp only [Act.put, List.setIfInBounds_toArray, List.set_cons_zero, List.set_cons_succ])
      refine callH2 (i := 1) (j := 6) { dst := some 14, op := Go.Op.load 24 (Go.Operand.tmp 13), type := 24, pos := "law.go:27", after := #[{ on := 0, ground := Go.Ground.data }], guard := none } { dst := some 19, op := Go.Op.buildSlice 24 1 #[(0, Go.Operand.tmp 18)], type := 24, pos := "law.go:27", after := #[{ on := 5, ground := Go.Ground.data }], guard := none } (by kernel_rfl) rfl rfl rfl rfl (fun K hK => ?_) (fun K hK => ?_)
      · have c1 := T.row.c1
        go_simp
        clear hH c1
        refine hK.out _ _ T.head (fun hH => ?_)
        clear hK K
        (try simp only [Act.put, List.setIfInBounds_toArray, List.set_cons_zero, List.set_cons_succ])
        refine callH (i := 6) { dst := some 19, op := Go.Op.buildSlice 24 1 #[(0, Go.Operand.tmp 18)], type := 24, pos := "law.go:27", after := #[{ on := 5, ground := Go.Ground.data }], guard := none } (by kernel_rfl) rfl rfl (fun K hK => ?_)
        go_simp
        have al : Below wr.drew.heap.size wr.drew (wr.alloc (.cells #[.int .u8 (nth bl k)] 5)).drew := (Below.refl _ wr.drew).alloc (Nat.le_refl _) _
        have T6 := T.up al
        have O6 := O.grow al
        have N6 : Src (wr.alloc (.cells #[.int .u8 (nth bl k)] 5)).drew _ _ := one_new wr (nth bl k) bl[k] (bv_nth (by omega))
        have z6 := al.size
        clear hH al
        refine hK.out _ _ T6.head (fun hH => ?_)
        clear hK K
        (try simp only [Act.put, List.setIfInBounds_toArray, List.set_cons_zero, List.set_cons_succ])
        generalize (wr.alloc (.cells #[.int .u8 (nth bl k)] 5)).drew = w6 at *
        refine callH (i := 7) { dst := some 20, op := Go.Op.call { callee := Go.Callee.builtin Go.Builtin.append, args := #[Go.Operand.tmp 14, Go.Operand.tmp 19], argTypes := #[24, 24] }, type := 24, pos := "law.go:27", after := #[{ on := 1, ground := Go.Ground.data }, { on := 6, ground := Go.Ground.data }], guard := none } (by kernel_rfl) rfl rfl (fun K hK => ?_)
        rw [if_pos (by rfl)]
        refine wp_append_bytes _ _ rfl (w.heap.size + 1 + 1 + 1) (bl.take k) [bl[k]] v rfl _ 1 1 rfl rfl O6 N6 (by omega) (by simp; omega) (fun h => by cases h) ?_
        intro v7 w7 O7 b7
        have T7 := T6.below b7 (by omega)
        clear hH b7 T6 O6 N6
        refine hK.out _ _ T7.head (fun hH => ?_)
        clear hK K
        (try simp only [Act.put, List.setIfInBounds_toArray, List.set_cons_zero, List.set_cons_succ])
        refine takeH (i := 8) (dst := some 21) (v := ?v5_8_1) rfl rfl (by kernel_rfl) (by kernel_rfl) (by kernel_rfl) (fun _ _ _ h => h) rfl ?hy5_8_1 hH rfl ?rest5_8_1
        case hy5_8_1 => (intro W hW; clear hW; go_simp; try with_reducible rfl)
        (try simp only [Act.put, List.setIfInBounds_toArray, List.set_cons_zero, List.set_cons_succ])
        refine callH (i := 9) { dst := none, op := Go.Op.store 24 (Go.Operand.tmp 21) (Go.Operand.tmp 20), type := 0, pos := "law.go:27", after := #[{ on := 8, ground := Go.Ground.data }, { on := 7, ground := Go.Ground.data }, { on := 7, ground := Go.Ground.chain }, { on := 0, ground := Go.Ground.phase }, { on := 1, ground := Go.Ground.phase }, { on := 2, ground := Go.Ground.phase }, { on := 3, ground := Go.Ground.phase }, { on := 4, ground := Go.Ground.phase }, { on := 5, ground := Go.Ground.phase }, { on := 6, ground := Go.Ground.phase }, { on := 7, ground := Go.Ground.phase }], guard := none } (by kernel_rfl) rfl rfl (fun K hK => ?_)
        obtain ⟨ao7, cap7, e7, _⟩ := O7.form
        rw [show (bl.take k ++ [bl[k]]).length = k + 1 by simp; omega] at e7
        subst e7
        have f7 := T7.row.fz 1
        have c7 := T7.row.c1
        go_simp
        have T9 := T7.set1 (.slice ao7 (k + 1) cap7)
        have O9 := O7.set (q := w.heap.size + 1 + 1) (by omega) 1 (.slice ao7 (k + 1) cap7)
        clear hH f7 c7
        refine hK.out _ _ T9.head (fun hH => ?_)
        clear hK K
        (try simp only [Act.put, List.setIfInBounds_toArray, List.set_cons_zero, List.set_cons_succ])
        refine wpAnyH_done (by kernel_rfl) ?_ _
        clear hH T7 O7
        have HT9 : Hid _ := T9
        have HO9 : Hid (Own _ _ (.slice _ _ _) _) := O9
        clear T9 O9
        go_wp2_with fail
        go_round
        case rel => exact ⟨k + 1, _, by omega, by go_num, HT9, by rw [List.take_succ_eq_append_getElem (by omega)]; exact HO9.out⟩
        case measure => simp [intOf]; omega
      · go_simp
        have al : Below wr.drew.heap.size wr.drew (wr.alloc (.cells #[.int .u8 (nth bl k)] 5)).drew := (Below.refl _ wr.drew).alloc (Nat.le_refl _) _
        have T6 := T.up al
        have O6 := O.grow al
        have N6 : Src (wr.alloc (.cells #[.int .u8 (nth bl k)] 5)).drew _ _ := one_new wr (nth bl k) bl[k] (bv_nth (by omega))
        have z6 := al.size
        clear hH al
        refine hK.out _ _ T6.head (fun hH => ?_)
        clear hK K
        (try simp only [Act.put, List.setIfInBounds_toArray, List.set_cons_zero, List.set_cons_succ])
        generalize (wr.alloc (.cells #[.int .u8 (nth bl k)] 5)).drew = w6 at *
        refine callH (i := 1) { dst := some 14, op := Go.Op.load 24 (Go.Operand.tmp 13), type := 24, pos := "law.go:27", after := #[{ on := 0, ground := Go.Ground.data }], guard := none } (by kernel_rfl) rfl rfl (fun K hK => ?_)
        have c1 := T6.row.c1
        go_simp
        clear hH c1
        refine hK.out _ _ T6.head (fun hH => ?_)
        clear hK K
        (try simp only [Act.put, List.setIfInBounds_toArray, List.set_cons_zero, List.set_cons_succ])
        refine callH (i := 7) { dst := some 20, op := Go.Op.call { callee := Go.Callee.builtin Go.Builtin.append, args := #[Go.Operand.tmp 14, Go.Operand.tmp 19], argTypes := #[24, 24] }, type := 24, pos := "law.go:27", after := #[{ on := 1, ground := Go.Ground.data }, { on := 6, ground := Go.Ground.data }], guard := none } (by kernel_rfl) rfl rfl (fun K hK => ?_)
        rw [if_pos (by rfl)]
        refine wp_append_bytes _ _ rfl (w.heap.size + 1 + 1 + 1) (bl.take k) [bl[k]] v rfl _ 1 1 rfl rfl O6 N6 (by omega) (by simp; omega) (fun h => by cases h) ?_
        intro v7 w7 O7 b7
        have T7 := T6.below b7 (by omega)
        clear hH b7 T6 O6 N6
        refine hK.out _ _ T7.head (fun hH => ?_)
        clear hK K
        (try simp only [Act.put, List.setIfInBounds_toArray, List.set_cons_zero, List.set_cons_succ])
        refine takeH (i := 8) (dst := some 21) (v := ?v5_8_2) rfl rfl (by kernel_rfl) (by kernel_rfl) (by kernel_rfl) (fun _ _ _ h => h) rfl ?hy5_8_2 hH rfl ?rest5_8_2
        case hy5_8_2 => (intro W hW; clear hW; go_simp; try with_reducible rfl)
        (try simp only [Act.put, List.setIfInBounds_toArray, List.set_cons_zero, List.set_cons_succ])
        refine callH (i := 9) { dst := none, op := Go.Op.store 24 (Go.Operand.tmp 21) (Go.Operand.tmp 20), type := 0, pos := "law.go:27", after := #[{ on := 8, ground := Go.Ground.data }, { on := 7, ground := Go.Ground.data }, { on := 7, ground := Go.Ground.chain }, { on := 0, ground := Go.Ground.phase }, { on := 1, ground := Go.Ground.phase }, { on := 2, ground := Go.Ground.phase }, { on := 3, ground := Go.Ground.phase }, { on := 4, ground := Go.Ground.phase }, { on := 5, ground := Go.Ground.phase }, { on := 6, ground := Go.Ground.phase }, { on := 7, ground := Go.Ground.phase }], guard := none } (by kernel_rfl) rfl rfl (fun K hK => ?_)
        obtain ⟨ao7, cap7, e7, _⟩ := O7.form
        rw [show (bl.take k ++ [bl[k]]).length = k + 1 by simp; omega] at e7
        subst e7
        have f7 := T7.row.fz 1
        have c7 := T7.row.c1
        go_simp
        have T9 := T7.set1 (.slice ao7 (k + 1) cap7)
        have O9 := O7.set (q := w.heap.size + 1 + 1) (by omega) 1 (.slice ao7 (k + 1) cap7)
        clear hH f7 c7
        refine hK.out _ _ T9.head (fun hH => ?_)
        clear hK K
        (try simp only [Act.put, List.setIfInBounds_toArray, List.set_cons_zero, List.set_cons_succ])
        refine wpAnyH_done (by kernel_rfl) ?_ _
        clear hH T7 O7
        have HT9 : Hid _ := T9
        have HO9 : Hid (Own _ _ (.slice _ _ _) _) := O9
        clear T9 O9
        go_wp2_with fail
        go_round
        case rel => exact ⟨k + 1, _, by omega, by go_num, HT9, by rw [List.take_succ_eq_append_getElem (by omega)]; exact HO9.out⟩
        case measure => simp [intOf]; omega
    · obtain rfl : k = 16 := by omega
      rw [List.take_of_length_le (by omega)] at HO
      obtain ⟨g1, cap1, rfl, hg1, hg2, A1⟩ := HO.out.at0 (by omega) (by omega)
      rw [hb] at HT
      have HA0 : Hid (Arg wr (some ⟨g1, 0, none⟩) cap1 bl) := A1
      obtain ⟨B2, hB2⟩ : ∃ B2, B2 = wr.heap.size := ⟨_, rfl⟩
      have HB2 : Hid (B2 = wr.heap.size) := hB2
      have hg3 : g1 < B2 := by omega
      have HO0 : Hid (Own wr B2 (.slice none 0 0) []) := Own.nil _ _
      clear HO A1 hg2 hB2
      go_wp2_with fail
      go_loopw [5] (fun s wr => ∃ (k : Nat) (v : Value), k ≤ 8 ∧ s = .int .i64 k ∧ Hid (TW w no bl sl (.slice (some ⟨g1, 0, none⟩) 16 cap1) v wr) ∧ Hid (Own wr B2 v (sl.take k)) ∧ Hid (Arg wr (some ⟨g1, 0, none⟩) cap1 bl) ∧ B2 ≤ wr.heap.size) (fun s _ => 8 - (intOf s).toNat)
      case atStart => exact ⟨0, _, by omega, rfl, HT, HO0, HA0, by rw [HB2.out]; exact Nat.le_refl _⟩
      case round =>
        obtain ⟨k, v, hk, rfl, HT, HO, HA, hB⟩ := hrel
        by_cases hlt : (k : Int) < 8
        · have T := HT.out.up (Below.refl _ _).drew
          have O := HO.out.grow (Below.refl _ _).drew
          have A := HA.out.below (Below.refl _ _).drew (Nat.le_refl _)
          have zz : w.heap.size + 1 + 1 < wr.drew.heap.size := T.row.lt
          have hBd : B2 ≤ wr.drew.heap.size := hB
          clear HT HO HA HA0 HB2
          go_wp2_with fail
          refine wp_region_held_drew (S := (fun W => HeadAt W w.heap.size no bl sl)) (by kernel_rfl) T.head (fun hH => ?_)
          refine takeH (i := 0) (dst := some 26) (v := ?v9_0) rfl rfl (by kernel_rfl) (by kernel_rfl) (by kernel_rfl) (fun _ _ _ h => h) rfl ?hy9_0 hH rfl ?rest9_0
          case hy9_0 => (intro W hW; have hc := hW.srcS.cell k (by omega); rw [bv_nth (by omega)] at hc; clear hW; go_simp; try with_reducible rfl)
          (try simp only [Act.put, List.setIfInBounds_toArray, List.set_cons_zero, List.set_cons_succ])
          refine takeH (i := 2) (dst := some 28) (v := ?v9_2) rfl rfl (by kernel_rfl) (by kernel_rfl) (by kernel_rfl) (fun _ _ _ h => h) rfl ?hy9_2 hH rfl ?rest9_2
          case hy9_2 => (intro W hW; have hc := hW.srcS.cell k (by omega); rw [bv_nth (by omega)] at hc; clear hW; go_simp; try with_reducible rfl)
          (try simp only [Act.put, List.setIfInBounds_toArray, List.set_cons_zero, List.set_cons_succ])
          refine takeH (i := 3) (dst := some 29) (v := ?v9_3) rfl rfl (by kernel_rfl) (by kernel_rfl) (by kernel_rfl) (fun _ _ _ h => h) rfl ?hy9_3 hH rfl ?rest9_3
          case hy9_3 => (intro W hW; have hc := hW.srcS.cell k (by omega); rw [bv_nth (by omega)] at hc; clear hW; go_simp; try with_reducible rfl)
          (try simp only [Act.put, List.setIfInBounds_toArray, List.set_cons_zero, List.set_cons_succ])
          refine takeH (i := 4) (dst := some 30) (v := ?v9_4) rfl rfl (by kernel_rfl) (by kernel_rfl) (by kernel_rfl) (fun _ _ _ h => h) rfl ?hy9_4 hH rfl ?rest9_4
          case hy9_4 => (intro W hW; have hc := hW.srcS.cell k (by omega); rw [bv_nth (by omega)] at hc; clear hW; go_simp; try with_reducible rfl)
          (try simp only [Act.put, List.setIfInBounds_toArray, List.set_cons_zero, List.set_cons_succ])
          refine takeH (i := 5) (dst := some 31) (v := ?v9_5) rfl rfl (by kernel_rfl) (by kernel_rfl) (by kernel_rfl) (fun _ _ _ h => h) rfl ?hy9_5 hH rfl ?rest9_5
          case hy9_5 => (intro W hW; have hc := hW.srcS.cell k (by omega); rw [bv_nth (by omega)] at hc; clear hW; go_simp; try with_reducible rfl)
          (try simp only [Act.put, List.setIfInBounds_toArray, List.set_cons_zero, List.set_cons_succ])
          refine callH2 (i := 1) (j := 6) { dst := some 27, op := Go.Op.load 24 (Go.Operand.tmp 26), type := 24, pos := "law.go:30", after := #[{ on := 0, ground := Go.Ground.data }], guard := none } { dst := some 32, op := Go.Op.buildSlice 24 1 #[(0, Go.Operand.tmp 31)], type := 24, pos := "law.go:30", after := #[{ on := 5, ground := Go.Ground.data }], guard := none } (by kernel_rfl) rfl rfl rfl rfl (fun K hK => ?_) (fun K hK => ?_)
          · have c1 := T.row.c2
            go_simp
            clear hH c1
            refine hK.out _ _ T.head (fun hH => ?_)
            clear hK K
            (try simp only [Act.put, List.setIfInBounds_toArray, List.set_cons_zero, List.set_cons_succ])
            refine callH (i := 6) { dst := some 32, op := Go.Op.buildSlice 24 1 #[(0, Go.Operand.tmp 31)], type := 24, pos := "law.go:30", after := #[{ on := 5, ground := Go.Ground.data }], guard := none } (by kernel_rfl) rfl rfl (fun K hK => ?_)
            go_simp
            have al : Below wr.drew.heap.size wr.drew (wr.alloc (.cells #[.int .u8 (nth sl k)] 5)).drew := (Below.refl _ wr.drew).alloc (Nat.le_refl _) _
            have T6 := T.up al
            have O6 := O.grow al
            have A6 := A.below al (Nat.le_refl _)
            have N6 : Src (wr.alloc (.cells #[.int .u8 (nth sl k)] 5)).drew _ _ := one_new wr (nth sl k) sl[k] (bv_nth (by omega))
            have z6 := al.size
            clear hH al
            refine hK.out _ _ T6.head (fun hH => ?_)
            clear hK K
            (try simp only [Act.put, List.setIfInBounds_toArray, List.set_cons_zero, List.set_cons_succ])
            generalize (wr.alloc (.cells #[.int .u8 (nth sl k)] 5)).drew = w6 at *
            refine callH (i := 7) { dst := some 33, op := Go.Op.call { callee := Go.Callee.builtin Go.Builtin.append, args := #[Go.Operand.tmp 27, Go.Operand.tmp 32], argTypes := #[24, 24] }, type := 24, pos := "law.go:30", after := #[{ on := 1, ground := Go.Ground.data }, { on := 6, ground := Go.Ground.data }], guard := none } (by kernel_rfl) rfl rfl (fun K hK => ?_)
            rw [if_pos (by rfl)]
            refine wp_append_bytes _ _ rfl B2 (sl.take k) [sl[k]] v rfl _ 1 1 rfl rfl O6 N6 (by omega) (by simp; omega) (fun h => by cases h) ?_
            intro v7 w7 O7 b7
            have T7 := T6.below b7 (by omega)
            have A7 := A6.low b7 (by omega)
            clear A6
            have HZ : Hid (B2 ≤ w7.heap.size) := by have h0 := b7.size; show B2 ≤ _; omega
            clear hH b7 T6 O6 N6
            refine hK.out _ _ T7.head (fun hH => ?_)
            clear hK K
            (try simp only [Act.put, List.setIfInBounds_toArray, List.set_cons_zero, List.set_cons_succ])
            refine takeH (i := 8) (dst := some 34) (v := ?v9_8_3) rfl rfl (by kernel_rfl) (by kernel_rfl) (by kernel_rfl) (fun _ _ _ h => h) rfl ?hy9_8_3 hH rfl ?rest9_8_3
            case hy9_8_3 => (intro W hW; clear hW; go_simp; try with_reducible rfl)
            (try simp only [Act.put, List.setIfInBounds_toArray, List.set_cons_zero, List.set_cons_succ])
            refine callH (i := 9) { dst := none, op := Go.Op.store 24 (Go.Operand.tmp 34) (Go.Operand.tmp 33), type := 0, pos := "law.go:30", after := #[{ on := 8, ground := Go.Ground.data }, { on := 7, ground := Go.Ground.data }, { on := 7, ground := Go.Ground.chain }, { on := 0, ground := Go.Ground.phase }, { on := 1, ground := Go.Ground.phase }, { on := 2, ground := Go.Ground.phase }, { on := 3, ground := Go.Ground.phase }, { on := 4, ground := Go.Ground.phase }, { on := 5, ground := Go.Ground.phase }, { on := 6, ground := Go.Ground.phase }, { on := 7, ground := Go.Ground.phase }], guard := none } (by kernel_rfl) rfl rfl (fun K hK => ?_)
            obtain ⟨ao7, cap7, e7, _⟩ := O7.form
            rw [show (sl.take k ++ [sl[k]]).length = k + 1 by simp; omega] at e7
            subst e7
            have f7 := T7.row.fz 2
            have c7 := T7.row.c2
            go_simp
            have T9 := T7.set2 (.slice ao7 (k + 1) cap7)
            have O9 := O7.set (q := w.heap.size + 1 + 1) (by omega) 2 (.slice ao7 (k + 1) cap7)
            have HA9 : Hid (Arg _ _ _ _) := A7.other (q := w.heap.size + 1 + 1) (by intro b off e; cases e; omega) 2 (.slice ao7 (k + 1) cap7)
            clear A7
            clear hH f7 c7
            refine hK.out _ _ T9.head (fun hH => ?_)
            clear hK K
            (try simp only [Act.put, List.setIfInBounds_toArray, List.set_cons_zero, List.set_cons_succ])
            refine wpAnyH_done (by kernel_rfl) ?_ _
            clear hH T7 O7
            have HT9 : Hid _ := T9
            have HO9 : Hid (Own _ _ (.slice _ _ _) _) := O9
            clear T9 O9
            go_wp2_with fail
            go_round
            case rel => exact ⟨k + 1, _, by omega, by go_num, HT9, by rw [List.take_succ_eq_append_getElem (by omega)]; exact HO9.out, HA9, by have h0 := HZ.out; show B2 ≤ (World.setCell _ _ _).heap.size; simp; omega⟩
            case measure => simp [intOf]; omega
          · go_simp
            have al : Below wr.drew.heap.size wr.drew (wr.alloc (.cells #[.int .u8 (nth sl k)] 5)).drew := (Below.refl _ wr.drew).alloc (Nat.le_refl _) _
            have T6 := T.up al
            have O6 := O.grow al
            have A6 := A.below al (Nat.le_refl _)
            have N6 : Src (wr.alloc (.cells #[.int .u8 (nth sl k)] 5)).drew _ _ := one_new wr (nth sl k) sl[k] (bv_nth (by omega))
            have z6 := al.size
            clear hH al
            refine hK.out _ _ T6.head (fun hH => ?_)
            clear hK K
            (try simp only [Act.put, List.setIfInBounds_toArray, List.set_cons_zero, List.set_cons_succ])
            generalize (wr.alloc (.cells #[.int .u8 (nth sl k)] 5)).drew = w6 at *
            refine callH (i := 1) { dst := some 27, op := Go.Op.load 24 (Go.Operand.tmp 26), type := 24, pos := "law.go:30", after := #[{ on := 0, ground := Go.Ground.data }], guard := none } (by kernel_rfl) rfl rfl (fun K hK => ?_)
            have c1 := T6.row.c2
            go_simp
            clear hH c1
            refine hK.out _ _ T6.head (fun hH => ?_)
            clear hK K
            (try simp only [Act.put, List.setIfInBounds_toArray, List.set_cons_zero, List.set_cons_succ])
            refine callH (i := 7) { dst := some 33, op := Go.Op.call { callee := Go.Callee.builtin Go.Builtin.append, args := #[Go.Operand.tmp 27, Go.Operand.tmp 32], argTypes := #[24, 24] }, type := 24, pos := "law.go:30", after := #[{ on := 1, ground := Go.Ground.data }, { on := 6, ground := Go.Ground.data }], guard := none } (by kernel_rfl) rfl rfl (fun K hK => ?_)
            rw [if_pos (by rfl)]
            refine wp_append_bytes _ _ rfl B2 (sl.take k) [sl[k]] v rfl _ 1 1 rfl rfl O6 N6 (by omega) (by simp; omega) (fun h => by cases h) ?_
            intro v7 w7 O7 b7
            have T7 := T6.below b7 (by omega)
            have A7 := A6.low b7 (by omega)
            clear A6
            have HZ : Hid (B2 ≤ w7.heap.size) := by have h0 := b7.size; show B2 ≤ _; omega
            clear hH b7 T6 O6 N6
            refine hK.out _ _ T7.head (fun hH => ?_)
            clear hK K
            (try simp only [Act.put, List.setIfInBounds_toArray, List.set_cons_zero, List.set_cons_succ])
            refine takeH (i := 8) (dst := some 34) (v := ?v9_8_4) rfl rfl (by kernel_rfl) (by kernel_rfl) (by kernel_rfl) (fun _ _ _ h => h) rfl ?hy9_8_4 hH rfl ?rest9_8_4
            case hy9_8_4 => (intro W hW; clear hW; go_simp; try with_reducible rfl)
            (try simp only [Act.put, List.setIfInBounds_toArray, List.set_cons_zero, List.set_cons_succ])
            refine callH (i := 9) { dst := none, op := Go.Op.store 24 (Go.Operand.tmp 34) (Go.Operand.tmp 33), type := 0, pos := "law.go:30", after := #[{ on := 8, ground := Go.Ground.data }, { on := 7, ground := Go.Ground.data }, { on := 7, ground := Go.Ground.chain }, { on := 0, ground := Go.Ground.phase }, { on := 1, ground := Go.Ground.phase }, { on := 2, ground := Go.Ground.phase }, { on := 3, ground := Go.Ground.phase }, { on := 4, ground := Go.Ground.phase }, { on := 5, ground := Go.Ground.phase }, { on := 6, ground := Go.Ground.phase }, { on := 7, ground := Go.Ground.phase }], guard := none } (by kernel_rfl) rfl rfl (fun K hK => ?_)
            obtain ⟨ao7, cap7, e7, _⟩ := O7.form
            rw [show (sl.take k ++ [sl[k]]).length = k + 1 by simp; omega] at e7
            subst e7
            have f7 := T7.row.fz 2
            have c7 := T7.row.c2
            go_simp
            have T9 := T7.set2 (.slice ao7 (k + 1) cap7)
            have O9 := O7.set (q := w.heap.size + 1 + 1) (by omega) 2 (.slice ao7 (k + 1) cap7)
            have HA9 : Hid (Arg _ _ _ _) := A7.other (q := w.heap.size + 1 + 1) (by intro b off e; cases e; omega) 2 (.slice ao7 (k + 1) cap7)
            clear A7
            clear hH f7 c7
            refine hK.out _ _ T9.head (fun hH => ?_)
            clear hK K
            (try simp only [Act.put, List.setIfInBounds_toArray, List.set_cons_zero, List.set_cons_succ])
            refine wpAnyH_done (by kernel_rfl) ?_ _
            clear hH T7 O7
            have HT9 : Hid _ := T9
            have HO9 : Hid (Own _ _ (.slice _ _ _) _) := O9
            clear T9 O9
            go_wp2_with fail
            go_round
            case rel => exact ⟨k + 1, _, by omega, by go_num, HT9, by rw [List.take_succ_eq_append_getElem (by omega)]; exact HO9.out, HA9, by have h0 := HZ.out; show B2 ≤ (World.setCell _ _ _).heap.size; simp; omega⟩
            case measure => simp [intOf]; omega
        · obtain rfl : k = 8 := by omega
          rw [List.take_of_length_le (by omega)] at HO
          obtain ⟨g4, cap4, rfl, hg4, hg5, A4⟩ := HO.out.at0 (by omega) (by omega)
          rw [hs] at HT
          have HA4 : Hid (Arg wr (some ⟨g4, 0, none⟩) cap4 sl) := A4
          have q0 := HT.out.row.c0; have q1 := HT.out.row.c1; have q2 := HT.out.row.c2; have s0 := HT.out.res.c0; have s1 := HT.out.res.c1; have s2 := HT.out.res.c2; have f0 := HT.out.res.fz 0; have f1 := HT.out.res.fz 1; have f2 := HT.out.res.fz 2
          have hsz := HT.out.row.lt
          clear HO A4
          go_wp2_with fail
          have HR : Hid _ := HT.out.res.set (.int .i64 no) (.slice (some ⟨g1, 0, none⟩) 16 cap1) (.slice (some ⟨g4, 0, none⟩) 8 cap4)
          have hne1 : ∀ b off, some (⟨g1, 0, none⟩ : Addr) = some ⟨b, off, none⟩ → b ≠ w.heap.size + 1 := by intro b off e; cases e; omega
          have hne2 : ∀ b off, some (⟨g4, 0, none⟩ : Addr) = some ⟨b, off, none⟩ → b ≠ w.heap.size + 1 := by intro b off e; cases e; omega
          refine bodyPost_ret (results_r1 rfl _ _ (w.heap.size + 1) _ _ _ rfl HR.out) rfl ⟨_, _, _, _, rfl, ((HA.out.other hne1 _ _).other hne1 _ _).other hne1 _ _, ((HA4.out.other hne2 _ _).other hne2 _ _).other hne2 _ _, below_set3 HT.out.bel (by omega) _ _ _⟩
end Go.Proofs.Ytfbbdpapnegmcaa
