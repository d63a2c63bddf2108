/- The document's disk (leveeref02.Disk) in memory, and its readers. -/
import Derived.Test.YtikpnfnbmbaljaaKCknown
import Derived.Test.YtikpnfnbmbaljaaJDOpen3
import Derived.Lib.ConvBytes
import Derived.Deep.DeepCutAuto
namespace Go.Proofs.Ytikpnfnbmbaljaa
open Go.RowKit
set_option maxRecDepth 100000
theorem alloc_size (w : World) (o : Obj) : (w.alloc o).heap.size = w.heap.size + 1 := by show (w.heap.push _).size = _; simp
theorem cell_one (w : World) (v : Value) (t : TypeId) (f : Nat × Nat) : (w.alloc (.cells #[v] t f)).cell? ⟨w.heap.size, 0, none⟩ = some v := by
  have h : (w.alloc (.cells #[v] t f)).heap[w.heap.size]? = some (.cells #[v] t f) := by show (w.heap.push _)[w.heap.size]? = _; simp
  unfold World.cell?; rw [h]; rfl
/-- Block i of the bytes l. -/
def blkOf (l : List UInt8) (i : Nat) : List UInt8 := (l.drop (i * 256)).take 256
theorem str_bytes (w : World) (l : List UInt8) : ∃ c w', (convert 9 39 (.string (str l))).run Try.prog w = .ok (.slice (some ⟨w.heap.size, 0, none⟩) l.length c) w' ∧ Src w' (some ⟨w.heap.size, 0, none⟩) l ∧ Below w.heap.size w w' := by
  have hsz : (str l).size = l.length := by simp [str, ByteArray.size]
  have h := Lib.run_convert_string_bytes (P := Try.prog) w 9 39 5 (str l) Try.underlying9 Try.underlying39 Try.underlying5
  rw [hsz] at h
  refine ⟨_, _, h, ?_, ⟨rfl, rfl, rfl, by rw [Lib.bytesWorld_size]; omega, fun k hk => Lib.bytesWorld_at_old w 5 (str l) k hk⟩⟩
  by_cases h0 : l = []
  · exact .inl h0
  · refine .inr ⟨_, _, rfl, by rw [Lib.bytesWorld_size]; omega, fun j hj => ?_⟩
    rw [Nat.zero_add, Lib.bytesWorld_cell w 5 (str l) j (by rw [hsz]; exact hj)]
    simp [str, bv, hj]
/-- The document's disk at block r: of block i the versions ver i, the safe one first. -/
structure RefAt (w : World) (base r n : Nat) (held : Bool) (left : Int) (ver : Nat → List (List UInt8)) (gb cb : Nat) (va vc : Nat → Nat) : Prop where
  nn : n ≤ 4096
  c0 : w.cell? ⟨r, 0, none⟩ = some (.slice (some ⟨gb, 0, none⟩) n cb)
  c1 : w.cell? ⟨r, 1, none⟩ = some (.bool held)
  c2 : w.cell? ⟨r, 2, none⟩ = some (.int .i64 left)
  rb : base ≤ r
  gl : gb < w.heap.size
  cl : n ≤ cb ∧ (cb : Int) ≤ 9223372036854775807
  row : ∀ i, i < n → w.cell? ⟨gb, i, none⟩ = some (.slice (some ⟨va i, 0, none⟩) (ver i).length (vc i)) ∧ va i < w.heap.size ∧ 1 ≤ (ver i).length ∧ (ver i).length ≤ 1000000 ∧ (ver i).length ≤ vc i ∧ (vc i : Int) ≤ 9223372036854775807
  vers : ∀ i, i < n → ∀ j, (h : j < (ver i).length) → w.cell? ⟨va i, j, none⟩ = some (.string (str (ver i)[j]))
section
variable {w : World} {base r n : Nat} {held : Bool} {left : Int} {ver : Nat → List (List UInt8)} {gb cb : Nat} {va vc : Nat → Nat}
set_option maxHeartbeats 1000000 in
theorem there_in (h : RefAt w base r n held left ver gb cb va vc) (i : Nat) (hi : i < n) :
    Calls Try.prog 68 #[.pointer (some ⟨r, 0, none⟩), .int .i64 (i : Int)] w fun e w' => e = .returned (.bool true) ∧ w' = w := by
  have c0 := h.c0
  have hi' : (i : Int) < n := by omega
  have hi0 : (0 : Int) ≤ i := by omega
  clear h
  go_enter Try.func68, Try.ntmps68
  go_wp2
  go_ret
  exact ⟨rfl, rfl⟩
set_option maxHeartbeats 1000000 in
theorem there_out (h : RefAt w base r n held left ver gb cb va vc) (b : Int) (hb : b < 0 ∨ (n : Int) ≤ b) :
    Calls Try.prog 68 #[.pointer (some ⟨r, 0, none⟩), .int .i64 b] w fun e w' => e = .returned (.bool false) ∧ w' = w := by
  have c0 := h.c0
  clear h
  rcases hb with hb | hb
  · have hb0 : ¬ (0 : Int) ≤ b := by omega
    go_enter Try.func68, Try.ntmps68
    go_wp2
    go_ret
    exact ⟨rfl, rfl⟩
  · have hb0 : (0 : Int) ≤ b := by omega
    have hb1 : ¬ b < (n : Int) := by omega
    go_enter Try.func68, Try.ntmps68
    go_wp2
    go_ret
    exact ⟨rfl, rfl⟩
set_option maxHeartbeats 1000000 in
theorem rwrites_in (h : RefAt w base r n held left ver gb cb va vc) (i : Nat) (hi : i < n) :
    Calls Try.prog 48 #[.pointer (some ⟨r, 0, none⟩), .int .i64 (i : Int)] w fun e w' => e = .returned (.int .i64 (((ver i).length : Int) - 1)) ∧ w' = w := by
  have TH := there_in h i hi
  have c0 := h.c0
  have hi' : (i : Int) < n := by omega
  have hn := h.nn
  have hn' : (n : Int) ≤ 4096 := by omega
  obtain ⟨cr, _, hv1, hv2, _, _⟩ := h.row i hi
  have hv1' : (1 : Int) ≤ (ver i).length := by omega
  have hv2' : ((ver i).length : Int) ≤ 1000000 := by omega
  clear h
  go_enter Try.func48, Try.ntmps48
  go_wp2_with fail
  refine TH.mono ?_
  rintro e w1 ⟨rfl, rfl⟩
  clear TH
  go_wp2
  go_ret
  exact ⟨by go_num, rfl⟩
set_option maxHeartbeats 1000000 in
theorem rstopped_any (h : RefAt w base r n held left ver gb cb va vc) :
    Calls Try.prog 74 #[.pointer (some ⟨r, 0, none⟩)] w fun e w' => e = .returned (.bool (held && (left == 0))) ∧ w' = w := by
  have c1 := h.c1
  have c2 := h.c2
  clear h
  cases held with
  | false =>
    go_enter Try.func74, Try.ntmps74
    go_wp2
    go_ret
    exact ⟨rfl, rfl⟩
  | true =>
    go_enter Try.func74, Try.ntmps74
    go_wp2
    go_ret
    exact ⟨rfl, rfl⟩
set_option maxHeartbeats 1000000 in
theorem rread_out (h : RefAt w base r n held left ver gb cb va vc) (b : Int) (hb : b < 0 ∨ (n : Int) ≤ b) :
    Calls Try.prog 57 #[.pointer (some ⟨r, 0, none⟩), .int .i64 b] w fun e w' => e = .returned (.tuple #[.slice none 0 0, .int .i64 3]) ∧ w' = w := by
  have TH := there_out h b hb
  clear h
  go_enter Try.func57, Try.ntmps57
  go_wp2_with fail
  refine TH.mono ?_
  rintro e w1 ⟨rfl, rfl⟩
  clear TH
  go_wp2
  go_ret2
  exact ⟨rfl, rfl⟩
set_option maxHeartbeats 1000000 in
theorem rsafe_in (h : RefAt w base r n held left ver gb cb va vc) (i : Nat) (hi : i < n) (y : List UInt8) (hy : (ver i)[0]? = some y) :
    Calls Try.prog 46 #[.pointer (some ⟨r, 0, none⟩), .int .i64 (i : Int)] w fun e w' => ∃ g c, e = .returned (.tuple #[.slice (some ⟨g, 0, none⟩) y.length c, .int .i64 0]) ∧ Src w' (some ⟨g, 0, none⟩) y ∧ Below w.heap.size w w' := by
  have TH := there_in h i hi
  have c0 := h.c0
  have hi' : (i : Int) < n := by omega
  have hn := h.nn
  have hn' : (n : Int) ≤ 4096 := by omega
  obtain ⟨cr, _, hv1, hv2, _, _⟩ := h.row i hi
  have hv1' : (0 : Int) < (ver i).length := by omega
  have cv := h.vers i hi 0 (by omega)
  rw [show (ver i)[0] = y from by rw [List.getElem?_eq_getElem (by omega)] at hy; exact Option.some.inj hy] at cv
  obtain ⟨c, w2, hcv, hsv, hbv⟩ := str_bytes w y
  clear h
  go_enter Try.func46, Try.ntmps46
  go_wp2_with fail
  refine TH.mono ?_
  rintro e w1 ⟨rfl, rfl⟩
  clear TH
  go_wp2
  go_ret2
  exact ⟨_, _, rfl, hsv, hbv⟩
set_option maxHeartbeats 1000000 in
theorem rread_in (h : RefAt w base r n held left ver gb cb va vc) (i : Nat) (hi : i < n) (m : Nat) (y : List UInt8) (hm : (ver i).length = m + 1) (hy : (ver i)[m]? = some y) :
    Calls Try.prog 57 #[.pointer (some ⟨r, 0, none⟩), .int .i64 (i : Int)] w fun e w' => ∃ g c, e = .returned (.tuple #[.slice (some ⟨g, 0, none⟩) y.length c, .int .i64 0]) ∧ Src w' (some ⟨g, 0, none⟩) y ∧ Below w.heap.size w w' := by
  have TH := there_in h i hi
  have c0 := h.c0
  have hi' : (i : Int) < n := by omega
  have hn := h.nn
  have hn' : (n : Int) ≤ 4096 := by omega
  obtain ⟨cr, _, hv1, hv2, _, _⟩ := h.row i hi
  have cv := h.vers i hi m (by omega)
  rw [show (ver i)[m] = y from by rw [List.getElem?_eq_getElem (by omega)] at hy; exact Option.some.inj hy] at cv
  rw [hm] at cr hv2
  have hm2 : (m : Int) + 1 ≤ 1000000 := by omega
  obtain ⟨c, w2, hcv, hsv, hbv⟩ := str_bytes w y
  clear h hm hy hv1
  go_enter Try.func57, Try.ntmps57
  go_wp2_with fail
  refine TH.mono ?_
  rintro e w1 ⟨rfl, rfl⟩
  clear TH
  go_wp2
  go_ret2
  exact ⟨_, _, rfl, hsv, hbv⟩
end
end Go.Proofs.Ytikpnfnbmbaljaa
/- The document's New of a disk. -/
namespace Go.Proofs.Ytikpnfnbmbaljaa
open Go.RowKit
set_option maxRecDepth 100000
theorem Try.info56 : (Try.prog.info? 56).map (fun i => (i.zero, i.size, i.bytes)) = some (some (.agg #[.slice none 0 0]), 1, 24) := by kernel_rfl
def rowL (va : Nat → Nat) (k : Nat) : List Value := (List.range k).map fun i => Value.slice (some ⟨va i, 0, none⟩) 1 1
/-- The document's disk behind k rounds of Load. -/
structure LoadL (w : World) (base r k : Nat) (l : List UInt8) (v : Value) (va : Nat → Nat) : Prop where
  c0 : w.cell? ⟨r, 0, none⟩ = some v
  c1 : w.cell? ⟨r, 1, none⟩ = some (.bool false)
  c2 : w.cell? ⟨r, 2, none⟩ = some (.int .i64 0)
  f0 : w.frozen? ⟨r, 0, none⟩ = false
  own : w.ownsRow base 56 1 v k (rowL va k)
  rb : base ≤ r
  ob : v.ownBlock ≠ some r
  at' : ∀ i, i < k → w.cell? ⟨va i, 0, none⟩ = some (.string (str (blkOf l i))) ∧ va i ≠ r ∧ v.ownBlock ≠ some (va i) ∧ va i < w.heap.size ∧ base ≤ va i
theorem run_app60 {P : Program} {o : Oper} {a : Act} {w w' : World} {s x : Operand} {sv xv v : Value} (hop : o.op = .call { callee := .builtin .append, args := #[s, x], argTypes := #[50, 50] }) (hty : o.type = 50) (hs : a.eval s = sv) (hx : a.eval x = xv) (hL : (Builtin.append_ #[50, 50] 50 #[sv, xv]).run P w = .ok v w') : (execOp a.eval o).run P w = .ok (.value v) w' := by
  unfold execOp
  simp only [hop, hty, resolve, invoke, builtin, Sem.run_bind, Sem.run_pure, Result.andThen_ok, List.map_toArray, List.map_cons, List.map_nil, hs, hx, hL]
theorem LoadL.drew {w : World} {base r k : Nat} {l : List UInt8} {v : Value} {va : Nat → Nat} (h : LoadL w base r k l v va) : LoadL w.drew base r k l v va := ⟨h.c0, h.c1, h.c2, h.f0, h.own, h.rb, h.ob, h.at'⟩
/-- The document's disk, its blocks apart and none frozen. -/
structure RefW (w : World) (base r n : Nat) (held : Bool) (left : Int) (ver : Nat → List (List UInt8)) (gb cb : Nat) (va vc : Nat → Nat) : Prop where
  at' : RefAt w base r n held left ver gb cb va vc
  fr : ∀ o, w.frozen? ⟨r, o, none⟩ = false
  fg : ∀ o, w.frozen? ⟨gb, o, none⟩ = false
  rg : r ≠ gb
  ar : ∀ i, i < n → va i ≠ r ∧ va i ≠ gb
section
variable {w : World} {base r n : Nat} {held : Bool} {left : Int} {ver : Nat → List (List UInt8)} {gb cb : Nat} {va vc : Nat → Nat}
theorem RefW.rl (h : RefW w base r n held left ver gb cb va vc) : r < w.heap.size := block_lt_of_cell h.at'.c0
end
/-- none: a block of 0 as a string. -/
theorem rnone_any (w : World) : Calls Try.prog 17 #[] w fun e w' => e = .returned (.string (str zer)) ∧ Below w.heap.size w w' := by
  have mk : (Instr.makeSlice 39 (.int .i64 256) (.int .i64 256)).run Try.prog w = .ok (.slice (some ⟨w.heap.size, 0, none⟩) 256 256) (w.alloc (.cells (bvs zer).toArray 5)) := make_any w 256 256 (by omega) (by omega)
  have hb : Blk (w.alloc (.cells (bvs zer).toArray 5)) w.heap.size 5 zer := heap_alloc_new _ _
  have cv := conv_str hb.src 256 256 zer_length.symm
  have HB : Hid (Below w.heap.size w (w.alloc (.cells (bvs zer).toArray 5))) := (Below.refl _ _).alloc (Nat.le_refl _) _
  clear hb
  go_enter Try.func17, Try.ntmps17
  go_wp2
  go_ret
  exact ⟨rfl, HB.out⟩
theorem LoadL.low {w w' : World} {base r k : Nat} {l : List UInt8} {v : Value} {va : Nat → Nat} (h : LoadL w base r k l v va) (hb : Below w.heap.size w w') : LoadL w' base r k l v va := by
  have hr : r < w.heap.size := block_lt_of_cell h.c0
  have hs := hb.size
  have ha : ∀ i, i < k → w'.cell? ⟨va i, 0, none⟩ = some (.string (str (blkOf l i))) ∧ va i ≠ r ∧ v.ownBlock ≠ some (va i) ∧ va i < w'.heap.size ∧ base ≤ va i := fun i hi => by
    obtain ⟨a1, a2, a3, a4, a5⟩ := h.at' i hi
    exact ⟨(hb.cell (p := ⟨va i, 0, none⟩) a4).trans a1, a2, a3, by omega, a5⟩
  exact ⟨(hb.cell (p := ⟨r, 0, none⟩) hr).trans h.c0, (hb.cell (p := ⟨r, 1, none⟩) hr).trans h.c1, (hb.cell (p := ⟨r, 2, none⟩) hr).trans h.c2, (hb.frozen (p := ⟨r, 0, none⟩) hr).trans h.f0, owns_below h.own hb (Nat.le_refl _), h.rb, h.ob, ha⟩
theorem LoadL.stepF {w : World} {base r k : Nat} {l : List UInt8} {v : Value} {va : Nat → Nat} (h : LoadL w base r k l v va) (hk : k ≤ 4096) (hbase : base ≤ w.heap.size) :
    ∃ ao ac g cp w4, v = .slice ao k ac ∧
      (Builtin.append_ #[50, 50] 50 #[.slice ao k ac, .slice (some ⟨w.heap.size + 1, 0, none⟩) 1 1]).run Try.prog ((w.alloc (.cells #[.string (str (blkOf l k))] 9)).alloc (.cells #[.slice (some ⟨w.heap.size, 0, none⟩) 1 1] 56)) = .ok (.slice (some ⟨g, 0, none⟩) (k + 1) cp) w4 ∧
      w4.cell? ⟨r, 0, none⟩ = some (.slice ao k ac) ∧ w4.frozen? ⟨r, 0, none⟩ = false ∧
      LoadL (w4.setCell ⟨r, 0, none⟩ (.slice (some ⟨g, 0, none⟩) (k + 1) cp)) base r (k + 1) l (.slice (some ⟨g, 0, none⟩) (k + 1) cp) (upd va k w.heap.size) ∧ Below base w (w4.setCell ⟨r, 0, none⟩ (.slice (some ⟨g, 0, none⟩) (k + 1) cp)) ∧
      (∀ o, w.frozen? ⟨r, o, none⟩ = false → (w4.setCell ⟨r, 0, none⟩ (.slice (some ⟨g, 0, none⟩) (k + 1) cp)).frozen? ⟨r, o, none⟩ = false) := by
  obtain ⟨i0, hi, hz0, hz1, hz2⟩ := info_parts Try.info56
  obtain ⟨ao, ac, hv⟩ : ∃ ao ac, v = .slice ao k ac := by
    obtain ⟨_, h2⟩ := h.own
    rcases h2 with ⟨h2, h3⟩ | ⟨g, cap, _, hv, _⟩
    · exact ⟨none, 0, by rw [h2, h3]⟩
    · exact ⟨_, cap, hv⟩
  have hrl : r < w.heap.size := block_lt_of_cell h.c0
  have s1 := alloc_size w (.cells #[.string (str (blkOf l k))] 9)
  have s2 := alloc_size (w.alloc (.cells #[.string (str (blkOf l k))] 9)) (.cells #[.slice (some ⟨w.heap.size, 0, none⟩) 1 1] 56)
  have hb2 : Below w.heap.size w ((w.alloc (.cells #[.string (str (blkOf l k))] 9)).alloc (.cells #[.slice (some ⟨w.heap.size, 0, none⟩) 1 1] 56)) := ((Below.refl _ _).alloc (Nat.le_refl _) _).alloc (by omega) _
  have hcs : ((w.alloc (.cells #[.string (str (blkOf l k))] 9)).alloc (.cells #[.slice (some ⟨w.heap.size, 0, none⟩) 1 1] 56)).cell? ⟨w.heap.size + 1, 0, none⟩ = some (.slice (some ⟨w.heap.size, 0, none⟩) 1 1) := by
    have := cell_one (w.alloc (.cells #[.string (str (blkOf l k))] 9)) (.slice (some ⟨w.heap.size, 0, none⟩) 1 1) 56 (0, 0)
    rw [s1] at this; exact this
  have hst : ((w.alloc (.cells #[.string (str (blkOf l k))] 9)).alloc (.cells #[.slice (some ⟨w.heap.size, 0, none⟩) 1 1] 56)).cell? ⟨w.heap.size, 0, none⟩ = some (.string (str (blkOf l k))) := by
    rw [World.cell?_alloc_lt _ _ _ (show w.heap.size < _ by rw [s1]; omega)]
    exact cell_one w _ 9 (0, 0)
  obtain ⟨W2, HW2⟩ : ∃ W2, W2 = ((w.alloc (.cells #[.string (str (blkOf l k))] 9)).alloc (.cells #[.slice (some ⟨w.heap.size, 0, none⟩) 1 1] 56)) := ⟨_, rfl⟩
  rw [← HW2] at hb2 hcs hst s2 ⊢
  obtain ⟨g, cp, w4, hrun, hown, hgrow, hat, hlt⟩ := run_append_lies (P := Try.prog) W2 50 50 base 56 i0 (.agg #[.slice none 0 0]) 1 24 Try.underlying50 hi hz0 hz1 hz2 rfl (by omega) v k _ (owns_below h.own hb2 (Nat.le_refl _)) ⟨w.heap.size + 1, 0, none⟩ 1 1 [.slice (some ⟨w.heap.size, 0, none⟩) 1 1] rfl (fun j u hj => by
    have hj0 : j = 0 := by have := (List.getElem?_eq_some_iff.1 hj).1; simp at this; omega
    subst hj0
    have hu : u = .slice (some ⟨w.heap.size, 0, none⟩) 1 1 := by simpa using hj.symm
    rw [addr_add, hu]; exact hcs) (by intro u hu; simp at hu; subst hu; rfl) (by omega) (by unfold maxLen; omega) (by omega) (by omega) (w.heap.size + 2) (by omega)
  have hblk : ∀ j, j < w.heap.size + 2 → some j ≠ v.ownBlock → w4.heap[j]? = W2.heap[j]? := fun j hj hne => hgrow.block j (by omega) hne
  have hrb : w4.heap[r]? = w.heap[r]? := (hblk r (by omega) (fun e => h.ob e.symm)).trans (hb2.block r hrl)
  have hs4 := hgrow.size
  have hgr : g ≠ r := by
    rcases hat with e | e
    · intro e2; exact h.ob (by rw [e, e2])
    · omega
  have hb4 : Below base w w4 := (hb2.mono hbase).grown hgrow (by omega) (fun j hj => (World.ownsRow.lt h.own j hj).1)
  rw [hv] at hrun
  refine ⟨ao, ac, g, cp, w4, hv, hrun, by rw [← hv]; exact (World.cell?_of_block (a := ⟨r, 0, none⟩) hrb).trans h.c0, (World.frozen?_of_block (a := ⟨r, 0, none⟩) hrb).trans h.f0, ?_, hb4.setCell h.rb _, fun o ho => by rw [World.frozen?_setCell]; exact (World.frozen?_of_block (a := ⟨r, o, none⟩) hrb).trans ho⟩
  have hc0 : w4.cell? ⟨r, 0, none⟩ = some v := (World.cell?_of_block (a := ⟨r, 0, none⟩) hrb).trans h.c0
  have hoth : ∀ j, j ≠ r → (w4.setCell ⟨r, 0, none⟩ (.slice (some ⟨g, 0, none⟩) (k + 1) cp)).heap[j]? = w4.heap[j]? := fun j hj => heap_setCell_other w4 ⟨r, 0, none⟩ j _ hj
  exact {
    c0 := World.cell?_setCell_same _ _ _ hc0
    c1 := (World.cell?_setCell_other _ _ _ _ (by simp)).trans ((World.cell?_of_block (a := ⟨r, 1, none⟩) hrb).trans h.c1)
    c2 := (World.cell?_setCell_other _ _ _ _ (by simp)).trans ((World.cell?_of_block (a := ⟨r, 2, none⟩) hrb).trans h.c2)
    f0 := by rw [World.frozen?_setCell]; exact (World.frozen?_of_block (a := ⟨r, 0, none⟩) hrb).trans h.f0
    own := by
      have e : rowL (upd va k w.heap.size) (k + 1) = rowL va k ++ [.slice (some ⟨w.heap.size, 0, none⟩) 1 1] := by
        unfold rowL
        rw [List.range_succ, List.map_append]
        congr 1
        · exact List.map_congr_left fun i hi => by rw [upd_other _ _ _ (by have := List.mem_range.1 hi; omega)]
        · simp [upd_same]
      rw [e]
      exact World.ownsRow.kept hown ⟨rfl, rfl, rfl, by simp [World.setCell], fun j _ hj => hoth j (fun e => hj (by rw [e]))⟩ (.inr (by intro e; exact hgr (by simpa [Value.ownBlock] using e)))
    rb := h.rb
    ob := by intro e; exact hgr (by simpa [Value.ownBlock] using e)
    at' := fun i hik => by
      have hsz : (w4.setCell ⟨r, 0, none⟩ (.slice (some ⟨g, 0, none⟩) (k + 1) cp)).heap.size = w4.heap.size := by simp [World.setCell]
      by_cases hi2 : i = k
      · subst hi2
        rw [upd_same]
        have hne : some w.heap.size ≠ v.ownBlock := fun e => by have := (World.ownsRow.lt h.own _ e.symm).2; omega
        refine ⟨?_, by omega, ?_, by omega, hbase⟩
        · rw [World.cell?_of_block (a := ⟨w.heap.size, 0, none⟩) (hoth w.heap.size (by omega)), World.cell?_of_block (a := ⟨w.heap.size, 0, none⟩) (hblk w.heap.size (by omega) hne)]
          exact hst
        · intro e
          have e2 : g = w.heap.size := by simpa [Value.ownBlock] using e
          rcases hat with e3 | e3
          · exact hne (by rw [e3, e2])
          · omega
      · rw [upd_other _ _ _ hi2]
        obtain ⟨a1, a2, a3, a4, a5⟩ := h.at' i (by omega)
        refine ⟨?_, a2, ?_, by omega, a5⟩
        · rw [World.cell?_of_block (a := ⟨va i, 0, none⟩) (hoth _ a2), World.cell?_of_block (a := ⟨va i, 0, none⟩) (hblk (va i) (by omega) (fun e => a3 e.symm)), World.cell?_of_block (a := ⟨va i, 0, none⟩) (hb2.block (va i) a4)]
          exact a1
        · intro e
          have e2 : g = va i := by simpa [Value.ownBlock] using e
          rcases hat with e3 | e3
          · exact a3 (by rw [e3, e2])
          · omega }
theorem LoadL.refW {w : World} {base r n : Nat} {l : List UInt8} {v : Value} {va : Nat → Nat} (h : LoadL w base r n l v va) (hf : ∀ o, w.frozen? ⟨r, o, none⟩ = false) (h1 : 1 ≤ n) (hn : n ≤ 4096) : ∃ gb cb, RefW w base r n false 0 (fun i => blkOf l i :: []) gb cb va (fun _ => 1) ∧ base ≤ gb ∧ ∀ i, i < n → base ≤ va i := by
  have ho := h.own
  obtain ⟨o1, o2⟩ := h.own
  rcases o2 with ⟨_, o3⟩ | ⟨g, cap, cur, hv, hg, hh, hn2, hm, hs, hx⟩
  · omega
  · subst hv
    have RA : RefAt w base r n false 0 (fun i => blkOf l i :: []) g cap va (fun _ => 1) := by
      refine { nn := by omega, c0 := h.c0, c1 := h.c1, c2 := h.c2, rb := h.rb, gl := (Array.getElem?_eq_some_iff.1 hh).1, cl := ⟨hn2, by unfold maxLen at hm; omega⟩, row := fun i hi => ⟨?_, (h.at' i hi).2.2.2.1, by simp, by simp, by simp, by omega⟩, vers := fun i hi j hj => ?_ }
      · rw [World.ownsRow.cellAt ho i (by omega)]
        simp [rowL, hi]
      · have hj0 : j = 0 := by simp at hj; omega
        subst hj0
        exact (h.at' i hi).1
    refine ⟨g, cap, ⟨RA, hf, fun o => World.ownsRow.frozenAt ho o, fun e => h.ob (by rw [e]; rfl), fun i hi => ⟨(h.at' i hi).2.1, fun e => (h.at' i hi).2.2.1 (by rw [e]; rfl)⟩⟩, hg, fun i hi => (h.at' i hi).2.2.2.2⟩
theorem blk_zer (n k : Nat) (hk : k < n) : blkOf (List.replicate (n * 256) 0) k = zer := by
  unfold blkOf zer
  rw [List.drop_replicate, List.take_replicate]
  congr 1
  omega
set_option maxRecDepth 100000 in
set_option maxHeartbeats 8000000 in
theorem rnew_go (n : Nat) (h1 : 1 ≤ n) (hn : n ≤ 40) (w : World) :
    Calls Try.prog 6 #[.int .i64 (n : Int)] w fun e w' => e = .returned (.tuple #[.pointer (some ⟨w.heap.size, 0, none⟩), .int .i64 0]) ∧ (∃ v va, LoadL w' w.heap.size w.heap.size n (List.replicate (n * 256) 0) v va) ∧ (∀ o, w'.frozen? ⟨w.heap.size, o, none⟩ = false) ∧ Below w.heap.size w w' := by
  have hn1 : ¬ (n : Int) < 1 := by omega
  have hn2 : ¬ (4096 : Int) < n := by omega
  have hzb : ∀ k, k < n → blkOf (List.replicate (n * 256) 0) k = zer := blk_zer n
  have h0 : Hid (LoadL (w.alloc (.cells #[.slice none 0 0, .bool false, .int .i64 0] 52)) w.heap.size w.heap.size 0 (List.replicate (n * 256) 0) (.slice none 0 0) (fun _ => 0)) := by
    have e : (w.alloc (.cells #[.slice none 0 0, .bool false, .int .i64 0] 52)).heap[w.heap.size]? = some (.cells #[.slice none 0 0, .bool false, .int .i64 0] 52 (0, 0)) := heap_alloc_new _ _
    exact { c0 := by rw [cell_of_row _ _ 0 _ _ _ e]; rfl, c1 := by rw [cell_of_row _ _ 1 _ _ _ e]; rfl, c2 := by rw [cell_of_row _ _ 2 _ _ _ e]; rfl, f0 := frozen_of_row _ _ 0 _ _ e, own := World.ownsRow_nil _ _ _ _, rb := Nat.le_refl _, ob := by simp [Value.ownBlock], at' := fun i hi => by omega }
  have hf0 : Hid (∀ o, (w.alloc (.cells #[.slice none 0 0, .bool false, .int .i64 0] 52)).frozen? ⟨w.heap.size, o, none⟩ = false) := fun o => frozen_of_row _ _ o _ _ (heap_alloc_new w _)
  have hb0 : Hid (Below w.heap.size w (w.alloc (.cells #[.slice none 0 0, .bool false, .int .i64 0] 52))) := (Below.refl _ _).alloc (Nat.le_refl _) _
  go_enter Try.func6, Try.ntmps6
  go_wp2_with fail
  go_loopw [5] (fun s wr => ∃ (k : Nat) (v : Value) (va : Nat → Nat), k ≤ n ∧ s = .int .i64 k ∧ Hid (LoadL wr w.heap.size w.heap.size k (List.replicate (n * 256) 0) v va) ∧ Hid (∀ o, wr.frozen? ⟨w.heap.size, o, none⟩ = false) ∧ Hid (Below w.heap.size w wr)) (fun s _ => n - (intOf s).toNat)
  case atStart => exact ⟨0, _, _, by omega, rfl, h0, hf0, hb0⟩
  case round =>
    obtain ⟨k, v, va, hk, rfl, HL, HFZ, HB⟩ := hrel
    clear h0 hb0 hf0
    by_cases hlt : (k : Int) < n
    · obtain ⟨ao, ac, rfl⟩ : ∃ ao ac, v = .slice ao k ac := by
        obtain ⟨_, h2⟩ := HL.out.own
        rcases h2 with ⟨h2, h3⟩ | ⟨g, cap, _, hv, _⟩
        · exact ⟨none, 0, by rw [h2, h3]⟩
        · exact ⟨_, cap, hv⟩
      have L1 := HL.out.drew
      have HBd : Hid (Below w.heap.size w wr.drew) := HB.out.drew
      have hlw : w.heap.size < wr.drew.heap.size := block_lt_of_cell L1.c0
      have HFd : Hid (∀ o, wr.drew.frozen? ⟨w.heap.size, o, none⟩ = false) := HFZ.out
      clear HL HB HFZ
      go_wp2_with fail
      refine wp_region_held_drew (S := (fun _ => True)) (by kernel_rfl) trivial (fun hH => ?_)
      generalize wr.drew = wd at *
      refine takeH (i := 0) (dst := some 19) (v := ?vn1) rfl rfl (by kernel_rfl) (by kernel_rfl) (by kernel_rfl) (fun _ _ _ h => h) rfl ?hyn1 hH rfl ?restn1
      case hyn1 => (intro W hW; clear hW; go_simp; try with_reducible rfl)
      (try simp only [Act.put, List.setIfInBounds_toArray, List.set_cons_zero, List.set_cons_succ])
      refine takeH (i := 1) (dst := some 20) (v := ?vn2) rfl rfl (by kernel_rfl) (by kernel_rfl) (by kernel_rfl) (fun _ _ _ h => h) rfl ?hyn2 hH rfl ?restn2
      case hyn2 => (intro W hW; clear hW; go_simp; try with_reducible rfl)
      (try simp only [Act.put, List.setIfInBounds_toArray, List.set_cons_zero, List.set_cons_succ])
      refine takeH (i := 2) (dst := some 21) (v := ?vn3) rfl rfl (by kernel_rfl) (by kernel_rfl) (by kernel_rfl) (fun _ _ _ h => h) rfl ?hyn3 hH rfl ?restn3
      case hyn3 => (intro W hW; clear hW; go_simp; try with_reducible rfl)
      (try simp only [Act.put, List.setIfInBounds_toArray, List.set_cons_zero, List.set_cons_succ])
      refine takeH (i := 3) (dst := some 22) (v := ?vn4) rfl rfl (by kernel_rfl) (by kernel_rfl) (by kernel_rfl) (fun _ _ _ h => h) rfl ?hyn4 hH rfl ?restn4
      case hyn4 => (intro W hW; clear hW; go_simp; try with_reducible rfl)
      (try simp only [Act.put, List.setIfInBounds_toArray, List.set_cons_zero, List.set_cons_succ])
      refine callH2 (i := 4) (j := 5) { dst := some 23, op := Go.Op.load 50 (Go.Operand.tmp 22), type := 50, pos := "ref.go:49", after := #[{ on := 3, ground := Go.Ground.data }], guard := none } { dst := some 24, op := Go.Op.call { callee := Go.Callee.value (Go.Operand.func 17), args := #[], argTypes := #[] }, type := 9, pos := "ref.go:49", after := #[], guard := none } (by kernel_rfl) rfl rfl rfl rfl (fun K hK => ?_) (fun K hK => ?_)
      · have cl := L1.c0
        go_simp
        clear hH cl
        refine hK.out _ _ trivial (fun hH => ?_)
        clear hK K
        (try simp only [Act.put, List.setIfInBounds_toArray, List.set_cons_zero, List.set_cons_succ])
        refine callH (i := 5) { dst := some 24, op := Go.Op.call { callee := Go.Callee.value (Go.Operand.func 17), args := #[], argTypes := #[] }, type := 9, pos := "ref.go:49", after := #[], guard := none } (by kernel_rfl) rfl rfl (fun K hK => ?_)
        go_simp
        refine (rnone_any _).mono ?_
        rintro e w5 ⟨rfl, b5⟩
        have L5 := L1.low b5
        have hz5 := b5.size
        clear hH
        refine hK.out _ _ trivial (fun hH => ?_)
        clear hK K
        (try simp only [Act.put, List.setIfInBounds_toArray, List.set_cons_zero, List.set_cons_succ])
        refine callH (i := 6) { dst := some 25, op := Go.Op.buildSlice 54 1 #[(0, Go.Operand.tmp 24)], type := 54, pos := "ref.go:49", after := #[{ on := 5, ground := Go.Ground.data }], guard := none } (by kernel_rfl) rfl rfl (fun K hK => ?_)
        go_simp
        clear hH
        refine hK.out _ _ trivial (fun hH => ?_)
        clear hK K
        (try simp only [Act.put, List.setIfInBounds_toArray, List.set_cons_zero, List.set_cons_succ])
        refine takeH (i := 7) (dst := some 26) (v := ?vn5) rfl rfl (by kernel_rfl) (by kernel_rfl) (by kernel_rfl) (fun _ _ _ h => h) rfl ?hyn5 hH rfl ?restn5
        case hyn5 => (intro W hW; clear hW; go_simp; try with_reducible rfl)
        (try simp only [Act.put, List.setIfInBounds_toArray, List.set_cons_zero, List.set_cons_succ])
        refine callH (i := 8) { dst := some 27, op := Go.Op.buildSlice 50 1 #[(0, Go.Operand.tmp 26)], type := 50, pos := "ref.go:49", after := #[{ on := 7, ground := Go.Ground.data }], guard := none } (by kernel_rfl) rfl rfl (fun K hK => ?_)
        go_simp
        clear hH
        refine hK.out _ _ trivial (fun hH => ?_)
        clear hK K
        (try simp only [Act.put, List.setIfInBounds_toArray, List.set_cons_zero, List.set_cons_succ])
        obtain ⟨ao', ac', g, cp, w4, ev, hrun, cA, fA, LN, BN, FN⟩ := L5.stepF (by omega) (by omega)
        obtain ⟨rfl, rfl⟩ : ao = ao' ∧ ac = ac' := by simpa using ev
        rw [hzb k (by omega)] at hrun
        refine readyH (i := 9) (v := .slice (some ⟨g, 0, none⟩) (k + 1) cp) (w' := w4) (by kernel_rfl) rfl rfl rfl (run_app60 rfl rfl rfl rfl hrun) rfl trivial ?_
        (try simp only [Act.put, List.setIfInBounds_toArray])
        refine takeH (i := 10) (dst := some 29) (v := ?vn6) rfl rfl (by kernel_rfl) (by kernel_rfl) (by kernel_rfl) (fun _ _ _ h => h) rfl ?hyn6 hH rfl ?restn6
        case hyn6 => (intro W hW; clear hW; go_simp; try with_reducible rfl)
        (try simp only [Act.put])
        refine takeH (i := 11) (dst := some 30) (v := ?vn7) rfl rfl (by kernel_rfl) (by kernel_rfl) (by kernel_rfl) (fun _ _ _ h => h) rfl ?hyn7 hH rfl ?restn7
        case hyn7 => (intro W hW; clear hW; go_simp; try with_reducible rfl)
        (try simp only [Act.put])
        refine callH (i := 12) { dst := none, op := Go.Op.store 50 (Go.Operand.tmp 30) (Go.Operand.tmp 28), type := 0, pos := "ref.go:49", after := #[{ on := 11, ground := Go.Ground.data }, { on := 9, ground := Go.Ground.data }, { on := 9, ground := Go.Ground.chain }, { on := 0, ground := Go.Ground.phase }, { on := 1, ground := Go.Ground.phase }, { on := 2, ground := Go.Ground.phase }, { on := 3, ground := Go.Ground.phase }, { on := 4, ground := Go.Ground.phase }, { on := 5, ground := Go.Ground.phase }, { on := 6, ground := Go.Ground.phase }, { on := 7, ground := Go.Ground.phase }, { on := 8, ground := Go.Ground.phase }, { on := 9, ground := Go.Ground.phase }], guard := none } (by kernel_rfl) rfl rfl (fun K hK => ?_)
        go_simp
        clear hH
        refine hK.out _ _ trivial (fun hH => ?_)
        clear hK K
        (try simp only [Act.put, List.setIfInBounds_toArray, List.set_cons_zero, List.set_cons_succ])
        refine wpAnyH_done (by kernel_rfl) ?_ _
        have HL2 : Hid _ := LN
        have HB2 : Hid (Below w.heap.size w (w4.setCell ⟨w.heap.size, 0, none⟩ (.slice (some ⟨g, 0, none⟩) (k + 1) cp))) := (HBd.out.trans (b5.mono (by omega))).trans BN
        have HF2 : Hid (∀ o, (w4.setCell ⟨w.heap.size, 0, none⟩ (.slice (some ⟨g, 0, none⟩) (k + 1) cp)).frozen? ⟨w.heap.size, o, none⟩ = false) := fun o => FN o ((b5.frozen (p := ⟨w.heap.size, o, none⟩) (show w.heap.size < wd.heap.size by omega)).trans (HFd.out o))
        clear FN
        clear hH cA fA LN BN hrun L5 b5 L1 ev
        go_wp2_with fail
        go_round
        case rel => exact ⟨k + 1, _, _, by omega, by go_num, HL2, HF2, HB2⟩
        case measure => simp [intOf]; omega
      · go_simp
        refine (rnone_any _).mono ?_
        rintro e w5 ⟨rfl, b5⟩
        have L5 := L1.low b5
        have hz5 := b5.size
        clear hH
        refine hK.out _ _ trivial (fun hH => ?_)
        clear hK K
        (try simp only [Act.put, List.setIfInBounds_toArray, List.set_cons_zero, List.set_cons_succ])
        refine callH2 (i := 4) (j := 6) { dst := some 23, op := Go.Op.load 50 (Go.Operand.tmp 22), type := 50, pos := "ref.go:49", after := #[{ on := 3, ground := Go.Ground.data }], guard := none } { dst := some 25, op := Go.Op.buildSlice 54 1 #[(0, Go.Operand.tmp 24)], type := 54, pos := "ref.go:49", after := #[{ on := 5, ground := Go.Ground.data }], guard := none } (by kernel_rfl) rfl rfl rfl rfl (fun K hK => ?_) (fun K hK => ?_)
        · have cl := L5.c0
          go_simp
          clear hH cl
          refine hK.out _ _ trivial (fun hH => ?_)
          clear hK K
          (try simp only [Act.put, List.setIfInBounds_toArray, List.set_cons_zero, List.set_cons_succ])
          refine callH (i := 6) { dst := some 25, op := Go.Op.buildSlice 54 1 #[(0, Go.Operand.tmp 24)], type := 54, pos := "ref.go:49", after := #[{ on := 5, ground := Go.Ground.data }], guard := none } (by kernel_rfl) rfl rfl (fun K hK => ?_)
          go_simp
          clear hH
          refine hK.out _ _ trivial (fun hH => ?_)
          clear hK K
          (try simp only [Act.put, List.setIfInBounds_toArray, List.set_cons_zero, List.set_cons_succ])
          refine takeH (i := 7) (dst := some 26) (v := ?vn8) rfl rfl (by kernel_rfl) (by kernel_rfl) (by kernel_rfl) (fun _ _ _ h => h) rfl ?hyn8 hH rfl ?restn8
          case hyn8 => (intro W hW; clear hW; go_simp; try with_reducible rfl)
          (try simp only [Act.put, List.setIfInBounds_toArray, List.set_cons_zero, List.set_cons_succ])
          refine callH (i := 8) { dst := some 27, op := Go.Op.buildSlice 50 1 #[(0, Go.Operand.tmp 26)], type := 50, pos := "ref.go:49", after := #[{ on := 7, ground := Go.Ground.data }], guard := none } (by kernel_rfl) rfl rfl (fun K hK => ?_)
          go_simp
          clear hH
          refine hK.out _ _ trivial (fun hH => ?_)
          clear hK K
          (try simp only [Act.put, List.setIfInBounds_toArray, List.set_cons_zero, List.set_cons_succ])
          obtain ⟨ao', ac', g, cp, w4, ev, hrun, cA, fA, LN, BN, FN⟩ := L5.stepF (by omega) (by omega)
          obtain ⟨rfl, rfl⟩ : ao = ao' ∧ ac = ac' := by simpa using ev
          rw [hzb k (by omega)] at hrun
          refine readyH (i := 9) (v := .slice (some ⟨g, 0, none⟩) (k + 1) cp) (w' := w4) (by kernel_rfl) rfl rfl rfl (run_app60 rfl rfl rfl rfl hrun) rfl trivial ?_
          (try simp only [Act.put, List.setIfInBounds_toArray])
          refine takeH (i := 10) (dst := some 29) (v := ?vn9) rfl rfl (by kernel_rfl) (by kernel_rfl) (by kernel_rfl) (fun _ _ _ h => h) rfl ?hyn9 hH rfl ?restn9
          case hyn9 => (intro W hW; clear hW; go_simp; try with_reducible rfl)
          (try simp only [Act.put])
          refine takeH (i := 11) (dst := some 30) (v := ?vn10) rfl rfl (by kernel_rfl) (by kernel_rfl) (by kernel_rfl) (fun _ _ _ h => h) rfl ?hyn10 hH rfl ?restn10
          case hyn10 => (intro W hW; clear hW; go_simp; try with_reducible rfl)
          (try simp only [Act.put])
          refine callH (i := 12) { dst := none, op := Go.Op.store 50 (Go.Operand.tmp 30) (Go.Operand.tmp 28), type := 0, pos := "ref.go:49", after := #[{ on := 11, ground := Go.Ground.data }, { on := 9, ground := Go.Ground.data }, { on := 9, ground := Go.Ground.chain }, { on := 0, ground := Go.Ground.phase }, { on := 1, ground := Go.Ground.phase }, { on := 2, ground := Go.Ground.phase }, { on := 3, ground := Go.Ground.phase }, { on := 4, ground := Go.Ground.phase }, { on := 5, ground := Go.Ground.phase }, { on := 6, ground := Go.Ground.phase }, { on := 7, ground := Go.Ground.phase }, { on := 8, ground := Go.Ground.phase }, { on := 9, ground := Go.Ground.phase }], guard := none } (by kernel_rfl) rfl rfl (fun K hK => ?_)
          go_simp
          clear hH
          refine hK.out _ _ trivial (fun hH => ?_)
          clear hK K
          (try simp only [Act.put, List.setIfInBounds_toArray, List.set_cons_zero, List.set_cons_succ])
          refine wpAnyH_done (by kernel_rfl) ?_ _
          have HL2 : Hid _ := LN
          have HB2 : Hid (Below w.heap.size w (w4.setCell ⟨w.heap.size, 0, none⟩ (.slice (some ⟨g, 0, none⟩) (k + 1) cp))) := (HBd.out.trans (b5.mono (by omega))).trans BN
          have HF2 : Hid (∀ o, (w4.setCell ⟨w.heap.size, 0, none⟩ (.slice (some ⟨g, 0, none⟩) (k + 1) cp)).frozen? ⟨w.heap.size, o, none⟩ = false) := fun o => FN o ((b5.frozen (p := ⟨w.heap.size, o, none⟩) (show w.heap.size < wd.heap.size by omega)).trans (HFd.out o))
          clear FN
          clear hH cA fA LN BN hrun L5 b5 L1 ev
          go_wp2_with fail
          go_round
          case rel => exact ⟨k + 1, _, _, by omega, by go_num, HL2, HF2, HB2⟩
          case measure => simp [intOf]; omega
        · go_simp
          clear hH
          refine hK.out _ _ trivial (fun hH => ?_)
          clear hK K
          (try simp only [Act.put, List.setIfInBounds_toArray, List.set_cons_zero, List.set_cons_succ])
          refine takeH (i := 7) (dst := some 26) (v := ?vn11) rfl rfl (by kernel_rfl) (by kernel_rfl) (by kernel_rfl) (fun _ _ _ h => h) rfl ?hyn11 hH rfl ?restn11
          case hyn11 => (intro W hW; clear hW; go_simp; try with_reducible rfl)
          (try simp only [Act.put, List.setIfInBounds_toArray, List.set_cons_zero, List.set_cons_succ])
          refine callH2 (i := 4) (j := 8) { dst := some 23, op := Go.Op.load 50 (Go.Operand.tmp 22), type := 50, pos := "ref.go:49", after := #[{ on := 3, ground := Go.Ground.data }], guard := none } { dst := some 27, op := Go.Op.buildSlice 50 1 #[(0, Go.Operand.tmp 26)], type := 50, pos := "ref.go:49", after := #[{ on := 7, ground := Go.Ground.data }], guard := none } (by kernel_rfl) rfl rfl rfl rfl (fun K hK => ?_) (fun K hK => ?_)
          · have cl := (World.cell?_alloc_lt w5 (.cells #[.string (str zer)] 9) ⟨w.heap.size, 0, none⟩ (show w.heap.size < w5.heap.size by omega)).trans L5.c0
            go_simp
            clear hH cl
            refine hK.out _ _ trivial (fun hH => ?_)
            clear hK K
            (try simp only [Act.put, List.setIfInBounds_toArray, List.set_cons_zero, List.set_cons_succ])
            refine callH (i := 8) { dst := some 27, op := Go.Op.buildSlice 50 1 #[(0, Go.Operand.tmp 26)], type := 50, pos := "ref.go:49", after := #[{ on := 7, ground := Go.Ground.data }], guard := none } (by kernel_rfl) rfl rfl (fun K hK => ?_)
            go_simp
            clear hH
            refine hK.out _ _ trivial (fun hH => ?_)
            clear hK K
            (try simp only [Act.put, List.setIfInBounds_toArray, List.set_cons_zero, List.set_cons_succ])
            obtain ⟨ao', ac', g, cp, w4, ev, hrun, cA, fA, LN, BN, FN⟩ := L5.stepF (by omega) (by omega)
            obtain ⟨rfl, rfl⟩ : ao = ao' ∧ ac = ac' := by simpa using ev
            rw [hzb k (by omega)] at hrun
            refine readyH (i := 9) (v := .slice (some ⟨g, 0, none⟩) (k + 1) cp) (w' := w4) (by kernel_rfl) rfl rfl rfl (run_app60 rfl rfl rfl rfl hrun) rfl trivial ?_
            (try simp only [Act.put, List.setIfInBounds_toArray])
            refine takeH (i := 10) (dst := some 29) (v := ?vn12) rfl rfl (by kernel_rfl) (by kernel_rfl) (by kernel_rfl) (fun _ _ _ h => h) rfl ?hyn12 hH rfl ?restn12
            case hyn12 => (intro W hW; clear hW; go_simp; try with_reducible rfl)
            (try simp only [Act.put])
            refine takeH (i := 11) (dst := some 30) (v := ?vn13) rfl rfl (by kernel_rfl) (by kernel_rfl) (by kernel_rfl) (fun _ _ _ h => h) rfl ?hyn13 hH rfl ?restn13
            case hyn13 => (intro W hW; clear hW; go_simp; try with_reducible rfl)
            (try simp only [Act.put])
            refine callH (i := 12) { dst := none, op := Go.Op.store 50 (Go.Operand.tmp 30) (Go.Operand.tmp 28), type := 0, pos := "ref.go:49", after := #[{ on := 11, ground := Go.Ground.data }, { on := 9, ground := Go.Ground.data }, { on := 9, ground := Go.Ground.chain }, { on := 0, ground := Go.Ground.phase }, { on := 1, ground := Go.Ground.phase }, { on := 2, ground := Go.Ground.phase }, { on := 3, ground := Go.Ground.phase }, { on := 4, ground := Go.Ground.phase }, { on := 5, ground := Go.Ground.phase }, { on := 6, ground := Go.Ground.phase }, { on := 7, ground := Go.Ground.phase }, { on := 8, ground := Go.Ground.phase }, { on := 9, ground := Go.Ground.phase }], guard := none } (by kernel_rfl) rfl rfl (fun K hK => ?_)
            go_simp
            clear hH
            refine hK.out _ _ trivial (fun hH => ?_)
            clear hK K
            (try simp only [Act.put, List.setIfInBounds_toArray, List.set_cons_zero, List.set_cons_succ])
            refine wpAnyH_done (by kernel_rfl) ?_ _
            have HL2 : Hid _ := LN
            have HB2 : Hid (Below w.heap.size w (w4.setCell ⟨w.heap.size, 0, none⟩ (.slice (some ⟨g, 0, none⟩) (k + 1) cp))) := (HBd.out.trans (b5.mono (by omega))).trans BN
            have HF2 : Hid (∀ o, (w4.setCell ⟨w.heap.size, 0, none⟩ (.slice (some ⟨g, 0, none⟩) (k + 1) cp)).frozen? ⟨w.heap.size, o, none⟩ = false) := fun o => FN o ((b5.frozen (p := ⟨w.heap.size, o, none⟩) (show w.heap.size < wd.heap.size by omega)).trans (HFd.out o))
            clear FN
            clear hH cA fA LN BN hrun L5 b5 L1 ev
            go_wp2_with fail
            go_round
            case rel => exact ⟨k + 1, _, _, by omega, by go_num, HL2, HF2, HB2⟩
            case measure => simp [intOf]; omega
          · go_simp
            clear hH
            refine hK.out _ _ trivial (fun hH => ?_)
            clear hK K
            (try simp only [Act.put, List.setIfInBounds_toArray, List.set_cons_zero, List.set_cons_succ])
            refine callH (i := 4) { dst := some 23, op := Go.Op.load 50 (Go.Operand.tmp 22), type := 50, pos := "ref.go:49", after := #[{ on := 3, ground := Go.Ground.data }], guard := none } (by kernel_rfl) rfl rfl (fun K hK => ?_)
            have cl := (World.cell?_alloc_lt (w5.alloc (.cells #[.string (str zer)] 9)) (.cells #[.slice (some ⟨w5.heap.size, 0, none⟩) 1 1] 56) ⟨w.heap.size, 0, none⟩ (show w.heap.size < (w5.alloc (.cells #[.string (str zer)] 9)).heap.size by rw [alloc_size]; omega)).trans ((World.cell?_alloc_lt w5 (.cells #[.string (str zer)] 9) ⟨w.heap.size, 0, none⟩ (show w.heap.size < w5.heap.size by omega)).trans L5.c0)
            go_simp
            clear hH cl
            refine hK.out _ _ trivial (fun hH => ?_)
            clear hK K
            (try simp only [Act.put, List.setIfInBounds_toArray, List.set_cons_zero, List.set_cons_succ])
            obtain ⟨ao', ac', g, cp, w4, ev, hrun, cA, fA, LN, BN, FN⟩ := L5.stepF (by omega) (by omega)
            obtain ⟨rfl, rfl⟩ : ao = ao' ∧ ac = ac' := by simpa using ev
            rw [hzb k (by omega)] at hrun
            refine readyH (i := 9) (v := .slice (some ⟨g, 0, none⟩) (k + 1) cp) (w' := w4) (by kernel_rfl) rfl rfl rfl (run_app60 rfl rfl rfl rfl hrun) rfl trivial ?_
            (try simp only [Act.put, List.setIfInBounds_toArray])
            refine takeH (i := 10) (dst := some 29) (v := ?vn14) rfl rfl (by kernel_rfl) (by kernel_rfl) (by kernel_rfl) (fun _ _ _ h => h) rfl ?hyn14 hH rfl ?restn14
            case hyn14 => (intro W hW; clear hW; go_simp; try with_reducible rfl)
            (try simp only [Act.put])
            refine takeH (i := 11) (dst := some 30) (v := ?vn15) rfl rfl (by kernel_rfl) (by kernel_rfl) (by kernel_rfl) (fun _ _ _ h => h) rfl ?hyn15 hH rfl ?restn15
            case hyn15 => (intro W hW; clear hW; go_simp; try with_reducible rfl)
            (try simp only [Act.put])
            refine callH (i := 12) { dst := none, op := Go.Op.store 50 (Go.Operand.tmp 30) (Go.Operand.tmp 28), type := 0, pos := "ref.go:49", after := #[{ on := 11, ground := Go.Ground.data }, { on := 9, ground := Go.Ground.data }, { on := 9, ground := Go.Ground.chain }, { on := 0, ground := Go.Ground.phase }, { on := 1, ground := Go.Ground.phase }, { on := 2, ground := Go.Ground.phase }, { on := 3, ground := Go.Ground.phase }, { on := 4, ground := Go.Ground.phase }, { on := 5, ground := Go.Ground.phase }, { on := 6, ground := Go.Ground.phase }, { on := 7, ground := Go.Ground.phase }, { on := 8, ground := Go.Ground.phase }, { on := 9, ground := Go.Ground.phase }], guard := none } (by kernel_rfl) rfl rfl (fun K hK => ?_)
            go_simp
            clear hH
            refine hK.out _ _ trivial (fun hH => ?_)
            clear hK K
            (try simp only [Act.put, List.setIfInBounds_toArray, List.set_cons_zero, List.set_cons_succ])
            refine wpAnyH_done (by kernel_rfl) ?_ _
            have HL2 : Hid _ := LN
            have HB2 : Hid (Below w.heap.size w (w4.setCell ⟨w.heap.size, 0, none⟩ (.slice (some ⟨g, 0, none⟩) (k + 1) cp))) := (HBd.out.trans (b5.mono (by omega))).trans BN
            have HF2 : Hid (∀ o, (w4.setCell ⟨w.heap.size, 0, none⟩ (.slice (some ⟨g, 0, none⟩) (k + 1) cp)).frozen? ⟨w.heap.size, o, none⟩ = false) := fun o => FN o ((b5.frozen (p := ⟨w.heap.size, o, none⟩) (show w.heap.size < wd.heap.size by omega)).trans (HFd.out o))
            clear FN
            clear hH cA fA LN BN hrun L5 b5 L1 ev
            go_wp2_with fail
            go_round
            case rel => exact ⟨k + 1, _, _, by omega, by go_num, HL2, HF2, HB2⟩
            case measure => simp [intOf]; omega
    · obtain rfl : k = n := by omega
      go_wp2_with fail
      go_ret2
      exact ⟨rfl, ⟨v, va, HL.out⟩, HFZ.out, HB.out⟩
theorem rnew_any (n : Nat) (h1 : 1 ≤ n) (hn : n ≤ 40) (w : World) :
    Calls Try.prog 6 #[.int .i64 (n : Int)] w fun e w' => e = .returned (.tuple #[.pointer (some ⟨w.heap.size, 0, none⟩), .int .i64 0]) ∧ (∃ gb cb va vc, RefW w' w.heap.size w.heap.size n false 0 (fun _ => zer :: []) gb cb va vc ∧ w.heap.size ≤ gb ∧ ∀ i, i < n → w.heap.size ≤ va i) ∧ Below w.heap.size w w' :=
  (rnew_go n h1 hn w).mono fun e w' ⟨h1', ⟨v, va, hL⟩, hf, hb⟩ => by
    obtain ⟨gb, cb, hR, hg, hv⟩ := hL.refW hf h1 (by omega)
    refine ⟨h1', ⟨gb, cb, va, fun _ => 1, ⟨?_, hR.fr, hR.fg, hR.rg, hR.ar⟩, hg, hv⟩, hb⟩
    have k := hR.at'
    refine { nn := k.nn, c0 := k.c0, c1 := k.c1, c2 := k.c2, rb := k.rb, gl := k.gl, cl := k.cl, row := fun i hi => k.row i hi, vers := fun i hi j hj => ?_ }
    have h := k.vers i hi j hj
    have hj0 : j = 0 := by simp at hj; omega
    subst hj0
    rw [h]
    simp [blk_zer n i hi]
end Go.Proofs.Ytikpnfnbmbaljaa
/- The document's disk: what a store leaves; goes. -/
namespace Go.Proofs.Ytikpnfnbmbaljaa
open Go.RowKit
set_option maxRecDepth 100000
section
variable {w : World} {base r n : Nat} {held : Bool} {left : Int} {ver : Nat → List (List UInt8)} {gb cb : Nat} {va vc : Nat → Nat}
/-- The blocks of the document's disk. -/
def Rk (r gb n : Nat) (va : Nat → Nat) : Nat → Prop := fun k => k = r ∨ k = gb ∨ ∃ i, i < n ∧ va i = k
theorem RefAt.fr (h : RefAt w base r n held left ver gb cb va vc) {S : Nat → Prop} {w' : World} (hf : Fr S w w') (hS : ∀ k, Rk r gb n va k → ¬ S k) : RefAt w' base r n held left ver gb cb va vc := by
  have hr : r < w.heap.size := block_lt_of_cell h.c0
  have hg := h.gl
  have hs := hf.size
  have sr := hS r (.inl rfl)
  have sg := hS gb (.inr (.inl rfl))
  exact {
    nn := h.nn, rb := h.rb, gl := by omega, cl := h.cl,
    c0 := (fr_cell hf (a := ⟨r, 0, none⟩) hr sr).trans h.c0,
    c1 := (fr_cell hf (a := ⟨r, 1, none⟩) hr sr).trans h.c1,
    c2 := (fr_cell hf (a := ⟨r, 2, none⟩) hr sr).trans h.c2,
    row := fun i hi => ⟨(fr_cell hf (a := ⟨gb, i, none⟩) hg sg).trans (h.row i hi).1, by have := (h.row i hi).2.1; omega, (h.row i hi).2.2⟩,
    vers := fun i hi j hj => (fr_cell hf (a := ⟨va i, j, none⟩) (h.row i hi).2.1 (hS _ (.inr (.inr ⟨i, hi, rfl⟩)))).trans (h.vers i hi j hj) }
end
section
variable {w : World} {base r n : Nat} {held : Bool} {left : Int} {ver : Nat → List (List UInt8)} {gb cb : Nat} {va vc : Nat → Nat}
theorem RefW.keep (h : RefW w base r n held left ver gb cb va vc) {S : Nat → Prop} {w' : World} (hf : Fr S w w') (hS : ∀ k, Rk r gb n va k → ¬ S k) : RefW w' base r n held left ver gb cb va vc :=
  ⟨h.at'.fr hf hS, fun o => (fr_frozen hf (a := ⟨r, o, none⟩) h.rl (hS r (.inl rfl))).trans (h.fr o), fun o => (fr_frozen hf (a := ⟨gb, o, none⟩) h.at'.gl (hS gb (.inr (.inl rfl)))).trans (h.fg o), h.rg, h.ar⟩
theorem RefW.below (h : RefW w base r n held left ver gb cb va vc) {w' : World} (hb : Below w.heap.size w w') : RefW w' base r n held left ver gb cb va vc :=
  h.keep (S := fun _ => False) (Fr.of_below hb) (fun _ _ h => h)
theorem RefW.set2 (h : RefW w base r n held left ver gb cb va vc) (x : Int) : RefW (w.setCell ⟨r, 2, none⟩ (.int .i64 x)) base r n held x ver gb cb va vc := by
  have k := h.at'
  refine ⟨{ nn := k.nn, rb := k.rb, gl := (by simpa [World.setCell] using k.gl), cl := k.cl, c0 := (World.cell?_setCell_other _ _ _ _ (by simp)).trans k.c0, c1 := (World.cell?_setCell_other _ _ _ _ (by simp)).trans k.c1, c2 := World.cell?_setCell_same _ _ _ k.c2, row := fun i hi => ⟨(World.cell?_setCell_other _ _ _ _ (by intro e; exact h.rg (congrArg Addr.block e))).trans (k.row i hi).1, (by have := (k.row i hi).2.1; simpa [World.setCell] using this), (k.row i hi).2.2⟩, vers := fun i hi j hj => (World.cell?_setCell_other _ _ _ _ (by intro e; exact (h.ar i hi).1 (congrArg Addr.block e).symm)).trans (k.vers i hi j hj) }, fun o => by simpa using h.fr o, fun o => by simpa using h.fg o, h.rg, h.ar⟩
def updN (f : Nat → Nat) (i x : Nat) : Nat → Nat := fun j => if j = i then x else f j
/-- One block's list of versions is laid anew. -/
theorem RefW.setV (h : RefW w base r n held left ver gb cb va vc) (i : Nat) (hi : i < n) (l : List (List UInt8)) (g c : Nat) (hl : 1 ≤ l.length ∧ l.length ≤ 1000000 ∧ l.length ≤ c ∧ (c : Int) ≤ 9223372036854775807) (hg : g < w.heap.size) (h1 : g ≠ r) (h2 : g ≠ gb) (hv : ∀ j, (hj : j < l.length) → w.cell? ⟨g, j, none⟩ = some (.string (str l[j]))) :
    RefW (w.setCell ⟨gb, i, none⟩ (.slice (some ⟨g, 0, none⟩) l.length c)) base r n held left (upd ver i l) gb cb (updN va i g) (updN vc i c) := by
  have k := h.at'
  have hr : ∀ o, (w.setCell ⟨gb, i, none⟩ (.slice (some ⟨g, 0, none⟩) l.length c)).cell? ⟨r, o, none⟩ = w.cell? ⟨r, o, none⟩ := fun o => World.cell?_setCell_other _ _ _ _ (by intro e; exact h.rg (congrArg Addr.block e).symm)
  refine ⟨{ nn := k.nn, rb := k.rb, gl := (by simpa [World.setCell] using k.gl), cl := k.cl, c0 := (hr 0).trans k.c0, c1 := (hr 1).trans k.c1, c2 := (hr 2).trans k.c2, row := fun j hj => ?_, vers := fun j hj t ht => ?_ }, fun o => by simpa using h.fr o, fun o => by simpa using h.fg o, h.rg, fun j hj => ?_⟩
  · unfold upd updN
    by_cases e : j = i
    · subst e
      simp only [if_true]
      exact ⟨World.cell?_setCell_same _ _ _ (k.row j hj).1, by simpa [World.setCell] using hg, hl.1, hl.2.1, hl.2.2.1, hl.2.2.2⟩
    · simp only [if_neg e]
      exact ⟨(World.cell?_setCell_other _ _ _ _ (by intro e2; exact e (congrArg Addr.off e2).symm)).trans (k.row j hj).1, (by have := (k.row j hj).2.1; simpa [World.setCell] using this), (k.row j hj).2.2⟩
  · unfold upd at ht ⊢
    unfold updN
    by_cases e : j = i
    · subst e
      simp only [if_true] at ht ⊢
      exact (World.cell?_setCell_other _ _ _ _ (by intro e2; exact h2 (congrArg Addr.block e2).symm)).trans (hv t ht)
    · simp only [if_neg e] at ht ⊢
      exact (World.cell?_setCell_other _ _ _ _ (by intro e2; exact (h.ar j hj).2 (congrArg Addr.block e2).symm)).trans (k.vers j hj t ht)
  · unfold updN
    by_cases e : j = i
    · simp only [if_pos e]; exact ⟨h1, h2⟩
    · simp only [if_neg e]; exact h.ar j hj
set_option maxHeartbeats 1000000 in
theorem rgoes_any (h : RefW w base r n held left ver gb cb va vc) (hl : 0 ≤ left ∧ left ≤ 9223372036854775807) :
    Calls Try.prog 63 #[.pointer (some ⟨r, 0, none⟩)] w fun e w' => e = .returned (.bool (goesB held left)) ∧ RefW w' base r n held (goesL held left) ver gb cb va vc ∧ Fr (fun k => k = r) w w' := by
  have ST := rstopped_any h.at'
  have c1 := h.at'.c1
  have c2 := h.at'.c2
  have f2 := h.fr 2
  have H0 : Hid _ := h
  have H1 : Hid (RefW (w.setCell ⟨r, 2, none⟩ (.int .i64 (left - 1))) base r n held (left - 1) ver gb cb va vc) := h.set2 _
  have F1 : Hid (Fr (fun k => k = r) w (w.setCell ⟨r, 2, none⟩ (.int .i64 (left - 1)))) := (Fr.refl (fun k => k = r) w).setCell r 2 _ rfl
  clear h
  cases held with
  | false =>
    go_enter Try.func63, Try.ntmps63
    go_wp2_with fail
    refine ST.mono ?_
    rintro e w2 ⟨rfl, rfl⟩
    go_wp2
    go_ret
    exact ⟨rfl, H0.out, Fr.refl _ _⟩
  | true =>
    by_cases h0 : left = 0
    · subst h0
      go_enter Try.func63, Try.ntmps63
      go_wp2_with fail
      refine ST.mono ?_
      rintro e w2 ⟨rfl, rfl⟩
      go_wp2
      go_ret
      exact ⟨rfl, H0.out, Fr.refl _ _⟩
    · have hb : (left == 0) = false := by simpa using h0
      have HG : Hid (goesB true left = true ∧ goesL true left = left - 1) := by
        show _ ∧ _
        unfold goesB goesL
        rw [hb]; exact ⟨rfl, rfl⟩
      rw [HG.out.1, HG.out.2]
      rw [hb] at ST
      clear h0
      go_enter Try.func63, Try.ntmps63
      go_wp2_with fail
      refine ST.mono ?_
      rintro e w2 ⟨rfl, rfl⟩
      go_wp2
      go_ret
      exact ⟨rfl, H1.out, F1.out⟩
end
end Go.Proofs.Ytikpnfnbmbaljaa
/- The document's disk: Flush. -/
namespace Go.Proofs.Ytikpnfnbmbaljaa
open Go.RowKit
set_option maxRecDepth 100000
/-- The last version. -/
def lv (l : List (List UInt8)) : List UInt8 := l.getD (l.length - 1) []
/-- The first k blocks have their last version alone. -/
def verK (ver : Nat → List (List UInt8)) (k : Nat) : Nat → List (List UInt8) := fun i => if i < k then [lv (ver i)] else ver i
theorem verK_step (ver : Nat → List (List UInt8)) (k : Nat) : upd (verK ver k) k [lv (ver k)] = verK ver (k + 1) := by
  funext j
  unfold upd verK
  by_cases e : j = k
  · subst e; simp
  · rw [if_neg e]
    by_cases h : j < k
    · rw [if_pos h, if_pos (by omega)]
    · rw [if_neg h, if_neg (by omega)]
section
variable {w : World} {base r n : Nat} {held : Bool} {left : Int} {ver : Nat → List (List UInt8)} {gb cb : Nat} {va vc : Nat → Nat}
attribute [local go_sem] wrapI
/-- Each list of versions is as it was, or new. -/
def VA (w : World) (n : Nat) (va va' : Nat → Nat) : Prop := ∀ i, i < n → va' i = va i ∨ w.heap.size ≤ va' i
def RG (r gb : Nat) : Nat → Prop := fun k => k = r ∨ k = gb
set_option maxHeartbeats 4000000 in
theorem rflush_go (h : RefW w base r n held left ver gb cb va vc) (hl : 0 ≤ left ∧ left ≤ 9223372036854775807) (hg : goesB held left = true) :
    Calls Try.prog 35 #[.pointer (some ⟨r, 0, none⟩)] w fun e w' => e = .returned (.int .i64 0) ∧ (∃ va', (∃ vc', RefW w' base r n held (goesL held left) (fun i => if i < n then [lv (ver i)] else ver i) gb cb va' vc') ∧ VA w n va va') ∧ Fr (RG r gb) w w' := by
  have GO := rgoes_any h hl
  rw [hg] at GO
  have hlw : r < w.heap.size := h.rl
  have hgw : gb < w.heap.size := h.at'.gl
  have hrow0 : ∀ i, i < n → 1 ≤ (ver i).length ∧ (ver i).length ≤ 1000000 := fun i hi => ⟨(h.at'.row i hi).2.2.1, (h.at'.row i hi).2.2.2.1⟩
  have HROW : Hid _ := hrow0
  clear h hrow0
  go_enter Try.func35, Try.ntmps35
  go_wp2_with fail
  refine GO.mono ?_
  rintro e w2 ⟨rfl, h2, f2⟩
  have HF2 : Hid (Fr (RG r gb) w w2) := f2.mono (fun k _ h => .inl h)
  have H2 : Hid (RefW w2 base r n held (goesL held left) (verK ver 0) gb cb va vc) := by
    have e : verK ver 0 = ver := by funext i; unfold verK; rw [if_neg (by omega)]
    show RefW _ _ _ _ _ _ _ _ _ _ _
    rw [e]; exact h2
  have hnn : (n : Int) ≤ 4096 := by have := h2.at'.nn; omega
  clear f2 h2 GO
  go_wp2_with fail
  go_loopw [3] (fun s wr => ∃ (k : Nat) (va' vc' : Nat → Nat), k ≤ n ∧ s = .int .i64 k ∧ Hid (RefW wr base r n held (goesL held left) (verK ver k) gb cb va' vc') ∧ Hid (VA w n va va') ∧ Hid (Fr (RG r gb) w wr)) (fun s _ => n - (intOf s).toNat)
  case atStart => exact ⟨0, va, vc, by omega, rfl, H2, fun _ _ => .inl rfl, HF2⟩
  case round =>
    obtain ⟨k, va', vc', hk, rfl, HR, HV, HF⟩ := hrel
    clear H2 HF2
    have c0 := HR.out.at'.c0
    by_cases hlt : (k : Int) < n
    · have hk' : k < n := by omega
      have hrow := HR.out.at'.row k hk'
      have hver := HR.out.at'.vers k hk'
      rw [show verK ver k k = ver k by unfold verK; rw [if_neg (by omega)]] at hrow hver
      obtain ⟨m, hm⟩ : ∃ m, (ver k).length = m + 1 := ⟨(ver k).length - 1, by have := (HROW.out k hk').1; omega⟩
      have hmm := (HROW.out k hk').2
      have cs : wr.cell? ⟨va' k, m, none⟩ = some (.string (str (lv (ver k)))) := by
        have hml : m < (ver k).length := by omega
        have e : lv (ver k) = (ver k)[m] := by
          unfold lv
          rw [show (ver k).length - 1 = m by omega]
          simp [hml]
        rw [hver m hml, e]
      obtain ⟨cg, va_lt, _⟩ := hrow
      rw [hm] at cg
      have hvne := HR.out.ar k hk'
      have fgk := HR.out.fg k
      have HSV := fun (W : World) (hW : RefW W base r n held (goesL held left) (verK ver k) gb cb va' vc') (g : Nat) (hgl : g < W.heap.size) (h1 : g ≠ r) (h2 : g ≠ gb) (hc : W.cell? ⟨g, 0, none⟩ = some (.string (str (lv (ver k))))) => hW.setV k hk' [lv (ver k)] g 1 (by simp) hgl h1 h2 (fun j hj => by
        have : j = 0 := by simp at hj; omega
        subst this; exact hc)
      have HS : Hid _ := HSV
      have im : In64 (m : Int) := ⟨by omega⟩
      have hmi : (m : Int) < (m : Int) + 1 := by omega
      have hszr : w.heap.size ≤ wr.heap.size := HF.out.size
      generalize hY : lv (ver k) = y at *
      have HY : Hid (lv (ver k) = y) := hY
      clear hver hm hY HSV hmm
      go_wp2_with fail
      have hS0 : wr.drew.cell? ⟨r, 0, none⟩ = some (.slice (some ⟨gb, 0, none⟩) n cb) ∧ wr.drew.cell? ⟨va' k, m, none⟩ = some (.string (str y)) := ⟨c0, cs⟩
      refine wp_region_held_drew (S := (fun W => W.cell? ⟨r, 0, none⟩ = some (.slice (some ⟨gb, 0, none⟩) n cb) ∧ W.cell? ⟨va' k, m, none⟩ = some (.string (str y)))) (by kernel_rfl) hS0 (fun hH => ?_)
      refine takeH (i := 0) (dst := some 25) (v := ?v1) rfl rfl (by kernel_rfl) (by kernel_rfl) (by kernel_rfl) (fun _ _ _ h => h) rfl ?hy1 hH rfl ?rest1
      case hy1 => (intro W hW; obtain ⟨q0, q1⟩ := hW; go_simp; try with_reducible rfl)
      (try simp only [Act.put, List.setIfInBounds_toArray, List.set_cons_zero, List.set_cons_succ])
      refine takeH (i := 1) (dst := some 26) (v := ?v2) rfl rfl (by kernel_rfl) (by kernel_rfl) (by kernel_rfl) (fun _ _ _ h => h) rfl ?hy2 hH rfl ?rest2
      case hy2 => (intro W hW; obtain ⟨q0, q1⟩ := hW; go_simp; try with_reducible rfl)
      (try simp only [Act.put, List.setIfInBounds_toArray, List.set_cons_zero, List.set_cons_succ])
      refine takeH (i := 2) (dst := some 27) (v := ?v3) rfl rfl (by kernel_rfl) (by kernel_rfl) (by kernel_rfl) (fun _ _ _ h => h) rfl ?hy3 hH rfl ?rest3
      case hy3 => (intro W hW; obtain ⟨q0, q1⟩ := hW; go_simp; try with_reducible rfl)
      (try simp only [Act.put, List.setIfInBounds_toArray, List.set_cons_zero, List.set_cons_succ])
      refine takeH (i := 3) (dst := some 28) (v := ?v4) rfl rfl (by kernel_rfl) (by kernel_rfl) (by kernel_rfl) (fun _ _ _ h => h) rfl ?hy4 hH rfl ?rest4
      case hy4 => (intro W hW; obtain ⟨q0, q1⟩ := hW; go_simp; try with_reducible rfl)
      (try simp only [Act.put, List.setIfInBounds_toArray, List.set_cons_zero, List.set_cons_succ])
      refine takeH (i := 4) (dst := some 29) (v := ?v5) rfl rfl (by kernel_rfl) (by kernel_rfl) (by kernel_rfl) (fun _ _ _ h => h) rfl ?hy5 hH rfl ?rest5
      case hy5 => (intro W hW; obtain ⟨q0, q1⟩ := hW; go_simp; try with_reducible rfl)
      (try simp only [Act.put, List.setIfInBounds_toArray, List.set_cons_zero, List.set_cons_succ])
      refine takeH (i := 5) (dst := some 30) (v := ?v6) rfl rfl (by kernel_rfl) (by kernel_rfl) (by kernel_rfl) (fun _ _ _ h => h) rfl ?hy6 hH rfl ?rest6
      case hy6 => (intro W hW; obtain ⟨q0, q1⟩ := hW; go_simp; try with_reducible rfl)
      (try simp only [Act.put, List.setIfInBounds_toArray, List.set_cons_zero, List.set_cons_succ])
      refine takeH (i := 6) (dst := some 31) (v := ?v7) rfl rfl (by kernel_rfl) (by kernel_rfl) (by kernel_rfl) (fun _ _ _ h => h) rfl ?hy7 hH rfl ?rest7
      case hy7 => (intro W hW; obtain ⟨q0, q1⟩ := hW; go_simp; try with_reducible rfl)
      (try simp only [Act.put, List.setIfInBounds_toArray, List.set_cons_zero, List.set_cons_succ])
      refine takeH (i := 7) (dst := some 32) (v := ?v8) rfl rfl (by kernel_rfl) (by kernel_rfl) (by kernel_rfl) (fun _ _ _ h => h) rfl ?hy8 hH rfl ?rest8
      case hy8 => (intro W hW; obtain ⟨q0, q1⟩ := hW; go_simp; try with_reducible rfl)
      (try simp only [Act.put, List.setIfInBounds_toArray, List.set_cons_zero, List.set_cons_succ])
      refine takeH (i := 8) (dst := some 33) (v := ?v9) rfl rfl (by kernel_rfl) (by kernel_rfl) (by kernel_rfl) (fun _ _ _ h => h) rfl ?hy9 hH rfl ?rest9
      case hy9 => (intro W hW; obtain ⟨q0, q1⟩ := hW; go_simp; try with_reducible rfl)
      (try simp only [Act.put, List.setIfInBounds_toArray, List.set_cons_zero, List.set_cons_succ])
      refine takeH (i := 9) (dst := some 34) (v := ?v10) rfl rfl (by kernel_rfl) (by kernel_rfl) (by kernel_rfl) (fun _ _ _ h => h) rfl ?hy10 hH rfl ?rest10
      case hy10 => (intro W hW; obtain ⟨q0, q1⟩ := hW; go_simp; try with_reducible rfl)
      (try simp only [Act.put, List.setIfInBounds_toArray, List.set_cons_zero, List.set_cons_succ])
      refine takeH (i := 10) (dst := some 35) (v := ?v11) rfl rfl (by kernel_rfl) (by kernel_rfl) (by kernel_rfl) (fun _ _ _ h => h) rfl ?hy11 hH rfl ?rest11
      case hy11 => (intro W hW; obtain ⟨q0, q1⟩ := hW; go_simp; try with_reducible rfl)
      (try simp only [Act.put, List.setIfInBounds_toArray, List.set_cons_zero, List.set_cons_succ])
      refine callH (i := 11) { dst := some 36, op := Go.Op.buildSlice 54 1 #[(0, Go.Operand.tmp 35)], type := 54, pos := "ref.go:110", after := #[{ on := 10, ground := Go.Ground.data }], guard := none } (by kernel_rfl) rfl rfl (fun K hK => ?_)
      go_simp
      have hA : (wr.alloc (.cells #[.string (str y)] 9)).drew.cell? ⟨r, 0, none⟩ = some (.slice (some ⟨gb, 0, none⟩) n cb) ∧ (wr.alloc (.cells #[.string (str y)] 9)).drew.cell? ⟨va' k, m, none⟩ = some (.string (str y)) := ⟨(World.cell?_alloc_lt _ _ _ (show r < wr.heap.size by omega)).trans c0, (World.cell?_alloc_lt _ _ _ va_lt).trans cs⟩
      clear hH
      refine hK.out _ _ hA (fun hH => ?_)
      clear hK K
      (try simp only [Act.put, List.setIfInBounds_toArray, List.set_cons_zero, List.set_cons_succ])
      refine takeH (i := 12) (dst := some 37) (v := ?v12) rfl rfl (by kernel_rfl) (by kernel_rfl) (by kernel_rfl) (fun _ _ _ h => h) rfl ?hy12 hH rfl ?rest12
      case hy12 => (intro W hW; obtain ⟨q0, q1⟩ := hW; go_simp; try with_reducible rfl)
      (try simp only [Act.put, List.setIfInBounds_toArray, List.set_cons_zero, List.set_cons_succ])
      refine takeH (i := 13) (dst := some 38) (v := ?v13) rfl rfl (by kernel_rfl) (by kernel_rfl) (by kernel_rfl) (fun _ _ _ h => h) rfl ?hy13 hH rfl ?rest13
      case hy13 => (intro W hW; obtain ⟨q0, q1⟩ := hW; go_simp; try with_reducible rfl)
      (try simp only [Act.put, List.setIfInBounds_toArray, List.set_cons_zero, List.set_cons_succ])
      have cg1 : (wr.alloc (.cells #[.string (str y)] 9)).drew.cell? ⟨gb, k, none⟩ = some (.slice (some ⟨va' k, 0, none⟩) (m + 1) (vc' k)) := (World.cell?_alloc_lt _ _ _ (show gb < wr.heap.size by omega)).trans cg
      have fg1 : (wr.alloc (.cells #[.string (str y)] 9)).drew.frozen? ⟨gb, k, none⟩ = false := (HR.out.below (((Below.refl _ wr).alloc (Nat.le_refl _) _).drew)).fg k
      refine callH (i := 14) { dst := none, op := Go.Op.store 54 (Go.Operand.tmp 38) (Go.Operand.tmp 36), type := 0, pos := "ref.go:110", after := #[{ on := 13, ground := Go.Ground.data }, { on := 11, ground := Go.Ground.data }, { on := 0, ground := Go.Ground.phase }, { on := 1, ground := Go.Ground.phase }, { on := 2, ground := Go.Ground.phase }, { on := 3, ground := Go.Ground.phase }, { on := 4, ground := Go.Ground.phase }, { on := 5, ground := Go.Ground.phase }, { on := 6, ground := Go.Ground.phase }, { on := 7, ground := Go.Ground.phase }, { on := 8, ground := Go.Ground.phase }, { on := 9, ground := Go.Ground.phase }, { on := 10, ground := Go.Ground.phase }, { on := 11, ground := Go.Ground.phase }], guard := none } (by kernel_rfl) rfl rfl (fun K hK => ?_)
      go_simp
      have al : Below wr.heap.size wr (wr.alloc (.cells #[.string (str y)] 9)).drew := ((Below.refl _ wr).alloc (Nat.le_refl _) _).drew
      have R1 := HR.out.below al
      have hz1 := al.size
      have hz2 : (wr.alloc (.cells #[.string (str y)] 9)).drew.heap.size = wr.heap.size + 1 := by show (wr.heap.push _).size = _; simp
      have R2 := HS.out _ R1 wr.heap.size (by omega) (by omega) (by omega) (by
        exact (cell_of_row (wr.alloc (.cells #[.string (str y)] 9)) wr.heap.size 0 #[.string (str y)] 9 (0, 0) (heap_alloc_new wr _)).trans rfl)
      have F1 : Fr (RG r gb) w ((wr.alloc (.cells #[.string (str y)] 9)).drew.setCell ⟨gb, k, none⟩ (.slice (some ⟨wr.heap.size, 0, none⟩) 1 1)) := (HF.out.trans (Fr.of_below al)).setCell gb k _ (.inr rfl)
      have hB : ((wr.alloc (.cells #[.string (str y)] 9)).drew.setCell ⟨gb, k, none⟩ (.slice (some ⟨wr.heap.size, 0, none⟩) 1 1)).cell? ⟨r, 0, none⟩ = some (.slice (some ⟨gb, 0, none⟩) n cb) ∧ ((wr.alloc (.cells #[.string (str y)] 9)).drew.setCell ⟨gb, k, none⟩ (.slice (some ⟨wr.heap.size, 0, none⟩) 1 1)).cell? ⟨va' k, m, none⟩ = some (.string (str y)) := ⟨(World.cell?_setCell_other _ _ _ _ (by intro e; exact HR.out.rg (congrArg Addr.block e).symm)).trans hA.1, (World.cell?_setCell_other _ _ _ _ (by intro e; exact hvne.2 (congrArg Addr.block e).symm)).trans hA.2⟩
      clear hH
      refine hK.out _ _ hB (fun hH => ?_)
      clear hK K
      (try simp only [Act.put, List.setIfInBounds_toArray, List.set_cons_zero, List.set_cons_succ])
      refine wpAnyH_done (by kernel_rfl) ?_ _
      clear hH
      have HR2 : Hid (RefW ((wr.alloc (.cells #[.string (str y)] 9)).drew.setCell ⟨gb, k, none⟩ (.slice (some ⟨wr.heap.size, 0, none⟩) 1 1)) base r n held (goesL held left) (verK ver (k + 1)) gb cb (updN va' k wr.heap.size) (updN vc' k 1)) := by
        have e := verK_step ver k
        rw [HY.out] at e
        show RefW _ _ _ _ _ _ _ _ _ _ _
        rw [← e]; exact R2
      have HV2 : Hid (VA w n va (updN va' k wr.heap.size)) := by
        intro i hi
        unfold updN
        by_cases e : i = k
        · rw [if_pos e]; exact .inr hszr
        · rw [if_neg e]; exact HV.out i hi
      have HF2 : Hid _ := F1
      clear R1 R2 F1 hA hB cg1 fg1 hz1 hz2 al HR HV HF HS hS0 c0 cs cg
      go_wp2_with fail
      go_round
      case rel => exact ⟨k + 1, _, _, by omega, by go_num, HR2, HV2, HF2⟩
      case measure => simp [intOf]; omega
    · obtain rfl : k = n := by omega
      have HR' : Hid (RefW wr base r k held (goesL held left) (fun i => if i < k then [lv (ver i)] else ver i) gb cb va' vc') := HR.out
      clear HR
      go_wp2_with fail
      go_ret
      exact ⟨rfl, ⟨va', ⟨vc', HR'.out⟩, HV.out⟩, HF.out⟩
end
end Go.Proofs.Ytikpnfnbmbaljaa
/- The document's disk: Write. -/
namespace Go.Proofs.Ytikpnfnbmbaljaa
open Go.RowKit
set_option maxRecDepth 100000
theorem Try.infoS : (Try.prog.info? 9).map (fun i => (i.zero, i.size, i.bytes)) = some (some (.string ⟨#[]⟩), 1, 16) := by kernel_rfl
def strs (l : List (List UInt8)) : List Value := l.map fun x => .string (str x)
theorem strs_length (l : List (List UInt8)) : (strs l).length = l.length := by simp [strs]
theorem strs_one (l : List (List UInt8)) : ∀ v ∈ strs l, v.oneCell' = true := by
  intro v hv; simp only [strs, List.mem_map] at hv; obtain ⟨b, _, rfl⟩ := hv; rfl
/-- A list of strings of the call's own. -/
def OwnS (w : World) (base : Nat) (v : Value) (l : List (List UInt8)) : Prop := w.ownsRow base 9 1 v l.length (strs l)
theorem OwnS.nil (w : World) (base : Nat) : OwnS w base (.slice none 0 0) [] := World.ownsRow_nil _ _ _ _
/-- From an address on lie these strings. -/
def SrcS (w : World) (b off : Nat) (l : List (List UInt8)) : Prop := ∀ j, (h : j < l.length) → w.cell? ⟨b, off + j, none⟩ = some (.string (str l[j]))
theorem append_str {w : World} {base b off : Nat} {v : Value} {l m : List (List UInt8)} (ty : TypeId) (c : Nat) (h : OwnS w base v l) (hs : SrcS w b off m) (hbase : base ≤ w.heap.size) (hb : l.length + m.length ≤ 2000000) :
    ∃ v' w', (Builtin.append_ #[54, 54] ty #[v, .slice (some ⟨b, off, none⟩) m.length c]).run Try.prog w = .ok v' w' ∧ OwnS w' base v' (l ++ m) ∧ Below base w w' := by
  obtain ⟨i0, hi, hz0, hz1, hz2⟩ := info_parts Try.infoS
  have hcs : ∀ j u, (strs m)[j]? = some u → w.cell? ((⟨b, off, none⟩ : Addr).add j) = some u := by
    intro j u hj
    have hjl : j < m.length := by
      rcases Nat.lt_or_ge j m.length with h | h
      · exact h
      · rw [List.getElem?_eq_none (by rw [strs_length]; exact h)] at hj; cases hj
    rw [addr_add, hs j hjl, ← hj]; simp [strs, hjl]
  obtain ⟨v', w', hr, hown, hgr, _⟩ := run_append_own (P := Try.prog) w base 54 ty 9 i0 _ 1 16 Try.underlying54 hi hz0 hz1 hz2 rfl (by decide) v l.length (strs l) h ⟨b, off, none⟩ m.length c (strs m) (by simp [strs_length]) hcs (strs_one _) (by unfold maxLen; omega) (by omega) hbase
  refine ⟨v', w', hr, ?_, (Below.refl _ _).grown hgr hbase (fun k hk => (World.ownsRow.lt h k hk).1)⟩
  unfold OwnS
  rw [List.length_append, show strs (l ++ m) = strs l ++ strs m by simp [strs]]
  exact hown
theorem wpList_append_str {w : World} {ops : Array Oper} {rest : List Oper} {o : Oper} {a : Act} {Q : Exit → Act → World → Prop} (hgd : o.guard = none) (s x : Operand)
    (ho : o.op = .call { callee := .builtin .append, args := #[s, x], argTypes := #[54, 54] }) (base : Nat) (l m : List (List UInt8)) (v : Value) (hs : a.eval s = v) (b off n c : Nat) (hx : a.eval x = .slice (some ⟨b, off, none⟩) n c) (hn : n = m.length)
    (hown : OwnS w base v l) (hsrc : SrcS w b off m) (hbase : base ≤ w.heap.size) (hb : l.length + m.length ≤ 2000000)
    (h : ∀ v' w', OwnS w' base v' (l ++ m) → Below base w w' → wpList Try.prog ops Q rest (a.put o.dst v') w') : wpList Try.prog ops Q (o :: rest) a w := by
  subst hn
  refine wpList_plain hgd fun K hK => ?_
  obtain ⟨v', w', hrun, h1, h2⟩ := append_str o.type c hown hsrc hbase hb
  unfold Oper.wp execOp
  simp only [ho, resolve, invoke, builtin]
  simp [hs, hx, hrun, Result.andThen]
  exact hK _ _ (h v' w' h1 h2)
theorem wp_append_str {w : World} {o : Oper} {a : Act} {K : Act → World → Prop} {Q : Exit → Act → World → Prop} (s x : Operand)
    (ho : o.op = .call { callee := .builtin .append, args := #[s, x], argTypes := #[54, 54] }) (base : Nat) (l m : List (List UInt8)) (v : Value) (hs : a.eval s = v) (b off n c : Nat) (hx : a.eval x = .slice (some ⟨b, off, none⟩) n c) (hn : n = m.length)
    (hown : OwnS w base v l) (hsrc : SrcS w b off m) (hbase : base ≤ w.heap.size) (hb : l.length + m.length ≤ 2000000)
    (h : ∀ v' w', OwnS w' base v' (l ++ m) → Below base w w' → K (a.put o.dst v') w') : o.wp Try.prog a w K Q := by
  subst hn
  obtain ⟨v', w', hrun, h1, h2⟩ := append_str o.type c hown hsrc hbase hb
  unfold Oper.wp execOp
  simp only [ho, resolve, invoke, builtin]
  simp [hs, hx, hrun, Result.andThen]
  exact h v' w' h1 h2
theorem OwnS.at0 {w : World} {base : Nat} {v : Value} {l : List (List UInt8)} (h : OwnS w base v l) (hl : 0 < l.length) : ∃ g c, v = .slice (some ⟨g, 0, none⟩) l.length c ∧ base ≤ g ∧ g < w.heap.size ∧ l.length ≤ c ∧ (c : Int) ≤ 9223372036854775807 ∧ SrcS w g 0 l := by
  obtain ⟨h1, h2⟩ := h
  rcases h2 with ⟨rfl, h3⟩ | ⟨g, cap, cur, rfl, hg, hh, hn, hm, hs, hx⟩
  · omega
  · refine ⟨g, cap, rfl, hg, (Array.getElem?_eq_some_iff.1 hh).1, hn, by unfold maxLen at hm; omega, fun j hj => ?_⟩
    rw [Nat.zero_add, cell_of_row w g j _ _ _ hh]
    have e : (cur.toList.take (l.length * 1))[j]? = (strs l)[j]? := by rw [hx]
    rw [List.getElem?_take] at e
    simp only [Nat.mul_one, hj, if_true] at e
    simpa [strs, hj] using e
theorem OwnS.grow {w w' : World} {base : Nat} {v : Value} {l : List (List UInt8)} (h : OwnS w base v l) (hb : Below w.heap.size w w') : OwnS w' base v l := owns_below h hb (Nat.le_refl _)
/-- What the last region of Write reads. -/
structure XS (W : World) (r gb n cb bb off : Nat) (d : List UInt8) : Prop where
  c0 : W.cell? ⟨r, 0, none⟩ = some (.slice (some ⟨gb, 0, none⟩) n cb)
  s : Src W (some ⟨bb, off, none⟩) d
section
variable {w : World} {base r n : Nat} {held : Bool} {left : Int} {ver : Nat → List (List UInt8)} {gb cb : Nat} {va vc : Nat → Nat}
attribute [local go_sem] wrapI
set_option maxHeartbeats 4000000 in
theorem rwrite_go (h : RefW w base r n held left ver gb cb va vc) (hl : 0 ≤ left ∧ left ≤ 9223372036854775807) (hg : goesB held left = true) (i : Nat) (hi : i < n) (hwn : (ver i).length < 1000000) (d : List UInt8) (hd : d.length = 256) (sp : Option Addr) (cap : Nat) (hs : Src w sp d) (hsr : ∀ b off, sp = some ⟨b, off, none⟩ → b ≠ r ∧ b ≠ gb) :
    Calls Try.prog 58 #[.pointer (some ⟨r, 0, none⟩), .int .i64 (i : Int), .slice sp 256 cap] w fun e w' => e = .returned (.int .i64 0) ∧ (∃ g, (∃ c, RefW w' base r n held (goesL held left) (upd ver i (ver i ++ [d])) gb cb (updN va i g) (updN vc i c)) ∧ w.heap.size ≤ g) ∧ Fr (RG r gb) w w' := by
  have TH := there_in h.at' i hi
  have GO := rgoes_any h hl
  rw [hg] at GO
  have hi' : (i : Int) < n := by omega
  have hrl := h.rl
  have hgl := h.at'.gl
  obtain ⟨bb, off, rfl, hbb, hcd⟩ := hs.at' (by omega)
  have HSR : Hid (bb ≠ r ∧ bb ≠ gb) := hsr bb off rfl
  have HS : Hid (Src w (some ⟨bb, off, none⟩) d) := hs
  clear h hs hsr hcd
  go_enter Try.func58, Try.ntmps58
  go_wp2_with fail
  refine TH.mono ?_
  rintro e w1 ⟨rfl, rfl⟩
  clear TH
  go_wp2_with fail
  refine GO.mono ?_
  rintro e w2 ⟨rfl, h2, f2⟩
  have HF2 : Hid (Fr (RG r gb) w1 w2) := f2.mono (fun k _ h => .inl h)
  have H2 : Hid _ := h2
  have c0 := h2.at'.c0
  have hrow := h2.at'.row i hi
  obtain ⟨cg, va_lt, hv1, hv2, hv3, hv4⟩ := hrow
  have hsv : SrcS w2 (va i) 0 (ver i) := fun j hj => by rw [Nat.zero_add]; exact h2.at'.vers i hi j hj
  have HSV : Hid (SrcS w2 (va i) 0 (ver i)) := hsv
  have HS2 : Hid (Src w2 (some ⟨bb, off, none⟩) d) := by
    rcases HS.out with h | ⟨b', off', e, hb1, hb2⟩
    · rw [h] at hd; simp at hd
    · cases e
      exact .inr ⟨bb, off, rfl, by have := f2.size; omega, fun j hj => (fr_cell f2 (a := ⟨bb, off + j, none⟩) hbb (fun e => HSR.out.1 e)).trans (hb2 j hj)⟩
  have hz2 := f2.size
  have HVL : Hid (∀ k, Rk r gb n va k → ¬ w2.heap.size ≤ k) := by
    rintro k (rfl | rfl | ⟨j, hj, rfl⟩)
    · have := h2.rl; omega
    · have := h2.at'.gl; omega
    · have := (h2.at'.row j hj).2.1; omega
  clear GO h2 f2 hsv HS
  go_upto_region 9 with (at_builtin; refine wpList_append_str rfl (.tmp 18) (.tmp 26) rfl w2.heap.size [] (ver i) _ rfl (va i) 0 _ _ rfl rfl (OwnS.nil _ _) HSV.out (Nat.le_refl _) (by simp; omega) ?_; intro v3 w3 o3 b3)
  rw [List.nil_append] at o3
  have H3 : Hid (RefW w3 base r n held (goesL held left) ver gb cb va vc) := H2.out.below b3
  have HF3 : Hid (Fr (RG r gb) w1 w3) := HF2.out.trans (Fr.of_below b3)
  have HS3 : Hid (Src w3 (some ⟨bb, off, none⟩) d) := HS2.out.below b3 (Nat.le_refl _)
  have HO3 : Hid (OwnS w3 w2.heap.size v3 (ver i)) := o3
  have hz3 := b3.size
  clear c0 cg o3 b3 HSV HF2 HS2 H2
  obtain ⟨g3, k3, rfl, _⟩ := HO3.out.at0 (by omega)
  have hS0 : XS w3.drew r gb n cb bb off d := ⟨H3.out.at'.c0, HS3.out⟩
  refine wp_region_held_drew (S := (fun W => XS W r gb n cb bb off d)) (by kernel_rfl) hS0 (fun hH => ?_)
  refine takeH (i := 0) (dst := some 28) (v := ?v1) rfl rfl (by kernel_rfl) (by kernel_rfl) (by kernel_rfl) (fun _ _ _ h => h) rfl ?hy1 hH rfl ?rest1
  case hy1 => (intro W hW; have q0 := hW.c0; have k1 := conv_str hW.s 256 cap hd.symm; clear hW; go_simp; try with_reducible rfl)
  (try simp only [Act.put, List.setIfInBounds_toArray, List.set_cons_zero, List.set_cons_succ])
  refine takeH (i := 1) (dst := some 29) (v := ?v2) rfl rfl (by kernel_rfl) (by kernel_rfl) (by kernel_rfl) (fun _ _ _ h => h) rfl ?hy2 hH rfl ?rest2
  case hy2 => (intro W hW; have q0 := hW.c0; have k1 := conv_str hW.s 256 cap hd.symm; clear hW; go_simp; try with_reducible rfl)
  (try simp only [Act.put, List.setIfInBounds_toArray, List.set_cons_zero, List.set_cons_succ])
  refine takeH (i := 2) (dst := some 30) (v := ?v3) rfl rfl (by kernel_rfl) (by kernel_rfl) (by kernel_rfl) (fun _ _ _ h => h) rfl ?hy3 hH rfl ?rest3
  case hy3 => (intro W hW; have q0 := hW.c0; have k1 := conv_str hW.s 256 cap hd.symm; clear hW; go_simp; try with_reducible rfl)
  (try simp only [Act.put, List.setIfInBounds_toArray, List.set_cons_zero, List.set_cons_succ])
  refine takeH (i := 3) (dst := some 31) (v := ?v4) rfl rfl (by kernel_rfl) (by kernel_rfl) (by kernel_rfl) (fun _ _ _ h => h) rfl ?hy4 hH rfl ?rest4
  case hy4 => (intro W hW; have q0 := hW.c0; have k1 := conv_str hW.s 256 cap hd.symm; clear hW; go_simp; try with_reducible rfl)
  (try simp only [Act.put, List.setIfInBounds_toArray, List.set_cons_zero, List.set_cons_succ])
  refine takeH (i := 4) (dst := some 32) (v := ?v5) rfl rfl (by kernel_rfl) (by kernel_rfl) (by kernel_rfl) (fun _ _ _ h => h) rfl ?hy5 hH rfl ?rest5
  case hy5 => (intro W hW; have q0 := hW.c0; have k1 := conv_str hW.s 256 cap hd.symm; clear hW; go_simp; try with_reducible rfl)
  (try simp only [Act.put, List.setIfInBounds_toArray, List.set_cons_zero, List.set_cons_succ])
  refine takeH (i := 5) (dst := some 33) (v := ?v6) rfl rfl (by kernel_rfl) (by kernel_rfl) (by kernel_rfl) (fun _ _ _ h => h) rfl ?hy6 hH rfl ?rest6
  case hy6 => (intro W hW; have q0 := hW.c0; have k1 := conv_str hW.s 256 cap hd.symm; clear hW; go_simp; try with_reducible rfl)
  (try simp only [Act.put, List.setIfInBounds_toArray, List.set_cons_zero, List.set_cons_succ])
  refine takeH (i := 6) (dst := some 34) (v := ?v7) rfl rfl (by kernel_rfl) (by kernel_rfl) (by kernel_rfl) (fun _ _ _ h => h) rfl ?hy7 hH rfl ?rest7
  case hy7 => (intro W hW; have q0 := hW.c0; have k1 := conv_str hW.s 256 cap hd.symm; clear hW; go_simp; try with_reducible rfl)
  (try simp only [Act.put, List.setIfInBounds_toArray, List.set_cons_zero, List.set_cons_succ])
  refine takeH (i := 7) (dst := some 35) (v := ?v8) rfl rfl (by kernel_rfl) (by kernel_rfl) (by kernel_rfl) (fun _ _ _ h => h) rfl ?hy8 hH rfl ?rest8
  case hy8 => (intro W hW; have q0 := hW.c0; have k1 := conv_str hW.s 256 cap hd.symm; clear hW; go_simp; try with_reducible rfl)
  (try simp only [Act.put, List.setIfInBounds_toArray, List.set_cons_zero, List.set_cons_succ])
  refine callH (i := 8) { dst := some 36, op := Go.Op.buildSlice 54 1 #[(0, Go.Operand.tmp 35)], type := 54, pos := "ref.go:99", after := #[{ on := 7, ground := Go.Ground.data }], guard := none } (by kernel_rfl) rfl rfl (fun K hK => ?_)
  go_simp
  have al : Below w3.heap.size w3 (w3.alloc (.cells #[.string (str d)] 9)).drew := ((Below.refl _ w3).alloc (Nat.le_refl _) _).drew
  have X4 : XS (w3.alloc (.cells #[.string (str d)] 9)).drew r gb n cb bb off d := ⟨(H3.out.below al).at'.c0, HS3.out.below al (Nat.le_refl _)⟩
  clear hH
  refine hK.out _ _ X4 (fun hH => ?_)
  clear hK K
  (try simp only [Act.put, List.setIfInBounds_toArray, List.set_cons_zero, List.set_cons_succ])
  refine callH (i := 9) { dst := some 37, op := Go.Op.call { callee := Go.Callee.builtin Go.Builtin.append, args := #[Go.Operand.tmp 33, Go.Operand.tmp 36], argTypes := #[54, 54] }, type := 54, pos := "ref.go:99", after := #[{ on := 5, ground := Go.Ground.data }, { on := 8, ground := Go.Ground.data }], guard := none } (by kernel_rfl) rfl rfl (fun K hK => ?_)
  rw [if_pos (by rfl)]
  refine wp_append_str _ _ rfl w2.heap.size (ver i) [d] (.slice (some ⟨g3, 0, none⟩) (ver i).length k3) rfl w3.heap.size 0 1 1 rfl rfl (HO3.out.grow al) (fun j hj => ?sr) (by have := al.size; omega) (by simp; omega) ?_
  case sr =>
    have : j = 0 := by simp at hj; omega
    subst this
    exact (cell_of_row (w3.alloc (.cells #[.string (str d)] 9)) w3.heap.size 0 #[.string (str d)] 9 (0, 0) (heap_alloc_new w3 _)).trans rfl
  intro v5 w5 o5 b5
  have hz4 := al.size
  have A4 : RefW (w3.alloc (.cells #[.string (str d)] 9)).drew base r n held (goesL held left) ver gb cb va vc := H3.out.below al
  have R5 : RefW w5 base r n held (goesL held left) ver gb cb va vc := A4.keep (S := fun k => w2.heap.size ≤ k) ⟨b5.size, fun k _ hS => b5.block k (by omega), b5.os, b5.tape, b5.output⟩ HVL.out
  have F5 : Fr (RG r gb) w1 w5 := ⟨by have := b5.size; have := HF3.out.size; omega, fun k hk hS => (b5.block k (by omega)).trans ((HF3.out.trans (Fr.of_below al)).blk k hk hS), b5.os.trans (HF3.out.trans (Fr.of_below al)).os, b5.tape.trans (HF3.out.trans (Fr.of_below al)).tape, b5.output.trans (HF3.out.trans (Fr.of_below al)).output⟩
  have X5 : XS w5 r gb n cb bb off d := ⟨R5.at'.c0, by
    rcases X4.s with h | ⟨b', off', e, hb1, hb2⟩
    · exact .inl h
    · cases e
      exact .inr ⟨bb, off, rfl, by have := b5.size; omega, fun j hj => (b5.cell (p := ⟨bb, off + j, none⟩) (show bb < w2.heap.size by omega)).trans (hb2 j hj)⟩⟩
  obtain ⟨g5, k5, e5, hg5, l5, hk5, hk6, s5⟩ := o5.at0 (by simp)
  rw [List.length_append, List.length_singleton] at e5 hk5
  subst e5
  clear al A4 b5 o5

  clear hH
  refine hK.out _ _ X5 (fun hH => ?_)
  clear hK K
  (try simp only [Act.put, List.setIfInBounds_toArray, List.set_cons_zero, List.set_cons_succ])
  refine takeH (i := 10) (dst := some 38) (v := ?v9) rfl rfl (by kernel_rfl) (by kernel_rfl) (by kernel_rfl) (fun _ _ _ h => h) rfl ?hy9 hH rfl ?rest9
  case hy9 => (intro W hW; have q0 := hW.c0; have k1 := conv_str hW.s 256 cap hd.symm; clear hW; go_simp; try with_reducible rfl)
  (try simp only [Act.put, List.setIfInBounds_toArray, List.set_cons_zero, List.set_cons_succ])
  refine takeH (i := 11) (dst := some 39) (v := ?v10) rfl rfl (by kernel_rfl) (by kernel_rfl) (by kernel_rfl) (fun _ _ _ h => h) rfl ?hy10 hH rfl ?rest10
  case hy10 => (intro W hW; have q0 := hW.c0; have k1 := conv_str hW.s 256 cap hd.symm; clear hW; go_simp; try with_reducible rfl)
  (try simp only [Act.put, List.setIfInBounds_toArray, List.set_cons_zero, List.set_cons_succ])
  have cg5 := (R5.at'.row i hi).1
  have fg5 := R5.fg i
  refine callH (i := 12) { dst := none, op := Go.Op.store 54 (Go.Operand.tmp 39) (Go.Operand.tmp 37), type := 0, pos := "ref.go:99", after := #[{ on := 11, ground := Go.Ground.data }, { on := 9, ground := Go.Ground.data }, { on := 9, ground := Go.Ground.chain }, { on := 0, ground := Go.Ground.phase }, { on := 1, ground := Go.Ground.phase }, { on := 2, ground := Go.Ground.phase }, { on := 3, ground := Go.Ground.phase }, { on := 4, ground := Go.Ground.phase }, { on := 5, ground := Go.Ground.phase }, { on := 6, ground := Go.Ground.phase }, { on := 7, ground := Go.Ground.phase }, { on := 8, ground := Go.Ground.phase }, { on := 9, ground := Go.Ground.phase }], guard := none } (by kernel_rfl) rfl rfl (fun K hK => ?_)
  go_simp
  have R6 := R5.setV i hi (ver i ++ [d]) g5 k5 (by simp; omega) l5 (by omega) (by omega) (fun j hj => by have := s5 j hj; rw [Nat.zero_add] at this; exact this)
  rw [List.length_append, List.length_singleton] at R6
  have F6 : Fr (RG r gb) w1 (w5.setCell ⟨gb, i, none⟩ (.slice (some ⟨g5, 0, none⟩) ((ver i).length + 1) k5)) := F5.setCell gb i _ (.inr rfl)
  have X6 : XS (w5.setCell ⟨gb, i, none⟩ (.slice (some ⟨g5, 0, none⟩) ((ver i).length + 1) k5)) r gb n cb bb off d := ⟨R6.at'.c0, by
    rcases X5.s with h | ⟨b', off', e, hb1, hb2⟩
    · exact .inl h
    · cases e
      exact .inr ⟨bb, off, rfl, by simpa [World.setCell] using hb1, fun j hj => (World.cell?_setCell_other _ _ _ _ (by intro e; exact HSR.out.2 (congrArg Addr.block e).symm)).trans (hb2 j hj)⟩⟩
  clear hH
  refine hK.out _ _ X6 (fun hH => ?_)
  clear hK K
  (try simp only [Act.put, List.setIfInBounds_toArray, List.set_cons_zero, List.set_cons_succ])
  refine wpAnyH_done (by kernel_rfl) ?_ _
  clear hH
  have HR6 : Hid _ := R6
  have HF6 : Hid _ := F6
  have hge : w1.heap.size ≤ g5 := by omega
  clear R6 F6 X6 X5 R5 F5 cg5 fg5 s5 hS0 X4
  go_wp2_with fail
  go_ret
  exact ⟨rfl, ⟨g5, ⟨k5, HR6.out⟩, hge⟩, HF6.out⟩
end
end Go.Proofs.Ytikpnfnbmbaljaa
