/- The document's disk (leveeref02.Disk) in memory, and its readers. -/
import Derived.Test.YtadadidccbhopaaGreatJPah3
import Derived.Lib.ConvBytes
import Derived.Deep.RegionLaw
import Derived.Test.YtadadidccbhopaaGreatKSl
import Derived.Test.YtadadidccbhopaaGreatKLentG
import Derived.Deep.DeepCutAuto
import Derived.Test.YtadadidccbhopaaGreatKPordy
namespace Go.Proofs.YtadadidccbhopaaGreat
open Go.RowKit
set_option maxRecDepth 100000
theorem alloc_size (w : World) (o : Obj) : (w.alloc o).heap.size = w.heap.size + 1 := by show (w.heap.push _).size = _; simp
theorem cell_one (w : World) (v : Value) (t : TypeId) (f : Nat × Nat) : (w.alloc (.cells #[v] t f)).cell? ⟨w.heap.size, 0, none⟩ = some v := by
  have h : (w.alloc (.cells #[v] t f)).heap[w.heap.size]? = some (.cells #[v] t f) := by show (w.heap.push _)[w.heap.size]? = _; simp
  unfold World.cell?; rw [h]; rfl
/-- Block i of the bytes l. -/
def blkOf (l : List UInt8) (i : Nat) : List UInt8 := (l.drop (i * 256)).take 256
theorem str_bytes (w : World) (l : List UInt8) : ∃ c w', (convert 9 36 (.string (str l))).run Tryz.prog w = .ok (.slice (some ⟨w.heap.size, 0, none⟩) l.length c) w' ∧ Src w' (some ⟨w.heap.size, 0, none⟩) l ∧ Below w.heap.size w w' := by
  have hsz : (str l).size = l.length := by simp [str, ByteArray.size]
  have h := Lib.run_convert_string_bytes (P := Tryz.prog) w 9 36 5 (str l) Tryz.underlying9 Tryz.underlying36 Tryz.underlying5
  rw [hsz] at h
  refine ⟨_, _, h, ?_, ⟨rfl, rfl, rfl, by rw [Lib.bytesWorld_size]; omega, fun k hk => Lib.bytesWorld_at_old w 5 (str l) k hk⟩⟩
  by_cases h0 : l = []
  · exact .inl h0
  · refine .inr ⟨_, _, rfl, by rw [Lib.bytesWorld_size]; omega, fun j hj => ?_⟩
    rw [Nat.zero_add, Lib.bytesWorld_cell w 5 (str l) j (by rw [hsz]; exact hj)]
    simp [str, bv, hj]
/-- The document's disk at block r: of block i the versions ver i, the safe one first. -/
structure RefAt (w : World) (base r n : Nat) (held : Bool) (left : Int) (ver : Nat → List (List UInt8)) (gb cb : Nat) (va vc : Nat → Nat) : Prop where
  nn : n ≤ 4096
  c0 : w.cell? ⟨r, 0, none⟩ = some (.slice (some ⟨gb, 0, none⟩) n cb)
  c1 : w.cell? ⟨r, 1, none⟩ = some (.bool held)
  c2 : w.cell? ⟨r, 2, none⟩ = some (.int .i64 left)
  rb : base ≤ r
  gl : gb < w.heap.size
  cl : n ≤ cb ∧ (cb : Int) ≤ 9223372036854775807
  row : ∀ i, i < n → w.cell? ⟨gb, i, none⟩ = some (.slice (some ⟨va i, 0, none⟩) (ver i).length (vc i)) ∧ va i < w.heap.size ∧ 1 ≤ (ver i).length ∧ (ver i).length ≤ 1000000 ∧ (ver i).length ≤ vc i ∧ (vc i : Int) ≤ 9223372036854775807
  vers : ∀ i, i < n → ∀ j, (h : j < (ver i).length) → w.cell? ⟨va i, j, none⟩ = some (.string (str (ver i)[j]))
section
variable {w : World} {base r n : Nat} {held : Bool} {left : Int} {ver : Nat → List (List UInt8)} {gb cb : Nat} {va vc : Nat → Nat}
theorem RefAt.below (h : RefAt w base r n held left ver gb cb va vc) {w' : World} {B : Nat} (hb : Below B w w') (hB : w.heap.size ≤ B) : RefAt w' base r n held left ver gb cb va vc := by
  have hr : r < w.heap.size := block_lt_of_cell h.c0
  have hg := h.gl
  have hs := hb.size
  exact {
    nn := h.nn, rb := h.rb, gl := by omega, cl := h.cl,
    c0 := (hb.cell (p := ⟨r, 0, none⟩) (show r < B by omega)).trans h.c0,
    c1 := (hb.cell (p := ⟨r, 1, none⟩) (show r < B by omega)).trans h.c1,
    c2 := (hb.cell (p := ⟨r, 2, none⟩) (show r < B by omega)).trans h.c2,
    row := fun i hi => ⟨(hb.cell (p := ⟨gb, i, none⟩) (show gb < B by omega)).trans (h.row i hi).1, by have := (h.row i hi).2.1; omega, (h.row i hi).2.2⟩,
    vers := fun i hi j hj => (hb.cell (p := ⟨va i, j, none⟩) (show va i < B by have := (h.row i hi).2.1; omega)).trans (h.vers i hi j hj) }
set_option maxHeartbeats 1000000 in
theorem there_in (h : RefAt w base r n held left ver gb cb va vc) (i : Nat) (hi : i < n) :
    Calls Tryz.prog 81 #[.pointer (some ⟨r, 0, none⟩), .int .i64 (i : Int)] w fun e w' => e = .returned (.bool true) ∧ w' = w := by
  have c0 := h.c0
  have hi' : (i : Int) < n := by omega
  have hi0 : (0 : Int) ≤ i := by omega
  clear h
  go_enter Tryz.func81, Tryz.ntmps81
  go_wp2
  go_ret
  exact ⟨rfl, rfl⟩
set_option maxHeartbeats 1000000 in
theorem rwrites_in (h : RefAt w base r n held left ver gb cb va vc) (i : Nat) (hi : i < n) :
    Calls Tryz.prog 79 #[.pointer (some ⟨r, 0, none⟩), .int .i64 (i : Int)] w fun e w' => e = .returned (.int .i64 (((ver i).length : Int) - 1)) ∧ w' = w := by
  have TH := there_in h i hi
  have c0 := h.c0
  have hi' : (i : Int) < n := by omega
  have hn := h.nn
  have hn' : (n : Int) ≤ 4096 := by omega
  obtain ⟨cr, _, hv1, hv2, _, _⟩ := h.row i hi
  have hv1' : (1 : Int) ≤ (ver i).length := by omega
  have hv2' : ((ver i).length : Int) ≤ 1000000 := by omega
  clear h
  go_enter Tryz.func79, Tryz.ntmps79
  go_wp2_with fail
  refine TH.mono ?_
  rintro e w1 ⟨rfl, rfl⟩
  clear TH
  go_wp2
  go_ret
  exact ⟨by go_num, rfl⟩
set_option maxHeartbeats 1000000 in
theorem rstopped_any (h : RefAt w base r n held left ver gb cb va vc) :
    Calls Tryz.prog 161 #[.pointer (some ⟨r, 0, none⟩)] w fun e w' => e = .returned (.bool (held && (left == 0))) ∧ w' = w := by
  have c1 := h.c1
  have c2 := h.c2
  clear h
  cases held with
  | false =>
    go_enter Tryz.func161, Tryz.ntmps161
    go_wp2
    go_ret
    exact ⟨rfl, rfl⟩
  | true =>
    go_enter Tryz.func161, Tryz.ntmps161
    go_wp2
    go_ret
    exact ⟨rfl, rfl⟩
set_option maxHeartbeats 1000000 in
theorem rread_in (h : RefAt w base r n held left ver gb cb va vc) (i : Nat) (hi : i < n) (m : Nat) (y : List UInt8) (hm : (ver i).length = m + 1) (hy : (ver i)[m]? = some y) :
    Calls Tryz.prog 63 #[.pointer (some ⟨r, 0, none⟩), .int .i64 (i : Int)] w fun e w' => ∃ g c, e = .returned (.tuple #[.slice (some ⟨g, 0, none⟩) y.length c, .int .i64 0]) ∧ Src w' (some ⟨g, 0, none⟩) y ∧ Below w.heap.size w w' := by
  have TH := there_in h i hi
  have c0 := h.c0
  have hi' : (i : Int) < n := by omega
  have hn := h.nn
  have hn' : (n : Int) ≤ 4096 := by omega
  obtain ⟨cr, _, hv1, hv2, _, _⟩ := h.row i hi
  have cv := h.vers i hi m (by omega)
  rw [show (ver i)[m] = y from by rw [List.getElem?_eq_getElem (by omega)] at hy; exact Option.some.inj hy] at cv
  rw [hm] at cr hv2
  have hm2 : (m : Int) + 1 ≤ 1000000 := by omega
  obtain ⟨c, w2, hcv, hsv, hbv⟩ := str_bytes w y
  clear h hm hy hv1
  go_enter Tryz.func63, Tryz.ntmps63
  go_wp2_with fail
  refine TH.mono ?_
  rintro e w1 ⟨rfl, rfl⟩
  clear TH
  go_wp2
  go_ret2
  exact ⟨_, _, rfl, hsv, hbv⟩
end
end Go.Proofs.YtadadidccbhopaaGreat
/- The document's New of a disk. -/
namespace Go.Proofs.YtadadidccbhopaaGreat
open Go.RowKit
set_option maxRecDepth 100000
theorem Tryz.info117 : (Tryz.prog.info? 117).map (fun i => (i.zero, i.size, i.bytes)) = some (some (.agg #[.slice none 0 0]), 1, 24) := by kernel_rfl
def rowL (va : Nat → Nat) (k : Nat) : List Value := (List.range k).map fun i => Value.slice (some ⟨va i, 0, none⟩) 1 1
/-- The document's disk behind k rounds of Load. -/
structure LoadL (w : World) (base r k : Nat) (l : List UInt8) (v : Value) (va : Nat → Nat) : Prop where
  c0 : w.cell? ⟨r, 0, none⟩ = some v
  c1 : w.cell? ⟨r, 1, none⟩ = some (.bool false)
  c2 : w.cell? ⟨r, 2, none⟩ = some (.int .i64 0)
  f0 : w.frozen? ⟨r, 0, none⟩ = false
  own : w.ownsRow base 117 1 v k (rowL va k)
  rb : base ≤ r
  ob : v.ownBlock ≠ some r
  at' : ∀ i, i < k → w.cell? ⟨va i, 0, none⟩ = some (.string (str (blkOf l i))) ∧ va i ≠ r ∧ v.ownBlock ≠ some (va i) ∧ va i < w.heap.size ∧ base ≤ va i
theorem run_app60 {P : Program} {o : Oper} {a : Act} {w w' : World} {s x : Operand} {sv xv v : Value} (hop : o.op = .call { callee := .builtin .append, args := #[s, x], argTypes := #[112, 112] }) (hty : o.type = 112) (hs : a.eval s = sv) (hx : a.eval x = xv) (hL : (Builtin.append_ #[112, 112] 112 #[sv, xv]).run P w = .ok v w') : (execOp a.eval o).run P w = .ok (.value v) w' := by
  unfold execOp
  simp only [hop, hty, resolve, invoke, builtin, Sem.run_bind, Sem.run_pure, Result.andThen_ok, List.map_toArray, List.map_cons, List.map_nil, hs, hx, hL]
theorem LoadL.drew {w : World} {base r k : Nat} {l : List UInt8} {v : Value} {va : Nat → Nat} (h : LoadL w base r k l v va) : LoadL w.drew base r k l v va := ⟨h.c0, h.c1, h.c2, h.f0, h.own, h.rb, h.ob, h.at'⟩
/-- The document's disk, its blocks apart and none frozen. -/
structure RefW (w : World) (base r n : Nat) (held : Bool) (left : Int) (ver : Nat → List (List UInt8)) (gb cb : Nat) (va vc : Nat → Nat) : Prop where
  at' : RefAt w base r n held left ver gb cb va vc
  fr : ∀ o, w.frozen? ⟨r, o, none⟩ = false
  fg : ∀ o, w.frozen? ⟨gb, o, none⟩ = false
  rg : r ≠ gb
  ar : ∀ i, i < n → va i ≠ r ∧ va i ≠ gb
section
variable {w : World} {base r n : Nat} {held : Bool} {left : Int} {ver : Nat → List (List UInt8)} {gb cb : Nat} {va vc : Nat → Nat}
theorem RefW.rl (h : RefW w base r n held left ver gb cb va vc) : r < w.heap.size := block_lt_of_cell h.at'.c0
end
/-- none: a block of 0 as a string. -/
theorem rnone_any (w : World) : Calls Tryz.prog 60 #[] w fun e w' => e = .returned (.string (str zer)) ∧ Below w.heap.size w w' := by
  have mk : (Instr.makeSlice 36 (.int .i64 256) (.int .i64 256)).run Tryz.prog w = .ok (.slice (some ⟨w.heap.size, 0, none⟩) 256 256) (w.alloc (.cells (bvs zer).toArray 5)) := make_any w 256 256 (by omega) (by omega)
  have hb : Blk (w.alloc (.cells (bvs zer).toArray 5)) w.heap.size 5 zer := heap_alloc_new _ _
  have cv := conv_str hb.src 256 256 zer_length.symm
  have HB : Hid (Below w.heap.size w (w.alloc (.cells (bvs zer).toArray 5))) := (Below.refl _ _).alloc (Nat.le_refl _) _
  clear hb
  go_enter Tryz.func60, Tryz.ntmps60
  go_wp2
  go_ret
  exact ⟨rfl, HB.out⟩
theorem LoadL.low {w w' : World} {base r k : Nat} {l : List UInt8} {v : Value} {va : Nat → Nat} (h : LoadL w base r k l v va) (hb : Below w.heap.size w w') : LoadL w' base r k l v va := by
  have hr : r < w.heap.size := block_lt_of_cell h.c0
  have hs := hb.size
  have ha : ∀ i, i < k → w'.cell? ⟨va i, 0, none⟩ = some (.string (str (blkOf l i))) ∧ va i ≠ r ∧ v.ownBlock ≠ some (va i) ∧ va i < w'.heap.size ∧ base ≤ va i := fun i hi => by
    obtain ⟨a1, a2, a3, a4, a5⟩ := h.at' i hi
    exact ⟨(hb.cell (p := ⟨va i, 0, none⟩) a4).trans a1, a2, a3, by omega, a5⟩
  exact ⟨(hb.cell (p := ⟨r, 0, none⟩) hr).trans h.c0, (hb.cell (p := ⟨r, 1, none⟩) hr).trans h.c1, (hb.cell (p := ⟨r, 2, none⟩) hr).trans h.c2, (hb.frozen (p := ⟨r, 0, none⟩) hr).trans h.f0, owns_below h.own hb (Nat.le_refl _), h.rb, h.ob, ha⟩
theorem LoadL.stepF {w : World} {base r k : Nat} {l : List UInt8} {v : Value} {va : Nat → Nat} (h : LoadL w base r k l v va) (hk : k ≤ 4096) (hbase : base ≤ w.heap.size) :
    ∃ ao ac g cp w4, v = .slice ao k ac ∧
      (Builtin.append_ #[112, 112] 112 #[.slice ao k ac, .slice (some ⟨w.heap.size + 1, 0, none⟩) 1 1]).run Tryz.prog ((w.alloc (.cells #[.string (str (blkOf l k))] 9)).alloc (.cells #[.slice (some ⟨w.heap.size, 0, none⟩) 1 1] 117)) = .ok (.slice (some ⟨g, 0, none⟩) (k + 1) cp) w4 ∧
      w4.cell? ⟨r, 0, none⟩ = some (.slice ao k ac) ∧ w4.frozen? ⟨r, 0, none⟩ = false ∧
      LoadL (w4.setCell ⟨r, 0, none⟩ (.slice (some ⟨g, 0, none⟩) (k + 1) cp)) base r (k + 1) l (.slice (some ⟨g, 0, none⟩) (k + 1) cp) (upd va k w.heap.size) ∧ Below base w (w4.setCell ⟨r, 0, none⟩ (.slice (some ⟨g, 0, none⟩) (k + 1) cp)) ∧
      (∀ o, w.frozen? ⟨r, o, none⟩ = false → (w4.setCell ⟨r, 0, none⟩ (.slice (some ⟨g, 0, none⟩) (k + 1) cp)).frozen? ⟨r, o, none⟩ = false) := by
  obtain ⟨i0, hi, hz0, hz1, hz2⟩ := info_parts Tryz.info117
  obtain ⟨ao, ac, hv⟩ : ∃ ao ac, v = .slice ao k ac := by
    obtain ⟨_, h2⟩ := h.own
    rcases h2 with ⟨h2, h3⟩ | ⟨g, cap, _, hv, _⟩
    · exact ⟨none, 0, by rw [h2, h3]⟩
    · exact ⟨_, cap, hv⟩
  have hrl : r < w.heap.size := block_lt_of_cell h.c0
  have s1 := alloc_size w (.cells #[.string (str (blkOf l k))] 9)
  have s2 := alloc_size (w.alloc (.cells #[.string (str (blkOf l k))] 9)) (.cells #[.slice (some ⟨w.heap.size, 0, none⟩) 1 1] 117)
  have hb2 : Below w.heap.size w ((w.alloc (.cells #[.string (str (blkOf l k))] 9)).alloc (.cells #[.slice (some ⟨w.heap.size, 0, none⟩) 1 1] 117)) := ((Below.refl _ _).alloc (Nat.le_refl _) _).alloc (by omega) _
  have hcs : ((w.alloc (.cells #[.string (str (blkOf l k))] 9)).alloc (.cells #[.slice (some ⟨w.heap.size, 0, none⟩) 1 1] 117)).cell? ⟨w.heap.size + 1, 0, none⟩ = some (.slice (some ⟨w.heap.size, 0, none⟩) 1 1) := by
    have := cell_one (w.alloc (.cells #[.string (str (blkOf l k))] 9)) (.slice (some ⟨w.heap.size, 0, none⟩) 1 1) 117 (0, 0)
    rw [s1] at this; exact this
  have hst : ((w.alloc (.cells #[.string (str (blkOf l k))] 9)).alloc (.cells #[.slice (some ⟨w.heap.size, 0, none⟩) 1 1] 117)).cell? ⟨w.heap.size, 0, none⟩ = some (.string (str (blkOf l k))) := by
    rw [World.cell?_alloc_lt _ _ _ (show w.heap.size < _ by rw [s1]; omega)]
    exact cell_one w _ 9 (0, 0)
  obtain ⟨W2, HW2⟩ : ∃ W2, W2 = ((w.alloc (.cells #[.string (str (blkOf l k))] 9)).alloc (.cells #[.slice (some ⟨w.heap.size, 0, none⟩) 1 1] 117)) := ⟨_, rfl⟩
  rw [← HW2] at hb2 hcs hst s2 ⊢
  obtain ⟨g, cp, w4, hrun, hown, hgrow, hat, hlt⟩ := run_append_lies (P := Tryz.prog) W2 112 112 base 117 i0 (.agg #[.slice none 0 0]) 1 24 Tryz.underlying112 hi hz0 hz1 hz2 rfl (by omega) v k _ (owns_below h.own hb2 (Nat.le_refl _)) ⟨w.heap.size + 1, 0, none⟩ 1 1 [.slice (some ⟨w.heap.size, 0, none⟩) 1 1] rfl (fun j u hj => by
    have hj0 : j = 0 := by have := (List.getElem?_eq_some_iff.1 hj).1; simp at this; omega
    subst hj0
    have hu : u = .slice (some ⟨w.heap.size, 0, none⟩) 1 1 := by simpa using hj.symm
    rw [addr_add, hu]; exact hcs) (by intro u hu; simp at hu; subst hu; rfl) (by omega) (by unfold maxLen; omega) (by omega) (by omega) (w.heap.size + 2) (by omega)
  have hblk : ∀ j, j < w.heap.size + 2 → some j ≠ v.ownBlock → w4.heap[j]? = W2.heap[j]? := fun j hj hne => hgrow.block j (by omega) hne
  have hrb : w4.heap[r]? = w.heap[r]? := (hblk r (by omega) (fun e => h.ob e.symm)).trans (hb2.block r hrl)
  have hs4 := hgrow.size
  have hgr : g ≠ r := by
    rcases hat with e | e
    · intro e2; exact h.ob (by rw [e, e2])
    · omega
  have hb4 : Below base w w4 := (hb2.mono hbase).grown hgrow (by omega) (fun j hj => (World.ownsRow.lt h.own j hj).1)
  rw [hv] at hrun
  refine ⟨ao, ac, g, cp, w4, hv, hrun, by rw [← hv]; exact (World.cell?_of_block (a := ⟨r, 0, none⟩) hrb).trans h.c0, (World.frozen?_of_block (a := ⟨r, 0, none⟩) hrb).trans h.f0, ?_, hb4.setCell h.rb _, fun o ho => by rw [World.frozen?_setCell]; exact (World.frozen?_of_block (a := ⟨r, o, none⟩) hrb).trans ho⟩
  have hc0 : w4.cell? ⟨r, 0, none⟩ = some v := (World.cell?_of_block (a := ⟨r, 0, none⟩) hrb).trans h.c0
  have hoth : ∀ j, j ≠ r → (w4.setCell ⟨r, 0, none⟩ (.slice (some ⟨g, 0, none⟩) (k + 1) cp)).heap[j]? = w4.heap[j]? := fun j hj => heap_setCell_other w4 ⟨r, 0, none⟩ j _ hj
  exact {
    c0 := World.cell?_setCell_same _ _ _ hc0
    c1 := (World.cell?_setCell_other _ _ _ _ (by simp)).trans ((World.cell?_of_block (a := ⟨r, 1, none⟩) hrb).trans h.c1)
    c2 := (World.cell?_setCell_other _ _ _ _ (by simp)).trans ((World.cell?_of_block (a := ⟨r, 2, none⟩) hrb).trans h.c2)
    f0 := by rw [World.frozen?_setCell]; exact (World.frozen?_of_block (a := ⟨r, 0, none⟩) hrb).trans h.f0
    own := by
      have e : rowL (upd va k w.heap.size) (k + 1) = rowL va k ++ [.slice (some ⟨w.heap.size, 0, none⟩) 1 1] := by
        unfold rowL
        rw [List.range_succ, List.map_append]
        congr 1
        · exact List.map_congr_left fun i hi => by rw [upd_other _ _ _ (by have := List.mem_range.1 hi; omega)]
        · simp [upd_same]
      rw [e]
      exact World.ownsRow.kept hown ⟨rfl, rfl, rfl, by simp [World.setCell], fun j _ hj => hoth j (fun e => hj (by rw [e]))⟩ (.inr (by intro e; exact hgr (by simpa [Value.ownBlock] using e)))
    rb := h.rb
    ob := by intro e; exact hgr (by simpa [Value.ownBlock] using e)
    at' := fun i hik => by
      have hsz : (w4.setCell ⟨r, 0, none⟩ (.slice (some ⟨g, 0, none⟩) (k + 1) cp)).heap.size = w4.heap.size := by simp [World.setCell]
      by_cases hi2 : i = k
      · subst hi2
        rw [upd_same]
        have hne : some w.heap.size ≠ v.ownBlock := fun e => by have := (World.ownsRow.lt h.own _ e.symm).2; omega
        refine ⟨?_, by omega, ?_, by omega, hbase⟩
        · rw [World.cell?_of_block (a := ⟨w.heap.size, 0, none⟩) (hoth w.heap.size (by omega)), World.cell?_of_block (a := ⟨w.heap.size, 0, none⟩) (hblk w.heap.size (by omega) hne)]
          exact hst
        · intro e
          have e2 : g = w.heap.size := by simpa [Value.ownBlock] using e
          rcases hat with e3 | e3
          · exact hne (by rw [e3, e2])
          · omega
      · rw [upd_other _ _ _ hi2]
        obtain ⟨a1, a2, a3, a4, a5⟩ := h.at' i (by omega)
        refine ⟨?_, a2, ?_, by omega, a5⟩
        · rw [World.cell?_of_block (a := ⟨va i, 0, none⟩) (hoth _ a2), World.cell?_of_block (a := ⟨va i, 0, none⟩) (hblk (va i) (by omega) (fun e => a3 e.symm)), World.cell?_of_block (a := ⟨va i, 0, none⟩) (hb2.block (va i) a4)]
          exact a1
        · intro e
          have e2 : g = va i := by simpa [Value.ownBlock] using e
          rcases hat with e3 | e3
          · exact a3 (by rw [e3, e2])
          · omega }
theorem LoadL.refW {w : World} {base r n : Nat} {l : List UInt8} {v : Value} {va : Nat → Nat} (h : LoadL w base r n l v va) (hf : ∀ o, w.frozen? ⟨r, o, none⟩ = false) (h1 : 1 ≤ n) (hn : n ≤ 4096) : ∃ gb cb, RefW w base r n false 0 (fun i => blkOf l i :: []) gb cb va (fun _ => 1) ∧ base ≤ gb ∧ ∀ i, i < n → base ≤ va i := by
  have ho := h.own
  obtain ⟨o1, o2⟩ := h.own
  rcases o2 with ⟨_, o3⟩ | ⟨g, cap, cur, hv, hg, hh, hn2, hm, hs, hx⟩
  · omega
  · subst hv
    have RA : RefAt w base r n false 0 (fun i => blkOf l i :: []) g cap va (fun _ => 1) := by
      refine { nn := by omega, c0 := h.c0, c1 := h.c1, c2 := h.c2, rb := h.rb, gl := (Array.getElem?_eq_some_iff.1 hh).1, cl := ⟨hn2, by unfold maxLen at hm; omega⟩, row := fun i hi => ⟨?_, (h.at' i hi).2.2.2.1, by simp, by simp, by simp, by omega⟩, vers := fun i hi j hj => ?_ }
      · rw [World.ownsRow.cellAt ho i (by omega)]
        simp [rowL, hi]
      · have hj0 : j = 0 := by simp at hj; omega
        subst hj0
        exact (h.at' i hi).1
    refine ⟨g, cap, ⟨RA, hf, fun o => World.ownsRow.frozenAt ho o, fun e => h.ob (by rw [e]; rfl), fun i hi => ⟨(h.at' i hi).2.1, fun e => (h.at' i hi).2.2.1 (by rw [e]; rfl)⟩⟩, hg, fun i hi => (h.at' i hi).2.2.2.2⟩
theorem blk_zer (n k : Nat) (hk : k < n) : blkOf (List.replicate (n * 256) 0) k = zer := by
  unfold blkOf zer
  rw [List.drop_replicate, List.take_replicate]
  congr 1
  omega
set_option maxRecDepth 100000 in
set_option maxHeartbeats 8000000 in
theorem rnew_go (n : Nat) (h1 : 1 ≤ n) (hn : n ≤ 40) (w : World) :
    Calls Tryz.prog 10 #[.int .i64 (n : Int)] w fun e w' => e = .returned (.tuple #[.pointer (some ⟨w.heap.size, 0, none⟩), .int .i64 0]) ∧ (∃ v va, LoadL w' w.heap.size w.heap.size n (List.replicate (n * 256) 0) v va) ∧ (∀ o, w'.frozen? ⟨w.heap.size, o, none⟩ = false) ∧ Below w.heap.size w w' := by
  have hn1 : ¬ (n : Int) < 1 := by omega
  have hn2 : ¬ (4096 : Int) < n := by omega
  have hzb : ∀ k, k < n → blkOf (List.replicate (n * 256) 0) k = zer := blk_zer n
  have h0 : Hid (LoadL (w.alloc (.cells #[.slice none 0 0, .bool false, .int .i64 0] 114)) w.heap.size w.heap.size 0 (List.replicate (n * 256) 0) (.slice none 0 0) (fun _ => 0)) := by
    have e : (w.alloc (.cells #[.slice none 0 0, .bool false, .int .i64 0] 114)).heap[w.heap.size]? = some (.cells #[.slice none 0 0, .bool false, .int .i64 0] 114 (0, 0)) := heap_alloc_new _ _
    exact { c0 := by rw [cell_of_row _ _ 0 _ _ _ e]; rfl, c1 := by rw [cell_of_row _ _ 1 _ _ _ e]; rfl, c2 := by rw [cell_of_row _ _ 2 _ _ _ e]; rfl, f0 := frozen_of_row _ _ 0 _ _ e, own := World.ownsRow_nil _ _ _ _, rb := Nat.le_refl _, ob := by simp [Value.ownBlock], at' := fun i hi => by omega }
  have hf0 : Hid (∀ o, (w.alloc (.cells #[.slice none 0 0, .bool false, .int .i64 0] 114)).frozen? ⟨w.heap.size, o, none⟩ = false) := fun o => frozen_of_row _ _ o _ _ (heap_alloc_new w _)
  have hb0 : Hid (Below w.heap.size w (w.alloc (.cells #[.slice none 0 0, .bool false, .int .i64 0] 114))) := (Below.refl _ _).alloc (Nat.le_refl _) _
  go_enter Tryz.func10, Tryz.ntmps10
  go_wp2_with fail
  go_loopw [5] (fun s wr => ∃ (k : Nat) (v : Value) (va : Nat → Nat), k ≤ n ∧ s = .int .i64 k ∧ Hid (LoadL wr w.heap.size w.heap.size k (List.replicate (n * 256) 0) v va) ∧ Hid (∀ o, wr.frozen? ⟨w.heap.size, o, none⟩ = false) ∧ Hid (Below w.heap.size w wr)) (fun s _ => n - (intOf s).toNat)
  case atStart => exact ⟨0, _, _, by omega, rfl, h0, hf0, hb0⟩
  case round =>
    obtain ⟨k, v, va, hk, rfl, HL, HFZ, HB⟩ := hrel
    clear h0 hb0 hf0
    by_cases hlt : (k : Int) < n
    · obtain ⟨ao, ac, rfl⟩ : ∃ ao ac, v = .slice ao k ac := by
        obtain ⟨_, h2⟩ := HL.out.own
        rcases h2 with ⟨h2, h3⟩ | ⟨g, cap, _, hv, _⟩
        · exact ⟨none, 0, by rw [h2, h3]⟩
        · exact ⟨_, cap, hv⟩
      have L1 := HL.out.drew
      have HBd : Hid (Below w.heap.size w wr.drew) := HB.out.drew
      have hlw : w.heap.size < wr.drew.heap.size := block_lt_of_cell L1.c0
      have HFd : Hid (∀ o, wr.drew.frozen? ⟨w.heap.size, o, none⟩ = false) := HFZ.out
      clear HL HB HFZ
      go_wp2_with fail
      refine wp_region_held_drew (S := (fun _ => True)) (by kernel_rfl) trivial (fun hH => ?_)
      generalize wr.drew = wd at *
      refine takeH (i := 0) (dst := some 19) (v := ?vn1) rfl rfl (by kernel_rfl) (by kernel_rfl) (by kernel_rfl) (fun _ _ _ h => h) rfl ?hyn1 hH rfl ?restn1
      case hyn1 => (intro W hW; clear hW; go_simp; try with_reducible rfl)
      (try simp only [Act.put, List.setIfInBounds_toArray, List.set_cons_zero, List.set_cons_succ])
      refine takeH (i := 1) (dst := some 20) (v := ?vn2) rfl rfl (by kernel_rfl) (by kernel_rfl) (by kernel_rfl) (fun _ _ _ h => h) rfl ?hyn2 hH rfl ?restn2
      case hyn2 => (intro W hW; clear hW; go_simp; try with_reducible rfl)
      (try simp only [Act.put, List.setIfInBounds_toArray, List.set_cons_zero, List.set_cons_succ])
      refine takeH (i := 2) (dst := some 21) (v := ?vn3) rfl rfl (by kernel_rfl) (by kernel_rfl) (by kernel_rfl) (fun _ _ _ h => h) rfl ?hyn3 hH rfl ?restn3
      case hyn3 => (intro W hW; clear hW; go_simp; try with_reducible rfl)
      (try simp only [Act.put, List.setIfInBounds_toArray, List.set_cons_zero, List.set_cons_succ])
      refine takeH (i := 3) (dst := some 22) (v := ?vn4) rfl rfl (by kernel_rfl) (by kernel_rfl) (by kernel_rfl) (fun _ _ _ h => h) rfl ?hyn4 hH rfl ?restn4
      case hyn4 => (intro W hW; clear hW; go_simp; try with_reducible rfl)
      (try simp only [Act.put, List.setIfInBounds_toArray, List.set_cons_zero, List.set_cons_succ])
      refine callH2 (i := 4) (j := 5) { dst := some 23, op := Go.Op.load 112 (Go.Operand.tmp 22), type := 112, pos := "ref.go:49", after := #[{ on := 3, ground := Go.Ground.data }], guard := none } { dst := some 24, op := Go.Op.call { callee := Go.Callee.value (Go.Operand.func 60), args := #[], argTypes := #[] }, type := 9, pos := "ref.go:49", after := #[], guard := none } (by kernel_rfl) rfl rfl rfl rfl (fun K hK => ?_) (fun K hK => ?_)
      · have cl := L1.c0
        go_simp
        clear hH cl
        refine hK.out _ _ trivial (fun hH => ?_)
        clear hK K
        (try simp only [Act.put, List.setIfInBounds_toArray, List.set_cons_zero, List.set_cons_succ])
        refine callH (i := 5) { dst := some 24, op := Go.Op.call { callee := Go.Callee.value (Go.Operand.func 60), args := #[], argTypes := #[] }, type := 9, pos := "ref.go:49", after := #[], guard := none } (by kernel_rfl) rfl rfl (fun K hK => ?_)
        go_simp
        refine (rnone_any _).mono ?_
        rintro e w5 ⟨rfl, b5⟩
        have L5 := L1.low b5
        have hz5 := b5.size
        clear hH
        refine hK.out _ _ trivial (fun hH => ?_)
        clear hK K
        (try simp only [Act.put, List.setIfInBounds_toArray, List.set_cons_zero, List.set_cons_succ])
        refine callH (i := 6) { dst := some 25, op := Go.Op.buildSlice 40 1 #[(0, Go.Operand.tmp 24)], type := 40, pos := "ref.go:49", after := #[{ on := 5, ground := Go.Ground.data }], guard := none } (by kernel_rfl) rfl rfl (fun K hK => ?_)
        go_simp
        clear hH
        refine hK.out _ _ trivial (fun hH => ?_)
        clear hK K
        (try simp only [Act.put, List.setIfInBounds_toArray, List.set_cons_zero, List.set_cons_succ])
        refine takeH (i := 7) (dst := some 26) (v := ?vn5) rfl rfl (by kernel_rfl) (by kernel_rfl) (by kernel_rfl) (fun _ _ _ h => h) rfl ?hyn5 hH rfl ?restn5
        case hyn5 => (intro W hW; clear hW; go_simp; try with_reducible rfl)
        (try simp only [Act.put, List.setIfInBounds_toArray, List.set_cons_zero, List.set_cons_succ])
        refine callH (i := 8) { dst := some 27, op := Go.Op.buildSlice 112 1 #[(0, Go.Operand.tmp 26)], type := 112, pos := "ref.go:49", after := #[{ on := 7, ground := Go.Ground.data }], guard := none } (by kernel_rfl) rfl rfl (fun K hK => ?_)
        go_simp
        clear hH
        refine hK.out _ _ trivial (fun hH => ?_)
        clear hK K
        (try simp only [Act.put, List.setIfInBounds_toArray, List.set_cons_zero, List.set_cons_succ])
        obtain ⟨ao', ac', g, cp, w4, ev, hrun, cA, fA, LN, BN, FN⟩ := L5.stepF (by omega) (by omega)
        obtain ⟨rfl, rfl⟩ : ao = ao' ∧ ac = ac' := by simpa using ev
        rw [hzb k (by omega)] at hrun
        refine readyH (i := 9) (v := .slice (some ⟨g, 0, none⟩) (k + 1) cp) (w' := w4) (by kernel_rfl) rfl rfl rfl (run_app60 rfl rfl rfl rfl hrun) rfl trivial ?_
        (try simp only [Act.put, List.setIfInBounds_toArray])
        refine takeH (i := 10) (dst := some 29) (v := ?vn6) rfl rfl (by kernel_rfl) (by kernel_rfl) (by kernel_rfl) (fun _ _ _ h => h) rfl ?hyn6 hH rfl ?restn6
        case hyn6 => (intro W hW; clear hW; go_simp; try with_reducible rfl)
        (try simp only [Act.put])
        refine takeH (i := 11) (dst := some 30) (v := ?vn7) rfl rfl (by kernel_rfl) (by kernel_rfl) (by kernel_rfl) (fun _ _ _ h => h) rfl ?hyn7 hH rfl ?restn7
        case hyn7 => (intro W hW; clear hW; go_simp; try with_reducible rfl)
        (try simp only [Act.put])
        refine callH (i := 12) { dst := none, op := Go.Op.store 112 (Go.Operand.tmp 30) (Go.Operand.tmp 28), type := 0, pos := "ref.go:49", after := #[{ on := 11, ground := Go.Ground.data }, { on := 9, ground := Go.Ground.data }, { on := 9, ground := Go.Ground.chain }, { on := 0, ground := Go.Ground.phase }, { on := 1, ground := Go.Ground.phase }, { on := 2, ground := Go.Ground.phase }, { on := 3, ground := Go.Ground.phase }, { on := 4, ground := Go.Ground.phase }, { on := 5, ground := Go.Ground.phase }, { on := 6, ground := Go.Ground.phase }, { on := 7, ground := Go.Ground.phase }, { on := 8, ground := Go.Ground.phase }, { on := 9, ground := Go.Ground.phase }], guard := none } (by kernel_rfl) rfl rfl (fun K hK => ?_)
        go_simp
        clear hH
        refine hK.out _ _ trivial (fun hH => ?_)
        clear hK K
        (try simp only [Act.put, List.setIfInBounds_toArray, List.set_cons_zero, List.set_cons_succ])
        refine wpAnyH_done (by kernel_rfl) ?_ _
        have HL2 : Hid _ := LN
        have HB2 : Hid (Below w.heap.size w (w4.setCell ⟨w.heap.size, 0, none⟩ (.slice (some ⟨g, 0, none⟩) (k + 1) cp))) := (HBd.out.trans (b5.mono (by omega))).trans BN
        have HF2 : Hid (∀ o, (w4.setCell ⟨w.heap.size, 0, none⟩ (.slice (some ⟨g, 0, none⟩) (k + 1) cp)).frozen? ⟨w.heap.size, o, none⟩ = false) := fun o => FN o ((b5.frozen (p := ⟨w.heap.size, o, none⟩) (show w.heap.size < wd.heap.size by omega)).trans (HFd.out o))
        clear FN
        clear hH cA fA LN BN hrun L5 b5 L1 ev
        go_wp2_with fail
        go_round
        case rel => exact ⟨k + 1, _, _, by omega, by go_num, HL2, HF2, HB2⟩
        case measure => simp [intOf]; omega
      · go_simp
        refine (rnone_any _).mono ?_
        rintro e w5 ⟨rfl, b5⟩
        have L5 := L1.low b5
        have hz5 := b5.size
        clear hH
        refine hK.out _ _ trivial (fun hH => ?_)
        clear hK K
        (try simp only [Act.put, List.setIfInBounds_toArray, List.set_cons_zero, List.set_cons_succ])
        refine callH2 (i := 4) (j := 6) { dst := some 23, op := Go.Op.load 112 (Go.Operand.tmp 22), type := 112, pos := "ref.go:49", after := #[{ on := 3, ground := Go.Ground.data }], guard := none } { dst := some 25, op := Go.Op.buildSlice 40 1 #[(0, Go.Operand.tmp 24)], type := 40, pos := "ref.go:49", after := #[{ on := 5, ground := Go.Ground.data }], guard := none } (by kernel_rfl) rfl rfl rfl rfl (fun K hK => ?_) (fun K hK => ?_)
        · have cl := L5.c0
          go_simp
          clear hH cl
          refine hK.out _ _ trivial (fun hH => ?_)
          clear hK K
          (try simp only [Act.put, List.setIfInBounds_toArray, List.set_cons_zero, List.set_cons_succ])
          refine callH (i := 6) { dst := some 25, op := Go.Op.buildSlice 40 1 #[(0, Go.Operand.tmp 24)], type := 40, pos := "ref.go:49", after := #[{ on := 5, ground := Go.Ground.data }], guard := none } (by kernel_rfl) rfl rfl (fun K hK => ?_)
          go_simp
          clear hH
          refine hK.out _ _ trivial (fun hH => ?_)
          clear hK K
          (try simp only [Act.put, List.setIfInBounds_toArray, List.set_cons_zero, List.set_cons_succ])
          refine takeH (i := 7) (dst := some 26) (v := ?vn8) rfl rfl (by kernel_rfl) (by kernel_rfl) (by kernel_rfl) (fun _ _ _ h => h) rfl ?hyn8 hH rfl ?restn8
          case hyn8 => (intro W hW; clear hW; go_simp; try with_reducible rfl)
          (try simp only [Act.put, List.setIfInBounds_toArray, List.set_cons_zero, List.set_cons_succ])
          refine callH (i := 8) { dst := some 27, op := Go.Op.buildSlice 112 1 #[(0, Go.Operand.tmp 26)], type := 112, pos := "ref.go:49", after := #[{ on := 7, ground := Go.Ground.data }], guard := none } (by kernel_rfl) rfl rfl (fun K hK => ?_)
          go_simp
          clear hH
          refine hK.out _ _ trivial (fun hH => ?_)
          clear hK K
          (try simp only [Act.put, List.setIfInBounds_toArray, List.set_cons_zero, List.set_cons_succ])
          obtain ⟨ao', ac', g, cp, w4, ev, hrun, cA, fA, LN, BN, FN⟩ := L5.stepF (by omega) (by omega)
          obtain ⟨rfl, rfl⟩ : ao = ao' ∧ ac = ac' := by simpa using ev
          rw [hzb k (by omega)] at hrun
          refine readyH (i := 9) (v := .slice (some ⟨g, 0, none⟩) (k + 1) cp) (w' := w4) (by kernel_rfl) rfl rfl rfl (run_app60 rfl rfl rfl rfl hrun) rfl trivial ?_
          (try simp only [Act.put, List.setIfInBounds_toArray])
          refine takeH (i := 10) (dst := some 29) (v := ?vn9) rfl rfl (by kernel_rfl) (by kernel_rfl) (by kernel_rfl) (fun _ _ _ h => h) rfl ?hyn9 hH rfl ?restn9
          case hyn9 => (intro W hW; clear hW; go_simp; try with_reducible rfl)
          (try simp only [Act.put])
          refine takeH (i := 11) (dst := some 30) (v := ?vn10) rfl rfl (by kernel_rfl) (by kernel_rfl) (by kernel_rfl) (fun _ _ _ h => h) rfl ?hyn10 hH rfl ?restn10
          case hyn10 => (intro W hW; clear hW; go_simp; try with_reducible rfl)
          (try simp only [Act.put])
          refine callH (i := 12) { dst := none, op := Go.Op.store 112 (Go.Operand.tmp 30) (Go.Operand.tmp 28), type := 0, pos := "ref.go:49", after := #[{ on := 11, ground := Go.Ground.data }, { on := 9, ground := Go.Ground.data }, { on := 9, ground := Go.Ground.chain }, { on := 0, ground := Go.Ground.phase }, { on := 1, ground := Go.Ground.phase }, { on := 2, ground := Go.Ground.phase }, { on := 3, ground := Go.Ground.phase }, { on := 4, ground := Go.Ground.phase }, { on := 5, ground := Go.Ground.phase }, { on := 6, ground := Go.Ground.phase }, { on := 7, ground := Go.Ground.phase }, { on := 8, ground := Go.Ground.phase }, { on := 9, ground := Go.Ground.phase }], guard := none } (by kernel_rfl) rfl rfl (fun K hK => ?_)
          go_simp
          clear hH
          refine hK.out _ _ trivial (fun hH => ?_)
          clear hK K
          (try simp only [Act.put, List.setIfInBounds_toArray, List.set_cons_zero, List.set_cons_succ])
          refine wpAnyH_done (by kernel_rfl) ?_ _
          have HL2 : Hid _ := LN
          have HB2 : Hid (Below w.heap.size w (w4.setCell ⟨w.heap.size, 0, none⟩ (.slice (some ⟨g, 0, none⟩) (k + 1) cp))) := (HBd.out.trans (b5.mono (by omega))).trans BN
          have HF2 : Hid (∀ o, (w4.setCell ⟨w.heap.size, 0, none⟩ (.slice (some ⟨g, 0, none⟩) (k + 1) cp)).frozen? ⟨w.heap.size, o, none⟩ = false) := fun o => FN o ((b5.frozen (p := ⟨w.heap.size, o, none⟩) (show w.heap.size < wd.heap.size by omega)).trans (HFd.out o))
          clear FN
          clear hH cA fA LN BN hrun L5 b5 L1 ev
          go_wp2_with fail
          go_round
          case rel => exact ⟨k + 1, _, _, by omega, by go_num, HL2, HF2, HB2⟩
          case measure => simp [intOf]; omega
        · go_simp
          clear hH
          refine hK.out _ _ trivial (fun hH => ?_)
          clear hK K
          (try simp only [Act.put, List.setIfInBounds_toArray, List.set_cons_zero, List.set_cons_succ])
          refine takeH (i := 7) (dst := some 26) (v := ?vn11) rfl rfl (by kernel_rfl) (by kernel_rfl) (by kernel_rfl) (fun _ _ _ h => h) rfl ?hyn11 hH rfl ?restn11
          case hyn11 => (intro W hW; clear hW; go_simp; try with_reducible rfl)
          (try simp only [Act.put, List.setIfInBounds_toArray, List.set_cons_zero, List.set_cons_succ])
          refine callH2 (i := 4) (j := 8) { dst := some 23, op := Go.Op.load 112 (Go.Operand.tmp 22), type := 112, pos := "ref.go:49", after := #[{ on := 3, ground := Go.Ground.data }], guard := none } { dst := some 27, op := Go.Op.buildSlice 112 1 #[(0, Go.Operand.tmp 26)], type := 112, pos := "ref.go:49", after := #[{ on := 7, ground := Go.Ground.data }], guard := none } (by kernel_rfl) rfl rfl rfl rfl (fun K hK => ?_) (fun K hK => ?_)
          · have cl := (World.cell?_alloc_lt w5 (.cells #[.string (str zer)] 9) ⟨w.heap.size, 0, none⟩ (show w.heap.size < w5.heap.size by omega)).trans L5.c0
            go_simp
            clear hH cl
            refine hK.out _ _ trivial (fun hH => ?_)
            clear hK K
            (try simp only [Act.put, List.setIfInBounds_toArray, List.set_cons_zero, List.set_cons_succ])
            refine callH (i := 8) { dst := some 27, op := Go.Op.buildSlice 112 1 #[(0, Go.Operand.tmp 26)], type := 112, pos := "ref.go:49", after := #[{ on := 7, ground := Go.Ground.data }], guard := none } (by kernel_rfl) rfl rfl (fun K hK => ?_)
            go_simp
            clear hH
            refine hK.out _ _ trivial (fun hH => ?_)
            clear hK K
            (try simp only [Act.put, List.setIfInBounds_toArray, List.set_cons_zero, List.set_cons_succ])
            obtain ⟨ao', ac', g, cp, w4, ev, hrun, cA, fA, LN, BN, FN⟩ := L5.stepF (by omega) (by omega)
            obtain ⟨rfl, rfl⟩ : ao = ao' ∧ ac = ac' := by simpa using ev
            rw [hzb k (by omega)] at hrun
            refine readyH (i := 9) (v := .slice (some ⟨g, 0, none⟩) (k + 1) cp) (w' := w4) (by kernel_rfl) rfl rfl rfl (run_app60 rfl rfl rfl rfl hrun) rfl trivial ?_
            (try simp only [Act.put, List.setIfInBounds_toArray])
            refine takeH (i := 10) (dst := some 29) (v := ?vn12) rfl rfl (by kernel_rfl) (by kernel_rfl) (by kernel_rfl) (fun _ _ _ h => h) rfl ?hyn12 hH rfl ?restn12
            case hyn12 => (intro W hW; clear hW; go_simp; try with_reducible rfl)
            (try simp only [Act.put])
            refine takeH (i := 11) (dst := some 30) (v := ?vn13) rfl rfl (by kernel_rfl) (by kernel_rfl) (by kernel_rfl) (fun _ _ _ h => h) rfl ?hyn13 hH rfl ?restn13
            case hyn13 => (intro W hW; clear hW; go_simp; try with_reducible rfl)
            (try simp only [Act.put])
            refine callH (i := 12) { dst := none, op := Go.Op.store 112 (Go.Operand.tmp 30) (Go.Operand.tmp 28), type := 0, pos := "ref.go:49", after := #[{ on := 11, ground := Go.Ground.data }, { on := 9, ground := Go.Ground.data }, { on := 9, ground := Go.Ground.chain }, { on := 0, ground := Go.Ground.phase }, { on := 1, ground := Go.Ground.phase }, { on := 2, ground := Go.Ground.phase }, { on := 3, ground := Go.Ground.phase }, { on := 4, ground := Go.Ground.phase }, { on := 5, ground := Go.Ground.phase }, { on := 6, ground := Go.Ground.phase }, { on := 7, ground := Go.Ground.phase }, { on := 8, ground := Go.Ground.phase }, { on := 9, ground := Go.Ground.phase }], guard := none } (by kernel_rfl) rfl rfl (fun K hK => ?_)
            go_simp
            clear hH
            refine hK.out _ _ trivial (fun hH => ?_)
            clear hK K
            (try simp only [Act.put, List.setIfInBounds_toArray, List.set_cons_zero, List.set_cons_succ])
            refine wpAnyH_done (by kernel_rfl) ?_ _
            have HL2 : Hid _ := LN
            have HB2 : Hid (Below w.heap.size w (w4.setCell ⟨w.heap.size, 0, none⟩ (.slice (some ⟨g, 0, none⟩) (k + 1) cp))) := (HBd.out.trans (b5.mono (by omega))).trans BN
            have HF2 : Hid (∀ o, (w4.setCell ⟨w.heap.size, 0, none⟩ (.slice (some ⟨g, 0, none⟩) (k + 1) cp)).frozen? ⟨w.heap.size, o, none⟩ = false) := fun o => FN o ((b5.frozen (p := ⟨w.heap.size, o, none⟩) (show w.heap.size < wd.heap.size by omega)).trans (HFd.out o))
            clear FN
            clear hH cA fA LN BN hrun L5 b5 L1 ev
            go_wp2_with fail
            go_round
            case rel => exact ⟨k + 1, _, _, by omega, by go_num, HL2, HF2, HB2⟩
            case measure => simp [intOf]; omega
          · go_simp
            clear hH
            refine hK.out _ _ trivial (fun hH => ?_)
            clear hK K
            (try simp only [Act.put, List.setIfInBounds_toArray, List.set_cons_zero, List.set_cons_succ])
            refine callH (i := 4) { dst := some 23, op := Go.Op.load 112 (Go.Operand.tmp 22), type := 112, pos := "ref.go:49", after := #[{ on := 3, ground := Go.Ground.data }], guard := none } (by kernel_rfl) rfl rfl (fun K hK => ?_)
            have cl := (World.cell?_alloc_lt (w5.alloc (.cells #[.string (str zer)] 9)) (.cells #[.slice (some ⟨w5.heap.size, 0, none⟩) 1 1] 117) ⟨w.heap.size, 0, none⟩ (show w.heap.size < (w5.alloc (.cells #[.string (str zer)] 9)).heap.size by rw [alloc_size]; omega)).trans ((World.cell?_alloc_lt w5 (.cells #[.string (str zer)] 9) ⟨w.heap.size, 0, none⟩ (show w.heap.size < w5.heap.size by omega)).trans L5.c0)
            go_simp
            clear hH cl
            refine hK.out _ _ trivial (fun hH => ?_)
            clear hK K
            (try simp only [Act.put, List.setIfInBounds_toArray, List.set_cons_zero, List.set_cons_succ])
            obtain ⟨ao', ac', g, cp, w4, ev, hrun, cA, fA, LN, BN, FN⟩ := L5.stepF (by omega) (by omega)
            obtain ⟨rfl, rfl⟩ : ao = ao' ∧ ac = ac' := by simpa using ev
            rw [hzb k (by omega)] at hrun
            refine readyH (i := 9) (v := .slice (some ⟨g, 0, none⟩) (k + 1) cp) (w' := w4) (by kernel_rfl) rfl rfl rfl (run_app60 rfl rfl rfl rfl hrun) rfl trivial ?_
            (try simp only [Act.put, List.setIfInBounds_toArray])
            refine takeH (i := 10) (dst := some 29) (v := ?vn14) rfl rfl (by kernel_rfl) (by kernel_rfl) (by kernel_rfl) (fun _ _ _ h => h) rfl ?hyn14 hH rfl ?restn14
            case hyn14 => (intro W hW; clear hW; go_simp; try with_reducible rfl)
            (try simp only [Act.put])
            refine takeH (i := 11) (dst := some 30) (v := ?vn15) rfl rfl (by kernel_rfl) (by kernel_rfl) (by kernel_rfl) (fun _ _ _ h => h) rfl ?hyn15 hH rfl ?restn15
            case hyn15 => (intro W hW; clear hW; go_simp; try with_reducible rfl)
            (try simp only [Act.put])
            refine callH (i := 12) { dst := none, op := Go.Op.store 112 (Go.Operand.tmp 30) (Go.Operand.tmp 28), type := 0, pos := "ref.go:49", after := #[{ on := 11, ground := Go.Ground.data }, { on := 9, ground := Go.Ground.data }, { on := 9, ground := Go.Ground.chain }, { on := 0, ground := Go.Ground.phase }, { on := 1, ground := Go.Ground.phase }, { on := 2, ground := Go.Ground.phase }, { on := 3, ground := Go.Ground.phase }, { on := 4, ground := Go.Ground.phase }, { on := 5, ground := Go.Ground.phase }, { on := 6, ground := Go.Ground.phase }, { on := 7, ground := Go.Ground.phase }, { on := 8, ground := Go.Ground.phase }, { on := 9, ground := Go.Ground.phase }], guard := none } (by kernel_rfl) rfl rfl (fun K hK => ?_)
            go_simp
            clear hH
            refine hK.out _ _ trivial (fun hH => ?_)
            clear hK K
            (try simp only [Act.put, List.setIfInBounds_toArray, List.set_cons_zero, List.set_cons_succ])
            refine wpAnyH_done (by kernel_rfl) ?_ _
            have HL2 : Hid _ := LN
            have HB2 : Hid (Below w.heap.size w (w4.setCell ⟨w.heap.size, 0, none⟩ (.slice (some ⟨g, 0, none⟩) (k + 1) cp))) := (HBd.out.trans (b5.mono (by omega))).trans BN
            have HF2 : Hid (∀ o, (w4.setCell ⟨w.heap.size, 0, none⟩ (.slice (some ⟨g, 0, none⟩) (k + 1) cp)).frozen? ⟨w.heap.size, o, none⟩ = false) := fun o => FN o ((b5.frozen (p := ⟨w.heap.size, o, none⟩) (show w.heap.size < wd.heap.size by omega)).trans (HFd.out o))
            clear FN
            clear hH cA fA LN BN hrun L5 b5 L1 ev
            go_wp2_with fail
            go_round
            case rel => exact ⟨k + 1, _, _, by omega, by go_num, HL2, HF2, HB2⟩
            case measure => simp [intOf]; omega
    · obtain rfl : k = n := by omega
      go_wp2_with fail
      go_ret2
      exact ⟨rfl, ⟨v, va, HL.out⟩, HFZ.out, HB.out⟩
theorem rnew_any (n : Nat) (h1 : 1 ≤ n) (hn : n ≤ 40) (w : World) :
    Calls Tryz.prog 10 #[.int .i64 (n : Int)] w fun e w' => e = .returned (.tuple #[.pointer (some ⟨w.heap.size, 0, none⟩), .int .i64 0]) ∧ (∃ gb cb va vc, RefW w' w.heap.size w.heap.size n false 0 (fun _ => zer :: []) gb cb va vc ∧ w.heap.size ≤ gb ∧ ∀ i, i < n → w.heap.size ≤ va i) ∧ Below w.heap.size w w' :=
  (rnew_go n h1 hn w).mono fun e w' ⟨h1', ⟨v, va, hL⟩, hf, hb⟩ => by
    obtain ⟨gb, cb, hR, hg, hv⟩ := hL.refW hf h1 (by omega)
    refine ⟨h1', ⟨gb, cb, va, fun _ => 1, ⟨?_, hR.fr, hR.fg, hR.rg, hR.ar⟩, hg, hv⟩, hb⟩
    have k := hR.at'
    refine { nn := k.nn, c0 := k.c0, c1 := k.c1, c2 := k.c2, rb := k.rb, gl := k.gl, cl := k.cl, row := fun i hi => k.row i hi, vers := fun i hi j hj => ?_ }
    have h := k.vers i hi j hj
    have hj0 : j = 0 := by simp at hj; omega
    subst hj0
    rw [h]
    simp [blk_zer n i hi]
end Go.Proofs.YtadadidccbhopaaGreat
/- The document's store (leveeref11): Open. -/
namespace Go.Proofs.YtadadidccbhopaaGreat
open Go.RowKit
set_option maxRecDepth 100000
/-- 'append' of one element onto an own row, as a step of a region that draws. -/
theorem step_app {ops : Array Oper} {o : Oper} {a : Act} {w : World} {K : Act → World → Prop} {Q : Exit → Act → World → Prop} {E : Prop} (hgd : o.guard = none) (s x : Operand) (t : TypeId)
    (ho : o.op = .call { callee := .builtin .append, args := #[s, x], argTypes := #[t, t] }) (base e : Nat) (i0 : TypeInfo) (z : Value) (size bytes : Nat) (hu : Tryz.prog.underlying t = some (.slice e)) (hi : Tryz.prog.info? e = some i0) (hz0 : i0.zero = some z) (hz1 : i0.size = size) (hz2 : i0.bytes = bytes) (hz3 : z.cells.size = size) (hsz : 0 < size) (hby : bytes ≤ 1000)
    (n : Nat) (xs ys : List Value) (v : Value) (hs : a.eval s = v) (g c : Nat) (hx : a.eval x = .slice (some ⟨g, 0, none⟩) 1 c) (hown : w.ownsRow base e size v n xs) (hyl : ys.length = size) (hsrc : ∀ j u, ys[j]? = some u → w.cell? ⟨g, j, none⟩ = some u) (hone : ∀ u ∈ ys, u.oneCell' = true) (hbase : base ≤ w.heap.size) (hb : n ≤ 1000000)
    (h : ∀ G cap w', w'.ownsRow base e size (.slice (some ⟨G, 0, none⟩) (n + 1) cap) (n + 1) (xs ++ ys) → w.grownBy w' v.ownBlock → (v.ownBlock = some G ∨ w.heap.size ≤ G) → K (a.put o.dst (.slice (some ⟨G, 0, none⟩) (n + 1) cap)) w') :
    if Region.wanted o (yielded ops a.tmps) = true then Oper.wp Tryz.prog o a w K Q else E := by
  have hw : Region.wanted o (yielded ops a.tmps) = true := by simp [Region.wanted, hgd]
  rw [if_pos hw]
  obtain ⟨G, cap, w', hr, hown', hgr, hat, _⟩ := run_append_lies (P := Tryz.prog) w t o.type base e i0 z size bytes hu hi hz0 hz1 hz2 hz3 hsz v n xs hown ⟨g, 0, none⟩ 1 c ys (by rw [hyl]; omega) (fun j u hj => by rw [addr_add, Nat.zero_add]; exact hsrc j u hj) hone (by omega) (by unfold maxLen; omega) (by
    have : (n + 1) * bytes ≤ 1000001 * 1000 := Nat.mul_le_mul (by omega) hby
    omega) hbase _ rfl
  unfold Oper.wp execOp
  simp only [ho, resolve, invoke, builtin]
  simp [hs, hx, hr, Result.andThen]
  refine h G cap w' hown' hgr ?_
  rcases hat with hat | hat
  · exact .inl hat
  · exact .inr (by omega)
/-- The texts of blocks. -/
def txs (n : Nat) : List Value := List.replicate n (Value.string (str zer))
theorem Tryz.infoS9 : (Tryz.prog.info? 9).map (fun i => (i.zero, i.size, i.bytes)) = some (some (.string ⟨#[]⟩), 1, 16) := by kernel_rfl
/-- The document's store at q, nothing open. -/
structure RSt0 (w0 w : World) (d q k : Nat) (v : Value) : Prop where
  be : Below w0.heap.size w0 w
  at' : w.heap[q]? = some (.cells #[.pointer (some ⟨d, 0, none⟩), v, .slice none 0 0, .int .i64 0] 43 (0, 0))
  ow : w.ownsRow (w0.heap.size + 1) 9 1 v k (txs k)
  qe : q = w0.heap.size
  sz : w0.heap.size + 1 ≤ w.heap.size
theorem RSt0.up {w0 w w' : World} {d q k : Nat} {v : Value} (h : RSt0 w0 w d q k v) (hb : Below w.heap.size w w') : RSt0 w0 w' d q k v := by
  have hq := h.qe
  have hz := h.sz
  exact ⟨h.be.trans (hb.mono h.be.size), (hb.block q (by omega)).trans h.at', row_same h.ow fun k hk => hb.block k (World.ownsRow.lt h.ow k hk).2, h.qe, by have := hb.size; omega⟩
theorem RSt0.next {w0 w w3 : World} {d q k : Nat} {v : Value} (h : RSt0 w0 w d q k v) {o : Obj} {G cap : Nat} (ho : w3.ownsRow (w0.heap.size + 1) 9 1 (.slice (some ⟨G, 0, none⟩) (k + 1) cap) (k + 1) (txs k ++ [Value.string (str zer)])) (hg : (w.alloc o).grownBy w3 v.ownBlock) :
    RSt0 w0 (w3.setCell ⟨q, 1, none⟩ (.slice (some ⟨G, 0, none⟩) (k + 1) cap)) d q (k + 1) (.slice (some ⟨G, 0, none⟩) (k + 1) cap) ∧ w3.heap[q]? = some (.cells #[.pointer (some ⟨d, 0, none⟩), v, .slice none 0 0, .int .i64 0] 43 (0, 0)) := by
  have hq := h.qe
  have hz := h.sz
  have hz3 := hg.size
  rw [size_alloc] at hz3
  have e : w3.heap[q]? = w.heap[q]? := by
    rw [hg.block q (by rw [size_alloc]; omega) (fun e => by have := (World.ownsRow.lt h.ow q e.symm).1; omega)]
    exact Below.heap_alloc _ _ _ (by omega)
  have hb3 : Below w0.heap.size w0 w3 := (h.be.alloc h.be.size o).trans ((Below.refl _ _).grown hg (by rw [size_alloc]; omega) (fun k hk => by have := (World.ownsRow.lt h.ow k hk).1; omega))
  refine ⟨⟨hb3.setCell (by show _ ≤ q; omega) _, ?_, ?_, h.qe, by rw [show (w3.setCell ⟨q, 1, none⟩ (.slice (some ⟨G, 0, none⟩) (k + 1) cap)).heap.size = w3.heap.size by simp [World.setCell]]; omega⟩, e.trans h.at'⟩
  · have := heap_setCell_same w3 q 1 _ _ (.slice (some ⟨G, 0, none⟩) (k + 1) cap) (e.trans h.at')
    exact this
  · have e2 : txs (k + 1) = txs k ++ [Value.string (str zer)] := by unfold txs; rw [List.replicate_succ']
    rw [e2]
    exact row_same ho fun k hk => heap_setCell_other w3 ⟨q, 1, none⟩ k _ (by have := (World.ownsRow.lt ho k hk).1; show k ≠ q; omega)
set_option maxHeartbeats 4000000 in
theorem ropen_any {base r n gb cb : Nat} {va vc : Nat → Nat} {w : World} (h : RefAt w base r n false 0 (fun _ => zer :: []) gb cb va vc) (hn : n ≤ 1000) :
    Calls Tryz.prog 13 #[.pointer (some ⟨r, 0, none⟩)] w fun e w' => e = .returned (.pointer (some ⟨w.heap.size, 0, none⟩)) ∧ ∃ v, RSt0 w w' r w.heap.size n v := by
  have HR : Hid (RefAt w base r n false 0 (fun _ => zer :: []) gb cb va vc) := h
  have hcb : (cb : Int) ≤ 9223372036854775807 := h.cl.2
  clear h
  go_enter Tryz.func13, Tryz.ntmps13
  go_wp2_with fail
  have HS0 : Hid (RSt0 w (w.alloc (.cells #[.pointer (some ⟨r, 0, none⟩), .slice none 0 0, .slice none 0 0, .int .i64 0] 43)) r w.heap.size 0 (.slice none 0 0)) := ⟨(Below.refl _ _).alloc (Nat.le_refl _) _, heap_alloc_new _ _, World.ownsRow_nil _ _ _ _, rfl, by rw [size_alloc]; omega⟩
  go_loopg [4, 5, 6] n (fun gg t4 _ _ W => ∃ (gw : World) (k : Nat) (v : Value), gw = W ∧ k ≤ n ∧ n - k ≤ gg ∧ t4 = .int .i64 k ∧ Hid (RSt0 w gw r w.heap.size k v))
  case atStart => exact ⟨_, 0, _, rfl, by omega, by omega, rfl, HS0⟩
  case round =>
    clear HS0
    obtain ⟨gw, k, v, rfl, hk, hgk, rfl, HS⟩ := hrel
    have c0 : gw.cell? ⟨r, 0, none⟩ = some (.slice (some ⟨gb, 0, none⟩) n cb) := (HR.out.below HS.out.be (Nat.le_refl _)).c0
    by_cases hlt : (k : Int) < (n : Int)
    · have RD := rread_in (HR.out.below HS.out.be (Nat.le_refl _)) k (by omega) 0 zer rfl rfl
      rw [show zer.length = 256 by simp [zer]] at RD
      go_wp2_with (first | (go_at_call 63; refine Hid.out ?_))
      change Calls _ _ _ _ _
      refine RD.mono ?_
      clear RD
      rintro r2 w2 ⟨g, c, rfl, hsr, hb2⟩
      have HS2 : Hid (RSt0 w w2 r w.heap.size k v) := HS.out.up hb2
      have CV := conv_str (hsr.below (Below.refl w2.heap.size w2).drew (Nat.le_refl _)) 256 c (by simp [zer])
      obtain ⟨ao, ca, hv⟩ : ∃ ao ca, v = .slice ao k ca := by
        obtain ⟨_, h2⟩ := HS2.out.ow
        rcases h2 with ⟨h2, h3⟩ | ⟨g, cap, _, hv, _⟩
        · exact ⟨none, 0, by rw [h2, h3]⟩
        · exact ⟨_, cap, hv⟩
      have q1 : w2.cell? ⟨w.heap.size, 1, none⟩ = some (.slice ao k ca) := by rw [← hv]; exact (cell_of_row _ _ _ _ _ _ HS2.out.at').trans rfl
      subst hv
      obtain ⟨i0, hi0, hz0, hz1, hz2⟩ := info_parts Tryz.infoS9
      have HI : Hid (Tryz.prog.info? 9 = some i0 ∧ i0.zero = some (.string ⟨#[]⟩) ∧ i0.size = 1 ∧ i0.bytes = 16) := ⟨hi0, hz0, hz1, hz2⟩
      clear hi0 hz0 hz1 hz2 hsr hb2 HS c0
      go_upto_region 6 with fail
      have HS3 : Hid (RSt0 w w2.drew r w.heap.size k (.slice ao k ca)) := HS2.out.up (Below.refl w2.heap.size w2).drew
      have q2 : (w2.alloc (.cells #[.string (str zer)] 9)).cell? ⟨w.heap.size, 1, none⟩ = some (.slice ao k ca) := (World.cell?_of_block (w := w2) (a := ⟨w.heap.size, 1, none⟩) (Below.heap_alloc _ _ _ (by have := HS2.out.sz; show w.heap.size < _; omega))).trans q1
      go_region_law (refine step_app rfl (.tmp 29) (.tmp 32) 40 rfl (w.heap.size + 1) 9 i0 _ 1 16 Tryz.underlying40 HI.out.1 HI.out.2.1 HI.out.2.2.1 HI.out.2.2.2 rfl (by decide) (by decide) k (txs k) [Value.string (str zer)] (.slice ao k ca) (by simp [Act.eval]) w2.heap.size 1 (by simp [Act.eval]) (row_same HS2.out.ow (fun l hl => Below.heap_alloc _ _ _ (World.ownsRow.lt HS2.out.ow l hl).2)) rfl (fun j u hj => by cases j with
        | zero => simp at hj; subst hj; exact (cell_of_row _ _ _ _ _ _ (heap_alloc_new w2.drew _)).trans rfl
        | succ j => simp at hj) (fun u hu => by simp at hu; subst hu; rfl) (show w.heap.size + 1 ≤ (w2.drew.alloc (.cells #[.string (str zer)] 9)).heap.size by rw [size_alloc]; have := HS3.out.sz; omega) (by omega) ?_; intro G cap w' ho hg hat; have hN := HS3.out.next (o := .cells #[.string (str zer)] 9) ho hg; have qz : w'.cell? ⟨w.heap.size, 1, none⟩ = some (.slice ao k ca) := (cell_of_row _ _ _ _ _ _ hN.2).trans rfl; have fzz : w'.frozen? ⟨w.heap.size, 1, none⟩ = false := frozen_of_row w' _ 1 _ _ hN.2; have HN : Hid (RSt0 w (w'.setCell ⟨w.heap.size, 1, none⟩ (.slice (some ⟨G, 0, none⟩) (k + 1) cap)) r w.heap.size (k + 1) (.slice (some ⟨G, 0, none⟩) (k + 1) cap)) := hN.1; clear ho hg hat hN)
      all_goals (
        go_wp2_with fail
        go_roundg (n - (k + 1))
        case measure => omega
        case rel => exact ⟨_, k + 1, _, rfl, by omega, by omega, by go_num, HN⟩)
    · go_wp2_with fail
      go_ret
      obtain rfl : k = n := by omega
      exact ⟨rfl, v, HS.out⟩
end Go.Proofs.YtadadidccbhopaaGreat
/- The document's store (leveeref11.Store) in memory; there, find, meet. -/
namespace Go.Proofs.YtadadidccbhopaaGreat
open Go.RowKit
set_option maxRecDepth 100000
/-- A change of the document's. -/
structure RCh where
  id : Nat
  b : Nat
  fr : Nat
  d : List UInt8
  ap : Option Addr
  A : List Int
  ac : Nat
  out : Bool
def rcL (c : RCh) : List Value := [.int .i64 (c.id : Int), .int .i64 (c.b : Int), .int .i64 (c.fr : Int), .string (str c.d), .slice c.ap c.A.length c.ac, .bool c.out]
/-- The list of open changes lies at v. -/
structure LAt (w : World) (ao : Option Addr) (ca : Nat) (L : List RCh) : Prop where
  cap : L.length ≤ ca ∧ (ca : Int) ≤ 9223372036854775807
  cells : L = [] ∨ ∃ g, ao = some ⟨g, 0, none⟩ ∧ g < w.heap.size ∧ ∀ (i : Nat) (c : RCh), L[i]? = some c → ∀ (j : Nat) (v : Value), (rcL c)[j]? = some v → w.cell? ⟨g, i * 6 + j, none⟩ = some v
theorem LAt.up {w w' : World} {ao : Option Addr} {ca : Nat} {L : List RCh} (h : LAt w ao ca L) (hb : Below w.heap.size w w') : LAt w' ao ca L := by
  refine ⟨h.cap, ?_⟩
  rcases h.cells with e | ⟨g, e, hl, hc⟩
  · exact .inl e
  · exact .inr ⟨g, e, by have := hb.size; omega, fun i c hi j v hv => (hb.cell (p := ⟨g, i * 6 + j, none⟩) hl).trans (hc i c hi j v hv)⟩
/-- The document's store at q: its disk d, its bases vB, its changes, the last number. -/
structure RAt (w : World) (q d : Nat) (vB : Value) (ao : Option Addr) (ca : Nat) (L : List RCh) (last : Nat) : Prop where
  at' : w.heap[q]? = some (.cells #[.pointer (some ⟨d, 0, none⟩), vB, .slice ao L.length ca, .int .i64 (last : Int)] 43 (0, 0))
  ls : LAt w ao ca L
section
variable {w : World} {q d : Nat} {vB : Value} {ao : Option Addr} {ca : Nat} {L : List RCh} {last : Nat}
theorem RAt.up {w' : World} (h : RAt w q d vB ao ca L last) (hb : Below w.heap.size w w') : RAt w' q d vB ao ca L last :=
  ⟨(hb.block q (Array.getElem?_eq_some_iff.1 h.at').1).trans h.at', h.ls.up hb⟩
theorem RAt.c2 (h : RAt w q d vB ao ca L last) : w.cell? ⟨q, 2, none⟩ = some (.slice ao L.length ca) := (cell_of_row _ _ _ _ _ _ h.at').trans rfl
theorem RAt.c3 (h : RAt w q d vB ao ca L last) : w.cell? ⟨q, 3, none⟩ = some (.int .i64 (last : Int)) := (cell_of_row _ _ _ _ _ _ h.at').trans rfl
/-- Where an open change stands. -/
def findI : List RCh → Int → Nat → Int
  | [], _, _ => -1
  | c :: L, x, k => if (c.id : Int) = x then (k : Int) else findI L x (k + 1)
theorem findI_drop (L : List RCh) (x : Int) (k : Nat) (c : RCh) (h : L[k]? = some c) : findI (L.drop k) x k = if (c.id : Int) = x then (k : Int) else findI (L.drop (k + 1)) x (k + 1) := by
  obtain ⟨hk, e⟩ := List.getElem?_eq_some_iff.1 h
  rw [List.drop_eq_getElem_cons hk, findI, e]
set_option maxHeartbeats 2000000 in
theorem rfind_any (h : RAt w q d vB ao ca L last) (hl : L.length ≤ 1000000) (x : Int) :
    Calls Tryz.prog 115 #[.pointer (some ⟨q, 0, none⟩), .int .i64 x] w fun e w' => e = .returned (.int .i64 (findI L x 0)) ∧ w' = w := by
  have c2 := h.c2
  have HL : Hid (LAt w ao ca L) := h.ls
  have hca : (ca : Int) ≤ 9223372036854775807 := h.ls.cap.2
  clear h
  go_enter Tryz.func115, Tryz.ntmps115
  go_wp2_with fail
  go_loopg [5] L.length (fun gg t5 W => ∃ (gw : World) (k : Nat), gw = W ∧ Hid (w = gw) ∧ k ≤ L.length ∧ L.length - k ≤ gg ∧ t5 = .int .i64 k ∧ Hid (findI L x 0 = findI (L.drop k) x k))
  case atStart => exact ⟨_, 0, rfl, rfl, by omega, by omega, rfl, rfl⟩
  case round =>
    obtain ⟨gw, k, rfl, HW, hk, hgk, rfl, HF⟩ := hrel
    obtain rfl : w = gw := HW.out
    clear HW
    by_cases hlt : (k : Int) < (L.length : Int)
    · obtain ⟨c, hc⟩ : ∃ c, L[k]? = some c := ⟨_, List.getElem?_eq_getElem (by omega)⟩
      obtain ⟨g, rfl, hg, hcc⟩ : ∃ g, ao = some ⟨g, 0, none⟩ ∧ g < w.heap.size ∧ w.cell? ⟨g, k * 6, none⟩ = some (.int .i64 (c.id : Int)) := by
        rcases HL.out.cells with e | ⟨g, e, hg, hcc⟩
        · rw [e] at hc; cases hc
        · exact ⟨g, e, hg, hcc k c hc 0 _ rfl⟩
      have HF2 : Hid (findI L x 0 = if (c.id : Int) = x then (k : Int) else findI (L.drop (k + 1)) x (k + 1)) := HF.out.trans (findI_drop L x k c hc)
      clear HF hc
      by_cases hx : (c.id : Int) = x
      · have hxb : ((c.id : Int) == x) = true := by simpa using hx
        go_wp2_with fail
        go_ret
        exact ⟨by rw [HF2.out, if_pos hx]; rfl, rfl⟩
      · have hxb : ((c.id : Int) == x) = false := by simpa using hx
        have HF3 : Hid (findI L x 0 = findI (L.drop (k + 1)) x (k + 1)) := by show _ = _; rw [HF2.out, if_neg hx]
        have HX : Hid (¬ (c.id : Int) = x) := hx
        clear hx HF2
        go_wp2_with fail
        go_roundg (L.length - (k + 1))
        case measure => omega
        case rel => exact ⟨_, k + 1, rfl, rfl, by omega, by omega, by go_num, HF3⟩
    · have HE : Hid (findI L x 0 = -1) := by
        show _ = _
        rw [HF.out, List.drop_eq_nil_of_le (by omega)]; rfl
      go_wp2_with fail
      go_ret
      exact ⟨by rw [HE.out]; rfl, rfl⟩
end
/-- Do two changes meet? -/
def meetR (a c : RCh) : Bool := decide (a.b = c.b) && (decide (a.fr < c.fr + c.d.length) && decide (c.fr < a.fr + a.d.length))
set_option maxHeartbeats 2000000 in
theorem rmeet_any (a c : RCh) (w : World) (ha : a.b ≤ 1000 ∧ a.fr ≤ 1000 ∧ a.d.length ≤ 1000) (hc : c.b ≤ 1000 ∧ c.fr ≤ 1000 ∧ c.d.length ≤ 1000) :
    Calls Tryz.prog 116 #[.agg (rcL a).toArray, .agg (rcL c).toArray] w fun e w' => e = .returned (.bool (meetR a c)) ∧ Below w.heap.size w w' := by
  have HB : Hid (Below w.heap.size w ((w.alloc (.cells (rcL a).toArray 177)).alloc (.cells (rcL c).toArray 177))) := ((Below.refl _ _).alloc (Nat.le_refl _) _).alloc (by rw [size_alloc]; omega) _
  have HM : Hid (meetR a c = (decide (a.b = c.b) && (decide (a.fr < c.fr + c.d.length) && decide (c.fr < a.fr + a.d.length)))) := rfl
  have l1 : (str a.d).size = a.d.length := by simp [str, ByteArray.size]
  have l2 : (str c.d).size = c.d.length := by simp [str, ByteArray.size]
  generalize meetR a c = mr at *
  unfold rcL at *
  go_enter Tryz.func116, Tryz.ntmps116
  by_cases h1 : a.b = c.b
  · have h1b : ((a.b : Int) == (c.b : Int)) = true := by simp; omega
    have H1 : Hid (a.b = c.b) := h1
    clear h1
    by_cases h2 : a.fr < c.fr + c.d.length
    · have h2' : (a.fr : Int) < (c.fr : Int) + (c.d.length : Int) := by omega
      by_cases h3 : c.fr < a.fr + a.d.length
      · have h3' : (c.fr : Int) < (a.fr : Int) + (a.d.length : Int) := by omega
        go_wp2_with fail
        go_ret
        exact ⟨by rw [HM.out, decide_eq_true H1.out, decide_eq_true h2, decide_eq_true h3]; rfl, HB.out⟩
      · have h3' : ¬ (c.fr : Int) < (a.fr : Int) + (a.d.length : Int) := by omega
        have H3 : Hid (¬ c.fr < a.fr + a.d.length) := h3
        clear h3
        go_wp2_with fail
        go_ret
        exact ⟨by rw [HM.out, decide_eq_true H1.out, decide_eq_true h2, decide_eq_false H3.out]; rfl, HB.out⟩
    · have h2' : ¬ (a.fr : Int) < (c.fr : Int) + (c.d.length : Int) := by omega
      have H2 : Hid (¬ a.fr < c.fr + c.d.length) := h2
      clear h2
      go_wp2_with fail
      go_ret
      exact ⟨by rw [HM.out, decide_eq_true H1.out, decide_eq_false H2.out]; rfl, HB.out⟩
  · have h1b : ((a.b : Int) == (c.b : Int)) = false := by simp; omega
    have H1 : Hid (¬ a.b = c.b) := h1
    clear h1
    go_wp2_with fail
    go_ret
    exact ⟨by rw [HM.out, decide_eq_false H1.out]; rfl, HB.out⟩
end Go.Proofs.YtadadidccbhopaaGreat
/- leveeref01.Lay. -/
namespace Go.Proofs.YtadadidccbhopaaGreat
open Go.RowKit
set_option maxRecDepth 100000
/-- May n bytes be taken from the place 'from' on, of so many? -/
def inB (len : Nat) (f n : Int) : Bool := decide (0 ≤ f) && decide (0 ≤ n) && decide (f ≤ len) && decide (n ≤ len - f)
def errR (ok : Bool) : Int := if ok then 0 else 3
/-- What Lay answers. -/
def layL (l : List UInt8) (f : Int) (c : List UInt8) : List UInt8 := if inB l.length f c.length then l.take f.toNat ++ c ++ l.drop (f.toNat + c.length) else []
set_option maxHeartbeats 1000000 in
theorem rlay_empty (sp sc : Option Addr) (cc : Nat) (w : World) (hnc : sc = none → cc = 0) :
    Calls Tryz.prog 139 #[.slice sp 0 0, .int .i64 0, .slice sc 0 cc] w fun e w' => ∃ v, e = .returned (.tuple #[v, .int .i64 (errR true)]) ∧ Own w' w.heap.size v [] ∧ Below w.heap.size w w' := by
  go_enter Tryz.func139, Tryz.ntmps139
  go_wp2_with (first | (at_builtin; refine wpList_append_bytes rfl (.tmp 26) (.tmp 29) rfl w.heap.size [] [] _ rfl _ _ _ rfl rfl (Own.nil _ _) (Src.nil _ _) (Nat.le_refl _) (by simp) (fun _ => rfl) ?_; intro v1 w1 hown1 hb1; have hz1 := hb1.size) | (at_builtin; refine wpList_append_bytes rfl (.tmp 31) (.tmp 32) rfl w.heap.size _ [] _ rfl _ _ _ rfl rfl hown1 (Src.nil _ _) hz1 (by simp) hnc ?_; intro v2 w2 hown2 hb2; have hz2 := hb2.size; have hb12 := hb1.trans hb2) | (at_builtin; refine wpList_append_bytes rfl (.tmp 34) (.tmp 40) rfl w.heap.size _ [] _ rfl _ _ _ rfl rfl hown2 (Src.nil _ _) (by omega) (by simp) (fun _ => rfl) ?_; intro v3 w3 hown3 hb3))
  go_ret2
  exact ⟨_, rfl, hown3, hb12.trans hb3⟩
set_option maxHeartbeats 1000000 in
theorem rlay_any (sp sc : Option Addr) (l c : List UInt8) (cap cc : Nat) (f : Int) (w : World) (ha : Arg w sp cap l) (hc : Arg w sc cc c) (hf : -9223372036854775808 ≤ f ∧ f ≤ 9223372036854775807) :
    Calls Tryz.prog 139 #[.slice sp l.length cap, .int .i64 f, .slice sc c.length cc] w fun e w' => ∃ v, e = .returned (.tuple #[v, .int .i64 (errR (inB l.length f c.length))]) ∧ Own w' w.heap.size v (layL l f c) ∧ Below w.heap.size w w' := by
  have hlen := ha.len
  have hlc := hc.len
  cases hin : inB l.length f c.length with
  | false =>
    have hno : ∀ w', Own w' w.heap.size (.slice none 0 0) (layL l f c) := fun w' => by rw [layL, hin]; exact Own.nil _ _
    simp [inB] at hin
    by_cases h1 : f < 0
    · clear hin
      go_enter Tryz.func139, Tryz.ntmps139
      go_wp2
      go_ret2
      exact ⟨_, rfl, hno _, Below.refl _ _⟩
    by_cases h3 : (l.length : Int) < f
    · clear hin
      go_enter Tryz.func139, Tryz.ntmps139
      go_wp2
      go_ret2
      exact ⟨_, rfl, hno _, Below.refl _ _⟩
    have h4 : (l.length : Int) - f < c.length := by omega
    clear hin
    go_enter Tryz.func139, Tryz.ntmps139
    go_wp2
    go_ret2
    exact ⟨_, rfl, hno _, Below.refl _ _⟩
  | true =>
    have hin' := hin
    simp [inB] at hin'
    obtain ⟨F, rfl⟩ := Int.eq_ofNat_of_zero_le hin'.1.1
    have hL : layL l F c = ([] ++ l.take F ++ c) ++ l.drop (F + c.length) := by rw [layL, hin]; simp
    have hFc : (F : Int) + c.length ≤ l.length := by omega
    have htl : (l.take F).length = F := by simp; omega
    have hdl : (l.drop (F + c.length)).length = l.length - (F + c.length) := by simp
    rw [hL]
    clear hL
    rcases ha with ⟨rfl, rfl⟩ | ⟨b, off, rfl, hcap, hlc2, _, _, hs⟩
    · obtain rfl : F = 0 := by simp at hin'; omega
      have hc0 : c = [] := List.eq_nil_of_length_eq_zero (by simp at hin'; omega)
      subst hc0
      exact rlay_empty sp sc cc w hc.nilcap
    have hs1 : Src w (some ⟨b, off, none⟩) (l.take F) := hs.pre F
    have hs3 : Src w (some ⟨b, off + (F + c.length), none⟩) (l.drop (F + c.length)) := hs.off _
    have hcap' : (0 : Int) < cap := by omega
    have hF0 : (0 : Int) ≤ F := by omega
    rcases (show (F : Int) + c.length = cap ∨ (F : Int) + c.length < cap by omega) with hce | hce
    · have hdn : l.drop (F + c.length) = [] := List.drop_eq_nil_of_le (by omega)
      have hsn : ∀ (sx : Option Addr) (wx : World), Src wx sx (l.drop (F + c.length)) := fun sx wx => by rw [hdn]; exact Src.nil _ _
      have hdl0 : (l.drop (F + c.length)).length = 0 := by rw [hdn]; rfl
      have HD : Hid (l.length = F + c.length) := by show _ = _; omega
      have HC : Hid (cap = F + c.length) := by show _ = _; omega
      have hle1 : (l.length : Int) ≤ F + c.length := by omega
      have hle2 : (cap : Int) ≤ F + c.length := by omega
      have hle3 : (F : Int) + c.length ≤ cap := by omega
      clear hce hdn hdl hs3
      go_enter Tryz.func139, Tryz.ntmps139
      go_wp2_with (first | (at_builtin; refine wpList_append_bytes rfl (.tmp 26) (.tmp 29) rfl w.heap.size [] (l.take F) _ rfl _ _ _ rfl (by first | exact htl.symm | omega) (Own.nil _ _) hs1 (Nat.le_refl _) (by rw [htl, List.length_nil]; omega) (fun h => by cases h) ?_; intro v1 w1 hown1 hb1; have hz1 := hb1.size) | (at_builtin; refine wpList_append_bytes rfl (.tmp 31) (.tmp 32) rfl w.heap.size _ c _ rfl _ _ _ rfl rfl hown1 (hc.src.below hb1 (Nat.le_refl _)) hz1 (by simp only [List.length_append, List.length_nil, htl]; omega) hc.nilcap ?_; intro v2 w2 hown2 hb2; have hz2 := hb2.size; have hb12 := hb1.trans hb2) | (at_builtin; refine wpList_append_bytes rfl (.tmp 34) (.tmp 40) rfl w.heap.size _ (l.drop (F + c.length)) _ rfl _ _ _ rfl (by first | exact hdl0.symm | omega) hown2 (hsn _ _) (by omega) (by rw [hdl0]; simp only [List.length_append, List.length_nil, htl]; omega) (fun h => by cases h) ?_; intro v3 w3 hown3 hb3))
      go_ret2
      exact ⟨_, rfl, hown3, hb12.trans hb3⟩
    · go_enter Tryz.func139, Tryz.ntmps139
      go_wp2_with (first | (at_builtin; refine wpList_append_bytes rfl (.tmp 26) (.tmp 29) rfl w.heap.size [] (l.take F) _ rfl _ _ _ rfl (by first | exact htl.symm | omega) (Own.nil _ _) hs1 (Nat.le_refl _) (by rw [htl, List.length_nil]; omega) (fun h => by cases h) ?_; intro v1 w1 hown1 hb1; have hz1 := hb1.size) | (at_builtin; refine wpList_append_bytes rfl (.tmp 31) (.tmp 32) rfl w.heap.size _ c _ rfl _ _ _ rfl rfl hown1 (hc.src.below hb1 (Nat.le_refl _)) hz1 (by simp only [List.length_append, List.length_nil, htl]; omega) hc.nilcap ?_; intro v2 w2 hown2 hb2; have hz2 := hb2.size; have hb12 := hb1.trans hb2) | (at_builtin; refine wpList_append_bytes rfl (.tmp 34) (.tmp 40) rfl w.heap.size _ (l.drop (F + c.length)) _ rfl (some ⟨b, off + (F + c.length), none⟩) _ _ rfl (by first | exact hdl.symm | omega) hown2 (hs3.below hb12 (Nat.le_refl _)) (by omega) (by rw [hdl]; simp only [List.length_append, List.length_nil, htl]; omega) (fun h => by cases h) ?_; intro v3 w3 hown3 hb3))
      go_ret2
      exact ⟨_, rfl, hown3, hb12.trans hb3⟩
end Go.Proofs.YtadadidccbhopaaGreat
/- The document's store: upon (a change laid upon bytes). -/
namespace Go.Proofs.YtadadidccbhopaaGreat
open Go.RowKit
set_option maxRecDepth 100000
theorem own_less {w : World} {base base' : Nat} {v : Value} {l : List UInt8} (h : Own w base v l) (hb : base' ≤ base) : Own w base' v l := by
  obtain ⟨h1, h2⟩ := h
  refine ⟨h1, ?_⟩
  rcases h2 with h2 | ⟨g, cap, cur, hv, hg, r⟩
  · exact .inl h2
  · exact .inr ⟨g, cap, cur, hv, by omega, r⟩
/-- The bytes of a text, as an argument of a call. -/
theorem str_arg (w : World) (l : List UInt8) (h0 : 0 < l.length) (hl : l.length ≤ 1000000) : ∃ c w', (convert 9 36 (.string (str l))).run Tryz.prog w = .ok (.slice (some ⟨w.heap.size, 0, none⟩) l.length c) w' ∧ Arg w' (some ⟨w.heap.size, 0, none⟩) c l ∧ Below w.heap.size w w' := by
  have hsz : (str l).size = l.length := by simp [str, ByteArray.size]
  have h := Lib.run_convert_string_bytes (P := Tryz.prog) w 9 36 5 (str l) Tryz.underlying9 Tryz.underlying36 Tryz.underlying5
  rw [hsz] at h
  have g1 := grownCap_ge w l.length 0 5
  have g2 := grownCap_le_maxLen w l.length 0 5 (by unfold maxLen; omega)
  refine ⟨_, _, h, .inr ⟨_, _, rfl, by omega, g1, by unfold maxLen at g2; omega, by omega, ?_⟩, ⟨rfl, rfl, rfl, by rw [Lib.bytesWorld_size]; omega, fun k hk => Lib.bytesWorld_at_old w 5 (str l) k hk⟩⟩
  refine .inr ⟨_, _, rfl, by rw [Lib.bytesWorld_size]; omega, fun j hj => ?_⟩
  rw [Nat.zero_add, Lib.bytesWorld_cell w 5 (str l) j (by rw [hsz]; exact hj)]
  simp [str, bv, hj]
set_option maxHeartbeats 2000000 in
theorem rupon_any (c : RCh) (sp : Option Addr) (cap : Nat) (l : List UInt8) (w : World) (ha : Arg w sp cap l) (hl : l.length = 256) (hf : c.fr + c.d.length ≤ 256) (h0 : 0 < c.d.length) :
    Calls Tryz.prog 112 #[.slice sp l.length cap, .agg (rcL c).toArray] w fun e w' => ∃ v, e = .returned v ∧ Own w' w.heap.size v (layB l c.fr c.d) ∧ Below w.heap.size w w' := by
  have HB : Hid (Below w.heap.size w (w.alloc (.cells (rcL c).toArray 177))) := (Below.refl _ _).alloc (Nat.le_refl _) _
  have x2 : (w.alloc (.cells (rcL c).toArray 177)).cell? ⟨w.heap.size, 2, none⟩ = some (.int .i64 (c.fr : Int)) := (cell_of_row _ _ _ _ _ _ (heap_alloc_new _ _)).trans rfl
  have x3 : (w.alloc (.cells (rcL c).toArray 177)).cell? ⟨w.heap.size, 3, none⟩ = some (.string (str c.d)) := (cell_of_row _ _ _ _ _ _ (heap_alloc_new _ _)).trans rfl
  have HA : Hid (Arg w sp cap l) := ha
  have HL : Hid (l.length = 256 ∧ c.fr + c.d.length ≤ 256 ∧ 0 < c.d.length) := ⟨hl, hf, h0⟩
  clear ha hl hf h0
  unfold rcL at *
  go_enter Tryz.func112, Tryz.ntmps112
  go_upto_region 1 with fail
  generalize w.alloc (.cells #[.int .i64 (c.id : Int), .int .i64 (c.b : Int), .int .i64 (c.fr : Int), .string (str c.d), .slice c.ap c.A.length c.ac, .bool c.out] 177) = W0 at *
  obtain ⟨cc, w2, hcv, hav, hbv⟩ := str_arg W0 c.d HL.out.2.2 (by have := HL.out; omega)
  have HSZ : Hid (w.heap.size ≤ W0.heap.size ∧ W0.heap.size ≤ w2.heap.size) := ⟨HB.out.size, hbv.size⟩
  have LY := rlay_any sp (some ⟨W0.heap.size, 0, none⟩) l c.d cap cc (c.fr : Int) w2 ((HA.out.below HB.out (Nat.le_refl _)).below hbv (Nat.le_refl _)) hav (by have := HL.out; omega)
  have HE : Hid (layL l (c.fr : Int) c.d = layB l c.fr c.d) := by
    show _ = _
    unfold layL
    rw [if_pos (by have := HL.out; simp [inB]; omega)]
    rfl
  have HB2 : Hid (Below w.heap.size w w2) := HB.out.trans (hbv.mono HSZ.out.1)
  rw [HE.out] at LY
  clear HB hav hbv HE
  obtain ⟨y, hy⟩ : ∃ y, layB l c.fr c.d = y := ⟨_, rfl⟩
  have HY : Hid (layB l c.fr c.d = y) := hy
  rw [hy] at LY
  clear hy
  generalize errR (inB l.length (c.fr : Int) c.d.length) = ib at *
  generalize W0.heap.size = z0 at *
  go_wp2_with (first | (go_at_call 139; refine LY.mono ?_; rintro r w3 ⟨v, rfl, ho, hb3⟩))
  go_ret
  exact ⟨_, rfl, by rw [HY.out]; exact own_less ho (by have := HSZ.out; omega), HB2.out.trans (hb3.mono (by have := HSZ.out; omega))⟩
end Go.Proofs.YtadadidccbhopaaGreat
/- The walk of leveelaw11.PatchOrder: rows of bools; what holds behind the crash. -/
namespace Go.Proofs.YtadadidccbhopaaGreat
open Go.RowKit
set_option maxRecDepth 100000
def bvl (l : List Bool) : List Value := l.map Value.bool
/-- A row of bools. -/
def RowB (w : World) (g : Nat) (l : List Bool) : Prop := w.heap[g]? = some (.cells (bvl l).toArray 4 (0, 0))
theorem RowB.below {w w' : World} {g B : Nat} {l : List Bool} (h : RowB w g l) (hb : Below B w w') (hg : g < B) : RowB w' g l := by unfold RowB; rw [hb.block g hg]; exact h
theorem RowB.lt {w : World} {g : Nat} {l : List Bool} (h : RowB w g l) : g < w.heap.size := (Array.getElem?_eq_some_iff.1 h).1
theorem RowB.cell {w : World} {g : Nat} {l : List Bool} (h : RowB w g l) {j : Nat} {b : Bool} (hj : l[j]? = some b) : w.cell? ⟨g, j, none⟩ = some (.bool b) := by
  rw [cell_of_row w g j _ _ _ h]
  simp [bvl, hj]
theorem RowB.frozen {w : World} {g : Nat} {l : List Bool} (h : RowB w g l) (j : Nat) : w.frozen? ⟨g, j, none⟩ = false := frozen_of_row w g j _ _ h
theorem RowB.set {w : World} {g : Nat} {l : List Bool} (h : RowB w g l) (j : Nat) (b : Bool) : RowB (w.setCell ⟨g, j, none⟩ (.bool b)) g (l.set j b) := by
  have e2 : (bvl (l.set j b)).toArray = (bvl l).toArray.setIfInBounds j (.bool b) := by
    rw [show bvl (l.set j b) = (bvl l).set j (.bool b) by simp [bvl]]; simp
  unfold RowB at h ⊢
  rw [e2]
  exact heap_setCell_same w g j _ 4 _ h
theorem Tryz.infoB : (Tryz.prog.info? 4).map (fun i => (i.zero, i.size, i.bytes)) = some (some (.bool false), 1, 1) := by kernel_rfl
theorem make_bools (w : World) (n : Nat) (hn : n ≤ 1000000) :
    (Instr.makeSlice 63 (.int .i64 (n : Int)) (.int .i64 (n : Int))).run Tryz.prog w = .ok (.slice (some ⟨w.heap.size, 0, none⟩) n n) (w.alloc (.cells (bvl (List.replicate n false)).toArray 4)) := by
  obtain ⟨i0, hi, hz0, hz1, hz2⟩ := info_parts Tryz.infoB
  have h := run_make (P := Tryz.prog) w 63 4 i0 _ Tryz.underlying63 hi hz0 .i64 .i64 (n : Int) (n : Int) (by omega) (by omega) (by rw [hz2]; omega) (by omega)
  rw [h]
  congr 3
  have e : madeCells (Value.bool false).cells ((n : Int).toNat * i0.size) = (bvl (List.replicate n false)).toArray := by
    apply Array.toList_inj.1
    rw [hz1, Int.toNat_natCast, Nat.mul_one]
    rw [show bvl (List.replicate n false) = List.replicate n (Value.bool false) by simp [bvl]]
    exact toList_madeCells_one _ _
  rw [e]
/-- The first i of a row that is told by f, the others not. -/
def upTo (f : Nat → Bool) (i n : Nat) : List Bool := (List.range n).map fun j => decide (j < i) && f j
theorem upTo_zero (f : Nat → Bool) (n : Nat) : upTo f 0 n = List.replicate n false := by
  apply List.ext_getElem
  · simp [upTo]
  · intro i h1 h2; simp [upTo]
theorem upTo_get {f : Nat → Bool} {i n j : Nat} (hj : j < i) (hi : i ≤ n) : (upTo f i n)[j]? = some (f j) := by
  simp [upTo, show j < n by omega, hj]
theorem upTo_set (f : Nat → Bool) (i n : Nat) : (upTo f i n).set i (f i) = upTo f (i + 1) n := by
  apply List.ext_getElem
  · simp [upTo]
  · intro j h1 h2
    rw [List.getElem_set]
    by_cases e : i = j
    · subst e; simp [upTo]
    · rw [if_neg e]
      simp only [upTo, List.getElem_map, List.getElem_range]
      congr 1
      simp; omega
theorem upTo_length (f : Nat → Bool) (i n : Nat) : (upTo f i n).length = n := by simp [upTo]
end Go.Proofs.YtadadidccbhopaaGreat
