/- The document's disk (leveeref02.Disk) in memory, and its readers. -/
import Derived.Test.YthaogbbclocmaaaGreatJProunds2
import Derived.Lib.ConvBytes
import Derived.Deep.RegionLaw
namespace Go.Proofs.YthaogbbclocmaaaGreat
open Go.RowKit
set_option maxRecDepth 100000
theorem alloc_size (w : World) (o : Obj) : (w.alloc o).heap.size = w.heap.size + 1 := by show (w.heap.push _).size = _; simp
theorem cell_one (w : World) (v : Value) (t : TypeId) (f : Nat × Nat) : (w.alloc (.cells #[v] t f)).cell? ⟨w.heap.size, 0, none⟩ = some v := by
  have h : (w.alloc (.cells #[v] t f)).heap[w.heap.size]? = some (.cells #[v] t f) := by show (w.heap.push _)[w.heap.size]? = _; simp
  unfold World.cell?; rw [h]; rfl
/-- Block i of the bytes l. -/
def blkOf (l : List UInt8) (i : Nat) : List UInt8 := (l.drop (i * 256)).take 256
theorem str_bytes (w : World) (l : List UInt8) : ∃ c w', (convert 9 36 (.string (str l))).run Tryz.prog w = .ok (.slice (some ⟨w.heap.size, 0, none⟩) l.length c) w' ∧ Src w' (some ⟨w.heap.size, 0, none⟩) l ∧ Below w.heap.size w w' := by
  have hsz : (str l).size = l.length := by simp [str, ByteArray.size]
  have h := Lib.run_convert_string_bytes (P := Tryz.prog) w 9 36 5 (str l) Tryz.underlying9 Tryz.underlying36 Tryz.underlying5
  rw [hsz] at h
  refine ⟨_, _, h, ?_, ⟨rfl, rfl, rfl, by rw [Lib.bytesWorld_size]; omega, fun k hk => Lib.bytesWorld_at_old w 5 (str l) k hk⟩⟩
  by_cases h0 : l = []
  · exact .inl h0
  · refine .inr ⟨_, _, rfl, by rw [Lib.bytesWorld_size]; omega, fun j hj => ?_⟩
    rw [Nat.zero_add, Lib.bytesWorld_cell w 5 (str l) j (by rw [hsz]; exact hj)]
    simp [str, bv, hj]
/-- The document's disk at block r: of block i the versions ver i, the safe one first. -/
structure RefAt (w : World) (base r n : Nat) (held : Bool) (left : Int) (ver : Nat → List (List UInt8)) (gb cb : Nat) (va vc : Nat → Nat) : Prop where
  nn : n ≤ 4096
  c0 : w.cell? ⟨r, 0, none⟩ = some (.slice (some ⟨gb, 0, none⟩) n cb)
  c1 : w.cell? ⟨r, 1, none⟩ = some (.bool held)
  c2 : w.cell? ⟨r, 2, none⟩ = some (.int .i64 left)
  rb : base ≤ r
  gl : gb < w.heap.size
  cl : n ≤ cb ∧ (cb : Int) ≤ 9223372036854775807
  row : ∀ i, i < n → w.cell? ⟨gb, i, none⟩ = some (.slice (some ⟨va i, 0, none⟩) (ver i).length (vc i)) ∧ va i < w.heap.size ∧ 1 ≤ (ver i).length ∧ (ver i).length ≤ 1000000 ∧ (ver i).length ≤ vc i ∧ (vc i : Int) ≤ 9223372036854775807
  vers : ∀ i, i < n → ∀ j, (h : j < (ver i).length) → w.cell? ⟨va i, j, none⟩ = some (.string (str (ver i)[j]))
section
variable {w : World} {base r n : Nat} {held : Bool} {left : Int} {ver : Nat → List (List UInt8)} {gb cb : Nat} {va vc : Nat → Nat}
theorem RefAt.below (h : RefAt w base r n held left ver gb cb va vc) {w' : World} {B : Nat} (hb : Below B w w') (hB : w.heap.size ≤ B) : RefAt w' base r n held left ver gb cb va vc := by
  have hr : r < w.heap.size := block_lt_of_cell h.c0
  have hg := h.gl
  have hs := hb.size
  exact {
    nn := h.nn, rb := h.rb, gl := by omega, cl := h.cl,
    c0 := (hb.cell (p := ⟨r, 0, none⟩) (show r < B by omega)).trans h.c0,
    c1 := (hb.cell (p := ⟨r, 1, none⟩) (show r < B by omega)).trans h.c1,
    c2 := (hb.cell (p := ⟨r, 2, none⟩) (show r < B by omega)).trans h.c2,
    row := fun i hi => ⟨(hb.cell (p := ⟨gb, i, none⟩) (show gb < B by omega)).trans (h.row i hi).1, by have := (h.row i hi).2.1; omega, (h.row i hi).2.2⟩,
    vers := fun i hi j hj => (hb.cell (p := ⟨va i, j, none⟩) (show va i < B by have := (h.row i hi).2.1; omega)).trans (h.vers i hi j hj) }
set_option maxHeartbeats 1000000 in
theorem there_in (h : RefAt w base r n held left ver gb cb va vc) (i : Nat) (hi : i < n) :
    Calls Tryz.prog 81 #[.pointer (some ⟨r, 0, none⟩), .int .i64 (i : Int)] w fun e w' => e = .returned (.bool true) ∧ w' = w := by
  have c0 := h.c0
  have hi' : (i : Int) < n := by omega
  have hi0 : (0 : Int) ≤ i := by omega
  clear h
  go_enter Tryz.func81, Tryz.ntmps81
  go_wp2
  go_ret
  exact ⟨rfl, rfl⟩
set_option maxHeartbeats 1000000 in
theorem rstopped_any (h : RefAt w base r n held left ver gb cb va vc) :
    Calls Tryz.prog 161 #[.pointer (some ⟨r, 0, none⟩)] w fun e w' => e = .returned (.bool (held && (left == 0))) ∧ w' = w := by
  have c1 := h.c1
  have c2 := h.c2
  clear h
  cases held with
  | false =>
    go_enter Tryz.func161, Tryz.ntmps161
    go_wp2
    go_ret
    exact ⟨rfl, rfl⟩
  | true =>
    go_enter Tryz.func161, Tryz.ntmps161
    go_wp2
    go_ret
    exact ⟨rfl, rfl⟩
set_option maxHeartbeats 1000000 in
theorem rread_in (h : RefAt w base r n held left ver gb cb va vc) (i : Nat) (hi : i < n) (m : Nat) (y : List UInt8) (hm : (ver i).length = m + 1) (hy : (ver i)[m]? = some y) :
    Calls Tryz.prog 63 #[.pointer (some ⟨r, 0, none⟩), .int .i64 (i : Int)] w fun e w' => ∃ g c, e = .returned (.tuple #[.slice (some ⟨g, 0, none⟩) y.length c, .int .i64 0]) ∧ Src w' (some ⟨g, 0, none⟩) y ∧ Below w.heap.size w w' := by
  have TH := there_in h i hi
  have c0 := h.c0
  have hi' : (i : Int) < n := by omega
  have hn := h.nn
  have hn' : (n : Int) ≤ 4096 := by omega
  obtain ⟨cr, _, hv1, hv2, _, _⟩ := h.row i hi
  have cv := h.vers i hi m (by omega)
  rw [show (ver i)[m] = y from by rw [List.getElem?_eq_getElem (by omega)] at hy; exact Option.some.inj hy] at cv
  rw [hm] at cr hv2
  have hm2 : (m : Int) + 1 ≤ 1000000 := by omega
  obtain ⟨c, w2, hcv, hsv, hbv⟩ := str_bytes w y
  clear h hm hy hv1
  go_enter Tryz.func63, Tryz.ntmps63
  go_wp2_with fail
  refine TH.mono ?_
  rintro e w1 ⟨rfl, rfl⟩
  clear TH
  go_wp2
  go_ret2
  exact ⟨_, _, rfl, hsv, hbv⟩
end
end Go.Proofs.YthaogbbclocmaaaGreat
/- The document's New of a disk. -/
namespace Go.Proofs.YthaogbbclocmaaaGreat
open Go.RowKit
set_option maxRecDepth 100000
theorem Tryz.info117 : (Tryz.prog.info? 117).map (fun i => (i.zero, i.size, i.bytes)) = some (some (.agg #[.slice none 0 0]), 1, 24) := by kernel_rfl
def rowL (va : Nat → Nat) (k : Nat) : List Value := (List.range k).map fun i => Value.slice (some ⟨va i, 0, none⟩) 1 1
/-- The document's disk behind k rounds of Load. -/
structure LoadL (w : World) (base r k : Nat) (l : List UInt8) (v : Value) (va : Nat → Nat) : Prop where
  c0 : w.cell? ⟨r, 0, none⟩ = some v
  c1 : w.cell? ⟨r, 1, none⟩ = some (.bool false)
  c2 : w.cell? ⟨r, 2, none⟩ = some (.int .i64 0)
  f0 : w.frozen? ⟨r, 0, none⟩ = false
  own : w.ownsRow base 117 1 v k (rowL va k)
  rb : base ≤ r
  ob : v.ownBlock ≠ some r
  at' : ∀ i, i < k → w.cell? ⟨va i, 0, none⟩ = some (.string (str (blkOf l i))) ∧ va i ≠ r ∧ v.ownBlock ≠ some (va i) ∧ va i < w.heap.size ∧ base ≤ va i
theorem run_app60 {P : Program} {o : Oper} {a : Act} {w w' : World} {s x : Operand} {sv xv v : Value} (hop : o.op = .call { callee := .builtin .append, args := #[s, x], argTypes := #[112, 112] }) (hty : o.type = 112) (hs : a.eval s = sv) (hx : a.eval x = xv) (hL : (Builtin.append_ #[112, 112] 112 #[sv, xv]).run P w = .ok v w') : (execOp a.eval o).run P w = .ok (.value v) w' := by
  unfold execOp
  simp only [hop, hty, resolve, invoke, builtin, Sem.run_bind, Sem.run_pure, Result.andThen_ok, List.map_toArray, List.map_cons, List.map_nil, hs, hx, hL]
theorem LoadL.drew {w : World} {base r k : Nat} {l : List UInt8} {v : Value} {va : Nat → Nat} (h : LoadL w base r k l v va) : LoadL w.drew base r k l v va := ⟨h.c0, h.c1, h.c2, h.f0, h.own, h.rb, h.ob, h.at'⟩
/-- The document's disk, its blocks apart and none frozen. -/
structure RefW (w : World) (base r n : Nat) (held : Bool) (left : Int) (ver : Nat → List (List UInt8)) (gb cb : Nat) (va vc : Nat → Nat) : Prop where
  at' : RefAt w base r n held left ver gb cb va vc
  fr : ∀ o, w.frozen? ⟨r, o, none⟩ = false
  fg : ∀ o, w.frozen? ⟨gb, o, none⟩ = false
  rg : r ≠ gb
  ar : ∀ i, i < n → va i ≠ r ∧ va i ≠ gb
section
variable {w : World} {base r n : Nat} {held : Bool} {left : Int} {ver : Nat → List (List UInt8)} {gb cb : Nat} {va vc : Nat → Nat}
theorem RefW.rl (h : RefW w base r n held left ver gb cb va vc) : r < w.heap.size := block_lt_of_cell h.at'.c0
end
/-- none: a block of 0 as a string. -/
theorem rnone_any (w : World) : Calls Tryz.prog 60 #[] w fun e w' => e = .returned (.string (str zer)) ∧ Below w.heap.size w w' := by
  have mk : (Instr.makeSlice 36 (.int .i64 256) (.int .i64 256)).run Tryz.prog w = .ok (.slice (some ⟨w.heap.size, 0, none⟩) 256 256) (w.alloc (.cells (bvs zer).toArray 5)) := make_any w 256 256 (by omega) (by omega)
  have hb : Blk (w.alloc (.cells (bvs zer).toArray 5)) w.heap.size 5 zer := heap_alloc_new _ _
  have cv := conv_str hb.src 256 256 zer_length.symm
  have HB : Hid (Below w.heap.size w (w.alloc (.cells (bvs zer).toArray 5))) := (Below.refl _ _).alloc (Nat.le_refl _) _
  clear hb
  go_enter Tryz.func60, Tryz.ntmps60
  go_wp2
  go_ret
  exact ⟨rfl, HB.out⟩
theorem LoadL.low {w w' : World} {base r k : Nat} {l : List UInt8} {v : Value} {va : Nat → Nat} (h : LoadL w base r k l v va) (hb : Below w.heap.size w w') : LoadL w' base r k l v va := by
  have hr : r < w.heap.size := block_lt_of_cell h.c0
  have hs := hb.size
  have ha : ∀ i, i < k → w'.cell? ⟨va i, 0, none⟩ = some (.string (str (blkOf l i))) ∧ va i ≠ r ∧ v.ownBlock ≠ some (va i) ∧ va i < w'.heap.size ∧ base ≤ va i := fun i hi => by
    obtain ⟨a1, a2, a3, a4, a5⟩ := h.at' i hi
    exact ⟨(hb.cell (p := ⟨va i, 0, none⟩) a4).trans a1, a2, a3, by omega, a5⟩
  exact ⟨(hb.cell (p := ⟨r, 0, none⟩) hr).trans h.c0, (hb.cell (p := ⟨r, 1, none⟩) hr).trans h.c1, (hb.cell (p := ⟨r, 2, none⟩) hr).trans h.c2, (hb.frozen (p := ⟨r, 0, none⟩) hr).trans h.f0, owns_below h.own hb (Nat.le_refl _), h.rb, h.ob, ha⟩
theorem LoadL.stepF {w : World} {base r k : Nat} {l : List UInt8} {v : Value} {va : Nat → Nat} (h : LoadL w base r k l v va) (hk : k ≤ 4096) (hbase : base ≤ w.heap.size) :
    ∃ ao ac g cp w4, v = .slice ao k ac ∧
      (Builtin.append_ #[112, 112] 112 #[.slice ao k ac, .slice (some ⟨w.heap.size + 1, 0, none⟩) 1 1]).run Tryz.prog ((w.alloc (.cells #[.string (str (blkOf l k))] 9)).alloc (.cells #[.slice (some ⟨w.heap.size, 0, none⟩) 1 1] 117)) = .ok (.slice (some ⟨g, 0, none⟩) (k + 1) cp) w4 ∧
      w4.cell? ⟨r, 0, none⟩ = some (.slice ao k ac) ∧ w4.frozen? ⟨r, 0, none⟩ = false ∧
      LoadL (w4.setCell ⟨r, 0, none⟩ (.slice (some ⟨g, 0, none⟩) (k + 1) cp)) base r (k + 1) l (.slice (some ⟨g, 0, none⟩) (k + 1) cp) (upd va k w.heap.size) ∧ Below base w (w4.setCell ⟨r, 0, none⟩ (.slice (some ⟨g, 0, none⟩) (k + 1) cp)) ∧
      (∀ o, w.frozen? ⟨r, o, none⟩ = false → (w4.setCell ⟨r, 0, none⟩ (.slice (some ⟨g, 0, none⟩) (k + 1) cp)).frozen? ⟨r, o, none⟩ = false) := by
  obtain ⟨i0, hi, hz0, hz1, hz2⟩ := info_parts Tryz.info117
  obtain ⟨ao, ac, hv⟩ : ∃ ao ac, v = .slice ao k ac := by
    obtain ⟨_, h2⟩ := h.own
    rcases h2 with ⟨h2, h3⟩ | ⟨g, cap, _, hv, _⟩
    · exact ⟨none, 0, by rw [h2, h3]⟩
    · exact ⟨_, cap, hv⟩
  have hrl : r < w.heap.size := block_lt_of_cell h.c0
  have s1 := alloc_size w (.cells #[.string (str (blkOf l k))] 9)
  have s2 := alloc_size (w.alloc (.cells #[.string (str (blkOf l k))] 9)) (.cells #[.slice (some ⟨w.heap.size, 0, none⟩) 1 1] 117)
  have hb2 : Below w.heap.size w ((w.alloc (.cells #[.string (str (blkOf l k))] 9)).alloc (.cells #[.slice (some ⟨w.heap.size, 0, none⟩) 1 1] 117)) := ((Below.refl _ _).alloc (Nat.le_refl _) _).alloc (by omega) _
  have hcs : ((w.alloc (.cells #[.string (str (blkOf l k))] 9)).alloc (.cells #[.slice (some ⟨w.heap.size, 0, none⟩) 1 1] 117)).cell? ⟨w.heap.size + 1, 0, none⟩ = some (.slice (some ⟨w.heap.size, 0, none⟩) 1 1) := by
    have := cell_one (w.alloc (.cells #[.string (str (blkOf l k))] 9)) (.slice (some ⟨w.heap.size, 0, none⟩) 1 1) 117 (0, 0)
    rw [s1] at this; exact this
  have hst : ((w.alloc (.cells #[.string (str (blkOf l k))] 9)).alloc (.cells #[.slice (some ⟨w.heap.size, 0, none⟩) 1 1] 117)).cell? ⟨w.heap.size, 0, none⟩ = some (.string (str (blkOf l k))) := by
    rw [World.cell?_alloc_lt _ _ _ (show w.heap.size < _ by rw [s1]; omega)]
    exact cell_one w _ 9 (0, 0)
  obtain ⟨W2, HW2⟩ : ∃ W2, W2 = ((w.alloc (.cells #[.string (str (blkOf l k))] 9)).alloc (.cells #[.slice (some ⟨w.heap.size, 0, none⟩) 1 1] 117)) := ⟨_, rfl⟩
  rw [← HW2] at hb2 hcs hst s2 ⊢
  obtain ⟨g, cp, w4, hrun, hown, hgrow, hat, hlt⟩ := run_append_lies (P := Tryz.prog) W2 112 112 base 117 i0 (.agg #[.slice none 0 0]) 1 24 Tryz.underlying112 hi hz0 hz1 hz2 rfl (by omega) v k _ (owns_below h.own hb2 (Nat.le_refl _)) ⟨w.heap.size + 1, 0, none⟩ 1 1 [.slice (some ⟨w.heap.size, 0, none⟩) 1 1] rfl (fun j u hj => by
    have hj0 : j = 0 := by have := (List.getElem?_eq_some_iff.1 hj).1; simp at this; omega
    subst hj0
    have hu : u = .slice (some ⟨w.heap.size, 0, none⟩) 1 1 := by simpa using hj.symm
    rw [addr_add, hu]; exact hcs) (by intro u hu; simp at hu; subst hu; rfl) (by omega) (by unfold maxLen; omega) (by omega) (by omega) (w.heap.size + 2) (by omega)
  have hblk : ∀ j, j < w.heap.size + 2 → some j ≠ v.ownBlock → w4.heap[j]? = W2.heap[j]? := fun j hj hne => hgrow.block j (by omega) hne
  have hrb : w4.heap[r]? = w.heap[r]? := (hblk r (by omega) (fun e => h.ob e.symm)).trans (hb2.block r hrl)
  have hs4 := hgrow.size
  have hgr : g ≠ r := by
    rcases hat with e | e
    · intro e2; exact h.ob (by rw [e, e2])
    · omega
  have hb4 : Below base w w4 := (hb2.mono hbase).grown hgrow (by omega) (fun j hj => (World.ownsRow.lt h.own j hj).1)
  rw [hv] at hrun
  refine ⟨ao, ac, g, cp, w4, hv, hrun, by rw [← hv]; exact (World.cell?_of_block (a := ⟨r, 0, none⟩) hrb).trans h.c0, (World.frozen?_of_block (a := ⟨r, 0, none⟩) hrb).trans h.f0, ?_, hb4.setCell h.rb _, fun o ho => by rw [World.frozen?_setCell]; exact (World.frozen?_of_block (a := ⟨r, o, none⟩) hrb).trans ho⟩
  have hc0 : w4.cell? ⟨r, 0, none⟩ = some v := (World.cell?_of_block (a := ⟨r, 0, none⟩) hrb).trans h.c0
  have hoth : ∀ j, j ≠ r → (w4.setCell ⟨r, 0, none⟩ (.slice (some ⟨g, 0, none⟩) (k + 1) cp)).heap[j]? = w4.heap[j]? := fun j hj => heap_setCell_other w4 ⟨r, 0, none⟩ j _ hj
  exact {
    c0 := World.cell?_setCell_same _ _ _ hc0
    c1 := (World.cell?_setCell_other _ _ _ _ (by simp)).trans ((World.cell?_of_block (a := ⟨r, 1, none⟩) hrb).trans h.c1)
    c2 := (World.cell?_setCell_other _ _ _ _ (by simp)).trans ((World.cell?_of_block (a := ⟨r, 2, none⟩) hrb).trans h.c2)
    f0 := by rw [World.frozen?_setCell]; exact (World.frozen?_of_block (a := ⟨r, 0, none⟩) hrb).trans h.f0
    own := by
      have e : rowL (upd va k w.heap.size) (k + 1) = rowL va k ++ [.slice (some ⟨w.heap.size, 0, none⟩) 1 1] := by
        unfold rowL
        rw [List.range_succ, List.map_append]
        congr 1
        · exact List.map_congr_left fun i hi => by rw [upd_other _ _ _ (by have := List.mem_range.1 hi; omega)]
        · simp [upd_same]
      rw [e]
      exact World.ownsRow.kept hown ⟨rfl, rfl, rfl, by simp [World.setCell], fun j _ hj => hoth j (fun e => hj (by rw [e]))⟩ (.inr (by intro e; exact hgr (by simpa [Value.ownBlock] using e)))
    rb := h.rb
    ob := by intro e; exact hgr (by simpa [Value.ownBlock] using e)
    at' := fun i hik => by
      have hsz : (w4.setCell ⟨r, 0, none⟩ (.slice (some ⟨g, 0, none⟩) (k + 1) cp)).heap.size = w4.heap.size := by simp [World.setCell]
      by_cases hi2 : i = k
      · subst hi2
        rw [upd_same]
        have hne : some w.heap.size ≠ v.ownBlock := fun e => by have := (World.ownsRow.lt h.own _ e.symm).2; omega
        refine ⟨?_, by omega, ?_, by omega, hbase⟩
        · rw [World.cell?_of_block (a := ⟨w.heap.size, 0, none⟩) (hoth w.heap.size (by omega)), World.cell?_of_block (a := ⟨w.heap.size, 0, none⟩) (hblk w.heap.size (by omega) hne)]
          exact hst
        · intro e
          have e2 : g = w.heap.size := by simpa [Value.ownBlock] using e
          rcases hat with e3 | e3
          · exact hne (by rw [e3, e2])
          · omega
      · rw [upd_other _ _ _ hi2]
        obtain ⟨a1, a2, a3, a4, a5⟩ := h.at' i (by omega)
        refine ⟨?_, a2, ?_, by omega, a5⟩
        · rw [World.cell?_of_block (a := ⟨va i, 0, none⟩) (hoth _ a2), World.cell?_of_block (a := ⟨va i, 0, none⟩) (hblk (va i) (by omega) (fun e => a3 e.symm)), World.cell?_of_block (a := ⟨va i, 0, none⟩) (hb2.block (va i) a4)]
          exact a1
        · intro e
          have e2 : g = va i := by simpa [Value.ownBlock] using e
          rcases hat with e3 | e3
          · exact a3 (by rw [e3, e2])
          · omega }
theorem LoadL.refW {w : World} {base r n : Nat} {l : List UInt8} {v : Value} {va : Nat → Nat} (h : LoadL w base r n l v va) (hf : ∀ o, w.frozen? ⟨r, o, none⟩ = false) (h1 : 1 ≤ n) (hn : n ≤ 4096) : ∃ gb cb, RefW w base r n false 0 (fun i => blkOf l i :: []) gb cb va (fun _ => 1) ∧ base ≤ gb ∧ ∀ i, i < n → base ≤ va i := by
  have ho := h.own
  obtain ⟨o1, o2⟩ := h.own
  rcases o2 with ⟨_, o3⟩ | ⟨g, cap, cur, hv, hg, hh, hn2, hm, hs, hx⟩
  · omega
  · subst hv
    have RA : RefAt w base r n false 0 (fun i => blkOf l i :: []) g cap va (fun _ => 1) := by
      refine { nn := by omega, c0 := h.c0, c1 := h.c1, c2 := h.c2, rb := h.rb, gl := (Array.getElem?_eq_some_iff.1 hh).1, cl := ⟨hn2, by unfold maxLen at hm; omega⟩, row := fun i hi => ⟨?_, (h.at' i hi).2.2.2.1, by simp, by simp, by simp, by omega⟩, vers := fun i hi j hj => ?_ }
      · rw [World.ownsRow.cellAt ho i (by omega)]
        simp [rowL, hi]
      · have hj0 : j = 0 := by simp at hj; omega
        subst hj0
        exact (h.at' i hi).1
    refine ⟨g, cap, ⟨RA, hf, fun o => World.ownsRow.frozenAt ho o, fun e => h.ob (by rw [e]; rfl), fun i hi => ⟨(h.at' i hi).2.1, fun e => (h.at' i hi).2.2.1 (by rw [e]; rfl)⟩⟩, hg, fun i hi => (h.at' i hi).2.2.2.2⟩
theorem blk_zer (n k : Nat) (hk : k < n) : blkOf (List.replicate (n * 256) 0) k = zer := by
  unfold blkOf zer
  rw [List.drop_replicate, List.take_replicate]
  congr 1
  omega
set_option maxRecDepth 100000 in
set_option maxHeartbeats 8000000 in
theorem rnew_go (n : Nat) (h1 : 1 ≤ n) (hn : n ≤ 40) (w : World) :
    Calls Tryz.prog 10 #[.int .i64 (n : Int)] w fun e w' => e = .returned (.tuple #[.pointer (some ⟨w.heap.size, 0, none⟩), .int .i64 0]) ∧ (∃ v va, LoadL w' w.heap.size w.heap.size n (List.replicate (n * 256) 0) v va) ∧ (∀ o, w'.frozen? ⟨w.heap.size, o, none⟩ = false) ∧ Below w.heap.size w w' := by
  have hn1 : ¬ (n : Int) < 1 := by omega
  have hn2 : ¬ (4096 : Int) < n := by omega
  have hzb : ∀ k, k < n → blkOf (List.replicate (n * 256) 0) k = zer := blk_zer n
  have h0 : Hid (LoadL (w.alloc (.cells #[.slice none 0 0, .bool false, .int .i64 0] 114)) w.heap.size w.heap.size 0 (List.replicate (n * 256) 0) (.slice none 0 0) (fun _ => 0)) := by
    have e : (w.alloc (.cells #[.slice none 0 0, .bool false, .int .i64 0] 114)).heap[w.heap.size]? = some (.cells #[.slice none 0 0, .bool false, .int .i64 0] 114 (0, 0)) := heap_alloc_new _ _
    exact { c0 := by rw [cell_of_row _ _ 0 _ _ _ e]; rfl, c1 := by rw [cell_of_row _ _ 1 _ _ _ e]; rfl, c2 := by rw [cell_of_row _ _ 2 _ _ _ e]; rfl, f0 := frozen_of_row _ _ 0 _ _ e, own := World.ownsRow_nil _ _ _ _, rb := Nat.le_refl _, ob := by simp [Value.ownBlock], at' := fun i hi => by omega }
  have hf0 : Hid (∀ o, (w.alloc (.cells #[.slice none 0 0, .bool false, .int .i64 0] 114)).frozen? ⟨w.heap.size, o, none⟩ = false) := fun o => frozen_of_row _ _ o _ _ (heap_alloc_new w _)
  have hb0 : Hid (Below w.heap.size w (w.alloc (.cells #[.slice none 0 0, .bool false, .int .i64 0] 114))) := (Below.refl _ _).alloc (Nat.le_refl _) _
  go_enter Tryz.func10, Tryz.ntmps10
  go_wp2_with fail
  go_loopw [5] (fun s wr => ∃ (k : Nat) (v : Value) (va : Nat → Nat), k ≤ n ∧ s = .int .i64 k ∧ Hid (LoadL wr w.heap.size w.heap.size k (List.replicate (n * 256) 0) v va) ∧ Hid (∀ o, wr.frozen? ⟨w.heap.size, o, none⟩ = false) ∧ Hid (Below w.heap.size w wr)) (fun s _ => n - (intOf s).toNat)
  case atStart => exact ⟨0, _, _, by omega, rfl, h0, hf0, hb0⟩
  case round =>
    obtain ⟨k, v, va, hk, rfl, HL, HFZ, HB⟩ := hrel
    clear h0 hb0 hf0
    by_cases hlt : (k : Int) < n
    · obtain ⟨ao, ac, rfl⟩ : ∃ ao ac, v = .slice ao k ac := by
        obtain ⟨_, h2⟩ := HL.out.own
        rcases h2 with ⟨h2, h3⟩ | ⟨g, cap, _, hv, _⟩
        · exact ⟨none, 0, by rw [h2, h3]⟩
        · exact ⟨_, cap, hv⟩
      have L1 := HL.out.drew
      have HBd : Hid (Below w.heap.size w wr.drew) := HB.out.drew
      have hlw : w.heap.size < wr.drew.heap.size := block_lt_of_cell L1.c0
      have HFd : Hid (∀ o, wr.drew.frozen? ⟨w.heap.size, o, none⟩ = false) := HFZ.out
      clear HL HB HFZ
      go_wp2_with fail
      refine wp_region_held_drew (S := (fun _ => True)) (by kernel_rfl) trivial (fun hH => ?_)
      generalize wr.drew = wd at *
      refine takeH (i := 0) (dst := some 19) (v := ?vn1) rfl rfl (by kernel_rfl) (by kernel_rfl) (by kernel_rfl) (fun _ _ _ h => h) rfl ?hyn1 hH rfl ?restn1
      case hyn1 => (intro W hW; clear hW; go_simp; try with_reducible rfl)
      (try simp only [Act.put, List.setIfInBounds_toArray, List.set_cons_zero, List.set_cons_succ])
      refine takeH (i := 1) (dst := some 20) (v := ?vn2) rfl rfl (by kernel_rfl) (by kernel_rfl) (by kernel_rfl) (fun _ _ _ h => h) rfl ?hyn2 hH rfl ?restn2
      case hyn2 => (intro W hW; clear hW; go_simp; try with_reducible rfl)
      (try simp only [Act.put, List.setIfInBounds_toArray, List.set_cons_zero, List.set_cons_succ])
      refine takeH (i := 2) (dst := some 21) (v := ?vn3) rfl rfl (by kernel_rfl) (by kernel_rfl) (by kernel_rfl) (fun _ _ _ h => h) rfl ?hyn3 hH rfl ?restn3
      case hyn3 => (intro W hW; clear hW; go_simp; try with_reducible rfl)
      (try simp only [Act.put, List.setIfInBounds_toArray, List.set_cons_zero, List.set_cons_succ])
      refine takeH (i := 3) (dst := some 22) (v := ?vn4) rfl rfl (by kernel_rfl) (by kernel_rfl) (by kernel_rfl) (fun _ _ _ h => h) rfl ?hyn4 hH rfl ?restn4
      case hyn4 => (intro W hW; clear hW; go_simp; try with_reducible rfl)
      (try simp only [Act.put, List.setIfInBounds_toArray, List.set_cons_zero, List.set_cons_succ])
      refine callH2 (i := 4) (j := 5) { dst := some 23, op := Go.Op.load 112 (Go.Operand.tmp 22), type := 112, pos := "ref.go:49", after := #[{ on := 3, ground := Go.Ground.data }], guard := none } { dst := some 24, op := Go.Op.call { callee := Go.Callee.value (Go.Operand.func 60), args := #[], argTypes := #[] }, type := 9, pos := "ref.go:49", after := #[], guard := none } (by kernel_rfl) rfl rfl rfl rfl (fun K hK => ?_) (fun K hK => ?_)
      · have cl := L1.c0
        go_simp
        clear hH cl
        refine hK.out _ _ trivial (fun hH => ?_)
        clear hK K
        (try simp only [Act.put, List.setIfInBounds_toArray, List.set_cons_zero, List.set_cons_succ])
        refine callH (i := 5) { dst := some 24, op := Go.Op.call { callee := Go.Callee.value (Go.Operand.func 60), args := #[], argTypes := #[] }, type := 9, pos := "ref.go:49", after := #[], guard := none } (by kernel_rfl) rfl rfl (fun K hK => ?_)
        go_simp
        refine (rnone_any _).mono ?_
        rintro e w5 ⟨rfl, b5⟩
        have L5 := L1.low b5
        have hz5 := b5.size
        clear hH
        refine hK.out _ _ trivial (fun hH => ?_)
        clear hK K
        (try simp only [Act.put, List.setIfInBounds_toArray, List.set_cons_zero, List.set_cons_succ])
        refine callH (i := 6) { dst := some 25, op := Go.Op.buildSlice 40 1 #[(0, Go.Operand.tmp 24)], type := 40, pos := "ref.go:49", after := #[{ on := 5, ground := Go.Ground.data }], guard := none } (by kernel_rfl) rfl rfl (fun K hK => ?_)
        go_simp
        clear hH
        refine hK.out _ _ trivial (fun hH => ?_)
        clear hK K
        (try simp only [Act.put, List.setIfInBounds_toArray, List.set_cons_zero, List.set_cons_succ])
        refine takeH (i := 7) (dst := some 26) (v := ?vn5) rfl rfl (by kernel_rfl) (by kernel_rfl) (by kernel_rfl) (fun _ _ _ h => h) rfl ?hyn5 hH rfl ?restn5
        case hyn5 => (intro W hW; clear hW; go_simp; try with_reducible rfl)
        (try simp only [Act.put, List.setIfInBounds_toArray, List.set_cons_zero, List.set_cons_succ])
        refine callH (i := 8) { dst := some 27, op := Go.Op.buildSlice 112 1 #[(0, Go.Operand.tmp 26)], type := 112, pos := "ref.go:49", after := #[{ on := 7, ground := Go.Ground.data }], guard := none } (by kernel_rfl) rfl rfl (fun K hK => ?_)
        go_simp
        clear hH
        refine hK.out _ _ trivial (fun hH => ?_)
        clear hK K
        (try simp only [Act.put, List.setIfInBounds_toArray, List.set_cons_zero, List.set_cons_succ])
        obtain ⟨ao', ac', g, cp, w4, ev, hrun, cA, fA, LN, BN, FN⟩ := L5.stepF (by omega) (by omega)
        obtain ⟨rfl, rfl⟩ : ao = ao' ∧ ac = ac' := by simpa using ev
        rw [hzb k (by omega)] at hrun
        refine readyH (i := 9) (v := .slice (some ⟨g, 0, none⟩) (k + 1) cp) (w' := w4) (by kernel_rfl) rfl rfl rfl (run_app60 rfl rfl rfl rfl hrun) rfl trivial ?_
        (try simp only [Act.put, List.setIfInBounds_toArray])
        refine takeH (i := 10) (dst := some 29) (v := ?vn6) rfl rfl (by kernel_rfl) (by kernel_rfl) (by kernel_rfl) (fun _ _ _ h => h) rfl ?hyn6 hH rfl ?restn6
        case hyn6 => (intro W hW; clear hW; go_simp; try with_reducible rfl)
        (try simp only [Act.put])
        refine takeH (i := 11) (dst := some 30) (v := ?vn7) rfl rfl (by kernel_rfl) (by kernel_rfl) (by kernel_rfl) (fun _ _ _ h => h) rfl ?hyn7 hH rfl ?restn7
        case hyn7 => (intro W hW; clear hW; go_simp; try with_reducible rfl)
        (try simp only [Act.put])
        refine callH (i := 12) { dst := none, op := Go.Op.store 112 (Go.Operand.tmp 30) (Go.Operand.tmp 28), type := 0, pos := "ref.go:49", after := #[{ on := 11, ground := Go.Ground.data }, { on := 9, ground := Go.Ground.data }, { on := 9, ground := Go.Ground.chain }, { on := 0, ground := Go.Ground.phase }, { on := 1, ground := Go.Ground.phase }, { on := 2, ground := Go.Ground.phase }, { on := 3, ground := Go.Ground.phase }, { on := 4, ground := Go.Ground.phase }, { on := 5, ground := Go.Ground.phase }, { on := 6, ground := Go.Ground.phase }, { on := 7, ground := Go.Ground.phase }, { on := 8, ground := Go.Ground.phase }, { on := 9, ground := Go.Ground.phase }], guard := none } (by kernel_rfl) rfl rfl (fun K hK => ?_)
        go_simp
        clear hH
        refine hK.out _ _ trivial (fun hH => ?_)
        clear hK K
        (try simp only [Act.put, List.setIfInBounds_toArray, List.set_cons_zero, List.set_cons_succ])
        refine wpAnyH_done (by kernel_rfl) ?_ _
        have HL2 : Hid _ := LN
        have HB2 : Hid (Below w.heap.size w (w4.setCell ⟨w.heap.size, 0, none⟩ (.slice (some ⟨g, 0, none⟩) (k + 1) cp))) := (HBd.out.trans (b5.mono (by omega))).trans BN
        have HF2 : Hid (∀ o, (w4.setCell ⟨w.heap.size, 0, none⟩ (.slice (some ⟨g, 0, none⟩) (k + 1) cp)).frozen? ⟨w.heap.size, o, none⟩ = false) := fun o => FN o ((b5.frozen (p := ⟨w.heap.size, o, none⟩) (show w.heap.size < wd.heap.size by omega)).trans (HFd.out o))
        clear FN
        clear hH cA fA LN BN hrun L5 b5 L1 ev
        go_wp2_with fail
        go_round
        case rel => exact ⟨k + 1, _, _, by omega, by go_num, HL2, HF2, HB2⟩
        case measure => simp [intOf]; omega
      · go_simp
        refine (rnone_any _).mono ?_
        rintro e w5 ⟨rfl, b5⟩
        have L5 := L1.low b5
        have hz5 := b5.size
        clear hH
        refine hK.out _ _ trivial (fun hH => ?_)
        clear hK K
        (try simp only [Act.put, List.setIfInBounds_toArray, List.set_cons_zero, List.set_cons_succ])
        refine callH2 (i := 4) (j := 6) { dst := some 23, op := Go.Op.load 112 (Go.Operand.tmp 22), type := 112, pos := "ref.go:49", after := #[{ on := 3, ground := Go.Ground.data }], guard := none } { dst := some 25, op := Go.Op.buildSlice 40 1 #[(0, Go.Operand.tmp 24)], type := 40, pos := "ref.go:49", after := #[{ on := 5, ground := Go.Ground.data }], guard := none } (by kernel_rfl) rfl rfl rfl rfl (fun K hK => ?_) (fun K hK => ?_)
        · have cl := L5.c0
          go_simp
          clear hH cl
          refine hK.out _ _ trivial (fun hH => ?_)
          clear hK K
          (try simp only [Act.put, List.setIfInBounds_toArray, List.set_cons_zero, List.set_cons_succ])
          refine callH (i := 6) { dst := some 25, op := Go.Op.buildSlice 40 1 #[(0, Go.Operand.tmp 24)], type := 40, pos := "ref.go:49", after := #[{ on := 5, ground := Go.Ground.data }], guard := none } (by kernel_rfl) rfl rfl (fun K hK => ?_)
          go_simp
          clear hH
          refine hK.out _ _ trivial (fun hH => ?_)
          clear hK K
          (try simp only [Act.put, List.setIfInBounds_toArray, List.set_cons_zero, List.set_cons_succ])
          refine takeH (i := 7) (dst := some 26) (v := ?vn8) rfl rfl (by kernel_rfl) (by kernel_rfl) (by kernel_rfl) (fun _ _ _ h => h) rfl ?hyn8 hH rfl ?restn8
          case hyn8 => (intro W hW; clear hW; go_simp; try with_reducible rfl)
          (try simp only [Act.put, List.setIfInBounds_toArray, List.set_cons_zero, List.set_cons_succ])
          refine callH (i := 8) { dst := some 27, op := Go.Op.buildSlice 112 1 #[(0, Go.Operand.tmp 26)], type := 112, pos := "ref.go:49", after := #[{ on := 7, ground := Go.Ground.data }], guard := none } (by kernel_rfl) rfl rfl (fun K hK => ?_)
          go_simp
          clear hH
          refine hK.out _ _ trivial (fun hH => ?_)
          clear hK K
          (try simp only [Act.put, List.setIfInBounds_toArray, List.set_cons_zero, List.set_cons_succ])
          obtain ⟨ao', ac', g, cp, w4, ev, hrun, cA, fA, LN, BN, FN⟩ := L5.stepF (by omega) (by omega)
          obtain ⟨rfl, rfl⟩ : ao = ao' ∧ ac = ac' := by simpa using ev
          rw [hzb k (by omega)] at hrun
          refine readyH (i := 9) (v := .slice (some ⟨g, 0, none⟩) (k + 1) cp) (w' := w4) (by kernel_rfl) rfl rfl rfl (run_app60 rfl rfl rfl rfl hrun) rfl trivial ?_
          (try simp only [Act.put, List.setIfInBounds_toArray])
          refine takeH (i := 10) (dst := some 29) (v := ?vn9) rfl rfl (by kernel_rfl) (by kernel_rfl) (by kernel_rfl) (fun _ _ _ h => h) rfl ?hyn9 hH rfl ?restn9
          case hyn9 => (intro W hW; clear hW; go_simp; try with_reducible rfl)
          (try simp only [Act.put])
          refine takeH (i := 11) (dst := some 30) (v := ?vn10) rfl rfl (by kernel_rfl) (by kernel_rfl) (by kernel_rfl) (fun _ _ _ h => h) rfl ?hyn10 hH rfl ?restn10
          case hyn10 => (intro W hW; clear hW; go_simp; try with_reducible rfl)
          (try simp only [Act.put])
          refine callH (i := 12) { dst := none, op := Go.Op.store 112 (Go.Operand.tmp 30) (Go.Operand.tmp 28), type := 0, pos := "ref.go:49", after := #[{ on := 11, ground := Go.Ground.data }, { on := 9, ground := Go.Ground.data }, { on := 9, ground := Go.Ground.chain }, { on := 0, ground := Go.Ground.phase }, { on := 1, ground := Go.Ground.phase }, { on := 2, ground := Go.Ground.phase }, { on := 3, ground := Go.Ground.phase }, { on := 4, ground := Go.Ground.phase }, { on := 5, ground := Go.Ground.phase }, { on := 6, ground := Go.Ground.phase }, { on := 7, ground := Go.Ground.phase }, { on := 8, ground := Go.Ground.phase }, { on := 9, ground := Go.Ground.phase }], guard := none } (by kernel_rfl) rfl rfl (fun K hK => ?_)
          go_simp
          clear hH
          refine hK.out _ _ trivial (fun hH => ?_)
          clear hK K
          (try simp only [Act.put, List.setIfInBounds_toArray, List.set_cons_zero, List.set_cons_succ])
          refine wpAnyH_done (by kernel_rfl) ?_ _
          have HL2 : Hid _ := LN
          have HB2 : Hid (Below w.heap.size w (w4.setCell ⟨w.heap.size, 0, none⟩ (.slice (some ⟨g, 0, none⟩) (k + 1) cp))) := (HBd.out.trans (b5.mono (by omega))).trans BN
          have HF2 : Hid (∀ o, (w4.setCell ⟨w.heap.size, 0, none⟩ (.slice (some ⟨g, 0, none⟩) (k + 1) cp)).frozen? ⟨w.heap.size, o, none⟩ = false) := fun o => FN o ((b5.frozen (p := ⟨w.heap.size, o, none⟩) (show w.heap.size < wd.heap.size by omega)).trans (HFd.out o))
          clear FN
          clear hH cA fA LN BN hrun L5 b5 L1 ev
          go_wp2_with fail
          go_round
          case rel => exact ⟨k + 1, _, _, by omega, by go_num, HL2, HF2, HB2⟩
          case measure => simp [intOf]; omega
        · go_simp
          clear hH
          refine hK.out _ _ trivial (fun hH => ?_)
          clear hK K
          (try simp only [Act.put, List.setIfInBounds_toArray, List.set_cons_zero, List.set_cons_succ])
          refine takeH (i := 7) (dst := some 26) (v := ?vn11) rfl rfl (by kernel_rfl) (by kernel_rfl) (by kernel_rfl) (fun _ _ _ h => h) rfl ?hyn11 hH rfl ?restn11
          case hyn11 => (intro W hW; clear hW; go_simp; try with_reducible rfl)
          (try simp only [Act.put, List.setIfInBounds_toArray, List.set_cons_zero, List.set_cons_succ])
          refine callH2 (i := 4) (j := 8) { dst := some 23, op := Go.Op.load 112 (Go.Operand.tmp 22), type := 112, pos := "ref.go:49", after := #[{ on := 3, ground := Go.Ground.data }], guard := none } { dst := some 27, op := Go.Op.buildSlice 112 1 #[(0, Go.Operand.tmp 26)], type := 112, pos := "ref.go:49", after := #[{ on := 7, ground := Go.Ground.data }], guard := none } (by kernel_rfl) rfl rfl rfl rfl (fun K hK => ?_) (fun K hK => ?_)
          · have cl := (World.cell?_alloc_lt w5 (.cells #[.string (str zer)] 9) ⟨w.heap.size, 0, none⟩ (show w.heap.size < w5.heap.size by omega)).trans L5.c0
            go_simp
            clear hH cl
            refine hK.out _ _ trivial (fun hH => ?_)
            clear hK K
            (try simp only [Act.put, List.setIfInBounds_toArray, List.set_cons_zero, List.set_cons_succ])
            refine callH (i := 8) { dst := some 27, op := Go.Op.buildSlice 112 1 #[(0, Go.Operand.tmp 26)], type := 112, pos := "ref.go:49", after := #[{ on := 7, ground := Go.Ground.data }], guard := none } (by kernel_rfl) rfl rfl (fun K hK => ?_)
            go_simp
            clear hH
            refine hK.out _ _ trivial (fun hH => ?_)
            clear hK K
            (try simp only [Act.put, List.setIfInBounds_toArray, List.set_cons_zero, List.set_cons_succ])
            obtain ⟨ao', ac', g, cp, w4, ev, hrun, cA, fA, LN, BN, FN⟩ := L5.stepF (by omega) (by omega)
            obtain ⟨rfl, rfl⟩ : ao = ao' ∧ ac = ac' := by simpa using ev
            rw [hzb k (by omega)] at hrun
            refine readyH (i := 9) (v := .slice (some ⟨g, 0, none⟩) (k + 1) cp) (w' := w4) (by kernel_rfl) rfl rfl rfl (run_app60 rfl rfl rfl rfl hrun) rfl trivial ?_
            (try simp only [Act.put, List.setIfInBounds_toArray])
            refine takeH (i := 10) (dst := some 29) (v := ?vn12) rfl rfl (by kernel_rfl) (by kernel_rfl) (by kernel_rfl) (fun _ _ _ h => h) rfl ?hyn12 hH rfl ?restn12
            case hyn12 => (intro W hW; clear hW; go_simp; try with_reducible rfl)
            (try simp only [Act.put])
            refine takeH (i := 11) (dst := some 30) (v := ?vn13) rfl rfl (by kernel_rfl) (by kernel_rfl) (by kernel_rfl) (fun _ _ _ h => h) rfl ?hyn13 hH rfl ?restn13
            case hyn13 => (intro W hW; clear hW; go_simp; try with_reducible rfl)
            (try simp only [Act.put])
            refine callH (i := 12) { dst := none, op := Go.Op.store 112 (Go.Operand.tmp 30) (Go.Operand.tmp 28), type := 0, pos := "ref.go:49", after := #[{ on := 11, ground := Go.Ground.data }, { on := 9, ground := Go.Ground.data }, { on := 9, ground := Go.Ground.chain }, { on := 0, ground := Go.Ground.phase }, { on := 1, ground := Go.Ground.phase }, { on := 2, ground := Go.Ground.phase }, { on := 3, ground := Go.Ground.phase }, { on := 4, ground := Go.Ground.phase }, { on := 5, ground := Go.Ground.phase }, { on := 6, ground := Go.Ground.phase }, { on := 7, ground := Go.Ground.phase }, { on := 8, ground := Go.Ground.phase }, { on := 9, ground := Go.Ground.phase }], guard := none } (by kernel_rfl) rfl rfl (fun K hK => ?_)
            go_simp
            clear hH
            refine hK.out _ _ trivial (fun hH => ?_)
            clear hK K
            (try simp only [Act.put, List.setIfInBounds_toArray, List.set_cons_zero, List.set_cons_succ])
            refine wpAnyH_done (by kernel_rfl) ?_ _
            have HL2 : Hid _ := LN
            have HB2 : Hid (Below w.heap.size w (w4.setCell ⟨w.heap.size, 0, none⟩ (.slice (some ⟨g, 0, none⟩) (k + 1) cp))) := (HBd.out.trans (b5.mono (by omega))).trans BN
            have HF2 : Hid (∀ o, (w4.setCell ⟨w.heap.size, 0, none⟩ (.slice (some ⟨g, 0, none⟩) (k + 1) cp)).frozen? ⟨w.heap.size, o, none⟩ = false) := fun o => FN o ((b5.frozen (p := ⟨w.heap.size, o, none⟩) (show w.heap.size < wd.heap.size by omega)).trans (HFd.out o))
            clear FN
            clear hH cA fA LN BN hrun L5 b5 L1 ev
            go_wp2_with fail
            go_round
            case rel => exact ⟨k + 1, _, _, by omega, by go_num, HL2, HF2, HB2⟩
            case measure => simp [intOf]; omega
          · go_simp
            clear hH
            refine hK.out _ _ trivial (fun hH => ?_)
            clear hK K
            (try simp only [Act.put, List.setIfInBounds_toArray, List.set_cons_zero, List.set_cons_succ])
            refine callH (i := 4) { dst := some 23, op := Go.Op.load 112 (Go.Operand.tmp 22), type := 112, pos := "ref.go:49", after := #[{ on := 3, ground := Go.Ground.data }], guard := none } (by kernel_rfl) rfl rfl (fun K hK => ?_)
            have cl := (World.cell?_alloc_lt (w5.alloc (.cells #[.string (str zer)] 9)) (.cells #[.slice (some ⟨w5.heap.size, 0, none⟩) 1 1] 117) ⟨w.heap.size, 0, none⟩ (show w.heap.size < (w5.alloc (.cells #[.string (str zer)] 9)).heap.size by rw [alloc_size]; omega)).trans ((World.cell?_alloc_lt w5 (.cells #[.string (str zer)] 9) ⟨w.heap.size, 0, none⟩ (show w.heap.size < w5.heap.size by omega)).trans L5.c0)
            go_simp
            clear hH cl
            refine hK.out _ _ trivial (fun hH => ?_)
            clear hK K
            (try simp only [Act.put, List.setIfInBounds_toArray, List.set_cons_zero, List.set_cons_succ])
            obtain ⟨ao', ac', g, cp, w4, ev, hrun, cA, fA, LN, BN, FN⟩ := L5.stepF (by omega) (by omega)
            obtain ⟨rfl, rfl⟩ : ao = ao' ∧ ac = ac' := by simpa using ev
            rw [hzb k (by omega)] at hrun
            refine readyH (i := 9) (v := .slice (some ⟨g, 0, none⟩) (k + 1) cp) (w' := w4) (by kernel_rfl) rfl rfl rfl (run_app60 rfl rfl rfl rfl hrun) rfl trivial ?_
            (try simp only [Act.put, List.setIfInBounds_toArray])
            refine takeH (i := 10) (dst := some 29) (v := ?vn14) rfl rfl (by kernel_rfl) (by kernel_rfl) (by kernel_rfl) (fun _ _ _ h => h) rfl ?hyn14 hH rfl ?restn14
            case hyn14 => (intro W hW; clear hW; go_simp; try with_reducible rfl)
            (try simp only [Act.put])
            refine takeH (i := 11) (dst := some 30) (v := ?vn15) rfl rfl (by kernel_rfl) (by kernel_rfl) (by kernel_rfl) (fun _ _ _ h => h) rfl ?hyn15 hH rfl ?restn15
            case hyn15 => (intro W hW; clear hW; go_simp; try with_reducible rfl)
            (try simp only [Act.put])
            refine callH (i := 12) { dst := none, op := Go.Op.store 112 (Go.Operand.tmp 30) (Go.Operand.tmp 28), type := 0, pos := "ref.go:49", after := #[{ on := 11, ground := Go.Ground.data }, { on := 9, ground := Go.Ground.data }, { on := 9, ground := Go.Ground.chain }, { on := 0, ground := Go.Ground.phase }, { on := 1, ground := Go.Ground.phase }, { on := 2, ground := Go.Ground.phase }, { on := 3, ground := Go.Ground.phase }, { on := 4, ground := Go.Ground.phase }, { on := 5, ground := Go.Ground.phase }, { on := 6, ground := Go.Ground.phase }, { on := 7, ground := Go.Ground.phase }, { on := 8, ground := Go.Ground.phase }, { on := 9, ground := Go.Ground.phase }], guard := none } (by kernel_rfl) rfl rfl (fun K hK => ?_)
            go_simp
            clear hH
            refine hK.out _ _ trivial (fun hH => ?_)
            clear hK K
            (try simp only [Act.put, List.setIfInBounds_toArray, List.set_cons_zero, List.set_cons_succ])
            refine wpAnyH_done (by kernel_rfl) ?_ _
            have HL2 : Hid _ := LN
            have HB2 : Hid (Below w.heap.size w (w4.setCell ⟨w.heap.size, 0, none⟩ (.slice (some ⟨g, 0, none⟩) (k + 1) cp))) := (HBd.out.trans (b5.mono (by omega))).trans BN
            have HF2 : Hid (∀ o, (w4.setCell ⟨w.heap.size, 0, none⟩ (.slice (some ⟨g, 0, none⟩) (k + 1) cp)).frozen? ⟨w.heap.size, o, none⟩ = false) := fun o => FN o ((b5.frozen (p := ⟨w.heap.size, o, none⟩) (show w.heap.size < wd.heap.size by omega)).trans (HFd.out o))
            clear FN
            clear hH cA fA LN BN hrun L5 b5 L1 ev
            go_wp2_with fail
            go_round
            case rel => exact ⟨k + 1, _, _, by omega, by go_num, HL2, HF2, HB2⟩
            case measure => simp [intOf]; omega
    · obtain rfl : k = n := by omega
      go_wp2_with fail
      go_ret2
      exact ⟨rfl, ⟨v, va, HL.out⟩, HFZ.out, HB.out⟩
theorem rnew_any (n : Nat) (h1 : 1 ≤ n) (hn : n ≤ 40) (w : World) :
    Calls Tryz.prog 10 #[.int .i64 (n : Int)] w fun e w' => e = .returned (.tuple #[.pointer (some ⟨w.heap.size, 0, none⟩), .int .i64 0]) ∧ (∃ gb cb va vc, RefW w' w.heap.size w.heap.size n false 0 (fun _ => zer :: []) gb cb va vc ∧ w.heap.size ≤ gb ∧ ∀ i, i < n → w.heap.size ≤ va i) ∧ Below w.heap.size w w' :=
  (rnew_go n h1 hn w).mono fun e w' ⟨h1', ⟨v, va, hL⟩, hf, hb⟩ => by
    obtain ⟨gb, cb, hR, hg, hv⟩ := hL.refW hf h1 (by omega)
    refine ⟨h1', ⟨gb, cb, va, fun _ => 1, ⟨?_, hR.fr, hR.fg, hR.rg, hR.ar⟩, hg, hv⟩, hb⟩
    have k := hR.at'
    refine { nn := k.nn, c0 := k.c0, c1 := k.c1, c2 := k.c2, rb := k.rb, gl := k.gl, cl := k.cl, row := fun i hi => k.row i hi, vers := fun i hi j hj => ?_ }
    have h := k.vers i hi j hj
    have hj0 : j = 0 := by simp at hj; omega
    subst hj0
    rw [h]
    simp [blk_zer n i hi]
end Go.Proofs.YthaogbbclocmaaaGreat
/- The document's store (leveeref11): Open. -/
namespace Go.Proofs.YthaogbbclocmaaaGreat
open Go.RowKit
set_option maxRecDepth 100000
/-- 'append' of one element onto an own row, as a step of a region that draws. -/
theorem step_app {ops : Array Oper} {o : Oper} {a : Act} {w : World} {K : Act → World → Prop} {Q : Exit → Act → World → Prop} {E : Prop} (hgd : o.guard = none) (s x : Operand) (t : TypeId)
    (ho : o.op = .call { callee := .builtin .append, args := #[s, x], argTypes := #[t, t] }) (base e : Nat) (i0 : TypeInfo) (z : Value) (size bytes : Nat) (hu : Tryz.prog.underlying t = some (.slice e)) (hi : Tryz.prog.info? e = some i0) (hz0 : i0.zero = some z) (hz1 : i0.size = size) (hz2 : i0.bytes = bytes) (hz3 : z.cells.size = size) (hsz : 0 < size) (hby : bytes ≤ 1000)
    (n : Nat) (xs ys : List Value) (v : Value) (hs : a.eval s = v) (g c : Nat) (hx : a.eval x = .slice (some ⟨g, 0, none⟩) 1 c) (hown : w.ownsRow base e size v n xs) (hyl : ys.length = size) (hsrc : ∀ j u, ys[j]? = some u → w.cell? ⟨g, j, none⟩ = some u) (hone : ∀ u ∈ ys, u.oneCell' = true) (hbase : base ≤ w.heap.size) (hb : n ≤ 1000000)
    (h : ∀ G cap w', w'.ownsRow base e size (.slice (some ⟨G, 0, none⟩) (n + 1) cap) (n + 1) (xs ++ ys) → w.grownBy w' v.ownBlock → (v.ownBlock = some G ∨ w.heap.size ≤ G) → K (a.put o.dst (.slice (some ⟨G, 0, none⟩) (n + 1) cap)) w') :
    if Region.wanted o (yielded ops a.tmps) = true then Oper.wp Tryz.prog o a w K Q else E := by
  have hw : Region.wanted o (yielded ops a.tmps) = true := by simp [Region.wanted, hgd]
  rw [if_pos hw]
  obtain ⟨G, cap, w', hr, hown', hgr, hat, _⟩ := run_append_lies (P := Tryz.prog) w t o.type base e i0 z size bytes hu hi hz0 hz1 hz2 hz3 hsz v n xs hown ⟨g, 0, none⟩ 1 c ys (by rw [hyl]; omega) (fun j u hj => by rw [addr_add, Nat.zero_add]; exact hsrc j u hj) hone (by omega) (by unfold maxLen; omega) (by
    have : (n + 1) * bytes ≤ 1000001 * 1000 := Nat.mul_le_mul (by omega) hby
    omega) hbase _ rfl
  unfold Oper.wp execOp
  simp only [ho, resolve, invoke, builtin]
  simp [hs, hx, hr, Result.andThen]
  refine h G cap w' hown' hgr ?_
  rcases hat with hat | hat
  · exact .inl hat
  · exact .inr (by omega)
/-- The texts of blocks. -/
def txs (n : Nat) : List Value := List.replicate n (Value.string (str zer))
theorem Tryz.infoS9 : (Tryz.prog.info? 9).map (fun i => (i.zero, i.size, i.bytes)) = some (some (.string ⟨#[]⟩), 1, 16) := by kernel_rfl
/-- The document's store at q, nothing open. -/
structure RSt0 (w0 w : World) (d q k : Nat) (v : Value) : Prop where
  be : Below w0.heap.size w0 w
  at' : w.heap[q]? = some (.cells #[.pointer (some ⟨d, 0, none⟩), v, .slice none 0 0, .int .i64 0] 43 (0, 0))
  ow : w.ownsRow (w0.heap.size + 1) 9 1 v k (txs k)
  qe : q = w0.heap.size
  sz : w0.heap.size + 1 ≤ w.heap.size
theorem RSt0.up {w0 w w' : World} {d q k : Nat} {v : Value} (h : RSt0 w0 w d q k v) (hb : Below w.heap.size w w') : RSt0 w0 w' d q k v := by
  have hq := h.qe
  have hz := h.sz
  exact ⟨h.be.trans (hb.mono h.be.size), (hb.block q (by omega)).trans h.at', row_same h.ow fun k hk => hb.block k (World.ownsRow.lt h.ow k hk).2, h.qe, by have := hb.size; omega⟩
theorem RSt0.next {w0 w w3 : World} {d q k : Nat} {v : Value} (h : RSt0 w0 w d q k v) {o : Obj} {G cap : Nat} (ho : w3.ownsRow (w0.heap.size + 1) 9 1 (.slice (some ⟨G, 0, none⟩) (k + 1) cap) (k + 1) (txs k ++ [Value.string (str zer)])) (hg : (w.alloc o).grownBy w3 v.ownBlock) :
    RSt0 w0 (w3.setCell ⟨q, 1, none⟩ (.slice (some ⟨G, 0, none⟩) (k + 1) cap)) d q (k + 1) (.slice (some ⟨G, 0, none⟩) (k + 1) cap) ∧ w3.heap[q]? = some (.cells #[.pointer (some ⟨d, 0, none⟩), v, .slice none 0 0, .int .i64 0] 43 (0, 0)) := by
  have hq := h.qe
  have hz := h.sz
  have hz3 := hg.size
  rw [size_alloc] at hz3
  have e : w3.heap[q]? = w.heap[q]? := by
    rw [hg.block q (by rw [size_alloc]; omega) (fun e => by have := (World.ownsRow.lt h.ow q e.symm).1; omega)]
    exact Below.heap_alloc _ _ _ (by omega)
  have hb3 : Below w0.heap.size w0 w3 := (h.be.alloc h.be.size o).trans ((Below.refl _ _).grown hg (by rw [size_alloc]; omega) (fun k hk => by have := (World.ownsRow.lt h.ow k hk).1; omega))
  refine ⟨⟨hb3.setCell (by show _ ≤ q; omega) _, ?_, ?_, h.qe, by rw [show (w3.setCell ⟨q, 1, none⟩ (.slice (some ⟨G, 0, none⟩) (k + 1) cap)).heap.size = w3.heap.size by simp [World.setCell]]; omega⟩, e.trans h.at'⟩
  · have := heap_setCell_same w3 q 1 _ _ (.slice (some ⟨G, 0, none⟩) (k + 1) cap) (e.trans h.at')
    exact this
  · have e2 : txs (k + 1) = txs k ++ [Value.string (str zer)] := by unfold txs; rw [List.replicate_succ']
    rw [e2]
    exact row_same ho fun k hk => heap_setCell_other w3 ⟨q, 1, none⟩ k _ (by have := (World.ownsRow.lt ho k hk).1; show k ≠ q; omega)
set_option maxHeartbeats 4000000 in
theorem ropen_any {base r n gb cb : Nat} {va vc : Nat → Nat} {w : World} (h : RefAt w base r n false 0 (fun _ => zer :: []) gb cb va vc) (hn : n ≤ 1000) :
    Calls Tryz.prog 13 #[.pointer (some ⟨r, 0, none⟩)] w fun e w' => e = .returned (.pointer (some ⟨w.heap.size, 0, none⟩)) ∧ ∃ v, RSt0 w w' r w.heap.size n v := by
  have HR : Hid (RefAt w base r n false 0 (fun _ => zer :: []) gb cb va vc) := h
  have hcb : (cb : Int) ≤ 9223372036854775807 := h.cl.2
  clear h
  go_enter Tryz.func13, Tryz.ntmps13
  go_wp2_with fail
  have HS0 : Hid (RSt0 w (w.alloc (.cells #[.pointer (some ⟨r, 0, none⟩), .slice none 0 0, .slice none 0 0, .int .i64 0] 43)) r w.heap.size 0 (.slice none 0 0)) := ⟨(Below.refl _ _).alloc (Nat.le_refl _) _, heap_alloc_new _ _, World.ownsRow_nil _ _ _ _, rfl, by rw [size_alloc]; omega⟩
  go_loopg [4, 5, 6] n (fun gg t4 _ _ W => ∃ (gw : World) (k : Nat) (v : Value), gw = W ∧ k ≤ n ∧ n - k ≤ gg ∧ t4 = .int .i64 k ∧ Hid (RSt0 w gw r w.heap.size k v))
  case atStart => exact ⟨_, 0, _, rfl, by omega, by omega, rfl, HS0⟩
  case round =>
    clear HS0
    obtain ⟨gw, k, v, rfl, hk, hgk, rfl, HS⟩ := hrel
    have c0 : gw.cell? ⟨r, 0, none⟩ = some (.slice (some ⟨gb, 0, none⟩) n cb) := (HR.out.below HS.out.be (Nat.le_refl _)).c0
    by_cases hlt : (k : Int) < (n : Int)
    · have RD := rread_in (HR.out.below HS.out.be (Nat.le_refl _)) k (by omega) 0 zer rfl rfl
      rw [show zer.length = 256 by simp [zer]] at RD
      go_wp2_with (first | (go_at_call 63; refine Hid.out ?_))
      change Calls _ _ _ _ _
      refine RD.mono ?_
      clear RD
      rintro r2 w2 ⟨g, c, rfl, hsr, hb2⟩
      have HS2 : Hid (RSt0 w w2 r w.heap.size k v) := HS.out.up hb2
      have CV := conv_str (hsr.below (Below.refl w2.heap.size w2).drew (Nat.le_refl _)) 256 c (by simp [zer])
      obtain ⟨ao, ca, hv⟩ : ∃ ao ca, v = .slice ao k ca := by
        obtain ⟨_, h2⟩ := HS2.out.ow
        rcases h2 with ⟨h2, h3⟩ | ⟨g, cap, _, hv, _⟩
        · exact ⟨none, 0, by rw [h2, h3]⟩
        · exact ⟨_, cap, hv⟩
      have q1 : w2.cell? ⟨w.heap.size, 1, none⟩ = some (.slice ao k ca) := by rw [← hv]; exact (cell_of_row _ _ _ _ _ _ HS2.out.at').trans rfl
      subst hv
      obtain ⟨i0, hi0, hz0, hz1, hz2⟩ := info_parts Tryz.infoS9
      have HI : Hid (Tryz.prog.info? 9 = some i0 ∧ i0.zero = some (.string ⟨#[]⟩) ∧ i0.size = 1 ∧ i0.bytes = 16) := ⟨hi0, hz0, hz1, hz2⟩
      clear hi0 hz0 hz1 hz2 hsr hb2 HS c0
      go_upto_region 6 with fail
      have HS3 : Hid (RSt0 w w2.drew r w.heap.size k (.slice ao k ca)) := HS2.out.up (Below.refl w2.heap.size w2).drew
      have q2 : (w2.alloc (.cells #[.string (str zer)] 9)).cell? ⟨w.heap.size, 1, none⟩ = some (.slice ao k ca) := (World.cell?_of_block (w := w2) (a := ⟨w.heap.size, 1, none⟩) (Below.heap_alloc _ _ _ (by have := HS2.out.sz; show w.heap.size < _; omega))).trans q1
      go_region_law (refine step_app rfl (.tmp 29) (.tmp 32) 40 rfl (w.heap.size + 1) 9 i0 _ 1 16 Tryz.underlying40 HI.out.1 HI.out.2.1 HI.out.2.2.1 HI.out.2.2.2 rfl (by decide) (by decide) k (txs k) [Value.string (str zer)] (.slice ao k ca) (by simp [Act.eval]) w2.heap.size 1 (by simp [Act.eval]) (row_same HS2.out.ow (fun l hl => Below.heap_alloc _ _ _ (World.ownsRow.lt HS2.out.ow l hl).2)) rfl (fun j u hj => by cases j with
        | zero => simp at hj; subst hj; exact (cell_of_row _ _ _ _ _ _ (heap_alloc_new w2.drew _)).trans rfl
        | succ j => simp at hj) (fun u hu => by simp at hu; subst hu; rfl) (show w.heap.size + 1 ≤ (w2.drew.alloc (.cells #[.string (str zer)] 9)).heap.size by rw [size_alloc]; have := HS3.out.sz; omega) (by omega) ?_; intro G cap w' ho hg hat; have hN := HS3.out.next (o := .cells #[.string (str zer)] 9) ho hg; have qz : w'.cell? ⟨w.heap.size, 1, none⟩ = some (.slice ao k ca) := (cell_of_row _ _ _ _ _ _ hN.2).trans rfl; have fzz : w'.frozen? ⟨w.heap.size, 1, none⟩ = false := frozen_of_row w' _ 1 _ _ hN.2; have HN : Hid (RSt0 w (w'.setCell ⟨w.heap.size, 1, none⟩ (.slice (some ⟨G, 0, none⟩) (k + 1) cap)) r w.heap.size (k + 1) (.slice (some ⟨G, 0, none⟩) (k + 1) cap)) := hN.1; clear ho hg hat hN)
      all_goals (
        go_wp2_with fail
        go_roundg (n - (k + 1))
        case measure => omega
        case rel => exact ⟨_, k + 1, _, rfl, by omega, by omega, by go_num, HN⟩)
    · go_wp2_with fail
      go_ret
      obtain rfl : k = n := by omega
      exact ⟨rfl, v, HS.out⟩
end Go.Proofs.YthaogbbclocmaaaGreat
/- Package push: Work. -/
namespace Go.Proofs.YthaogbbclocmaaaGreat
open Go.RowKit
set_option maxRecDepth 100000
/-- What waits: the kind and number of an act, and the change. -/
structure Wt where
  K : Int
  N : Int
  id : Int
def wtL (x : Wt) : List Value := [.int .i64 x.K, .int .i64 x.N, .int .i64 x.id]
def wts (l : List Wt) : List Value := l.flatMap wtL
theorem wts_length : ∀ l : List Wt, (wts l).length = l.length * 3
  | [] => rfl
  | x :: l => by
    have := wts_length l
    show (wtL x ++ wts l).length = _
    rw [List.length_append, this]
    simp [wtL]; omega
theorem Tryz.infoW : (Tryz.prog.info? 171).map (fun i => (i.zero.map fun z => z.cells.size, i.size, i.bytes)) = some (some 3, 3, 24) := by kernel_rfl
theorem infoW_parts : ∃ i0 z, Tryz.prog.info? 171 = some i0 ∧ i0.zero = some z ∧ z.cells.size = 3 ∧ i0.size = 3 ∧ i0.bytes = 24 := by
  have h := Tryz.infoW
  cases hi : Tryz.prog.info? 171 with
  | none => rw [hi] at h; cases h
  | some i0 =>
    rw [hi] at h
    simp only [Option.map_some, Option.some.injEq, Prod.mk.injEq] at h
    cases hz : i0.zero with
    | none => rw [hz] at h; cases h.1
    | some z =>
      rw [hz] at h
      exact ⟨i0, z, rfl, hz, Option.some.inj h.1, h.2.1, h.2.2⟩
/-- The work at block q. -/
structure WkAt (w : World) (base q : Nat) (v : Value) (l : List Wt) : Prop where
  at' : w.heap[q]? = some (.cells #[v] 169 (0, 0))
  ow : w.ownsRow base 171 3 v l.length (wts l)
  ne : v.ownBlock ≠ some q
  qb : base ≤ q
theorem WkAt.up {w w' : World} {base q : Nat} {v : Value} {l : List Wt} (h : WkAt w base q v l) (hb : Below w.heap.size w w') : WkAt w' base q v l :=
  ⟨(hb.block q (Array.getElem?_eq_some_iff.1 h.at').1).trans h.at', row_same h.ow fun k hk => hb.block k (World.ownsRow.lt h.ow k hk).2, h.ne, h.qb⟩
set_option maxHeartbeats 1000000 in
theorem wnew_any (w : World) : Calls Tryz.prog 47 #[] w fun e w' => e = .returned (.pointer (some ⟨w.heap.size, 0, none⟩)) ∧ WkAt w' w.heap.size w.heap.size (.slice none 0 0) [] ∧ Below w.heap.size w w' := by
  go_enter Tryz.func47, Tryz.ntmps47
  go_wp2
  go_ret
  exact ⟨rfl, ⟨heap_alloc_new _ _, World.ownsRow_nil _ _ _ _, by simp [Value.ownBlock], Nat.le_refl _⟩, (Below.refl _ _).alloc (Nat.le_refl _) _⟩
section
variable {w : World} {base q : Nat} {v : Value} {l : List Wt}
set_option maxHeartbeats 1000000 in
theorem wlen_any (h : WkAt w base q v l) : Calls Tryz.prog 58 #[.pointer (some ⟨q, 0, none⟩)] w fun e w' => e = .returned (.int .i64 (l.length : Int)) ∧ w' = w := by
  obtain ⟨ao, ca, hv⟩ : ∃ ao ca, v = .slice ao l.length ca := by
    obtain ⟨_, h2⟩ := h.ow
    rcases h2 with ⟨h2, h3⟩ | ⟨g, cap, _, hv, _⟩
    · exact ⟨none, 0, by rw [h2, h3]⟩
    · exact ⟨_, cap, hv⟩
  have q0 : w.cell? ⟨q, 0, none⟩ = some (.slice ao l.length ca) := by rw [← hv]; exact (cell_of_row _ _ _ _ _ _ h.at').trans rfl
  clear h hv
  go_enter Tryz.func58, Tryz.ntmps58
  go_wp2
  go_ret
  exact ⟨rfl, rfl⟩
theorem wk_next {W1 w' : World} {x : Wt} {G cap : Nat} {o : Obj} (h : WkAt W1 base q v l) (hB : Below w.heap.size w W1) (hb : base ≤ w.heap.size) (ho : w'.ownsRow base 171 3 (.slice (some ⟨G, 0, none⟩) (l.length + 1) cap) (l.length + 1) (wts l ++ wtL x)) (hg : (W1.drew.alloc o).grownBy w' v.ownBlock) (hat : v.ownBlock = some G ∨ (W1.drew.alloc o).heap.size ≤ G) (hq : w'.heap[q]? = some (.cells #[v] 169 (0, 0))) :
    WkAt (w'.setCell ⟨q, 0, none⟩ (.slice (some ⟨G, 0, none⟩) (l.length + 1) cap)) base q (.slice (some ⟨G, 0, none⟩) (l.length + 1) cap) (l ++ [x]) ∧ Fr (fun k => k = q ∨ v.ownBlock = some k) w (w'.setCell ⟨q, 0, none⟩ (.slice (some ⟨G, 0, none⟩) (l.length + 1) cap)) ∧ Below base w (w'.setCell ⟨q, 0, none⟩ (.slice (some ⟨G, 0, none⟩) (l.length + 1) cap)) ∧ (∀ k, (Value.slice (some ⟨G, 0, none⟩) (l.length + 1) cap).ownBlock = some k → v.ownBlock = some k ∨ w.heap.size ≤ k) := by
  have hql : q < W1.heap.size := (Array.getElem?_eq_some_iff.1 h.at').1
  have hz1 := hB.size
  have hz : W1.drew.heap.size = W1.heap.size := rfl
  have hgz := hg.size
  rw [size_alloc, hz] at hgz
  rw [size_alloc, hz] at hat
  have hGq : G ≠ q := fun e => by
    rcases hat with e1 | e1
    · exact h.ne (by rw [e1, e])
    · omega
  have st : ∀ k, k ≠ q → (w'.setCell ⟨q, 0, none⟩ (.slice (some ⟨G, 0, none⟩) (l.length + 1) cap)).heap[k]? = w'.heap[k]? := fun k hk => heap_setCell_other w' ⟨q, 0, none⟩ k _ hk
  have hsz : (w'.setCell ⟨q, 0, none⟩ (.slice (some ⟨G, 0, none⟩) (l.length + 1) cap)).heap.size = w'.heap.size := by simp [World.setCell]
  have hwl : wts (l ++ [x]) = wts l ++ wtL x := by unfold wts; rw [List.flatMap_append]; simp
  refine ⟨⟨?_, ?_, fun e => hGq (by cases e; rfl), h.qb⟩, ⟨by rw [hsz]; omega, fun k hk hn => ?_, hg.os.trans hB.os, hg.tape.trans hB.tape, hg.output.trans hB.output⟩, ?_, fun k hk => ?_⟩
  · exact heap_setCell_same w' q 0 _ _ _ hq
  · rw [List.length_append, hwl]
    exact row_same ho fun k hk => st k (fun e => hGq (by cases hk; exact e))
  · have h1 : ¬ k = q := fun e => hn (.inl e)
    have h2 : ¬ v.ownBlock = some k := fun e => hn (.inr e)
    rw [st k h1, hg.block k (by rw [size_alloc, hz]; omega) (fun e => h2 e.symm), Below.heap_alloc _ _ _ (by rw [hz]; omega)]
    exact hB.block k hk
  · exact (((hB.mono hb).drew.alloc (by rw [hz]; omega) o).trans ((Below.refl _ _).grown hg (by rw [size_alloc, hz]; omega) (fun k hk => (World.ownsRow.lt h.ow k hk).1))).setCell (by show base ≤ q; exact h.qb) _
  · cases hk
    exact hat.imp_right fun e => (show w.heap.size ≤ G by omega)
set_option maxHeartbeats 4000000 in
theorem later_any (h : WkAt w base q v l) (id K N : Int) (hK : 1 ≤ K ∧ K ≤ 3) (hl : l.length < 4096) (hb : base ≤ w.heap.size) :
    Calls Tryz.prog 48 #[.pointer (some ⟨q, 0, none⟩), .int .i64 id, .agg #[.int .i64 K, .int .i64 N]] w fun e w' => e = .returned (.int .i64 0) ∧ ∃ v', WkAt w' base q v' (l ++ [⟨K, N, id⟩]) ∧ Fr (fun k => k = q ∨ v.ownBlock = some k) w w' ∧ Below base w w' ∧ (∀ k, v'.ownBlock = some k → v.ownBlock = some k ∨ w.heap.size ≤ k) := by
  have HB1 : Hid (Below w.heap.size w (w.alloc (.cells #[.int .i64 K, .int .i64 N] 95))) := (Below.refl _ _).alloc (Nat.le_refl _) _
  have HW1 : Hid (WkAt (w.alloc (.cells #[.int .i64 K, .int .i64 N] 95)) base q v l) := h.up HB1.out
  have LE := wlen_any HW1.out
  have hl' : (l.length : Int) < 4096 := by omega
  have hK1 : ¬ K < 1 := by omega
  have hK2 : ¬ 3 < K := by omega
  clear h
  go_enter Tryz.func48, Tryz.ntmps48
  go_wp2_with (first | (go_at_call 58; refine Hid.out ?_))
  change Calls _ _ _ _ _
  refine LE.mono ?_
  clear LE
  rintro r w1 ⟨rfl, rfl⟩
  go_upto_region 7 with fail
  have hz1 := size_alloc w (.cells #[.int .i64 K, .int .i64 N] 95)
  have hrow := heap_alloc_new w (.cells #[.int .i64 K, .int .i64 N] 95)
  have b0 : (w.alloc (.cells #[.int .i64 K, .int .i64 N] 95)).cell? ⟨w.heap.size, 0, none⟩ = some (.int .i64 K) := (cell_of_row _ _ _ _ _ _ hrow).trans rfl
  have b1 : (w.alloc (.cells #[.int .i64 K, .int .i64 N] 95)).cell? ⟨w.heap.size, 1, none⟩ = some (.int .i64 N) := (cell_of_row _ _ _ _ _ _ hrow).trans rfl
  have HZ1 : Hid ((w.alloc (.cells #[.int .i64 K, .int .i64 N] 95)).heap.size = w.heap.size + 1) := hz1
  generalize w.alloc (.cells #[.int .i64 K, .int .i64 N] 95) = W1 at *
  obtain ⟨ao, ca, hv⟩ : ∃ ao ca, v = .slice ao l.length ca := by
    obtain ⟨_, h2⟩ := HW1.out.ow
    rcases h2 with ⟨h2, h3⟩ | ⟨g, cap, _, hv, _⟩
    · exact ⟨none, 0, by rw [h2, h3]⟩
    · exact ⟨_, cap, hv⟩
  subst hv
  have hql : q < W1.heap.size := (Array.getElem?_eq_some_iff.1 HW1.out.at').1
  have q0 : W1.cell? ⟨q, 0, none⟩ = some (.slice ao l.length ca) := (cell_of_row _ _ _ _ _ _ HW1.out.at').trans rfl
  have q1 : (W1.alloc (.cells #[.int .i64 K, .int .i64 N, .int .i64 id] 171)).cell? ⟨q, 0, none⟩ = some (.slice ao l.length ca) := (World.cell?_of_block (w := W1) (a := ⟨q, 0, none⟩) (Below.heap_alloc _ _ _ hql)).trans q0
  obtain ⟨i0, z, hi0, hz0, hz3, hzs, hzb⟩ := infoW_parts
  have HI : Hid (Tryz.prog.info? 171 = some i0 ∧ i0.zero = some z ∧ z.cells.size = 3 ∧ i0.size = 3 ∧ i0.bytes = 24) := ⟨hi0, hz0, hz3, hzs, hzb⟩
  have HQL : Hid (q < W1.heap.size) := hql
  clear hi0 hz0 hz3 hzs hzb hrow hz1 hql
  go_region_law (refine step_app rfl (.tmp 24) (.tmp 28) 167 rfl base 171 i0 z 3 24 Tryz.underlying167 HI.out.1 HI.out.2.1 HI.out.2.2.2.1 HI.out.2.2.2.2 HI.out.2.2.1 (by decide) (by decide) l.length (wts l) (wtL ⟨K, N, id⟩) (.slice ao l.length ca) (by simp [Act.eval]) W1.heap.size 1 (by simp [Act.eval]) (row_same HW1.out.ow (fun j hj => Below.heap_alloc _ _ _ (World.ownsRow.lt HW1.out.ow j hj).2)) rfl (fun j u hj => (cell_of_row _ _ _ _ _ _ (heap_alloc_new W1.drew _)).trans (by rw [← hj]; rcases j with _ | _ | _ | j <;> rfl)) (fun u hu => by simp [wtL] at hu; rcases hu with rfl | rfl | rfl <;> rfl) (show base ≤ (W1.drew.alloc (.cells #[.int .i64 K, .int .i64 N, .int .i64 id] 171)).heap.size by rw [size_alloc]; have : W1.drew.heap.size = w.heap.size + 1 := HZ1.out; omega) (by omega) ?_; intro G cap w' ho hg hat; have hat' : w'.heap[q]? = some (.cells #[.slice ao l.length ca] 169 (0, 0)) := ((hg.block q (show q < (W1.drew.alloc (.cells #[.int .i64 K, .int .i64 N, .int .i64 id] 171)).heap.size by rw [size_alloc]; have := HQL.out; show q < W1.heap.size + 1; omega) (fun e => HW1.out.ne e.symm)).trans (Below.heap_alloc W1.drew _ _ HQL.out)).trans HW1.out.at'; have qz : w'.cell? ⟨q, 0, none⟩ = some (.slice ao l.length ca) := (cell_of_row _ _ _ _ _ _ hat').trans rfl; have fzz : w'.frozen? ⟨q, 0, none⟩ = false := frozen_of_row w' _ 0 _ _ hat'; have HN : Hid (w'.ownsRow base 171 3 (.slice (some ⟨G, 0, none⟩) (l.length + 1) cap) (l.length + 1) (wts l ++ wtL ⟨K, N, id⟩) ∧ (W1.drew.alloc (.cells #[.int .i64 K, .int .i64 N, .int .i64 id] 171)).grownBy w' (Value.slice ao l.length ca).ownBlock ∧ ((Value.slice ao l.length ca).ownBlock = some G ∨ (W1.drew.alloc (.cells #[.int .i64 K, .int .i64 N, .int .i64 id] 171)).heap.size ≤ G) ∧ w'.heap[q]? = some (.cells #[.slice ao l.length ca] 169 (0, 0))) := ⟨ho, hg, hat, hat'⟩; clear ho hg hat hat')
  all_goals (
    go_wp2_with fail
    go_ret)
  all_goals exact ⟨rfl, _, wk_next HW1.out HB1.out hb HN.out.1 HN.out.2.1 HN.out.2.2.1 HN.out.2.2.2⟩
end
end Go.Proofs.YthaogbbclocmaaaGreat
/- Package push: Ripe, of one act. -/
namespace Go.Proofs.YthaogbbclocmaaaGreat
open Go.RowKit
set_option maxRecDepth 100000
section
variable {w0 w : World} {p dp : Nat} {s : PSt} {ops : Nat → List Int} {κ : Nat}
/-- Does it wait no more? -/
def rpB (s : PSt) (x : Wt) : Bool := decide (x.id < 1) || decide (1 ≤ x.id ∧ x.id ≤ (s.cnt : Int) ∧ s.fC x.id = 0)
set_option maxHeartbeats 1000000 in
theorem wripe_any (h : GW w0 w p dp s ops κ) (x : Wt) (hx : -9223372036854775808 ≤ x.id ∧ x.id ≤ 9223372036854775807) :
    Calls Tryz.prog 108 #[.agg #[.int .i64 x.K, .int .i64 x.N, .int .i64 x.id], .pointer (some ⟨p, 0, none⟩)] w fun e w' => e = .returned (.bool (rpB s x)) ∧ Below w.heap.size w w' := by
  obtain rfl : s.p = p := h.p
  have HB : Hid (Below w.heap.size w (w.alloc (.cells #[.int .i64 x.K, .int .i64 x.N, .int .i64 x.id] 171))) := (Below.refl _ _).alloc (Nat.le_refl _) _
  have SF := psafe_any (h.pm.up HB.out) x.id hx
  have HR : Hid (rpB s x = (decide (x.id < 1) || decide (1 ≤ x.id ∧ x.id ≤ (s.cnt : Int) ∧ s.fC x.id = 0))) := rfl
  generalize decide (1 ≤ x.id ∧ x.id ≤ (s.cnt : Int) ∧ s.fC x.id = 0) = b at *
  generalize rpB s x = rb at *
  clear h
  by_cases h1 : x.id < 1
  · clear SF
    go_enter Tryz.func108, Tryz.ntmps108
    go_wp2
    go_ret
    exact ⟨by rw [HR.out, decide_eq_true h1]; rfl, HB.out⟩
  · go_enter Tryz.func108, Tryz.ntmps108
    go_wp2_with (first | (go_at_call 29; refine Hid.out ?_))
    change Calls _ _ _ _ _
    refine SF.mono ?_
    rintro r w1 ⟨rfl, rfl⟩
    go_wp2_with fail
    go_ret
    exact ⟨by rw [HR.out, decide_eq_false (show ¬ x.id < 1 by omega)]; rfl, HB.out⟩
set_option maxHeartbeats 1000000 in
theorem wripe1_any (h : GW w0 w p dp s ops κ) (x : Wt) (hx : -9223372036854775808 ≤ x.id ∧ x.id ≤ 9223372036854775807) (bs : Nat) (hbs : w.cell? ⟨bs, 0, none⟩ = some (.pointer (some ⟨p, 0, none⟩))) (hbl : bs < w.heap.size) :
    Calls Tryz.prog 107 #[.agg #[.int .i64 x.K, .int .i64 x.N, .int .i64 x.id], .pointer (some ⟨bs, 0, none⟩)] w fun e w' => e = .returned (.bool (rpB s x)) ∧ Below w.heap.size w w' := by
  have HB : Hid (Below w.heap.size w (w.alloc (.cells #[.int .i64 x.K, .int .i64 x.N, .int .i64 x.id] 171))) := (Below.refl _ _).alloc (Nat.le_refl _) _
  have WR := wripe_any (h.up HB.out) x hx
  have q0 : (w.alloc (.cells #[.int .i64 x.K, .int .i64 x.N, .int .i64 x.id] 171)).cell? ⟨bs, 0, none⟩ = some (.pointer (some ⟨p, 0, none⟩)) := (HB.out.cell (p := ⟨bs, 0, none⟩) hbl).trans hbs
  clear h
  go_enter Tryz.func107, Tryz.ntmps107
  go_wp2_with (first | (go_at_call 108; refine Hid.out ?_))
  change Calls _ _ _ _ _
  refine WR.mono ?_
  clear WR
  rintro r w1 ⟨rfl, hb1⟩
  have HB1 : Hid (Below w.heap.size w w1) := HB.out.trans (hb1.mono HB.out.size)
  clear hb1
  go_wp2_with fail
  go_ret
  exact ⟨rfl, HB1.out⟩
set_option maxHeartbeats 2000000 in
theorem windex_any (h : GW w0 w p dp s ops κ) (x : Wt) (hx : -9223372036854775808 ≤ x.id ∧ x.id ≤ 9223372036854775807) (bs g cap : Nat) (hbs : w.cell? ⟨bs, 0, none⟩ = some (.pointer (some ⟨p, 0, none⟩))) (hbl : bs < w.heap.size) (hg0 : w.cell? ⟨g, 0, none⟩ = some (.int .i64 x.K)) (hg1 : w.cell? ⟨g, 1, none⟩ = some (.int .i64 x.N)) (hg2 : w.cell? ⟨g, 2, none⟩ = some (.int .i64 x.id)) :
    Calls Tryz.prog 106 #[.slice (some ⟨g, 0, none⟩) 1 cap, .func (.func 107) #[] #[.pointer (some ⟨bs, 0, none⟩)]] w fun e w' => e = .returned (.int .i64 (if rpB s x then 0 else -1)) ∧ Below w.heap.size w w' := by
  have HH : Hid (GW w0 w p dp s ops κ) := h
  have CL := wripe1_any h x hx bs hbs hbl
  have eg : ∀ args w, (callFunc 107 args).run Tryz.prog w = .ok (.enter 107 args) w := enters_of Tryz.func107 (by kernel_rfl) rfl
  clear h
  obtain ⟨rb, hrb⟩ : ∃ rb, rpB s x = rb := ⟨_, rfl⟩
  rw [hrb] at CL ⊢
  clear hrb
  go_enter Tryz.func106, Tryz.ntmps106
  go_wp2_with fail
  go_loopg [5, 8] 1 (fun gg _ t8 W => ∃ (gw : World) (k : Nat), gw = W ∧ k ≤ 1 ∧ 1 - k ≤ gg ∧ t8 = .int .i64 k ∧ Hid ((k = 0 → gw = w) ∧ (k = 1 → rb = false ∧ Below w.heap.size w gw)))
  case atStart => exact ⟨_, 0, rfl, by omega, by omega, rfl, fun _ => rfl, fun h => by omega⟩
  case round =>
    obtain ⟨gw, k, rfl, hk, hgk, rfl, HG⟩ := hrel
    by_cases hk0 : k = 0
    · subst hk0
      obtain rfl : w = gw := (HG.out.1 rfl).symm
      go_wp2_with fail
      refine CL.mono ?_
      clear CL
      rintro r w1 ⟨rfl, hb1⟩
      have HB1 : Hid (Below w.heap.size w w1) := hb1
      clear hb1
      cases rb with
      | true =>
        go_wp2_with fail
        go_ret
        exact ⟨rfl, HB1.out⟩
      | false =>
        go_wp2_with fail
        go_roundg 0
        case measure => omega
        case rel => exact ⟨_, 1, rfl, by omega, by omega, rfl, fun h => by omega, fun _ => ⟨by simp, HB1.out⟩⟩
    · obtain rfl : k = 1 := by omega
      obtain ⟨hrb, hb⟩ := HG.out.2 rfl
      subst hrb
      have HB : Hid (Below w.heap.size w gw) := hb
      clear hb CL
      go_wp2_with fail
      go_ret
      exact ⟨rfl, HB.out⟩
theorem wlen_cell {q n ca : Nat} {ao : Option Addr} (q0 : w.cell? ⟨q, 0, none⟩ = some (.slice ao n ca)) : Calls Tryz.prog 58 #[.pointer (some ⟨q, 0, none⟩)] w fun e w' => e = .returned (.int .i64 (n : Int)) ∧ w' = w := by
  go_enter Tryz.func58, Tryz.ntmps58
  go_wp2
  go_ret
  exact ⟨rfl, rfl⟩
/-- One act that waits. -/
structure Wk1 (w : World) (q g cap : Nat) (x : Wt) : Prop where
  at' : w.heap[q]? = some (.cells #[.slice (some ⟨g, 0, none⟩) 1 cap] 169 (0, 0))
  g0 : w.cell? ⟨g, 0, none⟩ = some (.int .i64 x.K)
  g1 : w.cell? ⟨g, 1, none⟩ = some (.int .i64 x.N)
  g2 : w.cell? ⟨g, 2, none⟩ = some (.int .i64 x.id)
  gq : g ≠ q
  cp : 1 ≤ cap ∧ (cap : Int) ≤ 9223372036854775807
theorem Wk1.gl {q g cap : Nat} {x : Wt} (h : Wk1 w q g cap x) : g < w.heap.size := block_lt_of_cell h.g0
theorem Wk1.ql {q g cap : Nat} {x : Wt} (h : Wk1 w q g cap x) : q < w.heap.size := (Array.getElem?_eq_some_iff.1 h.at').1
theorem Wk1.up {w' : World} {q g cap : Nat} {x : Wt} (h : Wk1 w q g cap x) (hb : Below w.heap.size w w') : Wk1 w' q g cap x :=
  ⟨(hb.block q h.ql).trans h.at', (hb.cell (p := ⟨g, 0, none⟩) h.gl).trans h.g0, (hb.cell (p := ⟨g, 1, none⟩) h.gl).trans h.g1, (hb.cell (p := ⟨g, 2, none⟩) h.gl).trans h.g2, h.gq, h.cp⟩
theorem Wk1.fr {w' : World} {S : Nat → Prop} {q g cap : Nat} {x : Wt} (h : Wk1 w q g cap x) (hf : Fr S w w') (hq : ¬ S q) (hg : ¬ S g) : Wk1 w' q g cap x :=
  ⟨(hf.blk q h.ql hq).trans h.at', (fr_cell hf (a := ⟨g, 0, none⟩) h.gl hg).trans h.g0, (fr_cell hf (a := ⟨g, 1, none⟩) h.gl hg).trans h.g1, (fr_cell hf (a := ⟨g, 2, none⟩) h.gl hg).trans h.g2, h.gq, h.cp⟩
theorem WkAt.one {base q : Nat} {v : Value} {x : Wt} (h : WkAt w base q v [x]) : ∃ g cap, v = .slice (some ⟨g, 0, none⟩) 1 cap ∧ base ≤ g ∧ Wk1 w q g cap x := by
  have ho := h.ow
  obtain ⟨h1, h2⟩ := h.ow
  rcases h2 with ⟨h2, h3⟩ | ⟨g, cap, cur, hv, hg, hh, hn, hm, hs, hx⟩
  · simp at h3
  · subst hv
    have cell : ∀ j, j < 3 → w.cell? ⟨g, j, none⟩ = (wtL x)[j]? := fun j hj => by
      rw [cell_of_row w g _ _ _ _ hh]
      have e : (cur.toList.take ([x].length * 3))[j]? = (wts [x])[j]? := by rw [hx]
      rw [List.getElem?_take, if_pos (by simp; omega)] at e
      rw [← Array.getElem?_toList, e]
      show (wtL x ++ [])[j]? = _
      rw [List.append_nil]
    refine ⟨g, cap, rfl, hg, ⟨h.at', cell 0 (by omega), cell 1 (by omega), cell 2 (by omega), fun e => h.ne (by rw [e]; rfl), ⟨hn, by unfold maxLen at hm; omega⟩⟩⟩
set_option maxHeartbeats 2000000 in
theorem ripe_not {q g cap : Nat} {x : Wt} (h : GW w0 w p dp s ops κ) (hw : Wk1 w q g cap x) (hx : -9223372036854775808 ≤ x.id ∧ x.id ≤ 9223372036854775807) (hr : rpB s x = false) :
    Calls Tryz.prog 53 #[.pointer (some ⟨q, 0, none⟩), .pointer (some ⟨p, 0, none⟩)] w fun e w' => e = .returned (.slice none 0 0) ∧ Below w.heap.size w w' := by
  have HB : Hid (Below w.heap.size w (w.alloc (.cells #[.pointer (some ⟨p, 0, none⟩)] 30))) := (Below.refl _ _).alloc (Nat.le_refl _) _
  have hw1 := hw.up HB.out
  have q0 : (w.alloc (.cells #[.pointer (some ⟨p, 0, none⟩)] 30)).cell? ⟨q, 0, none⟩ = some (.slice (some ⟨g, 0, none⟩) 1 cap) := (cell_of_row _ _ _ _ _ _ hw1.at').trans rfl
  have IX := windex_any (h.up HB.out) x hx w.heap.size g cap ((cell_of_row _ _ _ _ _ _ (heap_alloc_new _ _)).trans rfl) (by rw [size_alloc]; omega) hw1.g0 hw1.g1 hw1.g2
  rw [hr] at IX
  rw [if_neg (by simp)] at IX
  clear h hw hw1 hr
  go_enter Tryz.func53, Tryz.ntmps53
  go_wp2_with (first | (go_at_call 106; refine Hid.out ?_))
  change Calls _ _ _ _ _
  refine IX.mono ?_
  clear IX
  rintro r w1 ⟨rfl, hb1⟩
  have HB1 : Hid (Below w.heap.size w w1) := HB.out.trans (hb1.mono HB.out.size)
  clear hb1
  go_wp2_with fail
  go_ret
  exact ⟨rfl, HB1.out⟩
end
end Go.Proofs.YthaogbbclocmaaaGreat
/- Package push: Ripe, of one act that is ripe. -/
namespace Go.Proofs.YthaogbbclocmaaaGreat
open Go.RowKit
set_option maxRecDepth 100000
/-- 'append' of one element onto an own row. -/
theorem wpList_app {ops : Array Oper} {rest : List Oper} {o : Oper} {a : Act} {w : World} {Q : Exit → Act → World → Prop} (hgd : o.guard = none) (s x : Operand) (t : TypeId)
    (ho : o.op = .call { callee := .builtin .append, args := #[s, x], argTypes := #[t, t] }) (base e : Nat) (i0 : TypeInfo) (z : Value) (size bytes : Nat) (hu : Tryz.prog.underlying t = some (.slice e)) (hi : Tryz.prog.info? e = some i0) (hz0 : i0.zero = some z) (hz1 : i0.size = size) (hz2 : i0.bytes = bytes) (hz3 : z.cells.size = size) (hsz : 0 < size) (hby : bytes ≤ 1000)
    (n : Nat) (xs ys : List Value) (v : Value) (hs : a.eval s = v) (g c : Nat) (hx : a.eval x = .slice (some ⟨g, 0, none⟩) 1 c) (hown : w.ownsRow base e size v n xs) (hyl : ys.length = size) (hsrc : ∀ j u, ys[j]? = some u → w.cell? ⟨g, j, none⟩ = some u) (hone : ∀ u ∈ ys, u.oneCell' = true) (hbase : base ≤ w.heap.size) (hb : n ≤ 1000000)
    (h : ∀ G cap w', w'.ownsRow base e size (.slice (some ⟨G, 0, none⟩) (n + 1) cap) (n + 1) (xs ++ ys) → w.grownBy w' v.ownBlock → (v.ownBlock = some G ∨ w.heap.size ≤ G) → wpList Tryz.prog ops Q rest (a.put o.dst (.slice (some ⟨G, 0, none⟩) (n + 1) cap)) w') : wpList Tryz.prog ops Q (o :: rest) a w := by
  obtain ⟨G, cap, w', hr, hown', hgr, hat, _⟩ := run_append_lies (P := Tryz.prog) w t o.type base e i0 z size bytes hu hi hz0 hz1 hz2 hz3 hsz v n xs hown ⟨g, 0, none⟩ 1 c ys (by rw [hyl]; omega) (fun j u hj => by rw [addr_add, Nat.zero_add]; exact hsrc j u hj) hone (by omega) (by unfold maxLen; omega) (by
    have : (n + 1) * bytes ≤ 1000001 * 1000 := Nat.mul_le_mul (by omega) hby
    omega) hbase _ rfl
  refine wpList_plain hgd fun K hK => ?_
  unfold Oper.wp execOp
  simp only [ho, resolve, invoke, builtin]
  simp [hs, hx, hr, Result.andThen]
  refine hK _ _ (h G cap w' hown' hgr ?_)
  rcases hat with hat | hat
  · exact .inl hat
  · exact .inr (by omega)
theorem Tryz.infoA : (Tryz.prog.info? 95).map (fun i => (i.zero.map fun z => z.cells.size, i.size, i.bytes)) = some (some 2, 2, 16) := by kernel_rfl
theorem infoA_parts : ∃ i0 z, Tryz.prog.info? 95 = some i0 ∧ i0.zero = some z ∧ z.cells.size = 2 ∧ i0.size = 2 ∧ i0.bytes = 16 := by
  have h := Tryz.infoA
  cases hi : Tryz.prog.info? 95 with
  | none => rw [hi] at h; cases h
  | some i0 =>
    rw [hi] at h
    simp only [Option.map_some, Option.some.injEq, Prod.mk.injEq] at h
    cases hz : i0.zero with
    | none => rw [hz] at h; cases h.1
    | some z =>
      rw [hz] at h
      exact ⟨i0, z, rfl, hz, Option.some.inj h.1, h.2.1, h.2.2⟩
section
variable {w0 w : World} {p dp : Nat} {s : PSt} {ops : Nat → List Int} {κ : Nat}
set_option maxHeartbeats 4000000 in
theorem ripe_yes {q g cap : Nat} {x : Wt} (h : GW w0 w p dp s ops κ) (hw : Wk1 w q g cap x) (hqA : ¬ Ak s q) (hqb : w0.heap.size ≤ q) (hx : -9223372036854775808 ≤ x.id ∧ x.id ≤ 9223372036854775807) (hr : rpB s x = true) :
    Calls Tryz.prog 53 #[.pointer (some ⟨q, 0, none⟩), .pointer (some ⟨p, 0, none⟩)] w fun e w' => ∃ G c, e = .returned (.slice (some ⟨G, 0, none⟩) 1 c) ∧ w'.cell? ⟨G, 1, none⟩ = some (.int .i64 x.N) ∧ w'.cell? ⟨q, 0, none⟩ = some (.slice (some ⟨g, 0, none⟩) 0 0) ∧ Fr (fun k => k = q) w w' ∧ w'.os = w.os ∧ w'.tape = w.tape ∧ w'.output = w.output := by
  have HB : Hid (Below w.heap.size w (w.alloc (.cells #[.pointer (some ⟨p, 0, none⟩)] 30))) := (Below.refl _ _).alloc (Nat.le_refl _) _
  have hw1 := hw.up HB.out
  have q0 : (w.alloc (.cells #[.pointer (some ⟨p, 0, none⟩)] 30)).cell? ⟨q, 0, none⟩ = some (.slice (some ⟨g, 0, none⟩) 1 cap) := (cell_of_row _ _ _ _ _ _ hw1.at').trans rfl
  have IX := windex_any (h.up HB.out) x hx w.heap.size g cap ((cell_of_row _ _ _ _ _ _ (heap_alloc_new _ _)).trans rfl) (by rw [size_alloc]; omega) hw1.g0 hw1.g1 hw1.g2
  rw [hr, if_pos rfl] at IX
  have HH : Hid (GW w0 w p dp s ops κ ∧ Wk1 w q g cap x ∧ ¬ Ak s q) := ⟨h, hw, hqA⟩
  have HRP : Hid (rpB s x = true) := hr
  have hcap1 : (1 : Int) ≤ (cap : Int) := by have := hw.cp.1; omega
  clear h hw hw1 hqA hr
  go_enter Tryz.func53, Tryz.ntmps53
  go_wp2_with (first | (go_at_call 106; refine Hid.out ?_))
  change Calls _ _ _ _ _
  refine IX.mono ?_
  clear IX
  rintro r w1 ⟨rfl, hb1⟩
  have HB1 : Hid (Below w.heap.size w w1) := HB.out.trans (hb1.mono HB.out.size)
  have HBX : Hid (w1.cell? ⟨w.heap.size, 0, none⟩ = some (.pointer (some ⟨p, 0, none⟩))) := (hb1.cell (p := ⟨w.heap.size, 0, none⟩) (by rw [size_alloc]; show w.heap.size < _; omega)).trans ((cell_of_row _ _ _ _ _ _ (heap_alloc_new _ _)).trans rfl)
  have HZX : Hid (w.heap.size < w1.heap.size) := by have := hb1.size; rw [size_alloc] at this; show _ < _; omega
  have hw2 := HH.out.2.1.up HB1.out
  have q1 : w1.cell? ⟨q, 0, none⟩ = some (.slice (some ⟨g, 0, none⟩) 1 cap) := (cell_of_row _ _ _ _ _ _ hw2.at').trans rfl
  have f1 : w1.frozen? ⟨q, 0, none⟩ = false := frozen_of_row _ _ 0 _ _ hw2.at'
  have hcz : ¬ cap = 0 := by have := HH.out.2.1.cp.1; omega
  clear hb1 q0 hw2
  go_wp2_with fail
  have hf2 : Fr (fun k => k = q) w1 (w1.setCell ⟨q, 0, none⟩ (.slice (some ⟨g, 0, none⟩) 0 0)) := (Fr.refl _ _).setCell q 0 _ rfl
  have HF2 : Hid (Fr (fun k => k = q) w1 (w1.setCell ⟨q, 0, none⟩ (.slice (some ⟨g, 0, none⟩) 0 0)) ∧ (w1.setCell ⟨q, 0, none⟩ (.slice (some ⟨g, 0, none⟩) 0 0)).os = w.os ∧ (w1.setCell ⟨q, 0, none⟩ (.slice (some ⟨g, 0, none⟩) 0 0)).tape = w.tape ∧ (w1.setCell ⟨q, 0, none⟩ (.slice (some ⟨g, 0, none⟩) 0 0)).output = w.output) := ⟨hf2, HB1.out.os, HB1.out.tape, HB1.out.output⟩
  have HG2 : Hid (GW w0 (w1.setCell ⟨q, 0, none⟩ (.slice (some ⟨g, 0, none⟩) 0 0)) p dp s ops κ) := by
    have hg := HH.out.1.up HB1.out
    exact { hg with pm := hg.pm.fr hf2 fun k hk e => HH.out.2.2 (e ▸ hk), be := hg.be.setCell (by show _ ≤ q; exact hqb) _ }
  have hw2 := HH.out.2.1.up HB1.out
  have g0 : (w1.setCell ⟨q, 0, none⟩ (.slice (some ⟨g, 0, none⟩) 0 0)).cell? ⟨g, 0, none⟩ = some (.int .i64 x.K) := (fr_cell hf2 (a := ⟨g, 0, none⟩) hw2.gl hw2.gq).trans hw2.g0
  have g1 : (w1.setCell ⟨q, 0, none⟩ (.slice (some ⟨g, 0, none⟩) 0 0)).cell? ⟨g, 1, none⟩ = some (.int .i64 x.N) := (fr_cell hf2 (a := ⟨g, 1, none⟩) hw2.gl hw2.gq).trans hw2.g1
  have g2 : (w1.setCell ⟨q, 0, none⟩ (.slice (some ⟨g, 0, none⟩) 0 0)).cell? ⟨g, 2, none⟩ = some (.int .i64 x.id) := (fr_cell hf2 (a := ⟨g, 2, none⟩) hw2.gl hw2.gq).trans hw2.g2
  have qq : (w1.setCell ⟨q, 0, none⟩ (.slice (some ⟨g, 0, none⟩) 0 0)).cell? ⟨q, 0, none⟩ = some (.slice (some ⟨g, 0, none⟩) 0 0) := World.cell?_setCell_same _ _ _ q1
  have bx : (w1.setCell ⟨q, 0, none⟩ (.slice (some ⟨g, 0, none⟩) 0 0)).cell? ⟨w.heap.size, 0, none⟩ = some (.pointer (some ⟨p, 0, none⟩)) := (fr_cell hf2 (a := ⟨w.heap.size, 0, none⟩) HZX.out (by have := HH.out.2.1.ql; show ¬ w.heap.size = q; omega)).trans HBX.out
  have HZ2 : Hid ((w1.setCell ⟨q, 0, none⟩ (.slice (some ⟨g, 0, none⟩) 0 0)).heap.size = w1.heap.size) := by show _ = _; simp [World.setCell]
  have HQQ : Hid ((w1.setCell ⟨q, 0, none⟩ (.slice (some ⟨g, 0, none⟩) 0 0)).cell? ⟨q, 0, none⟩ = some (.slice (some ⟨g, 0, none⟩) 0 0)) := qq
  clear hw2 hf2 q1 f1 qq
  generalize w1.setCell ⟨q, 0, none⟩ (.slice (some ⟨g, 0, none⟩) 0 0) = W2 at *
  go_loopg [6, 9, 38] 1 (fun gg t6 _ t38 W => ∃ (gw : World) (k : Nat) (v : Value), gw = W ∧ t38 = .int .i64 k ∧ k ≤ 1 ∧ 1 - k ≤ gg ∧ v = t6 ∧ Hid ((k = 0 → gw = W2 ∧ v = .slice none 0 0) ∧ (k = 1 → ∃ G c, v = .slice (some ⟨G, 0, none⟩) 1 c ∧ gw.cell? ⟨G, 1, none⟩ = some (.int .i64 x.N) ∧ Below W2.heap.size W2 gw)))
  case atStart => exact ⟨_, 0, _, rfl, rfl, by omega, by omega, rfl, fun _ => ⟨rfl, rfl⟩, fun h => by omega⟩
  case round =>
    obtain ⟨gw, k, v, rfl, rfl, hk, hgk, rfl, HG⟩ := hrel
    by_cases hk0 : k = 0
    · subst hk0
      obtain ⟨e1, rfl⟩ := HG.out.1 rfl
      obtain rfl : W2 = gw := e1.symm
      have HB3 : Hid (Below W2.heap.size W2 (W2.alloc (.cells #[.int .i64 x.K, .int .i64 x.N, .int .i64 x.id] 171))) := (Below.refl _ _).alloc (Nat.le_refl _) _
      have RP := wripe_any (HG2.out.up HB3.out) x hx
      rw [HRP.out] at RP
      have bx3 : (W2.alloc (.cells #[.int .i64 x.K, .int .i64 x.N, .int .i64 x.id] 171)).cell? ⟨w.heap.size, 0, none⟩ = some (.pointer (some ⟨p, 0, none⟩)) := (HB3.out.cell (p := ⟨w.heap.size, 0, none⟩) (by have h1 := HZX.out; have h2 := HZ2.out; show w.heap.size < W2.heap.size; omega)).trans bx
      go_wp2_with (first | (go_at_call 108; refine Hid.out ?_))
      change Calls _ _ _ _ _
      refine RP.mono ?_
      clear RP
      rintro r w4 ⟨rfl, hb4⟩
      have y0 : w4.cell? ⟨W2.heap.size, 0, none⟩ = some (.int .i64 x.K) := (hb4.cell (p := ⟨W2.heap.size, 0, none⟩) (by rw [size_alloc]; show W2.heap.size < _; omega)).trans ((cell_of_row _ _ _ _ _ _ (heap_alloc_new _ _)).trans rfl)
      have y1 : w4.cell? ⟨W2.heap.size, 1, none⟩ = some (.int .i64 x.N) := (hb4.cell (p := ⟨W2.heap.size, 1, none⟩) (by rw [size_alloc]; show W2.heap.size < _; omega)).trans ((cell_of_row _ _ _ _ _ _ (heap_alloc_new _ _)).trans rfl)
      have HB4 : Hid (Below W2.heap.size W2 w4) := HB3.out.trans (hb4.mono HB3.out.size)
      obtain ⟨i0, z, hi0, hz0, hz3, hzs, hzb⟩ := infoA_parts
      have HI : Hid (Tryz.prog.info? 95 = some i0 ∧ i0.zero = some z ∧ z.cells.size = 2 ∧ i0.size = 2 ∧ i0.bytes = 16) := ⟨hi0, hz0, hz3, hzs, hzb⟩
      clear hi0 hz0 hz3 hzs hzb hb4 bx3
      go_wp2_with (first | (at_builtin; refine Hid.out ?_))
      change wpList _ _ _ _ _ _
      refine wpList_app rfl (.tmp 45) (.tmp 48) 101 rfl W2.heap.size 95 i0 z 2 16 Tryz.underlying101 HI.out.1 HI.out.2.1 HI.out.2.2.2.1 HI.out.2.2.2.2 HI.out.2.2.1 (by decide) (by decide) 0 [] [.int .i64 x.K, .int .i64 x.N] _ rfl _ _ rfl (World.ownsRow_nil _ _ _ _) rfl (fun j u hj => (cell_of_row _ _ _ _ _ _ (heap_alloc_new _ _)).trans (by rw [← hj]; rcases j with _ | _ | j <;> rfl)) (fun u hu => by simp at hu; rcases hu with rfl | rfl <;> rfl) (by rw [size_alloc]; have := HB4.out.size; omega) (by omega) ?_
      intro G c w5 ho5 hg5 hat5
      have H5 : Hid (w5.cell? ⟨G, 1, none⟩ = some (.int .i64 x.N) ∧ Below W2.heap.size W2 w5) := by
        refine ⟨?_, (HB4.out.alloc HB4.out.size _).trans ((Below.refl _ _).grown hg5 (by rw [size_alloc]; have := HB4.out.size; omega) (fun k hk => by cases hk))⟩
        obtain ⟨_, h2⟩ := ho5
        rcases h2 with ⟨h2, _⟩ | ⟨G', cap', cur, hv, hg, hh, hn, hm, hs, hx⟩
        · cases h2
        · cases hv
          rw [cell_of_row _ _ _ _ _ _ hh]
          have e : (cur.toList.take ((0 + 1) * 2))[1]? = ([] ++ [Value.int .i64 x.K, Value.int .i64 x.N])[1]? := by rw [hx]
          rw [List.getElem?_take, if_pos (by omega)] at e
          rw [← Array.getElem?_toList, e]
          rfl
      clear ho5 hg5 hat5
      go_wp2_with fail
      go_roundg 0
      case measure => omega
      case rel => exact ⟨_, 1, _, rfl, by go_num, by omega, by omega, rfl, fun h => by omega, fun _ => ⟨G, c, rfl, H5.out⟩⟩
    · obtain rfl : k = 1 := by omega
      obtain ⟨G, c, rfl, hn, hb⟩ := HG.out.2 rfl
      have HE : Hid (gw.cell? ⟨G, 1, none⟩ = some (.int .i64 x.N) ∧ Below W2.heap.size W2 gw) := ⟨hn, hb⟩
      clear hn hb g0 g1 g2 bx
      go_wp2_with fail
      go_ret
      have hql : q < w1.heap.size := by have h1 := HH.out.2.1.ql; have h2 := HB1.out.size; omega
      have hz2 : W2.heap.size = w1.heap.size := HZ2.out
      refine ⟨G, ⟨c, rfl⟩, HE.out.1, (HE.out.2.cell (p := ⟨q, 0, none⟩) (by show q < W2.heap.size; omega)).trans HQQ.out, ⟨by have h1 := HB1.out.size; have h2 := HE.out.2.size; omega, fun k hk hn => ?_, HE.out.2.os.trans HF2.out.2.1, HE.out.2.tape.trans HF2.out.2.2.1, HE.out.2.output.trans HF2.out.2.2.2⟩, HE.out.2.os.trans HF2.out.2.1, HE.out.2.tape.trans HF2.out.2.2.1, HE.out.2.output.trans HF2.out.2.2.2⟩
      have h1 := HB1.out.size
      rw [HE.out.2.block k (by omega), HF2.out.1.blk k (by omega) hn]
      exact HB1.out.block k hk
end
end Go.Proofs.YthaogbbclocmaaaGreat
/- leveelaw12: open; the changes of known. -/
namespace Go.Proofs.YthaogbbclocmaaaGreat
open Go.RowKit
set_option maxRecDepth 100000
theorem results_tmp4 {fn : Func} {t u v x : Tmp} (h : fn.results = #[.tmp t, .tmp u, .tmp v, .tmp x]) (tmps : Array Value) (P : Program) (w : World) :
    (results fn tmps).run P w = .ok (.tuple #[tmps.getD t undef, tmps.getD u undef, tmps.getD v undef, tmps.getD x undef]) w := by
  simp [results, h]
set_option maxHeartbeats 2000000 in
theorem open12_any (w : World) :
    Calls Tryz.prog 35 #[] w fun e w' => ∃ p dp rs s, e = .returned (.tuple #[.pointer (some ⟨p, 0, none⟩), .pointer (some ⟨dp, 0, none⟩), .pointer (some ⟨rs, 0, none⟩), .bool true]) ∧ (s.cnt = 0 ∧ s.C = []) ∧ GW w w' p dp s (fun _ => []) 0 := by
  have NW := new_any w 5 (by omega) (by omega)
  rw [show ((5 : Nat) : Int) = 5 from rfl] at NW
  have RN := fun W => rnew_any 5 (by omega) (by omega) W
  rw [show ((5 : Nat) : Int) = 5 from rfl] at RN
  go_enter Tryz.func35, Tryz.ntmps35
  go_wp2_with fail
  refine NW.mono ?_
  clear NW
  rintro r w1 ⟨dp, dq, rfl, hD1, hb1⟩
  have HD1 : Hid (DiskAt w1 w.heap.size dp 5 false 0 (fun _ => zer) (fun _ => []) dq (fun _ => .slice none 0 0)) := hD1
  have HB1 : Hid (Below w.heap.size w w1) := hb1
  clear hD1 hb1
  go_wp2_with fail
  refine (RN _).mono ?_
  clear RN
  rintro r w2 ⟨rfl, ⟨gb, cb, va, vc, hR2, _, _⟩, hb2⟩
  have HR2 : Hid (RefAt w2 w1.heap.size w1.heap.size 5 false 0 (fun _ => zer :: []) gb cb va vc) := hR2.at'
  have HB2 : Hid (Below w.heap.size w w2) := HB1.out.trans (hb2.mono HB1.out.size)
  have PO := popn_any (HD1.out.below hb2 (Nat.le_refl _)) 5 (by omega) (by omega)
  rw [show ((5 : Nat) : Int) = 5 from rfl] at PO
  clear hR2 hb2 HD1
  go_wp2_with fail
  refine PO.mono ?_
  clear PO
  rintro r w3 ⟨p, cm, bm, cp, mb, rfl, hP2, hb3⟩
  obtain ⟨s2, hs2⟩ : ∃ s2, s2 = newS p cm bm ⟨cp, mb, 0, .slice none 0 0, 5, [], dp, 5, dq, false, 0, fun _ => zer, fun _ => [], fun _ => .slice none 0 0⟩ := ⟨_, rfl⟩
  have hL2 : PL s2 (fun _ => []) [] 0 := by rw [hs2]; exact PL.made rfl ⟨by show 5 ≤ 5; omega, by show 5 ≤ 8; omega⟩ ⟨rfl, rfl⟩ rfl rfl
  rw [← hs2] at hP2
  have e2 : s2.p = p ∧ s2.σ.dp = dp ∧ s2.σ.dn = 5 ∧ s2.cnt = 0 ∧ s2.C = [] := by rw [hs2]; exact ⟨rfl, rfl, rfl, rfl, rfl⟩
  have HG3 : Hid ((s2.cnt = 0 ∧ s2.C = []) ∧ GW w w3 p dp s2 (fun _ => []) 0) := ⟨⟨e2.2.2.2.1, e2.2.2.2.2⟩, hP2, hL2, HB2.out.trans (hb3.mono HB2.out.size), e2.1, e2.2.1, e2.2.2.1⟩
  have RO := ropen_any (HR2.out.below hb3 (Nat.le_refl _)) (by omega)
  clear hs2 hL2 hP2 e2 hb3
  go_wp2_with (first | (go_at_call 13; refine Hid.out ?_))
  change Calls _ _ _ _ _
  refine RO.mono ?_
  clear RO
  rintro r w4 ⟨rfl, v4, hS4⟩
  have HG4 : Hid (GW w w4 p dp s2 (fun _ => []) 0) := HG3.out.2.up hS4.be
  clear hS4
  go_wp2_with fail
  (try simp only [Exit.inBlock, Exit.then])
  refine bodyPost_ret (results_tmp4 rfl _ _ _) rfl ?_
  exact ⟨p, dp, w3.heap.size, s2, rfl, HG3.out.1, HG4.out⟩
section
variable {c1 c2 c3 : Ch}
theorem K3.of3 (h : K3 c1 c2 c3) : ofB [c1, c2, c3] 3 = [c1, c3] := by simp [ofB, h.b1, h.b2, h.b3]
theorem K3.alw3 (h : K3 c1 c2 c3) : alw [c1, c2, c3] 3 = [1] := by
  unfold alw
  rw [h.of3]
  have e : c3.ah.any (holdsB [c1, c2, c3] [1]) = true := List.any_eq_true.2 ⟨2, h.a3', by simp [holdsB, opn, h.i2]⟩
  simp [allowG, h.a1, h.i1, e]
theorem setW_no {al : List Int} {c : Ch} (h : (c.id : Int) ∉ al) : setW al c = c := by unfold setW; rw [if_neg h]
theorem K3.step3 (h : K3 c1 c2 c3) : stepW [c1, c2, c3] 3 = ([setW [1] c1, c2, c3], 1) := by
  unfold stepW rdyN
  rw [show (3 : Int).toNat = 3 from rfl, h.alw3, h.of3]
  have e : nwr (pickC [c1, c3] [1]) = [c1] := by simp [nwr, pickC, h.i1, h.i3, h.w1]
  rw [e, if_neg (by simp)]
  simp [setW_no (c := c2) (al := [1]) (by simp [h.i2]), setW_no (c := c3) (al := [1]) (by simp [h.i3])]
theorem K3.step4 (h : K3 c1 c2 c3) : stepW [setW [1] c1, c2, c3] 4 = ([setW [1] c1, c2, c3], 0) := by
  have hi := (setW_id [1] c1).1
  have hb := (setW_id [1] c1).2
  unfold stepW rdyN
  rw [show (4 : Int).toNat = 4 from rfl]
  have e0 : ofB [setW [1] c1, c2, c3] 4 = [c2] := by simp [ofB, hb, h.b1, h.b2, h.b3]
  have e1 : alw [setW [1] c1, c2, c3] 4 = [] := by
    unfold alw
    rw [e0]
    have e : c2.ah.any (holdsB [setW [1] c1, c2, c3] []) = true := List.any_eq_true.2 ⟨1, h.a2', by simp [holdsB, opn, hi, h.i1]⟩
    simp [allowG, e]
  rw [e1, if_pos (by simp [pickC, nwr])]
theorem K3.round1 (h : K3 c1 c2 c3) : foldW [c1, c2, c3] [3, 4] = ([setW [1] c1, c2, c3], 1) := by
  simp only [foldW, h.step3, h.step4]
theorem K3.left1 (h : K3 c1 c2 c3) : nwr [setW [1] c1, c2, c3] = [c2, c3] := by
  have : (setW [1] c1).wr = true := by unfold setW; rw [if_pos (by simp [h.i1])]
  simp [nwr, this, h.w2, h.w3]
theorem K3.round2 (h : K3 c1 c2 c3) : foldW [c2, c3] [3, 4] = ([setW [2] c2, c3], 1) := by
  have e3 : stepW [c2, c3] 3 = ([c2, c3], 0) := by
    unfold stepW rdyN
    rw [show (3 : Int).toNat = 3 from rfl]
    have e0 : ofB [c2, c3] 3 = [c3] := by simp [ofB, h.b2, h.b3]
    have e1 : alw [c2, c3] 3 = [] := by
      unfold alw
      rw [e0]
      have e : c3.ah.any (holdsB [c2, c3] []) = true := List.any_eq_true.2 ⟨2, h.a3', by simp [holdsB, opn, h.i2]⟩
      simp [allowG, e]
    rw [e1, if_pos (by simp [pickC, nwr])]
  have e4 : stepW [c2, c3] 4 = ([setW [2] c2, c3], 1) := by
    unfold stepW rdyN
    rw [show (4 : Int).toNat = 4 from rfl]
    have e0 : ofB [c2, c3] 4 = [c2] := by simp [ofB, h.b2, h.b3]
    have e1 : alw [c2, c3] 4 = [2] := by
      unfold alw
      rw [e0]
      have e : c2.ah.any (holdsB [c2, c3] []) = false := by
        rw [List.any_eq_false]
        intro i hi
        rw [h.a2 i hi]
        simp [holdsB, opn, h.i2, h.i3]
      simp [allowG, e, h.i2]
    rw [e1, e0]
    have e : nwr (pickC [c2] [2]) = [c2] := by simp [nwr, pickC, h.i2, h.w2]
    rw [e, if_neg (by simp)]
    simp [setW_no (c := c3) (al := [2]) (by simp [h.i3])]
  simp only [foldW, e3, e4]
theorem K3.left2 (h : K3 c1 c2 c3) : nwr [setW [2] c2, c3] = [c3] := by
  have : (setW [2] c2).wr = true := by unfold setW; rw [if_pos (by simp [h.i2])]
  simp [nwr, this, h.w3]
theorem K3.round3 (h : K3 c1 c2 c3) : foldW [c3] [3] = ([setW [3] c3], 1) := by
  have e4 : stepW [c3] 3 = ([setW [3] c3], 1) := by
    unfold stepW rdyN
    rw [show (3 : Int).toNat = 3 from rfl]
    have e0 : ofB [c3] 3 = [c3] := by simp [ofB, h.b3]
    have e1 : alw [c3] 3 = [3] := by
      unfold alw
      rw [e0]
      have e : c3.ah.any (holdsB [c3] []) = false := by
        rw [List.any_eq_false]
        intro i hi
        rcases h.a3 i hi with rfl | rfl <;> simp [holdsB, opn, h.i3]
      simp [allowG, e, h.i3]
    rw [e1, e0]
    have e : nwr (pickC [c3] [3]) = [c3] := by simp [nwr, pickC, h.i3, h.w3]
    rw [e, if_neg (by simp)]
    simp
  simp only [foldW, e4]
theorem K3.left3 (h : K3 c1 c2 c3) : nwr [setW [3] c3] = [] := by
  have : (setW [3] c3).wr = true := by unfold setW; rw [if_pos (by simp [h.i3])]
  simp [nwr, this]
/-- The rounds of known: three writes. -/
theorem K3.rds (h : K3 c1 c2 c3) {C' : List Ch} {n : Nat} (hr : Rds (nxOne 3) [c1, c2, c3] C' n) : n = 3 ∧ C' = [] := by
  have s1 : opn [c1, c2, c3] 3 = true := by simp [opn, h.i3]
  have r3 : Rch [c1, c2, c3] 3 c3.id := by rw [h.i3]; exact .self s1
  have r2 : Rch [c1, c2, c3] 3 c2.id := .ahead (c := c3) (by simp) r3 (by rw [h.i2]; exact h.a3') (by simp [opn])
  cases hr with
  | done hd => exact absurd ((hd.2 3).2 ⟨c3, by simp, r3, by rw [h.b3]; rfl⟩) (by simp)
  | @step _ _ L1 n1 hnx hl hr =>
    obtain rfl : L1 = [3, 4] := asc_ext hnx.1 (by simp) fun x => by
      rw [hnx.2 x]
      constructor
      · rintro ⟨c, hc, _, e⟩
        simp at hc
        rcases hc with rfl | rfl | rfl
        · rw [h.b1] at e; simp; omega
        · rw [h.b2] at e; simp; omega
        · rw [h.b3] at e; simp; omega
      · intro hx
        simp at hx
        rcases hx with rfl | rfl
        · exact ⟨c3, by simp, r3, by rw [h.b3]; rfl⟩
        · exact ⟨c2, by simp, r2, by rw [h.b2]; rfl⟩
    rw [h.round1, h.left1] at hr
    have t3 : Rch [c2, c3] 3 c3.id := by rw [h.i3]; exact .self (by simp [opn, h.i3])
    have t2 : Rch [c2, c3] 3 c2.id := .ahead (c := c3) (by simp) t3 (by rw [h.i2]; exact h.a3') (by simp [opn])
    cases hr with
    | done hd => exact absurd ((hd.2 3).2 ⟨c3, by simp, t3, by rw [h.b3]; rfl⟩) (by simp)
    | @step _ _ L2 n2 hnx2 hl2 hr =>
      obtain rfl : L2 = [3, 4] := asc_ext hnx2.1 (by simp) fun x => by
        rw [hnx2.2 x]
        constructor
        · rintro ⟨c, hc, _, e⟩
          simp at hc
          rcases hc with rfl | rfl
          · rw [h.b2] at e; simp; omega
          · rw [h.b3] at e; simp; omega
        · intro hx
          simp at hx
          rcases hx with rfl | rfl
          · exact ⟨c3, by simp, t3, by rw [h.b3]; rfl⟩
          · exact ⟨c2, by simp, t2, by rw [h.b2]; rfl⟩
      rw [h.round2, h.left2] at hr
      have u3 : Rch [c3] 3 c3.id := by rw [h.i3]; exact .self (by simp [opn, h.i3])
      cases hr with
      | done hd => exact absurd ((hd.2 3).2 ⟨c3, by simp, u3, by rw [h.b3]; rfl⟩) (by simp)
      | @step _ _ L3 n3 hnx3 hl3 hr =>
        obtain rfl : L3 = [3] := asc_ext hnx3.1 (by simp) fun x => by
          rw [hnx3.2 x]
          constructor
          · rintro ⟨c, hc, _, e⟩
            simp at hc
            subst hc
            rw [h.b3] at e; simp; omega
          · intro hx
            simp at hx
            subst hx
            exact ⟨c3, by simp, u3, by rw [h.b3]; rfl⟩
        rw [h.round3, h.left3] at hr
        cases hr with
        | done _ => exact ⟨by simp [h.round1, h.round2, h.round3], rfl⟩
        | @step _ _ L4 n4 hnx4 hl4 _ =>
          exfalso
          cases L4 with
          | nil => simp at hl4
          | cons x r =>
            obtain ⟨c, hc, _⟩ := (hnx4.2 x).1 (by simp)
            cases hc
end
end Go.Proofs.YthaogbbclocmaaaGreat
/- leveelaw12.known. -/
namespace Go.Proofs.YthaogbbclocmaaaGreat
open Go.RowKit
set_option maxRecDepth 100000
/-- Work of which nothing waits, beside a store. -/
structure QK (w : World) (s : PSt) (q : Nat) : Prop where
  at' : w.heap[q]? = some (.cells #[.slice none 0 0] 169 (0, 0))
  no : ¬ Ak s q
section
variable {w0 w : World} {p dp : Nat} {s s' : PSt} {ops : Nat → List Int} {κ : Nat}
theorem QK.run {w' : World} {q : Nat} (h : QK w s q) (hf : Fr (Ak s) w w') (hs : ∀ k, Ak s' k → Ak s k ∨ w.heap.size ≤ k) : QK w' s' q := by
  have hl : q < w.heap.size := (Array.getElem?_eq_some_iff.1 h.at').1
  refine ⟨(hf.blk q hl h.no).trans h.at', fun hA => ?_⟩
  rcases hs q hA with h1 | h1
  · exact h.no h1
  · omega
theorem kp0 (h : GW w0 w p dp s ops κ) (hκ : κ ≤ 1000) (x : UInt8) (n f : Nat) (hn : n < 5) (hf : f + 1 ≤ 256) :
    Calls Tryz.prog 28 #[.pointer (some ⟨p, 0, none⟩), .int .i64 (n : Int), .int .i64 (f : Int), .slice (some ⟨w.heap.size, 0, none⟩) 1 1, .slice none 0 0] (w.alloc (.cells #[bv x] 5 (1, 2))) fun r w' => r = .returned (.tuple #[.int .i64 ((s.cnt + 1 : Nat) : Int), .int .i64 0]) ∧ ∃ s' ops' c, GW w0 w' p dp s' ops' (κ + 1) ∧ PatchS s n f [x] [] s' c ∧ Fr (Ak s) w w' ∧ (∀ k, Ak s' k → Ak s k ∨ w.heap.size ≤ k) := by
  have hb : Below w.heap.size w (w.alloc (.cells #[bv x] 5 (1, 2))) := (Below.refl _ _).alloc (Nat.le_refl _) _
  have hg := h.up hb
  have PT := pw_patch hg.pm hg.pl (by omega) n f (by rw [hg.dn]; exact hn) [x] w.heap.size 0 1 (src_one w x) (by simp) (by simp; omega) none 0 [] (.inl rfl) (.inl ⟨rfl, rfl⟩) (fun b o e => by cases e) (fun hA => by have := h.pm.lt hA; omega) (by simp) (fun i hi => by cases hi)
  rw [hg.p] at PT
  refine PT.mono ?_
  rintro r w' ⟨rfl, s', o', c, hR, hL, hS⟩
  exact ⟨rfl, s', o', c, hg.run hR hL hS.p hS.dp hS.dn, hS, (Fr.of_below hb).trans hR.fr, fun k hk => (hR.sub k hk).imp_right fun e => by have := hb.size; omega⟩
theorem kp1 (h : GW w0 w p dp s ops κ) (hκ : κ ≤ 1000) (x : UInt8) (n f : Nat) (hn : n < 5) (hf : f + 1 ≤ 256) (i : Int) (hi : 1 ≤ i ∧ i ≤ (s.cnt : Int)) :
    Calls Tryz.prog 28 #[.pointer (some ⟨p, 0, none⟩), .int .i64 (n : Int), .int .i64 (f : Int), .slice (some ⟨w.heap.size, 0, none⟩) 1 1, .slice (some ⟨w.heap.size + 1, 0, none⟩) 1 1] ((w.alloc (.cells #[bv x] 5 (1, 2))).alloc (.cells #[.int .i64 i] 2)) fun r w' => r = .returned (.tuple #[.int .i64 ((s.cnt + 1 : Nat) : Int), .int .i64 0]) ∧ ∃ s' ops' c, GW w0 w' p dp s' ops' (κ + 1) ∧ PatchS s n f [x] [i] s' c ∧ Fr (Ak s) w w' ∧ (∀ k, Ak s' k → Ak s k ∨ w.heap.size ≤ k) := by
  have z1 := size_alloc w (.cells #[bv x] 5 (1, 2))
  have z2 := size_alloc (w.alloc (.cells #[bv x] 5 (1, 2))) (.cells #[.int .i64 i] 2)
  have hb1 : Below (w.alloc (.cells #[bv x] 5 (1, 2))).heap.size (w.alloc (.cells #[bv x] 5 (1, 2))) ((w.alloc (.cells #[bv x] 5 (1, 2))).alloc (.cells #[.int .i64 i] 2)) := (Below.refl _ _).alloc (Nat.le_refl _) _
  have hb : Below w.heap.size w ((w.alloc (.cells #[bv x] 5 (1, 2))).alloc (.cells #[.int .i64 i] 2)) := ((Below.refl _ _).alloc (Nat.le_refl _) _).alloc (by omega) _
  have hg := h.up hb
  have hsi := srcI_one (w.alloc (.cells #[bv x] 5 (1, 2))) i
  rw [z1] at hsi
  have PT := pw_patch hg.pm hg.pl (by omega) n f (by rw [hg.dn]; exact hn) [x] w.heap.size 0 1 ((src_one w x).below hb1 (Nat.le_refl _)) (by simp) (by simp; omega) (some ⟨w.heap.size + 1, 0, none⟩) 1 [i] hsi (.inr ⟨_, _, rfl⟩) (fun b o e => by
    cases e
    exact ⟨fun hA => by have := h.pm.lt hA; omega, by omega⟩) (fun hA => by have := h.pm.lt hA; omega) (by simp) (fun j hj => by
    have : j = i := by simpa using hj
    omega)
  rw [hg.p] at PT
  refine PT.mono ?_
  rintro r w' ⟨rfl, s', o', c, hR, hL, hS⟩
  exact ⟨rfl, s', o', c, hg.run hR hL hS.p hS.dp hS.dn, hS, (Fr.of_below hb).trans hR.fr, fun k hk => (hR.sub k hk).imp_right fun e => by have := hb.size; omega⟩
end
set_option maxHeartbeats 8000000 in
theorem known12_any (w : World) : Calls Tryz.prog 44 #[] w fun e w' => e = .returned (.bool true) ∧ Below w.heap.size w w' := by
  have OP := open12_any w
  go_enter Tryz.func44, Tryz.ntmps44
  go_wp2_with (first | (go_at_call 35; refine Hid.out ?_))
  change Calls _ _ _ _ _
  refine OP.mono ?_
  clear OP
  rintro r w1 ⟨p, dp, rs, s1, rfl, he1, hG1⟩
  have HG1 : Hid (GW w w1 p dp s1 (fun _ => []) 0) := hG1
  have HE1 : Hid (s1.cnt = 0 ∧ s1.C = []) := he1
  have NW := wnew_any w1
  clear hG1 he1
  go_wp2_with (first | (go_at_call 47; refine Hid.out ?_))
  change Calls _ _ _ _ _
  refine NW.mono ?_
  clear NW
  rintro r w2 ⟨rfl, hW2, hb2⟩
  have HQ2 : Hid (QK w2 s1 w1.heap.size) := ⟨hW2.at', fun hA => by have := HG1.out.pm.lt hA; omega⟩
  have HG2 : Hid (GW w w2 p dp s1 (fun _ => []) 0) := HG1.out.up hb2
  have HQB : Hid (w.heap.size ≤ w1.heap.size) := HG1.out.be.size
  clear hW2 hb2 HG1
  generalize w1.heap.size = q at *
  have cv := conv_const w2 #[.int .u8 97] 1 1
  have PT := kp0 HG2.out (by omega) 97 3 0 (by omega) (by omega)
  rw [HE1.out.1] at PT
  change Calls _ _ #[.pointer (some ⟨p, 0, none⟩), .int .i64 3, .int .i64 0, .slice (some ⟨w2.heap.size, 0, none⟩) 1 1, .slice none 0 0] (w2.alloc (.cells #[.int .u8 97] 5 (1, 2))) fun r w' => r = .returned (.tuple #[.int .i64 1, .int .i64 0]) ∧ _ at PT
  go_wp2_with (first | (go_at_call 28; refine Hid.out ?_))
  change Calls _ _ _ _ _
  refine PT.mono ?_
  clear PT cv
  rintro r w3 ⟨rfl, s3, o3, c1, hG, hS, hf, hs⟩
  have HG3 : Hid (GW w w3 p dp s3 o3 1) := hG
  have HQ3 : Hid (QK w3 s3 q) := HQ2.out.run hf hs
  have F1 : Hid (c1.id = 1 ∧ c1.b = 3 ∧ c1.wr = false ∧ c1.ah = []) := ⟨by rw [hS.id, HE1.out.1], hS.b, hS.wr, List.eq_nil_iff_forall_not_mem.2 fun i hi => by
    have := hS.ah i hi
    rw [HE1.out.2] at this; cases this⟩
  have HE3 : Hid (s3.cnt = 1 ∧ s3.C = [c1]) := ⟨by rw [hS.cnt, HE1.out.1], by rw [hS.C, HE1.out.2]; rfl⟩
  clear hG hS hf hs HG2 HQ2 HE1
  have cv := conv_const w3 #[.int .u8 98] 1 1
  have PT := kp1 HG3.out (by omega) 98 4 0 (by omega) (by omega) 1 (by have := HE3.out.1; omega)
  rw [HE3.out.1] at PT
  change Calls _ _ #[.pointer (some ⟨p, 0, none⟩), .int .i64 4, .int .i64 0, .slice (some ⟨w3.heap.size, 0, none⟩) 1 1, .slice (some ⟨w3.heap.size + 1, 0, none⟩) 1 1] ((w3.alloc (.cells #[.int .u8 98] 5 (1, 2))).alloc (.cells #[.int .i64 1] 2)) fun r w' => r = .returned (.tuple #[.int .i64 2, .int .i64 0]) ∧ _ at PT
  go_wp2_with (first | (go_at_call 28; refine Hid.out ?_))
  change Calls _ _ _ _ _
  refine PT.mono ?_
  clear PT cv
  rintro r w4 ⟨rfl, s4, o4, c2, hG, hS, hf, hs⟩
  have HG4 : Hid (GW w w4 p dp s4 o4 2) := hG
  have HQ4 : Hid (QK w4 s4 q) := HQ3.out.run hf hs
  have F2 : Hid (c2.id = 2 ∧ c2.b = 4 ∧ c2.wr = false ∧ (1 : Int) ∈ c2.ah ∧ ∀ i ∈ c2.ah, i = 1) := ⟨by rw [hS.id, HE3.out.1], hS.b, hS.wr, hS.tp 1 (by simp) (by rw [HE3.out.1]; rfl) (by rw [HE3.out.2]; simp [opn, F1.out.1]), fun i hi => by
    have := hS.ah i hi
    rw [HE3.out.2] at this
    simp [opn, F1.out.1] at this
    omega⟩
  have HE4 : Hid (s4.cnt = 2 ∧ s4.C = [c1, c2]) := ⟨by rw [hS.cnt, HE3.out.1], by rw [hS.C, HE3.out.2]; rfl⟩
  clear hG hS hf hs HG3 HQ3 HE3
  have cv := conv_const w4 #[.int .u8 99] 1 1
  have PT := kp1 HG4.out (by omega) 99 3 1 (by omega) (by omega) 2 (by have := HE4.out.1; omega)
  rw [HE4.out.1] at PT
  change Calls _ _ #[.pointer (some ⟨p, 0, none⟩), .int .i64 3, .int .i64 1, .slice (some ⟨w4.heap.size, 0, none⟩) 1 1, .slice (some ⟨w4.heap.size + 1, 0, none⟩) 1 1] ((w4.alloc (.cells #[.int .u8 99] 5 (1, 2))).alloc (.cells #[.int .i64 2] 2)) fun r w' => r = .returned (.tuple #[.int .i64 3, .int .i64 0]) ∧ _ at PT
  go_wp2_with (first | (go_at_call 28; refine Hid.out ?_))
  change Calls _ _ _ _ _
  refine PT.mono ?_
  clear PT cv
  rintro r w5 ⟨rfl, s5, o5, c3, hG, hS, hf, hs⟩
  have HG5 : Hid (GW w w5 p dp s5 o5 3) := hG
  have HQ5 : Hid (QK w5 s5 q) := HQ4.out.run hf hs
  have HK3 : Hid (K3 c1 c2 c3) := ⟨F1.out.1, F2.out.1, by rw [hS.id, HE4.out.1], F1.out.2.1, F2.out.2.1, hS.b, F1.out.2.2.1, F2.out.2.2.1, hS.wr, F1.out.2.2.2, F2.out.2.2.2.2, F2.out.2.2.2.1, fun i hi => by
    have := hS.ah i hi
    rw [HE4.out.2] at this
    simp [opn, F1.out.1, F2.out.1] at this
    omega, hS.tp 2 (by simp) (by rw [HE4.out.1]; rfl) (by rw [HE4.out.2]; simp [opn, F2.out.1])⟩
  have HE5 : Hid (s5.cnt = 3 ∧ s5.C = [c1, c2, c3]) := ⟨by rw [hS.cnt, HE4.out.1], by rw [hS.C, HE4.out.2]; rfl⟩
  clear hG hS hf hs HG4 HQ4 HE4 F1 F2
  have hz5 : w.heap.size ≤ w5.heap.size := HG5.out.be.size
  have LT := later_any (w := w5) (base := w.heap.size) (q := q) (v := .slice none 0 0) (l := []) ⟨HQ5.out.at', World.ownsRow_nil _ _ _ _, by simp [Value.ownBlock], HQB.out⟩ 3 1 7 (by omega) (by simp) hz5
  go_wp2_with (first | (go_at_call 48; refine Hid.out ?_))
  change Calls _ _ _ _ _
  refine LT.mono ?_
  clear LT
  rintro r w6 ⟨rfl, v6, hW6, hf6, hb6, hn6⟩
  obtain ⟨g6, c6, rfl, hg6, hk6⟩ := hW6.one
  have hpm6 : PM w6 w.heap.size s5 o5 := HG5.out.pm.fr hf6 fun k hk e => by
    rcases e with e | e
    · exact HQ5.out.no (e ▸ hk)
    · cases e
  have HG6 : Hid (GW w w6 p dp s5 o5 3) := { HG5.out with pm := hpm6, be := HG5.out.be.trans hb6 }
  have HW6 : Hid (Wk1 w6 q g6 c6 ⟨1, 7, 3⟩ ∧ ¬ Ak s5 q ∧ ¬ Ak s5 g6) := ⟨hk6, HQ5.out.no, fun hA => by
    rcases hn6 g6 rfl with e | e
    · cases e
    · have := HG5.out.pm.lt hA; omega⟩
  have HRP : Hid (rpB s5 ⟨1, 7, 3⟩ = false) := by
    show rpB s5 ⟨1, 7, 3⟩ = false
    unfold rpB
    have hf : ¬ s5.fC 3 = 0 := by
      rw [HG5.out.pl.fc]
      have := lkC_at HG5.out.pl.asc (c := c3) (by rw [HE5.out.2]; simp)
      rw [HK3.out.i3] at this
      show ¬ lkC s5.C ((3 : Nat) : Int) = 0
      rw [this]; omega
    simp [hf]
  have RN := ripe_not HG6.out HW6.out.1 (by show _ ≤ (3 : Int) ∧ (3 : Int) ≤ _; omega) HRP.out
  clear hW6 hf6 hb6 hn6 hk6 hg6 HG5 HQ5 hz5 hpm6
  go_wp2_with (first | (go_at_call 53; refine Hid.out ?_))
  change Calls _ _ _ _ _
  refine RN.mono ?_
  clear RN
  rintro r w7 ⟨rfl, hb7⟩
  have HG7 : Hid (GW w w7 p dp s5 o5 3) := HG6.out.up hb7
  have HW7 : Hid (Wk1 w7 q g6 c6 ⟨1, 7, 3⟩) := HW6.out.1.up hb7
  have ON := one_any HG7.out 100 (by rw [HE5.out.2]; simp) (by omega) 3 (by omega)
  clear hb7 HG6
  go_wp2_with (first | (go_at_call 39; refine Hid.out ?_))
  change Calls _ _ _ _ _
  refine ON.mono ?_
  clear ON
  rintro r w8 ⟨n, s8, o8, rfl, hG8, hr8, hc8, hf8, hs8⟩
  rw [HE5.out.2] at hr8
  obtain ⟨rfl, hC8⟩ := HK3.out.rds hr8
  have HG8 : Hid (GW w w8 p dp s8 o8 100) := hG8
  have HE8 : Hid (s8.cnt = 3 ∧ s8.C = []) := ⟨hc8.trans HE5.out.1, hC8⟩
  have HW8 : Hid (Wk1 w8 q g6 c6 ⟨1, 7, 3⟩ ∧ ¬ Ak s8 q) := ⟨HW7.out.fr hf8 HW6.out.2.1 HW6.out.2.2, fun hA => by
    rcases hs8 q hA with e | e
    · exact HW6.out.2.1 e
    · have := HW7.out.ql; omega⟩
  have HF8 : Hid (s8.fC 3 = 0) := by show s8.fC 3 = 0; rw [hG8.pl.fc, hC8]; rfl
  have RY := ripe_yes HG8.out HW8.out.1 HW8.out.2 HQB.out (by show _ ≤ (3 : Int) ∧ (3 : Int) ≤ _; omega) (by unfold rpB; simp [HE8.out.1, HF8.out])
  rw [show ((3 : Nat) : Int) = 3 from rfl]
  clear hG8 hr8 hc8 hf8 hs8 hC8 HG7 HW7 HW6 HRP
  go_wp2_with (first | (go_at_call 53; refine Hid.out ?_))
  change Calls _ _ _ _ _
  refine RY.mono ?_
  clear RY
  rintro r w9 ⟨G, c, rfl, hn9, hq9, hf9, ho9, ht9, hu9⟩
  have HG9 : Hid (GW w w9 p dp s8 o8 100) := { HG8.out with pm := HG8.out.pm.fr hf9 (fun k hk e => HW8.out.2 (e ▸ hk)), be := HG8.out.be.trans ⟨ho9, ht9, hu9, hf9.size, fun k hk => hf9.blk k (by have := HG8.out.be.size; omega) (fun e => by have := HQB.out; omega)⟩ }
  have SF := psafe_any HG9.out.pm 3 (by omega)
  rw [HG9.out.p, decide_eq_true (show 1 ≤ (3 : Int) ∧ (3 : Int) ≤ (s8.cnt : Int) ∧ s8.fC 3 = 0 from ⟨by omega, by rw [HE8.out.1]; omega, HF8.out⟩)] at SF
  have LE := wlen_cell hq9
  clear hf9 ho9 ht9 hu9
  go_wp2_with (first | (go_at_call 29; refine Hid.out ?_))
  change Calls _ _ _ _ _
  refine SF.mono ?_
  clear SF
  rintro r wx ⟨rfl, hwx⟩
  obtain rfl : w9 = wx := hwx.symm
  go_wp2_with (first | (go_at_call 58; refine Hid.out ?_))
  change Calls _ _ _ _ _
  refine LE.mono ?_
  clear LE
  rintro r wy ⟨rfl, hwy⟩
  obtain rfl : w9 = wy := hwy.symm
  go_wp2_with fail
  go_ret
  exact ⟨rfl, HG9.out.be⟩
end Go.Proofs.YthaogbbclocmaaaGreat
