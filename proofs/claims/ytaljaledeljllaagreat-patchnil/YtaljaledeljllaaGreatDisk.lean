/- A disk in memory: what its cells hold, and what of it stands behind writes elsewhere. -/
import Derived.Test.YtaljaledeljllaaGreatLentG
import Derived.Deep.MidRow
import Derived.Deep.WholeRow
namespace Go.Proofs.YtaljaledeljllaaGreat
open Go.RowKit
set_option maxRecDepth 100000
/-- The disk at block p, of n blocks: its row of blocks at q; of block i the safe bytes sf i, the slice of its writes vs i, the writes ws i. -/
structure DiskAt (w : World) (base p n : Nat) (en : Bool) (lf : Int) (sf : Nat → List UInt8) (ws : Nat → List (List UInt8)) (q : Nat) (vs : Nat → Value) : Prop where
  pb : base ≤ p
  qb : base ≤ q
  pq : p ≠ q
  nn : n ≤ 4096
  c0 : ∃ c : Nat, n ≤ c ∧ (c : Int) ≤ 9223372036854775807 ∧ w.cell? ⟨p, 0, none⟩ = some (.slice (some ⟨q, 0, none⟩) n c)
  c1 : w.cell? ⟨p, 1, none⟩ = some (.bool en)
  c2 : w.cell? ⟨p, 2, none⟩ = some (.int .i64 lf)
  fp : ∀ o, w.frozen? ⟨p, o, none⟩ = false
  fq : ∀ o, w.frozen? ⟨q, o, none⟩ = false
  ql : q < w.heap.size
  row : ∀ i, i < n → w.rangeAt q (i * 257) (bvs (sf i)) ∧ (sf i).length = 256 ∧ w.cell? ⟨q, i * 257 + 256, none⟩ = some (vs i)
  wr : ∀ i, i < n → w.ownsRow base 111 256 (vs i) (ws i).length ((ws i).flatMap bvs) ∧ (∀ x ∈ ws i, x.length = 256) ∧ (vs i).ownBlock ≠ some p ∧ (vs i).ownBlock ≠ some q
  ap : ∀ i j, i < n → j < n → i ≠ j → (vs i).ownBlock = none ∨ (vs i).ownBlock ≠ (vs j).ownBlock
theorem owns_below {w w' : World} {base B e size : Nat} {v : Value} {n : Nat} {xs : List Value} (h : w.ownsRow base e size v n xs) (hb : Below B w w') (hB : w.heap.size ≤ B) : w'.ownsRow base e size v n xs := by
  obtain ⟨h1, h2⟩ := h
  refine ⟨h1, ?_⟩
  rcases h2 with h2 | ⟨g, cap, cur, hv, hg, hh, r⟩
  · exact .inl h2
  · have hlt : g < w.heap.size := (Array.getElem?_eq_some_iff.1 hh).1
    exact .inr ⟨g, cap, cur, hv, hg, by rw [hb.block g (by omega)]; exact hh, r⟩
theorem range_below {w w' : World} {b o : Nat} {cs : List Value} (h : w.rangeAt b o cs) {B : Nat} (hb : Below B w w') (hB : b < B) : w'.rangeAt b o cs := fun j v hv => (hb.cell (p := ⟨b, o + j, none⟩) hB).trans (h j v hv)
theorem DiskAt.pl {w : World} {base p n : Nat} {en : Bool} {lf : Int} {sf : Nat → List UInt8} {ws : Nat → List (List UInt8)} {q : Nat} {vs : Nat → Value} (h : DiskAt w base p n en lf sf ws q vs) : p < w.heap.size := h.c0.elim fun _ hc => block_lt_of_cell hc.2.2
theorem DiskAt.below {w w' : World} {base p n : Nat} {en : Bool} {lf : Int} {sf : Nat → List UInt8} {ws : Nat → List (List UInt8)} {q : Nat} {vs : Nat → Value} (h : DiskAt w base p n en lf sf ws q vs) {B : Nat} (hb : Below B w w') (hB : w.heap.size ≤ B) : DiskAt w' base p n en lf sf ws q vs := by
  have hp := h.pl
  have hq := h.ql
  exact {
    pb := h.pb, qb := h.qb, pq := h.pq, nn := h.nn,
    c0 := h.c0.imp fun _ hc => ⟨hc.1, hc.2.1, (hb.cell (p := ⟨p, 0, none⟩) (show p < B by omega)).trans hc.2.2⟩,
    c1 := (hb.cell (p := ⟨p, 1, none⟩) (show p < B by omega)).trans h.c1,
    c2 := (hb.cell (p := ⟨p, 2, none⟩) (show p < B by omega)).trans h.c2,
    fp := fun o => (hb.frozen (p := ⟨p, o, none⟩) (show p < B by omega)).trans (h.fp o),
    fq := fun o => (hb.frozen (p := ⟨q, o, none⟩) (show q < B by omega)).trans (h.fq o),
    ql := by have := hb.size; omega,
    row := fun i hi => ⟨range_below (h.row i hi).1 hb (by omega), (h.row i hi).2.1, (hb.cell (p := ⟨q, i * 257 + 256, none⟩) (show q < B by omega)).trans (h.row i hi).2.2⟩,
    wr := fun i hi => ⟨owns_below (h.wr i hi).1 hb hB, (h.wr i hi).2⟩,
    ap := h.ap }
section
variable {w : World} {base p n : Nat} {en : Bool} {lf : Int} {sf : Nat → List UInt8} {ws : Nat → List (List UInt8)} {q : Nat} {vs : Nat → Value}
set_option maxHeartbeats 1000000 in
theorem find_any (h : DiskAt w base p n en lf sf ws q vs) (b : Nat) (hb : b < n) :
    Calls Tryz.prog 70 #[.pointer (some ⟨p, 0, none⟩), .int .i64 (b : Int)] w fun e w' => e = .returned (.tuple #[.pointer (some ⟨q, b * 257, none⟩), .int .i64 0]) ∧ w' = w := by
  have hn := h.nn
  obtain ⟨cq, hcq1, hcq2, c0⟩ := h.c0
  have hb' : (b : Int) < n := by omega
  have hn' : (n : Int) ≤ 4096 := by omega
  clear h
  go_enter Tryz.func70, Tryz.ntmps70
  go_wp2
  go_ret2
  exact ⟨rfl, rfl⟩
set_option maxHeartbeats 1000000 in
theorem find_out (h : DiskAt w base p n en lf sf ws q vs) (b : Int) (hb : b < 0 ∨ (n : Int) ≤ b) (hbb : -9223372036854775808 ≤ b ∧ b ≤ 9223372036854775807) :
    Calls Tryz.prog 70 #[.pointer (some ⟨p, 0, none⟩), .int .i64 b] w fun e w' => e = .returned (.tuple #[.pointer none, .int .i64 3]) ∧ w' = w := by
  have hn := h.nn
  obtain ⟨cq, hcq1, hcq2, c0⟩ := h.c0
  have hn' : (n : Int) ≤ 4096 := by omega
  clear h
  rcases hb with hb | hb
  · go_enter Tryz.func70, Tryz.ntmps70
    go_wp2
    go_ret2
    exact ⟨rfl, rfl⟩
  · have hb0 : ¬ b < 0 := by omega
    go_enter Tryz.func70, Tryz.ntmps70
    go_wp2
    go_ret2
    exact ⟨rfl, rfl⟩
set_option maxHeartbeats 1000000 in
theorem find_nil (w : World) (b : Int) :
    Calls Tryz.prog 70 #[.pointer none, .int .i64 b] w fun e w' => e = .returned (.tuple #[.pointer none, .int .i64 2]) ∧ w' = w := by
  go_enter Tryz.func70, Tryz.ntmps70
  go_wp2
  go_ret2
  exact ⟨rfl, rfl⟩
set_option maxHeartbeats 1000000 in
theorem len_any (h : DiskAt w base p n en lf sf ws q vs) :
    Calls Tryz.prog 52 #[.pointer (some ⟨p, 0, none⟩)] w fun e w' => e = .returned (.int .i64 (n : Int)) ∧ w' = w := by
  obtain ⟨cq, hcq1, hcq2, c0⟩ := h.c0
  clear h
  go_enter Tryz.func52, Tryz.ntmps52
  go_wp2
  go_ret
  exact ⟨rfl, rfl⟩
set_option maxHeartbeats 1000000 in
theorem len_nil (w : World) : Calls Tryz.prog 52 #[.pointer none] w fun e w' => e = .returned (.int .i64 0) ∧ w' = w := by
  go_enter Tryz.func52, Tryz.ntmps52
  go_wp2
  go_ret
  exact ⟨rfl, rfl⟩
theorem DiskAt.len (h : DiskAt w base p n en lf sf ws q vs) (b : Nat) (hb : b < n) : ∃ ao cap, vs b = .slice ao (ws b).length cap := by
  obtain ⟨_, h2⟩ := (h.wr b hb).1
  rcases h2 with ⟨h2, h3⟩ | ⟨g, cap, _, hv, _⟩
  · exact ⟨none, 0, by rw [h2, h3]⟩
  · exact ⟨_, cap, hv⟩
set_option maxHeartbeats 1000000 in
theorem writes_any (h : DiskAt w base p n en lf sf ws q vs) (b : Nat) (hb : b < n) :
    Calls Tryz.prog 87 #[.pointer (some ⟨p, 0, none⟩), .int .i64 (b : Int)] w fun e w' => e = .returned (.int .i64 ((ws b).length : Int)) ∧ w' = w := by
  obtain ⟨ao, cap, hv⟩ := h.len b hb
  have cw := (h.row b hb).2.2
  rw [hv] at cw
  have FIND := find_any h b hb
  clear h hv
  go_enter Tryz.func87, Tryz.ntmps87
  go_wp2_with fail
  refine FIND.mono ?_
  rintro e w1 ⟨rfl, rfl⟩
  clear FIND
  go_wp2
  go_ret
  exact ⟨rfl, rfl⟩
set_option maxHeartbeats 1000000 in
theorem writes_out (h : DiskAt w base p n en lf sf ws q vs) (b : Int) (hb : b < 0 ∨ (n : Int) ≤ b) (hbb : -9223372036854775808 ≤ b ∧ b ≤ 9223372036854775807) :
    Calls Tryz.prog 87 #[.pointer (some ⟨p, 0, none⟩), .int .i64 b] w fun e w' => e = .returned (.int .i64 0) ∧ w' = w := by
  have FIND := find_out h b hb hbb
  clear h
  go_enter Tryz.func87, Tryz.ntmps87
  go_wp2_with fail
  refine FIND.mono ?_
  rintro e w1 ⟨rfl, rfl⟩
  clear FIND
  go_wp2
  go_ret
  exact ⟨rfl, rfl⟩
set_option maxHeartbeats 1000000 in
theorem stopped_any (h : DiskAt w base p n en lf sf ws q vs) :
    Calls Tryz.prog 155 #[.pointer (some ⟨p, 0, none⟩)] w fun e w' => e = .returned (.bool (en && (lf == 0))) ∧ w' = w := by
  have c1 := h.c1
  have c2 := h.c2
  clear h
  cases en with
  | false =>
    go_enter Tryz.func155, Tryz.ntmps155
    go_wp2
    go_ret
    exact ⟨rfl, rfl⟩
  | true =>
    go_enter Tryz.func155, Tryz.ntmps155
    go_wp2
    go_ret
    exact ⟨rfl, rfl⟩
end
end Go.Proofs.YtaljaledeljllaaGreat
