/- What DiskLoads asks besides: a disk and the document's disk behind a change elsewhere, a crash with no open block, loads that answer no disk. -/
import Derived.Test.YtcmkgcdjjplgdaaRefLoad
namespace Go.Proofs.Ytcmkgcdjjplgdaa
open Go.RowKit
/-- A change of block g alone; new blocks may be there. -/
def Away (w w' : World) (g : Nat) : Prop := w.heap.size ≤ w'.heap.size ∧ ∀ k, k < w.heap.size → k ≠ g → w'.heap[k]? = w.heap[k]?
theorem DiskAt.away {w : World} {base p n : Nat} {en : Bool} {lf : Int} {sf : Nat → List UInt8} {ws : Nat → List (List UInt8)} {q : Nat} {vs : Nat → Value} (h : DiskAt w base p n en lf sf ws q vs) {w' : World} {g : Nat} (ha : Away w w' g) (hg : g < base) : DiskAt w' base p n en lf sf ws q vs := by
  have hpb := h.pb
  have hqb := h.qb
  have hP : w'.heap[p]? = w.heap[p]? := ha.2 p h.pl (by omega)
  have hQ : w'.heap[q]? = w.heap[q]? := ha.2 q h.ql (by omega)
  have cp : ∀ o, w'.cell? ⟨p, o, none⟩ = w.cell? ⟨p, o, none⟩ := fun o => World.cell?_of_block (a := ⟨p, o, none⟩) hP
  have cq : ∀ o, w'.cell? ⟨q, o, none⟩ = w.cell? ⟨q, o, none⟩ := fun o => World.cell?_of_block (a := ⟨q, o, none⟩) hQ
  exact {
    pb := h.pb, qb := h.qb, pq := h.pq, nn := h.nn,
    c0 := h.c0.imp fun _ hc => ⟨hc.1, hc.2.1, (cp 0).trans hc.2.2⟩, c1 := (cp 1).trans h.c1, c2 := (cp 2).trans h.c2,
    fp := fun o => (World.frozen?_of_block (a := ⟨p, o, none⟩) hP).trans (h.fp o),
    fq := fun o => (World.frozen?_of_block (a := ⟨q, o, none⟩) hQ).trans (h.fq o),
    ql := Nat.lt_of_lt_of_le h.ql ha.1,
    row := fun i hi => ⟨fun j v hv => (cq _).trans ((h.row i hi).1 j v hv), (h.row i hi).2.1, (cq _).trans (h.row i hi).2.2⟩,
    wr := fun i hi => by
      obtain ⟨⟨o1, o2⟩, o3⟩ := h.wr i hi
      refine ⟨⟨o1, ?_⟩, o3⟩
      rcases o2 with o2 | ⟨g', cap, cur, hv, hg', hh, r⟩
      · exact .inl o2
      · exact .inr ⟨g', cap, cur, hv, hg', by rw [ha.2 g' (Array.getElem?_eq_some_iff.1 hh).1 (by omega)]; exact hh, r⟩,
    ap := h.ap }
theorem LoadL.away {w : World} {base r k : Nat} {l : List UInt8} {v : Value} {va : Nat → Nat} (h : LoadL w base r k l v va) {w' : World} {g : Nat} (ha : Away w w' g) (hg : g < base) : LoadL w' base r k l v va := by
  have hrb := h.rb
  have hrl : r < w.heap.size := block_lt_of_cell h.c0
  have hR : w'.heap[r]? = w.heap[r]? := ha.2 r hrl (by omega)
  exact {
    c0 := (World.cell?_of_block (a := ⟨r, 0, none⟩) hR).trans h.c0
    c1 := (World.cell?_of_block (a := ⟨r, 1, none⟩) hR).trans h.c1
    c2 := (World.cell?_of_block (a := ⟨r, 2, none⟩) hR).trans h.c2
    f0 := (World.frozen?_of_block (a := ⟨r, 0, none⟩) hR).trans h.f0
    own := by
      obtain ⟨o1, o2⟩ := h.own
      refine ⟨o1, ?_⟩
      rcases o2 with o2 | ⟨g', cap, cur, hv, hg', hh, r⟩
      · exact .inl o2
      · exact .inr ⟨g', cap, cur, hv, hg', by rw [ha.2 g' (Array.getElem?_eq_some_iff.1 hh).1 (by omega)]; exact hh, r⟩
    rb := h.rb, ob := h.ob
    at' := fun i hi => by
      obtain ⟨a1, a2, a3, a4, a5⟩ := h.at' i hi
      exact ⟨(World.cell?_of_block (a := ⟨va i, 0, none⟩) (ha.2 (va i) a4 (by omega))).trans a1, a2, a3, Nat.lt_of_lt_of_le a4 ha.1, a5⟩ }
theorem LoadL.ref {w : World} {base r n : Nat} {l : List UInt8} {v : Value} {va : Nat → Nat} (h : LoadL w base r n l v va) (h1 : 1 ≤ n) (hn : n ≤ 39) : ∃ gb cb, RefAt w base r n false 0 (fun i => blkOf l i :: []) gb cb va (fun _ => 1) := by
  have ho := h.own
  obtain ⟨o1, o2⟩ := h.own
  rcases o2 with ⟨_, o3⟩ | ⟨g, cap, cur, hv, hg, hh, hn2, hm, hs, hx⟩
  · omega
  · subst hv
    refine ⟨g, cap, { nn := by omega, c0 := h.c0, c1 := h.c1, c2 := h.c2, rb := h.rb, gl := (Array.getElem?_eq_some_iff.1 hh).1, cl := ⟨hn2, by unfold maxLen at hm; omega⟩, row := fun i hi => ⟨?_, (h.at' i hi).2.2.2.1, by simp, by simp, by simp, by omega⟩, vers := fun i hi j hj => ?_ }⟩
    · rw [World.ownsRow.cellAt ho i (by omega)]
      simp [rowL, hi]
    · have hj0 : j = 0 := by simp at hj; omega
      subst hj0
      exact (h.at' i hi).1
set_option maxHeartbeats 1000000 in
theorem crash_none {w : World} {base p n : Nat} {en : Bool} {lf : Int} {sf : Nat → List UInt8} {q : Nat} {vs : Nat → Value} (h : DiskAt w base p n en lf sf (fun _ => []) q vs) :
    Calls Try.prog 13 #[.pointer (some ⟨p, 0, none⟩), .slice none 0 0] w fun e w' => e = .returned (.tuple #[]) ∧ DiskAt w' base p n false 0 sf (fun _ => []) q vs ∧ Below base w w' ∧ Away w w' p := by
  have OPEN := open_any h
  have e0 : openL (fun _ => ([] : List (List UInt8))) n = [] := by unfold openL; simp
  rw [e0] at OPEN
  have H : Hid _ := h
  clear h e0
  go_enter Try.func13, Try.ntmps13
  go_wp2_with fail
  refine OPEN.mono ?_
  rintro e w3 ⟨v, rfl, hown, hb3⟩
  clear OPEN
  have hD := H.out.below hb3 (Nat.le_refl _)
  have hbb : base ≤ w.heap.size := by have := H.out.pb; have := H.out.pl; omega
  have f1 := hD.fp 1
  have f2 := hD.fp 2
  have c1 := hD.c1
  have c2 := hD.c2
  have hF := (hD.setEnd false).setLeft 0
  have hbF := ((hb3.mono hbb).setCell hD.pb (p := ⟨p, 1, none⟩) (.bool false)).setCell hD.pb (p := ⟨p, 2, none⟩) (.int .i64 0)
  have hAF : Away w ((w3.setCell ⟨p, 1, none⟩ (.bool false)).setCell ⟨p, 2, none⟩ (.int .i64 0)) p := ⟨by have := hb3.size; simp [World.setCell]; omega, fun k hk hkp => (heap_setCell_other _ ⟨p, 2, none⟩ k _ hkp).trans ((heap_setCell_other _ ⟨p, 1, none⟩ k _ hkp).trans (hb3.block k hk))⟩
  have HF : Hid _ := hF
  have HA : Hid _ := hAF
  obtain ⟨ao, ac, rfl, _, _, _⟩ := hown.form
  clear hF hD H hAF hown
  go_wp2
  refine wp_loop_rounds 1 ?_
  rw [rounds_succ]; go_wp2
  go_end0
  exact ⟨rfl, HF.out, hbF, HA.out⟩
set_option maxHeartbeats 1000000 in
theorem rload_bad (w : World) (sp : Option Addr) (m cap : Nat) (hm : (m : Int) ≤ 10000) (h : m % 256 ≠ 0 ∨ m = 0) :
    Calls Try.prog 21 #[.slice sp m cap] w fun e w' => e = .returned (.tuple #[.pointer none, .int .i64 1]) ∧ w' = w := by
  rcases h with h | rfl
  · have hrem : Int.tmod (m : Int) 256 = ((m % 256 : Nat) : Int) := by
      have := Int.ofNat_tmod m 256
      simpa using this.symm
    have hne : (((m % 256 : Nat) : Int) == 0) = false := beq_eq_false_iff_ne.2 (by omega)
    have hne2 : ¬ ((m % 256 : Nat) : Int) = 0 := by omega
    generalize m % 256 = r at *
    go_enter Try.func21, Try.ntmps21
    go_wp2
    go_ret2
    exact ⟨rfl, rfl⟩
  · go_enter Try.func21, Try.ntmps21
    go_wp2
    go_ret2
    exact ⟨rfl, rfl⟩
theorem flat_takeC (c : Nat) (l : List UInt8) : ∀ k, (List.range k).flatMap (fun i => (l.drop (i * c)).take c) = l.take (k * c)
  | 0 => by simp
  | k + 1 => by
    rw [List.range_succ, List.flatMap_append, flat_takeC c l k]
    simp only [List.flatMap_cons, List.flatMap_nil, List.append_nil]
    rw [Nat.add_mul, Nat.one_mul, List.take_add]
/-- All blocks of l, one behind the other, are l. -/
theorem flat_blk (l : List UInt8) (n : Nat) (hl : l.length = n * 256) (y : Nat → List UInt8) (hy : ∀ i, i < n → y i = blkOf l i) : (List.range n).flatMap y = l := by
  have e : (List.range n).flatMap y = (List.range n).flatMap (blkOf l) := by
    rw [List.flatMap_def, List.flatMap_def, List.map_congr_left (fun i hi => hy i (List.mem_range.1 hi))]
  have e2 : (List.range n).flatMap (blkOf l) = l.take (n * 256) := flat_takeC 256 l n
  rw [e, e2, List.take_of_length_le (by omega)]
theorem lent_own {w : World} {base g : Nat} {l : List UInt8} (h : Blk w g 5 (l ++ a5)) (hb : base ≤ g) (hl : l.length ≤ 10000) : Own w base (.slice (some ⟨g, 0, none⟩) l.length (l.length + 8)) l :=
  ⟨by simp [bvs_length], .inr ⟨g, l.length + 8, _, rfl, hb, h, by omega, by unfold maxLen; omega, by simp [bvs_length, a5], by rw [Nat.mul_one, List.toList_toArray, bvs_append, List.take_left' (bvs_length l)]⟩⟩
end Go.Proofs.Ytcmkgcdjjplgdaa
