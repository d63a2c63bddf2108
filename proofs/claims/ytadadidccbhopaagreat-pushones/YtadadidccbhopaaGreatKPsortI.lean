/- slices.Sort, Compact at rows of int of the call's own. -/
import Derived.Test.YtadadidccbhopaaGreatJPafter3
import Derived.Test.YtadadidccbhopaaGreatKShelfB
namespace Go.Proofs.YtadadidccbhopaaGreat
open Go.RowKit Go.Sort
set_option maxRecDepth 100000
theorem OwnI.put {w : World} {base g cap n : Nat} {os : Array Obj} {l l' : List Int} (h : OwnI w base (.slice (some ⟨g, 0, none⟩) l.length cap) l) (hl : l'.length ≤ l.length) (r : List Int) (hr : l'.length + r.length = l.length) :
    OwnI (grow (putRow (Value.int .i64) (Sort.ahead w n) g 0 (l' ++ r).toArray) os) base (.slice (some ⟨g, 0, none⟩) l'.length cap) l' := by
  obtain ⟨h1, h2⟩ := h
  rcases h2 with ⟨h2, _⟩ | ⟨g', cap', cur, hv, hg, hh, hn, hm, hs, hx⟩
  · cases h2
  · simp only [Value.slice.injEq, Option.some.injEq, Addr.mk.injEq] at hv
    obtain ⟨⟨rfl, _, _⟩, _, rfl⟩ := hv
    refine ⟨by simp [ivs_length], .inr ⟨g, cap, _, rfl, hg, heap_sortedI _ hh, by omega, hm, by simp [putCells, hs], ?_⟩⟩
    have ht := take_putCellsI cur (l' ++ r) (by rw [List.length_append, hr]; omega)
    rw [Nat.mul_one, show l'.length = min l'.length (l' ++ r).length by simp, ← List.take_take, ht, List.map_append, List.take_append_of_le_length (by simp), List.take_of_length_le (by simp)]
    rfl
theorem OwnI.holds {w : World} {base g cap : Nat} {l : List Int} (h : OwnI w base (.slice (some ⟨g, 0, none⟩) l.length cap) l) : Holds (Value.int .i64) w g 0 l.toArray ∧ g < w.heap.size ∧ l.length ≤ cap := by
  obtain ⟨h1, h2⟩ := h
  rcases h2 with ⟨h2, _⟩ | ⟨g', cap', cur, hv, hg, hh, hn, hm, hs, hx⟩
  · cases h2
  · simp only [Value.slice.injEq, Option.some.injEq, Addr.mk.injEq] at hv
    obtain ⟨⟨rfl, _, _⟩, _, rfl⟩ := hv
    refine ⟨holds_of_blockI hh ?_, (Array.getElem?_eq_some_iff.1 hh).1, hn⟩
    rw [Nat.mul_one] at hx
    exact hx
theorem sortI_own (base g cap : Nat) (l : List Int) (w : World) (h : OwnI w base (.slice (some ⟨g, 0, none⟩) l.length cap) l) (hl : l.length ≤ 1000000) :
    Calls Tryz.prog 133 #[.slice (some ⟨g, 0, none⟩) l.length cap] w fun e w' => e = .returned (.tuple #[]) ∧ OwnI w' base (.slice (some ⟨g, 0, none⟩) l.length cap) (l.mergeSort fun x y => decide (x ≤ y)) ∧ w.grownBy w' (some g) := by
  obtain ⟨h1, h2, _⟩ := h.holds
  refine Calls.mono (AnyM.slices_Sort_int Tryz.sortI g 0 cap l w h1 h2 (by omega)) ?_
  rintro e w' ⟨rfl, n, os, rfl⟩
  have hp := h.put (n := n) (os := os) (l' := l.mergeSort fun x y => decide (x ≤ y)) (by rw [List.length_mergeSort]; exact Nat.le_refl _) [] (by rw [List.length_mergeSort]; simp)
  rw [List.append_nil, List.length_mergeSort] at hp
  exact ⟨rfl, hp, grownBy_sortedI _⟩
theorem compactI_own (base g cap : Nat) (l : List Int) (w : World) (h : OwnI w base (.slice (some ⟨g, 0, none⟩) l.length cap) l) (hl : l.length ≤ 1000000) :
    Calls Tryz.prog 135 #[.slice (some ⟨g, 0, none⟩) l.length cap] w fun e w' => ∃ l' : List Int, e = .returned (.slice (some ⟨g, 0, none⟩) l'.length cap) ∧ l' = Lib.compactUpTo l.toArray l.length ∧ (∀ x, x ∈ l' ↔ x ∈ l) ∧ l'.length ≤ l.length ∧ OwnI w' base (.slice (some ⟨g, 0, none⟩) l'.length cap) l' ∧ w.grownBy w' (some g) := by
  obtain ⟨h1, h2, h3⟩ := h.holds
  have hz : ∀ w, (zeroValue 3).run Tryz.prog w = .ok (.int .i64 0) w := Tryz.zeroValue3
  refine Calls.mono (AnyE.slices_Compact Tryz.compactI (Value.int .i64) (fun _ => rfl) (.intD _ _ _) (.intD _ _ _) 0 hz g 0 cap l.toArray w h1 (by simp; omega) (by simpa using h3)) ?_
  rintro e w' ⟨rfl, n, rfl⟩
  have hle := compact_len l
  refine ⟨Lib.compactUpTo l.toArray l.length, by simp, rfl, compact_mem l, hle, ?_, ?_⟩
  · have hp := h.put (n := n) (os := #[]) (l' := Lib.compactUpTo l.toArray l.length) hle (List.replicate (l.length - (Lib.compactUpTo l.toArray l.length).length) 0) (by simp; omega)
    rw [grow_empty] at hp
    simpa using hp
  · have hg := grownBy_sortedI (w := w) (g := g) (n := n) (os := #[]) (Lib.compactUpTo l.toArray l.length ++ List.replicate (l.length - (Lib.compactUpTo l.toArray l.length).length) 0).toArray
    rw [grow_empty] at hg
    simpa using hg
theorem compact_asc {l : List Int} (h : l.Pairwise (· ≤ ·)) : (Lib.compactUpTo l.toArray l.length).Pairwise (· < ·) := by
  unfold Lib.compactUpTo
  rw [List.pairwise_map]
  have hr : (List.range l.length).Pairwise (· < ·) := List.pairwise_lt_range
  refine ((hr.filter _).imp_of_mem ?_)
  intro a b ha hb hab
  obtain ⟨ha1, _⟩ := List.mem_filter.1 ha
  obtain ⟨hb1, hb2⟩ := List.mem_filter.1 hb
  have hbl := List.mem_range.1 hb1
  unfold Lib.keeps at hb2
  rw [decide_eq_true_eq] at hb2
  have g : ∀ (j : Nat) (hj : j < l.length), l.toArray[j]! = l[j] := fun j hj => by simp [hj]
  have mono : ∀ (i j : Nat) (hi : i < l.length) (hj : j < l.length), i ≤ j → l[i] ≤ l[j] := fun i j hi hj hij => by
    by_cases e : i = j
    · subst e; exact Int.le_refl _
    · exact (List.pairwise_iff_getElem.1 h) i j hi hj (by omega)
  rcases hb2 with hb2 | hb2
  · omega
  · rw [g b hbl, g (b - 1) (by omega)] at hb2
    show l.toArray[a]! < l.toArray[b]!
    rw [g a (by omega), g b hbl]
    have h1 := mono a (b - 1) (by omega) (by omega) (by omega)
    have h2 := mono (b - 1) b (by omega) hbl (by omega)
    omega
theorem sortI_any {base : Nat} {v : Value} (l : List Int) (w : World) (h : OwnI w base v l) (hl : l.length ≤ 1000000) :
    Calls Tryz.prog 133 #[v] w fun e w' => e = .returned (.tuple #[]) ∧ OwnI w' base v (l.mergeSort fun x y => decide (x ≤ y)) ∧ w.grownBy w' v.ownBlock := by
  obtain ⟨ao, ca, rfl, _⟩ := h.form
  rcases (own_at h).2 with ⟨rfl, e2⟩ | ⟨g, rfl, _⟩
  · obtain rfl : l = [] := List.eq_nil_of_length_eq_zero e2
    refine Calls.mono (AnyM.slices_Sort_int_none Tryz.sortI _ _ w) ?_
    rintro e w' ⟨rfl, rfl⟩
    exact ⟨rfl, by simpa using h, World.grownBy.refl _ _⟩
  · exact sortI_own base g ca l w h hl
set_option maxHeartbeats 1000000 in
theorem compactI_none (sp : Option Addr) (c : Nat) (w : World) :
    Calls Tryz.prog 135 #[.slice sp 0 c] w fun e w' => e = .returned (.slice sp 0 c) ∧ w' = w := by
  go_enter Tryz.func135, Tryz.ntmps135
  go_wp2
  go_ret
  exact ⟨rfl, rfl⟩
/-- A row that is sorted, and of each number one. -/
theorem compactI_any {base : Nat} {v : Value} (l : List Int) (w : World) (h : OwnI w base v l) (hl : l.length ≤ 1000000) (hs : l.Pairwise (· ≤ ·)) :
    Calls Tryz.prog 135 #[v] w fun e w' => ∃ v' l', e = .returned v' ∧ OwnI w' base v' l' ∧ l'.Pairwise (· < ·) ∧ (∀ x, x ∈ l' ↔ x ∈ l) ∧ w.grownBy w' v.ownBlock := by
  obtain ⟨ao, ca, rfl, _⟩ := h.form
  rcases (own_at h).2 with ⟨rfl, e2⟩ | ⟨g, rfl, _⟩
  · obtain rfl : l = [] := List.eq_nil_of_length_eq_zero e2
    refine (compactI_none _ _ w).mono ?_
    rintro e w' ⟨rfl, rfl⟩
    exact ⟨_, [], rfl, h, List.Pairwise.nil, fun x => Iff.rfl, World.grownBy.refl _ _⟩
  · refine (compactI_own base g ca l w h hl).mono ?_
    rintro e w' ⟨l', rfl, rfl, hm, _, hO, hg⟩
    exact ⟨_, _, rfl, hO, compact_asc hs, hm, hg⟩
end Go.Proofs.YtadadidccbhopaaGreat
