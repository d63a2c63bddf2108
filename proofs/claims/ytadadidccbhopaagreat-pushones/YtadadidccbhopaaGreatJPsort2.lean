/- slices.Clone, Sort, Compact, DeleteFunc at rows of the call's own. -/
import Derived.Test.YtadadidccbhopaaGreatJPimg2
import Derived.Sort.OwnSortedInts
namespace Go.Proofs.YtadadidccbhopaaGreat
open Go.RowKit Go.Sort
set_option maxRecDepth 100000
theorem cloneL_any (sp : Option Addr) (c : Nat) (l : List Int) (w : World) (hs : SrcI w sp l) (hl : l.length ≤ 1000000) (hn : (sp = none ∧ l = []) ∨ ∃ b o, sp = some ⟨b, o, none⟩) :
    Calls Tryz.prog 126 #[.slice sp l.length c] w fun e w' => ∃ v, e = .returned v ∧ OwnL w' w.heap.size v l ∧ Below w.heap.size w w' := by
  rcases hn with ⟨rfl, rfl⟩ | ⟨b, o, rfl⟩
  · refine Calls.mono (AnyE.slices_Clone_nil Tryz.cloneL 0 c w) ?_
    rintro e w' ⟨rfl, rfl⟩
    exact ⟨_, rfl, OwnL.nil _ _, Below.refl _ _⟩
  · obtain ⟨i0, hi, hz0, hz1, hz2⟩ := info_parts Tryz.infoL
    refine Calls.mono (AnyE.slices_Clone Tryz.cloneL i0 _ 1 8 hi hz0 hz1 hz2 rfl (by decide) size2 b o l.length c (ivs l) w (by simp [ivs_length]) (by unfold maxLen; omega) (by omega) (fun j u hj => ?_) (ivs_one _)) ?_
    · have hjl : j < l.length := by have := (List.getElem?_eq_some_iff.1 hj).1; rwa [ivs_length] at this
      rcases hs with h | ⟨b', o', h, _, hc⟩
      · rw [h] at hjl; simp at hjl
      · cases h
        rw [hc j hjl, ← hj]; simp [ivs, hjl]
    · rintro e w' ⟨v, rfl, ho, _, hb⟩
      exact ⟨v, rfl, ho, hb⟩
theorem Tryz.infoU8 : (Tryz.prog.info? 5).map (fun i => (i.zero, i.size, i.bytes)) = some (some (.int .u8 0), 1, 1) := by kernel_rfl
theorem cloneB_any (b o c : Nat) (l : List UInt8) (w : World) (hs : Src w (some ⟨b, o, none⟩) l) (hl : l.length ≤ 1000000) :
    Calls Tryz.prog 91 #[.slice (some ⟨b, o, none⟩) l.length c] w fun e w' => ∃ v, e = .returned v ∧ Own w' w.heap.size v l ∧ Below w.heap.size w w' := by
  cases hi : Tryz.prog.info? 5 with
  | none => have := Tryz.infoU8; rw [hi] at this; cases this
  | some i0 =>
    have h0 := Tryz.infoU8
    rw [hi] at h0
    simp only [Option.map_some, Option.some.injEq, Prod.mk.injEq] at h0
    refine Calls.mono (AnyE.slices_Clone Tryz.cloneB i0 _ 1 1 hi h0.1 h0.2.1 h0.2.2 rfl (by decide) size5 b o l.length c (bvs l) w (by simp [bvs_length]) (by unfold maxLen; omega) (by omega) (fun j u hj => ?_) (bvs_one _)) ?_
    · have hjl : j < l.length := by have := (List.getElem?_eq_some_iff.1 hj).1; rwa [bvs_length] at this
      rw [hs.cell j hjl, ← hj]; simp [bvs, hjl]
    · rintro e w' ⟨v, rfl, ho, _, hb⟩
      exact ⟨v, rfl, ho, hb⟩
/-- A row that is laid anew. -/
theorem OwnL.put {w : World} {base g cap n : Nat} {os : Array Obj} {l l' : List Int} (h : OwnL w base (.slice (some ⟨g, 0, none⟩) l.length cap) l) (hl : l'.length ≤ l.length) (r : List Int) (hr : l'.length + r.length = l.length) :
    OwnL (grow (putRow (Value.int .i64) (Sort.ahead w n) g 0 (l' ++ r).toArray) os) base (.slice (some ⟨g, 0, none⟩) l'.length cap) l' := by
  obtain ⟨h1, h2⟩ := h
  rcases h2 with ⟨h2, _⟩ | ⟨g', cap', cur, hv, hg, hh, hn, hm, hs, hx⟩
  · cases h2
  · simp only [Value.slice.injEq, Option.some.injEq, Addr.mk.injEq] at hv
    obtain ⟨⟨rfl, _, _⟩, _, rfl⟩ := hv
    refine ⟨by simp [ivs_length], .inr ⟨g, cap, _, rfl, hg, heap_sortedI _ hh, by omega, hm, by simp [putCells, hs], ?_⟩⟩
    have ht := take_putCellsI cur (l' ++ r) (by rw [List.length_append, hr]; omega)
    rw [Nat.mul_one, show l'.length = min l'.length (l' ++ r).length by simp, ← List.take_take, ht, List.map_append, List.take_append_of_le_length (by simp), List.take_of_length_le (by simp)]
    rfl
theorem OwnL.holds {w : World} {base g cap : Nat} {l : List Int} (h : OwnL w base (.slice (some ⟨g, 0, none⟩) l.length cap) l) : Holds (Value.int .i64) w g 0 l.toArray ∧ g < w.heap.size ∧ l.length ≤ cap := by
  obtain ⟨h1, h2⟩ := h
  rcases h2 with ⟨h2, _⟩ | ⟨g', cap', cur, hv, hg, hh, hn, hm, hs, hx⟩
  · cases h2
  · simp only [Value.slice.injEq, Option.some.injEq, Addr.mk.injEq] at hv
    obtain ⟨⟨rfl, _, _⟩, _, rfl⟩ := hv
    refine ⟨holds_of_blockI hh ?_, (Array.getElem?_eq_some_iff.1 hh).1, hn⟩
    rw [Nat.mul_one] at hx
    exact hx
theorem sort_own (base g cap : Nat) (l : List Int) (w : World) (h : OwnL w base (.slice (some ⟨g, 0, none⟩) l.length cap) l) (hl : l.length ≤ 1000000) :
    Calls Tryz.prog 105 #[.slice (some ⟨g, 0, none⟩) l.length cap] w fun e w' => e = .returned (.tuple #[]) ∧ OwnL w' base (.slice (some ⟨g, 0, none⟩) l.length cap) (l.mergeSort fun x y => decide (x ≤ y)) ∧ w.grownBy w' (some g) := by
  obtain ⟨h1, h2, _⟩ := h.holds
  refine Calls.mono (AnyM.slices_Sort_int Tryz.sortL g 0 cap l w h1 h2 (by omega)) ?_
  rintro e w' ⟨rfl, n, os, rfl⟩
  have hp := h.put (n := n) (os := os) (l' := l.mergeSort fun x y => decide (x ≤ y)) (by rw [List.length_mergeSort]; exact Nat.le_refl _) [] (by rw [List.length_mergeSort]; simp)
  rw [List.append_nil, List.length_mergeSort] at hp
  exact ⟨rfl, hp, grownBy_sortedI _⟩
theorem compact_mem (l : List Int) (x : Int) : x ∈ Lib.compactUpTo l.toArray l.length ↔ x ∈ l := by
  unfold Lib.compactUpTo
  simp only [List.mem_map, List.mem_filter, List.mem_range]
  constructor
  · rintro ⟨j, ⟨hj, _⟩, rfl⟩
    rw [getElem!_pos l.toArray j (by simpa using hj)]
    simp
  · intro hx
    obtain ⟨j, hj, hjx⟩ := List.getElem_of_mem hx
    have ex : ∃ j, j < l.length ∧ l.toArray[j]! = x := ⟨j, hj, by rw [getElem!_pos l.toArray j (by simpa using hj)]; simpa using hjx⟩
    have hP : ∀ n : Nat, (∃ j, j < n ∧ j < l.length ∧ l.toArray[j]! = x) → ∃ j, j < l.length ∧ l.toArray[j]! = x ∧ ∀ i, i < j → l.toArray[i]! ≠ x := by
      intro n
      induction n with
      | zero => rintro ⟨j, h, _⟩; omega
      | succ n ih =>
        rintro ⟨j, h, h2, h3⟩
        by_cases hex : ∃ i, i < j ∧ l.toArray[i]! = x
        · obtain ⟨i, hi, hix⟩ := hex
          exact ih ⟨i, by omega, by omega, hix⟩
        · exact ⟨j, h2, h3, fun i hi e => hex ⟨i, hi, e⟩⟩
    obtain ⟨j, hj, hjx⟩ := ex
    obtain ⟨j, hj, hjx, hmin⟩ := hP l.length ⟨j, hj, hj, hjx⟩
    refine ⟨j, ⟨hj, ?_⟩, hjx⟩
    unfold Lib.keeps
    rw [decide_eq_true_eq]
    by_cases h0 : j = 0
    · exact .inl h0
    · exact .inr (by rw [hjx]; exact fun e => hmin (j - 1) (by omega) e.symm)
theorem compact_len (l : List Int) : (Lib.compactUpTo l.toArray l.length).length ≤ l.length := by
  unfold Lib.compactUpTo
  rw [List.length_map]
  have := List.length_filter_le (Lib.keeps l.toArray) (List.range l.length)
  simpa using this
theorem compact_own (base g cap : Nat) (l : List Int) (w : World) (h : OwnL w base (.slice (some ⟨g, 0, none⟩) l.length cap) l) (hl : l.length ≤ 1000000) :
    Calls Tryz.prog 129 #[.slice (some ⟨g, 0, none⟩) l.length cap] w fun e w' => ∃ l' : List Int, e = .returned (.slice (some ⟨g, 0, none⟩) l'.length cap) ∧ (∀ x, x ∈ l' ↔ x ∈ l) ∧ l'.length ≤ l.length ∧ OwnL w' base (.slice (some ⟨g, 0, none⟩) l'.length cap) l' ∧ w.grownBy w' (some g) := by
  obtain ⟨h1, h2, h3⟩ := h.holds
  have hz : ∀ w, (zeroValue 2).run Tryz.prog w = .ok (.int .i64 0) w := Tryz.zeroValue2
  refine Calls.mono (AnyE.slices_Compact Tryz.compactL (Value.int .i64) (fun _ => rfl) (.intD _ _ _) (.intD _ _ _) 0 hz g 0 cap l.toArray w h1 (by simp; omega) (by simpa using h3)) ?_
  rintro e w' ⟨rfl, n, rfl⟩
  have hle := compact_len l
  refine ⟨Lib.compactUpTo l.toArray l.length, by simp, compact_mem l, hle, ?_, ?_⟩
  · have hp := h.put (n := n) (os := #[]) (l' := Lib.compactUpTo l.toArray l.length) hle (List.replicate (l.length - (Lib.compactUpTo l.toArray l.length).length) 0) (by simp; omega)
    rw [grow_empty] at hp
    simpa using hp
  · have hg := grownBy_sortedI (w := w) (g := g) (n := n) (os := #[]) (Lib.compactUpTo l.toArray l.length ++ List.replicate (l.length - (Lib.compactUpTo l.toArray l.length).length) 0).toArray
    rw [grow_empty] at hg
    simpa using hg
theorem OwnL.row {w : World} {base g cap : Nat} {l : List Int} (h : OwnL w base (.slice (some ⟨g, 0, none⟩) l.length cap) l) : ∃ r : List Value, w.heap[g]? = some (.cells (ivs l ++ r).toArray 2 (0, 0)) ∧ base ≤ g ∧ l.length + r.length = cap ∧ (cap : Int) ≤ 9223372036854775807 := by
  obtain ⟨h1, h2⟩ := h
  rcases h2 with ⟨h2, _⟩ | ⟨g', cap', cur, hv, hg, hh, hn, hm, hs, hx⟩
  · cases h2
  · simp only [Value.slice.injEq, Option.some.injEq, Addr.mk.injEq] at hv
    obtain ⟨⟨rfl, _, _⟩, _, rfl⟩ := hv
    rw [Nat.mul_one] at hx hs
    refine ⟨cur.toList.drop l.length, ?_, hg, ?_, by unfold maxLen at hm; omega⟩
    · rw [← hx, List.take_append_drop]; exact hh
    · rw [List.length_drop]
      have := Array.length_toList (xs := cur)
      omega
theorem OwnL.some {w : World} {base : Nat} {v : Value} {l : List Int} (h : OwnL w base v l) (hl : 1 ≤ l.length) : ∃ g cap, v = .slice (some ⟨g, 0, none⟩) l.length cap ∧ base ≤ g := by
  obtain ⟨h1, h2⟩ := h
  rcases h2 with ⟨rfl, h3⟩ | ⟨g, cap, cur, rfl, hg, _⟩
  · omega
  · exact ⟨g, cap, rfl, hg⟩
end Go.Proofs.YtadadidccbhopaaGreat
/- slices.Clone of any row of numbers, whatever the address of an empty one. -/
namespace Go.Proofs.YtadadidccbhopaaGreat
open Go.RowKit
set_option maxRecDepth 100000
set_option maxHeartbeats 2000000 in
theorem cloneL_zero (a : Addr) (c : Nat) (w : World) :
    Calls Tryz.prog 126 #[.slice (some a) 0 c] w fun e w' => ∃ v, e = .returned v ∧ OwnL w' w.heap.size v [] ∧ Below w.heap.size w w' := by
  obtain ⟨i0, hi, hz0, hz1, hz2⟩ := info_parts Tryz.infoL
  have q22 : ∀ (w : World) (a : Option Addr) (n c n' c' : Nat), (binOp .eql 37 (.slice a n c) (.slice none n' c')).run Tryz.prog w = .ok (.bool a.isNone) w := fun w a n c n' c' => Lib.run_eql_slice_nil w _ _ a n c n' c' Tryz.underlying37
  go_enter Tryz.func126, Tryz.ntmps126
  go_wp2_with (at_builtin; refine wpList_append_own _ rfl _ _ 37 rfl w.heap.size 2 i0 (.int .i64 0) 1 8 Tryz.underlying37 hi hz0 hz1 hz2 rfl (by decide) _ _ _ rfl (World.ownsRow_made w #[] 0 (Nat.le_refl _) (Nat.zero_le _) rfl) a 0 c [] rfl rfl (by intro j u hj; simp at hj) (by intro u hu; cases hu) (by unfold maxLen; omega) (by omega) (by simp) ?_)
  intro v' w1 hown hgrow hnil
  go_wp2
  go_ret
  refine ⟨v', rfl, by simpa [OwnL, ivs] using hown, ?_⟩
  exact ((Below.refl _ w).alloc (Nat.le_refl _) _).grown hgrow (by simp) (by intro k hk; simp [Value.ownBlock] at hk; omega)
theorem cloneL_gen (sp : Option Addr) (c : Nat) (l : List Int) (w : World) (hs : SrcI w sp l) (hl : l.length ≤ 1000000) :
    Calls Tryz.prog 126 #[.slice sp l.length c] w fun e w' => ∃ v, e = .returned v ∧ OwnL w' w.heap.size v l ∧ Below w.heap.size w w' := by
  by_cases h0 : l = []
  · subst h0
    cases sp with
    | none => exact cloneL_any none c [] w hs hl (.inl ⟨rfl, rfl⟩)
    | some a => exact cloneL_zero a c w
  · rcases hs with h | ⟨b, o, e, hh⟩
    · exact absurd h h0
    · exact cloneL_any sp c l w (.inr ⟨b, o, e, hh⟩) hl (.inr ⟨b, o, e⟩)
end Go.Proofs.YtadadidccbhopaaGreat
