/- The walk of leveelaw01.NumBytes. -/
import Derived.Test.YtmedfjodkeplfaaDoorBytesWalk
import Derived.Deep.RegionWith
namespace Go.Proofs.YtmedfjodkeplfaaDoor
open Go.RowKit
theorem lentArg2 {w : World} {g : Nat} {l : List UInt8} (h : Blk w g 5 (l ++ a5)) : Src w (some ⟨g, 0, none⟩) l := by
  have := h.src.pre l.length
  rw [List.take_left' rfl] at this
  exact this
set_option maxHeartbeats 4000000 in
theorem bytes_walk (n : Nat) (sz : Int) (sp : Option Addr) (cap : Nat) (l : List UInt8) (w : World) (hn : (n : Int) < 18446744073709551616) (hsz : -9223372036854775808 ≤ sz ∧ sz ≤ 9223372036854775807) (ha : Arg w sp cap l) (ht : Tab w) :
    Calls Tryd.prog 3 #[.int .u64 (n : Int), .int .i64 sz, .slice sp l.length cap] w fun e w' => e = .returned (.bool true) ∧ Below w.heap.size w w' := by
  have hw0 : 0 < w.heap.size := block_lt_of_cell (ht 0 (by omega))
  have la := ha.len
  by_cases hr1 : sz < 0
  · go_enter Tryd.func3, Tryd.ntmps3
    go_wp2_with fail
    refine (known_any w ht).mono ?_
    rintro e w1 ⟨rfl, hb⟩
    go_wp2
    go_ret
    exact ⟨rfl, hb⟩
  by_cases hr2 : 100 < sz
  · go_enter Tryd.func3, Tryd.ntmps3
    go_wp2_with fail
    refine (known_any w ht).mono ?_
    rintro e w1 ⟨rfl, hb⟩
    go_wp2
    go_ret
    exact ⟨rfl, hb⟩
  obtain ⟨size, rfl⟩ := Int.eq_ofNat_of_zero_le (show 0 ≤ sz by omega)
  have hmk := make_any w size size (Nat.le_refl _) (by omega)
  have hg0 : Blk (w.alloc (.cells (bvs (List.replicate size 0)).toArray 5)) w.heap.size 5 (List.replicate size 0) := heap_alloc_new _ _
  have hb0 : Below w.heap.size w (w.alloc (.cells (bvs (List.replicate size 0)).toArray 5)) := (Below.refl _ _).alloc (Nat.le_refl _) _
  have PUT := put_any w.heap.size 5 (List.replicate size 0) size n hn _ hg0 (by simp) (by omega)
  rw [List.length_replicate] at PUT
  go_enter Tryd.func3, Tryd.ntmps3
  go_wp2_with fail
  refine PUT.mono ?_
  rintro e w1 ⟨rfl, hg1, hb1⟩
  clear PUT
  replace hb1 := hb0.trans hb1
  have hlt1 := hg1.lt
  go_wp2_with fail
  refine (lent_any sp cap l w1 (ha.below hb1 (Nat.le_refl _))).mono ?_
  rintro e w2 ⟨g0, rfl, hg2, hz2, hb2⟩
  have hs2 := hb2.size
  have hlt2 := hg2.lt
  have hgr : Blk w2 w.heap.size 5 (leB size n) := hg1.below hb2 hlt1
  have hb02 : Below w.heap.size w w2 := hb1.trans (hb2.mono (by omega))
  -- what holds in every world above w2
  have ROOM : ∀ wx, Below w2.heap.size w2 wx → Sem.run Tryd.prog (convert 23 9 (.slice (some ⟨w.heap.size, 0, none⟩) size size)) wx = .ok (.string (str (leB size n))) wx := fun wx h => conv_str (hgr.below h (by omega)).src size size (by rw [leB_length])
  have hB : Below w2.heap.size w2 w2.drew := (Below.refl _ _).drew
  have OWN : ∀ wx, Below w2.heap.size w2 wx → Src wx (some ⟨g0, 0, none⟩) l := fun wx h => lentArg2 (hg2.below h hlt2)
  have ARG : ∀ wx, Below w2.heap.size w2 wx → Src wx sp l := fun wx h => (ha.src.below hb02 (Nat.le_refl _)).below h (by omega)
  have ARG' : ∀ wx, Below w2.heap.size w2 wx → Arg wx sp cap l := fun wx h => (ha.below hb02 (Nat.le_refl _)).below h (by omega)
  have KEPT : ∀ wx, Below w2.heap.size w2 wx → Blk wx g0 5 (l ++ a5) := fun wx h => hg2.below h hlt2
  have TAB : ∀ wx, Below w2.heap.size w2 wx → Tab wx := fun wx h => (ht.below hb02 hw0).below h (by omega)
  go_wp2_with fail
  have r1 := ROOM _ hB
  clear hg0 hb0 hg1 hmk hgr
  go_region_with (first | (go_at_call 11; refine (rbytes_any n size _ hn (by omega)).mono ?_; rintro e wa ⟨v, rfl, hown, hba⟩; replace hB := hB.trans (hba.mono hB.size); have r2 := ROOM _ hB; have r3 : Sem.run Tryd.prog (convert 23 9 v) wa = .ok (.string (str (leB size n))) wa := (by obtain ⟨ao, ac, hf, hs, _⟩ := hown.form; rw [hf]; exact conv_str hs _ _ rfl); clear hown hba) | (go_at_call 12; refine (get_any _ l _ _ ?_).mono ?_; exact OWN _ hB; rintro e wb ⟨rfl, hbb⟩; replace hB := hB.trans (hbb.mono hB.size); clear hbb) | (go_at_call 13; refine (rget_any _ l _ _ ?_ (by omega)).mono ?_; exact ARG _ hB; rintro e wb ⟨rfl, rfl⟩) | (go_at_call 14; refine (sum_any _ l _ _ ?_ ?_ (by omega)).mono ?_; exact OWN _ hB; exact TAB _ hB; rintro e wb ⟨rfl, rfl⟩) | (go_at_call 15; refine (rsum_any _ l _ _ ?_ (by omega)).mono ?_; exact ARG _ hB; rintro e wb ⟨rfl, rfl⟩) | (go_at_call 16; refine (zero_any _ l _ _ ?_ (by omega)).mono ?_; exact OWN _ hB; rintro e wb ⟨rfl, rfl⟩) | (go_at_call 17; refine (rzero_any _ l _ _ ?_ (by omega)).mono ?_; exact ARG _ hB; rintro e wb ⟨rfl, rfl⟩) | (go_at_call 18; refine (kept_any g0 _ _ l _ ?_ ?_).mono ?_; exact KEPT _ hB; exact ARG' _ hB; rintro e wb ⟨rfl, hbb⟩; replace hB := hB.trans (hbb.mono hB.size); clear hbb) | (go_at_call 8; refine (known_any _ ?_).mono ?_; exact TAB _ hB; rintro e wb ⟨rfl, hbb⟩; replace hB := hB.trans (hbb.mono hB.size); clear hbb))
  all_goals
    go_wp2
    go_ret
    exact ⟨rfl, hb02.trans (hB.mono (by omega))⟩
end Go.Proofs.YtmedfjodkeplfaaDoor
