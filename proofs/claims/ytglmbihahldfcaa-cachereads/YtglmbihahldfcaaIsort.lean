/- slices.Sort of at most twelve numbers. -/
import Derived.Test.YtglmbihahldfcaaCops2
import Derived.Deep.QuietTactic
import Derived.BigQuiet
import Derived.RegionTactic
import Derived.ChangeAlike
namespace Go.Proofs.Ytglmbihahldfcaa
open Go.RowKit
set_option maxRecDepth 100000
set_option maxHeartbeats 1000000 in
theorem less_any (x y : Int) (w : World) : Calls Try.prog 86 #[.int .i64 x, .int .i64 y] w fun e w' => e = .returned (.bool (decide (x < y))) ∧ w' = w := by
  have e : decide (x < y) = decide (x < y) := rfl
  go_enter Try.func86, Try.ntmps86
  go_wp2
  go_ret
  exact ⟨rfl, rfl⟩
/-- Rising up to i; up to i but for the place j. -/
def Up (Y : List Int) (i : Nat) : Prop := ∀ a b, a < b → b < i → Y.getD a 0 ≤ Y.getD b 0
def UpBut (Y : List Int) (i j : Nat) : Prop := (∀ a b, a < b → b ≤ i → ¬ a = j → ¬ b = j → Y.getD a 0 ≤ Y.getD b 0) ∧ ∀ b, j < b → b ≤ i → Y.getD j 0 ≤ Y.getD b 0
theorem Up.but {Y : List Int} {i : Nat} (h : Up Y i) : UpBut Y i i := ⟨fun a b hab hb _ hbj => h a b hab (by omega), fun b h1 h2 => by omega⟩
theorem UpBut.done0 {Y : List Int} {i : Nat} (h : UpBut Y i 0) : Up Y (i + 1) := fun a b hab hb => by
  by_cases ha : a = 0
  · subst ha; exact h.2 b hab (by omega)
  · exact h.1 a b hab (by omega) ha (by omega)
theorem UpBut.done {Y : List Int} {i j : Nat} (h : UpBut Y i (j + 1)) (hji : j + 1 ≤ i) (hle : ¬ Y.getD (j + 1) 0 < Y.getD j 0) : Up Y (i + 1) := fun a b hab hb => by
  by_cases ha : a = j + 1
  · subst ha; exact h.2 b hab (by omega)
  · by_cases hbj : b = j + 1
    · subst hbj
      by_cases haj : a = j
      · subst haj; omega
      · have := h.1 a j (by omega) (by omega) ha (by omega)
        omega
    · exact h.1 a b hab (by omega) ha hbj
/-- Two neighbours exchanged. -/
def swp (Y : List Int) (j : Nat) : List Int := (Y.set (j + 1) (Y.getD j 0)).set j (Y.getD (j + 1) 0)
theorem swp_length (Y : List Int) (j : Nat) : (swp Y j).length = Y.length := by simp [swp]
theorem swp_getD (Y : List Int) (j a : Nat) (h : j + 1 < Y.length) : (swp Y j).getD a 0 = if a = j then Y.getD (j + 1) 0 else if a = j + 1 then Y.getD j 0 else Y.getD a 0 := by
  unfold swp
  by_cases h1 : a = j
  · subst h1
    rw [if_pos rfl]
    simp [show a < Y.length by omega, h]
  · rw [if_neg h1]
    by_cases h2 : a = j + 1
    · subst h2
      rw [if_pos rfl]
      simp [show j < Y.length by omega, h]
    · rw [if_neg h2]
      simp [show ¬ j = a by omega, show ¬ j + 1 = a by omega]
theorem swp_perm (Y : List Int) (j : Nat) (h : j + 1 < Y.length) : (swp Y j).Perm Y := by
  have e1 : Y.getD j 0 = Y[j] := by simp [show j < Y.length by omega]
  have e2 : Y.getD (j + 1) 0 = Y[j + 1] := by simp [h]
  unfold swp
  rw [e1, e2]
  exact List.set_set_perm h (by omega)
theorem UpBut.swap {Y : List Int} {i j : Nat} (h : UpBut Y i (j + 1)) (hj : j + 1 ≤ i) (hi : i < Y.length) (hlt : Y.getD (j + 1) 0 < Y.getD j 0) : UpBut (swp Y j) i j := by
  refine ⟨fun a b hab hb ha hbj => ?_, fun b hjb hb => ?_⟩
  · rw [swp_getD _ _ _ (by omega), swp_getD _ _ _ (by omega), if_neg ha, if_neg hbj]
    by_cases h1 : a = j + 1
    · subst h1
      rw [if_pos rfl, if_neg (by omega)]
      exact h.1 j b (by omega) hb (by omega) (by omega)
    · rw [if_neg h1]
      by_cases h2 : b = j + 1
      · subst h2
        rw [if_pos rfl]
        exact h.1 a j (by omega) (by omega) h1 (by omega)
      · rw [if_neg h2]
        exact h.1 a b hab hb h1 h2
  · rw [swp_getD _ _ _ (by omega), swp_getD _ _ _ (by omega), if_pos rfl, if_neg (by omega)]
    by_cases h2 : b = j + 1
    · rw [if_pos h2]; omega
    · rw [if_neg h2]
      exact h.2 b (by omega) hb
theorem OwnI.cellAt {w : World} {base g m cap : Nat} {l : List Int} (h : OwnI w base (.slice (some ⟨g, 0, none⟩) m cap) l) (j : Nat) (hj : j < l.length) : w.cell? ⟨g, j, none⟩ = some (.int .i64 (l.getD j 0)) ∧ w.frozen? ⟨g, j, none⟩ = false := by
  obtain ⟨h1, h2⟩ := h
  rcases h2 with ⟨h2, _⟩ | ⟨g', cap', cur, hv, hg, hh, hn, hm, hs, hx⟩
  · cases h2
  · simp only [Value.slice.injEq, Option.some.injEq, Addr.mk.injEq] at hv
    obtain ⟨⟨rfl, _⟩, _, rfl⟩ := hv
    refine ⟨?_, frozen_of_row w g j _ _ hh⟩
    rw [cell_of_row w g j _ _ _ hh]
    have e : (cur.toList.take (l.length * 1))[j]? = (ivs l)[j]? := by rw [hx]
    rw [List.getElem?_take] at e
    simp only [Nat.mul_one, hj, if_true] at e
    simpa [ivs, hj] using e
theorem OwnI.store {w : World} {base g m cap : Nat} {l : List Int} (h : OwnI w base (.slice (some ⟨g, 0, none⟩) m cap) l) (hl : l.length = m) (j : Nat) (x : Int) : OwnI (w.setCell ⟨g, j, none⟩ (.int .i64 x)) base (.slice (some ⟨g, 0, none⟩) m cap) (l.set j x) := by
  subst hl
  have := (World.ownsRow.stored h j (.int .i64 x)).1
  unfold OwnI
  rw [List.length_set]
  have e : ivs (l.set j x) = (ivs l).set j (.int .i64 x) := by simp [ivs]
  rw [e]; exact this
theorem grown_setCell (w : World) (g j : Nat) (v : Value) : w.grownBy (w.setCell ⟨g, j, none⟩ v) (some g) :=
  ⟨rfl, rfl, rfl, by simp [World.setCell], fun k _ hk => heap_setCell_other _ _ _ _ (fun e => hk (by rw [e]))⟩
theorem OwnI.drew {w : World} {base : Nat} {v : Value} {l : List Int} (h : OwnI w base v l) : OwnI w.drew base v l := h
set_option maxHeartbeats 4000000 in
theorem isort_any (base g m cap : Nat) (l : List Int) (w : World) (h : OwnI w base (.slice (some ⟨g, 0, none⟩) m cap) l) (hl : l.length = m) (hm : (m : Int) ≤ 1000000) :
    Calls Try.prog 80 #[.slice (some ⟨g, 0, none⟩) m cap, .int .i64 0, .int .i64 (m : Int)] w fun e w' => e = .returned (.tuple #[]) ∧ ∃ Y, OwnI w' base (.slice (some ⟨g, 0, none⟩) m cap) Y ∧ Up Y m ∧ Y.Perm l ∧ w.grownBy w' (some g) := by
  have HW0 : Hid (OwnI w base (.slice (some ⟨g, 0, none⟩) m cap) l ∧ l.Perm l ∧ w.grownBy w (some g)) := ⟨h, List.Perm.refl _, ⟨rfl, rfl, rfl, Nat.le_refl _, fun _ _ _ => rfl⟩⟩
  have HL : Hid (l.length = m) := hl
  clear h hl
  go_enter Try.func80, Try.ntmps80
  go_wp2
  go_loopw [6] (fun t wr => ∃ (i : Nat) (Y : List Int), 1 ≤ i ∧ (i ≤ m ∨ i = 1) ∧ t = .int .i64 i ∧ Hid (OwnI wr base (.slice (some ⟨g, 0, none⟩) m cap) Y ∧ Y.Perm l ∧ w.grownBy wr (some g)) ∧ Hid (Up Y i)) (fun t _ => m - (intOf t).toNat)
  case atStart => exact ⟨1, l, by omega, .inr rfl, rfl, HW0, fun a b h1 h2 => by omega⟩
  case round =>
    obtain ⟨i, Y, hi1, hi2, rfl, HW, HU⟩ := hrel
    clear HW0
    by_cases hlt : (i : Int) < m
    · have HB : Hid (UpBut Y i i) := HU.out.but
      clear HU
      go_wp2_with fail
      go_loopw [7] (fun t w2 => ∃ (j : Nat) (Z : List Int), j ≤ i ∧ t = .int .i64 j ∧ Hid (OwnI w2 base (.slice (some ⟨g, 0, none⟩) m cap) Z ∧ Z.Perm l ∧ w.grownBy w2 (some g)) ∧ Hid (UpBut Z i j)) (fun t _ => (intOf t).toNat)
      case atStart => exact ⟨i, Y, by omega, rfl, HW, HB⟩
      case round =>
        obtain ⟨j, Z, hj, rfl, HZ, HB2⟩ := hrel
        have HD : Hid (∀ n, OwnI (wr.drewN n) base (.slice (some ⟨g, 0, none⟩) m cap) Z ∧ Z.Perm l ∧ w.grownBy (wr.drewN n) (some g)) := fun n => by
          have hb := below_drewN (Below.refl wr.heap.size wr) n
          have hz : (wr.drewN n).heap.size = wr.heap.size := by simp
          exact ⟨HZ.out.1.below hb (Nat.le_refl _), HZ.out.2.1, ⟨hb.os.trans HZ.out.2.2.os, hb.tape.trans HZ.out.2.2.tape, hb.output.trans HZ.out.2.2.output, by have := HZ.out.2.2.size; omega, fun q hq hn => (hb.block q (by have := HZ.out.2.2.size; omega)).trans (HZ.out.2.2.block q hq hn)⟩⟩
        have HLZ : Hid (Z.length = m) := by show _ = _; rw [HZ.out.2.1.length_eq, HL.out]
        by_cases hj0 : j = 0
        · subst hj0
          have HUp : Hid (Up Z (i + 1)) := HB2.out.done0
          clear HB2 HB HW
          go_wp2
          go_quiet (fail)
          go_wp2
          go_roundw
          case rel => exact ⟨i + 1, Z, by omega, by omega, by go_num, HD.out _, HUp⟩
          case measure => simp [intOf]; omega
        · obtain ⟨k, rfl⟩ : ∃ k, j = k + 1 := ⟨j - 1, by omega⟩
          have c1 : ∀ n, (wr.drewN n).cell? ⟨g, k + 1, none⟩ = some (.int .i64 (Z.getD (k + 1) 0)) := fun n => ((HD.out n).1.cellAt (k + 1) (by rw [HLZ.out]; omega)).1
          have c2 : ∀ n, (wr.drewN n).cell? ⟨g, k, none⟩ = some (.int .i64 (Z.getD k 0)) := fun n => ((HD.out n).1.cellAt k (by rw [HLZ.out]; omega)).1
          have f1 : ∀ n, (wr.drewN n).frozen? ⟨g, k + 1, none⟩ = false := fun n => ((HD.out n).1.cellAt (k + 1) (by rw [HLZ.out]; omega)).2
          have f2 : ∀ n, (wr.drewN n).frozen? ⟨g, k, none⟩ = false := fun n => ((HD.out n).1.cellAt k (by rw [HLZ.out]; omega)).2
          have LS := less_any (Z.getD (k + 1) 0) (Z.getD k 0)
          by_cases hxy : Z.getD (k + 1) 0 < Z.getD k 0
          · have HS : Hid (UpBut (swp Z k) i k) := HB2.out.swap (by omega) (by rw [HLZ.out]; omega) hxy
            have HSP : Hid (swp Z k = (Z.set (k + 1) (Z.getD k 0)).set k (Z.getD (k + 1) 0) ∧ (swp Z k).Perm Z) := ⟨rfl, swp_perm Z k (by rw [HLZ.out]; omega)⟩
            rw [decide_eq_true hxy] at LS
            clear HB2 HB HW
            generalize Z.getD (k + 1) 0 = x at *
            generalize Z.getD k 0 = y at *
            go_wp2
            go_quiet (first | (go_at_call 86; refine Calls.quiet_of_same (LS _)))
            go_wp2
            go_region
            all_goals go_wp2
            go_roundw
            case rel =>
              refine ⟨k, swp Z k, by omega, rfl, ?_, HS⟩
              have h0 := HD.out (nq + 1)
              refine ⟨?_, HSP.out.2.trans h0.2.1, grown_trans h0.2.2 (grown_trans (grown_setCell _ g (k + 1) _) (grown_setCell _ g k _))⟩
              rw [HSP.out.1]
              exact (h0.1.store HLZ.out (k + 1) y).store (by rw [List.length_set]; exact HLZ.out) k x
            case measure => simp [intOf]
          · have HUp : Hid (Up Z (i + 1)) := HB2.out.done (by omega) hxy
            rw [decide_eq_false hxy] at LS
            clear HB2 HB HW
            generalize Z.getD (k + 1) 0 = x at *
            generalize Z.getD k 0 = y at *
            go_wp2
            go_quiet (first | (go_at_call 86; refine Calls.quiet_of_same (LS _)))
            go_wp2
            go_roundw
            case rel => exact ⟨i + 1, Z, by omega, by omega, by go_num, HD.out _, HUp⟩
            case measure => simp [intOf]; omega
    · go_wp2
      go_end0
      exact ⟨rfl, Y, HW.out.1, fun a b h1 h2 => HU.out a b h1 (by omega), HW.out.2.1, HW.out.2.2⟩
end Go.Proofs.Ytglmbihahldfcaa
