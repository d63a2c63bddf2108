/- slices.Sort of at most twelve numbers. -/
import Derived.Test.YtikpnfnbmbaljaaJCdir7
import Derived.Deep.QuietTactic
import Derived.BigQuiet
import Derived.RegionTactic
import Derived.ChangeAlike
namespace Go.Proofs.Ytikpnfnbmbaljaa
open Go.RowKit
set_option maxRecDepth 100000
set_option maxHeartbeats 1000000 in
theorem less_any (x y : Int) (w : World) : Calls Try.prog 81 #[.int .i64 x, .int .i64 y] w fun e w' => e = .returned (.bool (decide (x < y))) ∧ w' = w := by
  have e : decide (x < y) = decide (x < y) := rfl
  go_enter Try.func81, Try.ntmps81
  go_wp2
  go_ret
  exact ⟨rfl, rfl⟩
/-- Rising up to i; up to i but for the place j. -/
def Up (Y : List Int) (i : Nat) : Prop := ∀ a b, a < b → b < i → Y.getD a 0 ≤ Y.getD b 0
def UpBut (Y : List Int) (i j : Nat) : Prop := (∀ a b, a < b → b ≤ i → ¬ a = j → ¬ b = j → Y.getD a 0 ≤ Y.getD b 0) ∧ ∀ b, j < b → b ≤ i → Y.getD j 0 ≤ Y.getD b 0
theorem Up.but {Y : List Int} {i : Nat} (h : Up Y i) : UpBut Y i i := ⟨fun a b hab hb _ hbj => h a b hab (by omega), fun b h1 h2 => by omega⟩
theorem UpBut.done0 {Y : List Int} {i : Nat} (h : UpBut Y i 0) : Up Y (i + 1) := fun a b hab hb => by
  by_cases ha : a = 0
  · subst ha; exact h.2 b hab (by omega)
  · exact h.1 a b hab (by omega) ha (by omega)
theorem UpBut.done {Y : List Int} {i j : Nat} (h : UpBut Y i (j + 1)) (hji : j + 1 ≤ i) (hle : ¬ Y.getD (j + 1) 0 < Y.getD j 0) : Up Y (i + 1) := fun a b hab hb => by
  by_cases ha : a = j + 1
  · subst ha; exact h.2 b hab (by omega)
  · by_cases hbj : b = j + 1
    · subst hbj
      by_cases haj : a = j
      · subst haj; omega
      · have := h.1 a j (by omega) (by omega) ha (by omega)
        omega
    · exact h.1 a b hab (by omega) ha hbj
/-- Two neighbours exchanged. -/
def swp (Y : List Int) (j : Nat) : List Int := (Y.set (j + 1) (Y.getD j 0)).set j (Y.getD (j + 1) 0)
theorem swp_getD (Y : List Int) (j a : Nat) (h : j + 1 < Y.length) : (swp Y j).getD a 0 = if a = j then Y.getD (j + 1) 0 else if a = j + 1 then Y.getD j 0 else Y.getD a 0 := by
  unfold swp
  by_cases h1 : a = j
  · subst h1
    rw [if_pos rfl]
    simp [show a < Y.length by omega, h]
  · rw [if_neg h1]
    by_cases h2 : a = j + 1
    · subst h2
      rw [if_pos rfl]
      simp [show j < Y.length by omega, h]
    · rw [if_neg h2]
      simp [show ¬ j = a by omega, show ¬ j + 1 = a by omega]
theorem swp_perm (Y : List Int) (j : Nat) (h : j + 1 < Y.length) : (swp Y j).Perm Y := by
  have e1 : Y.getD j 0 = Y[j] := by simp [show j < Y.length by omega]
  have e2 : Y.getD (j + 1) 0 = Y[j + 1] := by simp [h]
  unfold swp
  rw [e1, e2]
  exact List.set_set_perm h (by omega)
theorem UpBut.swap {Y : List Int} {i j : Nat} (h : UpBut Y i (j + 1)) (hj : j + 1 ≤ i) (hi : i < Y.length) (hlt : Y.getD (j + 1) 0 < Y.getD j 0) : UpBut (swp Y j) i j := by
  refine ⟨fun a b hab hb ha hbj => ?_, fun b hjb hb => ?_⟩
  · rw [swp_getD _ _ _ (by omega), swp_getD _ _ _ (by omega), if_neg ha, if_neg hbj]
    by_cases h1 : a = j + 1
    · subst h1
      rw [if_pos rfl, if_neg (by omega)]
      exact h.1 j b (by omega) hb (by omega) (by omega)
    · rw [if_neg h1]
      by_cases h2 : b = j + 1
      · subst h2
        rw [if_pos rfl]
        exact h.1 a j (by omega) (by omega) h1 (by omega)
      · rw [if_neg h2]
        exact h.1 a b hab hb h1 h2
  · rw [swp_getD _ _ _ (by omega), swp_getD _ _ _ (by omega), if_pos rfl, if_neg (by omega)]
    by_cases h2 : b = j + 1
    · rw [if_pos h2]; omega
    · rw [if_neg h2]
      exact h.2 b (by omega) hb
theorem OwnI.cellAt {w : World} {base g m cap : Nat} {l : List Int} (h : OwnI w base (.slice (some ⟨g, 0, none⟩) m cap) l) (j : Nat) (hj : j < l.length) : w.cell? ⟨g, j, none⟩ = some (.int .i64 (l.getD j 0)) ∧ w.frozen? ⟨g, j, none⟩ = false := by
  obtain ⟨h1, h2⟩ := h
  rcases h2 with ⟨h2, _⟩ | ⟨g', cap', cur, hv, hg, hh, hn, hm, hs, hx⟩
  · cases h2
  · simp only [Value.slice.injEq, Option.some.injEq, Addr.mk.injEq] at hv
    obtain ⟨⟨rfl, _⟩, _, rfl⟩ := hv
    refine ⟨?_, frozen_of_row w g j _ _ hh⟩
    rw [cell_of_row w g j _ _ _ hh]
    have e : (cur.toList.take (l.length * 1))[j]? = (ivs l)[j]? := by rw [hx]
    rw [List.getElem?_take] at e
    simp only [Nat.mul_one, hj, if_true] at e
    simpa [ivs, hj] using e
theorem OwnI.store {w : World} {base g m cap : Nat} {l : List Int} (h : OwnI w base (.slice (some ⟨g, 0, none⟩) m cap) l) (hl : l.length = m) (j : Nat) (x : Int) : OwnI (w.setCell ⟨g, j, none⟩ (.int .i64 x)) base (.slice (some ⟨g, 0, none⟩) m cap) (l.set j x) := by
  subst hl
  have := (World.ownsRow.stored h j (.int .i64 x)).1
  unfold OwnI
  rw [List.length_set]
  have e : ivs (l.set j x) = (ivs l).set j (.int .i64 x) := by simp [ivs]
  rw [e]; exact this
theorem grown_setCell (w : World) (g j : Nat) (v : Value) : w.grownBy (w.setCell ⟨g, j, none⟩ v) (some g) :=
  ⟨rfl, rfl, rfl, by simp [World.setCell], fun k _ hk => heap_setCell_other _ _ _ _ (fun e => hk (by rw [e]))⟩
set_option maxHeartbeats 4000000 in
theorem isort_any (base g m cap : Nat) (l : List Int) (w : World) (h : OwnI w base (.slice (some ⟨g, 0, none⟩) m cap) l) (hl : l.length = m) (hm : (m : Int) ≤ 1000000) :
    Calls Try.prog 75 #[.slice (some ⟨g, 0, none⟩) m cap, .int .i64 0, .int .i64 (m : Int)] w fun e w' => e = .returned (.tuple #[]) ∧ ∃ Y, OwnI w' base (.slice (some ⟨g, 0, none⟩) m cap) Y ∧ Up Y m ∧ Y.Perm l ∧ w.grownBy w' (some g) := by
  have HW0 : Hid (OwnI w base (.slice (some ⟨g, 0, none⟩) m cap) l ∧ l.Perm l ∧ w.grownBy w (some g)) := ⟨h, List.Perm.refl _, ⟨rfl, rfl, rfl, Nat.le_refl _, fun _ _ _ => rfl⟩⟩
  have HL : Hid (l.length = m) := hl
  clear h hl
  go_enter Try.func75, Try.ntmps75
  go_wp2
  go_loopw [6] (fun t wr => ∃ (i : Nat) (Y : List Int), 1 ≤ i ∧ (i ≤ m ∨ i = 1) ∧ t = .int .i64 i ∧ Hid (OwnI wr base (.slice (some ⟨g, 0, none⟩) m cap) Y ∧ Y.Perm l ∧ w.grownBy wr (some g)) ∧ Hid (Up Y i)) (fun t _ => m - (intOf t).toNat)
  case atStart => exact ⟨1, l, by omega, .inr rfl, rfl, HW0, fun a b h1 h2 => by omega⟩
  case round =>
    obtain ⟨i, Y, hi1, hi2, rfl, HW, HU⟩ := hrel
    clear HW0
    by_cases hlt : (i : Int) < m
    · have HB : Hid (UpBut Y i i) := HU.out.but
      clear HU
      go_wp2_with fail
      go_loopw [7] (fun t w2 => ∃ (j : Nat) (Z : List Int), j ≤ i ∧ t = .int .i64 j ∧ Hid (OwnI w2 base (.slice (some ⟨g, 0, none⟩) m cap) Z ∧ Z.Perm l ∧ w.grownBy w2 (some g)) ∧ Hid (UpBut Z i j)) (fun t _ => (intOf t).toNat)
      case atStart => exact ⟨i, Y, by omega, rfl, HW, HB⟩
      case round =>
        obtain ⟨j, Z, hj, rfl, HZ, HB2⟩ := hrel
        have HD : Hid (∀ n, OwnI (wr.drewN n) base (.slice (some ⟨g, 0, none⟩) m cap) Z ∧ Z.Perm l ∧ w.grownBy (wr.drewN n) (some g)) := fun n => by
          have hb := below_drewN (Below.refl wr.heap.size wr) n
          have hz : (wr.drewN n).heap.size = wr.heap.size := by simp
          exact ⟨HZ.out.1.below hb (Nat.le_refl _), HZ.out.2.1, ⟨hb.os.trans HZ.out.2.2.os, hb.tape.trans HZ.out.2.2.tape, hb.output.trans HZ.out.2.2.output, by have := HZ.out.2.2.size; omega, fun q hq hn => (hb.block q (by have := HZ.out.2.2.size; omega)).trans (HZ.out.2.2.block q hq hn)⟩⟩
        have HLZ : Hid (Z.length = m) := by show _ = _; rw [HZ.out.2.1.length_eq, HL.out]
        by_cases hj0 : j = 0
        · subst hj0
          have HUp : Hid (Up Z (i + 1)) := HB2.out.done0
          clear HB2 HB HW
          go_wp2
          go_quiet (fail)
          go_wp2
          go_roundw
          case rel => exact ⟨i + 1, Z, by omega, by omega, by go_num, HD.out _, HUp⟩
          case measure => simp [intOf]; omega
        · obtain ⟨k, rfl⟩ : ∃ k, j = k + 1 := ⟨j - 1, by omega⟩
          have c1 : ∀ n, (wr.drewN n).cell? ⟨g, k + 1, none⟩ = some (.int .i64 (Z.getD (k + 1) 0)) := fun n => ((HD.out n).1.cellAt (k + 1) (by rw [HLZ.out]; omega)).1
          have c2 : ∀ n, (wr.drewN n).cell? ⟨g, k, none⟩ = some (.int .i64 (Z.getD k 0)) := fun n => ((HD.out n).1.cellAt k (by rw [HLZ.out]; omega)).1
          have f1 : ∀ n, (wr.drewN n).frozen? ⟨g, k + 1, none⟩ = false := fun n => ((HD.out n).1.cellAt (k + 1) (by rw [HLZ.out]; omega)).2
          have f2 : ∀ n, (wr.drewN n).frozen? ⟨g, k, none⟩ = false := fun n => ((HD.out n).1.cellAt k (by rw [HLZ.out]; omega)).2
          have LS := less_any (Z.getD (k + 1) 0) (Z.getD k 0)
          by_cases hxy : Z.getD (k + 1) 0 < Z.getD k 0
          · have HS : Hid (UpBut (swp Z k) i k) := HB2.out.swap (by omega) (by rw [HLZ.out]; omega) hxy
            have HSP : Hid (swp Z k = (Z.set (k + 1) (Z.getD k 0)).set k (Z.getD (k + 1) 0) ∧ (swp Z k).Perm Z) := ⟨rfl, swp_perm Z k (by rw [HLZ.out]; omega)⟩
            rw [decide_eq_true hxy] at LS
            clear HB2 HB HW
            generalize Z.getD (k + 1) 0 = x at *
            generalize Z.getD k 0 = y at *
            go_wp2
            go_quiet (first | (go_at_call 81; refine Calls.quiet_of_same (LS _)))
            go_wp2
            go_region
            all_goals go_wp2
            go_roundw
            case rel =>
              refine ⟨k, swp Z k, by omega, rfl, ?_, HS⟩
              have h0 := HD.out (nq + 1)
              refine ⟨?_, HSP.out.2.trans h0.2.1, grown_trans h0.2.2 (grown_trans (grown_setCell _ g (k + 1) _) (grown_setCell _ g k _))⟩
              rw [HSP.out.1]
              exact (h0.1.store HLZ.out (k + 1) y).store (by rw [List.length_set]; exact HLZ.out) k x
            case measure => simp [intOf]
          · have HUp : Hid (Up Z (i + 1)) := HB2.out.done (by omega) hxy
            rw [decide_eq_false hxy] at LS
            clear HB2 HB HW
            generalize Z.getD (k + 1) 0 = x at *
            generalize Z.getD k 0 = y at *
            go_wp2
            go_quiet (first | (go_at_call 81; refine Calls.quiet_of_same (LS _)))
            go_wp2
            go_roundw
            case rel => exact ⟨i + 1, Z, by omega, by omega, by go_num, HD.out _, HUp⟩
            case measure => simp [intOf]; omega
    · go_wp2
      go_end0
      exact ⟨rfl, Y, HW.out.1, fun a b h1 h2 => HU.out a b h1 (by omega), HW.out.2.1, HW.out.2.2⟩
end Go.Proofs.Ytikpnfnbmbaljaa
/- slices.Sort of at most twelve numbers: pdqsort, bits.Len. -/
namespace Go.Proofs.Ytikpnfnbmbaljaa
open Go.RowKit
set_option maxRecDepth 100000
theorem wpList_index_tab {ops : Array Oper} {rest : List Oper} {o : Oper} {a : Act} {w : World} {Q : Exit → Act → World → Prop} (hgd : o.guard = none) (s : ByteArray) (y : Operand) (ho : o.op = .index 9 (.const (.string s)) y) (x : Int) (hy : a.eval y = .int .u8 x) (hs : 256 ≤ s.size) (h0 : 0 ≤ x ∧ x < 256)
    (h : ∀ b : Nat, b ≤ 255 → wpList Try.prog ops Q rest (a.put o.dst (.int .u8 (b : Int))) w) : wpList Try.prog ops Q (o :: rest) a w := by
  refine wpList_plain hgd fun K hK => ?_
  have hi : 0 ≤ x ∧ x < s.size := ⟨h0.1, by omega⟩
  have hrun := run_index_string (P := Try.prog) w 9 s .u8 x Try.underlying9
  rw [dif_pos hi] at hrun
  have hc : a.eval (.const (.string s)) = .string s := rfl
  unfold Oper.wp execOp
  simp only [ho, hy, hc, hrun, Sem.run_bind, Result.andThen_ok, Sem.run_pure]
  refine hK _ _ (h _ ?_)
  have := (s[x.toNat]'(by omega)).toNat_lt
  omega
set_option maxHeartbeats 1000000 in
theorem len64_any (x : Int) (w : World) (h0 : 0 ≤ x) (h1 : x ≤ 255) : Calls Try.prog 85 #[.int .u64 x] w fun e w' => (∃ k, e = .returned (.int .i64 k)) ∧ w' = w := by
  go_enter Try.func85, Try.ntmps85
  go_wp2_with (first | ((with_reducible show wpList _ _ _ ({ dst := _, op := Op.index 9 _ _, type := _, pos := _, after := _, guard := _ } :: _) _ _); refine wpList_index_tab rfl _ (.tmp 21) rfl x rfl (of_decide_eq_true (by kernel_rfl)) ⟨h0, by omega⟩ ?_; intro b hb))
  go_ret
  exact ⟨⟨_, rfl⟩, rfl⟩
set_option maxHeartbeats 1000000 in
theorem len_bits (x : Int) (w : World) (h0 : 0 ≤ x) (h1 : x ≤ 255) : Calls Try.prog 66 #[.int .u64 x] w fun e w' => (∃ k, e = .returned (.int .i64 k)) ∧ w' = w := by
  have L6 := len64_any x
  go_enter Try.func66, Try.ntmps66
  go_wp2_with (first | (go_at_call 85; refine (L6 _ h0 h1).mono ?_; rintro e w1 ⟨⟨k, rfl⟩, rfl⟩))
  go_ret
  exact ⟨⟨_, rfl⟩, rfl⟩
set_option maxHeartbeats 1000000 in
theorem pdq_any (base g m cap : Nat) (l : List Int) (lim : Int) (w : World) (h : OwnI w base (.slice (some ⟨g, 0, none⟩) m cap) l) (hl : l.length = m) (hm : (m : Int) ≤ 12) :
    Calls Try.prog 65 #[.slice (some ⟨g, 0, none⟩) m cap, .int .i64 0, .int .i64 (m : Int), .int .i64 lim] w fun e w' => e = .returned (.tuple #[]) ∧ ∃ Y, OwnI w' base (.slice (some ⟨g, 0, none⟩) m cap) Y ∧ Up Y m ∧ Y.Perm l ∧ w.grownBy w' (some g) := by
  have IS := isort_any base g m cap l w h hl (by omega)
  clear h hl
  go_enter Try.func65, Try.ntmps65
  go_wp2_with fail
  refine wp_loop_rounds 1 ?_
  rw [rounds_succ]
  go_wp2_with fail
  refine IS.mono ?_
  rintro e w1 ⟨rfl, Y, k1, k2, k3, k4⟩
  go_wp2
  refine bodyPost_ret (results_none rfl _ _ _) rfl ?_
  exact ⟨rfl, Y, k1, k2, k3, k4⟩
set_option maxHeartbeats 1000000 in
theorem sort_any (base g m cap : Nat) (l : List Int) (w : World) (h : OwnI w base (.slice (some ⟨g, 0, none⟩) m cap) l) (hl : l.length = m) (hm : (m : Int) ≤ 12) :
    Calls Try.prog 38 #[.slice (some ⟨g, 0, none⟩) m cap] w fun e w' => e = .returned (.tuple #[]) ∧ ∃ Y, OwnI w' base (.slice (some ⟨g, 0, none⟩) m cap) Y ∧ Up Y m ∧ Y.Perm l ∧ w.grownBy w' (some g) := by
  have PD := fun lim => pdq_any base g m cap l lim w h hl hm
  have LB := fun W => len_bits (m : Int) W (by omega) (by omega)
  clear h hl
  go_enter Try.func38, Try.ntmps38
  go_wp2_with fail
  refine (LB _).mono ?_
  clear LB
  rintro e w1 ⟨⟨k, rfl⟩, hw⟩
  obtain rfl : w = w1 := hw.symm
  go_wp2_with fail
  refine (PD k).mono ?_
  clear PD
  rintro e w1 ⟨rfl, Y, k1, k2, k3, k4⟩
  go_wp2
  go_end0
  exact ⟨rfl, Y, k1, k2, k3, k4⟩
set_option maxHeartbeats 1000000 in
theorem isort_nil (w : World) : Calls Try.prog 75 #[.slice none 0 0, .int .i64 0, .int .i64 0] w fun e w' => e = .returned (.tuple #[]) ∧ w' = w := by
  go_enter Try.func75, Try.ntmps75
  go_wp2
  refine wp_loop_rounds 1 ?_
  rw [rounds_succ]
  go_wp2
  go_end0
  exact ⟨rfl, rfl⟩
set_option maxHeartbeats 1000000 in
theorem pdq_nil (lim : Int) (w : World) : Calls Try.prog 65 #[.slice none 0 0, .int .i64 0, .int .i64 0, .int .i64 lim] w fun e w' => e = .returned (.tuple #[]) ∧ w' = w := by
  have IS := isort_nil w
  go_enter Try.func65, Try.ntmps65
  go_wp2_with fail
  refine wp_loop_rounds 1 ?_
  rw [rounds_succ]
  go_wp2_with fail
  refine IS.mono ?_
  rintro e w1 ⟨rfl, rfl⟩
  go_wp2
  refine bodyPost_ret (results_none rfl _ _ _) rfl ?_
  exact ⟨rfl, rfl⟩
set_option maxHeartbeats 1000000 in
theorem sort_nil (w : World) : Calls Try.prog 38 #[.slice none 0 0] w fun e w' => e = .returned (.tuple #[]) ∧ w' = w := by
  have PD := fun lim => pdq_nil lim w
  have LB := fun W => len_bits 0 W (by omega) (by omega)
  go_enter Try.func38, Try.ntmps38
  go_wp2_with fail
  refine (LB _).mono ?_
  clear LB
  rintro e w1 ⟨⟨k, rfl⟩, hw⟩
  obtain rfl : w = w1 := hw.symm
  go_wp2_with fail
  refine (PD k).mono ?_
  clear PD
  rintro e w1 ⟨rfl, rfl⟩
  go_wp2
  go_end0
  exact ⟨rfl, rfl⟩
end Go.Proofs.Ytikpnfnbmbaljaa
/- Package cache: New, Held, Dirty. -/
namespace Go.Proofs.Ytikpnfnbmbaljaa
open Go.RowKit
set_option maxRecDepth 100000
/-- 'make' of n numbers. -/
theorem make_ints (w : World) (n : Nat) (hn : n ≤ 1000000) :
    (Instr.makeSlice 43 (.int .i64 (n : Int)) (.int .i64 (n : Int))).run Try.prog w = .ok (.slice (some ⟨w.heap.size, 0, none⟩) n n) (w.alloc (.cells (ivs (List.replicate n 0)).toArray 3)) := by
  obtain ⟨i0, hi, hz0, hz1, hz2⟩ := info_parts Try.infoI
  have h := run_make (P := Try.prog) w 43 3 i0 _ Try.underlying43 hi hz0 .i64 .i64 (n : Int) (n : Int) (by omega) (by omega) (by rw [hz2]; omega) (by omega)
  rw [h]
  congr 3
  have e : madeCells (Value.int IntKind.i64 0).cells ((n : Int).toNat * i0.size) = (ivs (List.replicate n 0)).toArray := by
    apply Array.toList_inj.1
    rw [hz1, Int.toNat_natCast, Nat.mul_one]
    rw [show ivs (List.replicate n 0) = List.replicate n (Value.int .i64 0) by simp [ivs]]
    exact toList_madeCells_one _ _
  rw [e]
theorem RowI.own {w : World} {g base : Nat} {l : List Int} (h : RowI w g 3 l) (hb : base ≤ g) (hl : l.length ≤ 1000000) : OwnI w base (.slice (some ⟨g, 0, none⟩) l.length l.length) l :=
  ⟨by simp [ivs_length], .inr ⟨g, l.length, _, rfl, hb, h, Nat.le_refl _, by unfold maxLen; omega, by simp [ivs_length], by rw [Nat.mul_one, List.take_of_length_le (by simp [ivs_length])]⟩⟩
/-- The first k of some numbers, 0 behind. -/
def pre0 (M : List Int) (k : Nat) : List Int := M.take k ++ List.replicate (M.length - k) 0
theorem pre0_length (M : List Int) {k : Nat} (hk : k ≤ M.length) : (pre0 M k).length = M.length := by simp [pre0]; omega
theorem pre0_set (M : List Int) {k : Nat} (hk : k < M.length) : (pre0 M k).set k (M.getD k 0) = pre0 M (k + 1) := by
  unfold pre0
  have e : M.getD k 0 = M[k] := by simp [hk]
  rw [List.set_append_right _ _ (by simp; omega), show M.length - k = (M.length - (k + 1)) + 1 by omega, List.replicate_succ, e]
  simp [Nat.min_eq_left (Nat.le_of_lt hk)]
  rw [List.take_succ_eq_append_getElem hk, List.append_assoc]
  rfl
theorem pre0_last (M : List Int) : pre0 M M.length = M := by simp [pre0]
theorem pre0_zero (M : List Int) : pre0 M 0 = List.replicate M.length 0 := by simp [pre0]
section
variable {w w' : World} {base : Nat} {σ : CSt}
set_option maxHeartbeats 2000000 in
theorem held_any (h : CS w base σ (nums σ.L)) (hlen : (σ.L.length : Int) ≤ 4096) :
    Calls Try.prog 12 #[.pointer (some ⟨σ.p, 0, none⟩)] w fun r w' => ∃ v, r = .returned v ∧ OwnI w' w.heap.size v (nums σ.L) ∧ Below w.heap.size w w' := by
  obtain ⟨ao, cap, hov, hlc, hcm, hrow⟩ := h.row
  have q3 := h.c3
  rw [hov] at q3
  obtain ⟨N, hN⟩ : ∃ N, N = nums σ.L := ⟨_, rfl⟩
  have HNL : Hid (N.length = σ.L.length) := by rw [hN]; exact nums_length _
  have HCELL : Hid (0 < N.length → ∃ g, ao = some ⟨g, 0, none⟩ ∧ ∀ W, CS W base σ (nums σ.L) → ∀ k, k < N.length → W.cell? ⟨g, k, none⟩ = some (.int .i64 (N.getD k 0))) := fun hp => by
    rw [HNL.out] at hp
    obtain ⟨g, h1, h2⟩ := hrow hp
    refine ⟨g, h1, fun W hW k hk => ?_⟩
    rw [HNL.out] at hk
    rw [hN, nums_getD _ _ hk]
    exact h2 W hW k hk
  have hmk : (Instr.makeSlice 43 (.int .i64 (N.length : Int)) (.int .i64 (N.length : Int))).run Try.prog w = .ok (.slice (some ⟨w.heap.size, 0, none⟩) N.length N.length) (w.alloc (.cells (ivs (pre0 N 0)).toArray 3)) := by rw [pre0_zero]; exact make_ints w N.length (by rw [HNL.out]; omega)
  rw [← HNL.out] at q3 hlen hlc
  have hb0 : Below w.heap.size w (w.alloc (.cells (ivs (pre0 N 0)).toArray 3)) := (Below.refl _ _).alloc (Nat.le_refl _) _
  have HR0 : Hid (RowI (w.alloc (.cells (ivs (pre0 N 0)).toArray 3)) w.heap.size 3 (pre0 N 0)) := heap_alloc_new _ _
  have HB0 : Hid (Below w.heap.size w (w.alloc (.cells (ivs (pre0 N 0)).toArray 3))) := hb0
  have HCS : Hid (CS w base σ (nums σ.L)) := h
  have q3' := (h.up hb0).c3
  rw [hov, ← HNL.out] at q3'
  rw [← hN]
  clear h hrow hov hb0 hN
  go_enter Try.func12, Try.ntmps12
  go_wp2
  generalize w.alloc (.cells (ivs (pre0 N 0)).toArray 3) = w0 at *
  clear hmk
  go_loopw [19] (fun t wr => ∃ k : Nat, k ≤ N.length ∧ t = .int .i64 k ∧ Hid (RowI wr w.heap.size 3 (pre0 N k)) ∧ Hid (Below w.heap.size w wr)) (fun t _ => N.length - (intOf t).toNat)
  case atStart => exact ⟨0, by omega, rfl, HR0, HB0⟩
  case round =>
    obtain ⟨k, hk, rfl, HR, HB⟩ := hrel
    clear HR0 HB0
    by_cases hlt : (k : Int) < N.length
    · obtain ⟨g, rfl, hcell⟩ := HCELL.out (by omega)
      have c0 := hcell wr (HCS.out.up HB.out) k (by omega)
      have HST : Hid ((pre0 N k).set k (N.getD k 0) = pre0 N (k + 1)) := pre0_set N (by omega)
      have hcz := HR.out.cell k (by rw [pre0_length N hk]; omega)
      have hcf := HR.out.frozen k
      clear hcell
      generalize N.getD k 0 = x at *
      generalize (pre0 N k).getD k 0 = y at *
      go_wp2
      go_roundw
      case rel => exact ⟨k + 1, by omega, by go_num, by have := HR.out.set k x; rw [HST.out] at this; exact this, HB.out.setCell (Nat.le_refl _) _⟩
      case measure => simp [intOf]; omega
    · obtain rfl : k = N.length := by omega
      go_wp2
      go_ret
      have := HR.out
      rw [pre0_last] at this
      exact ⟨_, rfl, this.own (Nat.le_refl _) (by omega), HB.out⟩
/-- The dirty ones. -/
def dl (σ : CSt) : List CE := σ.L.filter (dirtyB σ)
def dlT (σ : CSt) (k : Nat) : List Int := nums ((σ.L.take k).filter (dirtyB σ))
theorem dlT_step (σ : CSt) (k : Nat) (hk : k < σ.L.length) : dlT σ (k + 1) = if dirtyB σ σ.L[k] then dlT σ k ++ [((σ.L[k]).n : Int)] else dlT σ k := by
  unfold dlT
  rw [List.take_succ_eq_append_getElem hk, List.filter_append]
  cases hb : dirtyB σ σ.L[k]
  · simp [hb]
  · simp [hb, nums]
theorem dlT_len (σ : CSt) (k : Nat) : (dlT σ k).length ≤ σ.L.length := by
  unfold dlT
  rw [nums_length]
  exact Nat.le_trans (List.length_filter_le _ _) (by simp; omega)
theorem dlT_last (σ : CSt) : dlT σ σ.L.length = nums (dl σ) := by simp [dlT, dl]
set_option maxHeartbeats 2000000 in
theorem dirtyl_any (h : CS w base σ (nums σ.L)) (hlen : σ.L.length ≤ 12) :
    Calls Try.prog 14 #[.pointer (some ⟨σ.p, 0, none⟩)] w fun r w' => ∃ v Y, r = .returned v ∧ OwnI w' w.heap.size v Y ∧ Up Y Y.length ∧ Y.Perm (nums (dl σ)) ∧ Below w.heap.size w w' := by
  have HD := held_any h (by omega)
  have HCS : Hid (CS w base σ (nums σ.L)) := h
  clear h
  go_enter Try.func14, Try.ntmps14
  go_wp2_with fail
  refine HD.mono ?_
  clear HD
  rintro r w1 ⟨v, rfl, ho1, hb1⟩
  obtain ⟨ah, ch, rfl, hsrc, _, _, _⟩ := ho1.form
  have HC1 : Hid (CS w1 base σ (nums σ.L)) := HCS.out.up hb1
  have HB1 : Hid (Below w.heap.size w w1) := hb1
  have HSRC : Hid (SrcI w1 ah (nums σ.L)) := hsrc
  have HLN : Hid ((nums σ.L).length = σ.L.length) := nums_length _
  rw [HLN.out]
  clear HCS ho1 hb1 hsrc
  go_wp2_with fail
  go_loopw [3, 9] (fun v t wr => ∃ k : Nat, k ≤ σ.L.length ∧ t = .int .i64 k ∧ Hid (OwnI wr w1.heap.size v (dlT σ k)) ∧ Hid (Below w1.heap.size w1 wr)) (fun _ t _ => σ.L.length - (intOf t).toNat)
  case atStart => exact ⟨0, by omega, rfl, OwnI.nil _ _, Below.refl _ _⟩
  case round =>
    obtain ⟨k, hk, rfl, HO, HB⟩ := hrel
    by_cases hlt : (k : Int) < σ.L.length
    · have hkl : k < σ.L.length := by omega
      have hs2 := HSRC.out.below HB.out (Nat.le_refl _)
      rcases hs2 with hs2 | ⟨b, off, rfl, hbl, hc⟩
      · have := HLN.out; rw [hs2] at this; simp at this; omega
      have c0 := hc k (by rw [HLN.out]; exact hkl)
      rw [nums_getD _ _ hkl] at c0
      have DT := dirty_any (HC1.out.up HB.out) (split_at σ.L k hkl)
      have HST : Hid _ := dlT_step σ k hkl
      have HLE : Hid _ := dlT_len σ k
      clear hc
      generalize (σ.L[k]).n = nn at *
      generalize hD : dirtyB σ σ.L[k] = D at *
      clear hD
      cases D
      · rw [if_neg (by simp)] at HST
        go_wp2_with (first | (go_at_call 37; refine DT.mono ?_; rintro r w2 ⟨rfl, k1⟩))
        have HB2 : Hid (Below w1.heap.size w1 w2) := HB.out.trans (k1.mono HB.out.size)
        have HO2 : Hid (OwnI w2 w1.heap.size u3 (dlT σ (k + 1))) := by rw [HST.out]; exact HO.out.below k1 (Nat.le_refl _)
        clear HO HB DT k1
        go_roundw
        case rel => exact ⟨k + 1, by omega, by go_num, HO2, HB2⟩
        case measure => simp [intOf]; omega
      · rw [if_pos rfl] at HST
        go_wp2_with fail
        refine DT.mono ?_
        rintro r w2 ⟨rfl, k1⟩
        have HB2 : Hid (Below w1.heap.size w1 w2) := HB.out.trans (k1.mono HB.out.size)
        have hO2 : OwnI w2 w1.heap.size u3 (dlT σ k) := HO.out.below k1 (Nat.le_refl _)
        have hz2 := HB2.out.size
        have hln : (dlT σ k).length ≤ 1000000 := by have := HLE.out; omega
        clear HO HB DT k1 c0
        go_wp2_with (at_builtin; refine wpList_append_int rfl (.tmp 16) (.tmp 18) rfl w1.heap.size (dlT σ k) (nn : Int) _ rfl _ _ rfl (hO2.below ((Below.refl _ _).alloc (Nat.le_refl _) _) (Nat.le_refl _)) (heap_alloc_new _ _) (by simp; omega) hln ?_; intro v' w3 hO3 hb3)
        rw [← HST.out] at hO3
        have HB3 : Hid (Below w1.heap.size w1 w3) := (HB2.out.alloc hz2 _).trans hb3
        clear hO2
        go_roundw
        case rel => exact ⟨k + 1, by omega, by go_num, hO3, HB3⟩
        case measure => simp [intOf]; omega
    · obtain rfl : k = σ.L.length := by omega
      have hO := HO.out
      rw [dlT_last] at hO
      have hle : (nums (dl σ)).length ≤ 12 := by
        have := dlT_len σ σ.L.length
        rw [dlT_last] at this; omega
      have HBW : Hid (Below w.heap.size w wr) := HB1.out.trans (HB.out.mono HB1.out.size)
      have hsz := HB1.out.size
      rcases hO.2 with ⟨rfl, hl0⟩ | ⟨g, cap, cur, rfl, hg, _⟩
      · have HE : Hid (nums (dl σ) = []) := List.eq_nil_of_length_eq_zero hl0
        have SN := sort_nil wr
        clear hO hle HO HB
        go_wp2_with (first | (go_at_call 38; refine SN.mono ?_; rintro r w9 ⟨rfl, rfl⟩))
        go_ret
        exact ⟨_, [], rfl, OwnI.nil _ _, fun a b h1 h2 => by simp at h2, by rw [HE.out], HBW.out⟩
      · have SA := sort_any w1.heap.size g _ cap (nums (dl σ)) wr hO rfl (by omega)
        clear hO HO HB
        generalize hm : (nums (dl σ)).length = m at *
        have HM : Hid ((nums (dl σ)).length = m) := hm
        clear hm
        go_wp2_with fail
        refine SA.mono ?_
        clear SA
        rintro r w9 ⟨rfl, Y, k1, k2, k3, k4⟩
        have HY : Hid _ := And.intro k1 (And.intro k2 (And.intro k3 k4))
        clear k1 k2 k3 k4
        go_wp2
        go_ret
        have hYl : Y.length = m := by rw [HY.out.2.2.1.length_eq]; exact HM.out
        refine ⟨_, Y, rfl, ?_, by rw [hYl]; exact HY.out.2.1, HY.out.2.2.1, HBW.out.grown HY.out.2.2.2 HBW.out.size (fun k hk => by cases hk; omega)⟩
        exact HY.out.1.mono hsz
set_option maxHeartbeats 1000000 in
theorem cnew_any {dp dn dq : Nat} {en : Bool} {lf : Int} {sf : Nat → List UInt8} {ws : Nat → List (List UInt8)} {vs : Nat → Value} (h : DiskAt w base dp dn en lf sf ws dq vs) (most : Nat) (h1 : 1 ≤ most) (h2 : most ≤ 4096) :
    Calls Try.prog 7 #[.pointer (some ⟨dp, 0, none⟩), .int .i64 (most : Int)] w fun r w' => ∃ p mb, r = .returned (.tuple #[.pointer (some ⟨p, 0, none⟩), .int .i64 0]) ∧ CS w' base ⟨p, mb, 0, .slice none 0 0, most, [], dp, dn, dq, en, lf, sf, ws, vs⟩ [] ∧ w.heap.size ≤ p ∧ w.heap.size ≤ mb ∧ Below w.heap.size w w' := by
  have s1 : ∀ (v : World) (o : Obj), (v.alloc o).heap.size = v.heap.size + 1 := fun v o => by show (v.heap.push o).size = _; simp
  have hb0 : Below w.heap.size w (w.alloc (.map #[] 0)) := (Below.refl _ _).alloc (Nat.le_refl _) _
  have hb1 : Below w.heap.size w ((w.alloc (.map #[] 0)).alloc (.cells #[.pointer (some ⟨dp, 0, none⟩), .int .i64 (most : Int), .map (some w.heap.size), .slice none 0 0] 60)) := hb0.alloc (by rw [s1]; omega) _
  have hp := PMap.made w
  have hrow : ((w.alloc (.map #[] 0)).alloc (.cells #[.pointer (some ⟨dp, 0, none⟩), .int .i64 (most : Int), .map (some w.heap.size), .slice none 0 0] 60)).heap[w.heap.size + 1]? = some (.cells #[.pointer (some ⟨dp, 0, none⟩), .int .i64 (most : Int), .map (some w.heap.size), .slice none 0 0] 60 (0, 0)) := by
    have := heap_alloc_new (w.alloc (.map #[] 0)) (.cells #[.pointer (some ⟨dp, 0, none⟩), .int .i64 (most : Int), .map (some w.heap.size), .slice none 0 0] 60)
    rw [s1] at this; exact this
  have hbs : base ≤ w.heap.size := by have := h.pb; have := h.pl; omega
  have HC : Hid (CS ((w.alloc (.map #[] 0)).alloc (.cells #[.pointer (some ⟨dp, 0, none⟩), .int .i64 (most : Int), .map (some w.heap.size), .slice none 0 0] 60)) base ⟨w.heap.size + 1, w.heap.size, 0, .slice none 0 0, most, [], dp, dn, dq, en, lf, sf, ws, vs⟩ []) := {
    disk := h.below hb1 (Nat.le_refl _)
    c0 := by show World.cell? _ _ = _; rw [cell_of_row _ _ _ _ _ _ hrow]; rfl
    c1 := by show World.cell? _ _ = _; rw [cell_of_row _ _ _ _ _ _ hrow]; rfl
    c2 := by show World.cell? _ _ = _; rw [cell_of_row _ _ _ _ _ _ hrow]; rfl
    c3 := by show World.cell? _ _ = _; rw [cell_of_row _ _ _ _ _ _ hrow]; rfl
    fp := fun o => frozen_of_row _ _ _ _ _ hrow
    ord := OwnN.nil _ _
    map := hp.same (Below.heap_alloc _ _ _ (by rw [s1]; omega))
    blk := fun e he => by cases he
    nd := List.nodup_nil, qd := List.nodup_nil
    pm := by show w.heap.size + 1 ≠ w.heap.size; omega
    po := by show (none : Option Nat) ≠ _; simp
    mo := by show (none : Option Nat) ≠ _; simp
    bq := fun e he => by cases he
    pb := by show base ≤ w.heap.size + 1; omega
    mbb := hbs
    dk := fun k hk hC => by
      have hkl := (h.dk_lt hk).1
      rcases hC with hC | hC | hC | ⟨e, he, _⟩
      · have hC' : k = w.heap.size + 1 := hC
        omega
      · have hC' : k = w.heap.size := hC
        omega
      · have hC' : (none : Option Nat) = some k := hC
        cases hC'
      · cases he
    m1 := ⟨h1, h2⟩ }
  have hmk := run_makeMap (P := Try.prog) 57 w
  have hi1 : (1 : Int) ≤ most := by omega
  have hi2 : (most : Int) ≤ 4096 := by omega
  clear hp hrow h hb0
  go_enter Try.func7, Try.ntmps7
  go_wp2
  go_ret2
  exact ⟨w.heap.size + 1, w.heap.size, rfl, HC.out, by omega, by omega, hb1⟩
end
end Go.Proofs.Ytikpnfnbmbaljaa
