/- inode.bounded, inode.Right. -/
import Derived.Test.YtabmogeicpphoaaNamed
namespace Go.Proofs.Ytabmogeicpphoaa
open Go.RowKit
/-- A block's name. -/
def okN (x : Int) : Bool := decide (0 ≤ x) && decide (x < 4096)
def lkB (i : Ino) : Bool := decide (0 ≤ i.l) && (decide (i.l ≤ 1000) && (decide (1 ≤ i.d) && decide (i.d ≤ 4611686018427387904)))
def bndB (i : Ino) : Bool := i.ns.all okN && lkB i
theorem all_step {l : List Int} {k : Nat} (h : k < l.length) : (l.take (k + 1)).all okN = ((l.take k).all okN && okN (l.getD k 0)) := by
  have e : l.getD k 0 = l[k] := by simp [h]
  rw [List.take_succ_eq_append_getElem h, List.all_append, e]; simp only [List.all_cons, List.all_nil, Bool.and_true]
theorem all_no {l : List Int} {k : Nat} (h : k < l.length) (hk : okN (l.getD k 0) = false) : l.all okN = false := by
  rw [List.all_eq_false]
  exact ⟨l[k], List.getElem_mem h, by simpa [h] using hk⟩
set_option maxHeartbeats 2000000 in
theorem bounded_any (i : Ino) (hn : i.ns.length = 8) (w : World) :
    Calls Try.prog 52 #[.agg (iA i)] w fun e w' => e = .returned (.bool (bndB i)) ∧ Below w.heap.size w w' := by
  have HI : Hid (InoAt (w.alloc (.cells (iA i) 24)) w.heap.size i) := ino_new w i hn
  have HB : Hid (Below w.heap.size w (w.alloc (.cells (iA i) 24))) := (Below.refl _ _).alloc (Nat.le_refl _) _
  have NA := fun W => named_any i hn W
  have HN : Hid (i.ns.length = 8) := hn
  clear hn
  go_enter Try.func52, Try.ntmps52
  go_wp2_with (first | ((with_reducible show wpList _ _ _ ({ dst := _, op := Op.load 24 _, type := _, pos := _, after := _, guard := _ } :: _) _ _); refine wpList_load_ino rfl _ rfl (HI.out) rfl ?_))
  refine (NA _).mono ?_
  rintro e w1 ⟨rfl, h1⟩
  have HI1 : Hid (InoAt w1 w.heap.size i) := HI.out.up h1
  have HB1 : Hid (Below w.heap.size w w1) := HB.out.trans (h1.mono HB.out.size)
  clear NA HI HB h1
  go_wp2
  go_loop [7] (fun t => ∃ k : Nat, k ≤ 8 ∧ t = .int .i64 k ∧ (i.ns.take k).all okN = true) (fun t => 8 - (intOf t).toNat)
  case atStart => exact ⟨0, by omega, rfl, by simp⟩
  case round =>
    obtain ⟨k, hk, rfl, hall⟩ := hrel
    have HA : Hid ((i.ns.take k).all okN = true) := hall
    clear hall
    by_cases hlt : (k : Int) < 8
    · have hix := run_index8 HN.out k (by omega)
      have HS : Hid _ := all_step (l := i.ns) (k := k) (by rw [HN.out]; omega)
      have HO : Hid (∀ h : okN (i.ns.getD k 0) = false, i.ns.all okN = false) := fun h => all_no (by rw [HN.out]; omega) h
      generalize i.ns.getD k 0 = x at *
      by_cases h0 : x < 0
      · go_wp2
        go_ret
        exact ⟨ret_bool (by unfold bndB; rw [HO.out (by simp [okN]; omega)]; rfl), HB1.out⟩
      by_cases h1 : 4096 ≤ x
      · go_wp2
        go_ret
        exact ⟨ret_bool (by unfold bndB; rw [HO.out (by simp [okN]; omega)]; rfl), HB1.out⟩
      · go_wp2
        go_round
        case rel => exact ⟨k + 1, by omega, by go_num, by rw [HS.out, HA.out]; simp [okN]; omega⟩
        case measure => simp [intOf]; omega
    · have HALL : Hid (i.ns.all okN = true) := by
        have := HA.out
        rw [List.take_of_length_le (by rw [HN.out]; omega)] at this
        exact this
      have q1 := HI1.out.c1
      have q3 := HI1.out.c3
      have FIN : Hid (∀ b, lkB i = b → Ending.returned (.bool b) = .returned (.bool (bndB i))) := fun b hb => by rw [bndB, HALL.out, hb]; rfl
      unfold lkB at FIN
      generalize i.l = L at *
      generalize i.d = D at *
      by_cases g0 : L < 0
      · have d0 : decide (0 ≤ L) = false := by simp; omega
        go_wp2
        go_ret
        exact ⟨FIN.out _ (by simp; omega), HB1.out⟩
      by_cases g1 : 1000 < L
      · have d1 : decide (L ≤ 1000) = false := by simp; omega
        go_wp2
        go_ret
        exact ⟨FIN.out _ (by simp; omega), HB1.out⟩
      by_cases g2 : D < 1
      · have d2 : decide (1 ≤ D) = false := by simp; omega
        go_wp2
        go_ret
        exact ⟨FIN.out _ (by simp; omega), HB1.out⟩
      by_cases g3 : 4611686018427387904 < D
      · have d3 : decide (D ≤ 4611686018427387904) = false := by simp; omega
        go_wp2
        go_ret
        exact ⟨FIN.out _ (by simp; omega), HB1.out⟩
      have d0 : decide (0 ≤ L) = true := by simp; omega
      have d1 : decide (L ≤ 1000) = true := by simp; omega
      have d2 : decide (1 ≤ D) = true := by simp; omega
      have d3 : decide (D ≤ 4611686018427387904) = true := by simp; omega
      go_wp2
      go_ret
      exact ⟨FIN.out _ (by rw [d0, d1, d2]; simp; omega), HB1.out⟩
end Go.Proofs.Ytabmogeicpphoaa
