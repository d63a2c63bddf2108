/- leveeref02.Disk.Open, leveeref01.Ints, leveeref01.Spoil of an array's bytes, leveelaw02.same. -/
import Derived.Test.YtcmkgcdjjplgdaaRef
import Derived.Deep.QuietTactic
import Derived.BigQuiet
namespace Go.Proofs.Ytcmkgcdjjplgdaa
open Go.RowKit
section
variable {w : World} {base r n : Nat} {held : Bool} {left : Int} {ver : Nat → List (List UInt8)} {gb cb : Nat} {va vc : Nat → Nat}
set_option maxHeartbeats 1000000 in
theorem ropen_any (h : RefAt w base r n held left ver gb cb va vc) (ws : Nat → List (List UInt8)) (hws : ∀ i, i < n → (ver i).length = (ws i).length + 1) :
    Calls Try.prog 44 #[.pointer (some ⟨r, 0, none⟩)] w fun e w' => ∃ v, e = .returned v ∧ OwnI w' w.heap.size v (openL ws n) ∧ Below w.heap.size w w' := by
  have hn := h.nn
  have H : Hid _ := h
  have HWS : Hid (∀ i, i < n → (ver i).length = (ws i).length + 1) := hws
  obtain ⟨i0, hi, hz0, hz1, hz2⟩ := info_parts Try.info3
  clear h hws
  go_enter Try.func44, Try.ntmps44
  go_wp2_with fail
  go_loopw [3, 4] (fun v i wr => ∃ k : Nat, k ≤ n ∧ i = .int .i64 k ∧ OwnI wr w.heap.size v (openL ws k) ∧ Below w.heap.size w wr) (fun _ i _ => n - (intOf i).toNat)
  case atStart => exact ⟨0, by omega, rfl, World.ownsRow_nil _ _ _ _, Below.refl _ _⟩
  case round =>
    obtain ⟨k, hk, rfl, hown, hbw⟩ := hrel
    have hs := hbw.size
    have hll := openL_len ws k
    have hR := H.out.below hbw (Nat.le_refl _)
    have c0 := hR.c0
    by_cases hlt : (k : Int) < n
    · have RW := rwrites_in hR k (by omega)
      rw [HWS.out k (by omega)] at RW
      have HSN : Hid _ := openL_succ ws k
      rw [show (((ws k).length + 1 : Nat) : Int) - 1 = ((ws k).length : Int) by omega] at RW
      clear hR
      by_cases hpos : 0 < (ws k).length
      · have hpos' : (0 : Int) < (ws k).length := by omega
        go_wp2_with fail
        refine RW.mono ?_
        rintro e w1 ⟨rfl, rfl⟩
        clear RW
        go_wp2_with (first | (at_builtin; refine wpList_append_own _ rfl (.tmp 18) (.tmp 20) 32 rfl w.heap.size 3 i0 (.int .i64 0) 1 8 Try.underlying32 hi hz0 hz1 hz2 rfl (by decide) u3 _ _ rfl (World.ownsRow.alloc hown _) ⟨w1.heap.size, 0, none⟩ 1 1 [.int .i64 (k : Int)] rfl rfl (cell_one_new _ _ _) (by intro u hu; simp at hu; subst hu; rfl) (by unfold maxLen; omega) (by omega) (by simp; omega) ?_; intro v' w2 hown2 hgrow2 hnil2; clear hnil2))
        have hb2 : Below w.heap.size w w2 := (hbw.alloc hs _).grown hgrow2 (by simp; omega) (fun j hj => (World.ownsRow.lt hown j hj).1)
        have hO2 : OwnI w2 w.heap.size v' (openL ws (k + 1)) := by
          rw [HSN.out, if_pos hpos]
          unfold OwnI
          rw [List.length_append, show ints (openL ws k ++ [k]) = ints (openL ws k) ++ [Value.int .i64 (k : Int)] from by simp [ints]]
          exact hown2
        clear hown hown2 hgrow2
        go_roundw
        case rel => exact ⟨k + 1, by omega, by go_num, hO2, hb2⟩
        case measure => simp [intOf]; omega
      · have hz : (ws k).length = 0 := by omega
        rw [hz] at RW
        go_wp2_with fail
        refine RW.mono ?_
        rintro e w1 ⟨rfl, rfl⟩
        clear RW
        go_wp2
        go_roundw
        case rel => exact ⟨k + 1, by omega, by go_num, by rw [HSN.out, if_neg hpos, List.append_nil]; exact hown, hbw⟩
        case measure => simp [intOf]; omega
    · obtain rfl : k = n := by omega
      go_wp2
      go_ret
      exact ⟨_, rfl, hown, hbw⟩
end
set_option maxHeartbeats 1000000 in
theorem ints_any (w : World) (b1 b2 : Nat) (v1 v2 : Value) (L : List Nat) (h1 : OwnI w b1 v1 L) (h2 : OwnI w b2 v2 L) (hl : L.length ≤ 4096) :
    Calls Try.prog 43 #[v1, v2] w fun e w' => e = .returned (.bool true) ∧ Below w.heap.size w w' := by
  obtain ⟨a1, c1, rfl, hc1, ha1, hx1⟩ := h1.form
  obtain ⟨a2, c2, rfl, hc2, ha2, hx2⟩ := h2.form
  have HX1 : Hid _ := hx1
  have HX2 : Hid _ := hx2
  clear hx1 hx2 h1 h2
  go_enter Try.func43, Try.ntmps43
  go_wp2_with fail
  go_loopw [5] (fun i wr => ∃ k : Nat, k ≤ L.length ∧ i = .int .i64 k ∧ Below w.heap.size w wr ∧ wr.heap = w.heap) (fun i _ => L.length - (intOf i).toNat)
  case atStart => exact ⟨0, by omega, rfl, Below.refl _ _, rfl⟩
  case round =>
    obtain ⟨k, hk, rfl, hbw, hhp⟩ := hrel
    by_cases hlt : (k : Int) < L.length
    · obtain ⟨g1, rfl⟩ := ha1 (by omega)
      obtain ⟨g2, rfl⟩ := ha2 (by omega)
      have e1 : wr.cell? ⟨g1, k, none⟩ = some (.int .i64 ((L.getD k 0 : Nat) : Int)) := (World.cell?_of_block (a := ⟨g1, k, none⟩) (by rw [hhp])).trans (HX1.out k (by omega) g1 rfl)
      have e2 : wr.cell? ⟨g2, k, none⟩ = some (.int .i64 ((L.getD k 0 : Nat) : Int)) := (World.cell?_of_block (a := ⟨g2, k, none⟩) (by rw [hhp])).trans (HX2.out k (by omega) g2 rfl)
      generalize L.getD k 0 = b at *
      clear HX1 HX2
      go_wp2_with fail
      go_quiet (fail)
      go_wp2
      go_roundw
      case rel => exact ⟨k + 1, by omega, by go_num, below_drewN hbw _, hhp⟩
      case measure => simp [intOf]; omega
    · go_wp2
      go_ret
      exact ⟨rfl, hbw⟩
set_option maxHeartbeats 1000000 in
theorem spoil_blk (w : World) (g : Nat) (t : TypeId) (l : List UInt8) (h : Blk w g t l) (hl : (l.length : Int) ≤ 4096) :
    Calls Try.prog 23 #[.slice (some ⟨g, 0, none⟩) l.length l.length] w fun e w' => e = .returned (.tuple #[]) ∧ Below g w w' ∧ (∀ k, k ≠ g → w'.heap[k]? = w.heap[k]?) := by
  go_enter Try.func23, Try.ntmps23
  go_wp2
  go_loopw [2] (fun i wr => ∃ k : Nat, ∃ m : List UInt8, k ≤ l.length ∧ i = .int .i64 k ∧ m.length = l.length ∧ Blk wr g t m ∧ Below g w wr ∧ ∀ j, j ≠ g → wr.heap[j]? = w.heap[j]?) (fun i _ => l.length - (intOf i).toNat)
  case atStart => exact ⟨0, l, by omega, rfl, rfl, h, Below.refl _ _, fun _ _ => rfl⟩
  case round =>
    obtain ⟨k, m, hk, rfl, hm, hB, hbw, ho⟩ := hrel
    by_cases hlt : (k : Int) < l.length
    · have hst := hB.store k 90
      obtain ⟨y, cD⟩ : ∃ y : UInt8, wr.cell? ⟨g, k, none⟩ = some (bv y) := ⟨_, hB.cell k (by omega)⟩
      change wr.cell? ⟨g, k, none⟩ = some (Value.int .u8 (y.toNat : Int)) at cD
      have fD := hB.frozen k
      have hb2 := hbw.setCell (p := ⟨g, k, none⟩) (Nat.le_refl _) (bv 90)
      have ho2 : Hid (∀ j, j ≠ g → (wr.setCell ⟨g, k, none⟩ (bv 90)).heap[j]? = w.heap[j]?) := fun j hj => (heap_setCell_other wr ⟨g, k, none⟩ j _ hj).trans (ho j hj)
      have HST : Hid _ := hst
      clear hst hB ho
      go_wp2
      go_roundw
      case rel => exact ⟨k + 1, m.set k 90, by omega, by go_num, by rw [List.length_set]; exact hm, HST.out, hb2, ho2.out⟩
      case measure => simp [intOf]; omega
    · go_wp2
      go_end0
      exact ⟨rfl, hbw, ho⟩
end Go.Proofs.Ytcmkgcdjjplgdaa
