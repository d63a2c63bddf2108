/- Disk.Stop; Disk.Write and Disk.Flush that do not take place or are asked wrongly. -/
import Derived.Test.YtcmkgcdjjplgdaaState
namespace Go.Proofs.Ytcmkgcdjjplgdaa
open Go.RowKit
section
variable {w : World} {base p n : Nat} {en : Bool} {lf : Int} {sf : Nat → List UInt8} {ws : Nat → List (List UInt8)} {q : Nat} {vs : Nat → Value}
set_option maxHeartbeats 1000000 in
theorem stop_any (h : DiskAt w base p n en lf sf ws q vs) (b : Int) :
    Calls Try.prog 27 #[.pointer (some ⟨p, 0, none⟩), .int .i64 b] w fun e w' => e = .returned (.tuple #[]) ∧ DiskAt w' base p n true (if b < 0 then 0 else b) sf ws q vs ∧ Below base w w' ∧ w'.heap.size = w.heap.size ∧ ∀ k, k ≠ p → w'.heap[k]? = w.heap[k]? := by
  have f1 := h.fp 1
  have f2 := h.fp 2
  have c1 := h.c1
  have c2 := h.c2
  have hF : Hid (∀ x, DiskAt ((w.setCell ⟨p, 1, none⟩ (.bool true)).setCell ⟨p, 2, none⟩ (.int .i64 x)) base p n true x sf ws q vs ∧ Below base w ((w.setCell ⟨p, 1, none⟩ (.bool true)).setCell ⟨p, 2, none⟩ (.int .i64 x)) ∧ ((w.setCell ⟨p, 1, none⟩ (.bool true)).setCell ⟨p, 2, none⟩ (.int .i64 x)).heap.size = w.heap.size ∧ ∀ k, k ≠ p → ((w.setCell ⟨p, 1, none⟩ (.bool true)).setCell ⟨p, 2, none⟩ (.int .i64 x)).heap[k]? = w.heap[k]?) := fun x =>
    ⟨(h.setEnd true).setLeft x, ((Below.refl base w).setCell h.pb (p := ⟨p, 1, none⟩) (.bool true)).setCell h.pb (p := ⟨p, 2, none⟩) (.int .i64 x), by simp [World.setCell], fun k hk => (heap_setCell_other _ ⟨p, 2, none⟩ k _ hk).trans (heap_setCell_other _ ⟨p, 1, none⟩ k _ hk)⟩
  clear h
  by_cases hb : b < 0
  · go_enter Try.func27, Try.ntmps27
    go_wp2
    go_end0
    exact ⟨rfl, hF.out 0⟩
  · go_enter Try.func27, Try.ntmps27
    go_wp2
    go_end0
    exact ⟨rfl, hF.out b⟩
set_option maxHeartbeats 1000000 in
theorem write_out (h : DiskAt w base p n en lf sf ws q vs) (b : Int) (v : Value) (hb : b < 0 ∨ (n : Int) ≤ b) (hbb : -9223372036854775808 ≤ b ∧ b ≤ 9223372036854775807) :
    Calls Try.prog 11 #[.pointer (some ⟨p, 0, none⟩), .int .i64 b, v] w fun e w' => e = .returned (.int .i64 3) ∧ w' = w := by
  have FIND := find_out h b hb hbb
  clear h
  go_enter Try.func11, Try.ntmps11
  go_wp2_with fail
  refine FIND.mono ?_
  rintro e w1 ⟨rfl, rfl⟩
  clear FIND
  go_wp2
  go_ret
  exact ⟨rfl, rfl⟩
set_option maxHeartbeats 1000000 in
theorem write_size (h : DiskAt w base p n en lf sf ws q vs) (i : Nat) (hi : i < n) (sp : Option Addr) (m c : Nat) (hm : ¬ (m : Int) = 256) :
    Calls Try.prog 11 #[.pointer (some ⟨p, 0, none⟩), .int .i64 (i : Int), .slice sp m c] w fun e w' => e = .returned (.int .i64 4) ∧ w' = w := by
  have FIND := find_any h i hi
  clear h
  go_enter Try.func11, Try.ntmps11
  go_wp2_with fail
  refine FIND.mono ?_
  rintro e w1 ⟨rfl, rfl⟩
  clear FIND
  go_wp2
  go_ret
  exact ⟨rfl, rfl⟩
set_option maxHeartbeats 1000000 in
theorem write_no (h : DiskAt w base p n en lf sf ws q vs) (hl : 0 ≤ lf ∧ lf ≤ 9223372036854775807) (i : Nat) (hi : i < n) (sp : Option Addr) (c : Nat) (hg : goesB en lf = false) :
    Calls Try.prog 11 #[.pointer (some ⟨p, 0, none⟩), .int .i64 (i : Int), .slice sp 256 c] w fun e w' => e = .returned (.int .i64 0) ∧ DiskAt w' base p n en (goesL en lf) sf ws q vs ∧ Below base w w' ∧ w'.heap.size = w.heap.size ∧ ∀ k, k ≠ p → w'.heap[k]? = w.heap[k]? := by
  have FIND := find_any h i hi
  have GOES := goes_any h hl
  rw [hg] at GOES
  clear h
  go_enter Try.func11, Try.ntmps11
  go_wp2_with fail
  refine FIND.mono ?_
  rintro e w1 ⟨rfl, rfl⟩
  clear FIND
  go_wp2_with fail
  refine GOES.mono ?_
  rintro e w2 ⟨rfl, h2, hb2, hz2, hk2⟩
  clear GOES
  go_wp2
  go_ret
  exact ⟨rfl, h2, hb2, hz2, hk2⟩
set_option maxHeartbeats 1000000 in
theorem flush_no (h : DiskAt w base p n en lf sf ws q vs) (hl : 0 ≤ lf ∧ lf ≤ 9223372036854775807) (hg : goesB en lf = false) :
    Calls Try.prog 24 #[.pointer (some ⟨p, 0, none⟩)] w fun e w' => e = .returned (.int .i64 0) ∧ DiskAt w' base p n en (goesL en lf) sf ws q vs ∧ Below base w w' ∧ w'.heap.size = w.heap.size ∧ ∀ k, k ≠ p → w'.heap[k]? = w.heap[k]? := by
  have GOES := goes_any h hl
  rw [hg] at GOES
  clear h
  go_enter Try.func24, Try.ntmps24
  go_wp2_with fail
  refine GOES.mono ?_
  rintro e w2 ⟨rfl, h2, hb2, hz2, hk2⟩
  clear GOES
  go_wp2
  go_ret
  exact ⟨rfl, h2, hb2, hz2, hk2⟩
end
end Go.Proofs.Ytcmkgcdjjplgdaa
