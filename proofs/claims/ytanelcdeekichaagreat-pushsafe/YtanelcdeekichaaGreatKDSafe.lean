/- Disk.Safe. -/
import Derived.Test.YtanelcdeekichaaGreatJDOpen4
namespace Go.Proofs.YtanelcdeekichaaGreat
open Go.RowKit
set_option maxRecDepth 100000
section
variable {w : World} {base p n : Nat} {en : Bool} {lf : Int} {sf : Nat → List UInt8} {ws : Nat → List (List UInt8)} {q : Nat} {vs : Nat → Value}
set_option maxHeartbeats 1000000 in
theorem read_out (h : DiskAt w base p n en lf sf ws q vs) (b : Int) (hb : b < 0 ∨ (n : Int) ≤ b) (hbb : -9223372036854775808 ≤ b ∧ b ≤ 9223372036854775807) :
    Calls Tryz.prog 31 #[.pointer (some ⟨p, 0, none⟩), .int .i64 b] w fun e w' => e = .returned (.tuple #[.slice none 0 0, .int .i64 3]) ∧ w' = w := by
  have FIND := find_out h b hb hbb
  clear h
  go_enter Tryz.func31, Tryz.ntmps31
  go_wp2_with fail
  refine FIND.mono ?_
  rintro e w1 ⟨rfl, rfl⟩
  clear FIND
  go_wp2
  go_ret2
  exact ⟨rfl, rfl⟩
set_option maxHeartbeats 1000000 in
theorem safe_out (h : DiskAt w base p n en lf sf ws q vs) (b : Int) (hb : b < 0 ∨ (n : Int) ≤ b) (hbb : -9223372036854775808 ≤ b ∧ b ≤ 9223372036854775807) :
    Calls Tryz.prog 22 #[.pointer (some ⟨p, 0, none⟩), .int .i64 b] w fun e w' => e = .returned (.tuple #[.slice none 0 0, .int .i64 3]) ∧ w' = w := by
  have FIND := find_out h b hb hbb
  clear h
  go_enter Tryz.func22, Tryz.ntmps22
  go_wp2_with fail
  refine FIND.mono ?_
  rintro e w1 ⟨rfl, rfl⟩
  clear FIND
  go_wp2
  go_ret2
  exact ⟨rfl, rfl⟩
set_option maxHeartbeats 1000000 in
set_option maxRecDepth 100000 in
theorem safe_any (h : DiskAt w base p n en lf sf ws q vs) (i : Nat) (hi : i < n) :
    Calls Tryz.prog 22 #[.pointer (some ⟨p, 0, none⟩), .int .i64 (i : Int)] w fun e w' => ∃ g, e = .returned (.tuple #[.slice (some ⟨g, 0, none⟩) 256 256, .int .i64 0]) ∧ Blk w' g 111 (sf i) ∧ w.heap.size ≤ g ∧ Below w.heap.size w w' := by
  have FIND := find_any h i hi
  obtain ⟨hr, hlen, _⟩ := h.row i hi
  obtain ⟨Z, hz, hzs, hinfo, HZ⟩ := Tryz.zero111
  clear HZ hinfo
  generalize sf i = y at *
  clear h
  go_enter Tryz.func22, Tryz.ntmps22
  go_wp2_with fail
  refine FIND.mono ?_
  rintro e w1 ⟨rfl, rfl⟩
  clear FIND
  have hb3 : Below w1.heap.size w1 (w1.alloc (.cells Z 111)) := (Below.refl _ _).alloc (Nat.le_refl _) _
  go_wp2_with (first | ((with_reducible show wpList _ _ _ ({ dst := _, op := Op.load 111 _, type := _, pos := _, after := _, guard := _ } :: _) _ _); refine wpList_load_img rfl (.tmp 20) rfl q (i * 257) rfl y hr hlen ?_) | ((with_reducible show wpList _ _ _ ({ dst := _, op := Op.store 111 _ _, type := _, pos := _, after := _, guard := _ } :: _) _ _); refine wpList_store_blk rfl (.tmp 8) (.tmp 21) rfl w1.heap.size Z y rfl rfl (heap_alloc_new _ _) hzs hlen w1.heap.size w1 hb3 (Nat.le_refl _) ?_; intro w3 hg3 hb4 hx1 hy1; clear hx1 hy1))
  go_ret2
  exact ⟨_, rfl, hg3, Nat.le_refl _, hb4⟩
end
end Go.Proofs.YtanelcdeekichaaGreat
