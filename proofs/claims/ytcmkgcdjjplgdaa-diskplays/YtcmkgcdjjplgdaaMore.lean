/- Disk.Safe, Disk.Bytes; Disk.Read and Disk.Safe of a block that is not there. -/
import Derived.Test.YtcmkgcdjjplgdaaKnown
namespace Go.Proofs.Ytcmkgcdjjplgdaa
open Go.RowKit
section
variable {w : World} {base p n : Nat} {en : Bool} {lf : Int} {sf : Nat → List UInt8} {ws : Nat → List (List UInt8)} {q : Nat} {vs : Nat → Value}
set_option maxHeartbeats 1000000 in
theorem read_out (h : DiskAt w base p n en lf sf ws q vs) (b : Int) (hb : b < 0 ∨ (n : Int) ≤ b) (hbb : -9223372036854775808 ≤ b ∧ b ≤ 9223372036854775807) :
    Calls Try.prog 25 #[.pointer (some ⟨p, 0, none⟩), .int .i64 b] w fun e w' => e = .returned (.tuple #[.slice none 0 0, .int .i64 3]) ∧ w' = w := by
  have FIND := find_out h b hb hbb
  clear h
  go_enter Try.func25, Try.ntmps25
  go_wp2_with fail
  refine FIND.mono ?_
  rintro e w1 ⟨rfl, rfl⟩
  clear FIND
  go_wp2
  go_ret2
  exact ⟨rfl, rfl⟩
set_option maxHeartbeats 1000000 in
theorem safe_out (h : DiskAt w base p n en lf sf ws q vs) (b : Int) (hb : b < 0 ∨ (n : Int) ≤ b) (hbb : -9223372036854775808 ≤ b ∧ b ≤ 9223372036854775807) :
    Calls Try.prog 26 #[.pointer (some ⟨p, 0, none⟩), .int .i64 b] w fun e w' => e = .returned (.tuple #[.slice none 0 0, .int .i64 3]) ∧ w' = w := by
  have FIND := find_out h b hb hbb
  clear h
  go_enter Try.func26, Try.ntmps26
  go_wp2_with fail
  refine FIND.mono ?_
  rintro e w1 ⟨rfl, rfl⟩
  clear FIND
  go_wp2
  go_ret2
  exact ⟨rfl, rfl⟩
set_option maxHeartbeats 1000000 in
set_option maxRecDepth 100000 in
theorem safe_any (h : DiskAt w base p n en lf sf ws q vs) (i : Nat) (hi : i < n) :
    Calls Try.prog 26 #[.pointer (some ⟨p, 0, none⟩), .int .i64 (i : Int)] w fun e w' => ∃ g, e = .returned (.tuple #[.slice (some ⟨g, 0, none⟩) 256 256, .int .i64 0]) ∧ Blk w' g 70 (sf i) ∧ w.heap.size ≤ g ∧ Below w.heap.size w w' := by
  have FIND := find_any h i hi
  obtain ⟨hr, hlen, _⟩ := h.row i hi
  obtain ⟨Z, hz, hzs, hinfo, HZ⟩ := Try.zero70
  clear HZ hinfo
  generalize sf i = y at *
  clear h
  go_enter Try.func26, Try.ntmps26
  go_wp2_with fail
  refine FIND.mono ?_
  rintro e w1 ⟨rfl, rfl⟩
  clear FIND
  have hb3 : Below w1.heap.size w1 (w1.alloc (.cells Z 70)) := (Below.refl _ _).alloc (Nat.le_refl _) _
  go_wp2_with (first | ((with_reducible show wpList _ _ _ ({ dst := _, op := Op.load 70 _, type := _, pos := _, after := _, guard := _ } :: _) _ _); refine wpList_load_img rfl (.tmp 20) rfl q (i * 257) rfl y hr hlen ?_) | ((with_reducible show wpList _ _ _ ({ dst := _, op := Op.store 70 _ _, type := _, pos := _, after := _, guard := _ } :: _) _ _); refine wpList_store_blk rfl (.tmp 8) (.tmp 21) rfl w1.heap.size Z y rfl rfl (heap_alloc_new _ _) hzs hlen w1.heap.size w1 hb3 (Nat.le_refl _) ?_; intro w3 hg3 hb4 hx1 hy1; clear hx1 hy1))
  go_ret2
  exact ⟨_, rfl, hg3, Nat.le_refl _, hb4⟩
/-- The first k blocks, as they read, and 0 behind them. -/
def bytesP (y : Nat → List UInt8) (n k : Nat) : List UInt8 := (List.range k).flatMap y ++ List.replicate ((n - k) * 256) 0
theorem flat_length (y : Nat → List UInt8) (hy : ∀ i, (y i).length = 256) : ∀ k, ((List.range k).flatMap y).length = k * 256
  | 0 => rfl
  | k + 1 => by rw [List.range_succ, List.flatMap_append, List.length_append, flat_length y hy k]; simp [hy]; omega
theorem bytesP_step (y : Nat → List UInt8) (hy : ∀ i, (y i).length = 256) (n k : Nat) (hk : k < n) : (bytesP y n k).take (k * 256) ++ (y k).take (n * 256 - k * 256) ++ (bytesP y n k).drop (k * 256 + min 256 (n * 256 - k * 256)) = bytesP y n (k + 1) := by
  have hA := flat_length y hy k
  have h1 : (bytesP y n k).take (k * 256) = (List.range k).flatMap y := by unfold bytesP; rw [List.take_left' hA]
  have h2 : (y k).take (n * 256 - k * 256) = y k := List.take_of_length_le (by rw [hy]; omega)
  have h3 : (bytesP y n k).drop (k * 256 + min 256 (n * 256 - k * 256)) = List.replicate ((n - (k + 1)) * 256) 0 := by
    unfold bytesP
    have hm : min 256 (n * 256 - k * 256) = 256 := by omega
    have he : (n - k) * 256 - 256 = (n - (k + 1)) * 256 := by omega
    rw [hm, ← List.drop_drop, List.drop_left' hA, List.drop_replicate, he]
  rw [h1, h2, h3]
  unfold bytesP
  rw [List.range_succ, List.flatMap_append]; simp
set_option maxHeartbeats 2000000 in
set_option maxRecDepth 100000 in
theorem bytes_any (h : DiskAt w base p n en lf sf ws q vs) (y : Nat → List UInt8) (hy : ∀ i, i < n → y i = lastOf (sf i) (ws i)) (hyl : ∀ i, (y i).length = 256) :
    Calls Try.prog 16 #[.pointer (some ⟨p, 0, none⟩)] w fun e w' => ∃ g, e = .returned (.slice (some ⟨g, 0, none⟩) (n * 256) (n * 256)) ∧ Blk w' g 5 ((List.range n).flatMap y) ∧ w.heap.size ≤ g ∧ Below w.heap.size w w' := by
  have LEN := len_any h
  have hnn := h.nn
  have hmk : (Instr.makeSlice 31 (.int .i64 ((n : Int) * 256)) (.int .i64 ((n : Int) * 256))).run Try.prog w = .ok (.slice (some ⟨w.heap.size, 0, none⟩) (n * 256) (n * 256)) (w.alloc (.cells (bvs (List.replicate (n * 256) 0)).toArray 5)) := by
    have := make_any w (n * 256) (n * 256) (Nat.le_refl _) (by omega)
    rw [show ((n * 256 : Nat) : Int) = (n : Int) * 256 by omega] at this
    exact this
  have hb0 : Below w.heap.size w (w.alloc (.cells (bvs (List.replicate (n * 256) 0)).toArray 5)) := (Below.refl _ _).alloc (Nat.le_refl _) _
  have hg0 : Blk (w.alloc (.cells (bvs (List.replicate (n * 256) 0)).toArray 5)) w.heap.size 5 (bytesP y n 0) := by
    have e : bytesP y n 0 = List.replicate (n * 256) 0 := by simp [bytesP]
    rw [e]; exact heap_alloc_new _ _
  have H : Hid _ := h
  have hq := h.ql
  have hp := h.pl
  clear h
  obtain ⟨w0, HW⟩ : ∃ w0, Hid (w0 = w.alloc (.cells (bvs (List.replicate (n * 256) 0)).toArray 5)) := ⟨_, rfl⟩
  rw [← HW.out] at hmk hb0 hg0
  have LEN0 := len_any (H.out.below hb0 (Nat.le_refl _))
  clear HW
  go_enter Try.func16, Try.ntmps16
  go_wp2_with fail
  refine LEN.mono ?_
  rintro e w1 ⟨rfl, rfl⟩
  clear LEN
  have hn1 : (n : Int) ≤ 4096 := by omega
  have hn0 : (0 : Int) ≤ n := by omega
  go_wp2_with fail
  refine LEN0.mono ?_
  rintro e w2 ⟨rfl, rfl⟩
  clear LEN0 hmk
  obtain ⟨Z, hz, hzs, hinfo, HZ⟩ := Try.zero70
  clear HZ hinfo
  go_wp2_with fail
  go_loopw [12] (fun i wr => ∃ k : Nat, k ≤ n ∧ i = .int .i64 k ∧ Blk wr w1.heap.size 5 (bytesP y n k) ∧ Below w1.heap.size w1 wr) (fun i _ => n - (intOf i).toNat)
  case atStart => exact ⟨0, by omega, rfl, hg0, hb0⟩
  case round =>
    obtain ⟨k, hk, rfl, hB, hbw⟩ := hrel
    by_cases hlt : (k : Int) < n
    · have hD := H.out.below hbw (Nat.le_refl _)
      have LAST := last_any hD k (by omega)
      rw [← hy k (by omega)] at LAST
      obtain ⟨cq, hcq1, hcq2, c0⟩ := hD.c0
      have hyk := hyl k
      clear hD
      go_wp2_with fail
      refine LAST.mono ?_
      rintro e w3 ⟨rfl, hb3⟩
      clear LAST
      have hs3 := hb3.size
      have hbZ : Below wr.heap.size wr (w3.alloc (.cells Z 70)) := hb3.alloc hs3 _
      go_wp2_with ((with_reducible show wpList _ _ _ ({ dst := _, op := Op.store 70 _ _, type := _, pos := _, after := _, guard := _ } :: _) _ _); refine wpList_store_blk rfl (.tmp 5) (.tmp 21) rfl w3.heap.size Z (y k) rfl rfl (heap_alloc_new _ _) hzs hyk wr.heap.size wr hbZ hs3 ?_; intro w4 hg4 hb4 hx1 hy1; clear hx1 hy1)
      have hlt0 := hB.lt
      have hB4 : Blk w4.drew w1.heap.size 5 (bytesP y n k) := hB.below hb4.drew hlt0
      have hPl : (bytesP y n k).length = n * 256 := by unfold bytesP; rw [List.length_append, flat_length y hyl, List.length_replicate]; omega
      obtain ⟨w5, hcp, hB5, hb5, hs5⟩ := copy_any (w := w4.drew) (g := w1.heap.size) (off := k * 256) (dLen := n * 256 - k * 256) (n * 256 - k * 256) (sp := some ⟨w3.heap.size, 0, none⟩) 256 256 hB4 (show Src w4.drew (some ⟨w3.heap.size, 0, none⟩) (y k) from hg4.src) hyk (by rw [hPl]; omega)
      have hmul : IntKind.i64.wrap ((k : Int) * 256) = ((k * 256 : Nat) : Int) := by rw [IntKind.wrap_i64]; omega
      have hk0 : (0 : Int) ≤ (k : Int) * 256 := by omega
      have htn : ((k : Int) * 256).toNat = k * 256 := by omega
      have hne : ¬ n * 256 = k * 256 := by omega
      dsimp only [Act.put]
      have hb6 : Below w1.heap.size w1 w5 := (hbw.trans ((hb4.mono hbw.size).drew)).trans hb5
      rw [bytesP_step y hyl n k (by omega)] at hB5
      have HB5 : Hid _ := hB5
      clear hB5 hB4 hB hPl
      go_region
      go_wp2
      go_roundw
      case rel => exact ⟨k + 1, by omega, by go_num, HB5.out, hb6⟩
      case measure => simp [intOf]; omega
    · obtain rfl : k = n := by omega
      go_wp2
      go_ret
      refine ⟨_, rfl, ?_, Nat.le_refl _, hbw⟩
      have e : bytesP y k k = (List.range k).flatMap y := by simp [bytesP]
      rw [← e]; exact hB
end
end Go.Proofs.Ytcmkgcdjjplgdaa
