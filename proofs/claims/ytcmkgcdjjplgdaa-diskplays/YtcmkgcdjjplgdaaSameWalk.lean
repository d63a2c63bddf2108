/- leveelaw02.same. -/
import Derived.Test.YtcmkgcdjjplgdaaSame
namespace Go.Proofs.Ytcmkgcdjjplgdaa
open Go.RowKit
theorem lastOf_at (sf : List UInt8) (ws : List (List UInt8)) : (sf :: ws)[ws.length]? = some (lastOf sf ws) := by
  cases ws with
  | nil => rfl
  | cons x r =>
    show (x :: r)[r.length]? = _
    rw [List.getElem?_eq_getElem (by simp)]
    simp [lastOf, List.getLast_eq_getElem]
/-- The two disks are told to have the same open blocks, writes and Stop. -/
def SameTail (w : World) (p r : Nat) (b : Int) (L : List Nat) (x : Int) (c : Bool) : Prop := ∀ W, Below w.heap.size w W →
  (Calls Try.prog 29 #[.pointer (some ⟨p, 0, none⟩)] W fun e w' => ∃ v, e = .returned v ∧ OwnI w' W.heap.size v L ∧ Below W.heap.size W w') ∧
  (Calls Try.prog 44 #[.pointer (some ⟨r, 0, none⟩)] W fun e w' => ∃ v, e = .returned v ∧ OwnI w' W.heap.size v L ∧ Below W.heap.size W w') ∧
  (Calls Try.prog 30 #[.pointer (some ⟨p, 0, none⟩), .int .i64 b] W fun e w' => e = .returned (.int .i64 x) ∧ w' = W) ∧ (Calls Try.prog 45 #[.pointer (some ⟨r, 0, none⟩), .int .i64 b] W fun e w' => e = .returned (.int .i64 x) ∧ w' = W) ∧
  (Calls Try.prog 28 #[.pointer (some ⟨p, 0, none⟩)] W fun e w' => e = .returned (.bool c) ∧ w' = W) ∧ (Calls Try.prog 46 #[.pointer (some ⟨r, 0, none⟩)] W fun e w' => e = .returned (.bool c) ∧ w' = W)
section
variable {w : World} {base p n : Nat} {en : Bool} {lf : Int} {sf : Nat → List UInt8} {ws : Nat → List (List UInt8)} {q : Nat} {vs : Nat → Value} {base' r : Nat} {gb cb : Nat} {va vc : Nat → Nat}
theorem same_tail (h : DiskAt w base p n en lf sf ws q vs) (k : RefAt w base' r n en lf (fun i => sf i :: ws i) gb cb va vc) (b : Int) (hbb : -9223372036854775808 ≤ b ∧ b ≤ 9223372036854775807) : ∃ L x c, L.length ≤ 4096 ∧ SameTail w p r b L x c := by
  have hL : (openL ws n).length ≤ 4096 := by have := openL_len ws n; have := h.nn; omega
  by_cases hb : b < 0 ∨ (n : Int) ≤ b
  · refine ⟨openL ws n, 0, en && (lf == 0), hL, fun W hW => ?_⟩
    have hD := h.below hW (Nat.le_refl _)
    have hR := k.below hW (Nat.le_refl _)
    exact ⟨open_any hD, ropen_any hR ws (fun i _ => by simp), writes_out hD b hb hbb, rwrites_out hR b hb, stopped_any hD, rstopped_any hR⟩
  · obtain ⟨i, rfl⟩ := Int.eq_ofNat_of_zero_le (show 0 ≤ b by omega)
    refine ⟨openL ws n, ((ws i).length : Int), en && (lf == 0), hL, fun W hW => ?_⟩
    have hD := h.below hW (Nat.le_refl _)
    have hR := k.below hW (Nat.le_refl _)
    have h5 := rwrites_in hR i (by omega)
    rw [show (((sf i :: ws i).length : Nat) : Int) - 1 = ((ws i).length : Int) by simp] at h5
    exact ⟨open_any hD, ropen_any hR ws (fun i _ => by simp), writes_any hD i (by omega), h5, stopped_any hD, rstopped_any hR⟩
theorem blk_read {w w' : World} {g : Nat} {t : TypeId} {l : List UInt8} (h : Blk w g t l) (hb : Below w.heap.size w w') : Blk w' g t l := h.below hb h.lt
set_option maxHeartbeats 4000000 in
theorem same_in (h : DiskAt w base p n en lf sf ws q vs) (k : RefAt w base' r n en lf (fun i => sf i :: ws i) gb cb va vc) (i : Nat) (hi : i < n) :
    Calls Try.prog 15 #[.pointer (some ⟨p, 0, none⟩), .pointer (some ⟨r, 0, none⟩), .int .i64 (i : Int)] w fun e w' => e = .returned (.bool true) ∧ Below w.heap.size w w' := by
  have hnn := h.nn
  obtain ⟨L, x, c, hLl, hT⟩ := same_tail h k (i : Int) (by omega)
  have T : Hid _ := hT
  clear hT
  have R1 := read_any h i hi
  have H : Hid _ := h
  have K : Hid _ := k
  have hl1 := h.lastLen i hi
  have hl2 := (h.row i hi).2.1
  have hY : Hid _ := lastOf_at (sf i) (ws i)
  clear h k
  go_enter Try.func15, Try.ntmps15
  go_wp2_with fail
  refine R1.mono ?_
  rintro e w1 ⟨g1, rfl, hg1, hl11, hb1⟩
  clear R1
  have R2 := rread_in (K.out.below hb1 (Nat.le_refl _)) i hi (ws i).length _ rfl hY.out
  go_wp2_with fail
  refine R2.mono ?_
  rintro e w2 ⟨g2, c2, rfl, hg2, hb2⟩
  clear R2
  have hb02 : Below w.heap.size w w2 := hb1.trans (hb2.mono hb1.size)
  have R3 := safe_any (H.out.below hb02 (Nat.le_refl _)) i hi
  go_wp2_with fail
  refine R3.mono ?_
  rintro e w3 ⟨g3, rfl, hg3, hl33, hb3⟩
  clear R3
  have hb03 : Below w.heap.size w w3 := hb02.trans (hb3.mono hb02.size)
  have R4 := rsafe_in (K.out.below hb03 (Nat.le_refl _)) i hi (sf i) rfl
  go_wp2_with fail
  refine R4.mono ?_
  rintro e w4 ⟨g4, c4, rfl, hg4, hb4⟩
  clear R4 H K hY
  have hb04 : Below w.heap.size w w4 := hb03.trans (hb4.mono hb03.size)
  have s1 := hb1.size
  have s2 := hb2.size
  have s3 := hb3.size
  have s4 := hb4.size
  have hb24 : Below w2.heap.size w2 w4 := hb3.trans (hb4.mono s3)
  have hb14 : Below w1.heap.size w1 w4 := hb2.trans (hb24.mono s2)
  have hG1 : Blk w4 g1 70 (lastOf (sf i) (ws i)) := blk_read hg1 hb14
  have hG3 : Blk w4 g3 70 (sf i) := blk_read hg3 hb4
  have x1 := conv_str hG1.src 256 256 hl1.symm
  have x2 := conv_str (hg2.below hb24 (Nat.le_refl _)) 256 c2 hl1.symm
  have x3 := conv_str hG3.src 256 256 hl2.symm
  have x4 := conv_str hg4 256 c4 hl2.symm
  have hG1l := hg1.lt
  have hg13 : g1 ≠ g3 := by omega
  have SP1 := spoil_blk w4 g1 70 _ hG1 (by omega)
  rw [hl1] at SP1
  have HG3 : Hid _ := hG3
  clear hG1 hG3 hg1 hg2 hg3 hg4 hb1 hb2 hb3 hb4 hb02 hb03 hb24 hb14
  generalize lastOf (sf i) (ws i) = Y at *
  generalize sf i = Z at *
  go_wp2_with fail
  refine SP1.mono ?_
  rintro e w5 ⟨rfl, hb5, ho5⟩
  clear SP1 x1 x2 x3 x4
  have hb05 : Below w.heap.size w w5 := hb04.trans (hb5.mono hl11)
  have hG5 : Blk w5 g3 70 Z := by
    unfold Blk; rw [ho5 g3 (fun e => hg13 e.symm)]; exact HG3.out
  have SP3 := spoil_blk w5 g3 70 _ hG5 (by omega)
  rw [hl2] at SP3
  clear hG5 HG3 ho5 hb04 hb5
  go_wp2_with fail
  refine SP3.mono ?_
  rintro e w6 ⟨rfl, hb6, ho6⟩
  clear SP3
  have hb06 : Below w.heap.size w w6 := hb05.trans (hb6.mono (by omega))
  clear ho6 hb6 hb05
  clear hl1 hl2 hg13 s1 s2 s3 s4 hl11 hl33 hG1l
  go_wp2_with fail
  refine (T.out w6 hb06).1.mono ?_
  rintro e w7 ⟨v7, rfl, hO7, hb7⟩
  have hb07 : Below w.heap.size w w7 := hb06.trans (hb7.mono hb06.size)
  go_wp2_with fail
  refine (T.out w7 hb07).2.1.mono ?_
  rintro e w8 ⟨v8, rfl, hO8, hb8⟩
  have hb08 : Below w.heap.size w w8 := hb07.trans (hb8.mono hb07.size)
  have IN := ints_any w8 _ _ v7 v8 L (owns_below hO7 hb8 (Nat.le_refl _)) hO8 hLl
  clear hO7 hO8 hb7 hb8 hb06 hb07
  go_wp2_with fail
  refine IN.mono ?_
  rintro e w9 ⟨rfl, hb9⟩
  clear IN
  have hb09 : Below w.heap.size w w9 := hb08.trans (hb9.mono hb08.size)
  obtain ⟨_, _, t3, t4, t5, t6⟩ := T.out w9 hb09
  clear hb9 hb08
  go_wp2_with fail
  refine t3.mono ?_
  rintro e w10 ⟨rfl, rfl⟩
  clear t3
  go_wp2_with fail
  refine t4.mono ?_
  rintro e w11 ⟨rfl, rfl⟩
  clear t4
  go_wp2_with fail
  refine t5.mono ?_
  rintro e w12 ⟨rfl, rfl⟩
  clear t5
  go_wp2_with fail
  refine t6.mono ?_
  rintro e w13 ⟨rfl, rfl⟩
  clear t6
  go_wp2
  go_ret
  exact ⟨by simp, hb09⟩
set_option maxHeartbeats 4000000 in
theorem same_out (h : DiskAt w base p n en lf sf ws q vs) (k : RefAt w base' r n en lf (fun i => sf i :: ws i) gb cb va vc) (b : Int) (hb : b < 0 ∨ (n : Int) ≤ b) (hbb : -9223372036854775808 ≤ b ∧ b ≤ 9223372036854775807) :
    Calls Try.prog 15 #[.pointer (some ⟨p, 0, none⟩), .pointer (some ⟨r, 0, none⟩), .int .i64 b] w fun e w' => e = .returned (.bool true) ∧ Below w.heap.size w w' := by
  obtain ⟨L, x, c, hLl, hT⟩ := same_tail h k b hbb
  have T : Hid _ := hT
  clear hT
  have R1 := read_out h b hb hbb
  have R2 := rread_out k b hb
  have R3 := safe_out h b hb hbb
  have R4 := rsafe_out k b hb
  have x0 := conv_str (Src.nil w none) 0 0 rfl
  have SP : ∀ W : World, Calls Try.prog 23 #[.slice none 0 0] W fun e w' => e = .returned (.tuple #[]) ∧ W.grownBy w' none := fun W => spoil_any 0 (.slice none 0 0) [] W (World.ownsRow_nil _ _ _ _) (by simp)
  clear h k
  go_enter Try.func15, Try.ntmps15
  go_wp2_with fail
  refine R1.mono ?_
  rintro e w1 ⟨rfl, rfl⟩
  go_wp2_with fail
  refine R2.mono ?_
  rintro e w2 ⟨rfl, rfl⟩
  go_wp2_with fail
  refine R3.mono ?_
  rintro e w3 ⟨rfl, rfl⟩
  go_wp2_with fail
  refine R4.mono ?_
  rintro e w ⟨rfl, rfl⟩
  clear R1 R2 R3 R4
  go_wp2_with fail
  refine (SP _).mono ?_
  rintro e w5 ⟨rfl, hg5⟩
  clear x0
  have hb05 : Below w.heap.size w w5 := (Below.refl _ _).grown hg5 (Nat.le_refl _) (fun _ h => by cases h)
  clear hg5
  go_wp2_with fail
  refine (SP _).mono ?_
  rintro e w6 ⟨rfl, hg6⟩
  have hb06 : Below w.heap.size w w6 := hb05.grown hg6 hb05.size (fun _ h => by cases h)
  clear hg6 hb05 SP
  go_wp2_with fail
  refine (T.out w6 hb06).1.mono ?_
  rintro e w7 ⟨v7, rfl, hO7, hb7⟩
  have hb07 : Below w.heap.size w w7 := hb06.trans (hb7.mono hb06.size)
  go_wp2_with fail
  refine (T.out w7 hb07).2.1.mono ?_
  rintro e w8 ⟨v8, rfl, hO8, hb8⟩
  have hb08 : Below w.heap.size w w8 := hb07.trans (hb8.mono hb07.size)
  have IN := ints_any w8 _ _ v7 v8 L (owns_below hO7 hb8 (Nat.le_refl _)) hO8 hLl
  clear hO7 hO8 hb7 hb8 hb06 hb07
  go_wp2_with fail
  refine IN.mono ?_
  rintro e w9 ⟨rfl, hb9⟩
  clear IN
  have hb09 : Below w.heap.size w w9 := hb08.trans (hb9.mono hb08.size)
  obtain ⟨_, _, t3, t4, t5, t6⟩ := T.out w9 hb09
  clear hb9 hb08
  go_wp2_with fail
  refine t3.mono ?_
  rintro e w10 ⟨rfl, rfl⟩
  clear t3
  go_wp2_with fail
  refine t4.mono ?_
  rintro e w11 ⟨rfl, rfl⟩
  clear t4
  go_wp2_with fail
  refine t5.mono ?_
  rintro e w12 ⟨rfl, rfl⟩
  clear t5
  go_wp2_with fail
  refine t6.mono ?_
  rintro e w13 ⟨rfl, rfl⟩
  clear t6
  go_wp2
  go_ret
  exact ⟨by simp, hb09⟩
end
end Go.Proofs.Ytcmkgcdjjplgdaa
