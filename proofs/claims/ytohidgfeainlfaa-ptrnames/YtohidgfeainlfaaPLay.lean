/- Package ptr: Lay. -/
import Derived.Test.YtohidgfeainlfaaNm
import Derived.Test.YtohidgfeainlfaaPutAt
import Derived.Test.YtohidgfeainlfaaLentG
namespace Go.Proofs.Ytohidgfeainlfaa
open Go.RowKit
def plE (n : Nat) (i m : Int) : Int := if n = 256 then (if 0 ≤ i ∧ i ≤ 63 then (if 0 ≤ m ∧ m ≤ 4095 then 0 else 1) else 3) else 4
def plX (l : List UInt8) (i m : Int) : List UInt8 := if plE l.length i m = 0 then layAt l (4 * i.toNat) (leB 4 m.toNat) else []
theorem plE_zero {n : Nat} {i m : Int} (h : plE n i m = 0) : n = 256 ∧ (0 ≤ i ∧ i ≤ 63) ∧ 0 ≤ m ∧ m ≤ 4095 := by
  unfold plE at h
  split at h
  · split at h
    · split at h
      · rename_i h1 h2 h3; exact ⟨h1, h2, h3⟩
      · cases h
    · cases h
  · cases h
theorem plX_len {l : List UInt8} {i m : Int} (h : plE l.length i m = 0) : (plX l i m).length = 256 := by
  obtain ⟨h1, h2, h3⟩ := plE_zero h
  rw [plX, if_pos h, layAt_length _ _ _ (by rw [leB_length]; omega), h1]
theorem plX_le (l : List UInt8) (i m : Int) : (plX l i m).length ≤ 256 := by
  by_cases h : plE l.length i m = 0
  · rw [plX_len h]; omega
  · rw [plX, if_neg h]; simp
def zerB (n : Nat) : List UInt8 := List.replicate n 0
set_option maxHeartbeats 1000000 in
theorem play_no (sp : Option Addr) (n cap : Nat) (i m E : Int) (hE : plE n i m = E) (h0 : ¬ E = 0) (w : World) :
    Calls Try.prog 20 #[.slice sp n cap, .int .i64 i, .int .i64 m] w fun e w' => e = .returned (.tuple #[.slice none 0 0, .int .i64 E]) ∧ w' = w := by
  by_cases h1 : (n : Int) = 256
  · have h1' : n = 256 := by omega
    rw [plE, if_pos h1'] at hE
    subst h1'
    clear h1
    by_cases h2 : 0 ≤ i ∧ i ≤ 63
    · have W1 := within_ok h2
      rw [if_pos h2] at hE
      by_cases h3 : 0 ≤ m ∧ m ≤ 4095
      · rw [if_pos h3] at hE; exact absurd hE.symm h0
      · have W2 := within_no h3
        rw [if_neg h3] at hE
        subst hE
        clear h2 h3 h0
        go_enter Try.func20, Try.ntmps20
        go_wp2_with fail
        refine (W1 _).mono ?_
        rintro e w1 ⟨rfl, rfl⟩
        go_wp2_with fail
        refine (W2 _).mono ?_
        rintro e w1 ⟨rfl, rfl⟩
        go_wp2
        go_ret2
        exact ⟨rfl, rfl⟩
    · have W1 := within_no h2
      rw [if_neg h2] at hE
      subst hE
      clear h2 h0
      go_enter Try.func20, Try.ntmps20
      go_wp2_with (first | (go_at_call 25; refine (W1 _).mono ?_; rintro e w1 ⟨rfl, rfl⟩))
      go_ret2
      exact ⟨rfl, rfl⟩
  · rw [plE, if_neg (by omega)] at hE
    subst hE
    have hn' : ((n : Int) == 256) = false := beq_eq_false_iff_ne.2 h1
    clear h0
    go_enter Try.func20, Try.ntmps20
    go_wp2
    go_ret2
    exact ⟨rfl, rfl⟩
set_option maxRecDepth 100000 in
set_option maxHeartbeats 1000000 in
theorem play_ok (b off cap : Nat) (l : List UInt8) (i : Nat) (m : Nat) (hl : l.length = 256) (hi : (i : Int) < 64) (hm : (m : Int) < 4096) (w : World) (hs : Src w (some ⟨b, off, none⟩) l) :
    Calls Try.prog 20 #[.slice (some ⟨b, off, none⟩) 256 cap, .int .i64 (i : Int), .int .i64 (m : Int)] w fun e w' => ∃ g, e = .returned (.tuple #[.slice (some ⟨g, 0, none⟩) 256 256, .int .i64 0]) ∧ Blk w' g 5 (layAt l (4 * i) (leB 4 m)) ∧ w.heap.size ≤ g ∧ Below w.heap.size w w' := by
  have hmk : (Instr.makeSlice 40 (.int .i64 256) (.int .i64 256)).run Try.prog w = .ok (.slice (some ⟨w.heap.size, 0, none⟩) 256 256) (w.alloc (.cells (bvs (zerB 256)).toArray 5)) := make_any w 256 256 (by omega) (by omega)
  have W1 := within_ok (n := (i : Int)) (l := 0) (m := 63) (by omega)
  have W2 := within_ok (n := (m : Int)) (l := 0) (m := 4095) (by omega)
  have hr0 : Blk (w.alloc (.cells (bvs (zerB 256)).toArray 5)) w.heap.size 5 (zerB 256) := heap_alloc_new _ _
  have hb0 : Below w.heap.size w (w.alloc (.cells (bvs (zerB 256)).toArray 5)) := (Below.refl _ _).alloc (Nat.le_refl _) _
  obtain ⟨w1, hrun, hG, hb1, hz1⟩ := copy_any (off := 0) (dLen := 256) 256 256 cap hr0 (hs.below hb0 (Nat.le_refl _)) hl (by simp [zerB])
  have e1 : (zerB 256).take 0 ++ l.take 256 ++ (zerB 256).drop (0 + min 256 256) = l := by
    rw [List.take_of_length_le (show l.length ≤ 256 by omega), List.drop_of_length_le (by simp [zerB])]; simp
  rw [e1] at hG
  have hb2 : Below w.heap.size w w1 := hb0.trans hb1
  have PL := place_any w.heap.size 0 256 i w1 hi (by omega)
  have PT := putAt_any w.heap.size 5 l (4 * i) 4 (256 - 4 * i) m (by omega) (by omega) (by omega) (by omega) w1 hG (by omega) (by omega)
  rw [Nat.zero_add] at PL
  have HB : Hid (Below w.heap.size w w1) := hb2
  clear hr0 hb0 e1 hG hb2 hb1 hz1 hs
  generalize w.alloc (.cells (bvs (zerB 256)).toArray 5) = w0 at *
  go_enter Try.func20, Try.ntmps20
  go_wp2_with fail
  refine (W1 _).mono ?_
  rintro e w9 ⟨rfl, rfl⟩
  go_wp2_with fail
  refine (W2 _).mono ?_
  rintro e w9 ⟨rfl, rfl⟩
  go_wp2_with (first | (go_at_call 28; refine PL.mono ?_; rintro e w1 ⟨rfl, rfl⟩) | (go_at_call 30; refine PT.mono ?_; rintro e w3 ⟨rfl, hG3, hb3⟩))
  go_ret2
  exact ⟨_, rfl, hG3, Nat.le_refl _, HB.out.trans hb3⟩
theorem play_any (sp : Option Addr) (cap : Nat) (l : List UInt8) (i m : Int) (w : World) (ha : Arg w sp cap l) :
    Calls Try.prog 20 #[.slice sp l.length cap, .int .i64 i, .int .i64 m] w fun e w' => ∃ v, e = .returned (.tuple #[v, .int .i64 (plE l.length i m)]) ∧ Own w' w.heap.size v (plX l i m) ∧ Below w.heap.size w w' := by
  by_cases h : plE l.length i m = 0
  · obtain ⟨h1, h2, h3⟩ := plE_zero h
    rcases ha with ⟨_, rfl⟩ | ⟨b, off, rfl, _, _, _, _, hs⟩
    · simp at h1
    have := play_ok b off cap l i.toNat m.toNat h1 (by omega) (by omega) w hs
    rw [Int.toNat_of_nonneg h2.1, Int.toNat_of_nonneg h3.1] at this
    rw [h, plX, if_pos h, h1]
    refine this.mono ?_
    rintro e w' ⟨g, rfl, hg, hge, hb⟩
    refine ⟨_, rfl, ?_, hb⟩
    have ho := hg.own hge (by rw [layAt_length _ _ _ (by rw [leB_length]; omega)]; omega)
    rw [layAt_length _ _ _ (by rw [leB_length]; omega), h1] at ho
    exact ho
  · refine (play_no sp l.length cap i m _ rfl h w).mono ?_
    rintro e w' ⟨rfl, rfl⟩
    rw [plX, if_neg h]
    exact ⟨_, rfl, Own.nil _ _, Below.refl _ _⟩
/-- What Names answers: none and 4, or 64 names. -/
def nmX (l : List UInt8) : List Int := if l.length = 256 then nms l else []
theorem names_any (sp : Option Addr) (cap : Nat) (l : List UInt8) (w : World) (ha : Arg w sp cap l) :
    Calls Try.prog 18 #[.slice sp l.length cap] w fun e w' => ∃ v, e = .returned (.tuple #[v, .int .i64 (szE l.length)]) ∧ OwnI w' w.heap.size v (nmX l) ∧ Below w.heap.size w w' := by
  by_cases h : l.length = 256
  · have hc := ha.len
    rcases ha with ⟨_, rfl⟩ | ⟨b, off, rfl, _, _, _, _, hs⟩
    · simp at h
    have := names_ok b off cap l h (by omega) w hs
    rw [h]
    refine this.mono ?_
    rintro e w' ⟨g, rfl, hg, hge, hb⟩
    refine ⟨_, rfl, ?_, hb⟩
    have ho := hg.own hge (by rw [nms_length]; omega)
    rw [nms_length] at ho
    rw [nmX, if_pos h]; exact ho
  · refine (names_no sp l.length cap (by omega) w).mono ?_
    rintro e w' ⟨rfl, rfl⟩
    rw [nmX, if_neg h, szE, if_neg h]
    exact ⟨_, rfl, OwnI.nil _ _, Below.refl _ _⟩
end Go.Proofs.Ytohidgfeainlfaa
