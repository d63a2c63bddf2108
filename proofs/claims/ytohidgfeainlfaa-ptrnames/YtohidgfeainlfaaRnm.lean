/- The document's Names and Lay. -/
import Derived.Test.YtohidgfeainlfaaPLay
import Derived.Test.YtohidgfeainlfaaRLay
namespace Go.Proofs.Ytohidgfeainlfaa
open Go.RowKit
def nmT (l : List UInt8) (k : Nat) : List Int := (List.range k).map (nmv l)
theorem nmT_step (l : List UInt8) (k : Nat) : nmT l k ++ [nmv l k] = nmT l (k + 1) := by simp [nmT, List.range_succ]
theorem rnames_no (sp : Option Addr) (n cap : Nat) (hn : ¬ (n : Int) = 256) (w : World) :
    Calls Try.prog 19 #[.slice sp n cap] w fun e w' => e = .returned (.tuple #[.slice none 0 0, .int .i64 4]) ∧ w' = w := by
  have hn' : ((n : Int) == 256) = false := beq_eq_false_iff_ne.2 hn
  go_enter Try.func19, Try.ntmps19
  go_wp2
  go_ret2
  exact ⟨rfl, rfl⟩
set_option maxRecDepth 100000 in
set_option maxHeartbeats 2000000 in
theorem rnames_ok (b off cap : Nat) (l : List UInt8) (hl : l.length = 256) (hc : (256 : Int) ≤ cap) (w : World) (hs : Src w (some ⟨b, off, none⟩) l) :
    Calls Try.prog 19 #[.slice (some ⟨b, off, none⟩) 256 cap] w fun e w' => ∃ v, e = .returned (.tuple #[v, .int .i64 0]) ∧ OwnI w' w.heap.size v (nms l) ∧ Below w.heap.size w w' := by
  have HS : Hid (Src w (some ⟨b, off, none⟩) l) := hs
  have HL : Hid (l.length = 256) := hl
  clear hs hl
  go_enter Try.func19, Try.ntmps19
  go_wp2
  go_loopw [4, 5] (fun v t wr => ∃ k : Nat, k ≤ 64 ∧ t = .int .i64 k ∧ Hid (OwnI wr w.heap.size v (nmT l k)) ∧ Hid (Below w.heap.size w wr)) (fun _ t _ => 64 - (intOf t).toNat)
  case atStart => exact ⟨0, by omega, rfl, OwnI.nil _ _, Below.refl _ _⟩
  case round =>
    obtain ⟨k, hk, rfl, HO, HB⟩ := hrel
    by_cases hlt : (k : Int) < 64
    · have HP : Hid (Src wr (some ⟨b, off + 4 * k, none⟩) (nmP l k)) := (HS.out.below HB.out (Nat.le_refl _)).part (4 * k) 4 (by rw [HL.out]; omega) (by rw [HL.out]; omega)
      have GT := rgetn_any (some ⟨b, off + 4 * k, none⟩) (nmP l k) 4 (cap - 4 * k) wr HP.out (by unfold nmP; rw [List.length_take, List.length_drop, HL.out]; omega) (by omega) (by omega)
      have hsl := slice_sl b off 256 cap (4 * k) 4 (4 * (k : Int)) (4 * (k : Int) + 4) (by omega) (by omega) (by omega) (by omega)
      have hand := nm_and l k
      have h1 := nmv_lo l k
      have h2 := nmv_hi l k
      have HST : Hid (nmT l k ++ [nmv l k] = nmT l (k + 1)) := nmT_step l k
      have hz := HB.out.size
      have hlen : (nmT l k).length ≤ 1000000 := by simp [nmT]; omega
      have hO := HO.out
      generalize nmv l k = x at *
      generalize getNum (nmP l k) = y at *
      go_wp2_with (first | (go_at_call 29; refine GT.mono ?_; rintro e w2 ⟨rfl, rfl⟩) | (at_builtin; refine wpList_append_int rfl (.tmp 13) (.tmp 24) rfl w.heap.size (nmT l k) x _ rfl _ _ rfl (hO.below ((Below.refl _ _).alloc (Nat.le_refl _) _) (Nat.le_refl _)) (heap_alloc_new _ _) (by simp; omega) hlen ?_; intro v' w3 hO3 hb3))
      rw [HST.out] at hO3
      have HB3 : Hid (Below w.heap.size w w3) := (HB.out.alloc hz _).trans hb3
      clear HO hO
      go_roundw
      case rel => exact ⟨k + 1, by omega, by go_num, hO3, HB3⟩
      case measure => simp [intOf]; omega
    · obtain rfl : k = 64 := by omega
      go_wp2
      go_ret2
      exact ⟨_, rfl, HO.out, HB.out⟩
theorem rnames_any (sp : Option Addr) (cap : Nat) (l : List UInt8) (w : World) (ha : Arg w sp cap l) :
    Calls Try.prog 19 #[.slice sp l.length cap] w fun e w' => ∃ v, e = .returned (.tuple #[v, .int .i64 (szE l.length)]) ∧ OwnI w' w.heap.size v (nmX l) ∧ Below w.heap.size w w' := by
  by_cases h : l.length = 256
  · have hc := ha.len
    rcases ha with ⟨_, rfl⟩ | ⟨b, off, rfl, _, _, _, _, hs⟩
    · simp at h
    have := rnames_ok b off cap l h (by omega) w hs
    rw [nmX, if_pos h, szE, if_pos h, h]
    exact this
  · refine (rnames_no sp l.length cap (by omega) w).mono ?_
    rintro e w' ⟨rfl, rfl⟩
    rw [nmX, if_neg h, szE, if_neg h]
    exact ⟨_, rfl, OwnI.nil _ _, Below.refl _ _⟩
set_option maxHeartbeats 1000000 in
theorem rplay_no (sp : Option Addr) (n cap : Nat) (i m E : Int) (hE : plE n i m = E) (h0 : ¬ E = 0) (w : World) :
    Calls Try.prog 21 #[.slice sp n cap, .int .i64 i, .int .i64 m] w fun e w' => e = .returned (.tuple #[.slice none 0 0, .int .i64 E]) ∧ w' = w := by
  by_cases h1 : (n : Int) = 256
  · have h1' : n = 256 := by omega
    rw [plE, if_pos h1'] at hE
    subst h1'
    clear h1
    by_cases h2 : i < 0
    · rw [if_neg (by omega)] at hE
      subst hE
      clear h0
      go_enter Try.func21, Try.ntmps21
      go_wp2
      go_ret2
      exact ⟨rfl, rfl⟩
    by_cases h3 : 64 ≤ i
    · rw [if_neg (by omega)] at hE
      subst hE
      clear h0
      go_enter Try.func21, Try.ntmps21
      go_wp2
      go_ret2
      exact ⟨rfl, rfl⟩
    rw [if_pos (show 0 ≤ i ∧ i ≤ 63 by omega)] at hE
    by_cases h4 : m < 0
    · rw [if_neg (by omega)] at hE
      subst hE
      clear h0
      go_enter Try.func21, Try.ntmps21
      go_wp2
      go_ret2
      exact ⟨rfl, rfl⟩
    by_cases h5 : 4096 ≤ m
    · rw [if_neg (by omega)] at hE
      subst hE
      clear h0
      go_enter Try.func21, Try.ntmps21
      go_wp2
      go_ret2
      exact ⟨rfl, rfl⟩
    rw [if_pos (by omega)] at hE
    exact absurd hE.symm h0
  · rw [plE, if_neg (by omega)] at hE
    subst hE
    have hn' : ((n : Int) == 256) = false := beq_eq_false_iff_ne.2 h1
    clear h0
    go_enter Try.func21, Try.ntmps21
    go_wp2
    go_ret2
    exact ⟨rfl, rfl⟩
theorem layL_p (l : List UInt8) (i m : Nat) (hl : l.length = 256) (hi : (i : Int) < 64) : layL l (4 * (i : Int)) (leB 4 m) = layAt l (4 * i) (leB 4 m) ∧ errR (inB l.length (4 * (i : Int)) (leB 4 m).length) = 0 := by
  have h : inB l.length (4 * (i : Int)) (leB 4 m).length = true := by rw [leB_length, hl]; simp [inB]; omega
  rw [layL, h]
  refine ⟨?_, rfl⟩
  rw [if_pos rfl, layAt, show (4 * (i : Int)).toNat = 4 * i by omega]
set_option maxRecDepth 100000 in
set_option maxHeartbeats 1000000 in
theorem rplay_ok (sp : Option Addr) (cap : Nat) (l : List UInt8) (i : Nat) (m : Nat) (hl : l.length = 256) (hi : (i : Int) < 64) (hm : (m : Int) < 4096) (w : World) (ha : Arg w sp cap l) :
    Calls Try.prog 21 #[.slice sp 256 cap, .int .i64 (i : Int), .int .i64 (m : Int)] w fun e w' => ∃ v, e = .returned (.tuple #[v, .int .i64 0]) ∧ Own w' w.heap.size v (layAt l (4 * i) (leB 4 m)) ∧ Below w.heap.size w w' := by
  have BY := rbytes_any m 4 w (by omega) (by omega)
  rw [show ((4 : Nat) : Int) = 4 from rfl] at BY
  have HA : Hid (Arg w sp cap l) := ha
  have HX : Hid _ := layL_p l i m hl hi
  have HL : Hid (l.length = 256) := hl
  obtain ⟨X, hX⟩ : ∃ X, X = leB 4 m := ⟨_, rfl⟩
  have HXL : Hid (X.length = 4) := by show _ = _; rw [hX, leB_length]
  rw [← hX] at BY HX ⊢
  clear ha hl hX
  go_enter Try.func21, Try.ntmps21
  go_wp2_with fail
  refine BY.mono ?_
  rintro e w1 ⟨v, rfl, ho, hb⟩
  obtain ⟨ao, ac, rfl, harg⟩ := ho.arg (by rw [HXL.out]; omega)
  rw [HXL.out]
  have HO : Hid _ := harg
  have HB : Hid _ := hb
  clear ho harg hb BY
  have LY := rlay_any sp ao l X cap ac (4 * (i : Int)) w1 (HA.out.below HB.out (Nat.le_refl _)) HO.out (by omega)
  rw [HX.out.1, HX.out.2, HL.out, HXL.out] at LY
  go_wp2_with fail
  refine LY.mono ?_
  rintro e w2 ⟨v, rfl, ho2, hb2⟩
  have HO2 : Hid _ := ho2
  clear LY ho2
  go_wp2
  go_ret2
  exact ⟨v, rfl, by have := HO2.out; exact Own.mono this HB.out.size, HB.out.trans (hb2.mono HB.out.size)⟩
theorem rplay_any (sp : Option Addr) (cap : Nat) (l : List UInt8) (i m : Int) (w : World) (ha : Arg w sp cap l) :
    Calls Try.prog 21 #[.slice sp l.length cap, .int .i64 i, .int .i64 m] w fun e w' => ∃ v, e = .returned (.tuple #[v, .int .i64 (plE l.length i m)]) ∧ Own w' w.heap.size v (plX l i m) ∧ Below w.heap.size w w' := by
  by_cases h : plE l.length i m = 0
  · obtain ⟨h1, h2, h3⟩ := plE_zero h
    have := rplay_ok sp cap l i.toNat m.toNat h1 (by omega) (by omega) w ha
    rw [Int.toNat_of_nonneg h2.1, Int.toNat_of_nonneg h3.1] at this
    rw [h, plX, if_pos h, h1]
    exact this
  · refine (rplay_no sp l.length cap i m _ rfl h w).mono ?_
    rintro e w' ⟨rfl, rfl⟩
    rw [plX, if_neg h]
    exact ⟨_, rfl, Own.nil _ _, Below.refl _ _⟩
end Go.Proofs.Ytohidgfeainlfaa
