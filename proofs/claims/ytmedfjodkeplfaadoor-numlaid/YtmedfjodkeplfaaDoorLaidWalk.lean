/- The walk of leveelaw01.NumLaid. -/
import Derived.Test.YtmedfjodkeplfaaDoorLay
import Derived.Test.YtmedfjodkeplfaaDoorKnown
namespace Go.Proofs.YtmedfjodkeplfaaDoor
open Go.RowKit
theorem layL_length (l c : List UInt8) (F : Nat) (h : F + c.length ≤ l.length) : (l.take F ++ c ++ l.drop (F + c.length)).length = l.length := by simp; omega
theorem layL_dif (l c : List UInt8) (F k : Nat) (h : F + c.length ≤ l.length) (hd : dif l (l.take F ++ c ++ l.drop (F + c.length)) k = true) (hk : k < l.length) : F ≤ k ∧ k < F + c.length := by
  by_cases hin : F ≤ k ∧ k < F + c.length
  · exact hin
  · exfalso
    have e : nth l k = nth (l.take F ++ c ++ l.drop (F + c.length)) k := by
      unfold nth
      rw [List.getD_eq_getElem?_getD, List.getD_eq_getElem?_getD]
      congr 3
      rcases Nat.lt_or_ge k F with hlt | hge
      · rw [List.append_assoc, List.getElem?_append_left (by simp; omega), List.getElem?_take, if_pos hlt]
      · have hge2 : F + c.length ≤ k := by omega
        rw [List.getElem?_append_right (by simp; omega), List.getElem?_drop]
        congr 1
        simp only [List.length_append, List.length_take]; omega
    have := dif_in (a := l) (b := l.take F ++ c ++ l.drop (F + c.length)) (k := k) hk (by rw [layL_length l c F h]; exact hk) true (by rw [e]; simp)
    rw [this] at hd; cases hd
theorem layL_first (l c : List UInt8) (F k : Nat) (h : F + c.length ≤ l.length) (hk : k ≤ l.length) : difFirst l (l.take F ++ c ++ l.drop (F + c.length)) k < 0 ∨ (F : Int) ≤ difFirst l (l.take F ++ c ++ l.drop (F + c.length)) k := by
  induction k with
  | zero => left; simp [difFirst]
  | succ k ih =>
    have ih := ih (by omega)
    cases hd : dif l (l.take F ++ c ++ l.drop (F + c.length)) k with
    | false => rw [difFirst_same hd]; exact ih
    | true =>
      have hb := layL_dif l c F k h hd (by omega)
      rcases ih with ih | ih
      · rw [difFirst_hit hd ih]; right; omega
      · rw [difFirst_old (by omega)]; right; exact ih
theorem layL_last (l c : List UInt8) (F k : Nat) (h : F + c.length ≤ l.length) (hk : k ≤ l.length) : difLast l (l.take F ++ c ++ l.drop (F + c.length)) k ≤ (F : Int) + c.length := by
  induction k with
  | zero => simp [difLast]; omega
  | succ k ih =>
    have ih := ih (by omega)
    cases hd : dif l (l.take F ++ c ++ l.drop (F + c.length)) k with
    | false => rw [difLast_same hd]; exact ih
    | true =>
      have hb := layL_dif l c F k h hd (by omega)
      rw [difLast_hit hd]; omega
theorem cut_layL (l c : List UInt8) (F : Nat) (h : F + c.length ≤ l.length) : cutL (l.take F ++ c ++ l.drop (F + c.length)) F c.length = c := by
  have hin : inB (l.take F ++ c ++ l.drop (F + c.length)).length F c.length = true := by
    rw [layL_length l c F h]; simp [inB]; omega
  rw [cutL, hin, if_pos rfl]
  have e : (l.take F).length = F := by simp; omega
  simp only [Int.toNat_natCast, List.append_assoc]
  rw [List.drop_append_of_le_length (by omega), List.drop_of_length_le (by omega), List.nil_append, List.take_append_of_le_length (by omega), List.take_of_length_le (by omega)]
set_option maxHeartbeats 1000000 in
theorem laid_walk (sp : Option Addr) (cap : Nat) (l : List UInt8) (f : Int) (sc : Option Addr) (cc : Nat) (c : List UInt8) (w : World) (ha : Arg w sp cap l) (hf : -9223372036854775808 ≤ f ∧ f ≤ 9223372036854775807) (hc : Arg w sc cc c) (ht : Tab w) :
    Calls Tryd.prog 6 #[.slice sp l.length cap, .int .i64 f, .slice sc c.length cc] w fun e w' => e = .returned (.bool true) ∧ Below w.heap.size w w' := by
  have hw0 : 0 < w.heap.size := block_lt_of_cell (ht 0 (by omega))
  have la := ha.len
  have lc := hc.len
  have LAY := lay_any sp sc l c cap cc f w ha.src hc.src (by omega) (by omega) hf
  cases hin : inB l.length f c.length with
  | false =>
    rw [hin, layL, hin, show errR false = 3 from rfl] at LAY
    go_enter Tryd.func6, Tryd.ntmps6
    go_wp2_with fail
    refine LAY.mono ?_
    rintro e w1 ⟨v, rfl, hown, hb1⟩
    obtain ⟨ao, ac, rfl, _⟩ := hown.form
    clear LAY
    have hz := hb1.size
    go_wp2_with fail
    refine (known_any _ (ht.below hb1 hw0)).mono ?_
    rintro e w2 ⟨rfl, hb2⟩
    go_wp2
    go_ret
    exact ⟨rfl, hb1.trans (hb2.mono (by omega))⟩
  | true =>
    have hin' := hin
    simp [inB] at hin'
    obtain ⟨F, rfl⟩ := Int.eq_ofNat_of_zero_le hin'.1.1
    have hFc : F + c.length ≤ l.length := by omega
    have hL : layL l F c = l.take F ++ c ++ l.drop (F + c.length) := by rw [layL, hin]; simp
    rw [hin, hL, show errR true = 0 from rfl] at LAY
    have hll := layL_length l c F hFc
    have hfi := layL_first l c F l.length hFc (Nat.le_refl _)
    have hla := layL_last l c F l.length hFc (Nat.le_refl _)
    have hcu := cut_layL l c F hFc
    clear hL
    generalize l.take F ++ c ++ l.drop (F + c.length) = m at *
    go_enter Tryd.func6, Tryd.ntmps6
    go_wp2_with fail
    refine LAY.mono ?_
    rintro e w1 ⟨v, rfl, hown, hb1⟩
    obtain ⟨ao, ac, rfl, harg⟩ := hown.arg (by omega)
    clear LAY
    have hz1 := hb1.size
    have CUT := cut_any ao m ac F c.length w1 harg hf (by omega)
    rw [hcu, hll] at CUT
    rw [hin, show errR true = 0 from rfl] at CUT
    go_wp2_with fail
    refine CUT.mono ?_
    rintro e w2 ⟨v2, rfl, hown2, hb2⟩
    obtain ⟨ao2, ac2, rfl, harg2⟩ := hown2.arg (by omega)
    clear CUT
    have hz2 := hb2.size
    have hb12 : Below w.heap.size w w2 := hb1.trans (hb2.mono hz1)
    have DIFF := diff_any sp ao l m cap ac w2 (ha.src.below hb12 (Nat.le_refl _)) (harg.src.below hb2 (Nat.le_refl _)) (by omega) (by omega)
    rw [hll, Nat.max_self] at DIFF
    go_wp2_with fail
    refine DIFF.mono ?_
    rintro e w3 ⟨rfl, hb3⟩
    clear DIFF
    have hz3 := hb3.size
    have hb13 : Below w.heap.size w w3 := hb12.trans (hb3.mono (by omega))
    have hs1 := conv_str (harg2.src.below hb3 (Nat.le_refl _)) c.length ac2 rfl
    have hs2 := conv_str (hc.src.below hb13 (Nat.le_refl _)) c.length cc rfl
    have KN := known_any _ (ht.below hb13 hw0)
    by_cases hneg : difFirst l m l.length < 0
    · go_wp2_with fail
      refine KN.mono ?_
      rintro e w4 ⟨rfl, hb4⟩
      clear KN
      go_wp2
      go_ret
      exact ⟨rfl, hb13.trans (hb4.mono (by omega))⟩
    · have hge : (F : Int) ≤ difFirst l m l.length := by omega
      go_wp2_with fail
      refine KN.mono ?_
      rintro e w4 ⟨rfl, hb4⟩
      clear KN
      go_wp2
      go_ret
      exact ⟨rfl, hb13.trans (hb4.mono (by omega))⟩
end Go.Proofs.YtmedfjodkeplfaaDoor
