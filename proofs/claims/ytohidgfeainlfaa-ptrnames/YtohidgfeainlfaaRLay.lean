/- leveeref01.Lay, Spoil. -/
import Derived.Test.YtohidgfeainlfaaNums
namespace Go.Proofs.Ytohidgfeainlfaa
open Go.RowKit
/-- May n bytes be taken from the place 'from' on, of so many? -/
def inB (len : Nat) (f n : Int) : Bool := decide (0 ≤ f) && decide (0 ≤ n) && decide (f ≤ len) && decide (n ≤ len - f)
def errR (ok : Bool) : Int := if ok then 0 else 3
/-- What Lay answers. -/
def layL (l : List UInt8) (f : Int) (c : List UInt8) : List UInt8 := if inB l.length f c.length then l.take f.toNat ++ c ++ l.drop (f.toNat + c.length) else []
set_option maxHeartbeats 1000000 in
theorem rlay_empty (sp sc : Option Addr) (cc : Nat) (w : World) (hnc : sc = none → cc = 0) :
    Calls Try.prog 31 #[.slice sp 0 0, .int .i64 0, .slice sc 0 cc] w fun e w' => ∃ v, e = .returned (.tuple #[v, .int .i64 (errR true)]) ∧ Own w' w.heap.size v [] ∧ Below w.heap.size w w' := by
  go_enter Try.func31, Try.ntmps31
  go_wp2_with (first | (at_builtin; refine wpList_append_bytes rfl (.tmp 26) (.tmp 29) rfl w.heap.size [] [] _ rfl _ _ _ rfl rfl (Own.nil _ _) (Src.nil _ _) (Nat.le_refl _) (by simp) (fun _ => rfl) ?_; intro v1 w1 hown1 hb1; have hz1 := hb1.size) | (at_builtin; refine wpList_append_bytes rfl (.tmp 31) (.tmp 32) rfl w.heap.size _ [] _ rfl _ _ _ rfl rfl hown1 (Src.nil _ _) hz1 (by simp) hnc ?_; intro v2 w2 hown2 hb2; have hz2 := hb2.size; have hb12 := hb1.trans hb2) | (at_builtin; refine wpList_append_bytes rfl (.tmp 34) (.tmp 40) rfl w.heap.size _ [] _ rfl _ _ _ rfl rfl hown2 (Src.nil _ _) (by omega) (by simp) (fun _ => rfl) ?_; intro v3 w3 hown3 hb3))
  go_ret2
  exact ⟨_, rfl, hown3, hb12.trans hb3⟩
set_option maxHeartbeats 1000000 in
theorem rlay_any (sp sc : Option Addr) (l c : List UInt8) (cap cc : Nat) (f : Int) (w : World) (ha : Arg w sp cap l) (hc : Arg w sc cc c) (hf : -9223372036854775808 ≤ f ∧ f ≤ 9223372036854775807) :
    Calls Try.prog 31 #[.slice sp l.length cap, .int .i64 f, .slice sc c.length cc] w fun e w' => ∃ v, e = .returned (.tuple #[v, .int .i64 (errR (inB l.length f c.length))]) ∧ Own w' w.heap.size v (layL l f c) ∧ Below w.heap.size w w' := by
  have hlen := ha.len
  have hlc := hc.len
  cases hin : inB l.length f c.length with
  | false =>
    have hno : ∀ w', Own w' w.heap.size (.slice none 0 0) (layL l f c) := fun w' => by rw [layL, hin]; exact Own.nil _ _
    simp [inB] at hin
    by_cases h1 : f < 0
    · clear hin
      go_enter Try.func31, Try.ntmps31
      go_wp2
      go_ret2
      exact ⟨_, rfl, hno _, Below.refl _ _⟩
    by_cases h3 : (l.length : Int) < f
    · clear hin
      go_enter Try.func31, Try.ntmps31
      go_wp2
      go_ret2
      exact ⟨_, rfl, hno _, Below.refl _ _⟩
    have h4 : (l.length : Int) - f < c.length := by omega
    clear hin
    go_enter Try.func31, Try.ntmps31
    go_wp2
    go_ret2
    exact ⟨_, rfl, hno _, Below.refl _ _⟩
  | true =>
    have hin' := hin
    simp [inB] at hin'
    obtain ⟨F, rfl⟩ := Int.eq_ofNat_of_zero_le hin'.1.1
    have hL : layL l F c = ([] ++ l.take F ++ c) ++ l.drop (F + c.length) := by rw [layL, hin]; simp
    have hFc : (F : Int) + c.length ≤ l.length := by omega
    have htl : (l.take F).length = F := by simp; omega
    have hdl : (l.drop (F + c.length)).length = l.length - (F + c.length) := by simp
    rw [hL]
    clear hL
    rcases ha with ⟨rfl, rfl⟩ | ⟨b, off, rfl, hcap, hlc2, _, _, hs⟩
    · obtain rfl : F = 0 := by simp at hin'; omega
      have hc0 : c = [] := List.eq_nil_of_length_eq_zero (by simp at hin'; omega)
      subst hc0
      exact rlay_empty sp sc cc w hc.nilcap
    have hs1 : Src w (some ⟨b, off, none⟩) (l.take F) := hs.pre F
    have hs3 : Src w (some ⟨b, off + (F + c.length), none⟩) (l.drop (F + c.length)) := hs.off _
    have hcap' : (0 : Int) < cap := by omega
    have hF0 : (0 : Int) ≤ F := by omega
    rcases (show (F : Int) + c.length = cap ∨ (F : Int) + c.length < cap by omega) with hce | hce
    · have hdn : l.drop (F + c.length) = [] := List.drop_eq_nil_of_le (by omega)
      have hsn : ∀ (sx : Option Addr) (wx : World), Src wx sx (l.drop (F + c.length)) := fun sx wx => by rw [hdn]; exact Src.nil _ _
      have hdl0 : (l.drop (F + c.length)).length = 0 := by rw [hdn]; rfl
      have HD : Hid (l.length = F + c.length) := by show _ = _; omega
      have HC : Hid (cap = F + c.length) := by show _ = _; omega
      have hle1 : (l.length : Int) ≤ F + c.length := by omega
      have hle2 : (cap : Int) ≤ F + c.length := by omega
      have hle3 : (F : Int) + c.length ≤ cap := by omega
      clear hce hdn hdl hs3
      go_enter Try.func31, Try.ntmps31
      go_wp2_with (first | (at_builtin; refine wpList_append_bytes rfl (.tmp 26) (.tmp 29) rfl w.heap.size [] (l.take F) _ rfl _ _ _ rfl (by first | exact htl.symm | omega) (Own.nil _ _) hs1 (Nat.le_refl _) (by rw [htl, List.length_nil]; omega) (fun h => by cases h) ?_; intro v1 w1 hown1 hb1; have hz1 := hb1.size) | (at_builtin; refine wpList_append_bytes rfl (.tmp 31) (.tmp 32) rfl w.heap.size _ c _ rfl _ _ _ rfl rfl hown1 (hc.src.below hb1 (Nat.le_refl _)) hz1 (by simp only [List.length_append, List.length_nil, htl]; omega) hc.nilcap ?_; intro v2 w2 hown2 hb2; have hz2 := hb2.size; have hb12 := hb1.trans hb2) | (at_builtin; refine wpList_append_bytes rfl (.tmp 34) (.tmp 40) rfl w.heap.size _ (l.drop (F + c.length)) _ rfl _ _ _ rfl (by first | exact hdl0.symm | omega) hown2 (hsn _ _) (by omega) (by rw [hdl0]; simp only [List.length_append, List.length_nil, htl]; omega) (fun h => by cases h) ?_; intro v3 w3 hown3 hb3))
      go_ret2
      exact ⟨_, rfl, hown3, hb12.trans hb3⟩
    · go_enter Try.func31, Try.ntmps31
      go_wp2_with (first | (at_builtin; refine wpList_append_bytes rfl (.tmp 26) (.tmp 29) rfl w.heap.size [] (l.take F) _ rfl _ _ _ rfl (by first | exact htl.symm | omega) (Own.nil _ _) hs1 (Nat.le_refl _) (by rw [htl, List.length_nil]; omega) (fun h => by cases h) ?_; intro v1 w1 hown1 hb1; have hz1 := hb1.size) | (at_builtin; refine wpList_append_bytes rfl (.tmp 31) (.tmp 32) rfl w.heap.size _ c _ rfl _ _ _ rfl rfl hown1 (hc.src.below hb1 (Nat.le_refl _)) hz1 (by simp only [List.length_append, List.length_nil, htl]; omega) hc.nilcap ?_; intro v2 w2 hown2 hb2; have hz2 := hb2.size; have hb12 := hb1.trans hb2) | (at_builtin; refine wpList_append_bytes rfl (.tmp 34) (.tmp 40) rfl w.heap.size _ (l.drop (F + c.length)) _ rfl (some ⟨b, off + (F + c.length), none⟩) _ _ rfl (by first | exact hdl.symm | omega) hown2 (hs3.below hb12 (Nat.le_refl _)) (by omega) (by rw [hdl]; simp only [List.length_append, List.length_nil, htl]; omega) (fun h => by cases h) ?_; intro v3 w3 hown3 hb3))
      go_ret2
      exact ⟨_, rfl, hown3, hb12.trans hb3⟩
set_option maxHeartbeats 1000000 in
theorem spoil_any (base : Nat) (v : Value) (l : List UInt8) (w : World) (h : Own w base v l) (hl : l.length ≤ 140737488355328) :
    Calls Try.prog 24 #[v] w fun e w' => e = .returned (.tuple #[]) ∧ w.grownBy w' v.ownBlock := by
  by_cases h0 : l.length = 0
  · obtain ⟨ao, cap, rfl, _⟩ := h.form
    have hz : ∀ sp c, Calls Try.prog 24 #[.slice sp 0 c] w fun e w' => e = .returned (.tuple #[]) ∧ w.grownBy w' (Value.slice sp 0 c).ownBlock := by
      intro sp c
      clear h h0
      go_enter Try.func24, Try.ntmps24
      go_wp2
      refine wp_loop_rounds 1 ?_
      rw [rounds_succ]; go_wp2
      go_end0
      exact ⟨rfl, World.grownBy.refl _ _⟩
    rw [h0]; exact hz _ _
  · obtain ⟨g, cap, rfl, hg, hh, hn, hcap, _⟩ : ∃ g cap, v = .slice (some ⟨g, 0, none⟩) l.length cap ∧ base ≤ g ∧ g < w.heap.size ∧ l.length ≤ cap ∧ (cap : Int) ≤ 9223372036854775807 ∧ True := by
      obtain ⟨h1, h2⟩ := h
      rcases h2 with ⟨rfl, h3⟩ | ⟨g, cap, cur, rfl, hg, hh, hn, hm, hs, hx⟩
      · omega
      · exact ⟨g, cap, rfl, hg, (Array.getElem?_eq_some_iff.1 hh).1, hn, by unfold maxLen at hm; omega, trivial⟩
    go_enter Try.func24, Try.ntmps24
    go_wp2
    go_loopw [2] (fun i wr => ∃ k : Nat, ∃ m : List UInt8, k ≤ l.length ∧ i = .int .i64 k ∧ m.length = l.length ∧ Own wr base (.slice (some ⟨g, 0, none⟩) l.length cap) m ∧ w.grownBy wr (some g)) (fun i _ => l.length - (intOf i).toNat)
    case atStart => exact ⟨0, l, by omega, rfl, rfl, h, World.grownBy.refl _ _⟩
    case round =>
      obtain ⟨k, m, hk, rfl, hm, hown, hbw⟩ := hrel
      by_cases hlt : (k : Int) < l.length
      · rw [← hm] at hown
        have hst := hown.store k 90
        have hcc : wr.cell? ⟨g, k, none⟩ = some (bv (m.getD k 0)) := by
          rw [World.ownsRow.cellAt hown k (by omega)]
          have hk2 : k < m.length := by omega
          simp [bvs, hk2]
        have hff : wr.frozen? ⟨g, k, none⟩ = false := World.ownsRow.frozenAt hown k
        have hb2 : w.grownBy (wr.setCell ⟨g, k, none⟩ (bv 90)) (some g) := grown_trans hbw (World.ownsRow.stored hown k (bv 90)).2
        rw [hm] at hst
        have HO : Hid _ := hst
        clear hst hown
        go_wp2
        go_roundw
        case rel => exact ⟨k + 1, m.set k 90, by omega, by go_num, by rw [List.length_set]; exact hm, HO.out, hb2⟩
        case measure => simp [intOf]; omega
      · go_wp2
        go_end0
        exact ⟨rfl, hbw⟩
end Go.Proofs.Ytohidgfeainlfaa
