/- leveeref01.Cut, Lay and Diff. -/
import Derived.Test.YtmedfjodkeplfaaDoorLay
import Derived.Test.YtmedfjodkeplfaaDoorDiff
namespace Go.Proofs.YtmedfjodkeplfaaDoor
open Go.RowKit
set_option maxHeartbeats 1000000 in
theorem rcut_empty (sp : Option Addr) (w : World) :
    Calls Tryd.prog 20 #[.slice sp 0 0, .int .i64 0, .int .i64 0] w fun e w' => ∃ v, e = .returned (.tuple #[v, .int .i64 (errR true)]) ∧ Own w' w.heap.size v (cutL [] 0 0) ∧ Below w.heap.size w w' := by
  go_enter Tryd.func20, Tryd.ntmps20
  go_wp2_with (at_builtin; refine wpList_append_bytes rfl (.tmp 29) (.tmp 35) rfl w.heap.size [] [] _ rfl _ _ _ rfl rfl (Own.nil _ _) (Src.nil _ _) (Nat.le_refl _) (by simp) (fun _ => rfl) ?_; intro v w1 hown hb1)
  go_ret2
  exact ⟨_, rfl, hown, hb1⟩
set_option maxHeartbeats 1000000 in
theorem rcut_any (sp : Option Addr) (l : List UInt8) (cap : Nat) (f n : Int) (w : World) (ha : Arg w sp cap l) (hf : -9223372036854775808 ≤ f ∧ f ≤ 9223372036854775807) (hn : -9223372036854775808 ≤ n ∧ n ≤ 9223372036854775807) :
    Calls Tryd.prog 20 #[.slice sp l.length cap, .int .i64 f, .int .i64 n] w fun e w' => ∃ v, e = .returned (.tuple #[v, .int .i64 (errR (inB l.length f n))]) ∧ Own w' w.heap.size v (cutL l f n) ∧ Below w.heap.size w w' := by
  have hlen := ha.len
  cases hin : inB l.length f n with
  | false =>
    have hno : ∀ w', Own w' w.heap.size (.slice none 0 0) (cutL l f n) := fun w' => by rw [cutL, hin]; exact Own.nil _ _
    simp [inB] at hin
    by_cases h1 : f < 0
    · clear hin
      go_enter Tryd.func20, Tryd.ntmps20
      go_wp2
      go_ret2
      exact ⟨_, rfl, hno _, Below.refl _ _⟩
    by_cases h2 : n < 0
    · clear hin
      go_enter Tryd.func20, Tryd.ntmps20
      go_wp2
      go_ret2
      exact ⟨_, rfl, hno _, Below.refl _ _⟩
    by_cases h3 : (l.length : Int) < f
    · clear hin
      go_enter Tryd.func20, Tryd.ntmps20
      go_wp2
      go_ret2
      exact ⟨_, rfl, hno _, Below.refl _ _⟩
    have h4 : (l.length : Int) - f < n := by omega
    clear hin
    go_enter Tryd.func20, Tryd.ntmps20
    go_wp2
    go_ret2
    exact ⟨_, rfl, hno _, Below.refl _ _⟩
  | true =>
    have hin' := hin
    simp [inB] at hin'
    obtain ⟨F, rfl⟩ := Int.eq_ofNat_of_zero_le hin'.1.1.1
    obtain ⟨N, rfl⟩ := Int.eq_ofNat_of_zero_le hin'.1.1.2
    have hcl := cutL_length l F N hin
    have hcL : cutL l F N = (l.drop F).take N := by rw [cutL, hin]; simp
    rcases ha with ⟨rfl, rfl⟩ | ⟨b, off, rfl, hcap, hlc, _, _, hs⟩
    · obtain rfl : F = 0 := by simp at hin'; omega
      obtain rfl : N = 0 := by simp at hin'; omega
      exact rcut_empty sp w
    · have hs' := (hs.off F).pre N
      have hF : (F : Int) ≤ l.length := by omega
      have hFN : (F : Int) + N ≤ l.length := by omega
      rcases (show (F : Int) = cap ∨ (F : Int) < cap by omega) with hc | hc
      · obtain rfl : F = cap := by omega
        clear hc
        have hN : N = 0 := by omega
        have hnil : (l.drop F).take N = [] := by rw [hN]; simp
        rw [hcL, hnil]
        clear hcL hcl hs' hnil
        go_enter Tryd.func20, Tryd.ntmps20
        go_wp2_with (at_builtin; refine wpList_append_bytes rfl (.tmp 29) (.tmp 35) rfl w.heap.size [] [] _ rfl _ _ _ rfl (by first | rfl | omega) (Own.nil _ _) (Src.nil _ _) (Nat.le_refl _) (by simp) (fun h => by cases h) ?_; intro v w1 hown hb1)
        go_ret2
        exact ⟨_, rfl, hown, hb1⟩
      · rw [hcL]
        go_enter Tryd.func20, Tryd.ntmps20
        go_wp2_with (at_builtin; refine wpList_append_bytes rfl (.tmp 29) (.tmp 35) rfl w.heap.size [] ((l.drop F).take N) _ rfl (some ⟨b, off + F, none⟩) _ _ rfl (by rw [hcl]; omega) (Own.nil _ _) hs' (Nat.le_refl _) (by rw [hcl]; simp; omega) (fun h => by cases h) ?_; intro v w1 hown hb1)
        go_ret2
        exact ⟨_, rfl, hown, hb1⟩
set_option maxHeartbeats 1000000 in
theorem rlay_empty (sp sc : Option Addr) (cc : Nat) (w : World) (hnc : sc = none → cc = 0) :
    Calls Tryd.prog 22 #[.slice sp 0 0, .int .i64 0, .slice sc 0 cc] w fun e w' => ∃ v, e = .returned (.tuple #[v, .int .i64 (errR true)]) ∧ Own w' w.heap.size v [] ∧ Below w.heap.size w w' := by
  go_enter Tryd.func22, Tryd.ntmps22
  go_wp2_with (first | (at_builtin; refine wpList_append_bytes rfl (.tmp 26) (.tmp 29) rfl w.heap.size [] [] _ rfl _ _ _ rfl rfl (Own.nil _ _) (Src.nil _ _) (Nat.le_refl _) (by simp) (fun _ => rfl) ?_; intro v1 w1 hown1 hb1; have hz1 := hb1.size) | (at_builtin; refine wpList_append_bytes rfl (.tmp 31) (.tmp 32) rfl w.heap.size _ [] _ rfl _ _ _ rfl rfl hown1 (Src.nil _ _) hz1 (by simp) hnc ?_; intro v2 w2 hown2 hb2; have hz2 := hb2.size; have hb12 := hb1.trans hb2) | (at_builtin; refine wpList_append_bytes rfl (.tmp 34) (.tmp 40) rfl w.heap.size _ [] _ rfl _ _ _ rfl rfl hown2 (Src.nil _ _) (by omega) (by simp) (fun _ => rfl) ?_; intro v3 w3 hown3 hb3))
  go_ret2
  exact ⟨_, rfl, hown3, hb12.trans hb3⟩
set_option maxHeartbeats 1000000 in
theorem rlay_any (sp sc : Option Addr) (l c : List UInt8) (cap cc : Nat) (f : Int) (w : World) (ha : Arg w sp cap l) (hc : Arg w sc cc c) (hf : -9223372036854775808 ≤ f ∧ f ≤ 9223372036854775807) :
    Calls Tryd.prog 22 #[.slice sp l.length cap, .int .i64 f, .slice sc c.length cc] w fun e w' => ∃ v, e = .returned (.tuple #[v, .int .i64 (errR (inB l.length f c.length))]) ∧ Own w' w.heap.size v (layL l f c) ∧ Below w.heap.size w w' := by
  have hlen := ha.len
  have hlc := hc.len
  cases hin : inB l.length f c.length with
  | false =>
    have hno : ∀ w', Own w' w.heap.size (.slice none 0 0) (layL l f c) := fun w' => by rw [layL, hin]; exact Own.nil _ _
    simp [inB] at hin
    by_cases h1 : f < 0
    · clear hin
      go_enter Tryd.func22, Tryd.ntmps22
      go_wp2
      go_ret2
      exact ⟨_, rfl, hno _, Below.refl _ _⟩
    by_cases h3 : (l.length : Int) < f
    · clear hin
      go_enter Tryd.func22, Tryd.ntmps22
      go_wp2
      go_ret2
      exact ⟨_, rfl, hno _, Below.refl _ _⟩
    have h4 : (l.length : Int) - f < c.length := by omega
    clear hin
    go_enter Tryd.func22, Tryd.ntmps22
    go_wp2
    go_ret2
    exact ⟨_, rfl, hno _, Below.refl _ _⟩
  | true =>
    have hin' := hin
    simp [inB] at hin'
    obtain ⟨F, rfl⟩ := Int.eq_ofNat_of_zero_le hin'.1.1
    have hL : layL l F c = ([] ++ l.take F ++ c) ++ l.drop (F + c.length) := by rw [layL, hin]; simp
    have hFc : (F : Int) + c.length ≤ l.length := by omega
    have htl : (l.take F).length = F := by simp; omega
    have hdl : (l.drop (F + c.length)).length = l.length - (F + c.length) := by simp
    rw [hL]
    clear hL
    rcases ha with ⟨rfl, rfl⟩ | ⟨b, off, rfl, hcap, hlc2, _, _, hs⟩
    · obtain rfl : F = 0 := by simp at hin'; omega
      have hc0 : c = [] := List.eq_nil_of_length_eq_zero (by simp at hin'; omega)
      subst hc0
      exact rlay_empty sp sc cc w hc.nilcap
    have hs1 : Src w (some ⟨b, off, none⟩) (l.take F) := hs.pre F
    have hs3 : Src w (some ⟨b, off + (F + c.length), none⟩) (l.drop (F + c.length)) := hs.off _
    have hcap' : (0 : Int) < cap := by omega
    have hF0 : (0 : Int) ≤ F := by omega
    rcases (show (F : Int) + c.length = cap ∨ (F : Int) + c.length < cap by omega) with hce | hce
    · have hdn : l.drop (F + c.length) = [] := List.drop_eq_nil_of_le (by omega)
      have hsn : ∀ (sx : Option Addr) (wx : World), Src wx sx (l.drop (F + c.length)) := fun sx wx => by rw [hdn]; exact Src.nil _ _
      have hdl0 : (l.drop (F + c.length)).length = 0 := by rw [hdn]; rfl
      have HD : Hid (l.length = F + c.length) := by show _ = _; omega
      have HC : Hid (cap = F + c.length) := by show _ = _; omega
      have hle1 : (l.length : Int) ≤ F + c.length := by omega
      have hle2 : (cap : Int) ≤ F + c.length := by omega
      have hle3 : (F : Int) + c.length ≤ cap := by omega
      clear hce hdn hdl hs3
      go_enter Tryd.func22, Tryd.ntmps22
      go_wp2_with (first | (at_builtin; refine wpList_append_bytes rfl (.tmp 26) (.tmp 29) rfl w.heap.size [] (l.take F) _ rfl _ _ _ rfl (by first | exact htl.symm | omega) (Own.nil _ _) hs1 (Nat.le_refl _) (by rw [htl, List.length_nil]; omega) (fun h => by cases h) ?_; intro v1 w1 hown1 hb1; have hz1 := hb1.size) | (at_builtin; refine wpList_append_bytes rfl (.tmp 31) (.tmp 32) rfl w.heap.size _ c _ rfl _ _ _ rfl rfl hown1 (hc.src.below hb1 (Nat.le_refl _)) hz1 (by simp only [List.length_append, List.length_nil, htl]; omega) hc.nilcap ?_; intro v2 w2 hown2 hb2; have hz2 := hb2.size; have hb12 := hb1.trans hb2) | (at_builtin; refine wpList_append_bytes rfl (.tmp 34) (.tmp 40) rfl w.heap.size _ (l.drop (F + c.length)) _ rfl _ _ _ rfl (by first | exact hdl0.symm | omega) hown2 (hsn _ _) (by omega) (by rw [hdl0]; simp only [List.length_append, List.length_nil, htl]; omega) (fun h => by cases h) ?_; intro v3 w3 hown3 hb3))
      go_ret2
      exact ⟨_, rfl, hown3, hb12.trans hb3⟩
    · go_enter Tryd.func22, Tryd.ntmps22
      go_wp2_with (first | (at_builtin; refine wpList_append_bytes rfl (.tmp 26) (.tmp 29) rfl w.heap.size [] (l.take F) _ rfl _ _ _ rfl (by first | exact htl.symm | omega) (Own.nil _ _) hs1 (Nat.le_refl _) (by rw [htl, List.length_nil]; omega) (fun h => by cases h) ?_; intro v1 w1 hown1 hb1; have hz1 := hb1.size) | (at_builtin; refine wpList_append_bytes rfl (.tmp 31) (.tmp 32) rfl w.heap.size _ c _ rfl _ _ _ rfl rfl hown1 (hc.src.below hb1 (Nat.le_refl _)) hz1 (by simp only [List.length_append, List.length_nil, htl]; omega) hc.nilcap ?_; intro v2 w2 hown2 hb2; have hz2 := hb2.size; have hb12 := hb1.trans hb2) | (at_builtin; refine wpList_append_bytes rfl (.tmp 34) (.tmp 40) rfl w.heap.size _ (l.drop (F + c.length)) _ rfl (some ⟨b, off + (F + c.length), none⟩) _ _ rfl (by first | exact hdl.symm | omega) hown2 (hs3.below hb12 (Nat.le_refl _)) (by omega) (by rw [hdl]; simp only [List.length_append, List.length_nil, htl]; omega) (fun h => by cases h) ?_; intro v3 w3 hown3 hb3))
      go_ret2
      exact ⟨_, rfl, hown3, hb12.trans hb3⟩
end Go.Proofs.YtmedfjodkeplfaaDoor
