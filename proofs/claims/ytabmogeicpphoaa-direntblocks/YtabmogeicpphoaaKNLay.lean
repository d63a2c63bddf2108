/- num.Lay, leveeref01.Lay, leveeref01.Spoil. -/
import Derived.Test.YtabmogeicpphoaaKLentG
namespace Go.Proofs.Ytabmogeicpphoaa
open Go.RowKit
/-- May n bytes be taken from the place 'from' on, of so many? -/
def inB (len : Nat) (f n : Int) : Bool := decide (0 ≤ f) && decide (0 ≤ n) && decide (f ≤ len) && decide (n ≤ len - f)
set_option maxHeartbeats 1000000 in
theorem within_any (sp : Option Addr) (len cap : Nat) (f n : Int) (w : World) (hl : (len : Int) ≤ 140737488355328) (hf : -9223372036854775808 ≤ f ∧ f ≤ 9223372036854775807) :
    Calls Try.prog 76 #[.slice sp len cap, .int .i64 f, .int .i64 n] w fun e w' => e = .returned (.bool (inB len f n)) ∧ w' = w := by
  by_cases h1 : 0 ≤ f
  · by_cases h2 : 0 ≤ n
    · by_cases h3 : f ≤ len
      · go_enter Try.func76, Try.ntmps76
        go_wp2
        all_goals (go_ret; refine ⟨?_, rfl⟩; simp [inB, h1, h2, h3]; try omega)
      · go_enter Try.func76, Try.ntmps76
        go_wp2
        all_goals (go_ret; refine ⟨?_, rfl⟩; simp [inB, h1, h2]; omega)
    · go_enter Try.func76, Try.ntmps76
      go_wp2
      all_goals (go_ret; refine ⟨?_, rfl⟩; simp [inB, h1]; omega)
  · go_enter Try.func76, Try.ntmps76
    go_wp2
    all_goals (go_ret; refine ⟨?_, rfl⟩; simp [inB]; omega)
def errR (ok : Bool) : Int := if ok then 0 else 3
/-- What Lay answers. -/
def layL (l : List UInt8) (f : Int) (c : List UInt8) : List UInt8 := if inB l.length f c.length then l.take f.toNat ++ c ++ l.drop (f.toNat + c.length) else []
set_option maxHeartbeats 1000000 in
theorem lay_any (sp sc : Option Addr) (l c : List UInt8) (cap cc : Nat) (f : Int) (w : World) (hs : Src w sp l) (hsc : Src w sc c) (hl : l.length ≤ 140737488355328) (hcl : c.length ≤ 140737488355328) (hf : -9223372036854775808 ≤ f ∧ f ≤ 9223372036854775807) :
    Calls Try.prog 59 #[.slice sp l.length cap, .int .i64 f, .slice sc c.length cc] w fun e w' => ∃ v, e = .returned (.tuple #[v, .int .i64 (errR (inB l.length f c.length))]) ∧ Own w' w.heap.size v (layL l f c) ∧ Below w.heap.size w w' := by
  cases hin : inB l.length f c.length with
  | false =>
    go_enter Try.func59, Try.ntmps59
    go_wp2_with fail
    refine (within_any _ _ _ _ _ _ (by omega) hf).mono ?_
    rintro e w1 ⟨rfl, rfl⟩
    rw [hin]
    go_wp2
    go_ret2
    refine ⟨_, rfl, ?_, Below.refl _ _⟩
    rw [layL, hin]; exact Own.nil _ _
  | true =>
    have hin' := hin
    simp [inB] at hin'
    obtain ⟨F, rfl⟩ := Int.eq_ofNat_of_zero_le hin'.1.1
    have hL : layL l F c = l.take F ++ c ++ l.drop (F + c.length) := by rw [layL, hin]; simp
    have hLl : (layL l F c).length = l.length := by rw [hL]; simp; omega
    have hmk := make_any w l.length l.length (Nat.le_refl _) (by omega)
    have hg0 : Blk (w.alloc (.cells (bvs (List.replicate l.length 0)).toArray 5)) w.heap.size 5 (List.replicate l.length 0) := heap_alloc_new _ _
    have hb0 : Below w.heap.size w (w.alloc (.cells (bvs (List.replicate l.length 0)).toArray 5)) := (Below.refl _ _).alloc (Nat.le_refl _) _
    obtain ⟨w1, hrun, hg1, hb1, hz1⟩ := copy_any (off := 0) (dLen := l.length) l.length l.length cap hg0 (hs.below hb0 (Nat.le_refl _)) rfl (by simp)
    have e1 : List.take 0 (List.replicate l.length (0 : UInt8)) ++ l.take l.length ++ List.drop (0 + min l.length l.length) (List.replicate l.length 0) = l := by simp
    rw [e1] at hg1
    rw [Nat.min_self] at hrun
    have hb2 := hb0.trans hb1
    have hsc1 := hsc.below hb2 (Nat.le_refl _)
    have hlt := hg1.lt
    rcases (show (F : Int) = l.length ∨ (F : Int) < l.length by omega) with hc | hc
    · have hc0 : c = [] := List.eq_nil_of_length_eq_zero (by omega)
      have hF : F = l.length := by omega
      have hown : Own w1 w.heap.size (.slice (some ⟨w.heap.size, 0, none⟩) l.length l.length) (layL l F c) := by
        have := hg1.own (Nat.le_refl _) hl
        rw [hL, hc0, hF]; simpa using this
      have hcn := run_copy_none (P := Try.prog) w1 25 25 3 5 (some ⟨w.heap.size, 0, none⟩) sc 0 0 c.length cc Try.underlying25 Try.elem1 (by simp)
      subst hF
      clear hc hc0 hL hLl e1 hg1 hg0
      go_enter Try.func59, Try.ntmps59
      go_wp2_with fail
      refine (within_any _ _ _ _ _ _ (by omega) hf).mono ?_
      rintro e w2 ⟨rfl, rfl⟩
      rw [hin]
      go_wp2
      go_ret2
      exact ⟨_, rfl, hown, hb2⟩
    · obtain ⟨w2, hrun2, hg2, hb3, hz2⟩ := copy_any (off := F) (dLen := l.length - F) (l.length - F) c.length cc hg1 hsc1 rfl (by omega)
      have hown : Own w2 w.heap.size (.slice (some ⟨w.heap.size, 0, none⟩) l.length l.length) (layL l F c) := by
        have e2 : l.take F ++ c.take (l.length - F) ++ l.drop (F + min c.length (l.length - F)) = layL l F c := by
          rw [hL, List.take_of_length_le (l := c) (by omega), Nat.min_eq_left (by omega)]
        rw [e2] at hg2
        have := hg2.own (Nat.le_refl _) (by omega)
        rw [hLl] at this; exact this
      clear hL hLl e1 hg1 hg0 hg2
      go_enter Try.func59, Try.ntmps59
      go_wp2_with fail
      refine (within_any _ _ _ _ _ _ (by omega) hf).mono ?_
      rintro e w3 ⟨rfl, rfl⟩
      rw [hin]
      go_wp2
      go_ret2
      exact ⟨_, rfl, hown, hb2.trans hb3⟩
set_option maxHeartbeats 1000000 in
theorem rlay_empty (sp sc : Option Addr) (cc : Nat) (w : World) (hnc : sc = none → cc = 0) :
    Calls Try.prog 60 #[.slice sp 0 0, .int .i64 0, .slice sc 0 cc] w fun e w' => ∃ v, e = .returned (.tuple #[v, .int .i64 (errR true)]) ∧ Own w' w.heap.size v [] ∧ Below w.heap.size w w' := by
  go_enter Try.func60, Try.ntmps60
  go_wp2_with (first | (at_builtin; refine wpList_append_bytes rfl (.tmp 26) (.tmp 29) rfl w.heap.size [] [] _ rfl _ _ _ rfl rfl (Own.nil _ _) (Src.nil _ _) (Nat.le_refl _) (by simp) (fun _ => rfl) ?_; intro v1 w1 hown1 hb1; have hz1 := hb1.size) | (at_builtin; refine wpList_append_bytes rfl (.tmp 31) (.tmp 32) rfl w.heap.size _ [] _ rfl _ _ _ rfl rfl hown1 (Src.nil _ _) hz1 (by simp) hnc ?_; intro v2 w2 hown2 hb2; have hz2 := hb2.size; have hb12 := hb1.trans hb2) | (at_builtin; refine wpList_append_bytes rfl (.tmp 34) (.tmp 40) rfl w.heap.size _ [] _ rfl _ _ _ rfl rfl hown2 (Src.nil _ _) (by omega) (by simp) (fun _ => rfl) ?_; intro v3 w3 hown3 hb3))
  go_ret2
  exact ⟨_, rfl, hown3, hb12.trans hb3⟩
set_option maxHeartbeats 1000000 in
theorem rlay_any (sp sc : Option Addr) (l c : List UInt8) (cap cc : Nat) (f : Int) (w : World) (ha : Arg w sp cap l) (hc : Arg w sc cc c) (hf : -9223372036854775808 ≤ f ∧ f ≤ 9223372036854775807) :
    Calls Try.prog 60 #[.slice sp l.length cap, .int .i64 f, .slice sc c.length cc] w fun e w' => ∃ v, e = .returned (.tuple #[v, .int .i64 (errR (inB l.length f c.length))]) ∧ Own w' w.heap.size v (layL l f c) ∧ Below w.heap.size w w' := by
  have hlen := ha.len
  have hlc := hc.len
  cases hin : inB l.length f c.length with
  | false =>
    have hno : ∀ w', Own w' w.heap.size (.slice none 0 0) (layL l f c) := fun w' => by rw [layL, hin]; exact Own.nil _ _
    simp [inB] at hin
    by_cases h1 : f < 0
    · clear hin
      go_enter Try.func60, Try.ntmps60
      go_wp2
      go_ret2
      exact ⟨_, rfl, hno _, Below.refl _ _⟩
    by_cases h3 : (l.length : Int) < f
    · clear hin
      go_enter Try.func60, Try.ntmps60
      go_wp2
      go_ret2
      exact ⟨_, rfl, hno _, Below.refl _ _⟩
    have h4 : (l.length : Int) - f < c.length := by omega
    clear hin
    go_enter Try.func60, Try.ntmps60
    go_wp2
    go_ret2
    exact ⟨_, rfl, hno _, Below.refl _ _⟩
  | true =>
    have hin' := hin
    simp [inB] at hin'
    obtain ⟨F, rfl⟩ := Int.eq_ofNat_of_zero_le hin'.1.1
    have hL : layL l F c = ([] ++ l.take F ++ c) ++ l.drop (F + c.length) := by rw [layL, hin]; simp
    have hFc : (F : Int) + c.length ≤ l.length := by omega
    have htl : (l.take F).length = F := by simp; omega
    have hdl : (l.drop (F + c.length)).length = l.length - (F + c.length) := by simp
    rw [hL]
    clear hL
    rcases ha with ⟨rfl, rfl⟩ | ⟨b, off, rfl, hcap, hlc2, _, _, hs⟩
    · obtain rfl : F = 0 := by simp at hin'; omega
      have hc0 : c = [] := List.eq_nil_of_length_eq_zero (by simp at hin'; omega)
      subst hc0
      exact rlay_empty sp sc cc w hc.nilcap
    have hs1 : Src w (some ⟨b, off, none⟩) (l.take F) := hs.pre F
    have hs3 : Src w (some ⟨b, off + (F + c.length), none⟩) (l.drop (F + c.length)) := hs.off _
    have hcap' : (0 : Int) < cap := by omega
    have hF0 : (0 : Int) ≤ F := by omega
    rcases (show (F : Int) + c.length = cap ∨ (F : Int) + c.length < cap by omega) with hce | hce
    · have hdn : l.drop (F + c.length) = [] := List.drop_eq_nil_of_le (by omega)
      have hsn : ∀ (sx : Option Addr) (wx : World), Src wx sx (l.drop (F + c.length)) := fun sx wx => by rw [hdn]; exact Src.nil _ _
      have hdl0 : (l.drop (F + c.length)).length = 0 := by rw [hdn]; rfl
      have HD : Hid (l.length = F + c.length) := by show _ = _; omega
      have HC : Hid (cap = F + c.length) := by show _ = _; omega
      have hle1 : (l.length : Int) ≤ F + c.length := by omega
      have hle2 : (cap : Int) ≤ F + c.length := by omega
      have hle3 : (F : Int) + c.length ≤ cap := by omega
      clear hce hdn hdl hs3
      go_enter Try.func60, Try.ntmps60
      go_wp2_with (first | (at_builtin; refine wpList_append_bytes rfl (.tmp 26) (.tmp 29) rfl w.heap.size [] (l.take F) _ rfl _ _ _ rfl (by first | exact htl.symm | omega) (Own.nil _ _) hs1 (Nat.le_refl _) (by rw [htl, List.length_nil]; omega) (fun h => by cases h) ?_; intro v1 w1 hown1 hb1; have hz1 := hb1.size) | (at_builtin; refine wpList_append_bytes rfl (.tmp 31) (.tmp 32) rfl w.heap.size _ c _ rfl _ _ _ rfl rfl hown1 (hc.src.below hb1 (Nat.le_refl _)) hz1 (by simp only [List.length_append, List.length_nil, htl]; omega) hc.nilcap ?_; intro v2 w2 hown2 hb2; have hz2 := hb2.size; have hb12 := hb1.trans hb2) | (at_builtin; refine wpList_append_bytes rfl (.tmp 34) (.tmp 40) rfl w.heap.size _ (l.drop (F + c.length)) _ rfl _ _ _ rfl (by first | exact hdl0.symm | omega) hown2 (hsn _ _) (by omega) (by rw [hdl0]; simp only [List.length_append, List.length_nil, htl]; omega) (fun h => by cases h) ?_; intro v3 w3 hown3 hb3))
      go_ret2
      exact ⟨_, rfl, hown3, hb12.trans hb3⟩
    · go_enter Try.func60, Try.ntmps60
      go_wp2_with (first | (at_builtin; refine wpList_append_bytes rfl (.tmp 26) (.tmp 29) rfl w.heap.size [] (l.take F) _ rfl _ _ _ rfl (by first | exact htl.symm | omega) (Own.nil _ _) hs1 (Nat.le_refl _) (by rw [htl, List.length_nil]; omega) (fun h => by cases h) ?_; intro v1 w1 hown1 hb1; have hz1 := hb1.size) | (at_builtin; refine wpList_append_bytes rfl (.tmp 31) (.tmp 32) rfl w.heap.size _ c _ rfl _ _ _ rfl rfl hown1 (hc.src.below hb1 (Nat.le_refl _)) hz1 (by simp only [List.length_append, List.length_nil, htl]; omega) hc.nilcap ?_; intro v2 w2 hown2 hb2; have hz2 := hb2.size; have hb12 := hb1.trans hb2) | (at_builtin; refine wpList_append_bytes rfl (.tmp 34) (.tmp 40) rfl w.heap.size _ (l.drop (F + c.length)) _ rfl (some ⟨b, off + (F + c.length), none⟩) _ _ rfl (by first | exact hdl.symm | omega) hown2 (hs3.below hb12 (Nat.le_refl _)) (by omega) (by rw [hdl]; simp only [List.length_append, List.length_nil, htl]; omega) (fun h => by cases h) ?_; intro v3 w3 hown3 hb3))
      go_ret2
      exact ⟨_, rfl, hown3, hb12.trans hb3⟩
set_option maxHeartbeats 1000000 in
theorem spoil_any (base : Nat) (v : Value) (l : List UInt8) (w : World) (h : Own w base v l) (hl : l.length ≤ 140737488355328) :
    Calls Try.prog 29 #[v] w fun e w' => e = .returned (.tuple #[]) ∧ w.grownBy w' v.ownBlock := by
  by_cases h0 : l.length = 0
  · obtain ⟨ao, cap, rfl, _⟩ := h.form
    have hz : ∀ sp c, Calls Try.prog 29 #[.slice sp 0 c] w fun e w' => e = .returned (.tuple #[]) ∧ w.grownBy w' (Value.slice sp 0 c).ownBlock := by
      intro sp c
      clear h h0
      go_enter Try.func29, Try.ntmps29
      go_wp2
      refine wp_loop_rounds 1 ?_
      rw [rounds_succ]; go_wp2
      go_end0
      exact ⟨rfl, World.grownBy.refl _ _⟩
    rw [h0]; exact hz _ _
  · obtain ⟨g, cap, rfl, hg, hh, hn, hcap, _⟩ : ∃ g cap, v = .slice (some ⟨g, 0, none⟩) l.length cap ∧ base ≤ g ∧ g < w.heap.size ∧ l.length ≤ cap ∧ (cap : Int) ≤ 9223372036854775807 ∧ True := by
      obtain ⟨h1, h2⟩ := h
      rcases h2 with ⟨rfl, h3⟩ | ⟨g, cap, cur, rfl, hg, hh, hn, hm, hs, hx⟩
      · omega
      · exact ⟨g, cap, rfl, hg, (Array.getElem?_eq_some_iff.1 hh).1, hn, by unfold maxLen at hm; omega, trivial⟩
    go_enter Try.func29, Try.ntmps29
    go_wp2
    go_loopw [2] (fun i wr => ∃ k : Nat, ∃ m : List UInt8, k ≤ l.length ∧ i = .int .i64 k ∧ m.length = l.length ∧ Own wr base (.slice (some ⟨g, 0, none⟩) l.length cap) m ∧ w.grownBy wr (some g)) (fun i _ => l.length - (intOf i).toNat)
    case atStart => exact ⟨0, l, by omega, rfl, rfl, h, World.grownBy.refl _ _⟩
    case round =>
      obtain ⟨k, m, hk, rfl, hm, hown, hbw⟩ := hrel
      by_cases hlt : (k : Int) < l.length
      · rw [← hm] at hown
        have hst := hown.store k 90
        have hcc : wr.cell? ⟨g, k, none⟩ = some (bv (m.getD k 0)) := by
          rw [World.ownsRow.cellAt hown k (by omega)]
          have hk2 : k < m.length := by omega
          simp [bvs, hk2]
        have hff : wr.frozen? ⟨g, k, none⟩ = false := World.ownsRow.frozenAt hown k
        have hb2 : w.grownBy (wr.setCell ⟨g, k, none⟩ (bv 90)) (some g) := grown_trans hbw (World.ownsRow.stored hown k (bv 90)).2
        rw [hm] at hst
        have HO : Hid _ := hst
        clear hst hown
        go_wp2
        go_roundw
        case rel => exact ⟨k + 1, m.set k 90, by omega, by go_num, by rw [List.length_set]; exact hm, HO.out, hb2⟩
        case measure => simp [intOf]; omega
      · go_wp2
        go_end0
        exact ⟨rfl, hbw⟩
end Go.Proofs.Ytabmogeicpphoaa
