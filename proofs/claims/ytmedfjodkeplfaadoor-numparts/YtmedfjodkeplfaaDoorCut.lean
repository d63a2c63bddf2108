/- num.Cut. -/
import Derived.Test.YtmedfjodkeplfaaDoorOps
namespace Go.Proofs.YtmedfjodkeplfaaDoor
open Go.RowKit
/-- May n bytes be taken from the place 'from' on, of so many? -/
def inB (len : Nat) (f n : Int) : Bool := decide (0 ≤ f) && decide (0 ≤ n) && decide (f ≤ len) && decide (n ≤ len - f)
set_option maxHeartbeats 1000000 in
theorem within_any (sp : Option Addr) (len cap : Nat) (f n : Int) (w : World) (hl : (len : Int) ≤ 140737488355328) (hf : -9223372036854775808 ≤ f ∧ f ≤ 9223372036854775807) :
    Calls Tryd.prog 27 #[.slice sp len cap, .int .i64 f, .int .i64 n] w fun e w' => e = .returned (.bool (inB len f n)) ∧ w' = w := by
  by_cases h1 : 0 ≤ f
  · by_cases h2 : 0 ≤ n
    · by_cases h3 : f ≤ len
      · go_enter Tryd.func27, Tryd.ntmps27
        go_wp2
        all_goals (go_ret; refine ⟨?_, rfl⟩; simp [inB, h1, h2, h3]; try omega)
      · go_enter Tryd.func27, Tryd.ntmps27
        go_wp2
        all_goals (go_ret; refine ⟨?_, rfl⟩; simp [inB, h1, h2]; omega)
    · go_enter Tryd.func27, Tryd.ntmps27
      go_wp2
      all_goals (go_ret; refine ⟨?_, rfl⟩; simp [inB, h1]; omega)
  · go_enter Tryd.func27, Tryd.ntmps27
    go_wp2
    all_goals (go_ret; refine ⟨?_, rfl⟩; simp [inB]; omega)
/-- What Cut answers. -/
def cutL (l : List UInt8) (f n : Int) : List UInt8 := if inB l.length f n then (l.drop f.toNat).take n.toNat else []
def errR (ok : Bool) : Int := if ok then 0 else 3
theorem cutL_length (l : List UInt8) (F N : Nat) (h : inB l.length F N = true) : ((l.drop F).take N).length = N := by
  simp [inB] at h; simp; omega
set_option maxHeartbeats 1000000 in
theorem cut_empty (sp : Option Addr) (w : World) :
    Calls Tryd.prog 19 #[.slice sp 0 0, .int .i64 0, .int .i64 0] w fun e w' => ∃ v, e = .returned (.tuple #[v, .int .i64 (errR true)]) ∧ Own w' w.heap.size v (cutL [] 0 0) ∧ Below w.heap.size w w' := by
  have hmk : (Instr.makeSlice 23 (.int .i64 0) (.int .i64 0)).run Tryd.prog w = .ok (.slice (some ⟨w.heap.size, 0, none⟩) 0 0) (w.alloc (.cells (bvs (List.replicate 0 0)).toArray 5)) := make_any w 0 0 (Nat.le_refl _) (by omega)
  have hb0 : Below w.heap.size w (w.alloc (.cells (bvs (List.replicate 0 0)).toArray 5)) := (Below.refl _ _).alloc (Nat.le_refl _) _
  have hg0 : Blk (w.alloc (.cells (bvs (List.replicate 0 0)).toArray 5)) w.heap.size 5 (List.replicate 0 0) := heap_alloc_new _ _
  have hown : Own (w.alloc (.cells (bvs (List.replicate 0 0)).toArray 5)) w.heap.size (.slice (some ⟨w.heap.size, 0, none⟩) 0 0) (cutL [] 0 0) := hg0.own (Nat.le_refl _) (by simp)
  have hrun := fun (d s : Option Addr) (wx : World) => run_copy_none (P := Tryd.prog) wx 23 23 3 5 d s 0 0 0 0 Tryd.underlying23 Tryd.elem1 rfl
  clear hg0
  go_enter Tryd.func19, Tryd.ntmps19
  go_wp2_with fail
  refine (within_any _ _ _ _ _ _ (by omega) (by omega)).mono ?_
  rintro e w1 ⟨rfl, rfl⟩
  rw [show inB 0 0 0 = true from rfl]
  go_wp2
  go_ret2
  exact ⟨_, rfl, hown, hb0⟩
set_option maxHeartbeats 1000000 in
theorem cut_any (sp : Option Addr) (l : List UInt8) (cap : Nat) (f n : Int) (w : World) (ha : Arg w sp cap l) (hf : -9223372036854775808 ≤ f ∧ f ≤ 9223372036854775807) (hn : -9223372036854775808 ≤ n ∧ n ≤ 9223372036854775807) :
    Calls Tryd.prog 19 #[.slice sp l.length cap, .int .i64 f, .int .i64 n] w fun e w' => ∃ v, e = .returned (.tuple #[v, .int .i64 (errR (inB l.length f n))]) ∧ Own w' w.heap.size v (cutL l f n) ∧ Below w.heap.size w w' := by
  have hlen := ha.len
  cases hin : inB l.length f n with
  | false =>
    go_enter Tryd.func19, Tryd.ntmps19
    go_wp2_with fail
    refine (within_any _ _ _ _ _ _ (by omega) hf).mono ?_
    rintro e w1 ⟨rfl, rfl⟩
    rw [hin]
    go_wp2
    go_ret2
    refine ⟨_, rfl, ?_, Below.refl _ _⟩
    rw [cutL, hin]; exact Own.nil _ _
  | true =>
    have hin' := hin
    simp [inB] at hin'
    obtain ⟨F, rfl⟩ := Int.eq_ofNat_of_zero_le hin'.1.1.1
    obtain ⟨N, rfl⟩ := Int.eq_ofNat_of_zero_le hin'.1.1.2
    have hmk := make_any w N N (Nat.le_refl _) (by omega)
    have hg0 : Blk (w.alloc (.cells (bvs (List.replicate N 0)).toArray 5)) w.heap.size 5 (List.replicate N 0) := heap_alloc_new _ _
    have hb0 : Below w.heap.size w (w.alloc (.cells (bvs (List.replicate N 0)).toArray 5)) := (Below.refl _ _).alloc (Nat.le_refl _) _
    have hcl := cutL_length l F N hin
    have hcL : cutL l F N = (l.drop F).take N := by rw [cutL, hin]; simp
    have fin : ∀ w1, Blk w1 w.heap.size 5 (List.take 0 (List.replicate N 0) ++ (l.drop F).take N ++ List.drop (0 + min (l.length - F) N) (List.replicate N 0)) → Own w1 w.heap.size (.slice (some ⟨w.heap.size, 0, none⟩) N N) (cutL l F N) := by
      intro w1 h
      have e : List.take 0 (List.replicate N (0 : UInt8)) ++ (l.drop F).take N ++ List.drop (0 + min (l.length - F) N) (List.replicate N 0) = (l.drop F).take N := by
        have e2 : List.drop (0 + min (l.length - F) N) (List.replicate N (0 : UInt8)) = [] := List.drop_eq_nil_of_le (by rw [List.length_replicate]; omega)
        rw [e2]; simp
      rw [e] at h
      have := h.own (Nat.le_refl _) (by rw [hcl]; omega)
      rw [hcl] at this; rw [hcL]; exact this
    have FIN := fin
    clear fin
    rcases ha with ⟨rfl, rfl⟩ | ⟨b, off, rfl, hcap, hlc, _, _, hs⟩
    · obtain rfl : F = 0 := by simp at hin'; omega
      obtain rfl : N = 0 := by simp at hin'; omega
      exact cut_empty sp w
    · have hs' := (hs.off F).below hb0 (Nat.le_refl _)
      rcases (show (F : Int) = cap ∨ (F : Int) < cap by omega) with hc | hc
      · obtain rfl : F = cap := by omega
        clear hc
        have hdr : l.drop F = [] := List.drop_eq_nil_of_le hlc
        obtain ⟨w1, hrun, hg1, hb1, _⟩ := copy_any (off := 0) (dLen := N) N (sp := some ⟨b, off, none⟩) 0 0 hg0 (l := []) (Src.nil _ _) rfl (by simp)
        have hown : Own w1 w.heap.size (.slice (some ⟨w.heap.size, 0, none⟩) N N) (cutL l F N) := FIN w1 (by rw [hdr, show l.length - F = 0 from by omega]; exact hg1)
        clear hdr
        clear FIN hg1 hs' hs hcL hcl
        go_enter Tryd.func19, Tryd.ntmps19
        go_wp2_with fail
        refine (within_any _ _ _ _ _ _ (by omega) hf).mono ?_
        rintro e w2 ⟨rfl, rfl⟩
        rw [hin]
        go_wp2
        go_ret2
        exact ⟨_, rfl, hown, hb0.trans hb1⟩
      · obtain ⟨w1, hrun, hg1, hb1, _⟩ := copy_any (off := 0) (dLen := N) N (sp := some ⟨b, off + F, none⟩) (l.length - F) (cap - F) hg0 hs' (by simp) (by simp)
        have hown : Own w1 w.heap.size (.slice (some ⟨w.heap.size, 0, none⟩) N N) (cutL l F N) := FIN w1 hg1
        clear FIN hg1 hs' hs hcL hcl
        go_enter Tryd.func19, Tryd.ntmps19
        go_wp2_with fail
        refine (within_any _ _ _ _ _ _ (by omega) hf).mono ?_
        rintro e w2 ⟨rfl, rfl⟩
        rw [hin]
        go_wp2
        go_ret2
        exact ⟨_, rfl, hown, hb0.trans hb1⟩
end Go.Proofs.YtmedfjodkeplfaaDoor
