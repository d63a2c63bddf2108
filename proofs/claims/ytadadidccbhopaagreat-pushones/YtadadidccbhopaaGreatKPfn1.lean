/- Package patch: closed, unknown, Len, reach, lay. -/
import Derived.Test.YtadadidccbhopaaGreatJPst2
import Derived.BigQuiet
import Derived.BigRegion
namespace Go.Proofs.YtadadidccbhopaaGreat
open Go.RowKit
set_option maxRecDepth 100000
section
variable {w w' w0 : World} {base : Nat} {s s' s0 : PSt} {ops ops' : Nat → List Int}
set_option maxHeartbeats 1000000 in
theorem closed_any (h : PM w base s ops) (x : Int) (hx : -9223372036854775808 ≤ x ∧ x ≤ 9223372036854775807) :
    Calls Tryz.prog 96 #[.pointer (some ⟨s.p, 0, none⟩), .int .i64 x] w fun e w' => e = .returned (.bool (decide (s.fC x = 0))) ∧ w' = w := by
  have q3 := h.c3
  have LK := h.lookC x hx
  clear h
  generalize s.fC x = k at *
  cases k with
  | zero =>
    simp only [ptrV] at LK
    go_enter Tryz.func96, Tryz.ntmps96
    go_wp2
    go_ret
    exact ⟨rfl, rfl⟩
  | succ k =>
    simp only [ptrV] at LK
    go_enter Tryz.func96, Tryz.ntmps96
    go_wp2
    go_ret
    exact ⟨rfl, rfl⟩
set_option maxHeartbeats 1000000 in
theorem unknown_any (h : PM w base s ops) (x : Int) :
    Calls Tryz.prog 89 #[.pointer (some ⟨s.p, 0, none⟩), .int .i64 x] w fun e w' => e = .returned (.bool (decide (x < 1 ∨ (s.cnt : Int) < x))) ∧ w' = w := by
  have q2 := h.c2
  clear h
  by_cases h1 : x < 1
  · go_enter Tryz.func89, Tryz.ntmps89
    go_wp2
    go_ret
    exact ⟨by simp_all, rfl⟩
  · by_cases h2 : (s.cnt : Int) < x
    · go_enter Tryz.func89, Tryz.ntmps89
      go_wp2
      go_ret
      exact ⟨by simp_all, rfl⟩
    · go_enter Tryz.func89, Tryz.ntmps89
      go_wp2
      go_ret
      exact ⟨by simp_all, rfl⟩
set_option maxHeartbeats 1000000 in
theorem plen_any (h : PM w base s ops) :
    Calls Tryz.prog 12 #[.pointer (some ⟨s.p, 0, none⟩)] w fun e w' => e = .returned (.int .i64 (s.σ.dn : Int)) ∧ w' = w := by
  have LN := len_any h.cs.disk
  have q0 := h.c0
  clear h
  go_enter Tryz.func12, Tryz.ntmps12
  go_wp2_with (first | (go_at_call 62; refine LN.mono ?_; rintro e w1 ⟨rfl, rfl⟩))
  go_ret
  exact ⟨rfl, rfl⟩
set_option maxHeartbeats 1000000 in
theorem preach_any (h : PM w base s ops) (b : Int) :
    Calls Tryz.prog 82 #[.pointer (some ⟨s.p, 0, none⟩), .int .i64 b] w fun e w' => e = .returned (.int .i64 (if b < 0 ∨ (s.σ.dn : Int) ≤ b then 3 else 0)) ∧ w' = w := by
  have LN := plen_any h
  clear h
  by_cases h0 : b < 0
  · rw [if_pos (.inl h0)]
    go_enter Tryz.func82, Tryz.ntmps82
    go_wp2_with (first | (go_at_call 12; refine LN.mono ?_; rintro e w1 ⟨rfl, rfl⟩))
    go_ret
    exact ⟨rfl, rfl⟩
  · by_cases h1 : (s.σ.dn : Int) ≤ b
    · rw [if_pos (.inr h1)]
      go_enter Tryz.func82, Tryz.ntmps82
      go_wp2_with (first | (go_at_call 12; refine LN.mono ?_; rintro e w1 ⟨rfl, rfl⟩))
      go_ret
      exact ⟨rfl, rfl⟩
    · rw [if_neg (by omega)]
      go_enter Tryz.func82, Tryz.ntmps82
      go_wp2_with (first | (go_at_call 12; refine LN.mono ?_; rintro e w1 ⟨rfl, rfl⟩))
      go_ret
      exact ⟨rfl, rfl⟩
end
theorem slice_from (g cap fr : Nat) (hf : fr < 256) (hc : 256 ≤ cap) (w : World) : (Instr.slice 36 (.slice (some ⟨g, 0, none⟩) 256 cap) (some (.int .i64 (fr : Int))) none none).run Tryz.prog w = .ok (.slice (some ⟨g, fr, none⟩) (256 - fr) (cap - fr)) w := by
  have he : Tryz.prog.elem 36 = 5 := by kernel_rfl
  rw [run_slice_l w 36 _ _ _ (by kernel_rfl) .i64 _ (by omega) (by omega), he, size5]
  simp only [Result.andThen_ok, sliced, Int.toNat_natCast]
  rw [if_neg (by omega)]
  simp [addr_add]
set_option maxHeartbeats 1000000 in
theorem lay_any (q g g' fr cap dc : Nat) (t : TypeId) (x d : List UInt8) (r : List Value) (w : World) (q1 : w.cell? ⟨q, 1, none⟩ = some (.int .i64 (fr : Int))) (q2 : w.cell? ⟨q, 2, none⟩ = some (.slice (some ⟨g', 0, none⟩) d.length dc)) (hs : Src w (some ⟨g', 0, none⟩) d) (hd : 1 ≤ d.length) (hf : fr + d.length ≤ 256)
    (hg : w.heap[g]? = some (.cells (bvs x ++ r).toArray t (0, 0))) (hx : x.length = 256) (hc : 256 ≤ cap) :
    Calls Tryz.prog 94 #[.pointer (some ⟨q, 0, none⟩), .slice (some ⟨g, 0, none⟩) 256 cap] w fun e w' => e = .returned (.tuple #[]) ∧ w'.heap[g]? = some (.cells (bvs (layB x fr d) ++ r).toArray t (0, 0)) ∧ Fr (fun k => k = g) w w' ∧ Below g w w' := by
  have SL := slice_from g cap fr (by omega) hc
  obtain ⟨ad, had, hcs⟩ := hs.pos d.length (by rw [bvs_length, List.length_take]; omega)
  rw [List.take_of_length_le (Nat.le_refl _)] at hcs
  obtain rfl : (⟨g', 0, none⟩ : Addr) = ad := Option.some.inj had
  have hg' : w.drew.heap[g]? = some (.cells (bvs x ++ r).toArray t (0, 0)) := hg
  have hrun := run_copy_row (P := Tryz.prog) w.drew 36 36 3 5 g fr (256 - fr) (cap - fr) ⟨g', 0, none⟩ d.length dc (bvs x ++ r).toArray t (bvs d) Tryz.underlying36 Tryz.elem1 hg' (by rw [bvs_length]; exact (Nat.min_eq_left (by omega)).symm) hcs (by simp [bvs_length, hx]; omega) (bvs_one _)
  rw [bvs_length] at hrun
  have e1 : ((bvs x ++ r).toArray.toList.take fr ++ bvs d ++ (bvs x ++ r).toArray.toList.drop (fr + d.length)) = bvs (layB x fr d) ++ r := by
    rw [List.toList_toArray, List.take_append_of_le_length (by rw [bvs_length]; omega), List.drop_append_of_le_length (by rw [bvs_length]; omega), layB, bvs_append, bvs_append, bvs_take, bvs_drop]
    simp only [List.append_assoc]
  rw [e1] at hrun
  have hfin := setRow_heap w.drew g _ (bvs (layB x fr d) ++ r).toArray t _ hg'
  have HF : Hid _ := hfin
  generalize (bvs (layB x fr d) ++ r).toArray = A at *
  clear hfin hg hg' hcs hs e1 had
  generalize d.length = m at *
  go_enter Tryz.func94, Tryz.ntmps94
  go_region
  go_end0
  exact ⟨rfl, HF.out, ⟨by simp, fun k _ hk => setRow_other _ _ _ _ hk, rfl, rfl, rfl⟩, below_setRow ((Below.refl _ _).drew) (Nat.le_refl _) _⟩
end Go.Proofs.YtadadidccbhopaaGreat
