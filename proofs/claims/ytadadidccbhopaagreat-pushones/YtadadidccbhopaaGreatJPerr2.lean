/- Package patch: the answers of Patch and Write where nothing is done. -/
import Derived.Test.YtadadidccbhopaaGreatJPlog9
namespace Go.Proofs.YtadadidccbhopaaGreat
open Go.RowKit
set_option maxRecDepth 100000
section
variable {w w' w0 : World} {base : Nat} {s : PSt} {ops : Nat → List Int} {κ : Nat}
set_option maxHeartbeats 2000000 in
theorem pwrite_out (h : PM w base s ops) (b : Int) (hb : b < 0 ∨ (s.σ.dn : Int) ≤ b) :
    Calls Tryz.prog 26 #[.pointer (some ⟨s.p, 0, none⟩), .int .i64 b] w fun r w' => r = .returned (.int .i64 3) ∧ w' = w := by
  have RC := preach_any h b
  rw [if_pos hb] at RC
  clear h
  go_enter Tryz.func26, Tryz.ntmps26
  go_wp2_with (first | (go_at_call 82; refine RC.mono ?_; rintro e w1 ⟨rfl, hw1⟩; obtain rfl : w = w1 := hw1.symm))
  go_ret
  exact ⟨rfl, rfl⟩
set_option maxHeartbeats 2000000 in
theorem pwrite_none (h : PM w base s ops) (n : Nat) (hn : n < s.σ.dn) (hdn : s.σ.dn ≤ 4096) (hf : s.fB n = 0) :
    Calls Tryz.prog 26 #[.pointer (some ⟨s.p, 0, none⟩), .int .i64 (n : Int)] w fun r w' => r = .returned (.int .i64 20) ∧ w' = w := by
  have RC := preach_any h (n : Int)
  rw [if_neg (by omega)] at RC
  have LK := h.lookB (n : Int) (by omega)
  rw [hf] at LK
  simp only [ptrV] at LK
  have c4 := h.c4
  clear h
  go_enter Tryz.func26, Tryz.ntmps26
  go_wp2_with (first | (go_at_call 82; refine RC.mono ?_; rintro e w1 ⟨rfl, hw1⟩; obtain rfl : w = w1 := hw1.symm))
  go_ret
  exact ⟨rfl, rfl⟩
set_option maxHeartbeats 2000000 in
theorem ppatch_out (h : PM w base s ops) (b : Int) (hb : b < 0 ∨ (s.σ.dn : Int) ≤ b) (fr : Int) (v v2 : Value) :
    Calls Tryz.prog 28 #[.pointer (some ⟨s.p, 0, none⟩), .int .i64 b, .int .i64 fr, v, v2] w fun r w' => r = .returned (.tuple #[.int .i64 0, .int .i64 3]) ∧ w' = w := by
  have RC := preach_any h b
  rw [if_pos hb] at RC
  clear h
  go_enter Tryz.func28, Tryz.ntmps28
  go_wp2_with (first | (go_at_call 82; refine RC.mono ?_; rintro e w1 ⟨rfl, hw1⟩; obtain rfl : w = w1 := hw1.symm))
  go_ret2
  exact ⟨rfl, rfl⟩
set_option maxHeartbeats 2000000 in
theorem ppatch_size (h : PM w base s ops) (n : Nat) (hn : n < s.σ.dn) (fr : Int) (hfr : -9223372036854775808 ≤ fr ∧ fr ≤ 9223372036854775807) (sp : Option Addr) (m cap : Nat) (hm : (m : Int) ≤ 9223372036854775807) (v2 : Value) (hs : m = 0 ∨ fr < 0 ∨ 256 - (m : Int) < fr) :
    Calls Tryz.prog 28 #[.pointer (some ⟨s.p, 0, none⟩), .int .i64 (n : Int), .int .i64 fr, .slice sp m cap, v2] w fun r w' => r = .returned (.tuple #[.int .i64 0, .int .i64 4]) ∧ w' = w := by
  have RC := preach_any h (n : Int)
  rw [if_neg (by omega)] at RC
  clear h
  by_cases h1 : m = 0
  · subst h1
    go_enter Tryz.func28, Tryz.ntmps28
    go_wp2_with (first | (go_at_call 82; refine RC.mono ?_; rintro e w1 ⟨rfl, hw1⟩; obtain rfl : w = w1 := hw1.symm))
    go_ret2
    exact ⟨rfl, rfl⟩
  · have hm0 : ¬ (m : Int) = 0 := by omega
    have hm0b : ((m : Int) == 0) = false := by simpa using hm0
    by_cases h2 : fr < 0
    · go_enter Tryz.func28, Tryz.ntmps28
      go_wp2_with (first | (go_at_call 82; refine RC.mono ?_; rintro e w1 ⟨rfl, hw1⟩; obtain rfl : w = w1 := hw1.symm))
      go_ret2
      exact ⟨rfl, rfl⟩
    · have h3 : 256 - (m : Int) < fr := by omega
      have h4 : -9223372036854775808 ≤ 256 - (m : Int) ∧ 256 - (m : Int) ≤ 9223372036854775807 := by omega
      go_enter Tryz.func28, Tryz.ntmps28
      go_wp2_with (first | (go_at_call 82; refine RC.mono ?_; rintro e w1 ⟨rfl, hw1⟩; obtain rfl : w = w1 := hw1.symm))
      go_ret2
      exact ⟨rfl, rfl⟩
set_option maxHeartbeats 2000000 in
theorem ppatch_arg (h : PM w base s ops) (n : Nat) (hn : n < s.σ.dn) (fr : Nat) (sp : Option Addr) (m cap : Nat) (hm1 : 1 ≤ m) (hf : fr + m ≤ 256) (asp : Option Addr) (ac : Nat) (after : List Int) (has : SrcI w asp after) (hal : after.length ≤ 1000) (hun : ∃ i ∈ after, i < 1 ∨ (s.cnt : Int) < i) :
    Calls Tryz.prog 28 #[.pointer (some ⟨s.p, 0, none⟩), .int .i64 (n : Int), .int .i64 (fr : Int), .slice sp m cap, .slice asp after.length ac] w fun r w' => r = .returned (.tuple #[.int .i64 0, .int .i64 1]) ∧ ∃ q, w' = w.drewN q := by
  have RC := preach_any h (n : Int)
  rw [if_neg (by omega)] at RC
  have egu : ∀ args w, (callFunc 89 args).run Tryz.prog w = .ok (.enter 89 args) w := enters_of Tryz.func89 (by kernel_rfl) rfl
  have CF := containsFunc_m 89 (.pointer (some ⟨s.p, 0, none⟩)) egu (fun x => decide (x < 1 ∨ (s.cnt : Int) < x)) asp ac after w has (by omega) (fun x hx m => (unknown_any (h.up (belowN (Below.refl _ _) m)) x).mono fun e w' hh => ⟨hh.1, m, hh.2⟩)
  rw [show after.any (fun x => decide (x < 1 ∨ (s.cnt : Int) < x)) = true by
    rw [List.any_eq_true]
    obtain ⟨i, hi, h1⟩ := hun
    exact ⟨i, hi, by simpa using h1⟩] at CF
  have hf' : (fr : Int) ≤ 256 - (m : Int) := by omega
  have hm0 : ¬ (m : Int) = 0 := by omega
  have hm0b : ((m : Int) == 0) = false := by simpa using hm0
  have hm256 : (m : Int) ≤ 256 := by omega
  clear h egu hun has
  go_enter Tryz.func28, Tryz.ntmps28
  go_wp2_with (first | (go_at_call 82; refine RC.mono ?_; rintro e w1 ⟨rfl, hw1⟩; obtain rfl : w = w1 := hw1.symm) | (go_at_call 88; refine Hid.out ?_))
  change Calls _ _ _ _ _
  refine CF.mono ?_
  clear CF RC
  rintro e w2 ⟨⟨q0, rfl⟩, rfl⟩
  go_wp2
  go_ret2
  exact ⟨rfl, q0, rfl⟩
end
end Go.Proofs.YtadadidccbhopaaGreat
/- leveeref01.Count; package patch: Block. -/
namespace Go.Proofs.YtadadidccbhopaaGreat
open Go.RowKit
set_option maxRecDepth 100000
section
variable {w w' : World} {base : Nat} {s : PSt} {ops : Nat → List Int} {κ : Nat}
set_option maxHeartbeats 2000000 in
theorem pblock_ok (h : PM w base s ops) {c : Ch} (hc : c ∈ s.C) (hx : (c.id : Int) ≤ 1000000) (hf : s.fC c.id = c.q + 1) :
    Calls Tryz.prog 46 #[.pointer (some ⟨s.p, 0, none⟩), .int .i64 (c.id : Int)] w fun r w' => r = .returned (.tuple #[.int .i64 (c.b : Int), .int .i64 0]) ∧ w' = w := by
  have CL := closed_any h (c.id : Int) (by omega)
  rw [hf, decide_eq_false (by omega)] at CL
  have LK := h.lookC (c.id : Int) (by omega)
  rw [hf] at LK
  simp only [ptrV] at LK
  have c3 := h.c3
  have x0 : w.cell? ⟨c.q, 0, none⟩ = some (.int .i64 (c.b : Int)) := (h.ch c hc).c0
  clear h hc
  go_enter Tryz.func46, Tryz.ntmps46
  go_wp2_with (first | (go_at_call 96; refine CL.mono ?_; rintro e w1 ⟨rfl, hw1⟩; obtain rfl : w = w1 := hw1.symm))
  go_ret2
  exact ⟨rfl, rfl⟩
end
end Go.Proofs.YtadadidccbhopaaGreat
