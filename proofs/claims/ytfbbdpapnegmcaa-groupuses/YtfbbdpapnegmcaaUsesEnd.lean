/- leveelaw06.GroupUses, whatever it is called with. -/
import Derived.Test.YtfbbdpapnegmcaaUsesWalk
namespace Go.Proofs.Ytfbbdpapnegmcaa
open Go.RowKit
set_option maxRecDepth 100000 in
set_option maxHeartbeats 4000000 in
theorem groupUses_any (a i n no : Int) (sp : Option Addr) (m cap : Nat) (A : Acts) (fr : Int) (w : World) (harg : m ≤ cap ∧ (cap : Int) ≤ 9223372036854775807 ∧ ActsAt w sp m A) :
    Calls Try.prog 5 #[.agg #[.int .i64 a, .int .i64 i, .int .i64 n], .int .i64 no, .slice sp m cap, .int .i64 fr] w fun e w' => e = .returned (.bool true) ∧ Below w.heap.size w w' := by
  cases hnb : numB a i n no
  · have L0 : Lies w w.heap.size a i n (w.alloc (.cells #[.int .i64 a, .int .i64 i, .int .i64 n] 23)) := ⟨by simp, by simp, by simp, (Below.refl _ _).alloc (Nat.le_refl _) _⟩
    have RR := rright_any a i n
    unfold numB at hnb
    cases hok : okB a i n
    · rw [hok] at RR
      go_enter Try.func5, Try.ntmps5
      go_wp2_with fail
      refine (keep3 w.heap.size a i n w L0 (RR _)).mono ?_
      rintro e w1 ⟨rfl, k0, k1, k2, kb⟩
      go_wp2_with fail
      refine (known_any _).mono ?_
      rintro e w2 ⟨rfl, h2⟩
      have hB := kb.trans (h2.mono kb.size)
      go_wp2
      go_ret
      exact ⟨rfl, hB⟩
    · rw [hok] at RR hnb
      rw [Bool.true_and] at hnb
      by_cases h0 : no < 0
      · clear hnb
        go_enter Try.func5, Try.ntmps5
        go_wp2_with fail
        refine (keep3 w.heap.size a i n w L0 (RR _)).mono ?_
        rintro e w1 ⟨rfl, k0, k1, k2, kb⟩
        go_wp2_with fail
        refine (known_any _).mono ?_
        rintro e w2 ⟨rfl, h2⟩
        have hB := kb.trans (h2.mono kb.size)
        go_wp2
        go_ret
        exact ⟨rfl, hB⟩
      · have h1 : n ≤ no := by
          by_cases h : no < n
          · rw [show decide (0 ≤ no) = true by simp; omega, show decide (no < n) = true by simp; omega] at hnb; cases hnb
          · omega
        clear hnb
        go_enter Try.func5, Try.ntmps5
        go_wp2_with fail
        refine (keep3 w.heap.size a i n w L0 (RR _)).mono ?_
        rintro e w1 ⟨rfl, k0, k1, k2, kb⟩
        go_wp2_with fail
        refine (known_any _).mono ?_
        rintro e w2 ⟨rfl, h2⟩
        have hB := kb.trans (h2.mono kb.size)
        go_wp2
        go_ret
        exact ⟨rfl, hB⟩
  · exact groupUses_walk a i n no fr sp m cap A ⟨harg.1, harg.2.1⟩ w harg.2.2 hnb
end Go.Proofs.Ytfbbdpapnegmcaa
