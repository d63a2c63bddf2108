/- The walk of leveelaw09.PtrBack. -/
import Derived.Test.YtohidgfeainlfaaPknown
namespace Go.Proofs.Ytohidgfeainlfaa
open Go.RowKit
theorem back_of {n : Int} (h : 0 ≤ n ∧ n ≤ 4165) : bkV (ofD n) (ofA n) (ofB n) (ofC n) = n ∧ bkE (ofD n) (ofA n) (ofB n) (ofC n) = 0 := by
  have hw : isW n (ofD n) (ofA n) (ofB n) (ofC n) = true := isW_iff.2 ⟨rfl, rfl, rfl, rfl⟩
  obtain ⟨h1, h2⟩ := way_ok h hw
  exact ⟨by rw [bkV, if_pos h1]; exact h2.symm, if_pos h1⟩
/-- Ways rise with their blocks. -/
def lessW (d a b c d' a' b' c' : Int) : Bool := decide (d < d') || (decide (d = d') && (decide (a < a') || (decide (a = a') && (decide (b < b') || (decide (b = b') && decide (c < c'))))))
theorem less_of {n m : Int} (hn : 0 ≤ n ∧ n ≤ 4165) (hm : 0 ≤ m ∧ m ≤ 4165) : (ofD n < ofD m ∨ ofD n = ofD m ∧ (ofA n < ofA m ∨ ofA n = ofA m ∧ (ofB n < ofB m ∨ ofB n = ofB m ∧ ofC n < ofC m))) ↔ n < m := by
  have three : ∀ x : Int, 0 ≤ x ∧ x ≤ 4165 → (x < 6 ∧ ofD x = 0 ∧ ofA x = x ∧ ofB x = 0 ∧ ofC x = 0) ∨ (6 ≤ x ∧ x < 70 ∧ ofD x = 1 ∧ ofA x = 0 ∧ ofB x = x - 6 ∧ ofC x = 0) ∨ (70 ≤ x ∧ ofD x = 2 ∧ ofA x = 0 ∧ ofB x = (x - 70) / 64 ∧ ofC x = (x - 70) % 64) := by
    intro x hx
    by_cases h1 : x < 6
    · exact .inl ⟨h1, of_lo hx.1 h1⟩
    · by_cases h2 : x < 70
      · exact .inr (.inl ⟨by omega, h2, of_mid (by omega) h2⟩)
      · exact .inr (.inr ⟨by omega, of_hi (by omega) hx.2⟩)
  have a := three n hn
  have b := three m hm
  rcases a with a | a | a <;> rcases b with b | b | b <;> omega
set_option maxRecDepth 100000 in
set_option maxHeartbeats 4000000 in
theorem ptrBack_any (n m : Int) (w : World) : Calls Try.prog 5 #[.int .i64 n, .int .i64 m] w fun e w' => e = .returned (.bool true) ∧ Below w.heap.size w w' := by
  have O1 := of_any n
  have O2 := of_any m
  by_cases hn : 0 ≤ n ∧ n ≤ 4165
  · obtain ⟨e1, e2⟩ := back_of hn
    have BK := back_any (ofD n) (ofA n) (ofB n) (ofC n)
    rw [e1, e2] at BK
    rw [ofE_in hn] at O1
    clear e1 e2
    by_cases hm : 0 ≤ m ∧ m ≤ 4165
    · have HLS : Hid _ := less_of hn hm
      rw [ofE_in hm] at O2
      clear hn hm
      generalize ofD n = x1 at *
      generalize ofA n = x2 at *
      generalize ofB n = x3 at *
      generalize ofC n = x4 at *
      generalize ofD m = y1 at *
      generalize ofA m = y2 at *
      generalize ofB m = y3 at *
      generalize ofC m = y4 at *
      go_enter Try.func5, Try.ntmps5
      go_wp2_with fail
      refine (O1 _).mono ?_
      clear O1
      rintro e w1 ⟨rfl, hb1⟩
      have HL1 : Hid (LiesW w w1.heap.size x1 x2 x3 x4 (w1.alloc (.cells (wayA x1 x2 x3 x4) 24))) := by
        have h := liesW_new w1 x1 x2 x3 x4 24
        exact ⟨h.c0, h.c1, h.c2, h.c3, hb1.alloc hb1.size _⟩
      clear hb1
      go_wp2_with fail
      refine (O2 _).mono ?_
      clear O2
      rintro e w2 ⟨rfl, hb2⟩
      have HL2 : Hid (LiesW w w1.heap.size x1 x2 x3 x4 (w2.alloc (.cells (wayA y1 y2 y3 y4) 24))) := (HL1.out.up hb2).alloc _
      have HM2 : Hid (LiesW w w2.heap.size y1 y2 y3 y4 (w2.alloc (.cells (wayA y1 y2 y3 y4) 24))) := by
        have h := liesW_new w2 y1 y2 y3 y4 24
        exact ⟨h.c0, h.c1, h.c2, h.c3, HL2.out.b⟩
      have c0 := HL2.out.c0
      have c1 := HL2.out.c1
      have c2 := HL2.out.c2
      have c3 := HL2.out.c3
      have hlt : w1.heap.size < w2.heap.size := (HL1.out.up hb2).lt
      clear HL1 hb2
      go_wp2_with fail
      refine (BK _).mono ?_
      clear BK c0 c1 c2 c3
      rintro e w3 ⟨rfl, hb3⟩
      have HL3 : Hid (LiesW w w1.heap.size x1 x2 x3 x4 w3) := HL2.out.up hb3
      have HM3 : Hid (LiesW w w2.heap.size y1 y2 y3 y4 w3) := HM2.out.up hb3
      have c0 := HL3.out.c0
      have c1 := HL3.out.c1
      have c2 := HL3.out.c2
      have c3 := HL3.out.c3
      have d0 := HM3.out.c0
      have d1 := HM3.out.c1
      have d2 := HM3.out.c2
      have d3 := HM3.out.c3
      clear HL2 HM2 hb3
      have KN := pknown_any
      by_cases g0 : x1 < y1
      · have hnm : n < m := HLS.out.1 (by omega)
        go_wp2_with (first | (go_at_call 16; refine (KN _).mono ?_; rintro e w9 ⟨rfl, hb9⟩))
        go_ret
        exact ⟨rfl, HL3.out.b.trans (hb9.mono HL3.out.b.size)⟩
      have f0 : y1 ≤ x1 := by omega
      clear g0
      by_cases e0 : (x1 == y1) = false
      · have e0' := beq_eq_false_iff_ne.1 e0
        have hnm : m ≤ n := Int.not_lt.1 (fun h => by have := HLS.out.2 h; omega)
        go_wp2_with (first | (go_at_call 16; refine (KN _).mono ?_; rintro e w9 ⟨rfl, hb9⟩))
        go_ret
        exact ⟨rfl, HL3.out.b.trans (hb9.mono HL3.out.b.size)⟩
      obtain rfl : x1 = y1 := by simpa using e0
      clear e0 f0
      by_cases g1 : x2 < y2
      · have hnm : n < m := HLS.out.1 (by omega)
        go_wp2_with (first | (go_at_call 16; refine (KN _).mono ?_; rintro e w9 ⟨rfl, hb9⟩))
        go_ret
        exact ⟨rfl, HL3.out.b.trans (hb9.mono HL3.out.b.size)⟩
      have f1 : y2 ≤ x2 := by omega
      clear g1
      by_cases e1 : (x2 == y2) = false
      · have e1' := beq_eq_false_iff_ne.1 e1
        have hnm : m ≤ n := Int.not_lt.1 (fun h => by have := HLS.out.2 h; omega)
        go_wp2_with (first | (go_at_call 16; refine (KN _).mono ?_; rintro e w9 ⟨rfl, hb9⟩))
        go_ret
        exact ⟨rfl, HL3.out.b.trans (hb9.mono HL3.out.b.size)⟩
      obtain rfl : x2 = y2 := by simpa using e1
      clear e1 f1
      by_cases g2 : x3 < y3
      · have hnm : n < m := HLS.out.1 (by omega)
        go_wp2_with (first | (go_at_call 16; refine (KN _).mono ?_; rintro e w9 ⟨rfl, hb9⟩))
        go_ret
        exact ⟨rfl, HL3.out.b.trans (hb9.mono HL3.out.b.size)⟩
      have f2 : y3 ≤ x3 := by omega
      clear g2
      by_cases e2 : (x3 == y3) = false
      · have e2' := beq_eq_false_iff_ne.1 e2
        have hnm : m ≤ n := Int.not_lt.1 (fun h => by have := HLS.out.2 h; omega)
        go_wp2_with (first | (go_at_call 16; refine (KN _).mono ?_; rintro e w9 ⟨rfl, hb9⟩))
        go_ret
        exact ⟨rfl, HL3.out.b.trans (hb9.mono HL3.out.b.size)⟩
      obtain rfl : x3 = y3 := by simpa using e2
      clear e2 f2
      by_cases g3 : x4 < y4
      · have hnm : n < m := HLS.out.1 (by omega)
        go_wp2_with (first | (go_at_call 16; refine (KN _).mono ?_; rintro e w9 ⟨rfl, hb9⟩))
        go_ret
        exact ⟨rfl, HL3.out.b.trans (hb9.mono HL3.out.b.size)⟩
      have f3 : y4 ≤ x4 := by omega
      clear g3
      have hnm : m ≤ n := Int.not_lt.1 (fun h => by have := HLS.out.2 h; omega)
      go_wp2_with (first | (go_at_call 16; refine (KN _).mono ?_; rintro e w9 ⟨rfl, hb9⟩))
      go_ret
      exact ⟨rfl, HL3.out.b.trans (hb9.mono HL3.out.b.size)⟩
    · rw [ofE_out hm] at O2
      have KN := pknown_any
      clear BK hn hm
      generalize ofD n = x1 at *
      generalize ofA n = x2 at *
      generalize ofB n = x3 at *
      generalize ofC n = x4 at *
      generalize ofD m = y1 at *
      generalize ofA m = y2 at *
      generalize ofB m = y3 at *
      generalize ofC m = y4 at *
      go_enter Try.func5, Try.ntmps5
      go_wp2_with fail
      refine (O1 _).mono ?_
      clear O1
      rintro e w1 ⟨rfl, hb1⟩
      have hb1' := hb1.alloc hb1.size (.cells (wayA x1 x2 x3 x4) 24)
      go_wp2_with fail
      refine (O2 _).mono ?_
      clear O2
      rintro e w2 ⟨rfl, hb2⟩
      have hb3 := hb1'.trans (hb2.mono hb1'.size)
      have hb4 := hb3.alloc hb3.size (.cells (wayA y1 y2 y3 y4) 24)
      clear hb1 hb1' hb2 hb3
      go_wp2_with (first | (go_at_call 16; refine (KN _).mono ?_; rintro e w9 ⟨rfl, hb9⟩))
      go_ret
      exact ⟨rfl, hb4.trans (hb9.mono hb4.size)⟩
  · rw [ofE_out hn] at O1
    have KN := pknown_any
    clear hn
    generalize ofD n = x1 at *
    generalize ofA n = x2 at *
    generalize ofB n = x3 at *
    generalize ofC n = x4 at *
    generalize ofD m = y1 at *
    generalize ofA m = y2 at *
    generalize ofB m = y3 at *
    generalize ofC m = y4 at *
    generalize ofE m = y5 at *
    go_enter Try.func5, Try.ntmps5
    go_wp2_with fail
    refine (O1 _).mono ?_
    clear O1
    rintro e w1 ⟨rfl, hb1⟩
    have hb1' := hb1.alloc hb1.size (.cells (wayA x1 x2 x3 x4) 24)
    go_wp2_with fail
    refine (O2 _).mono ?_
    clear O2
    rintro e w2 ⟨rfl, hb2⟩
    have hb3 := hb1'.trans (hb2.mono hb1'.size)
    have hb4 := hb3.alloc hb3.size (.cells (wayA y1 y2 y3 y4) 24)
    clear hb1 hb1' hb2 hb3
    go_wp2_with (first | (go_at_call 16; refine (KN _).mono ?_; rintro e w9 ⟨rfl, hb9⟩))
    go_ret
    exact ⟨rfl, hb4.trans (hb9.mono hb4.size)⟩
end Go.Proofs.Ytohidgfeainlfaa
