/- Package ptr: Back, and the document's. -/
import Derived.Test.YtohidgfeainlfaaWay
namespace Go.Proofs.Ytohidgfeainlfaa
open Go.RowKit
/-- A way that can be, and the block that it comes to. -/
def bkB (d a b c : Int) : Bool := decide ((d = 0 ∧ 0 ≤ a ∧ a < 6 ∧ b = 0 ∧ c = 0) ∨ (d = 1 ∧ a = 0 ∧ 0 ≤ b ∧ b < 64 ∧ c = 0) ∨ (d = 2 ∧ a = 0 ∧ 0 ≤ b ∧ b < 64 ∧ 0 ≤ c ∧ c < 64))
abbrev bkOk (d a b c : Int) : Prop := bkB d a b c = true
theorem bkOk_iff {d a b c : Int} : bkOk d a b c ↔ ((d = 0 ∧ 0 ≤ a ∧ a < 6 ∧ b = 0 ∧ c = 0) ∨ (d = 1 ∧ a = 0 ∧ 0 ≤ b ∧ b < 64 ∧ c = 0) ∨ (d = 2 ∧ a = 0 ∧ 0 ≤ b ∧ b < 64 ∧ 0 ≤ c ∧ c < 64)) := decide_eq_true_iff
def bkN (d a b c : Int) : Int := if d = 1 then 6 + b else if d = 2 then 70 + b * 64 + c else a
def bkV (d a b c : Int) : Int := if bkOk d a b c then bkN d a b c else 0
def bkE (d a b c : Int) : Int := if bkOk d a b c then 0 else 1
/-- Is it the way to n? -/
def isW (n d a b c : Int) : Bool := ofD n == d && (ofA n == a && (ofB n == b && (ofC n == c && true)))
theorem isW_iff {n d a b c : Int} : isW n d a b c = true ↔ ofD n = d ∧ ofA n = a ∧ ofB n = b ∧ ofC n = c := by simp [isW]
theorem of_lo {n : Int} (h0 : 0 ≤ n) (h1 : n < 6) : ofD n = 0 ∧ ofA n = n ∧ ofB n = 0 ∧ ofC n = 0 := by
  have h : 0 ≤ n ∧ n ≤ 4165 := by omega
  have h2 : n < 70 := by omega
  simp only [ofD, ofA, ofB, ofC, if_pos h, if_pos h1, if_pos h2, if_pos (show 0 ≤ n ∧ n < 6 from ⟨h0, h1⟩), and_self]
theorem of_mid {n : Int} (h0 : 6 ≤ n) (h1 : n < 70) : ofD n = 1 ∧ ofA n = 0 ∧ ofB n = n - 6 ∧ ofC n = 0 := by
  have h : 0 ≤ n ∧ n ≤ 4165 := by omega
  have h2 : ¬ n < 6 := by omega
  simp only [ofD, ofA, ofB, ofC, if_pos h, if_neg h2, if_pos h1, if_neg (show ¬ (0 ≤ n ∧ n < 6) from fun c => h2 c.2), and_self]
theorem of_hi {n : Int} (h0 : 70 ≤ n) (h1 : n ≤ 4165) : ofD n = 2 ∧ ofA n = 0 ∧ ofB n = (n - 70) / 64 ∧ ofC n = (n - 70) % 64 := by
  have h : 0 ≤ n ∧ n ≤ 4165 := by omega
  have h2 : ¬ n < 6 := by omega
  have h3 : ¬ n < 70 := by omega
  simp only [ofD, ofA, ofB, ofC, if_pos h, if_neg h2, if_neg h3, if_neg (show ¬ (0 ≤ n ∧ n < 6) from fun c => h2 c.2), and_self]
theorem way_ok {n d a b c : Int} (h : 0 ≤ n ∧ n ≤ 4165) (hw : isW n d a b c = true) : bkOk d a b c ∧ n = bkN d a b c := by
  rw [isW_iff] at hw
  rw [bkOk_iff, bkN]
  by_cases h1 : n < 6
  · obtain ⟨e1, e2, e3, e4⟩ := of_lo h.1 h1
    rw [e1, e2, e3, e4] at hw
    obtain ⟨rfl, rfl, rfl, rfl⟩ := hw
    refine ⟨by omega, ?_⟩
    rw [if_neg (by omega), if_neg (by omega)]
  · by_cases h2 : n < 70
    · obtain ⟨e1, e2, e3, e4⟩ := of_mid (by omega) h2
      rw [e1, e2, e3, e4] at hw
      obtain ⟨rfl, rfl, rfl, rfl⟩ := hw
      refine ⟨by omega, ?_⟩
      rw [if_pos rfl]; omega
    · obtain ⟨e1, e2, e3, e4⟩ := of_hi (by omega) h.2
      rw [e1, e2, e3, e4] at hw
      obtain ⟨rfl, rfl, rfl, rfl⟩ := hw
      refine ⟨by omega, ?_⟩
      rw [if_neg (by omega), if_pos rfl]; omega
theorem ok_way {d a b c : Int} (h : bkOk d a b c) : (0 ≤ bkN d a b c ∧ bkN d a b c ≤ 4165) ∧ ofD (bkN d a b c) = d ∧ ofA (bkN d a b c) = a ∧ ofB (bkN d a b c) = b ∧ ofC (bkN d a b c) = c := by
  rw [bkOk_iff] at h
  rw [bkN]
  rcases h with ⟨rfl, h1, h2, rfl, rfl⟩ | ⟨rfl, rfl, h1, h2, rfl⟩ | ⟨rfl, rfl, h1, h2, h3, h4⟩
  · rw [if_neg (by omega), if_neg (by omega)]
    exact ⟨by omega, of_lo h1 h2⟩
  · rw [if_pos rfl]
    obtain ⟨e1, e2, e3, e4⟩ := of_mid (n := 6 + b) (by omega) (by omega)
    exact ⟨by omega, e1, e2, by omega, e4⟩
  · rw [if_neg (by omega), if_pos rfl]
    obtain ⟨e1, e2, e3, e4⟩ := of_hi (n := 70 + b * 64 + c) (by omega) (by omega)
    exact ⟨by omega, e1, e2, by omega, by omega⟩
theorem no_way {n d a b c : Int} (h : 0 ≤ n ∧ n ≤ 4165) (hb : ¬ bkOk d a b c) : isW n d a b c = false := by
  rw [← Bool.not_eq_true]; exact fun hw => hb (way_ok h hw).1
theorem ofE_in {n : Int} (h : 0 ≤ n ∧ n ≤ 4165) : ofE n = 0 := if_pos h
theorem ofE_out {n : Int} (h : ¬ (0 ≤ n ∧ n ≤ 4165)) : ofE n = 28 := if_neg h
/-- A call of Of at N, and the shape of the answer. -/
theorem of_okc {n d a b c : Int} (h : bkOk d a b c) (hn : n = bkN d a b c) (w : World) :
    Calls Try.prog 6 #[.int .i64 n] w fun e w' => e = .returned (.tuple #[.agg (wayA d a b c), .int .i64 0]) ∧ Below w.heap.size w w' := by
  subst hn
  obtain ⟨h0, e1, e2, e3, e4⟩ := ok_way h
  have := of_any (bkN d a b c) w
  rw [e1, e2, e3, e4, ofE_in h0] at this
  exact this
theorem of_badc {d a b c : Int} (n : Int) (h : ¬ bkOk d a b c) (w : World) :
    Calls Try.prog 6 #[.int .i64 n] w fun e w' => ∃ x1 x2 x3 x4 y, e = .returned (.tuple #[.agg (wayA x1 x2 x3 x4), .int .i64 y]) ∧ Below w.heap.size w w' ∧ (y ≠ 0 ∨ y = 0 ∧ (x1 == d && (x2 == a && (x3 == b && x4 == c))) = false) := by
  refine (of_any n w).mono ?_
  rintro e w' ⟨rfl, hb⟩
  refine ⟨_, _, _, _, _, rfl, hb, ?_⟩
  by_cases h0 : 0 ≤ n ∧ n ≤ 4165
  · refine .inr ⟨ofE_in h0, ?_⟩
    have := no_way h0 h
    rw [isW, Bool.and_true] at this; exact this
  · refine .inl ?_
    rw [ofE_out h0]; decide
set_option maxHeartbeats 1000000 in
theorem back_any (d a b c : Int) (w : World) :
    Calls Try.prog 8 #[.agg (wayA d a b c)] w fun e w' => e = .returned (.tuple #[.int .i64 (bkV d a b c), .int .i64 (bkE d a b c)]) ∧ Below w.heap.size w w' := by
  have hb : Below w.heap.size w (w.alloc (.cells (wayA d a b c) 24)) := (Below.refl _ _).alloc (Nat.le_refl _) _
  by_cases hok : bkOk d a b c
  · have h := bkOk_iff.1 hok
    rcases h with ⟨rfl, h1, h2, rfl, rfl⟩ | ⟨rfl, rfl, h1, h2, rfl⟩ | ⟨rfl, rfl, h1, h2, h3, h4⟩
    · have OF := of_okc hok rfl
      rw [show bkN 0 a 0 0 = a from ?bn] at OF
      case bn => simp [bkN]
      have e1 : bkV 0 a 0 0 = a := by rw [bkV, if_pos hok]; simp [bkN]
      have e2 : bkE 0 a 0 0 = 0 := if_pos hok
      rw [e1, e2]
      go_enter Try.func8, Try.ntmps8
      go_wp2_with fail
      refine (OF _).mono ?_
      clear OF e1 e2 hok
      rintro e w1 ⟨rfl, hb1⟩
      have c0 : w1.cell? ⟨w.heap.size, 0, none⟩ = some (.int .i64 0) := (hb1.cell (p := ⟨w.heap.size, 0, none⟩) (by simp)).trans (by go_simp)
      have c1 : w1.cell? ⟨w.heap.size, 1, none⟩ = some (.int .i64 a) := (hb1.cell (p := ⟨w.heap.size, 1, none⟩) (by simp)).trans (by go_simp)
      have c2 : w1.cell? ⟨w.heap.size, 2, none⟩ = some (.int .i64 0) := (hb1.cell (p := ⟨w.heap.size, 2, none⟩) (by simp)).trans (by go_simp)
      have c3 : w1.cell? ⟨w.heap.size, 3, none⟩ = some (.int .i64 0) := (hb1.cell (p := ⟨w.heap.size, 3, none⟩) (by simp)).trans (by go_simp)
      have hlt : w.heap.size < w1.heap.size := block_lt_of_cell c0
      have hb2 := hb.trans (hb1.mono (by simp))
      have hb3 : ∀ o, Below w.heap.size w (w1.alloc o) := fun o => hb2.alloc (by have := hb2.size; omega) _
      clear hb1
      go_wp2
      go_ret2
      exact ⟨ret2' rfl rfl, hb3 _⟩
    · have OF := of_okc hok rfl
      rw [show bkN 1 0 b 0 = 6 + b from ?bn] at OF
      case bn => simp [bkN]
      have e1 : bkV 1 0 b 0 = 6 + b := by rw [bkV, if_pos hok]; simp [bkN]
      have e2 : bkE 1 0 b 0 = 0 := if_pos hok
      rw [e1, e2]
      go_enter Try.func8, Try.ntmps8
      go_wp2_with fail
      refine (OF _).mono ?_
      clear OF e1 e2 hok
      rintro e w1 ⟨rfl, hb1⟩
      have c0 : w1.cell? ⟨w.heap.size, 0, none⟩ = some (.int .i64 1) := (hb1.cell (p := ⟨w.heap.size, 0, none⟩) (by simp)).trans (by go_simp)
      have c1 : w1.cell? ⟨w.heap.size, 1, none⟩ = some (.int .i64 0) := (hb1.cell (p := ⟨w.heap.size, 1, none⟩) (by simp)).trans (by go_simp)
      have c2 : w1.cell? ⟨w.heap.size, 2, none⟩ = some (.int .i64 b) := (hb1.cell (p := ⟨w.heap.size, 2, none⟩) (by simp)).trans (by go_simp)
      have c3 : w1.cell? ⟨w.heap.size, 3, none⟩ = some (.int .i64 0) := (hb1.cell (p := ⟨w.heap.size, 3, none⟩) (by simp)).trans (by go_simp)
      have hlt : w.heap.size < w1.heap.size := block_lt_of_cell c0
      have hb2 := hb.trans (hb1.mono (by simp))
      have hb3 : ∀ o, Below w.heap.size w (w1.alloc o) := fun o => hb2.alloc (by have := hb2.size; omega) _
      clear hb1
      go_wp2
      go_ret2
      exact ⟨ret2' rfl rfl, hb3 _⟩
    · have OF := of_okc hok rfl
      rw [show bkN 2 0 b c = 70 + b * 64 + c from ?bn] at OF
      case bn => simp [bkN]
      have e1 : bkV 2 0 b c = 70 + b * 64 + c := by rw [bkV, if_pos hok]; simp [bkN]
      have e2 : bkE 2 0 b c = 0 := if_pos hok
      rw [e1, e2]
      go_enter Try.func8, Try.ntmps8
      go_wp2_with fail
      refine (OF _).mono ?_
      clear OF e1 e2 hok
      rintro e w1 ⟨rfl, hb1⟩
      have c0 : w1.cell? ⟨w.heap.size, 0, none⟩ = some (.int .i64 2) := (hb1.cell (p := ⟨w.heap.size, 0, none⟩) (by simp)).trans (by go_simp)
      have c1 : w1.cell? ⟨w.heap.size, 1, none⟩ = some (.int .i64 0) := (hb1.cell (p := ⟨w.heap.size, 1, none⟩) (by simp)).trans (by go_simp)
      have c2 : w1.cell? ⟨w.heap.size, 2, none⟩ = some (.int .i64 b) := (hb1.cell (p := ⟨w.heap.size, 2, none⟩) (by simp)).trans (by go_simp)
      have c3 : w1.cell? ⟨w.heap.size, 3, none⟩ = some (.int .i64 c) := (hb1.cell (p := ⟨w.heap.size, 3, none⟩) (by simp)).trans (by go_simp)
      have hlt : w.heap.size < w1.heap.size := block_lt_of_cell c0
      have hb2 := hb.trans (hb1.mono (by simp))
      have hb3 : ∀ o, Below w.heap.size w (w1.alloc o) := fun o => hb2.alloc (by have := hb2.size; omega) _
      clear hb1
      go_wp2
      go_ret2
      exact ⟨ret2' rfl rfl, hb3 _⟩
  · by_cases h1 : d = 1
    · subst h1
      have OF := fun n => of_badc n hok
      go_enter Try.func8, Try.ntmps8
      go_wp2_with fail
      refine (OF _ _).mono ?_
      clear OF
      rintro e w1 ⟨x1, x2, x3, x4, y, rfl, hb1, hy⟩
      have c0 : w1.cell? ⟨w.heap.size, 0, none⟩ = some (.int .i64 1) := (hb1.cell (p := ⟨w.heap.size, 0, none⟩) (by simp)).trans (by go_simp)
      have c1 : w1.cell? ⟨w.heap.size, 1, none⟩ = some (.int .i64 a) := (hb1.cell (p := ⟨w.heap.size, 1, none⟩) (by simp)).trans (by go_simp)
      have c2 : w1.cell? ⟨w.heap.size, 2, none⟩ = some (.int .i64 b) := (hb1.cell (p := ⟨w.heap.size, 2, none⟩) (by simp)).trans (by go_simp)
      have c3 : w1.cell? ⟨w.heap.size, 3, none⟩ = some (.int .i64 c) := (hb1.cell (p := ⟨w.heap.size, 3, none⟩) (by simp)).trans (by go_simp)
      have hlt : w.heap.size < w1.heap.size := block_lt_of_cell c0
      have hb2 := hb.trans (hb1.mono (by simp))
      have hb3 : ∀ o, Below w.heap.size w (w1.alloc o) := fun o => hb2.alloc (by have := hb2.size; omega) _
      clear hb1
      rcases hy with hy | ⟨rfl, hy⟩
      · try (have hy2 := beq_eq_false_iff_ne.2 hy)
        go_wp2
        go_ret2
        exact ⟨ret2' (if_neg hok).symm (if_neg hok).symm, hb3 _⟩
      · try (have hy2 := beq_eq_false_iff_ne.2 hy)
        go_wp2
        all_goals first
          | (exfalso; simp_all; done)
          | (go_ret2; exact ⟨ret2' (if_neg hok).symm (if_neg hok).symm, hb3 _⟩)
    have h1' : (d == 1) = false := beq_eq_false_iff_ne.2 h1
    by_cases h2 : d = 2
    · subst h2
      clear h1 h1'
      have OF := fun n => of_badc n hok
      go_enter Try.func8, Try.ntmps8
      go_wp2_with fail
      refine (OF _ _).mono ?_
      clear OF
      rintro e w1 ⟨x1, x2, x3, x4, y, rfl, hb1, hy⟩
      have c0 : w1.cell? ⟨w.heap.size, 0, none⟩ = some (.int .i64 2) := (hb1.cell (p := ⟨w.heap.size, 0, none⟩) (by simp)).trans (by go_simp)
      have c1 : w1.cell? ⟨w.heap.size, 1, none⟩ = some (.int .i64 a) := (hb1.cell (p := ⟨w.heap.size, 1, none⟩) (by simp)).trans (by go_simp)
      have c2 : w1.cell? ⟨w.heap.size, 2, none⟩ = some (.int .i64 b) := (hb1.cell (p := ⟨w.heap.size, 2, none⟩) (by simp)).trans (by go_simp)
      have c3 : w1.cell? ⟨w.heap.size, 3, none⟩ = some (.int .i64 c) := (hb1.cell (p := ⟨w.heap.size, 3, none⟩) (by simp)).trans (by go_simp)
      have hlt : w.heap.size < w1.heap.size := block_lt_of_cell c0
      have hb2 := hb.trans (hb1.mono (by simp))
      have hb3 : ∀ o, Below w.heap.size w (w1.alloc o) := fun o => hb2.alloc (by have := hb2.size; omega) _
      clear hb1
      rcases hy with hy | ⟨rfl, hy⟩
      · try (have hy2 := beq_eq_false_iff_ne.2 hy)
        go_wp2
        go_ret2
        exact ⟨ret2' (if_neg hok).symm (if_neg hok).symm, hb3 _⟩
      · try (have hy2 := beq_eq_false_iff_ne.2 hy)
        go_wp2
        all_goals first
          | (exfalso; simp_all; done)
          | (go_ret2; exact ⟨ret2' (if_neg hok).symm (if_neg hok).symm, hb3 _⟩)
    have h2' : (d == 2) = false := beq_eq_false_iff_ne.2 h2
    have OF := fun n => of_badc n hok
    go_enter Try.func8, Try.ntmps8
    go_wp2_with fail
    refine (OF _ _).mono ?_
    clear OF
    rintro e w1 ⟨x1, x2, x3, x4, y, rfl, hb1, hy⟩
    have c0 : w1.cell? ⟨w.heap.size, 0, none⟩ = some (.int .i64 d) := (hb1.cell (p := ⟨w.heap.size, 0, none⟩) (by simp)).trans (by go_simp)
    have c1 : w1.cell? ⟨w.heap.size, 1, none⟩ = some (.int .i64 a) := (hb1.cell (p := ⟨w.heap.size, 1, none⟩) (by simp)).trans (by go_simp)
    have c2 : w1.cell? ⟨w.heap.size, 2, none⟩ = some (.int .i64 b) := (hb1.cell (p := ⟨w.heap.size, 2, none⟩) (by simp)).trans (by go_simp)
    have c3 : w1.cell? ⟨w.heap.size, 3, none⟩ = some (.int .i64 c) := (hb1.cell (p := ⟨w.heap.size, 3, none⟩) (by simp)).trans (by go_simp)
    have hlt : w.heap.size < w1.heap.size := block_lt_of_cell c0
    have hb2 := hb.trans (hb1.mono (by simp))
    have hb3 : ∀ o, Below w.heap.size w (w1.alloc o) := fun o => hb2.alloc (by have := hb2.size; omega) _
    clear hb1
    rcases hy with hy | ⟨rfl, hy⟩
    · try (have hy2 := beq_eq_false_iff_ne.2 hy)
      go_wp2
      go_ret2
      exact ⟨ret2' (if_neg hok).symm (if_neg hok).symm, hb3 _⟩
    · try (have hy2 := beq_eq_false_iff_ne.2 hy)
      go_wp2
      all_goals first
        | (exfalso; simp_all; done)
        | (go_ret2; exact ⟨ret2' (if_neg hok).symm (if_neg hok).symm, hb3 _⟩)
end Go.Proofs.Ytohidgfeainlfaa
