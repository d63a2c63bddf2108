/- Package ptr: within, Of, and the document's Of. -/
import Derived.Test.YtohidgfeainlfaaHeld
namespace Go.Proofs.Ytohidgfeainlfaa
open Go.RowKit
/-- The parts of the way to the n-th block. -/
def ofD (n : Int) : Int := if 0 ≤ n ∧ n ≤ 4165 then (if n < 6 then 0 else if n < 70 then 1 else 2) else 0
def ofA (n : Int) : Int := if 0 ≤ n ∧ n < 6 then n else 0
def ofB (n : Int) : Int := if 0 ≤ n ∧ n ≤ 4165 then (if n < 6 then 0 else if n < 70 then n - 6 else (n - 70) / 64) else 0
def ofC (n : Int) : Int := if 0 ≤ n ∧ n ≤ 4165 then (if n < 70 then 0 else (n - 70) % 64) else 0
def ofE (n : Int) : Int := if 0 ≤ n ∧ n ≤ 4165 then 0 else 28
abbrev wayA (d a b c : Int) : Array Value := #[.int .i64 d, .int .i64 a, .int .i64 b, .int .i64 c]
theorem retW {d d' a a' b b' c c' e e' : Int} (hd : d = d') (ha : a = a') (hb : b = b') (hc : c = c') (he : e = e') :
    Ending.returned (.tuple #[.agg (wayA d a b c), .int .i64 e]) = .returned (.tuple #[.agg (wayA d' a' b' c'), .int .i64 e']) := by rw [hd, ha, hb, hc, he]
theorem ret2' {x x' y y' : Int} (hx : x' = x) (hy : y' = y) : Ending.returned (.tuple #[.int .i64 x', .int .i64 y']) = .returned (.tuple #[.int .i64 x, .int .i64 y]) := by rw [hx, hy]
def wiB (n l m : Int) : Bool := decide (l ≤ n ∧ n ≤ m)
theorem wi_no {n l m : Int} (h : ¬ (l ≤ n ∧ n ≤ m)) : wiB n l m = false := decide_eq_false h
theorem wi_ok {n l m : Int} (h : l ≤ n ∧ n ≤ m) : wiB n l m = true := decide_eq_true h
theorem Try.szW : (Try.prog.info? 24).map (·.size) = some 4 := by kernel_rfl
theorem Try.szR : (Try.prog.info? 23).map (·.size) = some 4 := by kernel_rfl
theorem results_way {fn : Func} {q u : Tmp} (h : fn.results = #[.cell q 24, .tmp u]) (tmps : Array Value) (w : World) (p : Nat) (d a b c : Int) (H : w.heap[p]? = some (.cells (wayA d a b c) 24 (0, 0))) (hp : tmps.getD q undef = .pointer (some ⟨p, 0, none⟩)) :
    (results fn tmps).run Try.prog w = .ok (.tuple #[.agg (wayA d a b c), tmps.getD u undef]) w := by
  rw [results_cell_tmp h, hp]
  simp [asAddr, run_loadVar_row w p 24 24 _ _ _ H Try.underlying24 rfl Try.szW, Result.andThen]
theorem results_rway {fn : Func} {q u : Tmp} (h : fn.results = #[.cell q 23, .tmp u]) (tmps : Array Value) (w : World) (p : Nat) (d a b c : Int) (H : w.heap[p]? = some (.cells (wayA d a b c) 23 (0, 0))) (hp : tmps.getD q undef = .pointer (some ⟨p, 0, none⟩)) :
    (results fn tmps).run Try.prog w = .ok (.tuple #[.agg (wayA d a b c), tmps.getD u undef]) w := by
  rw [results_cell_tmp h, hp]
  simp [asAddr, run_loadVar_row w p 23 23 _ _ _ H Try.underlying23 rfl Try.szR, Result.andThen]
set_option maxHeartbeats 1000000 in
theorem within_any (n l m : Int) (w : World) :
    Calls Try.prog 25 #[.int .i64 n, .int .i64 l, .int .i64 m] w fun e w' => e = .returned (.bool (wiB n l m)) ∧ w' = w := by
  by_cases h1 : n < l
  · go_enter Try.func25, Try.ntmps25
    go_wp2
    go_ret
    exact ⟨ret_bool (wi_no (by omega)).symm, rfl⟩
  by_cases h2 : m < n
  · go_enter Try.func25, Try.ntmps25
    go_wp2
    go_ret
    exact ⟨ret_bool (by rw [wi_no (by omega)]; exact decide_eq_false (by omega)), rfl⟩
  go_enter Try.func25, Try.ntmps25
  go_wp2
  go_ret
  exact ⟨ret_bool (wi_ok (by omega)).symm, rfl⟩
set_option maxHeartbeats 1000000 in
theorem within64_any (n l m : Int) (w : World) :
    Calls Try.prog 26 #[.int .i64 n, .int .i64 l, .int .i64 m] w fun e w' => e = .returned (.bool (wiB n l m)) ∧ w' = w := by
  by_cases h1 : n < l
  · go_enter Try.func26, Try.ntmps26
    go_wp2
    go_ret
    exact ⟨ret_bool (wi_no (by omega)).symm, rfl⟩
  by_cases h2 : m < n
  · go_enter Try.func26, Try.ntmps26
    go_wp2
    go_ret
    exact ⟨ret_bool (by rw [wi_no (by omega)]; exact decide_eq_false (by omega)), rfl⟩
  go_enter Try.func26, Try.ntmps26
  go_wp2
  go_ret
  exact ⟨ret_bool (wi_ok (by omega)).symm, rfl⟩
theorem within_no {n l m : Int} (h : ¬ (l ≤ n ∧ n ≤ m)) (w : World) : Calls Try.prog 25 #[.int .i64 n, .int .i64 l, .int .i64 m] w fun e w' => e = .returned (.bool false) ∧ w' = w := by
  have := within_any n l m w; rw [wi_no h] at this; exact this
theorem within_ok {n l m : Int} (h : l ≤ n ∧ n ≤ m) (w : World) : Calls Try.prog 25 #[.int .i64 n, .int .i64 l, .int .i64 m] w fun e w' => e = .returned (.bool true) ∧ w' = w := by
  have := within_any n l m w; rw [wi_ok h] at this; exact this
theorem within64_no {n l m : Int} (h : ¬ (l ≤ n ∧ n ≤ m)) (w : World) : Calls Try.prog 26 #[.int .i64 n, .int .i64 l, .int .i64 m] w fun e w' => e = .returned (.bool false) ∧ w' = w := by
  have := within64_any n l m w; rw [wi_no h] at this; exact this
theorem within64_ok {n l m : Int} (h : l ≤ n ∧ n ≤ m) (w : World) : Calls Try.prog 26 #[.int .i64 n, .int .i64 l, .int .i64 m] w fun e w' => e = .returned (.bool true) ∧ w' = w := by
  have := within64_any n l m w; rw [wi_ok h] at this; exact this
abbrev Pos0 (x : Int) : Prop := Nonempty (0 ≤ x)
set_option maxHeartbeats 1000000 in
theorem of_any (n : Int) (w : World) :
    Calls Try.prog 6 #[.int .i64 n] w fun e w' => e = .returned (.tuple #[.agg (wayA (ofD n) (ofA n) (ofB n) (ofC n)), .int .i64 (ofE n)]) ∧ Below w.heap.size w w' := by
  by_cases h0 : 0 ≤ n ∧ n ≤ 4165
  · have WI := within_ok h0
    by_cases h1 : n < 6
    · have h0' : 0 ≤ n := h0.1
      go_enter Try.func6, Try.ntmps6
      go_wp2_with (first | (go_at_call 25; refine (WI _).mono ?_; rintro e w1 ⟨rfl, rfl⟩))
      refine bodyPost_ret (results_way rfl _ _ w.heap.size 0 n 0 0 (heap_alloc_new _ _) rfl) rfl ?_
      exact ⟨retW (by simp only [ofD]; rw [if_pos (by omega), if_pos (by omega)]) (by simp only [ofA]; rw [if_pos (by omega)]) (by simp only [ofB]; rw [if_pos (by omega), if_pos (by omega)]) (by simp only [ofC]; rw [if_pos (by omega), if_pos (by omega)]) (by simp only [ofE]; rw [if_pos (by omega)]), (Below.refl _ _).alloc (Nat.le_refl _) _⟩
    by_cases h2 : n < 70
    · have h0' : 0 ≤ n := h0.1
      go_enter Try.func6, Try.ntmps6
      go_wp2_with (first | (go_at_call 25; refine (WI _).mono ?_; rintro e w1 ⟨rfl, rfl⟩))
      refine bodyPost_ret (results_way rfl _ _ w.heap.size 1 0 (n - 6) 0 (heap_alloc_new _ _) rfl) rfl ?_
      exact ⟨retW (by simp only [ofD]; rw [if_pos (by omega), if_neg (by omega), if_pos (by omega)]) (by simp only [ofA]; rw [if_neg (by omega)]) (by simp only [ofB]; rw [if_pos (by omega), if_neg (by omega), if_pos (by omega)]) (by simp only [ofC]; rw [if_pos (by omega), if_pos (by omega)]) (by simp only [ofE]; rw [if_pos (by omega)]), (Below.refl _ _).alloc (Nat.le_refl _) _⟩
    have h3 := h0.2
    go_enter Try.func6, Try.ntmps6
    go_wp2_with (first | (go_at_call 25; refine (WI _).mono ?_; rintro e w1 ⟨rfl, rfl⟩))
    refine bodyPost_ret (results_way rfl _ _ w.heap.size 2 0 ((n - 70) / 64) ((n - 70) % 64) (heap_alloc_new _ _) rfl) rfl ?_
    exact ⟨retW (by simp only [ofD]; rw [if_pos (by omega), if_neg (by omega), if_neg (by omega)]) (by simp only [ofA]; rw [if_neg (by omega)]) (by simp only [ofB]; rw [if_pos (by omega), if_neg (by omega), if_neg (by omega)]) (by simp only [ofC]; rw [if_pos (by omega), if_neg (by omega)]) (by simp only [ofE]; rw [if_pos (by omega)]), (Below.refl _ _).alloc (Nat.le_refl _) _⟩
  · have WI := within_no h0
    go_enter Try.func6, Try.ntmps6
    go_wp2_with (first | (go_at_call 25; refine (WI _).mono ?_; rintro e w1 ⟨rfl, rfl⟩))
    refine bodyPost_ret (results_way rfl _ _ w.heap.size 0 0 0 0 (heap_alloc_new _ _) rfl) rfl ?_
    exact ⟨retW (by simp only [ofD]; rw [if_neg (by omega)]) (by simp only [ofA]; rw [if_neg (by omega)]) (by simp only [ofB]; rw [if_neg (by omega)]) (by simp only [ofC]; rw [if_neg (by omega)]) (by simp only [ofE]; rw [if_neg (by omega)]), (Below.refl _ _).alloc (Nat.le_refl _) _⟩
set_option maxHeartbeats 1000000 in
theorem rof_any (n : Int) (w : World) :
    Calls Try.prog 7 #[.int .i64 n] w fun e w' => e = .returned (.tuple #[.agg (wayA (ofD n) (ofA n) (ofB n) (ofC n)), .int .i64 (ofE n)]) ∧ Below w.heap.size w w' := by
  by_cases h0 : 0 ≤ n ∧ n ≤ 4165
  · by_cases h1 : n < 6
    · have h0' : 0 ≤ n := h0.1
      go_enter Try.func7, Try.ntmps7
      go_wp2
      refine bodyPost_ret (results_rway rfl _ _ w.heap.size 0 n 0 0 (heap_alloc_new _ _) rfl) rfl ?_
      exact ⟨retW (by simp only [ofD]; rw [if_pos (by omega), if_pos (by omega)]) (by simp only [ofA]; rw [if_pos (by omega)]) (by simp only [ofB]; rw [if_pos (by omega), if_pos (by omega)]) (by simp only [ofC]; rw [if_pos (by omega), if_pos (by omega)]) (by simp only [ofE]; rw [if_pos (by omega)]), (Below.refl _ _).alloc (Nat.le_refl _) _⟩
    by_cases h2 : n < 70
    · have h0' : 0 ≤ n := h0.1
      go_enter Try.func7, Try.ntmps7
      go_wp2
      refine bodyPost_ret (results_rway rfl _ _ w.heap.size 1 0 (n - 6) 0 (heap_alloc_new _ _) rfl) rfl ?_
      exact ⟨retW (by simp only [ofD]; rw [if_pos (by omega), if_neg (by omega), if_pos (by omega)]) (by simp only [ofA]; rw [if_neg (by omega)]) (by simp only [ofB]; rw [if_pos (by omega), if_neg (by omega), if_pos (by omega)]) (by simp only [ofC]; rw [if_pos (by omega), if_pos (by omega)]) (by simp only [ofE]; rw [if_pos (by omega)]), (Below.refl _ _).alloc (Nat.le_refl _) _⟩
    have h3 := h0.2
    go_enter Try.func7, Try.ntmps7
    go_wp2
    refine bodyPost_ret (results_rway rfl _ _ w.heap.size 2 0 ((n - 70) / 64) ((n - 70) % 64) (heap_alloc_new _ _) rfl) rfl ?_
    exact ⟨retW (by simp only [ofD]; rw [if_pos (by omega), if_neg (by omega), if_neg (by omega)]) (by simp only [ofA]; rw [if_neg (by omega)]) (by simp only [ofB]; rw [if_pos (by omega), if_neg (by omega), if_neg (by omega)]) (by simp only [ofC]; rw [if_pos (by omega), if_neg (by omega)]) (by simp only [ofE]; rw [if_pos (by omega)]), (Below.refl _ _).alloc (Nat.le_refl _) _⟩
  · by_cases h1 : n < 0
    · go_enter Try.func7, Try.ntmps7
      go_wp2
      refine bodyPost_ret (results_rway rfl _ _ w.heap.size 0 0 0 0 (heap_alloc_new _ _) rfl) rfl ?_
      exact ⟨retW (by simp only [ofD]; rw [if_neg (by omega)]) (by simp only [ofA]; rw [if_neg (by omega)]) (by simp only [ofB]; rw [if_neg (by omega)]) (by simp only [ofC]; rw [if_neg (by omega)]) (by simp only [ofE]; rw [if_neg (by omega)]), (Below.refl _ _).alloc (Nat.le_refl _) _⟩
    have h2 : 4166 ≤ n := by omega
    go_enter Try.func7, Try.ntmps7
    go_wp2
    refine bodyPost_ret (results_rway rfl _ _ w.heap.size 0 0 0 0 (heap_alloc_new _ _) rfl) rfl ?_
    exact ⟨retW (by simp only [ofD]; rw [if_neg (by omega)]) (by simp only [ofA]; rw [if_neg (by omega)]) (by simp only [ofB]; rw [if_neg (by omega)]) (by simp only [ofC]; rw [if_neg (by omega)]) (by simp only [ofE]; rw [if_neg (by omega)]), (Below.refl _ _).alloc (Nat.le_refl _) _⟩
end Go.Proofs.Ytohidgfeainlfaa
