/- Rows of bits, as plain mathematics: how many are set, the first one that is not, rows that are not. No statement of the seat is proved here. -/
import Derived.Test.YtfbbdpapnegmcaaBase
namespace Go.Proofs.Ytfbbdpapnegmcaa
/-- The bit i of a map of bytes; false of one that is not there. -/
def gb (l : List UInt8) (i : Nat) : Bool := (l.getD (i / 8) 0).toNat.testBit (i % 8)
theorem gb_out (l : List UInt8) (i : Nat) (h : 8 * l.length ≤ i) : gb l i = false := by
  unfold gb
  have : l.length ≤ i / 8 := by omega
  simp [List.getD, List.getElem?_eq_none this]
/-- How many of the first m are set. -/
def cnt (f : Nat → Bool) : Nat → Nat
  | 0 => 0
  | k + 1 => cnt f k + (if f k then 1 else 0)
theorem cnt_le (f : Nat → Bool) : ∀ m, cnt f m ≤ m
  | 0 => Nat.le_refl _
  | k + 1 => by have := cnt_le f k; simp only [cnt]; split <;> omega
theorem cnt_full (f : Nat → Bool) : ∀ m, cnt f m = m ↔ ∀ i, i < m → f i = true
  | 0 => by simp [cnt]
  | k + 1 => by
    have ih := cnt_full f k
    have hl := cnt_le f k
    simp only [cnt]
    constructor
    · intro h i hi
      split at h
      · rename_i hk
        by_cases e : i = k
        · rw [e]; exact hk
        · exact ih.1 (by omega) i (by omega)
      · omega
    · intro h
      rw [if_pos (h k (by omega)), ih.2 (fun i hi => h i (by omega))]
/-- What First tells: the first one that is not set, from fr on; else ahead of it; -1. -/
def IsFirst (f : Nat → Bool) (m fr : Nat) (r : Int) : Prop :=
  (r = -1 ∧ ∀ i, i < m → f i = true) ∨
  ∃ k : Nat, r = k ∧ k < m ∧ f k = false ∧ ((fr ≤ k ∧ ∀ j, fr ≤ j → j < k → f j = true) ∨ (k < fr ∧ (∀ j, fr ≤ j → j < m → f j = true) ∧ ∀ j, j < k → f j = true))
theorem IsFirst.same {f : Nat → Bool} {m fr : Nat} {r s : Int} (h : IsFirst f m fr r) (g : IsFirst f m fr s) : r = s := by
  have no : ∀ {k : Nat}, f k = true → f k = false → False := fun a b => by rw [a] at b; cases b
  rcases h with ⟨rfl, h⟩ | ⟨k, rfl, hk, fk, hh⟩
  · rcases g with ⟨rfl, _⟩ | ⟨k, _, hk, fk, _⟩
    · rfl
    · exact (no (h k hk) fk).elim
  · rcases g with ⟨_, g⟩ | ⟨i, rfl, hi, fi, gg⟩
    · exact (no (g k hk) fk).elim
    · congr 1
      rcases Nat.lt_trichotomy k i with lt | eq | gt
      · exfalso
        rcases hh with ⟨h1, h2⟩ | ⟨h1, h2, h3⟩
        · rcases gg with ⟨g1, g2⟩ | ⟨g1, g2, g3⟩
          · exact no (g2 k h1 lt) fk
          · exact no (g3 k lt) fk
        · rcases gg with ⟨g1, g2⟩ | ⟨g1, g2, g3⟩
          · exact no (h2 i g1 hi) fi
          · exact no (g3 k lt) fk
      · exact eq
      · exfalso
        rcases hh with ⟨h1, h2⟩ | ⟨h1, h2, h3⟩
        · rcases gg with ⟨g1, g2⟩ | ⟨g1, g2, g3⟩
          · exact no (h2 i g1 gt) fi
          · exact no (g2 k h1 hk) fk
        · exact no (h3 i gt) fi
/-- n in a row from a on are not set. -/
def Clear (f : Nat → Bool) (a n : Nat) : Prop := ∀ j, a ≤ j → j < a + n → f j = false
/-- What Run tells. -/
def IsRun (f : Nat → Bool) (m : Nat) (want : Int) (r : Int) : Prop :=
  (r = -1 ∧ ∀ a n : Nat, a + n ≤ m → Clear f a n → (n : Int) < want ∨ want < 1) ∨
  ∃ k n : Nat, r = k ∧ want = n ∧ 1 ≤ n ∧ k + n ≤ m ∧ Clear f k n ∧ ∀ a, a < k → ¬ Clear f a n
theorem IsRun.same {f : Nat → Bool} {m : Nat} {want r s : Int} (h : IsRun f m want r) (g : IsRun f m want s) : r = s := by
  rcases h with ⟨rfl, h⟩ | ⟨k, n, rfl, rfl, h1, h2, h3, h4⟩
  · rcases g with ⟨rfl, _⟩ | ⟨k, n, rfl, rfl, h1, h2, h3, h4⟩
    · rfl
    · exfalso; rcases h k n h2 h3 with x | x <;> omega
  · rcases g with ⟨rfl, g⟩ | ⟨i, n', rfl, e, g1, g2, g3, g4⟩
    · exfalso; rcases g k n h2 h3 with x | x <;> omega
    · have : n' = n := by omega
      subst this
      rcases Nat.lt_trichotomy k i with lt | eq | gt
      · exact (g4 k lt h3).elim
      · rw [eq]
      · exact (h4 i gt g3).elim
/-- What Longest tells. -/
def IsLong (f : Nat → Bool) (m at_ most : Nat) : Prop :=
  at_ + most ≤ m ∧ Clear f at_ most ∧ ∀ a n, a + n ≤ m → Clear f a n → n ≤ most ∧ (a < at_ → n < most)
theorem IsLong.same {f : Nat → Bool} {m a n b k : Nat} (h : IsLong f m a n) (g : IsLong f m b k) : a = b ∧ n = k := by
  obtain ⟨h1, h2, h3⟩ := h
  obtain ⟨g1, g2, g3⟩ := g
  have x := g3 a n h1 h2
  have y := h3 b k g1 g2
  have e : n = k := by omega
  refine ⟨?_, e⟩
  rcases Nat.lt_trichotomy a b with lt | eq | gt
  · have := x.2 lt; omega
  · exact eq
  · have := y.2 gt; omega
/-- The row that ends ahead of i: row are not set, and the one ahead of them is, or there is none. -/
def Tail (f : Nat → Bool) (i row : Nat) : Prop := row ≤ i ∧ Clear f (i - row) row ∧ ∀ a n, a + n = i → Clear f a n → n ≤ row
theorem Tail.zero (f : Nat → Bool) : Tail f 0 0 := ⟨Nat.le_refl _, fun j h1 h2 => by omega, fun a n h _ => by omega⟩
theorem Tail.set {f : Nat → Bool} {i : Nat} (h : f i = true) : Tail f (i + 1) 0 :=
  ⟨by omega, fun j h1 h2 => by omega, fun a n e c => by
    rcases Nat.eq_zero_or_pos n with z | z
    · omega
    · have := c i (by omega) (by omega); rw [h] at this; cases this⟩
theorem Tail.next {f : Nat → Bool} {i row : Nat} (t : Tail f i row) (h : f i = false) : Tail f (i + 1) (row + 1) := by
  obtain ⟨t1, t2, t3⟩ := t
  refine ⟨by omega, fun j h1 h2 => ?_, fun a n e c => ?_⟩
  · by_cases e : j = i
    · rw [e]; exact h
    · exact t2 j (by omega) (by omega)
  · rcases Nat.eq_zero_or_pos n with z | z
    · omega
    · have := t3 a (n - 1) (by omega) (fun j h1 h2 => c j h1 (by omega)); omega
theorem IsLong.zero (f : Nat → Bool) : IsLong f 0 0 0 := ⟨Nat.le_refl _, fun j h1 h2 => by omega, fun a n h _ => ⟨by omega, fun h => by omega⟩⟩
theorem IsLong.set {f : Nat → Bool} {i a n : Nat} (l : IsLong f i a n) (h : f i = true) : IsLong f (i + 1) a n := by
  obtain ⟨l1, l2, l3⟩ := l
  refine ⟨by omega, l2, fun b k e c => ?_⟩
  by_cases hk : b + k ≤ i
  · exact l3 b k hk c
  · rcases Nat.eq_zero_or_pos k with z | z
    · subst z; exact ⟨by omega, fun hb => by omega⟩
    · have := c i (by omega) (by omega); rw [h] at this; cases this
theorem IsLong.stay {f : Nat → Bool} {i a n row : Nat} (l : IsLong f i a n) (t : Tail f (i + 1) row) (h : row ≤ n) : IsLong f (i + 1) a n := by
  obtain ⟨l1, l2, l3⟩ := l
  refine ⟨by omega, l2, fun b k e c => ?_⟩
  by_cases hk : b + k ≤ i
  · exact l3 b k hk c
  · have := t.2.2 b k (by omega) c
    exact ⟨by omega, fun hb => by omega⟩
theorem IsLong.more {f : Nat → Bool} {i a n row : Nat} (l : IsLong f i a n) (t : Tail f (i + 1) row) (h : n < row) : IsLong f (i + 1) (i + 1 - row) row := by
  obtain ⟨l1, l2, l3⟩ := l
  obtain ⟨t1, t2, t3⟩ := t
  refine ⟨by omega, t2, fun b k e c => ?_⟩
  by_cases hk : b + k ≤ i
  · have := l3 b k hk c; exact ⟨by omega, fun _ => by omega⟩
  · have := t3 b k (by omega) c
    exact ⟨by omega, fun hb => by omega⟩
/-- Run, while it looks: no row of want ends at or ahead of i. -/
def NoRun (f : Nat → Bool) (i want : Nat) : Prop := ∀ a n, a + n ≤ i → Clear f a n → n < want
theorem NoRun.step {f : Nat → Bool} {i want row : Nat} (h : NoRun f i want) (t : Tail f (i + 1) row) (hr : row < want) : NoRun f (i + 1) want := by
  intro a n e c
  by_cases hk : a + n ≤ i
  · exact h a n hk c
  · have := t.2.2 a n (by omega) c; omega
theorem IsRun.none {f : Nat → Bool} {m : Nat} {want : Nat} (h : NoRun f m want) : IsRun f m want (-1) := .inl ⟨rfl, fun a n e c => .inl (by have := h a n e c; omega)⟩
theorem IsRun.bad {f : Nat → Bool} {m : Nat} {want : Int} (h : want < 1) : IsRun f m want (-1) := .inl ⟨rfl, fun _ _ _ _ => .inr h⟩
theorem IsRun.found {f : Nat → Bool} {m i want : Nat} (h : NoRun f i want) (t : Tail f (i + 1) want) (h1 : 1 ≤ want) (hm : i + 1 ≤ m) : IsRun f m want ((i : Int) + 1 - want) := by
  obtain ⟨t1, t2, t3⟩ := t
  refine .inr ⟨i + 1 - want, want, by omega, rfl, h1, by omega, t2, fun a ha c => ?_⟩
  have := h a want (by omega) c; omega
/-- The row from a on, as the document's row counts it. -/
def Row (f : Nat → Bool) (m a k : Nat) : Prop := a + k ≤ m ∧ Clear f a k ∧ (a + k < m → f (a + k) = true)
theorem Row.max {f : Nat → Bool} {m a k n : Nat} (h : Row f m a k) (hn : a + n ≤ m) (c : Clear f a n) : n ≤ k := by
  obtain ⟨h1, h2, h3⟩ := h
  rcases Nat.lt_or_ge k n with lt | ge
  · have := h3 (by omega); have x := c (a + k) (by omega) (by omega); rw [this] at x; cases x
  · exact ge
theorem Clear.less {f : Nat → Bool} {a n k : Nat} (h : Clear f a n) (hk : k ≤ n) : Clear f a k := fun j h1 h2 => h j h1 (by omega)
/-- The document's Longest, while it looks at the places ahead of i. -/
def LongTo (f : Nat → Bool) (m i at_ best : Nat) : Prop :=
  at_ + best ≤ m ∧ Clear f at_ best ∧ (∀ a n, a < i → a + n ≤ m → Clear f a n → n ≤ best ∧ (a < at_ → n < best)) ∧ (at_ < i ∨ at_ = 0)
theorem LongTo.zero (f : Nat → Bool) (m : Nat) : LongTo f m 0 0 0 := ⟨by omega, fun j h1 h2 => by omega, fun a n h => by omega, .inr rfl⟩
theorem LongTo.stay {f : Nat → Bool} {m i a b k : Nat} (h : LongTo f m i a b) (r : Row f m i k) (hk : k ≤ b) : LongTo f m (i + 1) a b := by
  obtain ⟨h1, h2, h3, h4⟩ := h
  refine ⟨h1, h2, fun c n hc e cl => ?_, by omega⟩
  by_cases e2 : c = i
  · subst e2; have := r.max e cl; exact ⟨by omega, fun x => by omega⟩
  · exact h3 c n (by omega) e cl
theorem LongTo.more {f : Nat → Bool} {m i a b k : Nat} (h : LongTo f m i a b) (r : Row f m i k) (hk : b < k) : LongTo f m (i + 1) i k := by
  obtain ⟨h1, h2, h3, h4⟩ := h
  refine ⟨r.1, r.2.1, fun c n hc e cl => ?_, by omega⟩
  by_cases e2 : c = i
  · subst e2; have := r.max e cl; exact ⟨by omega, fun x => by omega⟩
  · have := h3 c n (by omega) e cl; exact ⟨by omega, fun x => by omega⟩
theorem LongTo.all {f : Nat → Bool} {m a b : Nat} (h : LongTo f m m a b) : IsLong f m a b := by
  obtain ⟨h1, h2, h3, h4⟩ := h
  refine ⟨h1, h2, fun c n e cl => ?_⟩
  by_cases hc : c < m
  · exact h3 c n hc e cl
  · exact ⟨by omega, fun x => by omega⟩
/-- The document's Run: a place ahead of i has no row of want. -/
def RunTo (f : Nat → Bool) (m i want : Nat) : Prop := ∀ a n, a < i → a + n ≤ m → Clear f a n → n < want
theorem RunTo.step {f : Nat → Bool} {m i want k : Nat} (h : RunTo f m i want) (r : Row f m i k) (hk : k < want) : RunTo f m (i + 1) want := by
  intro a n ha e c
  by_cases e2 : a = i
  · subst e2; have := r.max e c; omega
  · exact h a n (by omega) e c
theorem RunTo.none {f : Nat → Bool} {m want : Nat} (h : RunTo f m m want) (h1 : 1 ≤ want) : IsRun f m want (-1) :=
  IsRun.none fun a n e c => by
    by_cases ha : a < m
    · exact h a n ha e c
    · omega
theorem RunTo.found {f : Nat → Bool} {m i want k : Nat} (h : RunTo f m i want) (r : Row f m i k) (hk : want ≤ k) (h1 : 1 ≤ want) : IsRun f m want (i : Int) := by
  refine .inr ⟨i, want, rfl, rfl, h1, by have := r.1; omega, r.2.1.less hk, fun a ha c => ?_⟩
  have := h a want ha (by have := r.1; omega) c; omega
end Go.Proofs.Ytfbbdpapnegmcaa
