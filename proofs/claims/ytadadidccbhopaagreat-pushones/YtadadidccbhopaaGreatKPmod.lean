/- Changes and blocks, as lists: what is laid upon what, which may be written. Nothing of a program. -/
import Derived.Test.YtadadidccbhopaaGreatKBase
namespace Go.Proofs.YtadadidccbhopaaGreat
open Go.RowKit
set_option maxRecDepth 100000
/-- A change: its number, block, place, bytes, whom it waits for, whether it was written; where it lies. -/
structure Ch where
  id : Nat
  b : Nat
  fr : Nat
  d : List UInt8
  ah : List Int
  wr : Bool
  q : Nat
  dv : Value
  av : Value
/-- A block with open changes. -/
structure Bk where
  n : Nat
  q : Nat
  ba : List UInt8
  ov : Value
  la : List Int
def layB (x : List UInt8) (fr : Nat) (d : List UInt8) : List UInt8 := x.take fr ++ d ++ x.drop (fr + d.length)
def lays (x : List UInt8) (l : List Ch) : List UInt8 := l.foldl (fun x c => layB x c.fr c.d) x
def cov (c : Ch) (j : Nat) : Prop := c.fr ≤ j ∧ j < c.fr + c.d.length
def fits (c : Ch) : Prop := c.fr + c.d.length ≤ 256
theorem layB_length {x : List UInt8} {fr : Nat} {d : List UInt8} (h : fr + d.length ≤ x.length) : (layB x fr d).length = x.length := by
  simp only [layB, List.length_append, List.length_take, List.length_drop]; omega
theorem layB_get {x : List UInt8} {fr : Nat} {d : List UInt8} (h : fr + d.length ≤ x.length) (j : Nat) : (layB x fr d)[j]? = if fr ≤ j ∧ j < fr + d.length then d[j - fr]? else x[j]? := by
  unfold layB
  by_cases h1 : j < fr
  · rw [if_neg (by omega), List.append_assoc, List.getElem?_append_left (by simp; omega), List.getElem?_take, if_pos h1]
  · by_cases h2 : j < fr + d.length
    · rw [if_pos (by omega), List.append_assoc, List.getElem?_append_right (by simp; omega), List.getElem?_append_left (by simp; omega)]
      simp only [List.length_take]; congr 1; omega
    · rw [if_neg (by omega), List.getElem?_append_right (by simp; omega), List.getElem?_drop]
      simp only [List.length_append, List.length_take]; congr 1; omega
theorem lays_nil (x : List UInt8) : lays x [] = x := rfl
theorem lays_cons (x : List UInt8) (c : Ch) (l : List Ch) : lays x (c :: l) = lays (layB x c.fr c.d) l := rfl
theorem lays_append (x : List UInt8) (a b : List Ch) : lays x (a ++ b) = lays (lays x a) b := by simp [lays, List.foldl_append]
theorem lays_length : ∀ {l : List Ch} {x : List UInt8}, x.length = 256 → (∀ c ∈ l, fits c) → (lays x l).length = 256
  | [], x, h, _ => h
  | c :: l, x, h, hf => by
    rw [lays_cons]
    exact lays_length (by rw [layB_length (by rw [h]; exact hf c (by simp))]; exact h) fun c hc => hf c (by simp [hc])
theorem layB_comm {x : List UInt8} {a c : Ch} (hx : x.length = 256) (ha : fits a) (hc : fits c) (h : ∀ j, cov a j → ¬ cov c j) : layB (layB x a.fr a.d) c.fr c.d = layB (layB x c.fr c.d) a.fr a.d := by
  have ha' : a.fr + a.d.length ≤ x.length := by rw [hx]; exact ha
  have hc' : c.fr + c.d.length ≤ x.length := by rw [hx]; exact hc
  apply List.ext_getElem?
  intro j
  rw [layB_get (by rw [layB_length ha']; exact hc'), layB_get ha', layB_get (by rw [layB_length hc']; exact ha'), layB_get hc']
  by_cases h1 : c.fr ≤ j ∧ j < c.fr + c.d.length
  · by_cases h2 : a.fr ≤ j ∧ j < a.fr + a.d.length
    · exact absurd h1 (h j h2)
    · rw [if_pos h1, if_neg h2, if_pos h1]
  · rw [if_neg h1, if_neg h1]
theorem lays_comm : ∀ {l : List Ch} {x : List UInt8} {c : Ch}, x.length = 256 → fits c → (∀ a ∈ l, fits a) → (∀ a ∈ l, ∀ j, cov a j → ¬ cov c j) → layB (lays x l) c.fr c.d = lays (layB x c.fr c.d) l
  | [], x, c, _, _, _, _ => rfl
  | a :: l, x, c, hx, hc, hf, h => by
    rw [lays_cons, lays_cons, lays_comm (by rw [layB_length (by rw [hx]; exact hf a (by simp))]; exact hx) hc (fun b hb => hf b (by simp [hb])) (fun b hb => h b (by simp [hb])), layB_comm hx (hf a (by simp)) hc (h a (by simp))]
/-- Some laid first: as if all were laid in order, if none of them meets one ahead that is not among them. -/
theorem lays_part (p : Ch → Bool) : ∀ {l : List Ch} {x : List UInt8}, x.length = 256 → (∀ a ∈ l, fits a) → l.Pairwise (fun c c' => p c = false → p c' = true → ∀ j, cov c' j → ¬ cov c j) → lays (lays x (l.filter p)) (l.filter fun c => !p c) = lays x l
  | [], x, _, _, _ => rfl
  | c :: l, x, hx, hf, hp => by
    obtain ⟨h1, h2⟩ := List.pairwise_cons.1 hp
    have hc := hf c (by simp)
    have hx' : (layB x c.fr c.d).length = 256 := by rw [layB_length (by rw [hx]; exact hc)]; exact hx
    by_cases hpc : p c = true
    · rw [List.filter_cons_of_pos hpc, List.filter_cons_of_neg (by simp [hpc]), lays_cons, lays_cons]
      exact lays_part p hx' (fun a ha => hf a (by simp [ha])) h2
    · have hpc' : p c = false := by simpa using hpc
      rw [List.filter_cons_of_neg hpc, List.filter_cons_of_pos (by simp [hpc']), lays_cons, lays_cons, lays_comm hx hc (fun a ha => hf a (by simp [(List.mem_filter.1 ha).1])) (fun a ha => h1 a (List.mem_filter.1 ha).1 hpc' (List.mem_filter.1 ha).2)]
      exact lays_part p hx' (fun a ha => hf a (by simp [ha])) h2
/-- Is this the number of an open change? -/
def opn (C : List Ch) (i : Int) : Bool := C.any fun c => decide ((c.id : Int) = i)
theorem opn_iff {C : List Ch} {i : Int} : opn C i = true ↔ ∃ c ∈ C, (c.id : Int) = i := by simp [opn]
def holdsB (C : List Ch) (acc : List Int) (i : Int) : Bool := !acc.contains i && opn C i
def allowG (C : List Ch) : List Ch → List Int → List Int
  | [], acc => acc
  | c :: r, acc => allowG C r (if c.ah.any (holdsB C acc) then acc else acc ++ [(c.id : Int)])
def ofB (C : List Ch) (n : Nat) : List Ch := C.filter fun c => decide (c.b = n)
def cids (l : List Ch) : List Int := l.map fun c => (c.id : Int)
/-- The numbers of those changes of a block that may be written. -/
def alw (C : List Ch) (n : Nat) : List Int := allowG C (ofB C n) []
theorem allowG_append (C : List Ch) : ∀ (a b : List Ch) (acc : List Int), allowG C (a ++ b) acc = allowG C b (allowG C a acc)
  | [], b, acc => rfl
  | c :: a, b, acc => by simp only [List.cons_append, allowG]; exact allowG_append C a b _
theorem allowG_sub (C : List Ch) : ∀ (l : List Ch) (acc : List Int), ∃ s, allowG C l acc = acc ++ s ∧ s.Sublist (cids l)
  | [], acc => ⟨[], by simp [allowG], by simp [cids]⟩
  | c :: l, acc => by
    unfold allowG
    split
    · obtain ⟨s, h1, h2⟩ := allowG_sub C l acc
      exact ⟨s, h1, by simp only [cids, List.map_cons]; exact h2.cons _⟩
    · obtain ⟨s, h1, h2⟩ := allowG_sub C l (acc ++ [(c.id : Int)])
      exact ⟨(c.id : Int) :: s, by rw [h1]; simp, by simp only [cids, List.map_cons]; exact h2.cons_cons _⟩
theorem alw_sub (C : List Ch) (n : Nat) : (alw C n).Sublist (cids (ofB C n)) := by
  obtain ⟨s, h1, h2⟩ := allowG_sub C (ofB C n) []
  unfold alw
  rw [h1]; simpa using h2
def Asc (C : List Ch) : Prop := C.Pairwise fun a b => a.id < b.id
theorem Asc.ofB {C : List Ch} (h : Asc C) (n : Nat) : Asc (ofB C n) := List.Pairwise.filter _ h
theorem Asc.cids {C : List Ch} (h : Asc C) : (cids C).Pairwise (· < ·) := by
  unfold Go.Proofs.YtadadidccbhopaaGreat.cids
  rw [List.pairwise_map]
  exact List.Pairwise.imp (fun h => by omega) h
theorem Asc.inj {C : List Ch} (h : Asc C) {a b : Ch} (ha : a ∈ C) (hb : b ∈ C) (he : a.id = b.id) : a = b := by
  induction C with
  | nil => cases ha
  | cons c l ih =>
    obtain ⟨h1, h2⟩ := List.pairwise_cons.1 h
    rcases List.mem_cons.1 ha with ha | ha
    · rcases List.mem_cons.1 hb with hb | hb
      · rw [ha, hb]
      · have := h1 b hb; rw [ha] at he; omega
    · rcases List.mem_cons.1 hb with hb | hb
      · have := h1 a ha; rw [hb] at he; omega
      · exact ih h2 ha hb
/-- Which may be written: those of which each one that they go behind is safe, or may be. -/
theorem alw_mem {C : List Ch} {n : Nat} (h : Asc C) (hah : ∀ c ∈ C, ∀ i ∈ c.ah, i < (c.id : Int)) {c : Ch} (hc : c ∈ ofB C n) : (c.id : Int) ∈ alw C n ↔ ∀ i ∈ c.ah, opn C i = true → i ∈ alw C n := by
  obtain ⟨X, Z, hX⟩ := List.append_of_mem hc
  have hA : Asc (X ++ c :: Z) := by rw [← hX]; exact h.ofB n
  obtain ⟨_, hA2, hA3⟩ := List.pairwise_append.1 hA
  obtain ⟨hcZ, _⟩ := List.pairwise_cons.1 hA2
  obtain ⟨s1, e1, sub1⟩ := allowG_sub C X []
  have hcC : c ∈ C := (List.mem_filter.1 hc).1
  have e0 : alw C n = allowG C Z (if c.ah.any (holdsB C s1) then s1 else s1 ++ [(c.id : Int)]) := by
    unfold alw; rw [hX, allowG_append, e1]; simp [allowG]
  obtain ⟨s2, e2, sub2⟩ := allowG_sub C Z (if c.ah.any (holdsB C s1) then s1 else s1 ++ [(c.id : Int)])
  have hs1 : ∀ i ∈ s1, i < (c.id : Int) := fun i hi => by
    obtain ⟨x, hx, rfl⟩ := List.mem_map.1 (sub1.subset hi)
    have := hA3 x hx c (by simp); omega
  have hs2 : ∀ i ∈ s2, (c.id : Int) < i := fun i hi => by
    obtain ⟨x, hx, rfl⟩ := List.mem_map.1 (sub2.subset hi)
    have := hcZ x hx; omega
  have low : ∀ i, i < (c.id : Int) → (i ∈ alw C n ↔ i ∈ s1) := fun i hi => by
    rw [e0, e2]
    split
    · simp only [List.mem_append]
      exact ⟨fun h => h.elim id fun h => absurd (hs2 i h) (by omega), .inl⟩
    · simp only [List.mem_append, List.mem_singleton]
      exact ⟨fun h => h.elim (fun h => h.elim id fun h => by omega) fun h => absurd (hs2 i h) (by omega), fun h => .inl (.inl h)⟩
  have key : c.ah.any (holdsB C s1) = true ↔ ∃ i ∈ c.ah, opn C i = true ∧ i ∉ alw C n := by
    simp only [List.any_eq_true, holdsB, Bool.and_eq_true, Bool.not_eq_true', List.contains_eq_mem, decide_eq_false_iff_not]
    exact ⟨fun ⟨i, h1, h2, h3⟩ => ⟨i, h1, h3, fun h => h2 ((low i (hah c hcC i h1)).1 h)⟩, fun ⟨i, h1, h2, h3⟩ => ⟨i, h1, fun h => h3 ((low i (hah c hcC i h1)).2 h), h2⟩⟩
  constructor
  · intro hm i hi ho
    apply Classical.byContradiction
    intro hn
    have hb := key.2 ⟨i, hi, ho, hn⟩
    rw [e0, e2, if_pos hb] at hm
    rcases List.mem_append.1 hm with hm | hm
    · have := hs1 _ hm; omega
    · have := hs2 _ hm; omega
  · intro hall
    have hb : ¬ c.ah.any (holdsB C s1) = true := fun hb => by
      obtain ⟨i, hi, ho, hn⟩ := key.1 hb
      exact hn (hall i hi ho)
    rw [e0, e2, if_neg hb]
    simp
end Go.Proofs.YtadadidccbhopaaGreat
