/- dirent.Name, leveeref08.Name. -/
import Derived.Test.YtabmogeicpphoaaHeld
import Derived.Test.YtabmogeicpphoaaOps
import Derived.Laws.RangeAny
import Derived.Deep.DeepCutAuto
namespace Go.Proofs.Ytabmogeicpphoaa
open Go.RowKit
/-- A byte that may stand in a name. -/
def okC (c : UInt8) : Bool := c != 0 && c != 47
/-- A name. -/
def nmB (l : List UInt8) : Bool := (decide (1 ≤ l.length) && decide (l.length ≤ 24)) && (!(l == [46]) && !(l == [46, 46])) && l.all okC
theorem str_size (l : List UInt8) : (str l).size = l.length := by simp [str, ByteArray.size]
theorem str_get (l : List UInt8) (k : Nat) (h : k < (str l).size) : (str l)[k] = l.getD k 0 := by
  have h2 : k < l.length := by rw [← str_size]; exact h
  show l.toArray[k] = _
  simp [h2]
theorem str_get! (l : List UInt8) (k : Nat) (h : k < l.length) : (str l).get! k = l.getD k 0 := by
  have h2 : k < (str l).size := by rw [str_size]; exact h
  rw [← str_get l k h2]
  have := get_at (str l) k h2
  simpa using this
/-- A sign of more bytes than one has none below 128. -/
theorem decode_skip (s : ByteArray) (pos : Nat) (h : pos < s.size) (ha : 128 ≤ (s[pos]'h).toNat) : ∀ k, k < (Utf8.decode s pos).2 → pos + k < s.size ∧ 128 ≤ (s.get! (pos + k)).toNat := by
  have hn : ¬ (s[pos]'h).toNat < 128 := by omega
  have c0 : pos + 0 < s.size ∧ 128 ≤ (s.get! (pos + 0)).toNat := ⟨h, by rw [get_at s pos h]; exact ha⟩
  have cc : ∀ k, (decide (pos + k < s.size) && (s.get! (pos + k)).toNat / 64 == 2) = true → pos + k < s.size ∧ 128 ≤ (s.get! (pos + k)).toNat := by
    intro k hk
    simp only [Bool.and_eq_true, decide_eq_true_eq, beq_iff_eq] at hk
    exact ⟨hk.1, by omega⟩
  simp only [Utf8.decode, get_at s pos h, hn, if_false]
  by_cases e2 : ((s[pos]'h).toNat / 32 == 6 && (decide (pos + 1 < s.size) && (s.get! (pos + 1)).toNat / 64 == 2)) = true
  · rw [if_pos e2]
    simp only [Bool.and_eq_true] at e2
    have c1 := cc 1 (by simp only [Bool.and_eq_true]; exact e2.2)
    intro k hk
    have : k < 2 := by revert hk; split <;> (intro hk; simp at hk; omega)
    rcases (show k = 0 ∨ k = 1 by omega) with rfl | rfl
    · exact c0
    · exact c1
  rw [if_neg e2]
  by_cases e3 : ((s[pos]'h).toNat / 16 == 14 && (decide (pos + 1 < s.size) && (s.get! (pos + 1)).toNat / 64 == 2) && (decide (pos + 2 < s.size) && (s.get! (pos + 2)).toNat / 64 == 2)) = true
  · rw [if_pos e3]
    simp only [Bool.and_eq_true] at e3
    have c1 := cc 1 (by simp only [Bool.and_eq_true]; exact e3.1.2)
    have c2 := cc 2 (by simp only [Bool.and_eq_true]; exact e3.2)
    intro k hk
    have : k < 3 := by revert hk; split <;> (intro hk; simp at hk; omega)
    rcases (show k = 0 ∨ k = 1 ∨ k = 2 by omega) with rfl | rfl | rfl
    · exact c0
    · exact c1
    · exact c2
  rw [if_neg e3]
  by_cases e4 : ((s[pos]'h).toNat / 8 == 30 && (decide (pos + 1 < s.size) && (s.get! (pos + 1)).toNat / 64 == 2) && (decide (pos + 2 < s.size) && (s.get! (pos + 2)).toNat / 64 == 2) && (decide (pos + 3 < s.size) && (s.get! (pos + 3)).toNat / 64 == 2)) = true
  · rw [if_pos e4]
    simp only [Bool.and_eq_true] at e4
    have c1 := cc 1 (by simp only [Bool.and_eq_true]; exact e4.1.1.2)
    have c2 := cc 2 (by simp only [Bool.and_eq_true]; exact e4.1.2)
    have c3 := cc 3 (by simp only [Bool.and_eq_true]; exact e4.2)
    intro k hk
    have : k < 4 := by revert hk; split <;> (intro hk; simp at hk; omega)
    rcases (show k = 0 ∨ k = 1 ∨ k = 2 ∨ k = 3 by omega) with rfl | rfl | rfl | rfl
    · exact c0
    · exact c1
    · exact c2
    · exact c3
  rw [if_neg e4]
  intro k hk
  obtain rfl : k = 0 := by simp at hk; omega
  exact c0
theorem okC_high {c : UInt8} (h : 128 ≤ c.toNat) : okC c = true := by
  unfold okC
  have h0 : c ≠ 0 := by rintro rfl; simp at h
  have h1 : c ≠ 47 := by rintro rfl; simp at h
  simp [h0, h1]
theorem allC_step {l : List UInt8} {k : Nat} (h : k < l.length) : (l.take (k + 1)).all okC = ((l.take k).all okC && okC (l.getD k 0)) := by
  have e : l.getD k 0 = l[k] := by simp [h]
  rw [List.take_succ_eq_append_getElem h, List.all_append, e]; simp only [List.all_cons, List.all_nil, Bool.and_true]
theorem allC_no {l : List UInt8} {k : Nat} (h : k < l.length) (hk : okC (l.getD k 0) = false) : l.all okC = false := by
  rw [List.all_eq_false]
  exact ⟨l[k], List.getElem_mem h, by simpa [h] using hk⟩
/-- Some bytes that are all high. -/
theorem allC_skip {l : List UInt8} {pos : Nat} (hp : (l.take pos).all okC = true) : ∀ n, (∀ k, k < n → pos + k < l.length ∧ 128 ≤ (l.getD (pos + k) 0).toNat) → (l.take (pos + n)).all okC = true
  | 0, _ => hp
  | n + 1, h => by
    have ih := allC_skip hp n (fun k hk => h k (by omega))
    obtain ⟨h1, h2⟩ := h n (by omega)
    rw [← Nat.add_assoc, allC_step h1, ih, okC_high h2]; rfl
theorem name_skip {l : List UInt8} {pos : Nat} (h : pos < l.length) (ha : 128 ≤ (l.getD pos 0).toNat) (hp : (l.take pos).all okC = true) :
    pos + (Utf8.decode (str l) pos).2 ≤ l.length ∧ (l.take (pos + (Utf8.decode (str l) pos).2)).all okC = true ∧ 128 ≤ (Utf8.decode (str l) pos).1 ∧ 1 ≤ (Utf8.decode (str l) pos).2 := by
  have hs : pos < (str l).size := by rw [str_size]; exact h
  have ha' : 128 ≤ ((str l)[pos]'hs).toNat := by rw [str_get]; exact ha
  have k1 := decode_skip (str l) pos hs ha'
  obtain ⟨k2, k3⟩ := decode_high (str l) pos hs ha'
  have k4 : ∀ k, k < (Utf8.decode (str l) pos).2 → pos + k < l.length ∧ 128 ≤ (l.getD (pos + k) 0).toNat := by
    intro k hk
    obtain ⟨h1, h2⟩ := k1 k hk
    rw [str_size] at h1
    rw [str_get! l _ h1] at h2
    exact ⟨h1, h2⟩
  refine ⟨?_, allC_skip hp _ k4, k2, k3⟩
  have := (k4 ((Utf8.decode (str l) pos).2 - 1) (by omega)).1
  omega
theorem name_low {l : List UInt8} {pos : Nat} (h : pos < l.length) (ha : (l.getD pos 0).toNat < 128) : Utf8.decode (str l) pos = ((l.getD pos 0).toNat, 1) := by
  have hs : pos < (str l).size := by rw [str_size]; exact h
  have := decode_ascii (str l) pos hs (by rw [str_get]; exact ha)
  rw [str_get] at this
  exact this
end Go.Proofs.Ytabmogeicpphoaa
