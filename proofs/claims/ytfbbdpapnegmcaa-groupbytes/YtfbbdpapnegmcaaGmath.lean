/- Maps of a header, as mathematics. -/
import Derived.Test.YtfbbdpapnegmcaaGknown
namespace Go.Proofs.Ytfbbdpapnegmcaa
open Go.RowKit
theorem cnt_congr {f g : Nat → Bool} : ∀ m, (∀ j, j < m → f j = g j) → cnt f m = cnt g m
  | 0, _ => rfl
  | k + 1, h => by simp only [cnt]; rw [cnt_congr k (fun j hj => h j (by omega)), h k (by omega)]
theorem cnt_mono (f : Nat → Bool) (n : Nat) : ∀ d, cnt f n ≤ cnt f (n + d)
  | 0 => Nat.le_refl _
  | d + 1 => by have := cnt_mono f n d; show _ ≤ cnt f (n + d) + _; omega
theorem cnt_tail (f : Nat → Bool) (n : Nat) : ∀ d, cnt f n = cnt f (n + d) ↔ ∀ j, n ≤ j → j < n + d → f j = false
  | 0 => ⟨fun _ j a b => by omega, fun _ => rfl⟩
  | d + 1 => by
    have ih := cnt_tail f n d
    have hm := cnt_mono f n d
    have e : cnt f (n + (d + 1)) = cnt f (n + d) + (if f (n + d) then 1 else 0) := rfl
    rw [e]
    constructor
    · intro h j a b
      by_cases hf : f (n + d) = true
      · rw [if_pos hf] at h; omega
      · rw [if_neg hf] at h
        by_cases ej : j = n + d
        · rw [ej]; simpa using hf
        · exact ih.1 (by omega) j a (by omega)
    · intro h
      rw [h (n + d) (by omega) (by omega), ih.2 (fun j a b => h j a (by omega))]
      simp
theorem covB_iff {l : List UInt8} {first n : Nat} (hn : n ≤ 8 * l.length) : covB l first n = true ↔ (∀ j, j < first → gb l j = true) ∧ ∀ j, n ≤ j → j < 8 * l.length → gb l j = false := by
  unfold covB
  rw [Bool.and_eq_true, beq_iff_eq, beq_iff_eq, cnt_full]
  have := cnt_tail (gb l) n (8 * l.length - n)
  rw [show n + (8 * l.length - n) = 8 * l.length by omega] at this
  rw [this]
/-- What a header that can be is. -/
theorem rgB_iff {a i n no : Int} {bl sl : List UInt8} (hb : bl.length = 16) (hs : sl.length = 8) : rgB a i n no bl sl = true ↔ (okG a i n ∧ 0 ≤ no ∧ no < n) ∧ ((∀ j, j < kbl i → gb bl j = true) ∧ ∀ j, a.toNat ≤ j → j < 128 → gb bl j = false) ∧ (∀ j, j < ksl no → gb sl j = true) ∧ ∀ j, i.toNat ≤ j → j < 64 → gb sl j = false := by
  unfold rgB
  rw [Bool.and_eq_true, Bool.and_eq_true]
  constructor
  · rintro ⟨h1, h2, h3⟩
    obtain ⟨hok, hn0, hn1⟩ := numB_ok h1
    have hbx := hok.box
    rw [covB_iff (by omega), hb] at h2
    rw [covB_iff (by omega), hs] at h3
    exact ⟨⟨hok, hn0, hn1⟩, h2, h3⟩
  · rintro ⟨⟨hok, hn0, hn1⟩, h2, h3⟩
    have hbx := hok.box
    refine ⟨?_, ?_, ?_⟩
    · unfold numB
      simp only [Bool.and_eq_true, decide_eq_true_eq]
      exact ⟨hok, hn0, hn1⟩
    · rw [covB_iff (by omega), hb]; exact h2
    · rw [covB_iff (by omega), hs]; exact h3
theorem rgB_setB {a i n no : Int} {bl sl : List UInt8} (hb : bl.length = 16) (hs : sl.length = 8) (h : rgB a i n no bl sl = true) {k : Nat} {on : Bool} (h1 : kbl i ≤ k) (h2 : (k : Int) < a) : rgB a i n no (setb bl k on) sl = true := by
  obtain ⟨⟨hok, hn0, hn1⟩, ⟨p1, p2⟩, p3⟩ := (rgB_iff hb hs).1 h
  have hbx := hok.box
  refine (rgB_iff (by rw [setb_length]; exact hb) hs).2 ⟨⟨hok, hn0, hn1⟩, ⟨fun j hj => ?_, fun j hj hj2 => ?_⟩, p3⟩
  · rw [gb_setb' bl k j on (by omega), if_neg (by omega)]; exact p1 j hj
  · rw [gb_setb' bl k j on (by omega), if_neg (by omega)]; exact p2 j hj hj2
theorem rgB_setS {a i n no : Int} {bl sl : List UInt8} (hb : bl.length = 16) (hs : sl.length = 8) (h : rgB a i n no bl sl = true) {k : Nat} {on : Bool} (h1 : ksl no ≤ k) (h2 : (k : Int) < i) : rgB a i n no bl (setb sl k on) = true := by
  obtain ⟨⟨hok, hn0, hn1⟩, p0, p1, p2⟩ := (rgB_iff hb hs).1 h
  have hbx := hok.box
  refine (rgB_iff hb (by rw [setb_length]; exact hs)).2 ⟨⟨hok, hn0, hn1⟩, p0, fun j hj => ?_, fun j hj hj2 => ?_⟩
  · rw [gb_setb' sl k j on (by omega), if_neg (by omega)]; exact p1 j hj
  · rw [gb_setb' sl k j on (by omega), if_neg (by omega)]; exact p2 j hj hj2
theorem gb_fillb (l : List UInt8) : ∀ n, n ≤ 8 * l.length → ∀ j, gb (fillb l n) j = if j < n then true else gb l j
  | 0, _, j => by simp [fillb]
  | k + 1, h, j => by
    rw [fillb, gb_setb' _ _ _ _ (by rw [fillb_length]; omega), gb_fillb l k (by omega) j]
    by_cases e : j = k
    · rw [if_pos e, if_pos (by omega)]
    · rw [if_neg e]
      by_cases e2 : j < k
      · rw [if_pos e2, if_pos (by omega)]
      · rw [if_neg e2, if_neg (by omega)]
theorem gb_zero (n j : Nat) : gb (List.replicate n 0) j = false := by
  unfold gb
  have e : (List.replicate n (0 : UInt8)).getD (j / 8) 0 = 0 := by
    by_cases h : j / 8 < n
    · simp [h]
    · simp [List.getD, List.getElem?_eq_none (show (List.replicate n (0 : UInt8)).length ≤ j / 8 by simp; omega)]
  rw [e]; simp
theorem fresh_right {a i n no : Int} (h : numB a i n no = true) : rgB a i n no (fillb z16 (kbl i)) (fillb z8 (ksl no)) = true := by
  obtain ⟨hok, hn0, hn1⟩ := numB_ok h
  have hbx := hok.box
  have hg := okG_iff.1 hok
  obtain ⟨ke, kl⟩ := kbl_of hok
  have k2 := ksl_le no
  refine (rgB_iff (by rw [fillb_length]; rfl) (by rw [fillb_length]; rfl)).2 ⟨⟨hok, hn0, hn1⟩, ⟨fun j hj => ?_, fun j hj hj2 => ?_⟩, fun j hj => ?_, fun j hj hj2 => ?_⟩
  · rw [gb_fillb z16 _ (by show kbl i ≤ 128; omega), if_pos hj]
  · rw [gb_fillb z16 _ (by show kbl i ≤ 128; omega), if_neg (by omega)]; exact gb_zero 16 j
  · rw [gb_fillb z8 _ (by show ksl no ≤ 64; omega), if_pos hj]
  · rw [gb_fillb z8 _ (by show ksl no ≤ 64; omega), if_neg (by omega)]; exact gb_zero 8 j
theorem first_pos {f : Nat → Bool} {m fr : Nat} {r : Int} (h : IsFirst f m fr r) : (0 ≤ r ↔ cnt f m < m) ∧ (0 ≤ r → ∃ p : Nat, r = p ∧ p < m ∧ f p = false) ∧ -1 ≤ r ∧ r ≤ m := by
  have hc := cnt_le f m
  have hf := cnt_full f m
  rcases h with ⟨rfl, h⟩ | ⟨k, rfl, hk, fk, _⟩
  · have := hf.2 h
    exact ⟨by omega, fun x => by omega, by omega, by omega⟩
  · have : ¬ cnt f m = m := fun e => by have := hf.1 e k hk; rw [fk] at this; cases this
    exact ⟨by omega, fun _ => ⟨k, rfl, hk, fk⟩, by omega, by omega⟩
theorem cnt_set {l : List UInt8} {k : Nat} (hk : k < 8 * l.length) (hf : gb l k = false) : ∀ m, cnt (gb (setb l k true)) m = cnt (gb l) m + (if k < m then 1 else 0)
  | 0 => by simp [cnt]
  | m + 1 => by
    simp only [cnt]
    rw [cnt_set hk hf m, gb_setb' l k m true hk]
    by_cases e : m = k
    · subst e
      rw [if_pos rfl, hf]; simp
    · rw [if_neg e]
      by_cases e2 : k < m
      · rw [if_pos e2, show (if k < m + 1 then 1 else 0) = 1 from if_pos (by omega)]; omega
      · rw [if_neg e2, show (if k < m + 1 then 1 else 0) = 0 from if_neg (by omega)]; omega
theorem frN_set {l : List UInt8} {k : Nat} {m : Int} (hk : k < 8 * l.length) (hf : gb l k = false) (hm : (k : Int) < m) : frN (setb l k true) m = frN l m - 1 := by
  unfold frN
  rw [cnt_set hk hf, if_pos (by omega)]
  omega
theorem setb_back {l : List UInt8} {k : Nat} (hk : k < 8 * l.length) (hf : gb l k = false) : setb (setb l k true) k false = l := by
  have hi : k / 8 < l.length := by omega
  have hx : l.getD (k / 8) 0 = l[k / 8] := by simp [hi]
  have h1 : tb (l.getD (k / 8) 0).toNat (k % 8) true = (l.getD (k / 8) 0).toNat ^^^ 2 ^ (k % 8) := by
    unfold tb; rw [if_neg (by rw [show (l.getD (k / 8) 0).toNat.testBit (k % 8) = false from hf]; simp)]
  have hlt : tb (l.getD (k / 8) 0).toNat (k % 8) true < 256 := tb_lt _ _ _ (UInt8.toNat_lt _) (Nat.mod_lt _ (by omega))
  have h2 : ((setb l k true).getD (k / 8) 0).toNat = tb (l.getD (k / 8) 0).toNat (k % 8) true := by
    unfold setb
    rw [show (l.set (k / 8) (UInt8.ofNat (tb (l.getD (k / 8) 0).toNat (k % 8) true))).getD (k / 8) 0 = UInt8.ofNat (tb (l.getD (k / 8) 0).toNat (k % 8) true) by simp [hi]]
    exact UInt8.toNat_ofNat_of_lt' (by simpa using hlt)
  have h3 : tb (tb (l.getD (k / 8) 0).toNat (k % 8) true) (k % 8) false = (l.getD (k / 8) 0).toNat := by
    have ht : (tb (l.getD (k / 8) 0).toNat (k % 8) true).testBit (k % 8) = true := by
      have := gb_setb' l k k true hk
      rw [if_pos rfl] at this
      unfold gb at this
      rw [h2] at this; exact this
    rw [tb, if_neg (by rw [ht]; simp), h1, Nat.xor_assoc, Nat.xor_self, Nat.xor_zero]
  show (setb l k true).set (k / 8) (UInt8.ofNat (tb ((setb l k true).getD (k / 8) 0).toNat (k % 8) false)) = l
  rw [h2, h3, hx]
  unfold setb
  rw [List.set_set]
  simp
end Go.Proofs.Ytfbbdpapnegmcaa
