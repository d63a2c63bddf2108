/- The bytes of a superblock: what is put is got as it was; a byte that is another one is told. -/
import Derived.Test.YtjdfkbpadhndlaaDoorNext
import Derived.Test.YtjdfkbpadhndlaaDoorSumMath
namespace Go.Proofs.YtjdfkbpadhndlaaDoor
theorem lay_zero (pre x : List UInt8) (m : Nat) : layAt (pre ++ List.replicate m 0) pre.length x = pre ++ x ++ List.replicate (m - x.length) 0 := by
  unfold layAt
  rw [List.take_left, ← List.drop_drop, List.drop_left, List.drop_replicate]
theorem lay_at (cur pre x : List UInt8) (o m : Nat) (hc : cur = pre ++ List.replicate m 0) (ho : pre.length = o) : layAt cur o x = (pre ++ x) ++ List.replicate (m - x.length) 0 := by
  rw [hc, ← ho]; exact lay_zero pre x m
/-- The first 18 bytes, and the first 252. -/
def pre18 (g a i n : Nat) : List UInt8 := (((([] ++ markL) ++ leB 8 g) ++ leB 2 a) ++ leB 2 i) ++ leB 2 n
def pre252 (g a i n : Nat) : List UInt8 := pre18 g a i n ++ List.replicate 234 0
theorem pre18_length (g a i n : Nat) : (pre18 g a i n).length = 18 := by simp [pre18, leB_length, markL]
theorem bodyL_eq (g a i n : Nat) : bodyL g a i n = pre18 g a i n ++ List.replicate 238 0 := by
  have h1 : layAt zeros 0 markL = ([] ++ markL) ++ List.replicate 252 0 := lay_at zeros [] markL 0 256 rfl rfl
  have h2 := lay_at _ _ (leB 8 g) 4 252 h1 rfl
  rw [leB_length] at h2
  have h3 := lay_at _ _ (leB 2 a) 12 244 h2 (by simp [leB_length, markL])
  rw [leB_length] at h3
  have h4 := lay_at _ _ (leB 2 i) 14 242 h3 (by simp [leB_length, markL])
  rw [leB_length] at h4
  have h5 := lay_at _ _ (leB 2 n) 16 240 h4 (by simp [leB_length, markL])
  rw [leB_length] at h5
  rw [bodyL, h5]; rfl
theorem pre252_length (g a i n : Nat) : (pre252 g a i n).length = 252 := by rw [pre252, List.length_append, pre18_length, List.length_replicate]
theorem body_split (g a i n : Nat) : bodyL g a i n = pre252 g a i n ++ List.replicate 4 0 := by
  rw [bodyL_eq, pre252, List.append_assoc, List.replicate_append_replicate]
theorem body_take (g a i n : Nat) : (bodyL g a i n).take 252 = pre252 g a i n := by
  rw [body_split, List.take_left' (pre252_length g a i n)]
theorem putL_eq (g a i n : Nat) : putL g a i n = pre252 g a i n ++ leB 4 (sumN (pre252 g a i n)) := by
  rw [putL, body_take, lay_at _ _ _ 252 4 (body_split g a i n) (pre252_length g a i n), leB_length]
  simp
theorem leNum_leB : ∀ (k n : Nat), n < 256 ^ k → leNum (leB k n) = n
  | 0, n, h => by simp at h; simp [leB, leNum, h]
  | k + 1, n, h => by
    have h2 : n / 256 < 256 ^ k := by rw [Nat.pow_succ] at h; omega
    simp only [leB, leNum, leNum_leB k _ h2]
    simp; omega
theorem getNum_leB (k n : Nat) (hk : k ≤ 8) (h : n < 256 ^ k) : getNum (leB k n) = n := by
  have e : pad8 (leB k n) = leB 8 n := by
    rw [pad8, List.take_of_length_le (by rw [leB_length]; exact hk), leB_length, ← leB_more k (8 - k) n h]
    congr 1; omega
  rw [getNum, e, leNum_leB 8 n (Nat.lt_of_lt_of_le h (Nat.pow_le_pow_right (by omega) hk))]
theorem sumN_lt (l : List UInt8) : sumN l < 4294967296 := Nat.xor_lt_two_pow (n := 32) (by omega) (crcF_lt _ _ (by omega))
theorem part_of (A x B : List UInt8) (o k : Nat) (hA : A.length = o) (hx : x.length = k) : ((A ++ x ++ B).drop o).take k = x := by
  rw [List.append_assoc, List.drop_left' hA, List.take_left' hx]
theorem put_parts (g a i n : Nat) : (putL g a i n).take 4 = markL ∧ (putL g a i n).drop 252 = leB 4 (sumN (pre252 g a i n)) ∧ (putL g a i n).take 252 = pre252 g a i n ∧
    ((putL g a i n).drop 4).take 8 = leB 8 g ∧ ((putL g a i n).drop 12).take 2 = leB 2 a ∧ ((putL g a i n).drop 14).take 2 = leB 2 i ∧ ((putL g a i n).drop 16).take 2 = leB 2 n := by
  have e := putL_eq g a i n
  have e2 : putL g a i n = markL ++ (leB 8 g ++ (leB 2 a ++ (leB 2 i ++ (leB 2 n ++ (List.replicate 234 0 ++ leB 4 (sumN (pre252 g a i n))))))) := by
    rw [e, pre252, pre18]; simp only [List.nil_append, List.append_assoc]
  refine ⟨?_, ?_, ?_, ?_, ?_, ?_, ?_⟩
  · rw [e2]; exact List.take_left' rfl
  · rw [e]; exact List.drop_left' (pre252_length g a i n)
  · rw [e]; exact List.take_left' (pre252_length g a i n)
  · rw [e2, List.drop_left' (show markL.length = 4 from rfl), List.take_left' (leB_length _ _)]
  · rw [e2, ← List.append_assoc, List.drop_left' (by simp [leB_length, markL]), List.take_left' (leB_length _ _)]
  · rw [e2, ← List.append_assoc, ← List.append_assoc, List.drop_left' (by simp [leB_length, markL]), List.take_left' (leB_length _ _)]
  · rw [e2, ← List.append_assoc, ← List.append_assoc, ← List.append_assoc, List.drop_left' (by simp [leB_length, markL]), List.take_left' (leB_length _ _)]
/-- What is put is got as it was. -/
theorem get_put (g a i n : Nat) (h : okS g a i n = true) : rdG (putL g a i n) = g ∧ rdA (putL g a i n) = a ∧ rdI (putL g a i n) = i ∧ rdN (putL g a i n) = n ∧ getE (putL g a i n) = 0 := by
  obtain ⟨p1, p2, p3, p4, p5, p6, p7⟩ := put_parts g a i n
  obtain ⟨h1, h2, hg⟩ := okS_iff.1 h
  have hb := hg.box
  have hn := hg.le16
  have hg0 : (1 : Int) ≤ n := by have := okG_iff.1 hg; omega
  have r1 : rdG (putL g a i n) = g := by
    rw [rdG, p4, getNum_leB 8 g (by omega) (by omega)]
    rw [IntKind.wrap_i64]; omega
  have r2 : rdA (putL g a i n) = a := by rw [rdA, p5, getNum_leB 2 a (by omega) (by omega)]
  have r3 : rdI (putL g a i n) = i := by rw [rdI, p6, getNum_leB 2 i (by omega) (by omega)]
  have r4 : rdN (putL g a i n) = n := by rw [rdN, p7, getNum_leB 2 n (by omega) (by omega)]
  refine ⟨r1, r2, r3, r4, ?_⟩
  rw [getE, if_neg (fun c => c (putL_length g a i n)), if_neg (fun c => c p1), if_neg (fun c => c (by rw [p2, p3, getNum_leB 4 _ (by omega) (by have := sumN_lt (pre252 g a i n); omega)])), r1, r2, r3, r4, if_neg (by rw [h]; simp), if_neg (fun c => c (by simp))]
/-- A byte that is another one is told. -/
theorem put_turned (g a i n : Nat) (j : Nat) (c : UInt8) (hj : j < 256) (hc : (putL g a i n)[j]'(by rw [putL_length]; exact hj) ≠ c) : getE ((putL g a i n).set j c) = 8 ∨ getE ((putL g a i n).set j c) = 7 := by
  obtain ⟨p1, p2, p3, -⟩ := put_parts g a i n
  have hlen : ((putL g a i n).set j c).length = 256 := by rw [List.length_set, putL_length]
  by_cases hm : ((putL g a i n).set j c).take 4 = markL
  · right
    have hsum : getNum (((putL g a i n).set j c).drop 252) ≠ sumN (((putL g a i n).set j c).take 252) := by
      have e := putL_eq g a i n
      have hl := pre252_length g a i n
      by_cases hj2 : j < 252
      · have e1 : (putL g a i n).set j c = (pre252 g a i n).set j c ++ leB 4 (sumN (pre252 g a i n)) := by
          rw [e, List.set_append_left _ _ (by omega)]
        rw [e1, List.drop_left' (by rw [List.length_set]; exact hl), List.take_left' (by rw [List.length_set]; exact hl), getNum_leB 4 _ (by omega) (by have := sumN_lt (pre252 g a i n); omega)]
        refine sumN_set _ j c (by omega) ?_
        intro h
        apply hc
        have : (putL g a i n)[j]'(by rw [putL_length]; exact hj) = (pre252 g a i n)[j]'(by omega) := by
          simp only [e]; exact List.getElem_append_left (by omega)
        rw [this]; exact h.symm
      · have e1 : (putL g a i n).set j c = pre252 g a i n ++ (leB 4 (sumN (pre252 g a i n))).set (j - 252) c := by
          rw [e, List.set_append_right _ _ (by omega), hl]
        rw [e1, List.drop_left' hl, List.take_left' hl]
        intro h
        have h4 : ((leB 4 (sumN (pre252 g a i n))).set (j - 252) c).length = 4 := by rw [List.length_set, leB_length]
        have key : ∀ (x y : List UInt8), x.length = 4 → y.length = 4 → getNum x = getNum y → x = y := by
          intro x y hx hy hxy
          match x, y, hx, hy with
          | [x0, x1, x2, x3], [y0, y1, y2, y3], _, _ =>
            simp [getNum, pad8, leNum] at hxy
            have a0 := x0.toNat_lt; have a1 := x1.toNat_lt; have a2 := x2.toNat_lt; have a3 := x3.toNat_lt
            have b0 := y0.toNat_lt; have b1 := y1.toNat_lt; have b2 := y2.toNat_lt; have b3 := y3.toNat_lt
            obtain rfl : x0 = y0 := UInt8.toNat_inj.1 (by omega)
            obtain rfl : x1 = y1 := UInt8.toNat_inj.1 (by omega)
            obtain rfl : x2 = y2 := UInt8.toNat_inj.1 (by omega)
            obtain rfl : x3 = y3 := UInt8.toNat_inj.1 (by omega)
            rfl
        have h5 := key _ (leB 4 (sumN (pre252 g a i n))) h4 (leB_length _ _) (by rw [h, getNum_leB 4 _ (by omega) (by have := sumN_lt (pre252 g a i n); omega)])
        apply hc
        have h6 : (putL g a i n)[j]'(by rw [putL_length]; exact hj) = (leB 4 (sumN (pre252 g a i n)))[j - 252]'(by rw [leB_length]; omega) := by
          simp only [e]; rw [List.getElem_append_right (by omega)]; simp only [hl]
        rw [h6]
        have h7 : ((leB 4 (sumN (pre252 g a i n))).set (j - 252) c)[j - 252]'(by rw [h4]; omega) = c := List.getElem_set_self _
        have h8 := congrArg (fun x : List UInt8 => x[j - 252]?) h5
        rw [List.getElem?_eq_getElem (by rw [h4]; omega), List.getElem?_eq_getElem (by rw [leB_length]; omega)] at h8
        exact (Option.some.inj h8).symm.trans h7
    rw [getE, if_neg (fun c => c hlen), if_neg (fun c => c hm), if_pos hsum]
  · left
    rw [getE, if_neg (fun c => c hlen), if_pos hm]
end Go.Proofs.YtjdfkbpadhndlaaDoor
