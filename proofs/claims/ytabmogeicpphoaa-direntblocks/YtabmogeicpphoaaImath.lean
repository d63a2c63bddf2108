/- Get of Put is the inode. -/
import Derived.Test.YtabmogeicpphoaaIknown
namespace Go.Proofs.Ytabmogeicpphoaa
open Go.RowKit
theorem leNum_leB : ∀ n x, x < 256 ^ n → leNum (leB n x) = x
  | 0, x, h => by simp at h; simp [leB, leNum, h]
  | n + 1, x, h => by
    have h2 : x / 256 < 256 ^ n := by rw [Nat.pow_succ] at h; exact Nat.div_lt_of_lt_mul (by omega)
    have e : (UInt8.ofNat (x % 256)).toNat = x % 256 := by simp
    rw [leB, leNum, leNum_leB n (x / 256) h2, e]
    omega
theorem getNum_leB (n x : Nat) (hn : n ≤ 8) (h : x < 256 ^ n) : getNum (leB n x) = x := by
  rw [getNum_le (by rw [leB_length]; exact hn), leNum_leB n x h]
theorem layN_at : ∀ (k : Nat) (ns : List Int) (Z : List UInt8), k < ns.length → (((layN ns ++ Z).drop (2 * k)).take 2) = leB 2 (ns.getD k 0).toNat
  | 0, x :: r, Z, _ => by
    simp only [layN, Nat.mul_zero, List.drop_zero, List.append_assoc]
    rw [List.take_left' (leB_length _ _)]; rfl
  | k + 1, x :: r, Z, h => by
    simp only [layN, List.append_assoc]
    rw [show 2 * (k + 1) = 2 + 2 * k by omega, ← List.drop_drop, List.drop_left' (leB_length _ _)]
    have := layN_at k r Z (by simpa using h)
    simpa using this
theorem layI_name {i : Ino} (hn : i.ns.length = 8) (hr : InR i) (k : Nat) (hk : k < 8) : rdNm (layI i) k = i.ns.getD k 0 := by
  have hx := hr.ns k
  unfold rdNm rdP layI
  rw [List.append_assoc, ← List.drop_drop, List.drop_left' (headL_length i), layN_at k i.ns _ (by omega), getNum_leB 2 _ (by omega) (by omega)]
  omega
theorem drop2 (a b : UInt8) (Z : List UInt8) : List.drop 2 ([a, b] ++ Z) = Z := rfl
theorem drop4 (a b : UInt8) (x : Nat) (Z : List UInt8) : List.drop 4 ([a, b] ++ (leB 2 x ++ Z)) = Z := by
  obtain ⟨c, d, h⟩ := two_of (leB_length 2 x)
  rw [h]; rfl
theorem drop8 (a b : UInt8) (x y : Nat) (Z : List UInt8) : List.drop 8 ([a, b] ++ (leB 2 x ++ (leB 4 y ++ Z))) = Z := by
  obtain ⟨c, d, h⟩ := two_of (leB_length 2 x)
  obtain ⟨e, f, g, k, h2⟩ := four_of (leB_length 4 y)
  rw [h, h2]; rfl
theorem rd_lay {i : Ino} (hn : i.ns.length = 8) (hr : InR i) : rdI (layI i) = i := by
  have hk := hr.k
  have hl := hr.l
  have hs := hr.s
  have hd := hr.d
  have e5 : rdNs (layI i) = i.ns := by
    unfold rdNs
    apply List.ext_getElem
    · simp [hn]
    · intro j h1 h2
      rw [List.getElem_map, List.getElem_range, layI_name hn hr j (by omega)]
      simp [h2]
  have e0 : nth (layI i) 0 = i.k := by
    have : (layI i).getD 0 0 = UInt8.ofNat i.k.toNat := rfl
    unfold nth
    rw [this]
    have : (UInt8.ofNat i.k.toNat).toNat = i.k.toNat := by simp; omega
    rw [this]; omega
  have hL : ∀ Z : List UInt8, headL i ++ Z = [UInt8.ofNat i.k.toNat, 0] ++ (leB 2 i.l.toNat ++ (leB 4 i.s.toNat ++ (leB 8 i.d.toNat ++ Z))) := by intro Z; simp [headL]
  have e1 : rdP (layI i) 2 2 = i.l.toNat := by
    unfold rdP layI
    rw [List.append_assoc, hL, drop2, List.take_left' (leB_length _ _), getNum_leB 2 _ (by omega) (by omega)]
  have e2 : rdP (layI i) 4 4 = i.s.toNat := by
    unfold rdP layI
    rw [List.append_assoc, hL, drop4, List.take_left' (leB_length _ _), getNum_leB 4 _ (by omega) (by omega)]
  have e3 : rdP (layI i) 8 8 = i.d.toNat := by
    unfold rdP layI
    rw [List.append_assoc, hL, drop8, List.take_left' (leB_length _ _), getNum_leB 8 _ (by omega) (by omega)]
  have ew : IntKind.i64.wrap (i.d.toNat : Int) = i.d := by rw [IntKind.wrap_i64]; omega
  unfold rdI
  rw [e0, e1, e2, e3, e5, ew, show ((i.l.toNat : Nat) : Int) = i.l by omega, show ((i.s.toNat : Nat) : Int) = i.s by omega]
theorem form_lay {i : Ino} (hn : i.ns.length = 8) (hr : rtB i = true) : formI (layI i) = true := by
  unfold formI
  rw [rd_lay hn (rtB_inR hr), hr]; simp
theorem get_lay {i : Ino} (hn : i.ns.length = 8) (hr : rtB i = true) : getV (layI i) = i ∧ getE (layI i) = 0 := by
  unfold getV getE getI
  rw [if_pos (layI_length hn), if_pos (layI_length hn), form_lay hn hr, if_pos rfl, if_pos rfl, rd_lay hn (rtB_inR hr)]
  exact ⟨rfl, rfl⟩
/-- What Put answers. -/
def putX (i : Ino) : List UInt8 := if rtB i then layI i else []
def putE (i : Ino) : Int := if rtB i then 0 else 1
theorem putX_le {i : Ino} (hn : i.ns.length = 8) : (putX i).length ≤ 64 := by
  unfold putX; split
  · rw [layI_length hn]; omega
  · simp
theorem iput_any (i : Ino) (hn : i.ns.length = 8) (w : World) :
    Calls Try.prog 9 #[.agg (iA i)] w fun e w' => ∃ sp cap, e = .returned (.tuple #[.slice sp (putX i).length cap, .int .i64 (putE i)]) ∧ Arg w' sp cap (putX i) ∧ (∀ b o, sp = some ⟨b, o, none⟩ → w.heap.size ≤ b) ∧ Below w.heap.size w w' := by
  unfold putX putE
  cases hr : rtB i
  · refine (iput_no i hn hr w).mono ?_
    rintro e w' ⟨rfl, hb⟩
    exact ⟨none, 0, rfl, .inl ⟨rfl, by simp⟩, (fun _ _ h => by cases h), hb⟩
  · refine (iput_yes i hn hr w).mono ?_
    rintro e w' ⟨G, rfl, hg, hG, hb⟩
    have hl := layI_length hn
    refine ⟨some ⟨G, 0, none⟩, 64, ?_, ?_, (fun b o h => by cases h; exact hG), hb⟩
    · rw [if_pos rfl, if_pos rfl, hl]
    · have := hg.arg (by omega) (by omega)
      rw [hl] at this
      exact this
theorem rput7_any (i : Ino) (hn : i.ns.length = 8) (w : World) :
    Calls Try.prog 10 #[.agg (iA i)] w fun e w' => ∃ sp cap, e = .returned (.tuple #[.slice sp (putX i).length cap, .int .i64 (putE i)]) ∧ Arg w' sp cap (putX i) ∧ (∀ b o, sp = some ⟨b, o, none⟩ → w.heap.size ≤ b) ∧ Below w.heap.size w w' := by
  unfold putX putE
  cases hr : rtB i
  · refine (rput7_no i hn hr w).mono ?_
    rintro e w' ⟨rfl, hb⟩
    exact ⟨none, 0, rfl, .inl ⟨rfl, by simp⟩, (fun _ _ h => by cases h), hb⟩
  · refine (rput7_yes i hn hr w).mono ?_
    rintro e w' ⟨v, rfl, ho, hb⟩
    have hl := layI_length hn
    obtain ⟨ao, cap, rfl, ha⟩ := ho.arg (by omega)
    refine ⟨ao, cap, rfl, ha, fun b o h => ?_, hb⟩
    subst h
    have := ho.lt b rfl
    exact this.1
end Go.Proofs.Ytabmogeicpphoaa
