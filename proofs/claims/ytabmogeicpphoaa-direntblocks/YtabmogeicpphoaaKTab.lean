/- inode.start, Read, Lay, and the document's. -/
import Derived.Test.YtabmogeicpphoaaJ6
import Derived.Test.YtabmogeicpphoaaKNLay
namespace Go.Proofs.Ytabmogeicpphoaa
open Go.RowKit
/-- The error of a place of a block. -/
def stE (n : Nat) (p : Int) : Int := if n = 256 then (if 0 ≤ p ∧ p < 4 then 0 else 3) else 4
def stP (n : Nat) (p : Int) : Int := if n = 256 then (if 0 ≤ p ∧ p < 4 then p * 64 else 0) else 0
set_option maxHeartbeats 1000000 in
theorem start_any (sp : Option Addr) (n cap : Nat) (p : Int) (w : World) :
    Calls Try.prog 58 #[.slice sp n cap, .int .i64 p] w fun e w' => e = .returned (.tuple #[.int .i64 (stP n p), .int .i64 (stE n p)]) ∧ w' = w := by
  unfold stP stE
  by_cases hn : (n : Int) = 256
  · have hn' : n = 256 := by omega
    rw [if_pos hn', if_pos hn']
    clear hn'
    by_cases h0 : p < 0
    · rw [if_neg (by omega), if_neg (by omega)]
      go_enter Try.func58, Try.ntmps58
      go_wp2
      go_ret2
      exact ⟨rfl, rfl⟩
    by_cases h1 : 4 ≤ p
    · rw [if_neg (by omega), if_neg (by omega)]
      go_enter Try.func58, Try.ntmps58
      go_wp2
      go_ret2
      exact ⟨rfl, rfl⟩
    · rw [if_pos (by omega), if_pos (by omega)]
      go_enter Try.func58, Try.ntmps58
      go_wp2
      go_ret2
      exact ⟨rfl, rfl⟩
  · have hn' : ¬ n = 256 := by omega
    rw [if_neg hn', if_neg hn']
    clear hn'
    go_enter Try.func58, Try.ntmps58
    go_wp2
    go_ret2
    exact ⟨rfl, rfl⟩
/-- The 64 bytes at a place. -/
def part64 (l : List UInt8) (p : Int) : List UInt8 := (l.drop (64 * p.toNat)).take 64
def readV (l : List UInt8) (p : Int) : Ino := if stE l.length p = 0 then getV (part64 l p) else zino
def readE (l : List UInt8) (p : Int) : Int := if stE l.length p = 0 then getE (part64 l p) else stE l.length p
theorem stE_zero {n : Nat} {p : Int} (h : stE n p = 0) : n = 256 ∧ 0 ≤ p ∧ p < 4 := by
  unfold stE at h
  by_cases h1 : n = 256
  · rw [if_pos h1] at h
    by_cases h2 : 0 ≤ p ∧ p < 4
    · exact ⟨h1, h2⟩
    · rw [if_neg h2] at h; omega
  · rw [if_neg h1] at h; omega
theorem readV_length (l : List UInt8) (p : Int) : (readV l p).ns.length = 8 := by
  unfold readV; split
  · exact getV_length _
  · rfl
theorem part64_length {l : List UInt8} {p : Int} (h : stE l.length p = 0) : (part64 l p).length = 64 := by
  obtain ⟨h1, h2, h3⟩ := stE_zero h
  simp [part64, h1]; omega
theorem Arg.part {w : World} {b off cap : Nat} {l : List UInt8} (h : Arg w (some ⟨b, off, none⟩) cap l) (o k : Nat) (h0 : 0 < k) (hl : o + k ≤ l.length) : Arg w (some ⟨b, off + o, none⟩) (cap - o) ((l.drop o).take k) := by
  have la := h.len
  have hs := h.src.part o k (by omega) hl
  exact .inr ⟨b, off + o, rfl, by omega, by simp; omega, by omega, by simp; omega, hs⟩
set_option maxHeartbeats 4000000 in
theorem ireadT_ok (b off cap : Nat) (l : List UInt8) (P : Nat) (hl : l.length = 256) (hP : (P : Int) < 4) (w : World) (ha : Arg w (some ⟨b, off, none⟩) cap l) :
    Calls Try.prog 25 #[.slice (some ⟨b, off, none⟩) 256 cap, .int .i64 (P : Int)] w fun e w' => e = .returned (.tuple #[.agg (iA (getV ((l.drop (64 * P)).take 64))), .int .i64 (getE ((l.drop (64 * P)).take 64))]) ∧ Below w.heap.size w w' := by
  have la := ha.len
  have hz := zeroI
  have HB : Hid (Below w.heap.size w (w.alloc (.cells (iA zino) 24))) := (Below.refl _ _).alloc (Nat.le_refl _) _
  have HI : Hid (InoAt (w.alloc (.cells (iA zino) 24)) w.heap.size zino) := ino_new w zino rfl
  have hsl := slice_sl b off 256 cap (64 * P) 64 ((P : Int) * 64) ((P : Int) * 64 + 64) (by omega) (by omega) (by omega) (by omega)
  have GT := fun W (h : Below w.heap.size w W) => iget_any (some ⟨b, off + 64 * P, none⟩) (cap - 64 * P) ((l.drop (64 * P)).take 64) W ((ha.part (64 * P) 64 (by omega) (by omega)).below h (Nat.le_refl _))
  rw [show ((l.drop (64 * P)).take 64).length = 64 by simp [hl]; omega] at GT
  have HL : Hid ((getV ((l.drop (64 * P)).take 64)).ns.length = 8) := getV_length _
  generalize getV ((l.drop (64 * P)).take 64) = X at *
  generalize getE ((l.drop (64 * P)).take 64) = E at *
  clear ha
  have ST := start_any (some ⟨b, off, none⟩) 256 cap (P : Int)
  rw [show stP 256 (P : Int) = (P : Int) * 64 by unfold stP; rw [if_pos rfl, if_pos (by omega)], show stE 256 (P : Int) = 0 by unfold stE; rw [if_pos rfl, if_pos (by omega)]] at ST
  go_enter Try.func25, Try.ntmps25
  go_wp2_with fail
  refine (ST _).mono ?_
  rintro e w1 ⟨rfl, hw1⟩
  rw [hw1]
  clear hw1 w1 ST
  go_wp2_with fail
  refine (GT _ HB.out).mono ?_
  rintro e w2 ⟨rfl, h2⟩
  have HI2 : Hid _ := HI.out.up h2
  have HB2 : Hid (Below w.heap.size w w2) := HB.out.trans (h2.mono HB.out.size)
  clear HI HB GT h2
  go_wp2_with (first | ((with_reducible show wpList _ _ _ ({ dst := _, op := Op.store 24 _ _, type := _, pos := _, after := _, guard := _ } :: _) _ _); refine wpList_store_ino rfl _ _ rfl (HI2.out) HL.out rfl rfl ?_; intro w4 H4 b4 z4))
  exact bodyPost_ret (results_ino rfl _ H4 rfl) rfl ⟨rfl, HB2.out.trans b4⟩
set_option maxHeartbeats 4000000 in
theorem ireadT_no (sp : Option Addr) (n cap : Nat) (p E : Int) (hE : stE n p = E) (h0 : ¬ E = 0) (w : World) :
    Calls Try.prog 25 #[.slice sp n cap, .int .i64 p] w fun e w' => e = .returned (.tuple #[.agg (iA zino), .int .i64 E]) ∧ Below w.heap.size w w' := by
  have hz := zeroI
  have HB : Hid (Below w.heap.size w (w.alloc (.cells (iA zino) 24))) := (Below.refl _ _).alloc (Nat.le_refl _) _
  have HI : Hid (InoAt (w.alloc (.cells (iA zino) 24)) w.heap.size zino) := ino_new w zino rfl
  have ST := start_any sp n cap p
  rw [hE] at ST
  generalize stP n p = P at ST
  clear hE
  go_enter Try.func25, Try.ntmps25
  go_wp2_with fail
  refine (ST _).mono ?_
  rintro e w1 ⟨rfl, hw1⟩
  rw [hw1]
  clear hw1 w1 ST
  go_wp2_with (first | ((with_reducible show wpList _ _ _ ({ dst := _, op := Op.store 24 _ _, type := _, pos := _, after := _, guard := _ } :: _) _ _); refine wpList_store_ino rfl _ _ rfl (HI.out) rfl rfl rfl ?_; intro w4 H4 b4 z4))
  exact bodyPost_ret (results_ino rfl _ H4 rfl) rfl ⟨rfl, HB.out.trans b4⟩
theorem ireadT_any (sp : Option Addr) (cap : Nat) (l : List UInt8) (p : Int) (w : World) (ha : Arg w sp cap l) :
    Calls Try.prog 25 #[.slice sp l.length cap, .int .i64 p] w fun e w' => e = .returned (.tuple #[.agg (iA (readV l p)), .int .i64 (readE l p)]) ∧ Below w.heap.size w w' := by
  unfold readV readE
  by_cases h0 : stE l.length p = 0
  · rw [if_pos h0, if_pos h0]
    obtain ⟨h1, h2, h3⟩ := stE_zero h0
    obtain ⟨P, rfl⟩ := Int.eq_ofNat_of_zero_le h2
    obtain ⟨b, off, rfl, _, _⟩ := ha.src.at' (by omega)
    rw [h1]
    unfold part64
    rw [Int.toNat_natCast]
    exact ireadT_ok b off cap l P h1 h3 w ha
  · rw [if_neg h0, if_neg h0]
    exact ireadT_no sp l.length cap p _ rfl h0 w
set_option maxHeartbeats 4000000 in
theorem rreadT_ok (b off cap : Nat) (l : List UInt8) (P : Nat) (hl : l.length = 256) (hP : (P : Int) < 4) (w : World) (ha : Arg w (some ⟨b, off, none⟩) cap l) :
    Calls Try.prog 26 #[.slice (some ⟨b, off, none⟩) 256 cap, .int .i64 (P : Int)] w fun e w' => e = .returned (.tuple #[.agg (iA (getV ((l.drop (64 * P)).take 64))), .int .i64 (getE ((l.drop (64 * P)).take 64))]) ∧ Below w.heap.size w w' := by
  have la := ha.len
  have hz := zeroI
  have HB : Hid (Below w.heap.size w (w.alloc (.cells (iA zino) 24))) := (Below.refl _ _).alloc (Nat.le_refl _) _
  have HI : Hid (InoAt (w.alloc (.cells (iA zino) 24)) w.heap.size zino) := ino_new w zino rfl
  have hsl := slice_sl b off 256 cap (64 * P) 64 (64 * (P : Int)) (64 * (P : Int) + 64) (by omega) (by omega) (by omega) (by omega)
  have GT := fun W (h : Below w.heap.size w W) => rget7_any (some ⟨b, off + 64 * P, none⟩) (cap - 64 * P) ((l.drop (64 * P)).take 64) W ((ha.part (64 * P) 64 (by omega) (by omega)).below h (Nat.le_refl _))
  rw [show ((l.drop (64 * P)).take 64).length = 64 by simp [hl]; omega] at GT
  have HL : Hid ((getV ((l.drop (64 * P)).take 64)).ns.length = 8) := getV_length _
  generalize getV ((l.drop (64 * P)).take 64) = X at *
  generalize getE ((l.drop (64 * P)).take 64) = E at *
  clear ha
  have d0 : ¬ (P : Int) < 0 := by omega
  have d3 : ¬ (3 : Int) < (P : Int) := by omega
  go_enter Try.func26, Try.ntmps26
  go_wp2_with fail
  refine (GT _ HB.out).mono ?_
  rintro e w2 ⟨rfl, h2⟩
  have HI2 : Hid _ := HI.out.up h2
  have HB2 : Hid (Below w.heap.size w w2) := HB.out.trans (h2.mono HB.out.size)
  clear HI HB GT h2
  go_wp2_with (first | ((with_reducible show wpList _ _ _ ({ dst := _, op := Op.store 24 _ _, type := _, pos := _, after := _, guard := _ } :: _) _ _); refine wpList_store_ino rfl _ _ rfl (HI2.out) HL.out rfl rfl ?_; intro w4 H4 b4 z4))
  exact bodyPost_ret (results_ino rfl _ H4 rfl) rfl ⟨rfl, HB2.out.trans b4⟩
set_option maxHeartbeats 4000000 in
theorem rreadT_no (sp : Option Addr) (n cap : Nat) (p E : Int) (hE : stE n p = E) (h0 : ¬ E = 0) (w : World) :
    Calls Try.prog 26 #[.slice sp n cap, .int .i64 p] w fun e w' => e = .returned (.tuple #[.agg (iA zino), .int .i64 E]) ∧ Below w.heap.size w w' := by
  have hz := zeroI
  have HB : Hid (Below w.heap.size w (w.alloc (.cells (iA zino) 24))) := (Below.refl _ _).alloc (Nat.le_refl _) _
  have HI : Hid (InoAt (w.alloc (.cells (iA zino) 24)) w.heap.size zino) := ino_new w zino rfl
  unfold stE at hE
  by_cases hn : (n : Int) = 256
  · rw [if_pos (by omega)] at hE
    by_cases g0 : p < 0
    · rw [if_neg (by omega)] at hE
      subst hE
      go_enter Try.func26, Try.ntmps26
      go_wp2_with (first | ((with_reducible show wpList _ _ _ ({ dst := _, op := Op.store 24 _ _, type := _, pos := _, after := _, guard := _ } :: _) _ _); refine wpList_store_ino rfl _ _ rfl (HI.out) rfl rfl rfl ?_; intro w4 H4 b4 z4))
      exact bodyPost_ret (results_ino rfl _ H4 rfl) rfl ⟨rfl, HB.out.trans b4⟩
    by_cases g1 : 3 < p
    · rw [if_neg (by omega)] at hE
      subst hE
      go_enter Try.func26, Try.ntmps26
      go_wp2_with (first | ((with_reducible show wpList _ _ _ ({ dst := _, op := Op.store 24 _ _, type := _, pos := _, after := _, guard := _ } :: _) _ _); refine wpList_store_ino rfl _ _ rfl (HI.out) rfl rfl rfl ?_; intro w4 H4 b4 z4))
      exact bodyPost_ret (results_ino rfl _ H4 rfl) rfl ⟨rfl, HB.out.trans b4⟩
    · rw [if_pos (by omega)] at hE
      exact absurd hE.symm h0
  · rw [if_neg (by omega)] at hE
    subst hE
    go_enter Try.func26, Try.ntmps26
    go_wp2_with (first | ((with_reducible show wpList _ _ _ ({ dst := _, op := Op.store 24 _ _, type := _, pos := _, after := _, guard := _ } :: _) _ _); refine wpList_store_ino rfl _ _ rfl (HI.out) rfl rfl rfl ?_; intro w4 H4 b4 z4))
    exact bodyPost_ret (results_ino rfl _ H4 rfl) rfl ⟨rfl, HB.out.trans b4⟩
theorem rreadT_any (sp : Option Addr) (cap : Nat) (l : List UInt8) (p : Int) (w : World) (ha : Arg w sp cap l) :
    Calls Try.prog 26 #[.slice sp l.length cap, .int .i64 p] w fun e w' => e = .returned (.tuple #[.agg (iA (readV l p)), .int .i64 (readE l p)]) ∧ Below w.heap.size w w' := by
  unfold readV readE
  by_cases h0 : stE l.length p = 0
  · rw [if_pos h0, if_pos h0]
    obtain ⟨h1, h2, h3⟩ := stE_zero h0
    obtain ⟨P, rfl⟩ := Int.eq_ofNat_of_zero_le h2
    obtain ⟨b, off, rfl, _, _⟩ := ha.src.at' (by omega)
    rw [h1]
    unfold part64
    rw [Int.toNat_natCast]
    exact rreadT_ok b off cap l P h1 h3 w ha
  · rw [if_neg h0, if_neg h0]
    exact rreadT_no sp l.length cap p _ rfl h0 w
end Go.Proofs.Ytabmogeicpphoaa
