/- dirent.start, Read, and the document's. -/
import Derived.Test.YtabmogeicpphoaaKTab
import Derived.Test.YtabmogeicpphoaaJ10
namespace Go.Proofs.Ytabmogeicpphoaa
open Go.RowKit
/-- The error of a place of a block. -/
def dstE (n : Nat) (p : Int) : Int := if n = 256 then (if 0 ≤ p ∧ p < 8 then 0 else 3) else 4
def dstP (n : Nat) (p : Int) : Int := if n = 256 then (if 0 ≤ p ∧ p < 8 then p * 32 else 0) else 0
set_option maxHeartbeats 1000000 in
theorem dstart_any (sp : Option Addr) (n cap : Nat) (p : Int) (w : World) :
    Calls Try.prog 65 #[.slice sp n cap, .int .i64 p] w fun e w' => e = .returned (.tuple #[.int .i64 (dstP n p), .int .i64 (dstE n p)]) ∧ w' = w := by
  unfold dstP dstE
  by_cases hn : (n : Int) = 256
  · have hn' : n = 256 := by omega
    rw [if_pos hn', if_pos hn']
    clear hn'
    by_cases h0 : p < 0
    · rw [if_neg (by omega), if_neg (by omega)]
      go_enter Try.func65, Try.ntmps65
      go_wp2
      go_ret2
      exact ⟨rfl, rfl⟩
    by_cases h1 : 8 ≤ p
    · rw [if_neg (by omega), if_neg (by omega)]
      go_enter Try.func65, Try.ntmps65
      go_wp2
      go_ret2
      exact ⟨rfl, rfl⟩
    · rw [if_pos (by omega), if_pos (by omega)]
      go_enter Try.func65, Try.ntmps65
      go_wp2
      go_ret2
      exact ⟨rfl, rfl⟩
  · have hn' : ¬ n = 256 := by omega
    rw [if_neg hn', if_neg hn']
    clear hn'
    go_enter Try.func65, Try.ntmps65
    go_wp2
    go_ret2
    exact ⟨rfl, rfl⟩
/-- The 32 bytes at a place. -/
def part32 (l : List UInt8) (p : Int) : List UInt8 := (l.drop (32 * p.toNat)).take 32
def ereadV (l : List UInt8) (p : Int) : Ent := if dstE l.length p = 0 then egetV (part32 l p) else zent
def ereadE (l : List UInt8) (p : Int) : Int := if dstE l.length p = 0 then egetE (part32 l p) else dstE l.length p
theorem dstE_zero {n : Nat} {p : Int} (h : dstE n p = 0) : n = 256 ∧ 0 ≤ p ∧ p < 8 := by
  unfold dstE at h
  by_cases h1 : n = 256
  · rw [if_pos h1] at h
    by_cases h2 : 0 ≤ p ∧ p < 8
    · exact ⟨h1, h2⟩
    · rw [if_neg h2] at h; omega
  · rw [if_neg h1] at h; omega
theorem part32_length {l : List UInt8} {p : Int} (h : dstE l.length p = 0) : (part32 l p).length = 32 := by
  obtain ⟨h1, h2, h3⟩ := dstE_zero h
  simp [part32, h1]; omega
set_option maxHeartbeats 4000000 in
theorem dreadT_ok (b off cap : Nat) (l : List UInt8) (P : Nat) (hl : l.length = 256) (hP : (P : Int) < 8) (w : World) (ha : Arg w (some ⟨b, off, none⟩) cap l) :
    Calls Try.prog 37 #[.slice (some ⟨b, off, none⟩) 256 cap, .int .i64 (P : Int)] w fun e w' => e = .returned (.tuple #[.agg (eA (egetV ((l.drop (32 * P)).take 32))), .int .i64 (egetE ((l.drop (32 * P)).take 32))]) ∧ Below w.heap.size w w' := by
  have la := ha.len
  have hz := zeroE
  have HB : Hid (Below w.heap.size w (w.alloc (.cells (eA zent) 48))) := (Below.refl _ _).alloc (Nat.le_refl _) _
  have HI : Hid (EntAt (w.alloc (.cells (eA zent) 48)) w.heap.size zent) := ent_new w zent
  have hsl := slice_sl b off 256 cap (32 * P) 32 ((P : Int) * 32) ((P : Int) * 32 + 32) (by omega) (by omega) (by omega) (by omega)
  have GT := fun W (h : Below w.heap.size w W) => eget_any (some ⟨b, off + 32 * P, none⟩) (cap - 32 * P) ((l.drop (32 * P)).take 32) W ((ha.part (32 * P) 32 (by omega) (by omega)).below h (Nat.le_refl _))
  rw [show ((l.drop (32 * P)).take 32).length = 32 by simp [hl]; omega] at GT
  generalize egetV ((l.drop (32 * P)).take 32) = X at *
  generalize egetE ((l.drop (32 * P)).take 32) = E at *
  clear ha
  have ST := dstart_any (some ⟨b, off, none⟩) 256 cap (P : Int)
  rw [show dstP 256 (P : Int) = (P : Int) * 32 by unfold dstP; rw [if_pos rfl, if_pos (by omega)], show dstE 256 (P : Int) = 0 by unfold dstE; rw [if_pos rfl, if_pos (by omega)]] at ST
  go_enter Try.func37, Try.ntmps37
  go_wp2_with fail
  refine (ST _).mono ?_
  rintro e w1 ⟨rfl, hw1⟩
  rw [hw1]
  clear hw1 w1 ST
  go_wp2_with fail
  refine (GT _ HB.out).mono ?_
  rintro e w2 ⟨rfl, h2⟩
  have HI2 : Hid _ := HI.out.up h2
  have HB2 : Hid (Below w.heap.size w w2) := HB.out.trans (h2.mono HB.out.size)
  clear HI HB GT h2
  go_wp2_with (first | ((with_reducible show wpList _ _ _ ({ dst := _, op := Op.store 48 _ _, type := _, pos := _, after := _, guard := _ } :: _) _ _); refine wpList_store_ent rfl _ _ rfl (HI2.out) rfl rfl ?_; intro w4 H4 b4 z4))
  exact bodyPost_ret (results_ent rfl _ H4 rfl) rfl ⟨rfl, HB2.out.trans b4.bel⟩
set_option maxHeartbeats 4000000 in
theorem dreadT_no (sp : Option Addr) (n cap : Nat) (p E : Int) (hE : dstE n p = E) (h0 : ¬ E = 0) (w : World) :
    Calls Try.prog 37 #[.slice sp n cap, .int .i64 p] w fun e w' => e = .returned (.tuple #[.agg (eA zent), .int .i64 E]) ∧ Below w.heap.size w w' := by
  have hz := zeroE
  have HB : Hid (Below w.heap.size w (w.alloc (.cells (eA zent) 48))) := (Below.refl _ _).alloc (Nat.le_refl _) _
  have HI : Hid (EntAt (w.alloc (.cells (eA zent) 48)) w.heap.size zent) := ent_new w zent
  have ST := dstart_any sp n cap p
  rw [hE] at ST
  generalize dstP n p = P at ST
  clear hE
  go_enter Try.func37, Try.ntmps37
  go_wp2_with fail
  refine (ST _).mono ?_
  rintro e w1 ⟨rfl, hw1⟩
  rw [hw1]
  clear hw1 w1 ST
  go_wp2_with (first | ((with_reducible show wpList _ _ _ ({ dst := _, op := Op.store 48 _ _, type := _, pos := _, after := _, guard := _ } :: _) _ _); refine wpList_store_ent rfl _ _ rfl (HI.out) rfl rfl ?_; intro w4 H4 b4 z4))
  exact bodyPost_ret (results_ent rfl _ H4 rfl) rfl ⟨rfl, HB.out.trans b4.bel⟩
theorem dreadT_any (sp : Option Addr) (cap : Nat) (l : List UInt8) (p : Int) (w : World) (ha : Arg w sp cap l) :
    Calls Try.prog 37 #[.slice sp l.length cap, .int .i64 p] w fun e w' => e = .returned (.tuple #[.agg (eA (ereadV l p)), .int .i64 (ereadE l p)]) ∧ Below w.heap.size w w' := by
  unfold ereadV ereadE
  by_cases h0 : dstE l.length p = 0
  · rw [if_pos h0, if_pos h0]
    obtain ⟨h1, h2, h3⟩ := dstE_zero h0
    obtain ⟨P, rfl⟩ := Int.eq_ofNat_of_zero_le h2
    obtain ⟨b, off, rfl, _, _⟩ := ha.src.at' (by omega)
    rw [h1]
    unfold part32
    rw [Int.toNat_natCast]
    exact dreadT_ok b off cap l P h1 h3 w ha
  · rw [if_neg h0, if_neg h0]
    exact dreadT_no sp l.length cap p _ rfl h0 w
set_option maxHeartbeats 4000000 in
theorem rdreadT_ok (b off cap : Nat) (l : List UInt8) (P : Nat) (hl : l.length = 256) (hP : (P : Int) < 8) (w : World) (ha : Arg w (some ⟨b, off, none⟩) cap l) :
    Calls Try.prog 38 #[.slice (some ⟨b, off, none⟩) 256 cap, .int .i64 (P : Int)] w fun e w' => e = .returned (.tuple #[.agg (eA (egetV ((l.drop (32 * P)).take 32))), .int .i64 (egetE ((l.drop (32 * P)).take 32))]) ∧ Below w.heap.size w w' := by
  have la := ha.len
  have hz := zeroE
  have HB : Hid (Below w.heap.size w (w.alloc (.cells (eA zent) 48))) := (Below.refl _ _).alloc (Nat.le_refl _) _
  have HI : Hid (EntAt (w.alloc (.cells (eA zent) 48)) w.heap.size zent) := ent_new w zent
  have hsl := slice_sl b off 256 cap (32 * P) 32 (32 * (P : Int)) (32 * (P : Int) + 32) (by omega) (by omega) (by omega) (by omega)
  have GT := fun W (h : Below w.heap.size w W) => rget8_any (some ⟨b, off + 32 * P, none⟩) (cap - 32 * P) ((l.drop (32 * P)).take 32) W ((ha.part (32 * P) 32 (by omega) (by omega)).below h (Nat.le_refl _))
  rw [show ((l.drop (32 * P)).take 32).length = 32 by simp [hl]; omega] at GT
  generalize egetV ((l.drop (32 * P)).take 32) = X at *
  generalize egetE ((l.drop (32 * P)).take 32) = E at *
  clear ha
  have d0 : ¬ (P : Int) < 0 := by omega
  have d7 : ¬ (7 : Int) < (P : Int) := by omega
  go_enter Try.func38, Try.ntmps38
  go_wp2_with fail
  refine (GT _ HB.out).mono ?_
  rintro e w2 ⟨rfl, h2⟩
  have HI2 : Hid _ := HI.out.up h2
  have HB2 : Hid (Below w.heap.size w w2) := HB.out.trans (h2.mono HB.out.size)
  clear HI HB GT h2
  go_wp2_with (first | ((with_reducible show wpList _ _ _ ({ dst := _, op := Op.store 48 _ _, type := _, pos := _, after := _, guard := _ } :: _) _ _); refine wpList_store_ent rfl _ _ rfl (HI2.out) rfl rfl ?_; intro w4 H4 b4 z4))
  exact bodyPost_ret (results_ent rfl _ H4 rfl) rfl ⟨rfl, HB2.out.trans b4.bel⟩
set_option maxHeartbeats 4000000 in
theorem rdreadT_no (sp : Option Addr) (n cap : Nat) (p E : Int) (hE : dstE n p = E) (h0 : ¬ E = 0) (w : World) :
    Calls Try.prog 38 #[.slice sp n cap, .int .i64 p] w fun e w' => e = .returned (.tuple #[.agg (eA zent), .int .i64 E]) ∧ Below w.heap.size w w' := by
  have hz := zeroE
  have HB : Hid (Below w.heap.size w (w.alloc (.cells (eA zent) 48))) := (Below.refl _ _).alloc (Nat.le_refl _) _
  have HI : Hid (EntAt (w.alloc (.cells (eA zent) 48)) w.heap.size zent) := ent_new w zent
  unfold dstE at hE
  by_cases hn : (n : Int) = 256
  · rw [if_pos (by omega)] at hE
    by_cases g0 : p < 0
    · rw [if_neg (by omega)] at hE
      subst hE
      go_enter Try.func38, Try.ntmps38
      go_wp2_with (first | ((with_reducible show wpList _ _ _ ({ dst := _, op := Op.store 48 _ _, type := _, pos := _, after := _, guard := _ } :: _) _ _); refine wpList_store_ent rfl _ _ rfl (HI.out) rfl rfl ?_; intro w4 H4 b4 z4))
      exact bodyPost_ret (results_ent rfl _ H4 rfl) rfl ⟨rfl, HB.out.trans b4.bel⟩
    by_cases g1 : 7 < p
    · rw [if_neg (by omega)] at hE
      subst hE
      go_enter Try.func38, Try.ntmps38
      go_wp2_with (first | ((with_reducible show wpList _ _ _ ({ dst := _, op := Op.store 48 _ _, type := _, pos := _, after := _, guard := _ } :: _) _ _); refine wpList_store_ent rfl _ _ rfl (HI.out) rfl rfl ?_; intro w4 H4 b4 z4))
      exact bodyPost_ret (results_ent rfl _ H4 rfl) rfl ⟨rfl, HB.out.trans b4.bel⟩
    · rw [if_pos (by omega)] at hE
      exact absurd hE.symm h0
  · rw [if_neg (by omega)] at hE
    subst hE
    go_enter Try.func38, Try.ntmps38
    go_wp2_with (first | ((with_reducible show wpList _ _ _ ({ dst := _, op := Op.store 48 _ _, type := _, pos := _, after := _, guard := _ } :: _) _ _); refine wpList_store_ent rfl _ _ rfl (HI.out) rfl rfl ?_; intro w4 H4 b4 z4))
    exact bodyPost_ret (results_ent rfl _ H4 rfl) rfl ⟨rfl, HB.out.trans b4.bel⟩
theorem rdreadT_any (sp : Option Addr) (cap : Nat) (l : List UInt8) (p : Int) (w : World) (ha : Arg w sp cap l) :
    Calls Try.prog 38 #[.slice sp l.length cap, .int .i64 p] w fun e w' => e = .returned (.tuple #[.agg (eA (ereadV l p)), .int .i64 (ereadE l p)]) ∧ Below w.heap.size w w' := by
  unfold ereadV ereadE
  by_cases h0 : dstE l.length p = 0
  · rw [if_pos h0, if_pos h0]
    obtain ⟨h1, h2, h3⟩ := dstE_zero h0
    obtain ⟨P, rfl⟩ := Int.eq_ofNat_of_zero_le h2
    obtain ⟨b, off, rfl, _, _⟩ := ha.src.at' (by omega)
    rw [h1]
    unfold part32
    rw [Int.toNat_natCast]
    exact rdreadT_ok b off cap l P h1 h3 w ha
  · rw [if_neg h0, if_neg h0]
    exact rdreadT_no sp l.length cap p _ rfl h0 w
end Go.Proofs.Ytabmogeicpphoaa
