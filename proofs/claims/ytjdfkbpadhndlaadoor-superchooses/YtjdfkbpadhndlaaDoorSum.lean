/- num.Sum, for every slice of bytes, the table of four bits laid as the program lays it. -/
import Derived.Test.YtjdfkbpadhndlaaDoorBase
namespace Go.Proofs.YtjdfkbpadhndlaaDoor
open Go.RowKit
def tab : List Nat := [0, 498536548, 997073096, 651767980, 1994146192, 1802195444, 1303535960, 1342533948, 3988292384, 4027552580, 3604390888, 3412177804, 2607071920, 2262029012, 2685067896, 3183342108]
def tabAt (i : Nat) : Nat := tab.getD i 0
theorem tabAt_lt (i : Nat) : tabAt i < 4294967296 := by
  unfold tabAt
  rw [List.getD_eq_getElem?_getD]
  rcases Nat.lt_or_ge i tab.length with h | h
  · rw [List.getElem?_eq_getElem h]
    have : ∀ x ∈ tab, x < 4294967296 := by decide
    exact this _ (List.getElem_mem h)
  · rw [List.getElem?_eq_none h]; simp
/-- The package's table lies as its text lays it. -/
def Tab (w : World) : Prop := ∀ i, i < 16 → w.cell? ⟨0, i, none⟩ = some (.int .u32 (tabAt i : Int))
theorem Tab.below {w w' : World} (h : Tab w) {B : Nat} (hb : Below B w w') (hB : 0 < B) : Tab w' := fun i hi => (hb.cell (p := ⟨0, i, none⟩) hB).trans (h i hi)
/-- Four bits. -/
def nib (s : Nat) : Nat := (s / 16) ^^^ tabAt (s % 16)
theorem nib_lt (s : Nat) (h : s < 4294967296) : nib s < 4294967296 := by
  unfold nib; exact Nat.xor_lt_two_pow (n := 32) (by omega) (tabAt_lt _)
def crcB (s b : Nat) : Nat := nib (nib (s ^^^ b))
theorem crcB_lt (s b : Nat) (h : s < 4294967296) (hb : b < 256) : crcB s b < 4294967296 :=
  nib_lt _ (nib_lt _ (Nat.xor_lt_two_pow (n := 32) h (by omega)))
def crcF (l : List UInt8) (s : Nat) : Nat := l.foldl (fun s b => crcB s b.toNat) s
theorem crcF_lt : ∀ (l : List UInt8) (s : Nat), s < 4294967296 → crcF l s < 4294967296
  | [], _, h => h
  | b :: r, s, h => crcF_lt r _ (crcB_lt s b.toNat h b.toNat_lt)
theorem crcF_step (l : List UInt8) (s k : Nat) (h : k < l.length) : crcF (l.take (k + 1)) s = crcB (crcF (l.take k) s) (l.getD k 0).toNat := by
  rw [List.take_succ_eq_append_getElem h]; simp only [crcF, List.foldl_append, List.foldl_cons, List.foldl_nil]; simp [h]
/-- The sum of l. -/
def sumN (l : List UInt8) : Nat := 4294967295 ^^^ crcF l 4294967295
/-- Four bits, as the walk writes them. -/
theorem nib_walk (w : World) (ht : Tab w) (s : Nat) (h : s < 4294967296) : ∃ i t : Nat, i < 16 ∧ bits .and .u32 (s : Int) 15 = (i : Int) ∧ w.cell? ⟨0, i, none⟩ = some (.int .u32 (t : Int)) ∧ bits .xor .u32 ((s : Int) / 16) (t : Int) = (nib s : Int) := by
  have e := u32_and_nat s 15 h (by omega)
  rw [Nat.and_two_pow_sub_one_eq_mod s 4] at e
  have e2 := u32_xor_nat (s / 16) (tabAt (s % 16)) (by omega) (tabAt_lt _)
  refine ⟨s % 16, tabAt (s % 16), by omega, e, ht _ (by omega), ?_⟩
  rw [← show nib s = s / 16 ^^^ tabAt (s % 16) from rfl] at e2
  exact_mod_cast e2
theorem not_u32 (s : Nat) (h : s < 4294967296) : bits .xor .u32 IntKind.u32.max (s : Int) = ((4294967295 ^^^ s : Nat) : Int) := u32_xor_nat 4294967295 s (by omega) h
theorem ret_u32 {a b : Int} (h : a = b) : Ending.returned (.int .u32 a) = .returned (.int .u32 b) := by rw [h]
set_option maxHeartbeats 1000000 in
theorem sum_any (sp : Option Addr) (l : List UInt8) (cap : Nat) (w : World) (hs : Src w sp l) (ht : Tab w) (hl : (l.length : Int) ≤ 140737488355328) :
    Calls Tryd.prog 24 #[.slice sp l.length cap] w fun e w' => e = .returned (.int .u32 (sumN l : Int)) ∧ w' = w := by
  go_enter Tryd.func24, Tryd.ntmps24
  go_wp2
  go_loop [3, 7] (fun n i => ∃ k : Nat, k ≤ l.length ∧ i = .int .i64 k ∧ n = .int .u32 (crcF (l.take k) 4294967295 : Nat)) (fun _ i => l.length - (intOf i).toNat)
  case atStart => exact ⟨0, by omega, rfl, by simp [crcF]⟩
  case round =>
    obtain ⟨k, hk, rfl, rfl⟩ := hrel
    have hlt0 := crcF_lt (l.take k) 4294967295 (by omega)
    obtain ⟨s, HS⟩ : ∃ s, Hid (s = crcF (l.take k) 4294967295) := ⟨_, rfl⟩
    rw [← HS.out] at hlt0 ⊢
    by_cases hlt : (k : Int) < l.length
    · obtain ⟨b, off, rfl, hb, cs⟩ := hs.at' (by omega)
      have c1 : w.cell? ⟨b, off + k, none⟩ = some (.int .u8 (nth l k)) := (cs k (by omega)).trans (by rw [bv_nth])
      have hn := (l.getD k 0).toNat_lt
      have hx0 := u32_xor_nat s (l.getD k 0).toNat hlt0 (by omega)
      have hs1 : s ^^^ (l.getD k 0).toNat < 4294967296 := Nat.xor_lt_two_pow (n := 32) hlt0 (by omega)
      obtain ⟨i1, t1, hi1, ha1, hc1, hx1⟩ := nib_walk w ht _ hs1
      obtain ⟨i2, t2, hi2, ha2, hc2, hx2⟩ := nib_walk w ht _ (nib_lt _ hs1)
      have HE : Hid (nib (nib (s ^^^ (l.getD k 0).toNat)) = crcF (l.take (k + 1)) 4294967295) := by
        show _ = _; rw [crcF_step l _ k (by omega), ← HS.out]; rfl
      have hx : bits .xor .u32 (s : Int) (nth l k % 4294967296) = ((s ^^^ (l.getD k 0).toNat : Nat) : Int) := by
        rw [← hx0, Int.emod_eq_of_lt (nth_lo _ _) (by have := nth_hi l k; omega)]; rfl
      generalize s ^^^ (l.getD k 0).toNat = s1 at *
      generalize nib s1 = s2 at *
      generalize nib s2 = s3 at *
      clear cs hs ht hx0 hn
      go_wp2
      go_round
      case rel => exact ⟨k + 1, by omega, by go_num, by rw [← HE.out]⟩
      case measure => simp [intOf]; omega
    · go_wp2
      go_ret
      refine ⟨ret_u32 ?_, rfl⟩
      rw [not_u32 s hlt0, HS.out, List.take_of_length_le (by omega)]; rfl
end Go.Proofs.YtjdfkbpadhndlaaDoor
