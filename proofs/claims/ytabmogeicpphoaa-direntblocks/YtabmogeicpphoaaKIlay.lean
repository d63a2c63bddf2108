/- The bytes of an inode, as inode.lay lays them. -/
import Derived.Test.YtabmogeicpphoaaJ1
import Derived.Test.YtabmogeicpphoaaJ2
namespace Go.Proofs.Ytabmogeicpphoaa
open Go.RowKit
def z64 : List UInt8 := List.replicate 64 0
theorem z64_length : z64.length = 64 := List.length_replicate
/-- The names from the place 16 on. -/
def layN : List Int → List UInt8
  | [] => []
  | x :: r => leB 2 x.toNat ++ layN r
theorem layN_length : ∀ l : List Int, (layN l).length = 2 * l.length
  | [] => rfl
  | x :: r => by simp [layN, leB_length, layN_length r]; omega
theorem layN_append : ∀ a b : List Int, layN (a ++ b) = layN a ++ layN b
  | [], b => rfl
  | x :: r, b => by simp [layN, layN_append r b]
/-- The first 16 bytes. -/
def headL (i : Ino) : List UInt8 := [UInt8.ofNat i.k.toNat, 0] ++ leB 2 i.l.toNat ++ leB 4 i.s.toNat ++ leB 8 i.d.toNat
theorem headL_length (i : Ino) : (headL i).length = 16 := by simp [headL, leB_length]
def layI (i : Ino) : List UInt8 := headL i ++ layN i.ns ++ List.replicate 32 0
theorem layI_length {i : Ino} (h : i.ns.length = 8) : (layI i).length = 64 := by simp [layI, headL_length, layN_length, h]
theorem four_of {l : List UInt8} (h : l.length = 4) : ∃ a b c d, l = [a, b, c, d] := by
  match l, h with
  | [a, b, c, d], _ => exact ⟨a, b, c, d, rfl⟩
theorem two_of {l : List UInt8} (h : l.length = 2) : ∃ x y, l = [x, y] := by
  match l, h with
  | [x, y], _ => exact ⟨x, y, rfl⟩
/-- The four parts ahead of the names, one behind the other. -/
theorem head_laid (b : UInt8) (i : Ino) : layAt (layAt (layAt (z64.set 0 b) 2 (leB 2 i.l.toNat)) 4 (leB 4 i.s.toNat)) 8 (leB 8 i.d.toNat) = [b, 0] ++ leB 2 i.l.toNat ++ leB 4 i.s.toNat ++ leB 8 i.d.toNat ++ List.replicate 48 0 := by
  obtain ⟨a0, a1, h0⟩ := two_of (leB_length 2 i.l.toNat)
  obtain ⟨b0, b1, b2, b3, h1⟩ := four_of (leB_length 4 i.s.toNat)
  obtain ⟨c0, c1, c2, c3, c4, c5, c6, c7, h2⟩ := eight (leB_length 8 i.d.toNat)
  rw [h0, h1, h2]
  rfl
/-- One name more. -/
theorem name_laid (H : List UInt8) (hH : H.length = 16) (ns : List Int) (hn : ns.length = 8) (k : Nat) (hk : k < 8) :
    layAt (H ++ layN (ns.take k) ++ List.replicate (48 - 2 * k) 0) (16 + 2 * k) (leB 2 (ns.getD k 0).toNat) = H ++ layN (ns.take (k + 1)) ++ List.replicate (48 - 2 * (k + 1)) 0 := by
  have e : ns.getD k 0 = ns[k] := by simp [show k < ns.length by omega]
  have hA : (H ++ layN (ns.take k)).length = 16 + 2 * k := by simp [layN_length, hH, hn]; omega
  rw [List.take_succ_eq_append_getElem (by omega), layN_append, e]
  unfold layAt
  have hd : List.drop (16 + 2 * k + 2) (H ++ layN (ns.take k) ++ List.replicate (48 - 2 * k) (0 : UInt8)) = List.replicate (48 - 2 * (k + 1)) 0 := by
    rw [List.drop_append, List.drop_eq_nil_of_le (by omega), hA, List.drop_replicate, List.nil_append]
    congr 1
    omega
  rw [List.take_left' hA, leB_length, hd]
  simp [layN]
end Go.Proofs.Ytabmogeicpphoaa
