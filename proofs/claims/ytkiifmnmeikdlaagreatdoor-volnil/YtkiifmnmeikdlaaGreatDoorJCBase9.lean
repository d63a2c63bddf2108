/- Words and small laws for the proofs of this seat: bytes in memory, slices that read as bytes. No statement of the seat is proved here. -/
import Derived.Test.YtkiifmnmeikdlaaGreatDoorProg
import Derived.WalkKit
import Derived.Laws.CopyOwn
import Derived.LoopN
import Derived.Laws.BytesArg
import Derived.Lib.SlBytesConst
import Derived.OwnWalk
import Derived.Deep.QuietTactic
import Derived.BigQuiet
import Derived.WalkSmall
import Derived.Deep.RegionHeld3
namespace Go.Proofs.YtkiifmnmeikdlaaGreatDoor
open Go.RowKit
set_option maxRecDepth 100000

def bv (b : UInt8) : Value := .int .u8 (b.toNat : Int)
def bvs (l : List UInt8) : List Value := l.map bv
/-- Block g of the heap is a row of the bytes l, none of them frozen. -/
def Blk (w : World) (g : Nat) (t : TypeId) (l : List UInt8) : Prop := w.heap[g]? = some (.cells (bvs l).toArray t (0, 0))
/-- From the address sp on lie the bytes l (of none: whatever the address). -/
def Src (w : World) (sp : Option Addr) (l : List UInt8) : Prop :=
  l = [] ∨ ∃ b off, sp = some ⟨b, off, none⟩ ∧ b < w.heap.size ∧ ∀ j, (h : j < l.length) → w.cell? ⟨b, off + j, none⟩ = some (bv l[j])

theorem addr_add (b off j : Nat) : (⟨b, off, none⟩ : Addr).add j = ⟨b, off + j, none⟩ := by unfold Addr.add; split <;> simp_all
theorem bvs_length (l : List UInt8) : (bvs l).length = l.length := by simp [bvs]
theorem bvs_one (l : List UInt8) : ∀ v ∈ bvs l, v.oneCell' = true := by
  intro v hv; simp only [bvs, List.mem_map] at hv; obtain ⟨b, _, rfl⟩ := hv; rfl
theorem bvs_append (a b : List UInt8) : bvs (a ++ b) = bvs a ++ bvs b := by simp [bvs]
theorem bvs_take (k : Nat) (l : List UInt8) : bvs (l.take k) = (bvs l).take k := by simp [bvs, List.map_take]
theorem bvs_drop (k : Nat) (l : List UInt8) : bvs (l.drop k) = (bvs l).drop k := by simp [bvs, List.map_drop]
theorem bvs_rep (k : Nat) : bvs (List.replicate k 0) = List.replicate k (.int .u8 0) := by simp [bvs, bv]

theorem Blk.cell {w : World} {g : Nat} {t : TypeId} {l : List UInt8} (h : Blk w g t l) (j : Nat) (hj : j < l.length) : w.cell? ⟨g, j, none⟩ = some (bv l[j]) := by
  rw [cell_of_row w g j _ _ _ h]; simp [bvs, hj]
theorem Blk.frozen {w : World} {g : Nat} {t : TypeId} {l : List UInt8} (h : Blk w g t l) (j : Nat) : w.frozen? ⟨g, j, none⟩ = false := frozen_of_row w g j _ _ h
theorem Blk.lt {w : World} {g : Nat} {t : TypeId} {l : List UInt8} (h : Blk w g t l) : g < w.heap.size := (Array.getElem?_eq_some_iff.1 h).1
theorem Blk.below {w w' : World} {g B : Nat} {t : TypeId} {l : List UInt8} (h : Blk w g t l) (hb : Below B w w') (hg : g < B) : Blk w' g t l := by
  unfold Blk; rw [hb.block g hg]; exact h
theorem Blk.src {w : World} {g : Nat} {t : TypeId} {l : List UInt8} (h : Blk w g t l) : Src w (some ⟨g, 0, none⟩) l :=
  .inr ⟨g, 0, rfl, h.lt, fun j hj => by rw [Nat.zero_add]; exact h.cell j hj⟩
theorem Blk.srcOff {w : World} {g : Nat} {t : TypeId} {l : List UInt8} (h : Blk w g t l) (o n : Nat) : Src w (some ⟨g, o, none⟩) ((l.drop o).take n) :=
  .inr ⟨g, o, rfl, h.lt, fun j hj => by
    simp only [List.length_take, List.length_drop] at hj
    rw [h.cell (o + j) (by omega)]; simp⟩
theorem Src.below {w w' : World} {sp : Option Addr} {l : List UInt8} (h : Src w sp l) {B : Nat} (hb : Below B w w') (hB : w.heap.size ≤ B) : Src w' sp l := by
  rcases h with h | ⟨b, off, h1, h2, h3⟩
  · exact .inl h
  · exact .inr ⟨b, off, h1, by have := hb.size; omega, fun j hj => (hb.cell (p := ⟨b, off + j, none⟩) (show b < B by omega)).trans (h3 j hj)⟩
theorem Src.nil (w : World) (sp : Option Addr) : Src w sp [] := .inl rfl
theorem Src.cell {w : World} {b off : Nat} {l : List UInt8} (h : Src w (some ⟨b, off, none⟩) l) (j : Nat) (hj : j < l.length) : w.cell? ⟨b, off + j, none⟩ = some (bv l[j]) := by
  rcases h with h | ⟨b', off', h1, _, h3⟩
  · subst h; simp at hj
  · obtain ⟨rfl, rfl⟩ : b = b' ∧ off = off' := by simpa using h1
    exact h3 j hj
theorem Src.at' {w : World} {sp : Option Addr} {l : List UInt8} (h : Src w sp l) (hl : 0 < l.length) : ∃ b off, sp = some ⟨b, off, none⟩ ∧ b < w.heap.size ∧ ∀ j, (h : j < l.length) → w.cell? ⟨b, off + j, none⟩ = some (bv l[j]) := by
  rcases h with h | h
  · subst h; simp at hl
  · exact h
theorem Src.pos {w : World} {sp : Option Addr} {l : List UInt8} (h : Src w sp l) (k : Nat) (hl : 0 < (bvs (l.take k)).length) :
    ∃ ad, sp = some ad ∧ ∀ j v, (bvs (l.take k))[j]? = some v → w.cell? (ad.add j) = some v := by
  rcases h with h | ⟨b, off, h1, h2, h3⟩
  · subst h; simp [bvs] at hl
  · refine ⟨_, h1, fun j v hv => ?_⟩
    have hj : j < (bvs (l.take k)).length := by
      rcases Nat.lt_or_ge j (bvs (l.take k)).length with h | h
      · exact h
      · rw [List.getElem?_eq_none h] at hv; cases hv
    rw [List.getElem?_eq_getElem hj] at hv
    simp only [bvs, List.length_map, List.length_take] at hj
    rw [addr_add, h3 j (by omega)]
    simpa [bvs] using hv

/-- The first eight bytes, with 0 behind the last. -/
def pad8 (l : List UInt8) : List UInt8 := l.take 8 ++ List.replicate (8 - l.length) 0
theorem pad8_length (l : List UInt8) : (pad8 l).length = 8 := by simp [pad8]; omega
theorem splice_pad8 (l : List UInt8) : splice (List.replicate 8 (Value.int .u8 0)) 0 (bvs (l.take 8)) = bvs (pad8 l) := by
  simp only [splice, pad8, bvs_append, bvs_rep, bvs_length, List.take_zero, List.nil_append, List.drop_replicate, List.length_take]
  congr 2
  omega
theorem eight {l : List UInt8} (h : l.length = 8) : ∃ a b c d e f g i, l = [a, b, c, d, e, f, g, i] := by
  match l, h with
  | [a, b, c, d, e, f, g, i], _ => exact ⟨a, b, c, d, e, f, g, i, rfl⟩

/-- The number whose bytes, the lowest first, are the first eight of l. -/
def leNum : List UInt8 → Nat
  | [] => 0
  | b :: r => b.toNat + 256 * leNum r
def getNum (l : List UInt8) : Nat := leNum (pad8 l)
theorem or_join (a b : Int) (k : Nat) (h0 : 0 ≤ a) (h1 : a < 2 ^ k) (h2 : 0 ≤ b) (h3 : b * 2 ^ k < 18446744073709551616) (hk : k ≤ 64) : bits .or .u64 a (b * 2 ^ k) = a + b * 2 ^ k := by
  obtain ⟨A, rfl⟩ := Int.eq_ofNat_of_zero_le h0
  obtain ⟨B, rfl⟩ := Int.eq_ofNat_of_zero_le h2
  have e : ((B : Int) * 2 ^ k) = ((B * 2 ^ k : Nat) : Int) := by simp
  have hA : A < 2 ^ k := by
    have : ((A : Nat) : Int) < ((2 ^ k : Nat) : Int) := by simpa using h1
    exact Int.ofNat_lt.1 this
  have hAA : A < 18446744073709551616 := by
    have : 2 ^ k ≤ 2 ^ 64 := Nat.pow_le_pow_right (by omega) hk
    omega
  rw [e, bits_or_u64_nat A (B * 2 ^ k) hAA (by rw [e] at h3; omega)]
  have : A ||| B * 2 ^ k = A + B * 2 ^ k := by
    rw [Nat.or_comm, Nat.mul_comm, ← Nat.two_pow_add_eq_or_of_lt hA]; omega
  rw [this]; simp
/-- The k-th byte as a number. -/
def nth (l : List UInt8) (k : Nat) : Int := ((l.getD k 0).toNat : Int)
theorem nth_lo (l : List UInt8) (k : Nat) : 0 ≤ nth l k := by unfold nth; omega
theorem nth_hi (l : List UInt8) (k : Nat) : nth l k ≤ 255 := by
  unfold nth; have := (l.getD k 0).toNat_lt; omega
theorem bv_nth {l : List UInt8} {k : Nat} (h : k < l.length) : bv l[k] = .int .u8 (nth l k) := by simp [bv, nth, h]
theorem leNum_lt : ∀ l : List UInt8, leNum l < 2 ^ (8 * l.length)
  | [] => by simp [leNum]
  | b :: r => by
    have h := leNum_lt r
    have hb := b.toNat_lt
    have e : 2 ^ (8 * (r.length + 1)) = 256 * 2 ^ (8 * r.length) := by rw [Nat.mul_add, Nat.pow_add]; omega
    simp only [leNum, List.length_cons]; rw [e]; omega
theorem leNum_snoc : ∀ (l : List UInt8) (c : UInt8), leNum (l ++ [c]) = leNum l + c.toNat * 2 ^ (8 * l.length)
  | [], c => by simp [leNum]
  | b :: r, c => by
    have h := leNum_snoc r c
    have e : 2 ^ (8 * (r.length + 1)) = 256 * 2 ^ (8 * r.length) := by rw [Nat.mul_add, Nat.pow_add]; omega
    simp only [leNum, List.cons_append, List.length_cons, h, e]
    rw [Nat.mul_add, Nat.add_assoc, Nat.mul_left_comm]
theorem leNum_step (l : List UInt8) (k : Nat) (h : k < l.length) : (leNum (l.take (k + 1)) : Int) = leNum (l.take k) + nth l k * 2 ^ (8 * k) := by
  rw [List.take_succ_eq_append_getElem h, leNum_snoc]
  have e : (l.take k).length = k := by simp; omega
  rw [e]; simp [nth, h]
/-- One round of Get: the next byte laid above those that are there. -/
theorem get_step (l : List UInt8) (k : Nat) (hk : k < 8) (h : k < l.length) :
    bits .or .u64 (leNum (l.take k) : Int) (IntKind.u64.wrap (IntKind.u64.wrap (nth l k) * 2 ^ (8 * k))) = (leNum (l.take (k + 1)) : Int) := by
  have h1 := nth_lo l k
  have h2 := nth_hi l k
  have h3 := leNum_lt (l.take k)
  have e : (l.take k).length = k := by simp; omega
  rw [e] at h3
  have h4 : (leNum (l.take k) : Int) < 2 ^ (8 * k) := by exact_mod_cast h3
  have h5 : nth l k * 2 ^ (8 * k) < 18446744073709551616 := by
    have ha : nth l k * 2 ^ (8 * k) ≤ 255 * 2 ^ (8 * k) := Int.mul_le_mul_of_nonneg_right h2 (Int.pow_nonneg (by omega))
    have hb : (2 : Int) ^ (8 * k) ≤ 2 ^ 56 := by
      have : 2 ^ (8 * k) ≤ 2 ^ 56 := Nat.pow_le_pow_right (by omega) (by omega)
      exact_mod_cast this
    omega
  have h6 : 0 ≤ nth l k * 2 ^ (8 * k) := Int.mul_nonneg h1 (Int.pow_nonneg (by omega))
  have e1 : IntKind.u64.wrap (nth l k) = nth l k := by rw [IntKind.wrap_u64]; omega
  rw [e1, IntKind.wrap_u64, Int.emod_eq_of_lt h6 h5, or_join _ _ _ (by omega) h4 h1 h5 (by omega), leNum_step l k h]
theorem Tryz.elem1 : (Tryz.prog.info? 5).map (·.size) = some 1 := by kernel_rfl
/-- A string of these bytes. -/
def str (l : List UInt8) : ByteArray := ⟨l.toArray⟩
theorem str_inj {a b : List UInt8} (h : str a = str b) : a = b := by
  have := congrArg (fun s : ByteArray => s.data.toList) h
  simpa [str] using this
theorem strOfNums_bytes (l : List UInt8) : strOfNums (l.map fun b => (b.toNat : Int)) = str l := by
  unfold strOfNums str
  congr 2
  rw [List.map_map]
  conv => rhs; rw [← List.map_id l]
  apply List.map_congr_left
  intro b _; simp
/-- 'string(b)'. -/
theorem conv_str {w : World} {sp : Option Addr} {l : List UInt8} (h : Src w sp l) (n cap : Nat) (hn : n = l.length) : (convert 42 9 (.slice sp n cap)).run Tryz.prog w = .ok (.string (str l)) w := by
  subst hn
  cases sp with
  | none =>
    have : l = [] := by
      rcases h with h | ⟨b, off, h1, _⟩
      · exact h
      · cases h1
    subst this
    exact run_convert_bytes_nil w 42 5 Tryz.underlying42 Tryz.underlying5 _ _ 9 Tryz.underlying9
  | some ad =>
    rcases h with h | ⟨b, off, h1, h2, h3⟩
    · subst h
      rw [run_convert_bytes_string w 42 9 5 _ _ _ Tryz.underlying42 Tryz.underlying5 Tryz.underlying9, run_bytesToString w ad _ cap [] (by simp [loadCells, loadCellsFrom])]
      rfl
    · cases h1
      rw [run_convert_bytes_arg w 42 5 Tryz.underlying42 Tryz.underlying5 b off l.length cap (l.map fun b => (b.toNat : Int)) (by simp) (fun i hi => by rw [h3 i hi]; simp [bv, hi]) 9 Tryz.underlying9, strOfNums_bytes]
end Go.Proofs.YtkiifmnmeikdlaaGreatDoor
/- num.Put, into a slice that is a whole block; a law for the builtin clear. -/
namespace Go.Proofs.YtkiifmnmeikdlaaGreatDoor
open Go.RowKit
set_option maxRecDepth 100000

/-- 'clear' of a slice without elements. -/
theorem run_clear_none {P : Program} (dT ty elem : TypeId) (hu : P.underlying dT = some (.slice elem)) (dp : Option Addr) (dCap : Nat) (w : World) :
    (Builtin.clear_ #[dT] ty #[.slice dp 0 dCap]).run P w = .ok (.tuple #[]) w := by
  cases dp <;> simp [Builtin.clear_, run_underlying hu]

/-- The bytes of n, the lowest first, so many. -/
def leB : Nat → Nat → List UInt8
  | 0, _ => []
  | k + 1, n => UInt8.ofNat (n % 256) :: leB k (n / 256)
theorem leB_length : ∀ k n, (leB k n).length = k
  | 0, _ => rfl
  | k + 1, n => by simp [leB, leB_length k]
theorem leB_take : ∀ k m n, k ≤ m → (leB m n).take k = leB k n
  | 0, _, _, _ => by simp [leB]
  | k + 1, 0, _, h => by omega
  | k + 1, m + 1, n, h => by simp [leB, leB_take k m (n / 256) (by omega)]
theorem byte_ofNat (n : Nat) : bv (UInt8.ofNat (n % 256)) = .int .u8 ((n : Int) % 256) := by
  simp [bv]
theorem eight_row (n : Nat) (h1 : (n : Int) < 18446744073709551616) : (#[Value.int IntKind.u8 ((n : Int) % 256), Value.int IntKind.u8 ((n : Int) / 256 % 256), Value.int IntKind.u8 ((n : Int) / 65536 % 256), Value.int IntKind.u8 ((n : Int) / 16777216 % 256), Value.int IntKind.u8 ((n : Int) / 4294967296 % 256), Value.int IntKind.u8 ((n : Int) / 1099511627776 % 256), Value.int IntKind.u8 ((n : Int) / 281474976710656 % 256), Value.int IntKind.u8 ((n : Int) / 72057594037927936)] : Array Value) = (bvs (leB 8 n)).toArray := by
  simp only [leB, bvs, List.map_cons, List.map_nil, byte_ofNat]
  congr 2
  refine List.cons_eq_cons.2 ⟨by congr 1, ?_⟩
  refine List.cons_eq_cons.2 ⟨by congr 1; omega, ?_⟩
  refine List.cons_eq_cons.2 ⟨by congr 1; omega, ?_⟩
  refine List.cons_eq_cons.2 ⟨by congr 1; omega, ?_⟩
  refine List.cons_eq_cons.2 ⟨by congr 1; omega, ?_⟩
  refine List.cons_eq_cons.2 ⟨by congr 1; omega, ?_⟩
  refine List.cons_eq_cons.2 ⟨by congr 1; omega, ?_⟩
  rfl
end Go.Proofs.YtkiifmnmeikdlaaGreatDoor
/- num.Put, into a part of a block of at most eight bytes. -/
namespace Go.Proofs.YtkiifmnmeikdlaaGreatDoor
open Go.RowKit
set_option maxRecDepth 100000
/-- Bytes laid over others from the place o on. -/
def layAt (cur : List UInt8) (o : Nat) (x : List UInt8) : List UInt8 := cur.take o ++ x ++ cur.drop (o + x.length)
theorem layAt_length (cur : List UInt8) (o : Nat) (x : List UInt8) (h : o + x.length ≤ cur.length) : (layAt cur o x).length = cur.length := by
  simp [layAt]; omega
theorem putAt_copy (g : Nat) (t : TypeId) (cur : List UInt8) (o L cap : Nat) (n : Nat) (h1 : (n : Int) < 18446744073709551616) (hL1 : 1 ≤ L) (hL : L ≤ 8) (ho : o + L ≤ cur.length) (w : World) (hg : Blk w g t cur) :
    ∃ w1, Sem.run Tryz.prog (Builtin.copy_ #[42, 42] 3 #[.slice (some ⟨g, o, none⟩) L cap, .slice (some ⟨w.heap.size, 0, none⟩) 8 8]) (w.alloc (Obj.cells #[Value.int IntKind.u8 ((n : Int) % 256), Value.int IntKind.u8 ((n : Int) / 256 % 256), Value.int IntKind.u8 ((n : Int) / 65536 % 256), Value.int IntKind.u8 ((n : Int) / 16777216 % 256), Value.int IntKind.u8 ((n : Int) / 4294967296 % 256), Value.int IntKind.u8 ((n : Int) / 1099511627776 % 256), Value.int IntKind.u8 ((n : Int) / 281474976710656 % 256), Value.int IntKind.u8 ((n : Int) / 72057594037927936)] 36)) = .ok (.int .i64 (L : Nat)) w1 ∧
      Blk w1 g t (layAt cur o (leB L n)) ∧ Below g w w1 := by
  have hgl := hg.lt
  rw [eight_row n h1]
  have hnew : Blk (w.alloc (Obj.cells (bvs (leB 8 n)).toArray 36)) w.heap.size 36 (leB 8 n) := heap_alloc_new _ _
  have hold : Blk (w.alloc (Obj.cells (bvs (leB 8 n)).toArray 36)) g t cur := (Below.heap_alloc _ _ _ hgl).trans hg
  have hlen : (leB L n).length = L := leB_length _ _
  have hk := leB_take L 8 n hL
  have hsrc := (hnew.src).pos L
  rw [hk] at hsrc
  obtain ⟨ad, had, hcs⟩ := hsrc (by rw [bvs_length, hlen]; omega)
  cases had
  have hrun := run_copy_row (P := Tryz.prog) _ 42 42 3 5 g o L cap ⟨w.heap.size, 0, none⟩ 8 8 (bvs cur).toArray t (bvs (leB L n)) Tryz.underlying42 Tryz.elem1 hold (by rw [bvs_length, hlen]; exact (Nat.min_eq_right hL).symm) hcs (by simp only [bvs_length, hlen, List.size_toArray]; omega) (bvs_one _)
  rw [bvs_length, hlen] at hrun
  refine ⟨_, hrun, ?_, below_setRow ((Below.refl _ _).alloc (by omega) _) (Nat.le_refl _) _⟩
  have := setRow_heap _ g _ ((bvs cur).toArray.toList.take o ++ bvs (leB L n) ++ (bvs cur).toArray.toList.drop (o + L)).toArray t _ hold
  rw [Blk, this]
  congr 3
  simp [layAt, bvs_append, bvs_drop, bvs_take, hlen]
set_option maxHeartbeats 2000000 in
theorem putAt_any (g : Nat) (t : TypeId) (cur : List UInt8) (o L cap : Nat) (n : Nat) (h1 : (n : Int) < 18446744073709551616) (hL1 : 1 ≤ L) (hL : L ≤ 8) (ho : o + L ≤ cur.length) (w : World) (hg : Blk w g t cur) (hcap : (L : Int) ≤ cap) (hm : (cap : Int) ≤ 9223372036854775807) :
    Calls Tryz.prog 76 #[.slice (some ⟨g, o, none⟩) L cap, .int .u64 (n : Int)] w fun e w' => e = .returned (.tuple #[]) ∧ Blk w' g t (layAt cur o (leB L n)) ∧ Below g w w' := by
  have h0 : (0 : Int) ≤ n := by omega
  have hgl := hg.lt
  obtain ⟨w1, hrun, hG, hb⟩ := putAt_copy g t cur o L cap n h1 hL1 hL ho w hg
  have hcl := fun sp c wx => run_clear_none (P := Tryz.prog) 42 0 5 Tryz.underlying42 sp c wx
  rcases (show (L : Int) = cap ∨ (L : Int) < cap by omega) with hc | hc
  · obtain rfl : L = cap := by omega
    clear hc hcap hg ho
    go_enter Tryz.func76, Tryz.ntmps76
    go_wp2
    refine wp_loop_rounds 9 ?_
    iterate 9 (rw [rounds_succ]; go_wp2)
    go_end0
    exact ⟨rfl, hG, hb⟩
  · clear hg ho
    go_enter Tryz.func76, Tryz.ntmps76
    go_wp2
    refine wp_loop_rounds 9 ?_
    iterate 9 (rw [rounds_succ]; go_wp2)
    go_end0
    exact ⟨rfl, hG, hb⟩
end Go.Proofs.YtkiifmnmeikdlaaGreatDoor
/- num.Get, for every slice of bytes. -/
namespace Go.Proofs.YtkiifmnmeikdlaaGreatDoor
open Go.RowKit
set_option maxRecDepth 100000
set_option maxHeartbeats 1000000 in
theorem nget_any (sp : Option Addr) (l : List UInt8) (cap : Nat) (w : World) (hs : Src w sp l) :
    Calls Tryz.prog 123 #[.slice sp l.length cap] w fun e w' => e = .returned (.int .u64 (getNum l : Int)) ∧ Below w.heap.size w w' := by
  go_enter Tryz.func123, Tryz.ntmps123
  go_wp2_with ((with_reducible show wpList _ _ _ ({ dst := _, op := Op.call { callee := Callee.builtin Builtin.copy, args := _, argTypes := _ }, type := _, pos := _, after := _, guard := _ } :: _) _ _); refine wpList_copy_splice rfl (.tmp 6) (.tmp 7) 42 42 rfl 5 Tryz.underlying42 Tryz.elem1 _ _ _ _ _ _ rfl rfl w.heap.size 0 (List.replicate 8 (Value.int .u8 0)) 36 (by exact heap_alloc_new _ _) (bvs (l.take 8)) (by simp [bvs_length, Nat.min_comm]) (fun hp => ⟨rfl, Src.pos (hs.below ((Below.refl _ _).alloc (Nat.le_refl _) _) (Nat.le_refl _)) 8 hp⟩) (by simp [bvs_length]; omega) (bvs_one _) w.heap.size w (by exact (Below.refl _ _).alloc (Nat.le_refl _) _) (Nat.le_refl _) ?_; intro w1 HG hb1)
  have hG : Blk w1 w.heap.size 36 (pad8 l) := by have := HG.out; rw [splice_pad8] at this; exact this
  clear HG
  have hlen := pad8_length l
  obtain ⟨xs, HX⟩ : ∃ xs, Hid (xs = pad8 l) := ⟨_, rfl⟩
  rw [← HX.out] at hG hlen
  have hlt := hG.lt
  go_loop [4, 9] (fun n i => ∃ k : Nat, k ≤ 8 ∧ i = .int .i64 k ∧ n = .int .u64 (leNum (xs.take k))) (fun _ i => 8 - (Go.RowKit.intOf i).toNat)
  case atStart => exact ⟨0, by omega, rfl, by simp [leNum]⟩
  case round =>
    obtain ⟨k, hk, rfl, rfl⟩ := hrel
    by_cases hlt : k < 8
    · have hc : w1.cell? ⟨w.heap.size, k, none⟩ = some (.int .u8 (nth xs k)) := (hG.cell k (by omega)).trans (by rw [bv_nth])
      have HS : Hid (bits .or .u64 (leNum (xs.take k) : Int) (IntKind.u64.wrap (IntKind.u64.wrap (nth xs k) * 2 ^ (8 * k))) = (leNum (xs.take (k + 1)) : Int)) := get_step xs k hlt (by omega)
      clear hlen
      go_wp2
      go_round
      case rel => exact ⟨k + 1, by omega, by go_num, by rw [HS.out]⟩
      case measure => simp [Go.RowKit.intOf]; omega
    · have hk8 : k = 8 := by omega
      subst hk8
      go_wp2
      go_ret
      refine ⟨?_, hb1⟩
      have e : getNum l = leNum (xs.take 8) := by unfold getNum; rw [← HX.out, List.take_of_length_le (by omega)]
      rw [e]; rfl
end Go.Proofs.YtkiifmnmeikdlaaGreatDoor
/- The builtins make, copy and append on slices of bytes, as equations of their runs. -/
namespace Go.Proofs.YtkiifmnmeikdlaaGreatDoor
open Go.RowKit
set_option maxRecDepth 100000

theorem Tryz.info5 : (Tryz.prog.info? 5).map (fun i => (i.zero, i.size, i.bytes)) = some (some (.int .u8 0), 1, 1) := by kernel_rfl

/-- 'make' of n bytes, with room for c. -/
theorem make_any (w : World) (n c : Nat) (hnc : n ≤ c) (hc : c ≤ 281474976710656) :
    (Instr.makeSlice 42 (.int .i64 (n : Int)) (.int .i64 (c : Int))).run Tryz.prog w = .ok (.slice (some ⟨w.heap.size, 0, none⟩) n c) (w.alloc (.cells (bvs (List.replicate c 0)).toArray 5)) := by
  obtain ⟨i0, hi, hz0, hz1, hz2⟩ := info_parts Tryz.info5
  have h := run_make (P := Tryz.prog) w 42 5 i0 _ Tryz.underlying42 hi hz0 .i64 .i64 (n : Int) (c : Int) (by omega) (by omega) (by rw [hz2]; omega) (by omega)
  rw [h]
  congr 3
  have e : madeCells (Value.int IntKind.u8 0).cells ((c : Int).toNat * i0.size) = (bvs (List.replicate c 0)).toArray := by
    apply Array.toList_inj.1
    rw [hz1, Int.toNat_natCast, Nat.mul_one, bvs_rep]
    exact toList_madeCells_one _ _
  rw [e]

/-- 'copy' into a place of a block. -/
theorem copy_any {w : World} {g off dLen : Nat} (dCap : Nat) {sp : Option Addr} (sLen sCap : Nat) {t : TypeId} {cur l : List UInt8} (hg : Blk w g t cur) (hs : Src w sp l) (hl : l.length = sLen) (hd : off + dLen ≤ cur.length) :
    ∃ w1, (Builtin.copy_ #[42, 42] 3 #[.slice (some ⟨g, off, none⟩) dLen dCap, .slice sp sLen sCap]).run Tryz.prog w = .ok (.int .i64 (min sLen dLen : Nat)) w1 ∧
      Blk w1 g t (cur.take off ++ l.take dLen ++ cur.drop (off + min sLen dLen)) ∧ Below g w w1 ∧ w1.heap.size = w.heap.size := by
  have hlen : (l.take dLen).length = min sLen dLen := by simp [hl, Nat.min_comm]
  by_cases h0 : min sLen dLen = 0
  · have hnil : l.take dLen = [] := List.eq_nil_of_length_eq_zero (by rw [hlen]; exact h0)
    refine ⟨w, ?_, ?_, Below.refl _ _, rfl⟩
    · have h := run_copy_none (P := Tryz.prog) w 42 42 3 5 (some ⟨g, off, none⟩) sp dLen dCap sLen sCap Tryz.underlying42 Tryz.elem1 h0
      rw [h, h0]; rfl
    · rw [hnil, h0]; simpa using hg
  · obtain ⟨ad, had, hcs⟩ := hs.pos dLen (by rw [bvs_length, hlen]; omega)
    subst had
    have hrun := run_copy_row (P := Tryz.prog) w 42 42 3 5 g off dLen dCap ad sLen sCap (bvs cur).toArray t (bvs (l.take dLen)) Tryz.underlying42 Tryz.elem1 hg (by rw [bvs_length, hlen]) hcs (by simp only [bvs_length, hlen, List.size_toArray]; omega) (bvs_one _)
    rw [bvs_length, hlen] at hrun
    refine ⟨_, hrun, ?_, below_setRow (Below.refl _ _) (Nat.le_refl _) _, by simp⟩
    have hrow := setRow_heap w g _ ((bvs cur).toArray.toList.take off ++ bvs (l.take dLen) ++ (bvs cur).toArray.toList.drop (off + min sLen dLen)).toArray t _ hg
    rw [Blk, hrow]
    simp only [bvs_append, bvs_drop, bvs_take]

/-- The slice v is the call's own (from block number base on), and its bytes are l. -/
def Own (w : World) (base : Nat) (v : Value) (l : List UInt8) : Prop := w.ownsRow base 5 1 v l.length (bvs l)
theorem Own.nil (w : World) (base : Nat) : Own w base (.slice none 0 0) [] := World.ownsRow_nil _ _ _ _
theorem Own.form {w : World} {base : Nat} {v : Value} {l : List UInt8} (h : Own w base v l) : ∃ ao cap, v = .slice ao l.length cap ∧ Src w ao l ∧ l.length ≤ cap ∧ (cap : Int) ≤ 9223372036854775807 ∧ (ao = none → cap = 0) := by
  obtain ⟨h1, h2⟩ := h
  rcases h2 with ⟨rfl, h3⟩ | ⟨g, cap, cur, rfl, hg, hh, hn, hm, hs, hx⟩
  · obtain rfl : l = [] := List.eq_nil_of_length_eq_zero h3
    exact ⟨none, 0, rfl, Src.nil _ _, by simp, by omega, fun _ => rfl⟩
  · refine ⟨some ⟨g, 0, none⟩, cap, rfl, .inr ⟨g, 0, rfl, (Array.getElem?_eq_some_iff.1 hh).1, fun j hj => ?_⟩, hn, by unfold maxLen at hm; omega, fun h => by cases h⟩
    rw [Nat.zero_add, cell_of_row w g j _ _ _ hh]
    have e : (cur.toList.take (l.length * 1))[j]? = (bvs l)[j]? := by rw [hx]
    rw [List.getElem?_take] at e
    simp only [Nat.mul_one, hj, if_true] at e
    simpa [bvs, hj] using e
theorem Blk.own {w : World} {g base : Nat} {l : List UInt8} (h : Blk w g 5 l) (hb : base ≤ g) (hl : l.length ≤ 140737488355328) : Own w base (.slice (some ⟨g, 0, none⟩) l.length l.length) l :=
  ⟨by simp [bvs_length], .inr ⟨g, l.length, _, rfl, hb, h, Nat.le_refl _, by unfold maxLen; omega, by simp [bvs_length], by rw [Nat.mul_one, List.take_of_length_le (by simp [bvs_length])]⟩⟩
/-- A slice that reads as the bytes l: nil, without room, or in a block. -/
def Arg (w : World) (sp : Option Addr) (cap : Nat) (l : List UInt8) : Prop :=
  (cap = 0 ∧ l = []) ∨ ∃ b off, sp = some ⟨b, off, none⟩ ∧ 0 < cap ∧ l.length ≤ cap ∧ (cap : Int) ≤ 9223372036854775807 ∧ l.length ≤ 140737488355328 ∧ Src w sp l
theorem Arg.src {w : World} {sp : Option Addr} {cap : Nat} {l : List UInt8} (h : Arg w sp cap l) : Src w sp l := by
  rcases h with ⟨_, rfl⟩ | ⟨_, _, _, _, _, _, _, h⟩
  · exact Src.nil _ _
  · exact h
theorem Arg.below {w w' : World} {sp : Option Addr} {cap : Nat} {l : List UInt8} (h : Arg w sp cap l) {B : Nat} (hb : Below B w w') (hB : w.heap.size ≤ B) : Arg w' sp cap l := by
  rcases h with h | ⟨b, off, h1, h2, h3, h4, h5, h6⟩
  · exact .inl h
  · exact .inr ⟨b, off, h1, h2, h3, h4, h5, h6.below hb hB⟩
theorem Arg.len {w : World} {sp : Option Addr} {cap : Nat} {l : List UInt8} (h : Arg w sp cap l) : l.length ≤ cap ∧ (cap : Int) ≤ 9223372036854775807 ∧ l.length ≤ 140737488355328 := by
  rcases h with ⟨rfl, rfl⟩ | ⟨_, _, _, _, h3, h4, h5, _⟩
  · simp
  · exact ⟨h3, h4, h5⟩
theorem Own.arg {w : World} {base : Nat} {v : Value} {l : List UInt8} (h : Own w base v l) (hl : l.length ≤ 140737488355328) : ∃ ao cap, v = .slice ao l.length cap ∧ Arg w ao cap l := by
  have h0 := h
  obtain ⟨h1, h2⟩ := h
  rcases h2 with ⟨rfl, h3⟩ | ⟨g, cap, cur, rfl, hg, hh, hn, hm, hs, hx⟩
  · obtain rfl : l = [] := List.eq_nil_of_length_eq_zero h3
    exact ⟨none, 0, rfl, .inl ⟨rfl, rfl⟩⟩
  · refine ⟨_, cap, rfl, ?_⟩
    obtain ⟨ao, cap', hv, hsrc, _⟩ := h0.form
    cases hv
    by_cases hc : cap = 0
    · exact .inl ⟨hc, List.eq_nil_of_length_eq_zero (by omega)⟩
    · exact .inr ⟨g, 0, rfl, by omega, hn, by unfold maxLen at hm; omega, hl, hsrc⟩
end Go.Proofs.YtkiifmnmeikdlaaGreatDoor
/- leveeref01.Lent and leveeref01.Kept. -/
namespace Go.Proofs.YtkiifmnmeikdlaaGreatDoor
open Go.RowKit
set_option maxRecDepth 100000
def a5 : List UInt8 := [165, 165, 165, 165, 165, 165, 165, 165]
end Go.Proofs.YtkiifmnmeikdlaaGreatDoor
/- Steps of a region that draws its order, under a condition held; facts that the walk finds. -/
namespace Go.Proofs.YtkiifmnmeikdlaaGreatDoor
open Go.RowKit
set_option maxRecDepth 100000
/-- Facts that the walk of a region finds by itself: that a number needs no wrapping, that a test is decided. -/
abbrev In64 (x : Int) : Prop := Nonempty (-9223372036854775808 ≤ x ∧ x ≤ 9223372036854775807)
abbrev DecF (p : Prop) : Prop := Nonempty (¬ p)
abbrev DecT (p : Prop) : Prop := Nonempty p
theorem wrapI (x : Int) [h : In64 x] : IntKind.i64.wrap x = x := by obtain ⟨h⟩ := h; rw [IntKind.wrap_i64]; omega
theorem decF (p : Prop) [Decidable p] [h : DecF p] : decide p = false := h.elim decide_eq_false
theorem decT (p : Prop) [Decidable p] [h : DecT p] : decide p = true := h.elim decide_eq_true
theorem takeH {P : Program} {ops : Array Oper} {md : Region.Mode} {Q : Exit → Act → World → Prop} {S : World → Prop} {i : Nat} {oi : Oper} {v : Value} {dst : Option Tmp} {fuel : Nat} {listed l2 : Array Bool} {a : Act} {w : World} (hi : ops[i]? = some oi) (hd : oi.dst = dst)
    (hs : Region.noSelect ops = true) (hf : Region.free md ops listed i = true) (hr : (Region.ready md ops listed).contains i = true) (hQ : ∀ c a w, Q (.panic c) (a.put oi.dst v) w → Q (.panic c) a w) (hw : Region.wanted oi (yielded ops a.tmps) = true) (hy : ∀ w, S w → (execOp a.eval oi).run P w = .ok (.value v) w) (hS : S w) (hl : listed.setIfInBounds i true = l2)
    (h : wpAnyH P md ops Q S fuel l2 (a.put dst v) w) : wpAnyH P md ops Q S (fuel + 1) listed a w :=
  wpAnyH_take hi hs hf hr hQ (Or.inl ⟨hw, hy⟩) hS (by rw [hd, hl]; exact h)
theorem callH {P : Program} {ops : Array Oper} {md : Region.Mode} {Q : Exit → Act → World → Prop} {S : World → Prop} {i : Nat} (o : Oper) {fuel : Nat} {listed l2 : Array Bool} {a : Act} {w : World} (hr : Region.ready md ops listed = [i]) (ho : ops[i]? = some o) (hl : listed.setIfInBounds i true = l2)
    (h : ∀ K : Act → World → Prop, Shut (∀ a w, S w → (S w → wpAnyH P md ops Q S fuel l2 a w) → K a w) → if Region.wanted o (yielded ops a.tmps) = true then Oper.wp P o a w K Q else K (a.put o.dst undef) w) : wpAnyH P md ops Q S (fuel + 1) listed a w :=
  wpAnyH_ready hr (by simp) (AllReadyH.cons ho (fun K hK => h K (by rw [← hl]; exact hK)) AllReadyH.nil)
theorem takeU {P : Program} {ops : Array Oper} {md : Region.Mode} {Q : Exit → Act → World → Prop} {S : World → Prop} {i : Nat} {oi : Oper} {dst : Option Tmp} {fuel : Nat} {listed l2 : Array Bool} {a : Act} {w : World} (hi : ops[i]? = some oi) (hd : oi.dst = dst)
    (hs : Region.noSelect ops = true) (hf : Region.free md ops listed i = true) (hr : (Region.ready md ops listed).contains i = true) (hQ : ∀ c a w, Q (.panic c) (a.put oi.dst undef) w → Q (.panic c) a w) (hw : Region.wanted oi (yielded ops a.tmps) = false) (hS : S w) (hl : listed.setIfInBounds i true = l2)
    (h : wpAnyH P md ops Q S fuel l2 (a.put dst undef) w) : wpAnyH P md ops Q S (fuel + 1) listed a w :=
  wpAnyH_take hi hs hf hr hQ (Or.inr ⟨hw, rfl⟩) hS (by rw [hd, hl]; exact h)
theorem ret_bool {a b : Bool} (h : a = b) : Ending.returned (.bool a) = .returned (.bool b) := by rw [h]
theorem callH2 {P : Program} {ops : Array Oper} {md : Region.Mode} {Q : Exit → Act → World → Prop} {S : World → Prop} {i j : Nat} (oi oj : Oper) {fuel : Nat} {listed l2 l3 : Array Bool} {a : Act} {w : World} (hr : Region.ready md ops listed = [i, j]) (hi : ops[i]? = some oi) (hj : ops[j]? = some oj) (hl2 : listed.setIfInBounds i true = l2) (hl3 : listed.setIfInBounds j true = l3)
    (h1 : ∀ K : Act → World → Prop, Shut (∀ a w, S w → (S w → wpAnyH P md ops Q S fuel l2 a w) → K a w) → if Region.wanted oi (yielded ops a.tmps) = true then Oper.wp P oi a w K Q else K (a.put oi.dst undef) w)
    (h2 : ∀ K : Act → World → Prop, Shut (∀ a w, S w → (S w → wpAnyH P md ops Q S fuel l3 a w) → K a w) → if Region.wanted oj (yielded ops a.tmps) = true then Oper.wp P oj a w K Q else K (a.put oj.dst undef) w) : wpAnyH P md ops Q S (fuel + 1) listed a w :=
  wpAnyH_ready hr (by simp) (AllReadyH.cons hi (fun K hK => h1 K (by rw [← hl2]; exact hK)) (AllReadyH.cons hj (fun K hK => h2 K (by rw [← hl3]; exact hK)) AllReadyH.nil))
abbrev InU (x : Int) : Prop := Nonempty (0 ≤ x ∧ x < 18446744073709551616)
theorem wrapU (x : Int) [h : InU x] : IntKind.u64.wrap x = x := by obtain ⟨h⟩ := h; rw [IntKind.wrap_u64]; omega
theorem wpList_want {P : Program} {ops : Array Oper} {Q : Exit → Act → World → Prop} {a : Act} {w : World} {rest : List Oper} {o : Oper} (hw : Region.wanted o (yielded ops a.tmps) = true)
    (h : ∀ K : Act → World → Prop, (∀ a w, wpList P ops Q rest a w → K a w) → o.wp P a w K Q) : wpList P ops Q (o :: rest) a w :=
  wpList_step fun K hK => by rw [if_pos hw]; exact h K hK
end Go.Proofs.YtkiifmnmeikdlaaGreatDoor
/- Package geo: lead, head, Right. -/
namespace Go.Proofs.YtkiifmnmeikdlaaGreatDoor
open Go.RowKit
set_option maxRecDepth 100000
set_option maxHeartbeats 1000000 in
theorem lead_any (a i n : Int) (w : World) (h0 : 0 ≤ i) (h1 : i ≤ 64) :
    Calls Tryz.prog 89 #[.agg #[.int .i64 a, .int .i64 i, .int .i64 n]] w fun e w' => e = .returned (.int .i64 (1 + i / 4)) ∧ Below w.heap.size w w' := by
  have hb : Below w.heap.size w (w.alloc (.cells #[.int .i64 a, .int .i64 i, .int .i64 n] 23)) := (Below.refl _ _).alloc (Nat.le_refl _) _
  go_enter Tryz.func89, Tryz.ntmps89
  go_wp2
  go_ret
  exact ⟨rfl, hb⟩
set_option maxHeartbeats 1000000 in
theorem head_any (a i n k : Int) (w : World) (h0 : 0 ≤ k * a) (h1 : k * a ≤ 2048) :
    Calls Tryz.prog 53 #[.agg #[.int .i64 a, .int .i64 i, .int .i64 n], .int .i64 k] w fun e w' => e = .returned (.int .i64 (2 + k * a)) ∧ Below w.heap.size w w' := by
  have hb : Below w.heap.size w (w.alloc (.cells #[.int .i64 a, .int .i64 i, .int .i64 n] 23)) := (Below.refl _ _).alloc (Nat.le_refl _) _
  go_enter Tryz.func53, Tryz.ntmps53
  go_wp2
  go_ret
  exact ⟨rfl, hb⟩
end Go.Proofs.YtkiifmnmeikdlaaGreatDoor
/- Package geo: Right. -/
namespace Go.Proofs.YtkiifmnmeikdlaaGreatDoor
open Go.RowKit
set_option maxRecDepth 100000
/-- A shape that can be. -/
def okB (a i n : Int) : Bool := decide (16 ≤ a ∧ a ≤ 128 ∧ 4 ≤ i ∧ i ≤ 64 ∧ i % 4 = 0 ∧ 1 ≤ n ∧ n ≤ 16 ∧ 5 + i / 4 ≤ a)
abbrev okG (a i n : Int) : Prop := okB a i n = true
theorem okG_iff {a i n : Int} : okG a i n ↔ (16 ≤ a ∧ a ≤ 128 ∧ 4 ≤ i ∧ i ≤ 64 ∧ i % 4 = 0 ∧ 1 ≤ n ∧ n ≤ 16 ∧ 5 + i / 4 ≤ a) := decide_eq_true_iff
theorem okG.box {a i n : Int} (h : okG a i n) : 16 ≤ a ∧ a ≤ 128 ∧ 4 ≤ i ∧ i ≤ 64 := by have := okG_iff.1 h; omega
theorem okG.le16 {a i n : Int} (h : okG a i n) : n ≤ 16 := by have := okG_iff.1 h; omega
theorem prod_le {k a : Int} (h0 : 0 ≤ k) (h1 : k ≤ 16) (h2 : 0 ≤ a) (h3 : a ≤ 128) : 0 ≤ k * a ∧ k * a ≤ 2048 :=
  ⟨Int.mul_nonneg h0 h2, by have := Int.mul_le_mul h1 h3 h2 (by omega); omega⟩
theorem no_ok {a i n : Int} (h : ¬ okG a i n) : Ending.returned (.bool false) = .returned (.bool (okB a i n)) := by rw [show okB a i n = false from by simpa using h]
theorem is_ok {a i n : Int} (h : okG a i n) : Ending.returned (.bool true) = .returned (.bool (okB a i n)) := by rw [show okB a i n = true from h]
/-- A shape lies at p, and what there was in w0 is as it was. -/
abbrev Lies (w0 : World) (p : Nat) (a i n : Int) (w : World) : Prop := w.cell? ⟨p, 0, none⟩ = some (.int .i64 a) ∧ w.cell? ⟨p, 1, none⟩ = some (.int .i64 i) ∧ w.cell? ⟨p, 2, none⟩ = some (.int .i64 n) ∧ Below w0.heap.size w0 w
/-- A call that answers r and leaves what was there be leaves a shape that lies in memory be. -/
theorem keep3 {P : Program} {f : Nat} {args : Array Value} {W : World} {r : Ending} (p : Nat) (a i n : Int) (w0 : World) (hL : Lies w0 p a i n W)
    (h : Calls P f args W fun e w' => e = r ∧ Below W.heap.size W w') : Calls P f args W fun e w' => e = r ∧ Lies w0 p a i n w' :=
  h.mono fun _ _ ⟨h1, h2⟩ => ⟨h1, (h2.cell (p := ⟨p, 0, none⟩) (block_lt_of_cell hL.1)).trans hL.1, (h2.cell (p := ⟨p, 1, none⟩) (block_lt_of_cell hL.2.1)).trans hL.2.1, (h2.cell (p := ⟨p, 2, none⟩) (block_lt_of_cell hL.2.2.1)).trans hL.2.2.1, hL.2.2.2.trans (h2.mono hL.2.2.2.size)⟩
attribute [local go_sem] wrapI decF decT
set_option maxHeartbeats 1000000 in
theorem right_any (a i n : Int) (w : World) :
    Calls Tryz.prog 51 #[.agg #[.int .i64 a, .int .i64 i, .int .i64 n]] w fun e w' => e = .returned (.bool (okB a i n)) ∧ Below w.heap.size w w' := by
  have hb : Below w.heap.size w (w.alloc (.cells #[.int .i64 a, .int .i64 i, .int .i64 n] 23)) := (Below.refl _ _).alloc (Nat.le_refl _) _
  by_cases h1 : a < 16
  · go_enter Tryz.func51, Tryz.ntmps51
    go_wp2
    go_ret
    exact ⟨no_ok (by rw [okG_iff]; omega), hb⟩
  by_cases h2 : 128 < a
  · go_enter Tryz.func51, Tryz.ntmps51
    go_wp2
    go_ret
    exact ⟨no_ok (by rw [okG_iff]; omega), hb⟩
  by_cases h3 : i < 4
  · go_enter Tryz.func51, Tryz.ntmps51
    go_wp2
    go_ret
    exact ⟨no_ok (by rw [okG_iff]; omega), hb⟩
  by_cases h4 : 64 < i
  · go_enter Tryz.func51, Tryz.ntmps51
    go_wp2
    go_ret
    exact ⟨no_ok (by rw [okG_iff]; omega), hb⟩
  by_cases h5 : (i % 4 == 0) = false
  · have h5' := beq_eq_false_iff_ne.1 h5
    go_enter Tryz.func51, Tryz.ntmps51
    go_wp2
    go_ret
    exact ⟨no_ok (by rw [okG_iff]; omega), hb⟩
  replace h5 : i % 4 = 0 := by simpa using h5
  by_cases h6 : n < 1
  · go_enter Tryz.func51, Tryz.ntmps51
    go_wp2
    go_ret
    exact ⟨no_ok (by rw [okG_iff]; omega), hb⟩
  by_cases h7 : 16 < n
  · go_enter Tryz.func51, Tryz.ntmps51
    go_wp2
    go_ret
    exact ⟨no_ok (by rw [okG_iff]; omega), hb⟩
  obtain ⟨p0, p1⟩ := prod_le (k := n) (a := a) (by omega) (by omega) (by omega) (by omega)
  have hbd : Lies w w.heap.size a i n (w.alloc (.cells #[.int .i64 a, .int .i64 i, .int .i64 n] 23)).drew := ⟨by go_simp, by go_simp, by go_simp, hb.drew⟩
  have LEAD := fun W => lead_any a i n W (by omega) (by omega)
  have HEAD := fun W => head_any a i n n W (by omega) (by omega)
  have e1 : In64 (a - (1 + i / 4)) := ⟨by omega⟩
  by_cases h8 : a - (1 + i / 4) < 4
  · have e2 : DecF (4 ≤ a - (1 + i / 4)) := ⟨by omega⟩
    go_enter Tryz.func51, Tryz.ntmps51
    go_wp2_with fail
    refine wp_region_held_drew (S := (fun w' => Lies w w.heap.size a i n w')) (by kernel_rfl) hbd (fun hH => ?_)
    refine takeH (i := 0) (dst := some 33) (v := ?v1) rfl rfl (by kernel_rfl) (by kernel_rfl) (by kernel_rfl) (fun _ _ _ h => h) rfl ?hy1 hH rfl ?rest1
    case hy1 => (intro W hW; obtain ⟨hW0, hW1, hW2, _⟩ := hW; go_simp; try with_reducible rfl)
    (try simp only [Act.put, List.setIfInBounds_toArray, List.set_cons_zero, List.set_cons_succ])
    refine takeH (i := 1) (dst := some 34) (v := ?v2) rfl rfl (by kernel_rfl) (by kernel_rfl) (by kernel_rfl) (fun _ _ _ h => h) rfl ?hy2 hH rfl ?rest2
    case hy2 => (intro W hW; obtain ⟨hW0, hW1, hW2, _⟩ := hW; go_simp; try with_reducible rfl)
    (try simp only [Act.put, List.setIfInBounds_toArray, List.set_cons_zero, List.set_cons_succ])
    refine takeH (i := 2) (dst := some 35) (v := ?v3) rfl rfl (by kernel_rfl) (by kernel_rfl) (by kernel_rfl) (fun _ _ _ h => h) rfl ?hy3 hH rfl ?rest3
    case hy3 => (intro W hW; obtain ⟨hW0, hW1, hW2, _⟩ := hW; go_simp; try with_reducible rfl)
    (try simp only [Act.put, List.setIfInBounds_toArray, List.set_cons_zero, List.set_cons_succ])
    refine callH (i := 3) { dst := some 36, op := Go.Op.call { callee := Go.Callee.value (Go.Operand.func 89), args := #[Go.Operand.tmp 35], argTypes := #[23] }, type := 3, pos := "geo.go:29", after := #[{ on := 2, ground := Go.Ground.data }], guard := none } (by kernel_rfl) rfl rfl (fun K hK => ?_)
    go_simp
    refine (keep3 w.heap.size a i n w hH (LEAD _)).mono ?_
    rintro e w1 ⟨rfl, k⟩
    clear hH
    refine hK.out _ _ k (fun hH => ?_)
    clear hK K
    (try simp only [Act.put, List.setIfInBounds_toArray, List.set_cons_zero, List.set_cons_succ])
    refine takeH (i := 4) (dst := some 37) (v := ?v4) rfl rfl (by kernel_rfl) (by kernel_rfl) (by kernel_rfl) (fun _ _ _ h => h) rfl ?hy4 hH rfl ?rest4
    case hy4 => (intro W hW; obtain ⟨hW0, hW1, hW2, _⟩ := hW; go_simp; try with_reducible rfl)
    (try simp only [Act.put, List.setIfInBounds_toArray, List.set_cons_zero, List.set_cons_succ])
    refine takeH (i := 5) (dst := some 38) (v := ?v5) rfl rfl (by kernel_rfl) (by kernel_rfl) (by kernel_rfl) (fun _ _ _ h => h) rfl ?hy5 hH rfl ?rest5
    case hy5 => (intro W hW; obtain ⟨hW0, hW1, hW2, _⟩ := hW; go_simp; try with_reducible rfl)
    (try simp only [Act.put, List.setIfInBounds_toArray, List.set_cons_zero, List.set_cons_succ])
    refine takeH (i := 6) (dst := some 39) (v := ?v6) rfl rfl (by kernel_rfl) (by kernel_rfl) (by kernel_rfl) (fun _ _ _ h => h) rfl ?hy6 hH rfl ?rest6
    case hy6 => (intro W hW; obtain ⟨hW0, hW1, hW2, _⟩ := hW; go_simp; try with_reducible rfl)
    (try simp only [Act.put, List.setIfInBounds_toArray, List.set_cons_zero, List.set_cons_succ])
    refine takeU (i := 7) (dst := some 40) rfl rfl (by kernel_rfl) (by kernel_rfl) (by kernel_rfl) (fun _ _ _ h => h) rfl hH rfl ?_
    (try simp only [Act.put, List.setIfInBounds_toArray, List.set_cons_zero, List.set_cons_succ])
    refine takeU (i := 8) (dst := some 41) rfl rfl (by kernel_rfl) (by kernel_rfl) (by kernel_rfl) (fun _ _ _ h => h) rfl hH rfl ?_
    (try simp only [Act.put, List.setIfInBounds_toArray, List.set_cons_zero, List.set_cons_succ])
    refine takeU (i := 9) (dst := some 42) rfl rfl (by kernel_rfl) (by kernel_rfl) (by kernel_rfl) (fun _ _ _ h => h) rfl hH rfl ?_
    (try simp only [Act.put, List.setIfInBounds_toArray, List.set_cons_zero, List.set_cons_succ])
    refine takeU (i := 10) (dst := some 43) rfl rfl (by kernel_rfl) (by kernel_rfl) (by kernel_rfl) (fun _ _ _ h => h) rfl hH rfl ?_
    (try simp only [Act.put, List.setIfInBounds_toArray, List.set_cons_zero, List.set_cons_succ])
    refine takeU (i := 11) (dst := some 44) rfl rfl (by kernel_rfl) (by kernel_rfl) (by kernel_rfl) (fun _ _ _ h => h) rfl hH rfl ?_
    (try simp only [Act.put, List.setIfInBounds_toArray, List.set_cons_zero, List.set_cons_succ])
    refine takeH (i := 12) (dst := some 45) (v := ?v7) rfl rfl (by kernel_rfl) (by kernel_rfl) (by kernel_rfl) (fun _ _ _ h => h) rfl ?hy7 hH rfl ?rest7
    case hy7 => (intro W hW; obtain ⟨hW0, hW1, hW2, _⟩ := hW; go_simp; try with_reducible rfl)
    (try simp only [Act.put, List.setIfInBounds_toArray, List.set_cons_zero, List.set_cons_succ])
    refine takeH (i := 13) (dst := some 2) (v := ?v8) rfl rfl (by kernel_rfl) (by kernel_rfl) (by kernel_rfl) (fun _ _ _ h => h) rfl ?hy8 hH rfl ?rest8
    case hy8 => (intro W hW; obtain ⟨hW0, hW1, hW2, _⟩ := hW; go_simp; try with_reducible rfl)
    (try simp only [Act.put, List.setIfInBounds_toArray, List.set_cons_zero, List.set_cons_succ])
    refine wpAnyH_done (by kernel_rfl) ?_ _
    clear hH
    go_wp2
    go_ret
    exact ⟨no_ok (by rw [okG_iff]; omega), k.2.2.2⟩
  · have e2 : DecT (4 ≤ a - (1 + i / 4)) := ⟨by omega⟩
    have e3 : DecT (2 + n * a ≤ 4096) := ⟨by omega⟩
    go_enter Tryz.func51, Tryz.ntmps51
    go_wp2_with fail
    refine wp_region_held_drew (S := (fun w' => Lies w w.heap.size a i n w')) (by kernel_rfl) hbd (fun hH => ?_)
    refine takeH (i := 0) (dst := some 33) (v := ?v9) rfl rfl (by kernel_rfl) (by kernel_rfl) (by kernel_rfl) (fun _ _ _ h => h) rfl ?hy9 hH rfl ?rest9
    case hy9 => (intro W hW; obtain ⟨hW0, hW1, hW2, _⟩ := hW; go_simp; try with_reducible rfl)
    (try simp only [Act.put, List.setIfInBounds_toArray, List.set_cons_zero, List.set_cons_succ])
    refine takeH (i := 1) (dst := some 34) (v := ?v10) rfl rfl (by kernel_rfl) (by kernel_rfl) (by kernel_rfl) (fun _ _ _ h => h) rfl ?hy10 hH rfl ?rest10
    case hy10 => (intro W hW; obtain ⟨hW0, hW1, hW2, _⟩ := hW; go_simp; try with_reducible rfl)
    (try simp only [Act.put, List.setIfInBounds_toArray, List.set_cons_zero, List.set_cons_succ])
    refine takeH (i := 2) (dst := some 35) (v := ?v11) rfl rfl (by kernel_rfl) (by kernel_rfl) (by kernel_rfl) (fun _ _ _ h => h) rfl ?hy11 hH rfl ?rest11
    case hy11 => (intro W hW; obtain ⟨hW0, hW1, hW2, _⟩ := hW; go_simp; try with_reducible rfl)
    (try simp only [Act.put, List.setIfInBounds_toArray, List.set_cons_zero, List.set_cons_succ])
    refine callH (i := 3) { dst := some 36, op := Go.Op.call { callee := Go.Callee.value (Go.Operand.func 89), args := #[Go.Operand.tmp 35], argTypes := #[23] }, type := 3, pos := "geo.go:29", after := #[{ on := 2, ground := Go.Ground.data }], guard := none } (by kernel_rfl) rfl rfl (fun K hK => ?_)
    go_simp
    refine (keep3 w.heap.size a i n w hH (LEAD _)).mono ?_
    rintro e w1 ⟨rfl, k⟩
    clear hH
    refine hK.out _ _ k (fun hH => ?_)
    clear hK K
    (try simp only [Act.put, List.setIfInBounds_toArray, List.set_cons_zero, List.set_cons_succ])
    refine takeH (i := 4) (dst := some 37) (v := ?v12) rfl rfl (by kernel_rfl) (by kernel_rfl) (by kernel_rfl) (fun _ _ _ h => h) rfl ?hy12 hH rfl ?rest12
    case hy12 => (intro W hW; obtain ⟨hW0, hW1, hW2, _⟩ := hW; go_simp; try with_reducible rfl)
    (try simp only [Act.put, List.setIfInBounds_toArray, List.set_cons_zero, List.set_cons_succ])
    refine takeH (i := 5) (dst := some 38) (v := ?v13) rfl rfl (by kernel_rfl) (by kernel_rfl) (by kernel_rfl) (fun _ _ _ h => h) rfl ?hy13 hH rfl ?rest13
    case hy13 => (intro W hW; obtain ⟨hW0, hW1, hW2, _⟩ := hW; go_simp; try with_reducible rfl)
    (try simp only [Act.put, List.setIfInBounds_toArray, List.set_cons_zero, List.set_cons_succ])
    refine takeH (i := 6) (dst := some 39) (v := ?v14) rfl rfl (by kernel_rfl) (by kernel_rfl) (by kernel_rfl) (fun _ _ _ h => h) rfl ?hy14 hH rfl ?rest14
    case hy14 => (intro W hW; obtain ⟨hW0, hW1, hW2, _⟩ := hW; go_simp; try with_reducible rfl)
    (try simp only [Act.put, List.setIfInBounds_toArray, List.set_cons_zero, List.set_cons_succ])
    refine takeH (i := 7) (dst := some 40) (v := ?v15) rfl rfl (by kernel_rfl) (by kernel_rfl) (by kernel_rfl) (fun _ _ _ h => h) rfl ?hy15 hH rfl ?rest15
    case hy15 => (intro W hW; obtain ⟨hW0, hW1, hW2, _⟩ := hW; go_simp; try with_reducible rfl)
    (try simp only [Act.put, List.setIfInBounds_toArray, List.set_cons_zero, List.set_cons_succ])
    refine takeH (i := 8) (dst := some 41) (v := ?v16) rfl rfl (by kernel_rfl) (by kernel_rfl) (by kernel_rfl) (fun _ _ _ h => h) rfl ?hy16 hH rfl ?rest16
    case hy16 => (intro W hW; obtain ⟨hW0, hW1, hW2, _⟩ := hW; go_simp; try with_reducible rfl)
    (try simp only [Act.put, List.setIfInBounds_toArray, List.set_cons_zero, List.set_cons_succ])
    refine takeH (i := 9) (dst := some 42) (v := ?v17) rfl rfl (by kernel_rfl) (by kernel_rfl) (by kernel_rfl) (fun _ _ _ h => h) rfl ?hy17 hH rfl ?rest17
    case hy17 => (intro W hW; obtain ⟨hW0, hW1, hW2, _⟩ := hW; go_simp; try with_reducible rfl)
    (try simp only [Act.put, List.setIfInBounds_toArray, List.set_cons_zero, List.set_cons_succ])
    refine callH (i := 10) { dst := some 43, op := Go.Op.call { callee := Go.Callee.value (Go.Operand.func 53), args := #[Go.Operand.tmp 40, Go.Operand.tmp 42], argTypes := #[23, 3] }, type := 3, pos := "geo.go:29", after := #[{ on := 7, ground := Go.Ground.data }, { on := 9, ground := Go.Ground.data }, { on := 6, ground := Go.Ground.chain }, { on := 6, ground := Go.Ground.guard }], guard := some (6, true) } (by kernel_rfl) rfl rfl (fun K hK => ?_)
    go_simp
    refine (keep3 w.heap.size a i n w hH (HEAD _)).mono ?_
    rintro e w2 ⟨rfl, k2⟩
    clear hH
    refine hK.out _ _ k2 (fun hH => ?_)
    clear hK K
    (try simp only [Act.put, List.setIfInBounds_toArray, List.set_cons_zero, List.set_cons_succ])
    refine takeH (i := 11) (dst := some 44) (v := ?v18) rfl rfl (by kernel_rfl) (by kernel_rfl) (by kernel_rfl) (fun _ _ _ h => h) rfl ?hy18 hH rfl ?rest18
    case hy18 => (intro W hW; obtain ⟨hW0, hW1, hW2, _⟩ := hW; go_simp; try with_reducible rfl)
    (try simp only [Act.put, List.setIfInBounds_toArray, List.set_cons_zero, List.set_cons_succ])
    refine takeH (i := 12) (dst := some 45) (v := ?v19) rfl rfl (by kernel_rfl) (by kernel_rfl) (by kernel_rfl) (fun _ _ _ h => h) rfl ?hy19 hH rfl ?rest19
    case hy19 => (intro W hW; obtain ⟨hW0, hW1, hW2, _⟩ := hW; go_simp; try with_reducible rfl)
    (try simp only [Act.put, List.setIfInBounds_toArray, List.set_cons_zero, List.set_cons_succ])
    refine takeH (i := 13) (dst := some 2) (v := ?v20) rfl rfl (by kernel_rfl) (by kernel_rfl) (by kernel_rfl) (fun _ _ _ h => h) rfl ?hy20 hH rfl ?rest20
    case hy20 => (intro W hW; obtain ⟨hW0, hW1, hW2, _⟩ := hW; go_simp; try with_reducible rfl)
    (try simp only [Act.put, List.setIfInBounds_toArray, List.set_cons_zero, List.set_cons_succ])
    refine wpAnyH_done (by kernel_rfl) ?_ _
    clear hH
    go_wp2
    go_ret
    exact ⟨is_ok (by rw [okG_iff]; omega), k2.2.2.2⟩
end Go.Proofs.YtkiifmnmeikdlaaGreatDoor
