/- Words and small laws for the proofs of this seat: bytes in memory, slices that read as bytes. No statement of the seat is proved here. -/
import Derived.Test.YtanelcdeekichaaGreatProg
import Derived.WalkKit
import Derived.Laws.CopyOwn
import Derived.LoopN
import Derived.Laws.BytesArg
import Derived.Lib.SlBytesConst
namespace Go.Proofs.YtanelcdeekichaaGreat
open Go.RowKit
set_option maxRecDepth 100000

def bv (b : UInt8) : Value := .int .u8 (b.toNat : Int)
def bvs (l : List UInt8) : List Value := l.map bv
/-- Block g of the heap is a row of the bytes l, none of them frozen. -/
def Blk (w : World) (g : Nat) (t : TypeId) (l : List UInt8) : Prop := w.heap[g]? = some (.cells (bvs l).toArray t (0, 0))
/-- From the address sp on lie the bytes l (of none: whatever the address). -/
def Src (w : World) (sp : Option Addr) (l : List UInt8) : Prop :=
  l = [] ∨ ∃ b off, sp = some ⟨b, off, none⟩ ∧ b < w.heap.size ∧ ∀ j, (h : j < l.length) → w.cell? ⟨b, off + j, none⟩ = some (bv l[j])

theorem addr_add (b off j : Nat) : (⟨b, off, none⟩ : Addr).add j = ⟨b, off + j, none⟩ := by unfold Addr.add; split <;> simp_all
theorem bvs_length (l : List UInt8) : (bvs l).length = l.length := by simp [bvs]
theorem bvs_one (l : List UInt8) : ∀ v ∈ bvs l, v.oneCell' = true := by
  intro v hv; simp only [bvs, List.mem_map] at hv; obtain ⟨b, _, rfl⟩ := hv; rfl
theorem bvs_append (a b : List UInt8) : bvs (a ++ b) = bvs a ++ bvs b := by simp [bvs]
theorem bvs_take (k : Nat) (l : List UInt8) : bvs (l.take k) = (bvs l).take k := by simp [bvs, List.map_take]
theorem bvs_drop (k : Nat) (l : List UInt8) : bvs (l.drop k) = (bvs l).drop k := by simp [bvs, List.map_drop]
theorem bvs_rep (k : Nat) : bvs (List.replicate k 0) = List.replicate k (.int .u8 0) := by simp [bvs, bv]

theorem Blk.cell {w : World} {g : Nat} {t : TypeId} {l : List UInt8} (h : Blk w g t l) (j : Nat) (hj : j < l.length) : w.cell? ⟨g, j, none⟩ = some (bv l[j]) := by
  rw [cell_of_row w g j _ _ _ h]; simp [bvs, hj]
theorem Blk.frozen {w : World} {g : Nat} {t : TypeId} {l : List UInt8} (h : Blk w g t l) (j : Nat) : w.frozen? ⟨g, j, none⟩ = false := frozen_of_row w g j _ _ h
theorem Blk.lt {w : World} {g : Nat} {t : TypeId} {l : List UInt8} (h : Blk w g t l) : g < w.heap.size := (Array.getElem?_eq_some_iff.1 h).1
theorem Blk.below {w w' : World} {g B : Nat} {t : TypeId} {l : List UInt8} (h : Blk w g t l) (hb : Below B w w') (hg : g < B) : Blk w' g t l := by
  unfold Blk; rw [hb.block g hg]; exact h
theorem Blk.src {w : World} {g : Nat} {t : TypeId} {l : List UInt8} (h : Blk w g t l) : Src w (some ⟨g, 0, none⟩) l :=
  .inr ⟨g, 0, rfl, h.lt, fun j hj => by rw [Nat.zero_add]; exact h.cell j hj⟩
theorem Blk.srcOff {w : World} {g : Nat} {t : TypeId} {l : List UInt8} (h : Blk w g t l) (o n : Nat) : Src w (some ⟨g, o, none⟩) ((l.drop o).take n) :=
  .inr ⟨g, o, rfl, h.lt, fun j hj => by
    simp only [List.length_take, List.length_drop] at hj
    rw [h.cell (o + j) (by omega)]; simp⟩
theorem Src.below {w w' : World} {sp : Option Addr} {l : List UInt8} (h : Src w sp l) {B : Nat} (hb : Below B w w') (hB : w.heap.size ≤ B) : Src w' sp l := by
  rcases h with h | ⟨b, off, h1, h2, h3⟩
  · exact .inl h
  · exact .inr ⟨b, off, h1, by have := hb.size; omega, fun j hj => (hb.cell (p := ⟨b, off + j, none⟩) (show b < B by omega)).trans (h3 j hj)⟩
theorem Src.nil (w : World) (sp : Option Addr) : Src w sp [] := .inl rfl
theorem Src.cell {w : World} {b off : Nat} {l : List UInt8} (h : Src w (some ⟨b, off, none⟩) l) (j : Nat) (hj : j < l.length) : w.cell? ⟨b, off + j, none⟩ = some (bv l[j]) := by
  rcases h with h | ⟨b', off', h1, _, h3⟩
  · subst h; simp at hj
  · obtain ⟨rfl, rfl⟩ : b = b' ∧ off = off' := by simpa using h1
    exact h3 j hj
theorem Src.at' {w : World} {sp : Option Addr} {l : List UInt8} (h : Src w sp l) (hl : 0 < l.length) : ∃ b off, sp = some ⟨b, off, none⟩ ∧ b < w.heap.size ∧ ∀ j, (h : j < l.length) → w.cell? ⟨b, off + j, none⟩ = some (bv l[j]) := by
  rcases h with h | h
  · subst h; simp at hl
  · exact h
theorem Src.pos {w : World} {sp : Option Addr} {l : List UInt8} (h : Src w sp l) (k : Nat) (hl : 0 < (bvs (l.take k)).length) :
    ∃ ad, sp = some ad ∧ ∀ j v, (bvs (l.take k))[j]? = some v → w.cell? (ad.add j) = some v := by
  rcases h with h | ⟨b, off, h1, h2, h3⟩
  · subst h; simp [bvs] at hl
  · refine ⟨_, h1, fun j v hv => ?_⟩
    have hj : j < (bvs (l.take k)).length := by
      rcases Nat.lt_or_ge j (bvs (l.take k)).length with h | h
      · exact h
      · rw [List.getElem?_eq_none h] at hv; cases hv
    rw [List.getElem?_eq_getElem hj] at hv
    simp only [bvs, List.length_map, List.length_take] at hj
    rw [addr_add, h3 j (by omega)]
    simpa [bvs] using hv

/-- The first eight bytes, with 0 behind the last. -/
def pad8 (l : List UInt8) : List UInt8 := l.take 8 ++ List.replicate (8 - l.length) 0
theorem pad8_length (l : List UInt8) : (pad8 l).length = 8 := by simp [pad8]; omega
theorem splice_pad8 (l : List UInt8) : splice (List.replicate 8 (Value.int .u8 0)) 0 (bvs (l.take 8)) = bvs (pad8 l) := by
  simp only [splice, pad8, bvs_append, bvs_rep, bvs_length, List.take_zero, List.nil_append, List.drop_replicate, List.length_take]
  congr 2
  omega
theorem eight {l : List UInt8} (h : l.length = 8) : ∃ a b c d e f g i, l = [a, b, c, d, e, f, g, i] := by
  match l, h with
  | [a, b, c, d, e, f, g, i], _ => exact ⟨a, b, c, d, e, f, g, i, rfl⟩

/-- The number whose bytes, the lowest first, are the first eight of l. -/
def leNum : List UInt8 → Nat
  | [] => 0
  | b :: r => b.toNat + 256 * leNum r
def getNum (l : List UInt8) : Nat := leNum (pad8 l)
theorem or_join (a b : Int) (k : Nat) (h0 : 0 ≤ a) (h1 : a < 2 ^ k) (h2 : 0 ≤ b) (h3 : b * 2 ^ k < 18446744073709551616) (hk : k ≤ 64) : bits .or .u64 a (b * 2 ^ k) = a + b * 2 ^ k := by
  obtain ⟨A, rfl⟩ := Int.eq_ofNat_of_zero_le h0
  obtain ⟨B, rfl⟩ := Int.eq_ofNat_of_zero_le h2
  have e : ((B : Int) * 2 ^ k) = ((B * 2 ^ k : Nat) : Int) := by simp
  have hA : A < 2 ^ k := by
    have : ((A : Nat) : Int) < ((2 ^ k : Nat) : Int) := by simpa using h1
    exact Int.ofNat_lt.1 this
  have hAA : A < 18446744073709551616 := by
    have : 2 ^ k ≤ 2 ^ 64 := Nat.pow_le_pow_right (by omega) hk
    omega
  rw [e, bits_or_u64_nat A (B * 2 ^ k) hAA (by rw [e] at h3; omega)]
  have : A ||| B * 2 ^ k = A + B * 2 ^ k := by
    rw [Nat.or_comm, Nat.mul_comm, ← Nat.two_pow_add_eq_or_of_lt hA]; omega
  rw [this]; simp
/-- The k-th byte as a number. -/
def nth (l : List UInt8) (k : Nat) : Int := ((l.getD k 0).toNat : Int)
theorem nth_lo (l : List UInt8) (k : Nat) : 0 ≤ nth l k := by unfold nth; omega
theorem nth_hi (l : List UInt8) (k : Nat) : nth l k ≤ 255 := by
  unfold nth; have := (l.getD k 0).toNat_lt; omega
theorem bv_nth {l : List UInt8} {k : Nat} (h : k < l.length) : bv l[k] = .int .u8 (nth l k) := by simp [bv, nth, h]
theorem leNum_lt : ∀ l : List UInt8, leNum l < 2 ^ (8 * l.length)
  | [] => by simp [leNum]
  | b :: r => by
    have h := leNum_lt r
    have hb := b.toNat_lt
    have e : 2 ^ (8 * (r.length + 1)) = 256 * 2 ^ (8 * r.length) := by rw [Nat.mul_add, Nat.pow_add]; omega
    simp only [leNum, List.length_cons]; rw [e]; omega
theorem leNum_snoc : ∀ (l : List UInt8) (c : UInt8), leNum (l ++ [c]) = leNum l + c.toNat * 2 ^ (8 * l.length)
  | [], c => by simp [leNum]
  | b :: r, c => by
    have h := leNum_snoc r c
    have e : 2 ^ (8 * (r.length + 1)) = 256 * 2 ^ (8 * r.length) := by rw [Nat.mul_add, Nat.pow_add]; omega
    simp only [leNum, List.cons_append, List.length_cons, h, e]
    rw [Nat.mul_add, Nat.add_assoc, Nat.mul_left_comm]
theorem leNum_step (l : List UInt8) (k : Nat) (h : k < l.length) : (leNum (l.take (k + 1)) : Int) = leNum (l.take k) + nth l k * 2 ^ (8 * k) := by
  rw [List.take_succ_eq_append_getElem h, leNum_snoc]
  have e : (l.take k).length = k := by simp; omega
  rw [e]; simp [nth, h]
/-- One round of Get: the next byte laid above those that are there. -/
theorem get_step (l : List UInt8) (k : Nat) (hk : k < 8) (h : k < l.length) :
    bits .or .u64 (leNum (l.take k) : Int) (IntKind.u64.wrap (IntKind.u64.wrap (nth l k) * 2 ^ (8 * k))) = (leNum (l.take (k + 1)) : Int) := by
  have h1 := nth_lo l k
  have h2 := nth_hi l k
  have h3 := leNum_lt (l.take k)
  have e : (l.take k).length = k := by simp; omega
  rw [e] at h3
  have h4 : (leNum (l.take k) : Int) < 2 ^ (8 * k) := by exact_mod_cast h3
  have h5 : nth l k * 2 ^ (8 * k) < 18446744073709551616 := by
    have ha : nth l k * 2 ^ (8 * k) ≤ 255 * 2 ^ (8 * k) := Int.mul_le_mul_of_nonneg_right h2 (Int.pow_nonneg (by omega))
    have hb : (2 : Int) ^ (8 * k) ≤ 2 ^ 56 := by
      have : 2 ^ (8 * k) ≤ 2 ^ 56 := Nat.pow_le_pow_right (by omega) (by omega)
      exact_mod_cast this
    omega
  have h6 : 0 ≤ nth l k * 2 ^ (8 * k) := Int.mul_nonneg h1 (Int.pow_nonneg (by omega))
  have e1 : IntKind.u64.wrap (nth l k) = nth l k := by rw [IntKind.wrap_u64]; omega
  rw [e1, IntKind.wrap_u64, Int.emod_eq_of_lt h6 h5, or_join _ _ _ (by omega) h4 h1 h5 (by omega), leNum_step l k h]
theorem Tryz.elem1 : (Tryz.prog.info? 5).map (·.size) = some 1 := by kernel_rfl
/-- A string of these bytes. -/
def str (l : List UInt8) : ByteArray := ⟨l.toArray⟩
theorem str_inj {a b : List UInt8} (h : str a = str b) : a = b := by
  have := congrArg (fun s : ByteArray => s.data.toList) h
  simpa [str] using this
theorem strOfNums_bytes (l : List UInt8) : strOfNums (l.map fun b => (b.toNat : Int)) = str l := by
  unfold strOfNums str
  congr 2
  rw [List.map_map]
  conv => rhs; rw [← List.map_id l]
  apply List.map_congr_left
  intro b _; simp
/-- 'string(b)'. -/
theorem conv_str {w : World} {sp : Option Addr} {l : List UInt8} (h : Src w sp l) (n cap : Nat) (hn : n = l.length) : (convert 36 9 (.slice sp n cap)).run Tryz.prog w = .ok (.string (str l)) w := by
  subst hn
  cases sp with
  | none =>
    have : l = [] := by
      rcases h with h | ⟨b, off, h1, _⟩
      · exact h
      · cases h1
    subst this
    exact run_convert_bytes_nil w 36 5 Tryz.underlying36 Tryz.underlying5 _ _ 9 Tryz.underlying9
  | some ad =>
    rcases h with h | ⟨b, off, h1, h2, h3⟩
    · subst h
      rw [run_convert_bytes_string w 36 9 5 _ _ _ Tryz.underlying36 Tryz.underlying5 Tryz.underlying9, run_bytesToString w ad _ cap [] (by simp [loadCells, loadCellsFrom])]
      rfl
    · cases h1
      rw [run_convert_bytes_arg w 36 5 Tryz.underlying36 Tryz.underlying5 b off l.length cap (l.map fun b => (b.toNat : Int)) (by simp) (fun i hi => by rw [h3 i hi]; simp [bv, hi]) 9 Tryz.underlying9, strOfNums_bytes]
/-- '[]byte("..")' of a constant text. -/
theorem conv_const (w : World) (C : Array Value) (n c : Nat) : (convert 36 36 (.slice (some ⟨w.heap.size, 0, none⟩) n c)).run Tryz.prog (w.alloc (.cells C 5)) = .ok (.slice (some ⟨w.heap.size, 0, none⟩) n c) (w.alloc (.cells C 5 (C.size, C.size + 1))) :=
  Lib.run_convert_bytes_const (P := Tryz.prog) w 36 5 C n c Tryz.underlying36 Tryz.underlying5
set_option maxRecDepth 100000 in
theorem conv_const2 (w : World) (A : Obj) (C : Array Value) (n c : Nat) : (convert 36 36 (.slice (some ⟨w.heap.size + 1, 0, none⟩) n c)).run Tryz.prog ((w.alloc A).alloc (.cells C 5)) = .ok (.slice (some ⟨w.heap.size + 1, 0, none⟩) n c) ((w.alloc A).alloc (.cells C 5 (C.size, C.size + 1))) := by
  have h := conv_const (w.alloc A) C n c
  have e : (w.alloc A).heap.size = w.heap.size + 1 := by show (w.heap.push A).size = _; simp
  rwa [e] at h
theorem src_row {w : World} {g : Nat} {t : TypeId} {l : List UInt8} {fr : Nat × Nat} (h : w.heap[g]? = some (.cells (bvs l).toArray t fr)) : Src w (some ⟨g, 0, none⟩) l :=
  .inr ⟨g, 0, rfl, (Array.getElem?_eq_some_iff.1 h).1, fun j hj => by rw [Nat.zero_add, cell_of_row w g j _ _ _ h]; simp [bvs, hj]⟩
end Go.Proofs.YtanelcdeekichaaGreat
