/- Words and small laws for the proofs of this seat: bytes in memory, slices that read as bytes. No statement of the seat is proved here. -/
import Derived.Test.YtikpnfnbmbaljaaProg
import Derived.WalkKit
import Derived.Laws.CopyOwn
import Derived.LoopN
import Derived.Laws.BytesArg
import Derived.Lib.SlBytesConst
namespace Go.Proofs.Ytikpnfnbmbaljaa
open Go.RowKit
set_option maxRecDepth 100000

def bv (b : UInt8) : Value := .int .u8 (b.toNat : Int)
def bvs (l : List UInt8) : List Value := l.map bv
/-- Block g of the heap is a row of the bytes l, none of them frozen. -/
def Blk (w : World) (g : Nat) (t : TypeId) (l : List UInt8) : Prop := w.heap[g]? = some (.cells (bvs l).toArray t (0, 0))
/-- From the address sp on lie the bytes l (of none: whatever the address). -/
def Src (w : World) (sp : Option Addr) (l : List UInt8) : Prop :=
  l = [] ∨ ∃ b off, sp = some ⟨b, off, none⟩ ∧ b < w.heap.size ∧ ∀ j, (h : j < l.length) → w.cell? ⟨b, off + j, none⟩ = some (bv l[j])

theorem addr_add (b off j : Nat) : (⟨b, off, none⟩ : Addr).add j = ⟨b, off + j, none⟩ := by unfold Addr.add; split <;> simp_all
theorem bvs_length (l : List UInt8) : (bvs l).length = l.length := by simp [bvs]
theorem bvs_one (l : List UInt8) : ∀ v ∈ bvs l, v.oneCell' = true := by
  intro v hv; simp only [bvs, List.mem_map] at hv; obtain ⟨b, _, rfl⟩ := hv; rfl
theorem bvs_append (a b : List UInt8) : bvs (a ++ b) = bvs a ++ bvs b := by simp [bvs]
theorem bvs_take (k : Nat) (l : List UInt8) : bvs (l.take k) = (bvs l).take k := by simp [bvs, List.map_take]
theorem bvs_drop (k : Nat) (l : List UInt8) : bvs (l.drop k) = (bvs l).drop k := by simp [bvs, List.map_drop]
theorem bvs_rep (k : Nat) : bvs (List.replicate k 0) = List.replicate k (.int .u8 0) := by simp [bvs, bv]

theorem Blk.cell {w : World} {g : Nat} {t : TypeId} {l : List UInt8} (h : Blk w g t l) (j : Nat) (hj : j < l.length) : w.cell? ⟨g, j, none⟩ = some (bv l[j]) := by
  rw [cell_of_row w g j _ _ _ h]; simp [bvs, hj]
theorem Blk.frozen {w : World} {g : Nat} {t : TypeId} {l : List UInt8} (h : Blk w g t l) (j : Nat) : w.frozen? ⟨g, j, none⟩ = false := frozen_of_row w g j _ _ h
theorem Blk.lt {w : World} {g : Nat} {t : TypeId} {l : List UInt8} (h : Blk w g t l) : g < w.heap.size := (Array.getElem?_eq_some_iff.1 h).1
theorem Blk.below {w w' : World} {g B : Nat} {t : TypeId} {l : List UInt8} (h : Blk w g t l) (hb : Below B w w') (hg : g < B) : Blk w' g t l := by
  unfold Blk; rw [hb.block g hg]; exact h
theorem Blk.src {w : World} {g : Nat} {t : TypeId} {l : List UInt8} (h : Blk w g t l) : Src w (some ⟨g, 0, none⟩) l :=
  .inr ⟨g, 0, rfl, h.lt, fun j hj => by rw [Nat.zero_add]; exact h.cell j hj⟩
theorem Src.below {w w' : World} {sp : Option Addr} {l : List UInt8} (h : Src w sp l) {B : Nat} (hb : Below B w w') (hB : w.heap.size ≤ B) : Src w' sp l := by
  rcases h with h | ⟨b, off, h1, h2, h3⟩
  · exact .inl h
  · exact .inr ⟨b, off, h1, by have := hb.size; omega, fun j hj => (hb.cell (p := ⟨b, off + j, none⟩) (show b < B by omega)).trans (h3 j hj)⟩
theorem Src.nil (w : World) (sp : Option Addr) : Src w sp [] := .inl rfl
theorem Src.cell {w : World} {b off : Nat} {l : List UInt8} (h : Src w (some ⟨b, off, none⟩) l) (j : Nat) (hj : j < l.length) : w.cell? ⟨b, off + j, none⟩ = some (bv l[j]) := by
  rcases h with h | ⟨b', off', h1, _, h3⟩
  · subst h; simp at hj
  · obtain ⟨rfl, rfl⟩ : b = b' ∧ off = off' := by simpa using h1
    exact h3 j hj
theorem Src.at' {w : World} {sp : Option Addr} {l : List UInt8} (h : Src w sp l) (hl : 0 < l.length) : ∃ b off, sp = some ⟨b, off, none⟩ ∧ b < w.heap.size ∧ ∀ j, (h : j < l.length) → w.cell? ⟨b, off + j, none⟩ = some (bv l[j]) := by
  rcases h with h | h
  · subst h; simp at hl
  · exact h
theorem Src.pos {w : World} {sp : Option Addr} {l : List UInt8} (h : Src w sp l) (k : Nat) (hl : 0 < (bvs (l.take k)).length) :
    ∃ ad, sp = some ad ∧ ∀ j v, (bvs (l.take k))[j]? = some v → w.cell? (ad.add j) = some v := by
  rcases h with h | ⟨b, off, h1, h2, h3⟩
  · subst h; simp [bvs] at hl
  · refine ⟨_, h1, fun j v hv => ?_⟩
    have hj : j < (bvs (l.take k)).length := by
      rcases Nat.lt_or_ge j (bvs (l.take k)).length with h | h
      · exact h
      · rw [List.getElem?_eq_none h] at hv; cases hv
    rw [List.getElem?_eq_getElem hj] at hv
    simp only [bvs, List.length_map, List.length_take] at hj
    rw [addr_add, h3 j (by omega)]
    simpa [bvs] using hv

theorem Try.elem1 : (Try.prog.info? 5).map (·.size) = some 1 := by kernel_rfl
/-- A string of these bytes. -/
def str (l : List UInt8) : ByteArray := ⟨l.toArray⟩
theorem str_inj {a b : List UInt8} (h : str a = str b) : a = b := by
  have := congrArg (fun s : ByteArray => s.data.toList) h
  simpa [str] using this
theorem strOfNums_bytes (l : List UInt8) : strOfNums (l.map fun b => (b.toNat : Int)) = str l := by
  unfold strOfNums str
  congr 2
  rw [List.map_map]
  conv => rhs; rw [← List.map_id l]
  apply List.map_congr_left
  intro b _; simp
/-- 'string(b)'. -/
theorem conv_str {w : World} {sp : Option Addr} {l : List UInt8} (h : Src w sp l) (n cap : Nat) (hn : n = l.length) : (convert 39 9 (.slice sp n cap)).run Try.prog w = .ok (.string (str l)) w := by
  subst hn
  cases sp with
  | none =>
    have : l = [] := by
      rcases h with h | ⟨b, off, h1, _⟩
      · exact h
      · cases h1
    subst this
    exact run_convert_bytes_nil w 39 5 Try.underlying39 Try.underlying5 _ _ 9 Try.underlying9
  | some ad =>
    rcases h with h | ⟨b, off, h1, h2, h3⟩
    · subst h
      rw [run_convert_bytes_string w 39 9 5 _ _ _ Try.underlying39 Try.underlying5 Try.underlying9, run_bytesToString w ad _ cap [] (by simp [loadCells, loadCellsFrom])]
      rfl
    · cases h1
      rw [run_convert_bytes_arg w 39 5 Try.underlying39 Try.underlying5 b off l.length cap (l.map fun b => (b.toNat : Int)) (by simp) (fun i hi => by rw [h3 i hi]; simp [bv, hi]) 9 Try.underlying9, strOfNums_bytes]
/-- '[]byte("..")' of a constant text. -/
theorem conv_const (w : World) (C : Array Value) (n c : Nat) : (convert 39 39 (.slice (some ⟨w.heap.size, 0, none⟩) n c)).run Try.prog (w.alloc (.cells C 5)) = .ok (.slice (some ⟨w.heap.size, 0, none⟩) n c) (w.alloc (.cells C 5 (C.size, C.size + 1))) :=
  Lib.run_convert_bytes_const (P := Try.prog) w 39 5 C n c Try.underlying39 Try.underlying5
theorem src_row {w : World} {g : Nat} {t : TypeId} {l : List UInt8} {fr : Nat × Nat} (h : w.heap[g]? = some (.cells (bvs l).toArray t fr)) : Src w (some ⟨g, 0, none⟩) l :=
  .inr ⟨g, 0, rfl, (Array.getElem?_eq_some_iff.1 h).1, fun j hj => by rw [Nat.zero_add, cell_of_row w g j _ _ _ h]; simp [bvs, hj]⟩
end Go.Proofs.Ytikpnfnbmbaljaa
