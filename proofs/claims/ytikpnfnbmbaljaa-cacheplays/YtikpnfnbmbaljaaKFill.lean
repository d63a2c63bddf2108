/- leveeref01.Fill. -/
import Derived.Test.YtikpnfnbmbaljaaJWrite3
namespace Go.Proofs.Ytikpnfnbmbaljaa
open Go.RowKit
set_option maxRecDepth 100000
theorem Blk.store {w : World} {g : Nat} {t : TypeId} {l : List UInt8} (h : Blk w g t l) (j : Nat) (x : UInt8) : Blk (w.setCell ⟨g, j, none⟩ (bv x)) g t (l.set j x) := by
  have e : bvs (l.set j x) = (bvs l).set j (bv x) := by simp [bvs]
  have h' : w.heap[g]? = some (.cells (bvs l).toArray t (0, 0)) := h
  unfold Blk
  rw [e]
  simp [World.setCell, Array.getElem?_modify, h']
/-- The first k bytes of what Fill makes of l, and 0 behind them. -/
def fillN (N : Nat) (l : List UInt8) (k : Nat) : List UInt8 := (List.range N).map fun i => if i < k then l.getD (i % l.length) 0 else 0
def fillP (l : List UInt8) (k : Nat) : List UInt8 := fillN 256 l k
def fillL (l : List UInt8) : List UInt8 := fillP l 256
theorem fillN_length (N : Nat) (l : List UInt8) (k : Nat) : (fillN N l k).length = N := by simp [fillN]
theorem fillP_length (l : List UInt8) (k : Nat) : (fillP l k).length = 256 := fillN_length 256 l k
theorem fillL_length (l : List UInt8) : (fillL l).length = 256 := fillP_length l 256
theorem fillN_zero (N : Nat) (l : List UInt8) : fillN N l 0 = List.replicate N 0 := by
  apply List.ext_getElem (by simp [fillN]); intro i h1 h2; simp [fillN]
theorem fillP_zero (l : List UInt8) : fillP l 0 = List.replicate 256 0 := fillN_zero 256 l
theorem fillN_nil (N k : Nat) : fillN N [] k = List.replicate N 0 := by
  apply List.ext_getElem (by simp [fillN]); intro i h1 h2; simp [fillN]
theorem fillL_nil : fillL [] = List.replicate 256 0 := fillN_nil 256 256
theorem fillN_succ (N : Nat) (l : List UInt8) (k : Nat) (x : UInt8) (hx : x = l.getD (k % l.length) 0) : (fillN N l k).set k x = fillN N l (k + 1) := by
  apply List.ext_getElem (by simp [fillN]); intro i h1 h2
  rw [List.getElem_set]
  simp only [fillN, List.getElem_map, List.getElem_range]
  by_cases h : k = i
  · subst h; rw [if_pos rfl, if_pos (by omega), hx]
  · rw [if_neg h]
    by_cases h3 : i < k
    · rw [if_pos h3, if_pos (by omega)]
    · rw [if_neg h3, if_neg (by omega)]
theorem fillP_succ (l : List UInt8) (k : Nat) (x : UInt8) (hx : x = l.getD (k % l.length) 0) : (fillP l k).set k x = fillP l (k + 1) := fillN_succ 256 l k x hx
set_option maxHeartbeats 1000000 in
set_option maxRecDepth 100000 in
theorem fill_any (w : World) (sp : Option Addr) (cap : Nat) (l : List UInt8) (hs : Src w sp l) (hl : (l.length : Int) ≤ 9223372036854775807) :
    Calls Try.prog 20 #[.slice sp l.length cap] w fun e w' => ∃ g, e = .returned (.slice (some ⟨g, 0, none⟩) 256 256) ∧ Blk w' g 5 (fillL l) ∧ w.heap.size ≤ g ∧ Below w.heap.size w w' := by
  have hmk : (Instr.makeSlice 39 (.int .i64 256) (.int .i64 256)).run Try.prog w = .ok (.slice (some ⟨w.heap.size, 0, none⟩) 256 256) (w.alloc (.cells (bvs (List.replicate 256 0)).toArray 5)) := make_any w 256 256 (by omega) (by omega)
  have hb0 : Below w.heap.size w (w.alloc (.cells (bvs (List.replicate 256 0)).toArray 5)) := (Below.refl _ _).alloc (Nat.le_refl _) _
  have hg0 : Blk (w.alloc (.cells (bvs (List.replicate 256 0)).toArray 5)) w.heap.size 5 (List.replicate 256 0) := heap_alloc_new _ _
  by_cases h0 : l = []
  · subst h0
    have HF : Hid _ := fillL_nil
    obtain ⟨w0, HW⟩ : ∃ w0, Hid (w0 = w.alloc (.cells (bvs (List.replicate 256 0)).toArray 5)) := ⟨_, rfl⟩
    rw [← HW.out] at hmk hb0 hg0
    clear HW
    go_enter Try.func20, Try.ntmps20
    go_wp2
    refine wp_loop_rounds 1 ?_
    rw [rounds_succ]; go_wp2
    go_ret
    exact ⟨_, rfl, by rw [HF.out]; exact hg0, Nat.le_refl _, hb0⟩
  · have hpos : 0 < l.length := by cases l with | nil => exact absurd rfl h0 | cons a t => simp
    have hpos' : (0 : Int) < l.length := by omega
    obtain ⟨b, off, rfl, hbl, hc⟩ := hs.at' hpos
    obtain ⟨w0, HW⟩ : ∃ w0, Hid (w0 = w.alloc (.cells (bvs (List.replicate 256 0)).toArray 5)) := ⟨_, rfl⟩
    rw [← HW.out] at hmk hb0 hg0
    rw [← fillP_zero l] at hg0
    clear HW
    go_enter Try.func20, Try.ntmps20
    go_wp2
    go_loopw [4] (fun i wr => ∃ k : Nat, k ≤ 256 ∧ i = .int .i64 k ∧ Blk wr w.heap.size 5 (fillP l k) ∧ Below w.heap.size w wr) (fun i _ => 256 - (intOf i).toNat)
    case atStart => exact ⟨0, by omega, rfl, hg0, hb0⟩
    case round =>
      obtain ⟨k, hk, rfl, hB, hbw⟩ := hrel
      by_cases hlt : (k : Int) < 256
      · have hml : k % l.length < l.length := Nat.mod_lt _ hpos
        have hml' : ((k % l.length : Nat) : Int) < l.length := by omega
        have cS : wr.cell? ⟨b, off + k % l.length, none⟩ = some (bv (l.getD (k % l.length) 0)) := by
          rw [hbw.cell (p := ⟨b, off + k % l.length, none⟩) hbl, hc _ hml]; simp [hml]
        have hfl := fillP_length l k
        obtain ⟨y, cD⟩ : ∃ y : UInt8, wr.cell? ⟨w.heap.size, k, none⟩ = some (bv y) := ⟨_, hB.cell k (by omega)⟩
        have fD := hB.frozen k
        have hst := hB.store k (l.getD (k % l.length) 0)
        rw [fillP_succ l k _ rfl] at hst
        have hb2 := hbw.setCell (p := ⟨w.heap.size, k, none⟩) (Nat.le_refl _) (bv (l.getD (k % l.length) 0))
        have HST : Hid _ := hst
        have hrem : Int.tmod (k : Int) (l.length : Int) = ((k % l.length : Nat) : Int) := by
          rw [Int.ofNat_tmod]
        generalize l.getD (k % l.length) 0 = x at *
        generalize k % l.length = m at *
        change wr.cell? ⟨b, off + m, none⟩ = some (Value.int .u8 (x.toNat : Int)) at cS
        change wr.cell? ⟨w.heap.size, k, none⟩ = some (Value.int .u8 (y.toNat : Int)) at cD
        clear hst hB hc hfl hg0 hmk hb0
        go_wp2
        go_roundw
        case rel => exact ⟨k + 1, by omega, by go_num, HST.out, hb2⟩
        case measure => simp [intOf]; omega
      · obtain rfl : k = 256 := by omega
        go_wp2
        go_ret
        exact ⟨_, rfl, hB, Nat.le_refl _, hbw⟩
end Go.Proofs.Ytikpnfnbmbaljaa
