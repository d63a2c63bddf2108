/- dirent.places: its iterator. -/
import Derived.Test.YtabmogeicpphoaaAdapt
namespace Go.Proofs.Ytabmogeicpphoaa
open Go.RowKit Go.Shelf
attribute [local go_sem] Oper.semAt_some
/-- What has come when k rounds are over. -/
def come (k : Nat) : List (Fin 8) := (List.finRange 8).take k
theorem come_succ {k : Nat} (h : k < 8) : come (k + 1) = come k ++ [⟨k, h⟩] := by
  unfold come
  rw [List.take_add_one]
  simp [h]
theorem come_length {k : Nat} (h : k ≤ 8) : (come k).length = k := by simp [come]; omega
/-- Place k of the block that lies there. -/
def encP (b off cap : Nat) (x : Fin 8) : Array Value := #[.int .i64 (x.1 : Int), .slice (some ⟨b, off + 32 * x.1, none⟩) 32 (cap - 32 * x.1)]
theorem dst_ok {k : Nat} (h : k < 8) : dstP 256 (k : Int) = (k : Int) * 32 ∧ dstE 256 (k : Int) = 0 := by
  constructor
  · unfold dstP; rw [if_pos rfl, if_pos (by omega)]
  · unfold dstE; rw [if_pos rfl, if_pos (by omega)]
/-- Block B is as it was. -/
def SameAt (B : Nat) (W W' : World) : Prop := W'.heap[B]? = W.heap[B]?
theorem sameK_t {B : Nat} {X Y Z : World} (h : SameAt B X Y) (k : SameAt B Y Z) : SameAt B X Z := Eq.trans k h
theorem sameK_b {B : Nat} {w : World} (hB : B < w.heap.size) (W : World) (l : Nat) (o o' : Obj) (hl : w.heap.size ≤ l) (_ : W.heap[l]? = some o) (_ : o.isCells = false) (_ : o.isWalk = false) : SameAt B W (W.putObj l o') := World.putObj_heap_other (by omega)
theorem SameAt.bel {B : Nat} {W W' : World} (h : Below W.heap.size W W') (hB : B < W.heap.size) : SameAt B W W' := h.block B hB
set_option maxRecDepth 100000 in
set_option maxHeartbeats 4000000 in
theorem places1_in (l Bs b off cap : Nat) (hcap : 256 ≤ cap) (hm : (cap : Int) ≤ 9223372036854775807) (J Jx : List (Fin 8) → World → Prop) (n : Nat)
    (hY : ∀ pre x W, J pre W → pre.length < 8 → YieldAt Fence.wide (n - 1) Try.prog l (encP b off cap x) W fun e W' =>
      (e = .returned (.bool true) ∧ J (pre ++ [x]) W' ∧ SameAt Bs W W') ∨ (e = .returned (.bool false) ∧ Jx (pre ++ [x]) W'))
    (W : World) (hBs : W.cell? ⟨Bs, 0, none⟩ = some (.slice (some ⟨b, off, none⟩) 256 cap)) (h0 : J [] W) :
    CallsIn Fence.wide n Try.prog 78 #[.func (.yield l) #[] #[], .pointer (some ⟨Bs, 0, none⟩)] W fun e W' => (∃ v, e = .returned v) ∧
      ((∃ ys, ys = come 8 ∧ J ys W') ∨ (∃ pre, (∃ k, k ≤ 8 ∧ pre = come k) ∧ Jx pre W')) := by
  refine callsIn_of_wp Try.func78 rfl trivial ?_ rfl
  simp only [Try.ntmps78, List.size_toArray, List.length_cons, List.length_nil, Nat.reduceAdd, Nat.reduceSub, Array.replicate_succ, Array.replicate_zero, List.push_toArray, List.append_toArray, List.nil_append, List.cons_append]
  gi_wp2
  gi_loopw [6] (fun i wr => ∃ k : Nat, k ≤ 8 ∧ i = .int .i64 k ∧ J (come k) wr ∧ SameAt Bs W wr)
    (fun i _ => 8 - (intOf i).toNat)
  case atStart => exact ⟨0, Nat.zero_le _, rfl, h0, rfl⟩
  case round =>
    obtain ⟨k, hk, rfl, hJs, hnx⟩ := hrel
    by_cases hlt : k < 8
    · obtain ⟨fn, tmps, assign, body, hy, hR⟩ := hY _ ⟨k, hlt⟩ wr hJs (by rw [come_length hk]; exact hlt)
      dsimp only [encP] at hy
      have hcx := (World.cell?_of_block (a := ⟨Bs, 0, none⟩) hnx).trans hBs
      have hst := dstart_any (some ⟨b, off, none⟩) 256 cap (k : Int)
      rw [(dst_ok hlt).1, (dst_ok hlt).2] at hst
      have hsl := slice_sl b off 256 cap (32 * k) 32 ((k : Int) * 32) ((k : Int) * 32 + 32) (by omega) (by omega) (by omega) (by omega)
      gi_wp2_with fail
      refine ⟨trivial, (fun h => (by cases h)), (callsIn_wide.2 (hst _)).mono ?_⟩
      rintro e w1 ⟨rfl, hw1⟩
      rw [hw1]
      clear hw1 w1
      gi_wp2
      refine ⟨(fun h => (by cases h)), hR.mono ?_⟩
      rintro e W3 (⟨rfl, hJ3, hk3⟩ | ⟨rfl, hJx3⟩)
      · gi_wp2
        go_roundw
        case rel => exact ⟨k + 1, by omega, by simp, by rw [come_succ hlt]; exact hJ3, Eq.trans hk3 hnx⟩
        case measure => simp [intOf]; omega
      · gi_wp2
        refine bodyPost_ret (results_none rfl _ _ _) rfl ?_
        exact ⟨⟨_, rfl⟩, .inr ⟨_, ⟨k + 1, by omega, (come_succ hlt).symm⟩, hJx3⟩⟩
    · obtain rfl : k = 8 := by omega
      gi_wp2
      go_end0
      exact ⟨⟨_, rfl⟩, .inl ⟨_, rfl, hJs⟩⟩
set_option maxRecDepth 100000 in
set_option maxHeartbeats 4000000 in
theorem places1_no (l Bs : Nat) (sp : Option Addr) (len cap : Nat) (hl : ¬ len = 256) (J : List (Fin 8) → World → Prop) (n : Nat)
    (W : World) (hBs : W.cell? ⟨Bs, 0, none⟩ = some (.slice sp len cap)) (h0 : J [] W) :
    CallsIn Fence.wide n Try.prog 78 #[.func (.yield l) #[] #[], .pointer (some ⟨Bs, 0, none⟩)] W fun e W' => (∃ v, e = .returned v) ∧ J [] W' := by
  refine callsIn_of_wp Try.func78 rfl trivial ?_ rfl
  simp only [Try.ntmps78, List.size_toArray, List.length_cons, List.length_nil, Nat.reduceAdd, Nat.reduceSub, Array.replicate_succ, Array.replicate_zero, List.push_toArray, List.append_toArray, List.nil_append, List.cons_append]
  have hst := dstart_any sp len cap 0
  rw [show dstP len 0 = 0 by unfold dstP; rw [if_neg hl], show dstE len 0 = 4 by unfold dstE; rw [if_neg hl]] at hst
  clear hl
  gi_wp2
  gi_loopw [6] (fun i wr => i = .int .i64 0 ∧ wr = W) (fun _ _ => 0)
  case atStart => exact ⟨rfl, rfl⟩
  case round =>
    obtain ⟨rfl, hwr⟩ := hrel
    rw [hwr]
    clear hwr
    gi_wp2_with fail
    refine ⟨trivial, (fun h => (by cases h)), (callsIn_wide.2 (hst _)).mono ?_⟩
    rintro e w1 ⟨rfl, hw1⟩
    rw [hw1]
    clear hw1 w1
    gi_wp2
    refine ⟨fun _ h => (by cases h), ?_⟩
    gi_wp2
    refine bodyPost_ret (results_none rfl _ _ _) rfl ?_
    exact ⟨⟨_, rfl⟩, h0⟩
set_option maxHeartbeats 1000000 in
theorem places_any (sp : Option Addr) (len cap : Nat) (w : World) :
    Calls Try.prog 67 #[.slice sp len cap] w fun e w' => e = .returned (.func (.func 78) #[] #[.pointer (some ⟨w.heap.size, 0, none⟩)]) ∧ w' = w.alloc (.cells #[.slice sp len cap] 25) := by
  go_enter Try.func67, Try.ntmps67
  go_wp2
  go_ret
  exact ⟨rfl, rfl⟩
set_option maxHeartbeats 1000000 in
theorem entries_any (sp : Option Addr) (len cap : Nat) (w : World) :
    Calls Try.prog 66 #[.slice sp len cap] w fun e w' => e = .returned (.func (.func 77) #[] #[.pointer (some ⟨w.heap.size, 0, none⟩)]) ∧ w' = w.alloc (.cells #[.slice sp len cap] 25) := by
  go_enter Try.func66, Try.ntmps66
  go_wp2
  go_ret
  exact ⟨rfl, rfl⟩
/-- Which places come: all of a block, none of other bytes. -/
def comes (len : Nat) (xs : List (Fin 8)) : Prop := if len = 256 then xs = come 8 else xs = []
def nOf (len : Nat) : Nat := if len = 256 then 8 else 0
theorem nOf_lt {len k : Nat} (h : k < nOf len) : len = 256 := by
  unfold nOf at h
  by_cases e : len = 256
  · exact e
  · rw [if_neg e] at h; omega
def comesP (len : Nat) (pre : List (Fin 8)) : Prop := len = 256 ∧ ∃ k, k ≤ 8 ∧ pre = come k
/-- A slice's place, also where there is none. -/
def bOf (sp : Option Addr) : Nat × Nat := match sp with | some a => (a.block, a.off) | none => (0, 0)
theorem places_stops (Bs n : Nat) (sp : Option Addr) (len cap : Nat) (w : World) (hBs : Bs < w.heap.size) (hc : w.cell? ⟨Bs, 0, none⟩ = some (.slice sp len cap))
    (hA : len = 256 → sp = some ⟨(bOf sp).1, (bOf sp).2, none⟩ ∧ 256 ≤ cap ∧ (cap : Int) ≤ 9223372036854775807) :
    SeqStopsK Fence.wide n Try.prog 78 #[.pointer (some ⟨Bs, 0, none⟩)] (encP (bOf sp).1 (bOf sp).2 cap) (SameAt Bs) (comes len) (comesP len) (nOf len) w := fun l J Jx W hW _ _ hY h0 => by
  have hc' := (hW.cell (p := ⟨Bs, 0, none⟩) hBs).trans hc
  by_cases hl : len = 256
  · obtain ⟨h1, h2, h3⟩ := hA hl
    rw [hl, h1] at hc'
    refine (places1_in l Bs (bOf sp).1 (bOf sp).2 cap h2 h3 J Jx n (fun pre x W h k => hY pre x W h (by unfold nOf; rw [if_pos hl]; exact k)) W hc' h0).mono ?_
    rintro e W' ⟨he, ⟨ys, rfl, hj⟩ | ⟨pre, hp, hj⟩⟩
    · exact ⟨he, .inl ⟨_, by unfold comes; rw [if_pos hl], hj⟩⟩
    · exact ⟨he, .inr ⟨_, ⟨hl, hp⟩, hj⟩⟩
  · refine (places1_no l Bs sp len cap hl J n W hc' h0).mono ?_
    rintro e W' ⟨he, hj⟩
    exact ⟨he, .inl ⟨_, by unfold comes; rw [if_neg hl], hj⟩⟩
end Go.Proofs.Ytabmogeicpphoaa
