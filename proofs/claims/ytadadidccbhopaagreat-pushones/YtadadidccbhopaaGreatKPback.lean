/- slices.Backward: its iterator. -/
import Derived.RangeFuncNested
import Derived.RangeFuncBound
import Derived.RangeFuncCalls
import Derived.RangeFuncLeaves
import Derived.Shelf.Abstract
import Derived.WalkKit
import Derived.OwnWalkIn
import Derived.TacticsInMore
import Derived.LoopNIn
import Derived.LoopIn
import Derived.Test.YtadadidccbhopaaGreatJPst2
namespace Go.Proofs.YtadadidccbhopaaGreat
open Go.RowKit Go.Shelf
set_option maxRecDepth 100000
attribute [local go_sem] Oper.semAt_some
/-- Which places have come when k rounds are over: from the last one on. -/
def backs (N k : Nat) : List (Fin N) := (List.finRange N).reverse.take k
theorem backs_succ {N k : Nat} (h : k < N) : backs N (k + 1) = backs N k ++ [⟨N - 1 - k, by omega⟩] := by
  unfold backs
  rw [List.take_add_one, List.getElem?_reverse (by simpa using h)]
  simp [show N - 1 - k < N by omega]
theorem backs_length {N k : Nat} (h : k ≤ N) : (backs N k).length = k := by simp [backs]; omega
theorem backs_all (N : Nat) (i : Fin N) : i ∈ backs N N := by
  unfold backs
  rw [List.take_of_length_le (by simp)]
  simp
/-- The number that a value is. -/
def valI : Value → Int
  | .int _ i => i
  | _ => 0
/-- Place and number. -/
def encB (L : List Int) (x : Fin L.length) : Array Value := #[.int .i64 (x.1 : Int), .int .i64 (L.getD x.1 0)]
/-- The box and the row are as they were. -/
def SameB (sp : Option Addr) (Bs : Nat) (W W' : World) : Prop := W'.heap[Bs]? = W.heap[Bs]? ∧ ∀ b o, sp = some ⟨b, o, none⟩ → W'.heap[b]? = W.heap[b]?
theorem SameB.refl (sp : Option Addr) (Bs : Nat) (W : World) : SameB sp Bs W W := ⟨rfl, fun _ _ _ => rfl⟩
theorem SameB.trans {sp : Option Addr} {Bs : Nat} {X Y Z : World} (h : SameB sp Bs X Y) (k : SameB sp Bs Y Z) : SameB sp Bs X Z := ⟨k.1.trans h.1, fun b o e => (k.2 b o e).trans (h.2 b o e)⟩
theorem sameB_b {sp : Option Addr} {Bs : Nat} {w : World} (hB : Bs < w.heap.size) (hs : ∀ b o, sp = some ⟨b, o, none⟩ → b < w.heap.size) (W : World) (l : Nat) (o o' : Obj) (hl : w.heap.size ≤ l) (_ : W.heap[l]? = some o) (_ : o.isCells = false) (_ : o.isWalk = false) : SameB sp Bs W (W.putObj l o') :=
  ⟨World.putObj_heap_other (by omega), fun b o e => World.putObj_heap_other (by have := hs b o e; omega)⟩
set_option maxRecDepth 100000 in
set_option maxHeartbeats 4000000 in
theorem back1_in (l Bs : Nat) (sp : Option Addr) (cap : Nat) (L : List Int) (hL : L.length ≤ 1000000) (J Jx : List (Fin L.length) → World → Prop) (n : Nat)
    (hY : ∀ pre x W, J pre W → pre.length < L.length → YieldAt Fence.wide (n - 1) Tryz.prog l (encB L x) W fun e W' =>
      (e = .returned (.bool true) ∧ J (pre ++ [x]) W' ∧ SameB sp Bs W W') ∨ (e = .returned (.bool false) ∧ Jx (pre ++ [x]) W'))
    (W : World) (hBs : W.cell? ⟨Bs, 0, none⟩ = some (.slice sp L.length cap)) (hs : SrcI W sp L) (h0 : J [] W) :
    CallsIn Fence.wide n Tryz.prog 168 #[.func (.yield l) #[] #[], .pointer (some ⟨Bs, 0, none⟩)] W fun e W' => (∃ v, e = .returned v) ∧
      ((∃ ys, ys = backs L.length L.length ∧ J ys W') ∨ (∃ pre, (∃ k, k ≤ L.length ∧ pre = backs L.length k) ∧ Jx pre W')) := by
  refine callsIn_of_wp Tryz.func168 rfl trivial ?_ rfl
  simp only [Tryz.ntmps168, List.size_toArray, List.length_cons, List.length_nil, Nat.reduceAdd, Nat.reduceSub, Array.replicate_succ, Array.replicate_zero, List.push_toArray, List.append_toArray, List.nil_append, List.cons_append]
  have HS : Hid (SrcI W sp L) := hs
  clear hs
  obtain ⟨N, hN⟩ : ∃ N, N = L.length := ⟨_, rfl⟩
  have HN : Hid (N = L.length) := hN
  rw [← hN] at hBs hL
  clear hN
  gi_wp2
  gi_loopw [3] (fun i wr => ∃ k : Nat, k ≤ N ∧ i = .int .i64 ((N : Int) - 1 - (k : Int)) ∧ Hid (J (backs L.length k) wr) ∧ Hid (SameB sp Bs W wr))
    (fun i _ => (valI i + 1).toNat)
  case atStart => exact ⟨0, Nat.zero_le _, by simp, h0, SameB.refl _ _ _⟩
  case round =>
    obtain ⟨k, hk, rfl, hJs, hnx⟩ := hrel
    by_cases hlt : k < N
    · have hkl : k < L.length := by rw [← HN.out]; exact hlt
      obtain ⟨fn, tmps, assign, body, hy, hR⟩ := hY _ ⟨L.length - 1 - k, by omega⟩ wr hJs.out (by rw [backs_length (by omega)]; exact hkl)
      dsimp only [encB] at hy
      have ei : ((L.length - 1 - k : Nat) : Int) = (N : Int) - 1 - (k : Int) := by rw [HN.out]; omega
      rw [ei] at hy
      have hcx := (World.cell?_of_block (w := W) (a := ⟨Bs, 0, none⟩) hnx.out.1).trans hBs
      obtain ⟨b, o, hsp, hcell⟩ : ∃ b o, sp = some ⟨b, o, none⟩ ∧ wr.cell? ⟨b, o + (L.length - 1 - k), none⟩ = some (.int .i64 (L.getD (L.length - 1 - k) 0)) := by
        rcases HS.out with e | ⟨b, o, e, _, hc⟩
        · rw [e] at hkl; cases hkl
        · exact ⟨b, o, e, (World.cell?_of_block (w := W) (a := ⟨b, o + (L.length - 1 - k), none⟩) (hnx.out.2 b o e)).trans (hc _ (by omega))⟩
      have en : ((N : Int) - 1 - (k : Int)).toNat = L.length - 1 - k := by rw [← ei]; rfl
      have hg1 : 0 ≤ (N : Int) - 1 - (k : Int) := by omega
      have hg2 : (N : Int) - 1 - (k : Int) < (N : Int) := by omega
      have HJ : Hid _ := hJs
      subst hsp
      generalize L.getD (L.length - 1 - k) 0 = x at *
      gi_wp2
      refine ⟨(fun h => (by cases h)), hR.mono ?_⟩
      rintro e W3 (⟨rfl, hJ3, hk3⟩ | ⟨rfl, hJx3⟩)
      · gi_wp2
        go_roundw
        case rel => exact ⟨k + 1, by omega, by congr 1; omega, by rw [backs_succ hkl]; exact hJ3, hnx.out.trans hk3⟩
        case measure => simp [valI]; omega
      · gi_wp2
        refine bodyPost_ret (results_none rfl _ _ _) rfl ?_
        exact ⟨⟨_, rfl⟩, .inr ⟨_, ⟨k + 1, by omega, (backs_succ hkl).symm⟩, hJx3⟩⟩
    · obtain rfl : k = N := by omega
      have hg : ¬ 0 ≤ (k : Int) - 1 - (k : Int) := by omega
      gi_wp2
      go_end0
      have := hJs.out
      rw [HN.out] at this
      exact ⟨⟨_, rfl⟩, .inl this⟩
set_option maxHeartbeats 1000000 in
theorem back_any (sp : Option Addr) (len cap : Nat) (w : World) :
    Calls Tryz.prog 148 #[.slice sp len cap] w fun e w' => e = .returned (.func (.func 168) #[] #[.pointer (some ⟨w.heap.size, 0, none⟩)]) ∧ w' = w.alloc (.cells #[.slice sp len cap] 37) := by
  go_enter Tryz.func148, Tryz.ntmps148
  go_wp2
  go_ret
  exact ⟨rfl, rfl⟩
theorem back_stops (Bs n : Nat) (sp : Option Addr) (cap : Nat) (L : List Int) (hL : L.length ≤ 1000000) (w : World) (hBs : Bs < w.heap.size) (hc : w.cell? ⟨Bs, 0, none⟩ = some (.slice sp L.length cap)) (hs : SrcI w sp L) :
    SeqStopsK Fence.wide n Tryz.prog 168 #[.pointer (some ⟨Bs, 0, none⟩)] (encB L) (SameB sp Bs) (fun ys => ys = backs L.length L.length) (fun pre => ∃ k, k ≤ L.length ∧ pre = backs L.length k) L.length w := fun l J Jx W hW _ _ hY h0 => by
  have hc' := (hW.cell (p := ⟨Bs, 0, none⟩) hBs).trans hc
  have hs' : SrcI W sp L := by
    rcases hs with e | ⟨b, o, e, hlt, hcc⟩
    · exact .inl e
    · exact .inr ⟨b, o, e, by have := hW.size; omega, fun j hj => (hW.cell (p := ⟨b, o + j, none⟩) hlt).trans (hcc j hj)⟩
  exact back1_in l Bs sp cap L hL J Jx n hY W hc' hs' h0
end Go.Proofs.YtadadidccbhopaaGreat
