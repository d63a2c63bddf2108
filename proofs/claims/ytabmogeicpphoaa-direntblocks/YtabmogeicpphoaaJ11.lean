/- A range over an iterator that itself ranges over one: what the iterator promises, and the law for its caller. -/
import Derived.RangeFuncNested
import Derived.RangeFuncBound
import Derived.RangeFuncCalls
import Derived.RangeFuncLeaves
import Derived.Shelf.Abstract
import Derived.WalkKit
import Derived.OwnWalkIn
import Derived.TacticsInMore
import Derived.LoopNIn
import Derived.LoopIn
import Derived.Test.YtabmogeicpphoaaKEtab
namespace Go.Proofs.Ytabmogeicpphoaa
open Go.RowKit Go.Shelf
/-- Block k holds cells. -/
def CellAt (W : World) (k : Nat) : Prop := ∃ o : Obj, W.heap[k]? = some o ∧ o.isCells = true
theorem CellAt.lt {W : World} {k : Nat} (h : CellAt W k) : k < W.heap.size := by obtain ⟨o, ho, _⟩ := h; exact (Array.getElem?_eq_some_iff.1 ho).1
theorem CellAt.same {W W' : World} {k : Nat} (h : CellAt W k) (e : W'.heap[k]? = W.heap[k]?) : CellAt W' k := by obtain ⟨o, ho, hc⟩ := h; exact ⟨o, e.trans ho, hc⟩
theorem CellAt.turn {A B : World} {k : Nat} {row : Option Nat} (h : CellAt A k) (hg : A.grownBy B row) (hr : ∀ r, row = some r → ∃ o : Obj, A.heap[r]? = some o ∧ o.isCells = false) : CellAt B k :=
  h.same (hg.block k h.lt (fun e => by
    obtain ⟨o, ho, hc⟩ := hr k e.symm
    obtain ⟨o', ho', hc'⟩ := h
    rw [ho] at ho'; cases ho'; rw [hc] at hc'; cases hc'))
/-- All that lay, but block l and the blocks of T, lies as it lay. -/
structure Kept (l : Nat) (T : Nat → Prop) (W W' : World) : Prop where
  size : W.heap.size ≤ W'.heap.size
  same : ∀ k, k < W.heap.size → k ≠ l → ¬ T k → W'.heap[k]? = W.heap[k]?
/-- All that lay, but the blocks of T, lies as it lay. -/
structure Upto (T : Nat → Prop) (W W' : World) : Prop where
  size : W.heap.size ≤ W'.heap.size
  same : ∀ k, k < W.heap.size → ¬ T k → W'.heap[k]? = W.heap[k]?
theorem Upto.bel {T : Nat → Prop} {W W' : World} (h : Below W.heap.size W W') : Upto T W W' := ⟨h.size, fun k hk _ => h.block k hk⟩
theorem Upto.refl (T : Nat → Prop) (W : World) : Upto T W W := ⟨Nat.le_refl _, fun _ _ _ => rfl⟩
theorem round_any {m m' : Nat} {P : Program} {l : Nat} {f : FuncId} {tmps : Array Value} {assign body : Code} {w : World} {R : Ending → World → Prop}
    (h : RoundIn Fence.wide m P l f tmps assign body w R) : RoundIn Fence.wide m' P l f tmps assign body w R := ⟨h.1, fun c cs _ => h.2 c cs (fun d e => by cases e)⟩
/-- What an iterator promises that may range over another one itself: a round of the loop l keeps all that lay but its own record and the blocks T of the loop's own, to which it may add new ones. -/
def Runs {α : Type} (P : Program) (g : Nat) (lb : Array Value) (encs : α → Array Value) (T0 : Nat → Prop) (S Sp : List α → Prop) (N : Nat) (w : World) : Prop :=
  ∀ (l : Nat) (J : List α → World → (Nat → Prop) → Prop) (Jx : List α → World → Prop) (W : World), l < W.heap.size → w.heap.size ≤ l → Below w.heap.size w W →
    (∀ T, OwnFrom W.heap.size (fun s W => J s W T)) → OwnFrom W.heap.size Jx → (∀ pre W T, J pre W T → ∀ k, T k → CellAt W k) →
    (∀ (pre : List α) (x : α) (W1 : World) (T : Nat → Prop) (m : Nat), J pre W1 T → pre.length < N → YieldAt Fence.wide m P l (encs x) W1 fun e W' =>
      (e = .returned (.bool true) ∧ (∃ T', J (pre ++ [x]) W' T' ∧ ∀ k, T' k → T k ∨ W1.heap.size ≤ k) ∧ Kept l T W1 W') ∨ (e = .returned (.bool false) ∧ Jx (pre ++ [x]) W' ∧ Kept l T W1 W')) →
    J [] W T0 → ∀ m, CallsIn Fence.wide m P g (#[.func (.yield l) #[] #[]] ++ lb) W fun e W' => (∃ v, e = .returned v) ∧ ((∃ xs T, S xs ∧ J xs W' T) ∨ (∃ pre, Sp pre ∧ Jx pre W'))
/-- How the body of a round may be left. -/
def Left {α : Type} (I : List α → World → (Nat → Prop) → Prop) (Ix : List α → World → Prop) (T : Nat → Prop) (xs : List α) (W : World) : Exit → Act → World → Prop
  | .normal, _, W' => (∃ T', I xs W' T' ∧ ∀ k, T' k → (T k ∨ W.heap.size ≤ k) ∧ CellAt W' k) ∧ Upto T W W'
  | .ret, _, W' => Ix xs W' ∧ Upto T W W'
  | _, _, _ => False
theorem own_keep {β : Type} {B : Nat} {I : β → World → Prop} (h : OwnFrom B I) {s : β} {W : World} {l : Nat} {r : Loop} (o : Obj) (hs : I s W) (hB : B ≤ l) (hl : W.heap[l]? = some (.loop r)) : I s (W.putObj l o) := h.putObj o hs hB hl rfl
theorem own_up {β : Type} {B B' : Nat} {I : β → World → Prop} (h : OwnFrom B I) (hB : B ≤ B') : OwnFrom B' I :=
  fun s W W' row hs hg hr => h s W W' row hs hg (fun r e => ⟨Nat.le_trans hB (hr r e).1, (hr r e).2⟩)
/-- The law for the caller of such an iterator. -/
theorem range_runs {α : Type} {n : Nat} {P : Program} {g : Operand} {ps : Array Tmp} {assign body : Code} {Q : Exit → Act → World → Prop} {a : Act} {w : World}
    {gf : Nat} {lb : Array Value} (hg : a.eval g = .func (.func gf) #[] lb) (eg : ∀ args w, (callFunc gf args).run P w = .ok (.enter gf args) w)
    {encs : α → Array Value} {T0 : Nat → Prop} {S Sp : List α → Prop} {N : Nat} (hseq : Runs P gf lb encs T0 S Sp N w)
    (hT0 : ∀ k, T0 k → CellAt w k) (hps : ∀ x, (encs x).size = ps.size)
    (I : List α → World → (Nat → Prop) → Prop) (Ix : List α → World → Prop) (hI : ∀ T, OwnFrom w.heap.size (fun s W => I s W T)) (hIx : OwnFrom w.heap.size Ix) (h0 : I [] w T0) (Ax : α → Act → World → Prop) (hAx : ∀ x a', OwnFrom w.heap.size (fun (_ : Unit) W => Ax x a' W))
    (hassign : ∀ (l m : Nat) (pre : List α) (x : α) (W : World) (T : Nat → Prop) (K : Act → World → Prop), I pre W T → (∀ a' W', Below W.heap.size W W' → I pre W' T → Ax x a' W' → K a' W') →
      assign.wpIn (Fence.wide.inRound l) m P (Exit.then K (fun _ _ _ => False)) { tmps := (ps.zip (encs x)).foldl (fun t (p, v) => t.setIfInBounds p v) a.tmps, defers := [] } W)
    (hbody : ∀ (l m : Nat) (pre : List α) (x : α) (a' : Act) (W : World) (T : Nat → Prop), I pre W T → (∀ k, T k → CellAt W k) → Ax x a' W → pre.length < N → body.wpIn (Fence.wide.inRound l) m P (Left I Ix T (pre ++ [x]) W) a' W)
    (hdone : ∀ (D : Nat) (xs : List α) (W : World) (T : Nat → Prop), w.heap.size ≤ D → S xs → I xs W T → W.heap[D]? = some (.deferred (some [])) → Q .normal { a with defers := { target := .collected D, args := #[] } :: a.defers } W)
    (hstop : ∀ (D : Nat) (pre : List α) (W : World), w.heap.size ≤ D → Sp pre → Ix pre W → W.heap[D]? = some (.deferred (some [])) → Code.ret.wpIn Fence.wide n P Q { a with defers := { target := .collected D, args := #[] } :: a.defers } W) :
    (Code.rangeFunc g ps assign body).wpIn Fence.wide n P Q a w := by
  refine wpIn_rangeFunc fun fn _ => ?_
  -- the record of the loop, and where it and the block for deferred calls lie
  let rec0 : LoopState → Option Code → Loop := fun st pe => { state := st, pending := pe, fn := fn, tmps := a.tmps, params := ps, assign := assign, body := body, defers := w.heap.size }
  let wA := w.alloc (.deferred (some []))
  let wB := wA.alloc (.loop (rec0 .ready none))
  let L := w.heap.size + 1
  let Bk : World → LoopState → Option Code → Prop := fun W st pe => W.heap[L]? = some (.loop (rec0 st pe)) ∧ W.heap[w.heap.size]? = some (.deferred (some []))
  let Free : World → (Nat → Prop) → Prop := fun W T => ¬ T L ∧ ¬ T w.heap.size ∧ ∀ k, T k → CellAt W k
  have sB : wB.heap.size = w.heap.size + 2 := by simp [wB, wA]
  have kB : Bk wB .ready none := by
    refine ⟨?_, ?_⟩
    · have := World.alloc_heap_new wA (.loop (rec0 .ready none))
      rwa [show wA.heap.size = L by simp [wA, L]] at this
    · exact (Below.heap_alloc _ _ _ (by simp [wA])).trans (World.alloc_heap_new w _)
  have iB : I [] wB T0 := (hI T0).alloc _ ((hI T0).alloc _ h0)
  have fB : Free wB T0 := ⟨fun h => by have := (hT0 _ h).lt; simp only [L] at this; omega, fun h => by have := (hT0 _ h).lt; omega, fun k h => (hT0 k h).same ((Below.heap_alloc _ _ _ (by have := (hT0 k h).lt; simp [wA]; omega)).trans (Below.heap_alloc _ _ _ (hT0 k h).lt))⟩
  -- what the iterator turns is beyond both
  have far : ∀ {A B : World} {row : Option Nat}, A.grownBy B row → (∀ r, row = some r → wB.heap.size ≤ r ∧ ∃ o : Obj, A.heap[r]? = some o ∧ o.isCells = false) → ∀ (st : LoopState) (pe : Option Code), Bk A st pe → Bk B st pe := by
    intro A B row hgr hr st pe hs
    have f : ∀ k, k < w.heap.size + 2 → ∀ o, A.heap[k]? = some o → B.heap[k]? = some o := fun k hk o ho => by
      refine (hgr.block k (Array.getElem?_eq_some_iff.1 ho).1 (fun e => ?_)).trans ho
      have := (hr k e.symm).1
      omega
    exact ⟨f _ (by simp only [L]; omega) _ hs.1, f _ (by omega) _ hs.2⟩
  have putB : ∀ {W : World} {st : LoopState} {pe : Option Code} (st' : LoopState) (pe' : Option Code), Bk W st pe → Bk (W.putObj L (.loop (rec0 st' pe'))) st' pe' := fun st' pe' h =>
    ⟨World.putObj_heap_same (Array.getElem?_eq_some_iff.1 h.1).1, (World.putObj_heap_other (by simp only [L]; omega)).trans h.2⟩
  have keepB : ∀ {W W' : World} {T : Nat → Prop} {st : LoopState} {pe : Option Code}, Upto T W W' → Free W T → Bk W st pe → Bk W' st pe := fun h f k =>
    ⟨(h.same _ (Array.getElem?_eq_some_iff.1 k.1).1 f.1).trans k.1, (h.same _ (Array.getElem?_eq_some_iff.1 k.2).1 f.2.1).trans k.2⟩
  refine ⟨L, [{ target := .collected w.heap.size, args := #[] }], wB, { target := .fn (.func gf) lb, args := #[.func (.yield L) #[] #[]] }, wB, gf, #[.func (.yield L) #[] #[]] ++ lb, wB, run_enterLoop_outer _ _ _ _ _, ?_, fun _ _ => trivial, ?_, ?_, ?_⟩
  · simp only [resolve, hg]; simp [go_sem]
  · simp [invoke, go_sem, eg]
  · intro h; cases h
  refine (hseq L (fun s W T => I s W T ∧ Bk W .ready none ∧ Free W T) (fun s W => Ix s W ∧ Bk W .done (some .ret)) wB (by simp only [L]; omega) (by simp only [L]; omega)
    (((Below.refl _ w).alloc (Nat.le_refl _) _).alloc (by simp) _)
    (fun T s A B row hs hgr hr => ⟨(own_up (hI T) (by omega)) s A B row hs.1 hgr hr, far hgr hr _ _ hs.2.1, hs.2.2.1, hs.2.2.2.1, fun k hk => (hs.2.2.2.2 k hk).turn hgr (fun r e => (hr r e).2)⟩)
    (fun s A B row hs hgr hr => ⟨(own_up hIx (by omega)) s A B row hs.1 hgr hr, far hgr hr _ _ hs.2⟩)
    (fun _ _ _ h => h.2.2.2.2) ?_ ⟨iB, kB, fB⟩ _).mono ?_
  · rintro pre x W1 T m ⟨hi, hk, hf⟩ hlen
    have hy := run_yield (P := P) (args := encs x) hk.1 (hps x)
    refine ⟨fn, _, assign, body, hy, roundIn_of_wpIn trivial (hassign L m pre x W1 T _ hi fun a' W2 b2 i2 x2 => ?_)⟩
    have hk2 := keepB (T := T) (.bel b2) hf hk
    refine ⟨_, run_beginRound hk2.1 rfl, ?_⟩
    have hk3 := putB .busy none hk2
    have f3 : Free (W2.putObj L (.loop (rec0 .busy none))) T := ⟨hf.1, hf.2.1, fun k h => (hf.2.2 k h).same ((World.putObj_heap_other (fun e => hf.1 (by rw [← e]; exact h))).trans (b2.block k (hf.2.2 k h).lt))⟩
    refine wpIn_mono (hbody L m pre x a' _ T (own_keep (hI T) _ i2 (by simp only [L]; omega) hk2.1) f3.2.2 (own_keep (hAx x a') (s := ()) _ x2 (by simp only [L]; omega) hk2.1) hlen) ?_
    have step : ∀ {W3 : World} (o : Obj), Upto T (W2.putObj L (.loop (rec0 .busy none))) W3 → Kept L T W1 (W3.putObj L o) := fun {W3} o h => by
      have h1 := h.size
      have h2 := b2.size
      rw [World.putObj_size] at h1
      refine ⟨by rw [World.putObj_size]; omega, fun k hk' hne ht => ?_⟩
      rw [World.putObj_heap_other hne, h.same k (by rw [World.putObj_size]; omega) ht, World.putObj_heap_other hne, b2.block k hk']
    rintro e a3 W3 hp
    cases e with
    | normal =>
      obtain ⟨⟨T', i3, t3⟩, u3⟩ := hp
      have hk4 := keepB u3 f3 hk3
      have s2 := b2.size
      have z3 := (Array.getElem?_eq_some_iff.1 hk3.1).1
      rw [World.putObj_size] at z3
      have f4 : ∀ k, T' k → T k ∨ (W2.putObj L (.loop (rec0 .busy none))).heap.size ≤ k := fun k h => (t3 k h).1
      refine ⟨_, _, run_endRound none hk4.1, .inl ⟨rfl, ⟨T', ⟨own_keep (hI T') _ i3 (by simp only [L]; omega) hk4.1, putB .ready none hk4, ?_, ?_, ?_⟩, ?_⟩, step _ u3⟩⟩
      · intro h
        rcases f4 _ h with h | h
        · exact hf.1 h
        · rw [World.putObj_size] at h; omega
      · intro h
        rcases f4 _ h with h | h
        · exact hf.2.1 h
        · rw [World.putObj_size] at h; simp only [L] at z3; omega
      · intro k h
        refine (t3 k h).2.same (World.putObj_heap_other (fun e => ?_))
        rcases f4 _ h with h' | h'
        · exact hf.1 (e ▸ h')
        · rw [World.putObj_size] at h'; omega
      · intro k h
        rcases f4 _ h with h | h
        · exact .inl h
        · rw [World.putObj_size] at h; exact .inr (by omega)
    | ret =>
      obtain ⟨i3, u3⟩ := hp
      have hk4 := keepB u3 f3 hk3
      exact ⟨_, _, run_endRound (some .ret) hk4.1, .inr ⟨rfl, ⟨own_keep hIx _ i3 (by simp only [L]; omega) hk4.1, putB .done (some .ret) hk4⟩, step _ u3⟩⟩
    | exit _ => exact hp.elim
    | goto _ => exact hp.elim
    | panic _ => exact hp.elim
    | outgrown => exact hp.elim
  · rintro e W2 ⟨⟨v, rfl⟩, (⟨xs, T, hS, hi, hk, hf⟩ | ⟨pre, hSp, hi, hk⟩)⟩
    · exact ⟨none, _, run_endLoop hk.1 (by simp [rec0]), hdone _ xs _ T (Nat.le_refl _) hS (own_keep (hI T) _ hi (by simp only [L]; omega) hk.1) ((World.putObj_heap_other (by simp only [L]; omega)).trans hk.2)⟩
    · exact ⟨some .ret, _, run_endLoop hk.1 (by simp [rec0]), hstop _ pre _ (Nat.le_refl _) hSp (own_keep hIx _ hi (by simp only [L]; omega) hk.1) ((World.putObj_heap_other (by simp only [L]; omega)).trans hk.2)⟩
end Go.Proofs.Ytabmogeicpphoaa
/- dirent.places: its iterator. -/
namespace Go.Proofs.Ytabmogeicpphoaa
open Go.RowKit Go.Shelf
attribute [local go_sem] Oper.semAt_some
/-- What has come when k rounds are over. -/
def come (k : Nat) : List (Fin 8) := (List.finRange 8).take k
theorem come_succ {k : Nat} (h : k < 8) : come (k + 1) = come k ++ [⟨k, h⟩] := by
  unfold come
  rw [List.take_add_one]
  simp [h]
theorem come_length {k : Nat} (h : k ≤ 8) : (come k).length = k := by simp [come]; omega
/-- Place k of the block that lies there. -/
def encP (b off cap : Nat) (x : Fin 8) : Array Value := #[.int .i64 (x.1 : Int), .slice (some ⟨b, off + 32 * x.1, none⟩) 32 (cap - 32 * x.1)]
theorem dst_ok {k : Nat} (h : k < 8) : dstP 256 (k : Int) = (k : Int) * 32 ∧ dstE 256 (k : Int) = 0 := by
  constructor
  · unfold dstP; rw [if_pos rfl, if_pos (by omega)]
  · unfold dstE; rw [if_pos rfl, if_pos (by omega)]
/-- Block B is as it was. -/
def SameAt (B : Nat) (W W' : World) : Prop := W'.heap[B]? = W.heap[B]?
theorem sameK_t {B : Nat} {X Y Z : World} (h : SameAt B X Y) (k : SameAt B Y Z) : SameAt B X Z := Eq.trans k h
theorem sameK_b {B : Nat} {w : World} (hB : B < w.heap.size) (W : World) (l : Nat) (o o' : Obj) (hl : w.heap.size ≤ l) (_ : W.heap[l]? = some o) (_ : o.isCells = false) (_ : o.isWalk = false) : SameAt B W (W.putObj l o') := World.putObj_heap_other (by omega)
theorem SameAt.bel {B : Nat} {W W' : World} (h : Below W.heap.size W W') (hB : B < W.heap.size) : SameAt B W W' := h.block B hB
set_option maxRecDepth 100000 in
set_option maxHeartbeats 4000000 in
theorem places1_in (l Bs b off cap : Nat) (hcap : 256 ≤ cap) (hm : (cap : Int) ≤ 9223372036854775807) (J Jx : List (Fin 8) → World → Prop) (n : Nat)
    (hY : ∀ pre x W, J pre W → pre.length < 8 → YieldAt Fence.wide (n - 1) Try.prog l (encP b off cap x) W fun e W' =>
      (e = .returned (.bool true) ∧ J (pre ++ [x]) W' ∧ SameAt Bs W W') ∨ (e = .returned (.bool false) ∧ Jx (pre ++ [x]) W'))
    (W : World) (hBs : W.cell? ⟨Bs, 0, none⟩ = some (.slice (some ⟨b, off, none⟩) 256 cap)) (h0 : J [] W) :
    CallsIn Fence.wide n Try.prog 78 #[.func (.yield l) #[] #[], .pointer (some ⟨Bs, 0, none⟩)] W fun e W' => (∃ v, e = .returned v) ∧
      ((∃ ys, ys = come 8 ∧ J ys W') ∨ (∃ pre, (∃ k, k ≤ 8 ∧ pre = come k) ∧ Jx pre W')) := by
  refine callsIn_of_wp Try.func78 rfl trivial ?_ rfl
  simp only [Try.ntmps78, List.size_toArray, List.length_cons, List.length_nil, Nat.reduceAdd, Nat.reduceSub, Array.replicate_succ, Array.replicate_zero, List.push_toArray, List.append_toArray, List.nil_append, List.cons_append]
  gi_wp2
  gi_loopw [6] (fun i wr => ∃ k : Nat, k ≤ 8 ∧ i = .int .i64 k ∧ J (come k) wr ∧ SameAt Bs W wr)
    (fun i _ => 8 - (intOf i).toNat)
  case atStart => exact ⟨0, Nat.zero_le _, rfl, h0, rfl⟩
  case round =>
    obtain ⟨k, hk, rfl, hJs, hnx⟩ := hrel
    by_cases hlt : k < 8
    · obtain ⟨fn, tmps, assign, body, hy, hR⟩ := hY _ ⟨k, hlt⟩ wr hJs (by rw [come_length hk]; exact hlt)
      dsimp only [encP] at hy
      have hcx := (World.cell?_of_block (a := ⟨Bs, 0, none⟩) hnx).trans hBs
      have hst := dstart_any (some ⟨b, off, none⟩) 256 cap (k : Int)
      rw [(dst_ok hlt).1, (dst_ok hlt).2] at hst
      have hsl := slice_sl b off 256 cap (32 * k) 32 ((k : Int) * 32) ((k : Int) * 32 + 32) (by omega) (by omega) (by omega) (by omega)
      gi_wp2_with fail
      refine ⟨trivial, (fun h => (by cases h)), (callsIn_wide.2 (hst _)).mono ?_⟩
      rintro e w1 ⟨rfl, hw1⟩
      rw [hw1]
      clear hw1 w1
      gi_wp2
      refine ⟨(fun h => (by cases h)), hR.mono ?_⟩
      rintro e W3 (⟨rfl, hJ3, hk3⟩ | ⟨rfl, hJx3⟩)
      · gi_wp2
        go_roundw
        case rel => exact ⟨k + 1, by omega, by simp, by rw [come_succ hlt]; exact hJ3, Eq.trans hk3 hnx⟩
        case measure => simp [intOf]; omega
      · gi_wp2
        refine bodyPost_ret (results_none rfl _ _ _) rfl ?_
        exact ⟨⟨_, rfl⟩, .inr ⟨_, ⟨k + 1, by omega, (come_succ hlt).symm⟩, hJx3⟩⟩
    · obtain rfl : k = 8 := by omega
      gi_wp2
      go_end0
      exact ⟨⟨_, rfl⟩, .inl ⟨_, rfl, hJs⟩⟩
set_option maxRecDepth 100000 in
set_option maxHeartbeats 4000000 in
theorem places1_no (l Bs : Nat) (sp : Option Addr) (len cap : Nat) (hl : ¬ len = 256) (J : List (Fin 8) → World → Prop) (n : Nat)
    (W : World) (hBs : W.cell? ⟨Bs, 0, none⟩ = some (.slice sp len cap)) (h0 : J [] W) :
    CallsIn Fence.wide n Try.prog 78 #[.func (.yield l) #[] #[], .pointer (some ⟨Bs, 0, none⟩)] W fun e W' => (∃ v, e = .returned v) ∧ J [] W' := by
  refine callsIn_of_wp Try.func78 rfl trivial ?_ rfl
  simp only [Try.ntmps78, List.size_toArray, List.length_cons, List.length_nil, Nat.reduceAdd, Nat.reduceSub, Array.replicate_succ, Array.replicate_zero, List.push_toArray, List.append_toArray, List.nil_append, List.cons_append]
  have hst := dstart_any sp len cap 0
  rw [show dstP len 0 = 0 by unfold dstP; rw [if_neg hl], show dstE len 0 = 4 by unfold dstE; rw [if_neg hl]] at hst
  clear hl
  gi_wp2
  gi_loopw [6] (fun i wr => i = .int .i64 0 ∧ wr = W) (fun _ _ => 0)
  case atStart => exact ⟨rfl, rfl⟩
  case round =>
    obtain ⟨rfl, hwr⟩ := hrel
    rw [hwr]
    clear hwr
    gi_wp2_with fail
    refine ⟨trivial, (fun h => (by cases h)), (callsIn_wide.2 (hst _)).mono ?_⟩
    rintro e w1 ⟨rfl, hw1⟩
    rw [hw1]
    clear hw1 w1
    gi_wp2
    refine ⟨fun _ h => (by cases h), ?_⟩
    gi_wp2
    refine bodyPost_ret (results_none rfl _ _ _) rfl ?_
    exact ⟨⟨_, rfl⟩, h0⟩
set_option maxHeartbeats 1000000 in
theorem places_any (sp : Option Addr) (len cap : Nat) (w : World) :
    Calls Try.prog 67 #[.slice sp len cap] w fun e w' => e = .returned (.func (.func 78) #[] #[.pointer (some ⟨w.heap.size, 0, none⟩)]) ∧ w' = w.alloc (.cells #[.slice sp len cap] 25) := by
  go_enter Try.func67, Try.ntmps67
  go_wp2
  go_ret
  exact ⟨rfl, rfl⟩
set_option maxHeartbeats 1000000 in
theorem entries_any (sp : Option Addr) (len cap : Nat) (w : World) :
    Calls Try.prog 66 #[.slice sp len cap] w fun e w' => e = .returned (.func (.func 77) #[] #[.pointer (some ⟨w.heap.size, 0, none⟩)]) ∧ w' = w.alloc (.cells #[.slice sp len cap] 25) := by
  go_enter Try.func66, Try.ntmps66
  go_wp2
  go_ret
  exact ⟨rfl, rfl⟩
/-- Which places come: all of a block, none of other bytes. -/
def comes (len : Nat) (xs : List (Fin 8)) : Prop := if len = 256 then xs = come 8 else xs = []
def nOf (len : Nat) : Nat := if len = 256 then 8 else 0
theorem nOf_lt {len k : Nat} (h : k < nOf len) : len = 256 := by
  unfold nOf at h
  by_cases e : len = 256
  · exact e
  · rw [if_neg e] at h; omega
def comesP (len : Nat) (pre : List (Fin 8)) : Prop := len = 256 ∧ ∃ k, k ≤ 8 ∧ pre = come k
/-- A slice's place, also where there is none. -/
def bOf (sp : Option Addr) : Nat × Nat := match sp with | some a => (a.block, a.off) | none => (0, 0)
theorem places_stops (Bs n : Nat) (sp : Option Addr) (len cap : Nat) (w : World) (hBs : Bs < w.heap.size) (hc : w.cell? ⟨Bs, 0, none⟩ = some (.slice sp len cap))
    (hA : len = 256 → sp = some ⟨(bOf sp).1, (bOf sp).2, none⟩ ∧ 256 ≤ cap ∧ (cap : Int) ≤ 9223372036854775807) :
    SeqStopsK Fence.wide n Try.prog 78 #[.pointer (some ⟨Bs, 0, none⟩)] (encP (bOf sp).1 (bOf sp).2 cap) (SameAt Bs) (comes len) (comesP len) (nOf len) w := fun l J Jx W hW _ _ hY h0 => by
  have hc' := (hW.cell (p := ⟨Bs, 0, none⟩) hBs).trans hc
  by_cases hl : len = 256
  · obtain ⟨h1, h2, h3⟩ := hA hl
    rw [hl, h1] at hc'
    refine (places1_in l Bs (bOf sp).1 (bOf sp).2 cap h2 h3 J Jx n (fun pre x W h k => hY pre x W h (by unfold nOf; rw [if_pos hl]; exact k)) W hc' h0).mono ?_
    rintro e W' ⟨he, ⟨ys, rfl, hj⟩ | ⟨pre, hp, hj⟩⟩
    · exact ⟨he, .inl ⟨_, by unfold comes; rw [if_pos hl], hj⟩⟩
    · exact ⟨he, .inr ⟨_, ⟨hl, hp⟩, hj⟩⟩
  · refine (places1_no l Bs sp len cap hl J n W hc' h0).mono ?_
    rintro e W' ⟨he, hj⟩
    exact ⟨he, .inl ⟨_, by unfold comes; rw [if_neg hl], hj⟩⟩
end Go.Proofs.Ytabmogeicpphoaa
