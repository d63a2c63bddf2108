/- dirent.Room. -/
import Derived.Test.YtabmogeicpphoaaPl
import Derived.Test.YtabmogeicpphoaaZero
namespace Go.Proofs.Ytabmogeicpphoaa
open Go.RowKit Go.Shelf
attribute [local go_sem] Oper.semAt_some
/-- The first place of which p holds. -/
def firstOf (p : Fin 8 → Bool) : Int := match (List.finRange 8).find? p with | some k => (k.1 : Int) | none => -1
theorem come_eight : come 8 = List.finRange 8 := by unfold come; rw [List.take_of_length_le (by simp)]
theorem first_no {p : Fin 8 → Bool} (h : ∀ x ∈ come 8, p x = false) : firstOf p = -1 := by
  unfold firstOf
  rw [List.find?_eq_none.2 (by intro x hx; rw [h x (by rw [come_eight]; exact hx)]; simp)]
theorem come_split {k : Nat} (h : k < 8) : List.finRange 8 = come k ++ ⟨k, h⟩ :: (List.finRange 8).drop (k + 1) := by
  have e := List.take_append_drop (k + 1) (List.finRange 8)
  have c := come_succ h
  unfold come at c ⊢
  rw [c] at e
  refine e.symm.trans ?_
  simp
theorem first_at {p : Fin 8 → Bool} {k : Nat} (h : k < 8) (hn : ∀ x ∈ come k, p x = false) (hp : p ⟨k, h⟩ = true) : firstOf p = (k : Int) := by
  unfold firstOf
  rw [come_split h, List.find?_append, List.find?_eq_none.2 (by intro x hx; rw [hn x hx]; simp), List.find?_cons, hp]
  rfl
theorem ends_at {k : Nat} {ini : List (Fin 8)} {last : Fin 8} (e : come k = ini ++ [last]) (hk : k ≤ 8) : ∃ j, ∃ h : j < 8, ini = come j ∧ last = ⟨j, h⟩ := by
  cases k with
  | zero => simp [come] at e
  | succ j =>
    rw [come_succ (by omega)] at e
    obtain ⟨e1, e2⟩ := List.append_inj' e rfl
    exact ⟨j, by omega, e1.symm, by simpa using e2.symm⟩
def part8 (l : List UInt8) (x : Fin 8) : List UInt8 := (l.drop (32 * x.1)).take 32
def roomP (l : List UInt8) (x : Fin 8) : Bool := zeroL (part8 l x)
def roomL (l : List UInt8) : Int := if l.length = 256 then firstOf (roomP l) else -1
theorem Arg.part8 {w : World} {sp : Option Addr} {cap : Nat} {l : List UInt8} (h : Arg w sp cap l) (hl : l.length = 256) (x : Fin 8) :
    Arg w (some ⟨(bOf sp).1, (bOf sp).2 + 32 * x.1, none⟩) (cap - 32 * x.1) (part8 l x) ∧ (part8 l x).length = 32 := by
  have hx := x.2
  obtain ⟨b, off, rfl, _, _⟩ := h.src.at' (by omega)
  exact ⟨h.part (32 * x.1) 32 (by omega) (by omega), by simp [Ytabmogeicpphoaa.part8, hl]; omega⟩
theorem Arg.whole {w : World} {sp : Option Addr} {cap : Nat} {l : List UInt8} (h : Arg w sp cap l) (hl : l.length = 256) : sp = some ⟨(bOf sp).1, (bOf sp).2, none⟩ ∧ 256 ≤ cap ∧ (cap : Int) ≤ 9223372036854775807 := by
  have := h.len
  obtain ⟨b, off, rfl, _, _⟩ := h.src.at' (by omega)
  exact ⟨rfl, by omega, by omega⟩
set_option maxRecDepth 100000 in
set_option maxHeartbeats 4000000 in
theorem room_in (sp : Option Addr) (cap : Nat) (l : List UInt8) (w : World) (ha : Arg w sp cap l) :
    Calls Try.prog 44 #[.slice sp l.length cap] w fun e w' => e = .returned (.int .i64 (roomL l)) ∧ Below w.heap.size w w' := by
  refine (callsIn_wide (n := 9)).1 ?_
  refine callsIn_of_wp_marks Try.func44 rfl trivial ?_ rfl
  simp only [Try.ntmps44, List.size_toArray, List.length_cons, List.length_nil, Nat.reduceAdd, Nat.reduceSub, Array.replicate_succ, Array.replicate_zero, List.push_toArray, List.append_toArray, List.nil_append, List.cons_append]
  gi_wp2_with fail
  refine ⟨trivial, (callsIn_wide.2 (places_any _ _ _ _)).mono ?_⟩
  rintro e w1 ⟨rfl, hw1⟩
  rw [hw1]
  clear hw1 w1
  gi_wp2_with fail
  have bR := Boxed.new w 3 (.int .i64 0)
  have bN := Boxed.new (w.alloc (.cells #[.int .i64 0] 3)) 25 (.slice sp l.length cap)
  rw [World.size_alloc] at bN
  have hB0 : Below w.heap.size w ((w.alloc (.cells #[.int .i64 0] 3)).alloc (.cells #[.slice sp l.length cap] 25)) := ((Below.refl _ w).alloc (Nat.le_refl _) _).alloc (by simp) _
  refine wpIn_rangeFunc_ownG rfl (by omega) (gf := 78) (lb := #[.pointer (some ⟨w.heap.size + 1, 0, none⟩)]) rfl trivial (enters_of Try.func78 (by kernel_rfl) rfl)
    (places_stops (w.heap.size + 1) _ sp l.length cap _ (by simp) bN.cell (fun hl => ha.whole hl)) sameK_t (sameK_b (by simp)) (Below.refl _ _) (fun _ => rfl)
    (fun pre W => (Hid (∀ x ∈ pre, roomP l x = false) ∧ Boxed W w.heap.size 3 (.int .i64 0)) ∧ Below w.heap.size w W)
    (fun c pre W => (c = .ret ∧ ∃ ini last, pre = ini ++ [last] ∧ (∀ x ∈ ini, roomP l x = false) ∧ roomP l last = true ∧ Boxed W w.heap.size 3 (.int .i64 (last.1 : Int))) ∧ Below w.heap.size w W)
    (OwnFrom.and (OwnFrom.and (ownFrom_pure _ _) (Own.from (boxed_own _ _ _) _)) (ownFrom_below (Nat.le_refl _) (by simp; omega)))
    (fun c => OwnFrom.and (Own.from (fun s A B row hs hg hr => by obtain ⟨hc, ini, last, e1, e2, e3, e4⟩ := hs; exact ⟨hc, ini, last, e1, e2, e3, boxed_own w.heap.size 3 (fun (_ : Unit) => .int .i64 (last.1 : Int)) () A B row e4 hg hr⟩) _) (ownFrom_below (Nat.le_refl _) (by simp; omega)))
    ⟨⟨fun x hx => absurd hx (by simp), bR.alloc _⟩, hB0⟩
    (fun x => { tmps := #[.slice sp l.length cap, undef, .pointer (some ⟨w.heap.size, 0, none⟩), .int .i64 (x.1 : Int), .slice (some ⟨(bOf sp).1, (bOf sp).2 + 32 * x.1, none⟩) 32 (cap - 32 * x.1), .slice sp l.length cap, .func (.func 78) #[] #[.pointer (some ⟨w.heap.size + 1, 0, none⟩)], .int .i64 (x.1 : Int), .slice (some ⟨(bOf sp).1, (bOf sp).2 + 32 * x.1, none⟩) 32 (cap - 32 * x.1), undef, undef, undef], defers := [] }) ?assign ?body ?done ?stop
  case assign =>
    intro l x W K hK
    dsimp only [encP]
    gi_wp2
    exact hK
  case body =>
    rintro L pre x W ⟨⟨hp, bX⟩, hB⟩ hlt
    have hl := nOf_lt hlt
    obtain ⟨hA, hn⟩ := ha.part8 hl x
    have HZ := zero_any _ (part8 l x) (cap - 32 * x.1) W ((hA.below hB (Nat.le_refl _)).src) (by omega)
    rw [hn] at HZ
    have HP : Hid (roomP l x = zeroL (part8 l x)) := rfl
    have hcr := bX.cell
    have hfr := bX.frozen
    clear hlt hl hA hn
    gi_wp2_with fail
    refine ⟨trivial, (CallsIn.inRound L (callsIn_wide.2 HZ)).mono ?_⟩
    rintro e w1 ⟨rfl, hw1⟩
    rw [hw1]
    clear hw1 w1 HZ
    cases hz : zeroL (part8 l x)
    · rw [hz] at HP
      gi_wp2
      refine ⟨KeepsFrom.refl _ _, rfl, ⟨fun y hy => ?_, bX⟩, hB⟩
      rcases List.mem_append.1 hy with h | h
      · exact hp.out y h
      · rw [List.mem_singleton.1 h]; exact HP.out
    · rw [hz] at HP
      gi_wp2
      exact ⟨(KeepsOthers.setCell _ _ _).from _, ⟨rfl, pre, x, rfl, hp.out, HP.out, bX.set _⟩, hB.setCell (p := ⟨w.heap.size, 0, none⟩) (Nat.le_refl _) _⟩
  case done =>
    rintro D ys W hD hys ⟨⟨hne, bX⟩, hB⟩ hK
    have hcr := bX.cell
    have hfr := bX.frozen
    gi_wp2
    have hK' := (KeepsOthers.setCell W ⟨w.heap.size, 0, none⟩ (.int .i64 (-1))).same D _ hK rfl
    refine ⟨by simp, .inl ⟨_, _, rfl, run_takeDeferred hK', ?_⟩⟩
    have hc5 := cell_kept (World.cell?_setCell_same' W ⟨w.heap.size, 0, none⟩ (.int .i64 (-1)) (by rw [hcr]; rfl)) (grownBy_putObj' _ D (.deferred none)) (fun r e => by cases e; exact ⟨_, hK', rfl⟩)
    refine ⟨.int .i64 (-1), ?_, ?_, (hB.setCell (p := ⟨w.heap.size, 0, none⟩) (Nat.le_refl _) _).trans (belowK_b (w := w) (Nat.le_refl _) _ D _ _ (by simp at hD; omega) hK' rfl rfl)⟩
    · simp [results, Try.f44, go_sem, hc5]
    · unfold roomL
      by_cases hl : l.length = 256
      · rw [if_pos hl]
        unfold comes at hys
        rw [if_pos hl] at hys
        rw [first_no (by rw [← hys]; exact hne)]
      · rw [if_neg hl]
  case stop =>
    rintro D c pre W hD ⟨hl, k, hk, rfl⟩ ⟨⟨rfl, ini, last, e1, e2, e3, bX⟩, hB⟩ hK
    gi_wp2
    refine ⟨by simp, .inl ⟨_, _, rfl, run_takeDeferred hK, ?_⟩⟩
    have hc5 := cell_kept bX.cell (grownBy_putObj' _ D (.deferred none)) (fun r e => by cases e; exact ⟨_, hK, rfl⟩)
    obtain ⟨j, hj, rfl, rfl⟩ := ends_at e1 hk
    refine ⟨.int .i64 (j : Int), ?_, ?_, hB.trans (belowK_b (w := w) (Nat.le_refl _) W D _ _ (by simp at hD; omega) hK rfl rfl)⟩
    · simp [results, Try.f44, go_sem, hc5]
    · unfold roomL
      rw [if_pos hl, first_at hj e2 e3]
end Go.Proofs.Ytabmogeicpphoaa
