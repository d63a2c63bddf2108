/- dirent.Room. -/
import Derived.Test.YtabmogeicpphoaaJ11
import Derived.Test.YtabmogeicpphoaaKZero
namespace Go.Proofs.Ytabmogeicpphoaa
open Go.RowKit Go.Shelf
attribute [local go_sem] Oper.semAt_some
/-- The first place of which p holds. -/
def firstOf (p : Fin 8 → Bool) : Int := match (List.finRange 8).find? p with | some k => (k.1 : Int) | none => -1
theorem come_eight : come 8 = List.finRange 8 := by unfold come; rw [List.take_of_length_le (by simp)]
theorem first_no {p : Fin 8 → Bool} (h : ∀ x ∈ come 8, p x = false) : firstOf p = -1 := by
  unfold firstOf
  rw [List.find?_eq_none.2 (by intro x hx; rw [h x (by rw [come_eight]; exact hx)]; simp)]
theorem come_split {k : Nat} (h : k < 8) : List.finRange 8 = come k ++ ⟨k, h⟩ :: (List.finRange 8).drop (k + 1) := by
  have e := List.take_append_drop (k + 1) (List.finRange 8)
  have c := come_succ h
  unfold come at c ⊢
  rw [c] at e
  refine e.symm.trans ?_
  simp
theorem first_at {p : Fin 8 → Bool} {k : Nat} (h : k < 8) (hn : ∀ x ∈ come k, p x = false) (hp : p ⟨k, h⟩ = true) : firstOf p = (k : Int) := by
  unfold firstOf
  rw [come_split h, List.find?_append, List.find?_eq_none.2 (by intro x hx; rw [hn x hx]; simp), List.find?_cons, hp]
  rfl
theorem ends_at {k : Nat} {ini : List (Fin 8)} {last : Fin 8} (e : come k = ini ++ [last]) (hk : k ≤ 8) : ∃ j, ∃ h : j < 8, ini = come j ∧ last = ⟨j, h⟩ := by
  cases k with
  | zero => simp [come] at e
  | succ j =>
    rw [come_succ (by omega)] at e
    obtain ⟨e1, e2⟩ := List.append_inj' e rfl
    exact ⟨j, by omega, e1.symm, by simpa using e2.symm⟩
def part8 (l : List UInt8) (x : Fin 8) : List UInt8 := (l.drop (32 * x.1)).take 32
def roomP (l : List UInt8) (x : Fin 8) : Bool := zeroL (part8 l x)
def roomL (l : List UInt8) : Int := if l.length = 256 then firstOf (roomP l) else -1
theorem Arg.part8 {w : World} {sp : Option Addr} {cap : Nat} {l : List UInt8} (h : Arg w sp cap l) (hl : l.length = 256) (x : Fin 8) :
    Arg w (some ⟨(bOf sp).1, (bOf sp).2 + 32 * x.1, none⟩) (cap - 32 * x.1) (part8 l x) ∧ (part8 l x).length = 32 := by
  have hx := x.2
  obtain ⟨b, off, rfl, _, _⟩ := h.src.at' (by omega)
  exact ⟨h.part (32 * x.1) 32 (by omega) (by omega), by simp [Ytabmogeicpphoaa.part8, hl]; omega⟩
theorem Arg.whole {w : World} {sp : Option Addr} {cap : Nat} {l : List UInt8} (h : Arg w sp cap l) (hl : l.length = 256) : sp = some ⟨(bOf sp).1, (bOf sp).2, none⟩ ∧ 256 ≤ cap ∧ (cap : Int) ≤ 9223372036854775807 := by
  have := h.len
  obtain ⟨b, off, rfl, _, _⟩ := h.src.at' (by omega)
  exact ⟨rfl, by omega, by omega⟩
set_option maxRecDepth 100000 in
set_option maxHeartbeats 4000000 in
theorem room_in (sp : Option Addr) (cap : Nat) (l : List UInt8) (w : World) (ha : Arg w sp cap l) :
    Calls Try.prog 44 #[.slice sp l.length cap] w fun e w' => e = .returned (.int .i64 (roomL l)) ∧ Below w.heap.size w w' := by
  refine (callsIn_wide (n := 9)).1 ?_
  refine callsIn_of_wp_marks Try.func44 rfl trivial ?_ rfl
  simp only [Try.ntmps44, List.size_toArray, List.length_cons, List.length_nil, Nat.reduceAdd, Nat.reduceSub, Array.replicate_succ, Array.replicate_zero, List.push_toArray, List.append_toArray, List.nil_append, List.cons_append]
  gi_wp2_with fail
  refine ⟨trivial, (callsIn_wide.2 (places_any _ _ _ _)).mono ?_⟩
  rintro e w1 ⟨rfl, hw1⟩
  rw [hw1]
  clear hw1 w1
  gi_wp2_with fail
  have bR := Boxed.new w 3 (.int .i64 0)
  have bN := Boxed.new (w.alloc (.cells #[.int .i64 0] 3)) 25 (.slice sp l.length cap)
  rw [World.size_alloc] at bN
  have hB0 : Below w.heap.size w ((w.alloc (.cells #[.int .i64 0] 3)).alloc (.cells #[.slice sp l.length cap] 25)) := ((Below.refl _ w).alloc (Nat.le_refl _) _).alloc (by simp) _
  refine wpIn_rangeFunc_ownG rfl (by omega) (gf := 78) (lb := #[.pointer (some ⟨w.heap.size + 1, 0, none⟩)]) rfl trivial (enters_of Try.func78 (by kernel_rfl) rfl)
    (places_stops (w.heap.size + 1) _ sp l.length cap _ (by simp) bN.cell (fun hl => ha.whole hl)) sameK_t (sameK_b (by simp)) (Below.refl _ _) (fun _ => rfl)
    (fun pre W => (Hid (∀ x ∈ pre, roomP l x = false) ∧ Boxed W w.heap.size 3 (.int .i64 0)) ∧ Below w.heap.size w W)
    (fun c pre W => (c = .ret ∧ ∃ ini last, pre = ini ++ [last] ∧ (∀ x ∈ ini, roomP l x = false) ∧ roomP l last = true ∧ Boxed W w.heap.size 3 (.int .i64 (last.1 : Int))) ∧ Below w.heap.size w W)
    (OwnFrom.and (OwnFrom.and (ownFrom_pure _ _) (Own.from (boxed_own _ _ _) _)) (ownFrom_below (Nat.le_refl _) (by simp; omega)))
    (fun c => OwnFrom.and (Own.from (fun s A B row hs hg hr => by obtain ⟨hc, ini, last, e1, e2, e3, e4⟩ := hs; exact ⟨hc, ini, last, e1, e2, e3, boxed_own w.heap.size 3 (fun (_ : Unit) => .int .i64 (last.1 : Int)) () A B row e4 hg hr⟩) _) (ownFrom_below (Nat.le_refl _) (by simp; omega)))
    ⟨⟨fun x hx => absurd hx (by simp), bR.alloc _⟩, hB0⟩
    (fun x => { tmps := #[.slice sp l.length cap, undef, .pointer (some ⟨w.heap.size, 0, none⟩), .int .i64 (x.1 : Int), .slice (some ⟨(bOf sp).1, (bOf sp).2 + 32 * x.1, none⟩) 32 (cap - 32 * x.1), .slice sp l.length cap, .func (.func 78) #[] #[.pointer (some ⟨w.heap.size + 1, 0, none⟩)], .int .i64 (x.1 : Int), .slice (some ⟨(bOf sp).1, (bOf sp).2 + 32 * x.1, none⟩) 32 (cap - 32 * x.1), undef, undef, undef], defers := [] }) ?assign ?body ?done ?stop
  case assign =>
    intro l x W K hK
    dsimp only [encP]
    gi_wp2
    exact hK
  case body =>
    rintro L pre x W ⟨⟨hp, bX⟩, hB⟩ hlt
    have hl := nOf_lt hlt
    obtain ⟨hA, hn⟩ := ha.part8 hl x
    have HZ := zero_any _ (part8 l x) (cap - 32 * x.1) W ((hA.below hB (Nat.le_refl _)).src) (by omega)
    rw [hn] at HZ
    have HP : Hid (roomP l x = zeroL (part8 l x)) := rfl
    have hcr := bX.cell
    have hfr := bX.frozen
    clear hlt hl hA hn
    gi_wp2_with fail
    refine ⟨trivial, (CallsIn.inRound L (callsIn_wide.2 HZ)).mono ?_⟩
    rintro e w1 ⟨rfl, hw1⟩
    rw [hw1]
    clear hw1 w1 HZ
    cases hz : zeroL (part8 l x)
    · rw [hz] at HP
      gi_wp2
      refine ⟨KeepsFrom.refl _ _, rfl, ⟨fun y hy => ?_, bX⟩, hB⟩
      rcases List.mem_append.1 hy with h | h
      · exact hp.out y h
      · rw [List.mem_singleton.1 h]; exact HP.out
    · rw [hz] at HP
      gi_wp2
      exact ⟨(KeepsOthers.setCell _ _ _).from _, ⟨rfl, pre, x, rfl, hp.out, HP.out, bX.set _⟩, hB.setCell (p := ⟨w.heap.size, 0, none⟩) (Nat.le_refl _) _⟩
  case done =>
    rintro D ys W hD hys ⟨⟨hne, bX⟩, hB⟩ hK
    have hcr := bX.cell
    have hfr := bX.frozen
    gi_wp2
    have hK' := (KeepsOthers.setCell W ⟨w.heap.size, 0, none⟩ (.int .i64 (-1))).same D _ hK rfl
    refine ⟨by simp, .inl ⟨_, _, rfl, run_takeDeferred hK', ?_⟩⟩
    have hc5 := cell_kept (World.cell?_setCell_same' W ⟨w.heap.size, 0, none⟩ (.int .i64 (-1)) (by rw [hcr]; rfl)) (grownBy_putObj' _ D (.deferred none)) (fun r e => by cases e; exact ⟨_, hK', rfl⟩)
    refine ⟨.int .i64 (-1), ?_, ?_, (hB.setCell (p := ⟨w.heap.size, 0, none⟩) (Nat.le_refl _) _).trans (belowK_b (w := w) (Nat.le_refl _) _ D _ _ (by simp at hD; omega) hK' rfl rfl)⟩
    · simp [results, Try.f44, go_sem, hc5]
    · unfold roomL
      by_cases hl : l.length = 256
      · rw [if_pos hl]
        unfold comes at hys
        rw [if_pos hl] at hys
        rw [first_no (by rw [← hys]; exact hne)]
      · rw [if_neg hl]
  case stop =>
    rintro D c pre W hD ⟨hl, k, hk, rfl⟩ ⟨⟨rfl, ini, last, e1, e2, e3, bX⟩, hB⟩ hK
    gi_wp2
    refine ⟨by simp, .inl ⟨_, _, rfl, run_takeDeferred hK, ?_⟩⟩
    have hc5 := cell_kept bX.cell (grownBy_putObj' _ D (.deferred none)) (fun r e => by cases e; exact ⟨_, hK, rfl⟩)
    obtain ⟨j, hj, rfl, rfl⟩ := ends_at e1 hk
    refine ⟨.int .i64 (j : Int), ?_, ?_, hB.trans (belowK_b (w := w) (Nat.le_refl _) W D _ _ (by simp at hD; omega) hK rfl rfl)⟩
    · simp [results, Try.f44, go_sem, hc5]
    · unfold roomL
      rw [if_pos hl, first_at hj e2 e3]
end Go.Proofs.Ytabmogeicpphoaa
/- dirent.entries: its iterator. -/
namespace Go.Proofs.Ytabmogeicpphoaa
open Go.RowKit Go.Shelf
attribute [local go_sem] Oper.semAt_some
/-- Is there an entry at the place? -/
def entB (l : List UInt8) (x : Fin 8) : Bool := egetE (part8 l x) == 0 && (egetV (part8 l x)).sl != 0
abbrev PlaceE (l : List UInt8) := { x : Fin 8 // entB l x = true }
def encE (l : List UInt8) (x : PlaceE l) : Array Value := #[.int .i64 (x.1.1 : Int), .agg (eA (egetV (part8 l x.1)))]
def entS (l : List UInt8) (xs : List (PlaceE l)) : Prop := if l.length = 256 then xs.map (·.1) = (come 8).filter (entB l) else xs = []
def entSp (l : List UInt8) (xs : List (PlaceE l)) : Prop := l.length = 256 ∧ ∃ k, k ≤ 8 ∧ xs.map (·.1) = (come k).filter (entB l)
/-- What the loop over the places keeps: Y is where the captured function lies, w1 the world in which the loop began. -/
structure EV (l : List UInt8) (J : List (PlaceE l) → World → (Nat → Prop) → Prop) (b Y : Nat) (w1 : World) (pre : List (Fin 8)) (W : World) (T : Nat → Prop) (xs : List (PlaceE l)) : Prop where
  map : xs.map (·.1) = pre.filter (entB l)
  j : J xs W T
  nb : ¬ T b
  n0 : ¬ T Y
  n1 : ¬ T (Y + 1)
  sb : SameAt b w1 W
  s0 : SameAt Y w1 W
  s1 : SameAt (Y + 1) w1 W
theorem EV.own {l : List UInt8} {J : List (PlaceE l) → World → (Nat → Prop) → Prop} {b Y B : Nat} {w1 : World} (hJ : ∀ T, OwnFrom B (fun s W => J s W T)) (hB : B ≤ w1.heap.size) (hb : b < w1.heap.size) (hY : Y + 1 < w1.heap.size) : OwnFrom w1.heap.size (fun pre W => ∃ T xs, EV l J b Y w1 pre W T xs ∧ w1.heap.size ≤ W.heap.size) := by
  rintro pre W W' row ⟨T, xs, h, hz⟩ hg hr
  have f : ∀ k, k < w1.heap.size → SameAt k w1 W → SameAt k w1 W' := fun k hk e => (hg.block k (by omega) (fun e' => by have := (hr k e'.symm).1; omega)).trans e
  exact ⟨T, xs, ⟨h.map, hJ T xs W W' row h.j hg (fun r e => ⟨Nat.le_trans hB (hr r e).1, (hr r e).2⟩), h.nb, h.n0, h.n1, f b hb h.sb, f Y (by omega) h.s0, f (Y + 1) hY h.s1⟩, Nat.le_trans hz hg.size⟩
theorem grown_bel {W W' : World} (h : Below W.heap.size W W') : W.grownBy W' none := ⟨h.os, h.tape, h.output, h.size, fun k hk _ => h.block k hk⟩
theorem Src.same {w V : World} {b off : Nat} {l : List UInt8} (h : Src w (some ⟨b, off, none⟩) l) (hs : SameAt b w V) (hz : w.heap.size ≤ V.heap.size) : Src V (some ⟨b, off, none⟩) l := by
  rcases h with h | ⟨b', off', h1, h2, h3⟩
  · exact .inl h
  · obtain ⟨rfl, rfl⟩ : b = b' ∧ off = off' := by simpa using h1
    exact .inr ⟨b, off, rfl, by omega, fun j hj => (World.cell?_of_block (a := ⟨b, off + j, none⟩) hs).trans (h3 j hj)⟩
theorem Arg.same {w V : World} {b off cap : Nat} {l : List UInt8} (h : Arg w (some ⟨b, off, none⟩) cap l) (hs : SameAt b w V) (hz : w.heap.size ≤ V.heap.size) : Arg V (some ⟨b, off, none⟩) cap l := by
  rcases h with h | ⟨b', off', h1, h2, h3, h4, h5, h6⟩
  · exact .inl h
  · exact .inr ⟨b, off, rfl, h2, h3, h4, h5, h6.same hs hz⟩
theorem eA_lit (e : Ent) : eA e = #[.int .i64 e.sl, .bool e.lv, .string (str e.nm)] := rfl
set_option maxRecDepth 100000 in
set_option maxHeartbeats 400000 in
theorem entries_runs (Bs : Nat) (sp : Option Addr) (cap : Nat) (l : List UInt8) (T0 : Nat → Prop) (w : World) (ha : Arg w sp cap l) (hB : Bs < w.heap.size) (hc : w.cell? ⟨Bs, 0, none⟩ = some (.slice sp l.length cap))
    (hT : ∀ k, T0 k → (l.length = 256 → k ≠ (bOf sp).1) ∧ k < w.heap.size) :
    Runs Try.prog 77 #[.pointer (some ⟨Bs, 0, none⟩)] (encE l) T0 (entS l) (entSp l) (nOf l.length) w := by
  intro L J Jx W hL hwL hW hJ hJx hJc hY h0 n
  have hc' := (hW.cell (p := ⟨Bs, 0, none⟩) hB).trans hc
  have ha' := ha.below hW (Nat.le_refl _)
  have hws := hW.size
  refine callsIn_wide.2 ((callsIn_wide (n := 9)).1 ?_)
  refine callsIn_of_wp_marks Try.func77 rfl trivial ?_ rfl
  simp only [Try.ntmps77, List.size_toArray, List.length_cons, List.length_nil, Nat.reduceAdd, Nat.reduceSub, Array.replicate_succ, Array.replicate_zero, List.push_toArray, List.append_toArray, List.nil_append, List.cons_append]
  have hcb : (W.alloc (.cells #[.func (.yield L) #[] #[]] 95)).cell? ⟨Bs, 0, none⟩ = some (.slice sp l.length cap) := (((Below.refl _ W).alloc (Nat.le_refl _) _).cell (p := ⟨Bs, 0, none⟩) (show Bs < W.heap.size by omega)).trans hc'
  gi_wp2_with fail
  refine ⟨trivial, (callsIn_wide.2 (places_any _ _ _ _)).mono ?_⟩
  rintro e w1' ⟨rfl, hw1'⟩
  rw [hw1']
  clear hw1' w1'
  obtain ⟨w1, hw1⟩ : ∃ w1, w1 = (W.alloc (.cells #[.func (.yield L) #[] #[]] 95)).alloc (.cells #[.slice sp l.length cap] 25) := ⟨_, rfl⟩
  have z1 : w1.heap.size = W.heap.size + 2 := by rw [hw1]; simp
  have hB1 : Below W.heap.size W w1 := by rw [hw1]; exact ((Below.refl _ _).alloc (Nat.le_refl _) _).alloc (by simp) _
  have bY : Boxed w1 W.heap.size 95 (.func (.yield L) #[] #[]) := by rw [hw1]; exact (Boxed.new _ _ _).alloc _
  have bN : Boxed w1 (W.heap.size + 1) 25 (.slice sp l.length cap) := by rw [hw1]; have := Boxed.new (W.alloc (.cells #[.func (.yield L) #[] #[]] 95)) 25 (.slice sp l.length cap); rw [World.size_alloc] at this; exact this
  rw [← hw1]
  clear hw1 hcb hc' hc
  have ha1 := ha'.below hB1 (Nat.le_refl _)
  obtain ⟨b, hbe, hb1, hb2, hbl⟩ : ∃ b, (l.length = 256 → b = (bOf sp).1) ∧ b < w1.heap.size ∧ ¬ T0 b ∧ b ≠ L := by
    by_cases hl : l.length = 256
    · obtain ⟨b, off, e, hb, _⟩ := ha.src.at' (by omega)
      exact ⟨b, fun _ => by rw [e]; rfl, by omega, fun h => (hT b h).1 hl (by rw [e]; rfl), by omega⟩
    · exact ⟨W.heap.size, fun h => absurd h hl, by omega, fun h => by have := (hT _ h).2; omega, by omega⟩
  have h01 : J [] w1 T0 := hJ T0 [] W w1 none h0 (grown_bel hB1) (fun r e => by cases e)
  have Z1 : Hid (w1.heap.size = W.heap.size + 2) := z1
  have HBE : Hid (l.length = 256 → b = (bOf sp).1) := hbe
  have HYY : Hid (∀ (pre : List (PlaceE l)) (x : PlaceE l) (W1 : World) (T : Nat → Prop) (m : Nat), J pre W1 T → pre.length < nOf l.length → YieldAt Fence.wide m Try.prog L (encE l x) W1 fun e W' =>
      (e = .returned (.bool true) ∧ (∃ T', J (pre ++ [x]) W' T' ∧ ∀ k, T' k → T k ∨ W1.heap.size ≤ k) ∧ Kept L T W1 W') ∨ (e = .returned (.bool false) ∧ Jx (pre ++ [x]) W' ∧ Kept L T W1 W')) := hY
  have HJ : Hid (∀ T, OwnFrom W.heap.size (fun s W => J s W T)) := hJ
  have HJX : Hid (OwnFrom W.heap.size Jx) := hJx
  have HJC : Hid (∀ pre W T, J pre W T → ∀ k, T k → CellAt W k) := hJc
  have HT : Hid (∀ k, T0 k → (l.length = 256 → k ≠ (bOf sp).1) ∧ k < w.heap.size) := hT
  clear z1 hbe hY hJ hJx hJc hT
  gi_wp2_with fail
  have z1 := Z1.out
  have hJ := HJ.out
  have hJx := HJX.out
  have hT := HT.out
  refine wpIn_rangeFunc_ownG rfl (by omega) (gf := 78) (lb := #[.pointer (some ⟨W.heap.size + 1, 0, none⟩)]) rfl trivial (enters_of Try.func78 (by kernel_rfl) rfl)
    (places_stops (W.heap.size + 1) _ sp l.length cap w1 (by omega) bN.cell (fun hl => ha.whole hl)) sameK_t (sameK_b (by omega)) (Below.refl _ _) (fun _ => rfl)
    (fun pre V => ∃ T xs, EV l J b W.heap.size w1 pre V T xs ∧ w1.heap.size ≤ V.heap.size)
    (fun c pre V => c = .ret ∧ ∃ xs : List (PlaceE l), xs.map (·.1) = pre.filter (entB l) ∧ Jx xs V)
    (EV.own hJ (by omega) hb1 (by omega))
    (fun c => by
      rintro pre A B row ⟨e, xs, e1, e2⟩ hg hr
      exact ⟨e, xs, e1, own_up hJx (by omega) xs A B row e2 hg hr⟩)
    ⟨T0, [], ⟨rfl, h01, hb2, fun h => by have := (hT _ h).2; omega, fun h => by have := (hT _ h).2; omega, rfl, rfl, rfl⟩, Nat.le_refl _⟩
    (fun x => { tmps := #[.func (.yield L) #[] #[], .pointer (some ⟨Bs, 0, none⟩), .pointer (some ⟨W.heap.size, 0, none⟩), .int .i64 (x.1 : Int), .slice (some ⟨(bOf sp).1, (bOf sp).2 + 32 * x.1, none⟩) 32 (cap - 32 * x.1), undef, undef, .slice sp l.length cap, .func (.func 78) #[] #[.pointer (some ⟨W.heap.size + 1, 0, none⟩)], .int .i64 (x.1 : Int), .slice (some ⟨(bOf sp).1, (bOf sp).2 + 32 * x.1, none⟩) 32 (cap - 32 * x.1), undef, undef, undef, undef, undef, undef, undef, undef, undef, undef, undef, undef, undef, undef, undef, undef, undef, undef, undef], defers := [] }) ?assign ?body ?done ?stop
  case assign =>
    intro l x W K hK
    dsimp only [encP]
    gi_wp2
    exact hK
  case body =>
    rintro L2 pre x V ⟨T, xs, hE, hz⟩ hlt
    have hl := nOf_lt hlt
    obtain ⟨hA, hn⟩ := ha1.part8 hl x
    rw [← HBE.out hl] at hA
    have HG := eget_any _ (cap - 32 * x.1) (part8 l x) V (hA.same hE.sb hz)
    rw [hn] at HG
    have hcy : V.cell? ⟨W.heap.size, 0, none⟩ = some (.func (.yield L) #[] #[]) := (World.cell?_of_block (a := ⟨W.heap.size, 0, none⟩) hE.s0).trans bY.cell
    rw [eA_lit] at HG
    rw [← HBE.out hl]
    have HE : Hid (EV l J b W.heap.size w1 pre V T xs) := hE
    have HZ : Hid (w1.heap.size ≤ V.heap.size) := hz
    have HL : Hid (l.length = 256) := hl
    have HLT : Hid (pre.length < nOf l.length) := hlt
    have HA : Hid (Arg w1 (some ⟨b, (bOf sp).2 + 32 * x.1, none⟩) (cap - 32 * x.1) (part8 l x)) := hA
    clear hE hz hl hlt hA hn z1 hJ hJx hT
    generalize (bOf sp).2 + 32 * x.1 = off at *
    generalize cap - 32 * x.1 = cp at *
    gi_wp2_with fail
    refine ⟨trivial, (CallsIn.inRound L2 (callsIn_wide.2 HG)).mono ?_⟩
    rintro e V2 ⟨rfl, h2⟩
    clear HG
    dsimp only
    have B3 : Below V.heap.size V (V2.alloc (.cells #[.int .i64 (egetV (part8 l x)).sl, .bool (egetV (part8 l x)).lv, .string (str (egetV (part8 l x)).nm)] 48)) := h2.alloc h2.size _
    have vY : W.heap.size + 1 < V.heap.size := by have := Z1.out; have := HZ.out; omega
    have hcy3 := (B3.cell (p := ⟨W.heap.size, 0, none⟩) (show W.heap.size < V.heap.size by omega)).trans hcy
    have hlen : xs.length < nOf l.length := by
      have e1 := congrArg List.length HE.out.map
      rw [List.length_map] at e1
      have := List.length_filter_le (entB l) pre
      have := HLT.out
      omega
    have j3 := HJ.out T xs _ _ none HE.out.j (grown_bel B3) (fun r e => by cases e)
    have HB3 : Hid (Below V.heap.size V (V2.alloc (.cells #[.int .i64 (egetV (part8 l x)).sl, .bool (egetV (part8 l x)).lv, .string (str (egetV (part8 l x)).nm)] 48))) := B3
    have HYV : Hid (W.heap.size + 1 < V.heap.size) := vY
    clear B3 vY hcy
    by_cases hent : entB l x = true
    · obtain ⟨X, HX⟩ : ∃ X : PlaceE l, Hid (X.1 = x) := ⟨⟨x, hent⟩, rfl⟩
      obtain ⟨fn, tmps, assign, body, hy, hR⟩ := HYY.out xs X _ T 6 j3 hlen
      dsimp only [encE] at hy
      rw [HX.out, eA_lit] at hy
      have he := hent
      unfold entB at he
      rw [Bool.and_eq_true] at he
      obtain ⟨he1, he2⟩ := he
      rw [eq_of_beq he1]
      have he3 : ((egetV (part8 l x)).sl == 0) = false := by simpa [bne] using he2
      have HR : Hid (RoundIn Fence.wide _ _ _ _ _ _ _ _ _) := hR
      have HJ3 : Hid (J xs _ T) := j3
      have HEN : Hid (entB l x = true) := hent
      clear hR j3 hent he1 h2 hlen
      gi_wp2
      refine (show RoundIn (Fence.wide.inRound L2) 6 _ _ _ _ _ _ _ _ from HR.out).mono ?_
      have key : ∀ V4, Kept L T (V2.alloc (.cells #[.int .i64 (egetV (part8 l x)).sl, .bool (egetV (part8 l x)).lv, .string (str (egetV (part8 l x)).nm)] 48)) V4 → V.heap.size ≤ V4.heap.size ∧ ∀ k, k < V.heap.size → k ≠ L → ¬ T k → V4.heap[k]? = V.heap[k]? := fun V4 k4 => by
        have z3 := HB3.out.size
        exact ⟨Nat.le_trans z3 k4.size, fun k hk hne ht => (k4.same k (by omega) hne ht).trans (HB3.out.block k hk)⟩
      have keep : ∀ V4, Kept L T (V2.alloc (.cells #[.int .i64 (egetV (part8 l x)).sl, .bool (egetV (part8 l x)).lv, .string (str (egetV (part8 l x)).nm)] 48)) V4 → KeepsFrom w1.heap.size V V4 := fun V4 k4 => ⟨(key V4 k4).1, fun k o hk ho hc => by
        refine ((key V4 k4).2 k (Array.getElem?_eq_some_iff.1 ho).1 (by have := Z1.out; omega) (fun ht => ?_)).trans ho
        obtain ⟨o', ho', hc'⟩ := HJC.out xs V T HE.out.j k ht
        rw [ho] at ho'; cases ho'; rw [hc] at hc'; cases hc'⟩
      have KEY : Hid _ := key
      have KEEP : Hid _ := keep
      clear key keep hy HR
      rintro e V4 (⟨rfl, ⟨T', j4, t4⟩, k4⟩ | ⟨rfl, jx4, k4⟩)
      · have T4 : Hid _ := t4
        have J4 : Hid (J (xs ++ [X]) V4 T') := j4
        have K4 : Hid (Kept L T _ V4) := k4
        clear t4 j4 k4
        gi_wp2
        obtain ⟨c1, c2⟩ := KEY.out V4 K4.out
        have z3 := HB3.out.size
        have zz := HZ.out
        have z1 := Z1.out
        have vY := HYV.out
        have nt : ∀ k, k < V.heap.size → ¬ T k → ¬ T' k := fun k hk ht h => by
          rcases T4.out k h with h | h
          · exact ht h
          · omega
        refine ⟨KEEP.out V4 K4.out, c2 _ (by omega) (by omega) HE.out.n1, T', xs ++ [X], ⟨?_, J4.out, nt b (by omega) HE.out.nb, nt _ (by omega) HE.out.n0, nt _ (by omega) HE.out.n1, sameK_t HE.out.sb (c2 _ (by omega) hbl HE.out.nb), sameK_t HE.out.s0 (c2 _ (by omega) (by omega) HE.out.n0), sameK_t HE.out.s1 (c2 _ (by omega) (by omega) HE.out.n1)⟩, by omega⟩
        rw [List.map_append, HE.out.map, List.filter_append]
        congr 1
        simp [HX.out, HEN.out]
      · have JX4 : Hid (Jx (xs ++ [X]) V4) := jx4
        have K4 : Hid (Kept L T _ V4) := k4
        clear jx4 k4
        gi_wp2
        refine ⟨KEEP.out V4 K4.out, rfl, xs ++ [X], ?_, JX4.out⟩
        rw [List.map_append, HE.out.map, List.filter_append]
        congr 1
        simp [HX.out, HEN.out]
    · have HEN : Hid (entB l x = false) := Bool.eq_false_iff.2 hent
      have HJ3 : Hid (J xs _ T) := j3
      have fin : KeepsFrom w1.heap.size V (V2.alloc (.cells #[.int .i64 (egetV (part8 l x)).sl, .bool (egetV (part8 l x)).lv, .string (str (egetV (part8 l x)).nm)] 48)) ∧ SameAt (W.heap.size + 1) V (V2.alloc (.cells #[.int .i64 (egetV (part8 l x)).sl, .bool (egetV (part8 l x)).lv, .string (str (egetV (part8 l x)).nm)] 48)) ∧
          ∃ T xs, EV l J b W.heap.size w1 (pre ++ [x]) (V2.alloc (.cells #[.int .i64 (egetV (part8 l x)).sl, .bool (egetV (part8 l x)).lv, .string (str (egetV (part8 l x)).nm)] 48)) T xs ∧ w1.heap.size ≤ (V2.alloc (.cells #[.int .i64 (egetV (part8 l x)).sl, .bool (egetV (part8 l x)).lv, .string (str (egetV (part8 l x)).nm)] 48)).heap.size := by
        have z3 := HB3.out.size
        have zz := HZ.out
        have z1 := Z1.out
        have vY := HYV.out
        refine ⟨⟨z3, fun k o _ ho _ => (HB3.out.block k (Array.getElem?_eq_some_iff.1 ho).1).trans ho⟩, HB3.out.block _ (by omega), T, xs, ⟨?_, HJ3.out, HE.out.nb, HE.out.n0, HE.out.n1, sameK_t HE.out.sb (HB3.out.block _ (by omega)), sameK_t HE.out.s0 (HB3.out.block _ (by omega)), sameK_t HE.out.s1 (HB3.out.block _ (by omega))⟩, by omega⟩
        rw [HE.out.map, List.filter_append]
        simp [HEN.out]
      have FIN : Hid _ := fin
      clear fin j3 hent h2 hlen
      have he := HEN.out
      unfold entB at he
      cases h0e : (egetE (part8 l x) == 0)
      · clear he
        generalize egetE (part8 l x) = E0 at *
        gi_wp2
        refine ⟨fun _ h => (by cases h), ?_⟩
        gi_wp2
        exact FIN.out
      · rw [h0e, Bool.true_and] at he
        rw [eq_of_beq h0e]
        have he3 : (egetV (part8 l x)).sl = 0 := by simpa [bne] using he
        clear he h0e
        gi_wp2
        refine ⟨fun _ h => (by cases h), ?_⟩
        gi_wp2
        have F := FIN.out
        rw [he3] at F
        exact F
  case done =>
    rintro D ys V hD hys ⟨T, xs, hE, hz⟩ hK
    clear z1 hJ hJx hT
    have HE : Hid (EV l J b W.heap.size w1 ys V T xs) := hE
    have HD : Hid (w1.heap.size ≤ D) := hD
    have HZ : Hid (w1.heap.size ≤ V.heap.size) := hz
    have HYS : Hid (comes l.length ys) := hys
    clear hE hD hz hys
    gi_wp2
    refine ⟨by simp, .inl ⟨_, _, rfl, run_takeDeferred hK, ?_⟩⟩
    refine ⟨_, results_none rfl _ _ _, ⟨_, rfl⟩, .inl ⟨xs, T, ?_, OwnFrom.putObj (HJ.out T) _ HE.out.j (by have := HD.out; have := Z1.out; omega) hK rfl⟩⟩
    unfold entS
    have hys := HYS.out
    unfold comes at hys
    by_cases hl : l.length = 256
    · rw [if_pos hl] at hys ⊢
      rw [HE.out.map, hys]
    · rw [if_neg hl] at hys ⊢
      have e := HE.out.map
      rw [hys] at e
      exact List.map_eq_nil_iff.1 e
  case stop =>
    rintro D c pre V hD ⟨hl, k, hk, rfl⟩ ⟨rfl, xs, e1, e2⟩ hK
    clear z1 hJ hJx hT
    have HD : Hid (w1.heap.size ≤ D) := hD
    have HX : Hid (Jx xs V) := e2
    have HL : Hid (l.length = 256) := hl
    have H1 : Hid (xs.map (·.1) = (come k).filter (entB l)) := e1
    clear e1 e2 hD hl
    gi_wp2
    refine ⟨by simp, .inl ⟨_, _, rfl, run_takeDeferred hK, ?_⟩⟩
    exact ⟨_, results_none rfl _ _ _, ⟨_, rfl⟩, .inr ⟨xs, ⟨HL.out, k, hk, H1.out⟩, OwnFrom.putObj HJX.out _ HX.out (by have := HD.out; have := Z1.out; omega) hK rfl⟩⟩
end Go.Proofs.Ytabmogeicpphoaa
/- dirent.Find. -/
namespace Go.Proofs.Ytabmogeicpphoaa
open Go.RowKit Go.Shelf
attribute [local go_sem] Oper.semAt_some
/-- Is there an entry of that name at the place? -/
def findP (l nm : List UInt8) (x : Fin 8) : Bool := entB l x && ((egetV (part8 l x)).nm == nm)
def findL (l nm : List UInt8) : Int := if l.length = 256 then firstOf (findP l nm) else -1
def nameB (l nm : List UInt8) (x : PlaceE l) : Bool := (egetV (part8 l x.1)).nm == nm
theorem find_no {l nm : List UInt8} {xs : List (PlaceE l)} (hs : entS l xs) (hn : ∀ x ∈ xs, nameB l nm x = false) : findL l nm = -1 := by
  unfold findL
  by_cases hl : l.length = 256
  · rw [if_pos hl]
    unfold entS at hs
    rw [if_pos hl] at hs
    refine first_no (fun x hx => ?_)
    unfold findP
    cases he : entB l x
    · rfl
    · have hm : x ∈ xs.map (·.1) := by rw [hs]; exact List.mem_filter.2 ⟨hx, he⟩
      obtain ⟨y, hy, e⟩ := List.mem_map.1 hm
      have := hn y hy
      unfold nameB at this
      rw [e] at this
      rw [this]; rfl
  · rw [if_neg hl]
theorem filter_last {p : Fin 8 → Bool} {ini : List (Fin 8)} {last : Fin 8} : ∀ {k : Nat}, k ≤ 8 → (come k).filter p = ini ++ [last] → ∃ j, ∃ h : j < 8, last = ⟨j, h⟩ ∧ (come j).filter p = ini ∧ p last = true
  | 0, _, e => by simp [come] at e
  | k + 1, hk, e => by
    rw [come_succ (by omega), List.filter_append] at e
    cases hp : p ⟨k, by omega⟩
    · rw [List.filter_cons, hp] at e
      simp only [Bool.false_eq_true, if_false, List.filter_nil, List.append_nil] at e
      exact filter_last (by omega) e
    · rw [List.filter_cons, hp] at e
      simp only [if_true, List.filter_nil] at e
      obtain ⟨e1, e2⟩ := List.append_inj' e rfl
      have e3 : (⟨k, by omega⟩ : Fin 8) = last := by simpa using e2
      exact ⟨k, by omega, e3.symm, e1, by rw [← e3]; exact hp⟩
theorem find_at {l nm : List UInt8} {ini : List (PlaceE l)} {last : PlaceE l} (hs : entSp l (ini ++ [last])) (hn : ∀ x ∈ ini, nameB l nm x = false) (hl : nameB l nm last = true) : findL l nm = (last.1.1 : Int) := by
  obtain ⟨h, k, hk, e⟩ := hs
  rw [List.map_append] at e
  obtain ⟨j, hj, e1, e2, e3⟩ := filter_last hk e.symm
  unfold findL
  have e1' : last.1 = ⟨j, hj⟩ := e1
  rw [if_pos h, e1']
  refine first_at hj (fun x hx => ?_) ?_
  · unfold findP
    cases he : entB l x
    · rfl
    · have hm : x ∈ ini.map (·.1) := by rw [← e2]; exact List.mem_filter.2 ⟨hx, he⟩
      obtain ⟨y, hy, e⟩ := List.mem_map.1 hm
      have := hn y hy
      unfold nameB at this
      rw [e] at this
      rw [this]; rfl
  · unfold findP
    unfold nameB at hl
    rw [← e1', hl, last.2]; rfl
/-- What Find has laid: the name, the answer, the slice. -/
structure FV (w : World) (l nm : List UInt8) (pre : List (PlaceE l)) (W : World) (T : Nat → Prop) : Prop where
  no : ∀ x ∈ pre, nameB l nm x = false
  nam : Boxed W w.heap.size 9 (.string (str nm))
  res : Boxed W (w.heap.size + 1) 3 (.int .i64 0)
  b : Below w.heap.size w W
  t : T = (fun k => k = w.heap.size + 1)
structure FX (w : World) (l nm : List UInt8) (pre : List (PlaceE l)) (W : World) : Prop where
  ends : ∃ ini last, pre = ini ++ [last] ∧ (∀ x ∈ ini, nameB l nm x = false) ∧ nameB l nm last = true ∧ Boxed W (w.heap.size + 1) 3 (.int .i64 (last.1.1 : Int))
  b : Below w.heap.size w W
theorem box_turn {A B : World} {q : Nat} {t : TypeId} {v : Value} {row : Option Nat} (h : Boxed A q t v) (hg : A.grownBy B row) (hr : ∀ r, row = some r → ∃ o : Obj, A.heap[r]? = some o ∧ o.isCells = false) : Boxed B q t v :=
  boxed_own q t (fun (_ : Unit) => v) () A B row h hg hr
theorem bel_turn {w A B : World} {n N : Nat} {row : Option Nat} (h : Below n w A) (hn : n ≤ N) (hA : n ≤ A.heap.size) (hg : A.grownBy B row) (hr : ∀ r, row = some r → N ≤ r ∧ ∃ o : Obj, A.heap[r]? = some o ∧ o.isCells = false) : Below n w B :=
  h.grown hg hA (fun k e => by have := (hr k e).1; omega)
theorem FV.own {w : World} {l nm : List UInt8} {N : Nat} (hN : w.heap.size ≤ N) (T : Nat → Prop) : OwnFrom N (fun s W => FV w l nm s W T) := fun _ _ _ _ h hg hr =>
  ⟨h.no, box_turn h.nam hg (fun r e => (hr r e).2), box_turn h.res hg (fun r e => (hr r e).2), bel_turn h.b hN h.b.size hg hr, h.t⟩
theorem FX.own {w : World} {l nm : List UInt8} {N : Nat} (hN : w.heap.size ≤ N) : OwnFrom N (fun s W => FX w l nm s W) := fun _ _ _ _ h hg hr => by
  obtain ⟨ini, last, e1, e2, e3, e4⟩ := h.ends
  exact ⟨⟨ini, last, e1, e2, e3, box_turn e4 hg (fun r e => (hr r e).2)⟩, bel_turn h.b hN h.b.size hg hr⟩
theorem ent_turn {A B : World} {q : Nat} {e : Ent} {row : Option Nat} (h : EntAt A q e) (hg : A.grownBy B row) (hr : ∀ r, row = some r → ∃ o : Obj, A.heap[r]? = some o ∧ o.isCells = false) : EntAt B q e :=
  ⟨(hg.block q h.lt (fun e' => by obtain ⟨o, ho, hc⟩ := hr q e'.symm; rw [h.row] at ho; cases ho; cases hc)).trans h.row⟩
theorem Boxed.below {A B : World} {q n : Nat} {t : TypeId} {v : Value} (h : Boxed A q t v) (hb : Below n A B) (hq : q < n) : Boxed B q t v := (hb.block q hq).trans h
theorem boxed_at {A : World} {q : Nat} {t : TypeId} {v : Value} (h : Boxed A q t v) : CellAt A q := ⟨_, h, rfl⟩
theorem Below.oth {W : World} {q : Nat} {v : Value} {n : Nat} (h : n ≤ q) : Below n W (W.setCell ⟨q, 0, none⟩ v) := (Below.refl n W).setCell (p := ⟨q, 0, none⟩) h v
set_option maxRecDepth 100000 in
set_option maxHeartbeats 400000 in
theorem find_in (sp : Option Addr) (cap : Nat) (l nm : List UInt8) (w : World) (ha : Arg w sp cap l) :
    Calls Try.prog 42 #[.slice sp l.length cap, .string (str nm)] w fun e w' => e = .returned (.int .i64 (findL l nm)) ∧ Below w.heap.size w w' := by
  refine (callsIn_wide (n := 9)).1 ?_
  refine callsIn_of_wp_marks Try.func42 rfl trivial ?_ rfl
  simp only [Try.ntmps42, List.size_toArray, List.length_cons, List.length_nil, Nat.reduceAdd, Nat.reduceSub, Array.replicate_succ, Array.replicate_zero, List.push_toArray, List.append_toArray, List.nil_append, List.cons_append]
  gi_wp2_with fail
  refine ⟨trivial, (callsIn_wide.2 (entries_any _ _ _ _)).mono ?_⟩
  rintro e w1' ⟨rfl, hw1'⟩
  rw [hw1']
  clear hw1' w1'
  obtain ⟨w1, hw1⟩ : ∃ w1, w1 = ((w.alloc (.cells #[.string (str nm)] 9)).alloc (.cells #[.int .i64 0] 3)).alloc (.cells #[.slice sp l.length cap] 25) := ⟨_, rfl⟩
  have z1 : w1.heap.size = w.heap.size + 3 := by rw [hw1]; simp
  have hB1 : Below w.heap.size w w1 := by rw [hw1]; exact (((Below.refl _ _).alloc (Nat.le_refl _) _).alloc (by simp) _).alloc (by simp; omega) _
  have bA : Boxed w1 w.heap.size 9 (.string (str nm)) := by rw [hw1]; exact ((Boxed.new _ _ _).alloc _).alloc _
  have bR : Boxed w1 (w.heap.size + 1) 3 (.int .i64 0) := by rw [hw1]; have := (Boxed.new (w.alloc (.cells #[.string (str nm)] 9)) 3 (.int .i64 0)).alloc (.cells #[.slice sp l.length cap] 25); rw [World.size_alloc] at this; exact this
  have bN : Boxed w1 (w.heap.size + 1 + 1) 25 (.slice sp l.length cap) := by rw [hw1]; have := Boxed.new ((w.alloc (.cells #[.string (str nm)] 9)).alloc (.cells #[.int .i64 0] 3)) 25 (.slice sp l.length cap); rw [World.size_alloc, World.size_alloc] at this; exact this
  rw [← hw1]
  clear hw1
  have Z1 : Hid (w1.heap.size = w.heap.size + 3) := z1
  clear z1
  gi_wp2_with fail
  refine range_runs (gf := 77) (lb := #[.pointer (some ⟨w.heap.size + 1 + 1, 0, none⟩)]) rfl (enters_of Try.func77 (by kernel_rfl) rfl)
    (entries_runs (w.heap.size + 1 + 1) sp cap l (fun k => k = w.heap.size + 1) w1 (ha.below hB1 (Nat.le_refl _)) (by have := Z1.out; omega) bN.cell (fun k hk => ⟨fun hl => ?hT, by have := Z1.out; omega⟩))
    (fun k hk => by rw [hk]; exact boxed_at bR) (fun _ => rfl) (FV w l nm) (FX w l nm) (fun T => FV.own (by have := Z1.out; omega) T) (FX.own (by have := Z1.out; omega)) ⟨fun x hx => absurd hx (by simp), bA, bR, hB1, rfl⟩
    (fun x a' W => ∃ q, EntAt W q (egetV (part8 l x.1)) ∧ a' = { tmps := #[.slice sp l.length cap, .string (str nm), undef, .pointer (some ⟨w.heap.size, 0, none⟩), .pointer (some ⟨w.heap.size + 1, 0, none⟩), .int .i64 (x.1.1 : Int), .pointer (some ⟨q, 0, none⟩), .slice sp l.length cap, .func (.func 77) #[] #[.pointer (some ⟨w.heap.size + 1 + 1, 0, none⟩)], .int .i64 (x.1.1 : Int), .agg (eA (egetV (part8 l x.1))), undef, undef, undef, undef, undef], defers := [] })
    (fun x a' => ?hAx) ?assign ?body ?done ?stop
  case hT =>
    obtain ⟨b, off, e, hb, _⟩ := ha.src.at' (by omega)
    rw [e]
    show k ≠ b
    omega
  case hAx =>
    rintro s A B row ⟨q, hq, e⟩ hg hr
    exact ⟨q, ent_turn hq hg (fun r e => (hr r e).2), e⟩
  case assign =>
    intro L m pre x W T K hi hK
    have HF : Hid (FV w l nm pre W T) := hi
    have HK : Hid _ := hK
    clear hi hK
    dsimp only [encE]
    rw [eA_lit]
    gi_wp2
    exact HK.out _ _ ((Below.refl _ _).alloc (Nat.le_refl _) _) ((FV.own (N := w.heap.size) (Nat.le_refl _) T).alloc _ HF.out) ⟨W.heap.size, ent_new W _, rfl⟩
  case body =>
    rintro L m pre x a' W T hF hTc ⟨q, hq, rfl⟩ hlt
    have hc2 := hq.c2
    have hcn := hF.nam.cell
    have hcr := hF.res.cell
    have hfr := hF.res.frozen
    have HF : Hid (FV w l nm pre W T) := hF
    have HN : Hid (nameB l nm x = ((egetV (part8 l x.1)).nm == nm)) := rfl
    clear hF hTc hq hlt
    generalize (egetV (part8 l x.1)).nm = y at *
    rw [← str_beqD] at HN
    gi_wp2
    · have hx : ((str y).toList == (str nm).toList) = true := by assumption
      rw [hx] at HN
      have hF := HF.out
      refine ⟨⟨⟨pre, x, rfl, hF.no, HN.out, hF.res.set _⟩, hF.b.setCell (p := ⟨w.heap.size + 1, 0, none⟩) (by simp) _⟩, ⟨(Below.oth (n := 0) (Nat.zero_le _)).size, fun k _ ht => ?_⟩⟩
      rw [hF.t] at ht
      exact Below.heap_setCell _ _ _ _ ht
    · have hx : ((str y).toList == (str nm).toList) = false := by assumption
      rw [hx] at HN
      have hF := HF.out
      refine ⟨⟨T, ⟨fun z hz => ?_, hF.nam, hF.res, hF.b, hF.t⟩, fun k hk => ⟨.inl hk, ?_⟩⟩, Upto.refl _ _⟩
      · rcases List.mem_append.1 hz with h | h
        · exact hF.no z h
        · rw [List.mem_singleton.1 h]; exact HN.out
      · rw [hF.t] at hk
        rw [hk]
        exact boxed_at hF.res
  case done =>
    rintro D ys W T hD hys hF hK
    have HF : Hid (FV w l nm ys W T) := hF
    have HS : Hid (entS l ys) := hys
    have HD : Hid (w1.heap.size ≤ D) := hD
    have hcr := hF.res.cell
    have hfr := hF.res.frozen
    clear hF hys hD
    gi_wp2
    have hK' := (KeepsOthers.setCell W ⟨w.heap.size + 1, 0, none⟩ (.int .i64 (-1))).same D _ hK rfl
    refine ⟨by simp, .inl ⟨_, _, rfl, run_takeDeferred hK', ?_⟩⟩
    have hc5 := cell_kept (World.cell?_setCell_same' W ⟨w.heap.size + 1, 0, none⟩ (.int .i64 (-1)) (by rw [hcr]; rfl)) (grownBy_putObj' _ D (.deferred none)) (fun r e => by cases e; exact ⟨_, hK', rfl⟩)
    refine ⟨.int .i64 (-1), ?_, by rw [find_no HS.out HF.out.no], (HF.out.b.setCell (p := ⟨w.heap.size + 1, 0, none⟩) (by simp) _).trans (belowK_b (w := w) (Nat.le_refl _) _ D _ _ (by have := HD.out; have := Z1.out; omega) hK' rfl rfl)⟩
    simp [results, Try.f42, go_sem, hc5]
  case stop =>
    rintro D pre W hD hs hF hK
    have HF : Hid (FX w l nm pre W) := hF
    have HS : Hid (entSp l pre) := hs
    have HD : Hid (w1.heap.size ≤ D) := hD
    clear hF hs hD
    gi_wp2
    refine ⟨by simp, .inl ⟨_, _, rfl, run_takeDeferred hK, ?_⟩⟩
    obtain ⟨ini, last, e1, e2, e3, bX⟩ := HF.out.ends
    have hs := HS.out
    rw [e1] at hs
    have hc5 := cell_kept bX.cell (grownBy_putObj' _ D (.deferred none)) (fun r e => by cases e; exact ⟨_, hK, rfl⟩)
    refine ⟨.int .i64 (last.1.1 : Int), ?_, by rw [find_at hs e2 e3], HF.out.b.trans (belowK_b (w := w) (Nat.le_refl _) W D _ _ (by have := HD.out; have := Z1.out; omega) hK rfl rfl)⟩
    simp [results, Try.f42, go_sem, hc5]
end Go.Proofs.Ytabmogeicpphoaa
/- leveeref08.Room, leveeref08.Find. -/
namespace Go.Proofs.Ytabmogeicpphoaa
open Go.RowKit
theorem read_part {l : List UInt8} (hl : l.length = 256) {k : Nat} (h : k < 8) : ereadV l (k : Int) = egetV (part8 l ⟨k, h⟩) ∧ ereadE l (k : Int) = egetE (part8 l ⟨k, h⟩) := by
  have h0 : dstE l.length (k : Int) = 0 := by rw [hl]; exact (dst_ok h).2
  have hp : part32 l (k : Int) = part8 l ⟨k, h⟩ := by unfold part32 part8; rw [Int.toNat_natCast]
  unfold ereadV ereadE
  rw [if_pos h0, if_pos h0, hp]
  exact ⟨rfl, rfl⟩
theorem no_more {p : Fin 8 → Bool} {k : Nat} (h : k < 8) (hn : ∀ x ∈ come k, p x = false) (hp : p ⟨k, h⟩ = false) : ∀ x ∈ come (k + 1), p x = false := by
  intro x hx
  rw [come_succ h] at hx
  rcases List.mem_append.1 hx with hx | hx
  · exact hn x hx
  · rw [List.mem_singleton.1 hx]; exact hp
set_option maxHeartbeats 4000000 in
theorem rroom_any (sp : Option Addr) (cap : Nat) (l : List UInt8) (w : World) (ha : Arg w sp cap l) :
    Calls Try.prog 45 #[.slice sp l.length cap] w fun e w' => e = .returned (.int .i64 (roomL l)) ∧ w' = w := by
  by_cases hl : l.length = 256
  · obtain ⟨hsp, hcap, hm⟩ := ha.whole hl
    have HA := fun x => ha.part8 hl x
    have HR : Hid (roomL l = firstOf (roomP l)) := by unfold roomL Hid; rw [if_pos hl]
    rw [hl, hsp]
    clear hsp hl ha
    generalize (bOf sp).1 = b at *
    generalize (bOf sp).2 = off at *
    go_enter Try.func45, Try.ntmps45
    go_wp2
    go_loop [3] (fun t => ∃ k : Nat, k ≤ 8 ∧ t = .int .i64 k ∧ Hid (∀ x ∈ come k, roomP l x = false)) (fun t => 8 - (intOf t).toNat)
    case atStart => exact ⟨0, by omega, rfl, fun x hx => by simp [come] at hx⟩
    case round =>
      obtain ⟨k, hk, rfl, HN⟩ := hrel
      by_cases hlt : (k : Int) < 8
      · have hk8 : k < 8 := by omega
        obtain ⟨hA, hn⟩ := HA ⟨k, hk8⟩
        have HZ := rzero_any _ (part8 l ⟨k, hk8⟩) (cap - 32 * k) w hA.src (by omega)
        rw [hn] at HZ
        have HP : Hid (roomP l ⟨k, hk8⟩ = zeroL (part8 l ⟨k, hk8⟩)) := rfl
        have hsl := slice_sl b off 256 cap (32 * k) 32 (32 * (k : Int)) (32 * (k : Int) + 32) (by omega) (by omega) (by omega) (by omega)
        have HAA : Hid _ := HA
        clear HA hA hn
        cases hz : zeroL (part8 l ⟨k, hk8⟩)
        · rw [hz] at HZ HP
          go_wp2_with fail
          refine HZ.mono ?_
          rintro e w1 ⟨rfl, hw1⟩
          rw [hw1]
          clear hw1 w1 HZ
          go_wp2
          go_round
          case rel => exact ⟨k + 1, by omega, by go_num, no_more hk8 HN.out HP.out⟩
          case measure => simp [intOf]; omega
        · rw [hz] at HZ HP
          go_wp2_with fail
          refine HZ.mono ?_
          rintro e w1 ⟨rfl, hw1⟩
          rw [hw1]
          clear hw1 w1 HZ
          go_wp2
          go_ret
          exact ⟨by rw [HR.out, first_at hk8 HN.out HP.out]; rfl, rfl⟩
      · obtain rfl : k = 8 := by omega
        clear HA
        go_wp2
        go_ret
        exact ⟨by rw [HR.out, first_no HN.out]; rfl, rfl⟩
  · have HR : Hid (roomL l = -1) := by unfold roomL Hid; rw [if_neg hl]
    have hl2 : ((l.length : Int) == 256) = false := by simp; omega
    have hl3 : ¬ (l.length : Int) = 256 := by omega
    clear ha hl
    go_enter Try.func45, Try.ntmps45
    go_wp2
    go_loop [3] (fun t => t = .int .i64 0) (fun _ => 0)
    case atStart => rfl
    case round =>
      subst hrel
      go_wp2
      go_ret
      exact ⟨by rw [HR.out]; rfl, rfl⟩
set_option maxRecDepth 100000 in
set_option maxHeartbeats 4000000 in
theorem rfind_any (sp : Option Addr) (cap : Nat) (l nm : List UInt8) (w : World) (ha : Arg w sp cap l) :
    Calls Try.prog 43 #[.slice sp l.length cap, .string (str nm)] w fun e w' => e = .returned (.int .i64 (findL l nm)) ∧ Below w.heap.size w w' := by
  have hz := zeroE
  by_cases hl : l.length = 256
  · have HR : Hid (findL l nm = firstOf (findP l nm)) := by unfold findL Hid; rw [if_pos hl]
    have HRD : Hid (∀ (k : Nat) (h : k < 8) W, Below w.heap.size w W → Calls Try.prog 38 #[.slice sp 256 cap, .int .i64 (k : Int)] W fun e w' => e = .returned (.tuple #[.agg (eA (egetV (part8 l ⟨k, h⟩))), .int .i64 (egetE (part8 l ⟨k, h⟩))]) ∧ Below W.heap.size W w') := fun k h W hW => by
      have := rdreadT_any sp cap l (k : Int) W (ha.below hW (Nat.le_refl _))
      rw [(read_part hl h).1, (read_part hl h).2, hl] at this
      exact this
    rw [hl]
    clear hl ha
    go_enter Try.func43, Try.ntmps43
    go_wp2
    go_loopw [5] (fun t wr => ∃ k : Nat, k ≤ 8 ∧ t = .int .i64 k ∧ Hid (∀ x ∈ come k, findP l nm x = false) ∧ Hid (Below w.heap.size w wr)) (fun t _ => 8 - (intOf t).toNat)
    case atStart => exact ⟨0, by omega, rfl, fun x hx => by simp [come] at hx, Below.refl _ _⟩
    case round =>
      obtain ⟨k, hk, rfl, HN, HB⟩ := hrel
      by_cases hlt : (k : Int) < 8
      · have hk8 : k < 8 := by omega
        have RD := HRD.out k hk8 wr HB.out
        have HP : Hid (findP l nm ⟨k, hk8⟩ = ((egetE (part8 l ⟨k, hk8⟩) == 0 && (egetV (part8 l ⟨k, hk8⟩)).sl != 0) && ((egetV (part8 l ⟨k, hk8⟩)).nm == nm))) := rfl
        have HNX : Hid (findP l nm ⟨k, hk8⟩ = false → ∀ x ∈ come (k + 1), findP l nm x = false) := fun h => no_more hk8 HN.out h
        have HAT : Hid (findP l nm ⟨k, hk8⟩ = true → findL l nm = (k : Int)) := fun h => by rw [HR.out]; exact first_at hk8 HN.out h
        generalize egetE (part8 l ⟨k, hk8⟩) = E at *
        generalize egetV (part8 l ⟨k, hk8⟩) = V at *
        go_upto_region 4 with fail
        go_wp2_with fail
        refine RD.mono ?_
        rintro e w1 ⟨rfl, h1⟩
        have HB1 : Hid (Below w.heap.size w w1) := HB.out.trans (h1.mono HB.out.size)
        clear RD h1 HB
        have HZ : Hid (EntAt (w1.alloc (.cells (eA zent) 48)) w1.heap.size zent) := ent_new w1 zent
        have HZB : Hid (Below w1.heap.size w1 (w1.alloc (.cells (eA zent) 48))) := (Below.refl _ _).alloc (Nat.le_refl _) _
        go_upto_region 5 with (first | ((with_reducible show wpList _ _ _ ({ dst := _, op := Op.store 48 _ _, type := _, pos := _, after := _, guard := _ } :: _) _ _); refine wpList_store_ent rfl _ _ rfl (HZ.out) rfl rfl ?_; intro w2 H2 b2 z2))
        have HB2 : Hid (Below w.heap.size w w2) := HB1.out.trans ((HZB.out.trans b2.bel).mono HB1.out.size)
        have c0 := H2.c0
        have c2 := H2.c2
        clear HB1 HZ HZB b2 z2 H2
        rw [← str_beqD] at HP
        cases hE : (E == 0)
        · have hE' : ¬ E = 0 := by simpa using hE
          have hp : findP l nm ⟨k, hk8⟩ = false := by rw [HP.out, hE]; rfl
          have HNX2 : Hid _ := HNX.out hp
          clear HP HNX HAT hp
          go_wp2
          go_roundw
          case rel => exact ⟨k + 1, by omega, by go_num, HNX2, HB2⟩
          case measure => simp [intOf]; omega
        · obtain rfl : E = 0 := by simpa using hE
          cases hS : (V.sl == 0)
          · have hS' : ¬ V.sl = 0 := by simpa using hS
            cases hM : ((str V.nm).toList == (str nm).toList)
            · have hp : findP l nm ⟨k, hk8⟩ = false := by rw [HP.out, hM]; simp
              have HNX2 : Hid _ := HNX.out hp
              clear HP HNX HAT hp hE
              go_wp2
              go_roundw
              case rel => exact ⟨k + 1, by omega, by go_num, HNX2, HB2⟩
              case measure => simp [intOf]; omega
            · have hp : findP l nm ⟨k, hk8⟩ = true := by rw [HP.out, hM]; simp [hS']
              have HA2 : Hid _ := HAT.out hp
              clear HP HNX HAT hp hE
              go_wp2
              go_ret
              exact ⟨by rw [HA2.out]; rfl, HB2.out⟩
          · have hS' : V.sl = 0 := by simpa using hS
            have hp : findP l nm ⟨k, hk8⟩ = false := by rw [HP.out, hS']; simp
            have HNX2 : Hid _ := HNX.out hp
            rw [hS'] at c0
            clear HP HNX HAT hp hE
            go_wp2
            go_roundw
            case rel => exact ⟨k + 1, by omega, by go_num, HNX2, HB2⟩
            case measure => simp [intOf]; omega
      · obtain rfl : k = 8 := by omega
        go_wp2
        go_ret
        exact ⟨by rw [HR.out, first_no HN.out]; rfl, HB.out⟩
  · have HR : Hid (findL l nm = -1) := by unfold findL Hid; rw [if_neg hl]
    have hl2 : ((l.length : Int) == 256) = false := by simp; omega
    have hl3 : ¬ (l.length : Int) = 256 := by omega
    clear ha hl
    go_enter Try.func43, Try.ntmps43
    go_wp2
    go_loopw [5] (fun t wr => t = .int .i64 0 ∧ wr = w) (fun _ _ => 0)
    case atStart => exact ⟨rfl, rfl⟩
    case round =>
      obtain ⟨rfl, hw⟩ := hrel
      rw [hw]
      go_wp2
      go_ret
      exact ⟨by rw [HR.out]; rfl, Below.refl _ _⟩
end Go.Proofs.Ytabmogeicpphoaa
