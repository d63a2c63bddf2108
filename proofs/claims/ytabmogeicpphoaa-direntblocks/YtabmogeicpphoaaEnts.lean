/- dirent.entries: its iterator. -/
import Derived.Test.YtabmogeicpphoaaRoom
namespace Go.Proofs.Ytabmogeicpphoaa
open Go.RowKit Go.Shelf
attribute [local go_sem] Oper.semAt_some
/-- Is there an entry at the place? -/
def entB (l : List UInt8) (x : Fin 8) : Bool := egetE (part8 l x) == 0 && (egetV (part8 l x)).sl != 0
abbrev PlaceE (l : List UInt8) := { x : Fin 8 // entB l x = true }
def encE (l : List UInt8) (x : PlaceE l) : Array Value := #[.int .i64 (x.1.1 : Int), .agg (eA (egetV (part8 l x.1)))]
def entS (l : List UInt8) (xs : List (PlaceE l)) : Prop := if l.length = 256 then xs.map (·.1) = (come 8).filter (entB l) else xs = []
def entSp (l : List UInt8) (xs : List (PlaceE l)) : Prop := l.length = 256 ∧ ∃ k, k ≤ 8 ∧ xs.map (·.1) = (come k).filter (entB l)
/-- What the loop over the places keeps: Y is where the captured function lies, w1 the world in which the loop began. -/
structure EV (l : List UInt8) (J : List (PlaceE l) → World → (Nat → Prop) → Prop) (b Y : Nat) (w1 : World) (pre : List (Fin 8)) (W : World) (T : Nat → Prop) (xs : List (PlaceE l)) : Prop where
  map : xs.map (·.1) = pre.filter (entB l)
  j : J xs W T
  nb : ¬ T b
  n0 : ¬ T Y
  n1 : ¬ T (Y + 1)
  sb : SameAt b w1 W
  s0 : SameAt Y w1 W
  s1 : SameAt (Y + 1) w1 W
theorem EV.own {l : List UInt8} {J : List (PlaceE l) → World → (Nat → Prop) → Prop} {b Y B : Nat} {w1 : World} (hJ : ∀ T, OwnFrom B (fun s W => J s W T)) (hB : B ≤ w1.heap.size) (hb : b < w1.heap.size) (hY : Y + 1 < w1.heap.size) : OwnFrom w1.heap.size (fun pre W => ∃ T xs, EV l J b Y w1 pre W T xs ∧ w1.heap.size ≤ W.heap.size) := by
  rintro pre W W' row ⟨T, xs, h, hz⟩ hg hr
  have f : ∀ k, k < w1.heap.size → SameAt k w1 W → SameAt k w1 W' := fun k hk e => (hg.block k (by omega) (fun e' => by have := (hr k e'.symm).1; omega)).trans e
  exact ⟨T, xs, ⟨h.map, hJ T xs W W' row h.j hg (fun r e => ⟨Nat.le_trans hB (hr r e).1, (hr r e).2⟩), h.nb, h.n0, h.n1, f b hb h.sb, f Y (by omega) h.s0, f (Y + 1) hY h.s1⟩, Nat.le_trans hz hg.size⟩
theorem grown_bel {W W' : World} (h : Below W.heap.size W W') : W.grownBy W' none := ⟨h.os, h.tape, h.output, h.size, fun k hk _ => h.block k hk⟩
theorem Src.same {w V : World} {b off : Nat} {l : List UInt8} (h : Src w (some ⟨b, off, none⟩) l) (hs : SameAt b w V) (hz : w.heap.size ≤ V.heap.size) : Src V (some ⟨b, off, none⟩) l := by
  rcases h with h | ⟨b', off', h1, h2, h3⟩
  · exact .inl h
  · obtain ⟨rfl, rfl⟩ : b = b' ∧ off = off' := by simpa using h1
    exact .inr ⟨b, off, rfl, by omega, fun j hj => (World.cell?_of_block (a := ⟨b, off + j, none⟩) hs).trans (h3 j hj)⟩
theorem Arg.same {w V : World} {b off cap : Nat} {l : List UInt8} (h : Arg w (some ⟨b, off, none⟩) cap l) (hs : SameAt b w V) (hz : w.heap.size ≤ V.heap.size) : Arg V (some ⟨b, off, none⟩) cap l := by
  rcases h with h | ⟨b', off', h1, h2, h3, h4, h5, h6⟩
  · exact .inl h
  · exact .inr ⟨b, off, rfl, h2, h3, h4, h5, h6.same hs hz⟩
theorem eA_lit (e : Ent) : eA e = #[.int .i64 e.sl, .bool e.lv, .string (str e.nm)] := rfl
set_option maxRecDepth 100000 in
set_option maxHeartbeats 400000 in
theorem entries_runs (Bs : Nat) (sp : Option Addr) (cap : Nat) (l : List UInt8) (T0 : Nat → Prop) (w : World) (ha : Arg w sp cap l) (hB : Bs < w.heap.size) (hc : w.cell? ⟨Bs, 0, none⟩ = some (.slice sp l.length cap))
    (hT : ∀ k, T0 k → (l.length = 256 → k ≠ (bOf sp).1) ∧ k < w.heap.size) :
    Runs Try.prog 77 #[.pointer (some ⟨Bs, 0, none⟩)] (encE l) T0 (entS l) (entSp l) (nOf l.length) w := by
  intro L J Jx W hL hwL hW hJ hJx hJc hY h0 n
  have hc' := (hW.cell (p := ⟨Bs, 0, none⟩) hB).trans hc
  have ha' := ha.below hW (Nat.le_refl _)
  have hws := hW.size
  refine callsIn_wide.2 ((callsIn_wide (n := 9)).1 ?_)
  refine callsIn_of_wp_marks Try.func77 rfl trivial ?_ rfl
  simp only [Try.ntmps77, List.size_toArray, List.length_cons, List.length_nil, Nat.reduceAdd, Nat.reduceSub, Array.replicate_succ, Array.replicate_zero, List.push_toArray, List.append_toArray, List.nil_append, List.cons_append]
  have hcb : (W.alloc (.cells #[.func (.yield L) #[] #[]] 95)).cell? ⟨Bs, 0, none⟩ = some (.slice sp l.length cap) := (((Below.refl _ W).alloc (Nat.le_refl _) _).cell (p := ⟨Bs, 0, none⟩) (show Bs < W.heap.size by omega)).trans hc'
  gi_wp2_with fail
  refine ⟨trivial, (callsIn_wide.2 (places_any _ _ _ _)).mono ?_⟩
  rintro e w1' ⟨rfl, hw1'⟩
  rw [hw1']
  clear hw1' w1'
  obtain ⟨w1, hw1⟩ : ∃ w1, w1 = (W.alloc (.cells #[.func (.yield L) #[] #[]] 95)).alloc (.cells #[.slice sp l.length cap] 25) := ⟨_, rfl⟩
  have z1 : w1.heap.size = W.heap.size + 2 := by rw [hw1]; simp
  have hB1 : Below W.heap.size W w1 := by rw [hw1]; exact ((Below.refl _ _).alloc (Nat.le_refl _) _).alloc (by simp) _
  have bY : Boxed w1 W.heap.size 95 (.func (.yield L) #[] #[]) := by rw [hw1]; exact (Boxed.new _ _ _).alloc _
  have bN : Boxed w1 (W.heap.size + 1) 25 (.slice sp l.length cap) := by rw [hw1]; have := Boxed.new (W.alloc (.cells #[.func (.yield L) #[] #[]] 95)) 25 (.slice sp l.length cap); rw [World.size_alloc] at this; exact this
  rw [← hw1]
  clear hw1 hcb hc' hc
  have ha1 := ha'.below hB1 (Nat.le_refl _)
  obtain ⟨b, hbe, hb1, hb2, hbl⟩ : ∃ b, (l.length = 256 → b = (bOf sp).1) ∧ b < w1.heap.size ∧ ¬ T0 b ∧ b ≠ L := by
    by_cases hl : l.length = 256
    · obtain ⟨b, off, e, hb, _⟩ := ha.src.at' (by omega)
      exact ⟨b, fun _ => by rw [e]; rfl, by omega, fun h => (hT b h).1 hl (by rw [e]; rfl), by omega⟩
    · exact ⟨W.heap.size, fun h => absurd h hl, by omega, fun h => by have := (hT _ h).2; omega, by omega⟩
  have h01 : J [] w1 T0 := hJ T0 [] W w1 none h0 (grown_bel hB1) (fun r e => by cases e)
  have Z1 : Hid (w1.heap.size = W.heap.size + 2) := z1
  have HBE : Hid (l.length = 256 → b = (bOf sp).1) := hbe
  have HYY : Hid (∀ (pre : List (PlaceE l)) (x : PlaceE l) (W1 : World) (T : Nat → Prop) (m : Nat), J pre W1 T → pre.length < nOf l.length → YieldAt Fence.wide m Try.prog L (encE l x) W1 fun e W' =>
      (e = .returned (.bool true) ∧ (∃ T', J (pre ++ [x]) W' T' ∧ ∀ k, T' k → T k ∨ W1.heap.size ≤ k) ∧ Kept L T W1 W') ∨ (e = .returned (.bool false) ∧ Jx (pre ++ [x]) W' ∧ Kept L T W1 W')) := hY
  have HJ : Hid (∀ T, OwnFrom W.heap.size (fun s W => J s W T)) := hJ
  have HJX : Hid (OwnFrom W.heap.size Jx) := hJx
  have HJC : Hid (∀ pre W T, J pre W T → ∀ k, T k → CellAt W k) := hJc
  have HT : Hid (∀ k, T0 k → (l.length = 256 → k ≠ (bOf sp).1) ∧ k < w.heap.size) := hT
  clear z1 hbe hY hJ hJx hJc hT
  gi_wp2_with fail
  have z1 := Z1.out
  have hJ := HJ.out
  have hJx := HJX.out
  have hT := HT.out
  refine wpIn_rangeFunc_ownG rfl (by omega) (gf := 78) (lb := #[.pointer (some ⟨W.heap.size + 1, 0, none⟩)]) rfl trivial (enters_of Try.func78 (by kernel_rfl) rfl)
    (places_stops (W.heap.size + 1) _ sp l.length cap w1 (by omega) bN.cell (fun hl => ha.whole hl)) sameK_t (sameK_b (by omega)) (Below.refl _ _) (fun _ => rfl)
    (fun pre V => ∃ T xs, EV l J b W.heap.size w1 pre V T xs ∧ w1.heap.size ≤ V.heap.size)
    (fun c pre V => c = .ret ∧ ∃ xs : List (PlaceE l), xs.map (·.1) = pre.filter (entB l) ∧ Jx xs V)
    (EV.own hJ (by omega) hb1 (by omega))
    (fun c => by
      rintro pre A B row ⟨e, xs, e1, e2⟩ hg hr
      exact ⟨e, xs, e1, own_up hJx (by omega) xs A B row e2 hg hr⟩)
    ⟨T0, [], ⟨rfl, h01, hb2, fun h => by have := (hT _ h).2; omega, fun h => by have := (hT _ h).2; omega, rfl, rfl, rfl⟩, Nat.le_refl _⟩
    (fun x => { tmps := #[.func (.yield L) #[] #[], .pointer (some ⟨Bs, 0, none⟩), .pointer (some ⟨W.heap.size, 0, none⟩), .int .i64 (x.1 : Int), .slice (some ⟨(bOf sp).1, (bOf sp).2 + 32 * x.1, none⟩) 32 (cap - 32 * x.1), undef, undef, .slice sp l.length cap, .func (.func 78) #[] #[.pointer (some ⟨W.heap.size + 1, 0, none⟩)], .int .i64 (x.1 : Int), .slice (some ⟨(bOf sp).1, (bOf sp).2 + 32 * x.1, none⟩) 32 (cap - 32 * x.1), undef, undef, undef, undef, undef, undef, undef, undef, undef, undef, undef, undef, undef, undef, undef, undef, undef, undef, undef], defers := [] }) ?assign ?body ?done ?stop
  case assign =>
    intro l x W K hK
    dsimp only [encP]
    gi_wp2
    exact hK
  case body =>
    rintro L2 pre x V ⟨T, xs, hE, hz⟩ hlt
    have hl := nOf_lt hlt
    obtain ⟨hA, hn⟩ := ha1.part8 hl x
    rw [← HBE.out hl] at hA
    have HG := eget_any _ (cap - 32 * x.1) (part8 l x) V (hA.same hE.sb hz)
    rw [hn] at HG
    have hcy : V.cell? ⟨W.heap.size, 0, none⟩ = some (.func (.yield L) #[] #[]) := (World.cell?_of_block (a := ⟨W.heap.size, 0, none⟩) hE.s0).trans bY.cell
    rw [eA_lit] at HG
    rw [← HBE.out hl]
    have HE : Hid (EV l J b W.heap.size w1 pre V T xs) := hE
    have HZ : Hid (w1.heap.size ≤ V.heap.size) := hz
    have HL : Hid (l.length = 256) := hl
    have HLT : Hid (pre.length < nOf l.length) := hlt
    have HA : Hid (Arg w1 (some ⟨b, (bOf sp).2 + 32 * x.1, none⟩) (cap - 32 * x.1) (part8 l x)) := hA
    clear hE hz hl hlt hA hn z1 hJ hJx hT
    generalize (bOf sp).2 + 32 * x.1 = off at *
    generalize cap - 32 * x.1 = cp at *
    gi_wp2_with fail
    refine ⟨trivial, (CallsIn.inRound L2 (callsIn_wide.2 HG)).mono ?_⟩
    rintro e V2 ⟨rfl, h2⟩
    clear HG
    dsimp only
    have B3 : Below V.heap.size V (V2.alloc (.cells #[.int .i64 (egetV (part8 l x)).sl, .bool (egetV (part8 l x)).lv, .string (str (egetV (part8 l x)).nm)] 48)) := h2.alloc h2.size _
    have vY : W.heap.size + 1 < V.heap.size := by have := Z1.out; have := HZ.out; omega
    have hcy3 := (B3.cell (p := ⟨W.heap.size, 0, none⟩) (show W.heap.size < V.heap.size by omega)).trans hcy
    have hlen : xs.length < nOf l.length := by
      have e1 := congrArg List.length HE.out.map
      rw [List.length_map] at e1
      have := List.length_filter_le (entB l) pre
      have := HLT.out
      omega
    have j3 := HJ.out T xs _ _ none HE.out.j (grown_bel B3) (fun r e => by cases e)
    have HB3 : Hid (Below V.heap.size V (V2.alloc (.cells #[.int .i64 (egetV (part8 l x)).sl, .bool (egetV (part8 l x)).lv, .string (str (egetV (part8 l x)).nm)] 48))) := B3
    have HYV : Hid (W.heap.size + 1 < V.heap.size) := vY
    clear B3 vY hcy
    by_cases hent : entB l x = true
    · obtain ⟨X, HX⟩ : ∃ X : PlaceE l, Hid (X.1 = x) := ⟨⟨x, hent⟩, rfl⟩
      obtain ⟨fn, tmps, assign, body, hy, hR⟩ := HYY.out xs X _ T 6 j3 hlen
      dsimp only [encE] at hy
      rw [HX.out, eA_lit] at hy
      have he := hent
      unfold entB at he
      rw [Bool.and_eq_true] at he
      obtain ⟨he1, he2⟩ := he
      rw [eq_of_beq he1]
      have he3 : ((egetV (part8 l x)).sl == 0) = false := by simpa [bne] using he2
      have HR : Hid (RoundIn Fence.wide _ _ _ _ _ _ _ _ _) := hR
      have HJ3 : Hid (J xs _ T) := j3
      have HEN : Hid (entB l x = true) := hent
      clear hR j3 hent he1 h2 hlen
      gi_wp2
      refine (show RoundIn (Fence.wide.inRound L2) 6 _ _ _ _ _ _ _ _ from HR.out).mono ?_
      have key : ∀ V4, Kept L T (V2.alloc (.cells #[.int .i64 (egetV (part8 l x)).sl, .bool (egetV (part8 l x)).lv, .string (str (egetV (part8 l x)).nm)] 48)) V4 → V.heap.size ≤ V4.heap.size ∧ ∀ k, k < V.heap.size → k ≠ L → ¬ T k → V4.heap[k]? = V.heap[k]? := fun V4 k4 => by
        have z3 := HB3.out.size
        exact ⟨Nat.le_trans z3 k4.size, fun k hk hne ht => (k4.same k (by omega) hne ht).trans (HB3.out.block k hk)⟩
      have keep : ∀ V4, Kept L T (V2.alloc (.cells #[.int .i64 (egetV (part8 l x)).sl, .bool (egetV (part8 l x)).lv, .string (str (egetV (part8 l x)).nm)] 48)) V4 → KeepsFrom w1.heap.size V V4 := fun V4 k4 => ⟨(key V4 k4).1, fun k o hk ho hc => by
        refine ((key V4 k4).2 k (Array.getElem?_eq_some_iff.1 ho).1 (by have := Z1.out; omega) (fun ht => ?_)).trans ho
        obtain ⟨o', ho', hc'⟩ := HJC.out xs V T HE.out.j k ht
        rw [ho] at ho'; cases ho'; rw [hc] at hc'; cases hc'⟩
      have KEY : Hid _ := key
      have KEEP : Hid _ := keep
      clear key keep hy HR
      rintro e V4 (⟨rfl, ⟨T', j4, t4⟩, k4⟩ | ⟨rfl, jx4, k4⟩)
      · have T4 : Hid _ := t4
        have J4 : Hid (J (xs ++ [X]) V4 T') := j4
        have K4 : Hid (Kept L T _ V4) := k4
        clear t4 j4 k4
        gi_wp2
        obtain ⟨c1, c2⟩ := KEY.out V4 K4.out
        have z3 := HB3.out.size
        have zz := HZ.out
        have z1 := Z1.out
        have vY := HYV.out
        have nt : ∀ k, k < V.heap.size → ¬ T k → ¬ T' k := fun k hk ht h => by
          rcases T4.out k h with h | h
          · exact ht h
          · omega
        refine ⟨KEEP.out V4 K4.out, c2 _ (by omega) (by omega) HE.out.n1, T', xs ++ [X], ⟨?_, J4.out, nt b (by omega) HE.out.nb, nt _ (by omega) HE.out.n0, nt _ (by omega) HE.out.n1, sameK_t HE.out.sb (c2 _ (by omega) hbl HE.out.nb), sameK_t HE.out.s0 (c2 _ (by omega) (by omega) HE.out.n0), sameK_t HE.out.s1 (c2 _ (by omega) (by omega) HE.out.n1)⟩, by omega⟩
        rw [List.map_append, HE.out.map, List.filter_append]
        congr 1
        simp [HX.out, HEN.out]
      · have JX4 : Hid (Jx (xs ++ [X]) V4) := jx4
        have K4 : Hid (Kept L T _ V4) := k4
        clear jx4 k4
        gi_wp2
        refine ⟨KEEP.out V4 K4.out, rfl, xs ++ [X], ?_, JX4.out⟩
        rw [List.map_append, HE.out.map, List.filter_append]
        congr 1
        simp [HX.out, HEN.out]
    · have HEN : Hid (entB l x = false) := Bool.eq_false_iff.2 hent
      have HJ3 : Hid (J xs _ T) := j3
      have fin : KeepsFrom w1.heap.size V (V2.alloc (.cells #[.int .i64 (egetV (part8 l x)).sl, .bool (egetV (part8 l x)).lv, .string (str (egetV (part8 l x)).nm)] 48)) ∧ SameAt (W.heap.size + 1) V (V2.alloc (.cells #[.int .i64 (egetV (part8 l x)).sl, .bool (egetV (part8 l x)).lv, .string (str (egetV (part8 l x)).nm)] 48)) ∧
          ∃ T xs, EV l J b W.heap.size w1 (pre ++ [x]) (V2.alloc (.cells #[.int .i64 (egetV (part8 l x)).sl, .bool (egetV (part8 l x)).lv, .string (str (egetV (part8 l x)).nm)] 48)) T xs ∧ w1.heap.size ≤ (V2.alloc (.cells #[.int .i64 (egetV (part8 l x)).sl, .bool (egetV (part8 l x)).lv, .string (str (egetV (part8 l x)).nm)] 48)).heap.size := by
        have z3 := HB3.out.size
        have zz := HZ.out
        have z1 := Z1.out
        have vY := HYV.out
        refine ⟨⟨z3, fun k o _ ho _ => (HB3.out.block k (Array.getElem?_eq_some_iff.1 ho).1).trans ho⟩, HB3.out.block _ (by omega), T, xs, ⟨?_, HJ3.out, HE.out.nb, HE.out.n0, HE.out.n1, sameK_t HE.out.sb (HB3.out.block _ (by omega)), sameK_t HE.out.s0 (HB3.out.block _ (by omega)), sameK_t HE.out.s1 (HB3.out.block _ (by omega))⟩, by omega⟩
        rw [HE.out.map, List.filter_append]
        simp [HEN.out]
      have FIN : Hid _ := fin
      clear fin j3 hent h2 hlen
      have he := HEN.out
      unfold entB at he
      cases h0e : (egetE (part8 l x) == 0)
      · clear he
        generalize egetE (part8 l x) = E0 at *
        gi_wp2
        refine ⟨fun _ h => (by cases h), ?_⟩
        gi_wp2
        exact FIN.out
      · rw [h0e, Bool.true_and] at he
        rw [eq_of_beq h0e]
        have he3 : (egetV (part8 l x)).sl = 0 := by simpa [bne] using he
        clear he h0e
        gi_wp2
        refine ⟨fun _ h => (by cases h), ?_⟩
        gi_wp2
        have F := FIN.out
        rw [he3] at F
        exact F
  case done =>
    rintro D ys V hD hys ⟨T, xs, hE, hz⟩ hK
    clear z1 hJ hJx hT
    have HE : Hid (EV l J b W.heap.size w1 ys V T xs) := hE
    have HD : Hid (w1.heap.size ≤ D) := hD
    have HZ : Hid (w1.heap.size ≤ V.heap.size) := hz
    have HYS : Hid (comes l.length ys) := hys
    clear hE hD hz hys
    gi_wp2
    refine ⟨by simp, .inl ⟨_, _, rfl, run_takeDeferred hK, ?_⟩⟩
    refine ⟨_, results_none rfl _ _ _, ⟨_, rfl⟩, .inl ⟨xs, T, ?_, OwnFrom.putObj (HJ.out T) _ HE.out.j (by have := HD.out; have := Z1.out; omega) hK rfl⟩⟩
    unfold entS
    have hys := HYS.out
    unfold comes at hys
    by_cases hl : l.length = 256
    · rw [if_pos hl] at hys ⊢
      rw [HE.out.map, hys]
    · rw [if_neg hl] at hys ⊢
      have e := HE.out.map
      rw [hys] at e
      exact List.map_eq_nil_iff.1 e
  case stop =>
    rintro D c pre V hD ⟨hl, k, hk, rfl⟩ ⟨rfl, xs, e1, e2⟩ hK
    clear z1 hJ hJx hT
    have HD : Hid (w1.heap.size ≤ D) := hD
    have HX : Hid (Jx xs V) := e2
    have HL : Hid (l.length = 256) := hl
    have H1 : Hid (xs.map (·.1) = (come k).filter (entB l)) := e1
    clear e1 e2 hD hl
    gi_wp2
    refine ⟨by simp, .inl ⟨_, _, rfl, run_takeDeferred hK, ?_⟩⟩
    exact ⟨_, results_none rfl _ _ _, ⟨_, rfl⟩, .inr ⟨xs, ⟨HL.out, k, hk, H1.out⟩, OwnFrom.putObj HJX.out _ HX.out (by have := HD.out; have := Z1.out; omega) hK rfl⟩⟩
end Go.Proofs.Ytabmogeicpphoaa
